/- The document's call guess for wires returns what a plain function guesses of bytes, and makes at most new memory; conditions: the configuration is plain, the table lies where it says, at most 255 bytes. -/
import Derived.Test.YtcnmbpgjgjncdaaWireR
import Derived.Test.YtcnmbpgjgjncdaaWireN
import Derived.Test.YtcnmbpgjgjncdaaConfG
namespace Go.Proofs.Ytcnmbpgjgjncdaa
open Go.ChangeShapes Go.WideShapes Go.ChangeAt Go.RowKit
set_option linter.unusedVariables false

/-- What a guess has made so far: the configuration's box, the result's, the packet's. -/
structure GS (w0 : World) (CC : Array Value) (C : Array Value) (w : World) : Prop where
  cf : w.heap[w0.heap.size]? = some (.cells CC 24 (0, 0))
  rz : w.heap[w0.heap.size + 1]? = some (.cells #[.string ⟨#[]⟩, .int .i64 0, .string ⟨#[]⟩, .int .i64 0, .int .i64 0, .string ⟨#[]⟩] 26 (0, 0))
  pk : w.heap[w0.heap.size + 1 + 1]? = some (.cells C 26 (0, 0))
  bt : Below w0.heap.size w0 w
theorem GS.start (w : World) (CC : Array Value) {w' : World} (hb : Below (((w.alloc (.cells CC 24)).alloc (.cells #[.string ⟨#[]⟩, .int .i64 0, .string ⟨#[]⟩, .int .i64 0, .int .i64 0, .string ⟨#[]⟩] 26)).alloc (.cells #[.string ⟨#[]⟩, .int .i64 0, .string ⟨#[]⟩, .int .i64 0, .int .i64 0, .string ⟨#[]⟩] 26)).heap.size (((w.alloc (.cells CC 24)).alloc (.cells #[.string ⟨#[]⟩, .int .i64 0, .string ⟨#[]⟩, .int .i64 0, .int .i64 0, .string ⟨#[]⟩] 26)).alloc (.cells #[.string ⟨#[]⟩, .int .i64 0, .string ⟨#[]⟩, .int .i64 0, .int .i64 0, .string ⟨#[]⟩] 26)) w') : GS w CC #[.string ⟨#[]⟩, .int .i64 0, .string ⟨#[]⟩, .int .i64 0, .int .i64 0, .string ⟨#[]⟩] w' := by
  have h1 := heap_alloc_new w (.cells CC 24)
  have h2 := heap_alloc_new (w.alloc (.cells CC 24)) (.cells #[.string ⟨#[]⟩, .int .i64 0, .string ⟨#[]⟩, .int .i64 0, .int .i64 0, .string ⟨#[]⟩] 26)
  have h3 := heap_alloc_new ((w.alloc (.cells CC 24)).alloc (.cells #[.string ⟨#[]⟩, .int .i64 0, .string ⟨#[]⟩, .int .i64 0, .int .i64 0, .string ⟨#[]⟩] 26)) (.cells #[.string ⟨#[]⟩, .int .i64 0, .string ⟨#[]⟩, .int .i64 0, .int .i64 0, .string ⟨#[]⟩] 26)
  simp only [World.size_alloc] at h2 h3
  refine ⟨?_, ?_, ?_, bthen (bthen (bthen (ballc _ _) (ballc _ _)) (ballc _ _)) hb⟩
  · exact (hb.block _ (by simp; omega)).trans (((ballc _ _).block _ (by simp; omega)).trans (((ballc _ _).block _ (by simp)).trans h1))
  · exact (hb.block _ (by simp)).trans (((ballc _ _).block _ (by simp)).trans h2)
  · exact (hb.block _ (by simp)).trans h3
theorem GS.call {w0 : World} {CC C : Array Value} {w w' : World} (h : GS w0 CC C w) (hb : Below w.heap.size w w') : GS w0 CC C w' :=
  ⟨(hb.block _ (Array.getElem?_eq_some_iff.1 h.cf).1).trans h.cf, (hb.block _ (Array.getElem?_eq_some_iff.1 h.rz).1).trans h.rz, (hb.block _ (Array.getElem?_eq_some_iff.1 h.pk).1).trans h.pk, bthen h.bt hb⟩
theorem GS.set {w0 : World} {CC C : Array Value} {w : World} (h : GS w0 CC C w) (i : Nat) (v : Value) : GS w0 CC (C.setIfInBounds i v) (w.setCell ⟨w0.heap.size + 1 + 1, i, none⟩ v) :=
  ⟨(heap_setCell_other w ⟨w0.heap.size + 1 + 1, i, none⟩ _ v (by simp; omega)).trans h.cf, (heap_setCell_other w ⟨w0.heap.size + 1 + 1, i, none⟩ _ v (by simp)).trans h.rz, heap_setCell_same w _ i C _ v h.pk, h.bt.setCell (p := ⟨w0.heap.size + 1 + 1, i, none⟩) (by simp; omega) v⟩
theorem guess_nil (l : List UInt8) (R B : Nat) (h : l.length = 0) : guessF l R B = pk0 := by unfold guessF; rw [if_pos h]
theorem guess_eq (l : List UInt8) (R B : Nat) (h : ¬ l.length = 0) (x y : Bool) (hx : guX l R = x) (hy : guY l R B = y) : guessF l R B =
    ⟨ba (unp l 1 R), if x = true then nb l (guA R) else 0, if x = true then ba (unp l (guA R + 1) B) else ⟨#[]⟩, if y = true then nb l (guB l R B) else 0, if y = true then nb l (guB l R B + 1) else 0, if y = true then ba (l.drop (guB l R B + 3)) else ⟨#[]⟩⟩ := by
  subst hx hy
  unfold guessF
  rw [if_neg h]
theorem guB_short (l : List UInt8) (R B : Nat) (h : ¬ guA R < l.length) : guB l R B = guA R := by
  have gx : guX l R = false := by
    unfold guX
    exact decide_eq_false (fun k => h k.2)
  unfold guB
  rw [gx, if_neg (by decide)]
theorem drop_ext (s : ByteArray) (a : Nat) : ba ((bl s).drop a) = s.extract a s.size := by
  apply bl_inj
  rw [bl_ba]
  simp only [bl, Lib.extract_data]
  rw [List.take_of_length_le (by simp)]
set_option maxHeartbeats 2000000 in
theorem rguess_nil (n f d p r dr o sl md fr : Int) (ad : Option Addr) (cap : Nat) (zs : List Int) (s : ByteArray) (R B : Nat) (w : World) (hl : zs.length ≤ 9223372036854775807) (hT : Tab w ad zs) (hE : plainE n f d p r dr o sl md fr zs = 0) (hR : 3 * (f + 1) = (R : Int)) (hB : 8 + n = (B : Int)) (hs : s.size ≤ 255) (hR2 : R ≤ 255) (hB2 : B ≤ 255) (h0 : s.size = 0) :
    Calls Try.prog 36 #[.agg #[.int .i64 n, .int .i64 f, .int .i64 d, .int .i64 p, .int .i64 r, .int .i64 dr, .int .i64 o, .int .i64 sl, .int .i64 md, .int .i64 fr, .slice ad zs.length cap], .string s] w fun e w' => e = .returned (.agg #[.string (guessF (bl s) R B).vo, .int .i64 (guessF (bl s) R B).ex, .string (guessF (bl s) R B).ve, .int .i64 (guessF (bl s) R B).ps, .int .i64 (guessF (bl s) R B).cy, .string (guessF (bl s) R B).te]) ∧ Below w.heap.size w w' := by
  rw [guess_nil _ _ _ (by rw [bl_length]; exact h0)]
  have h0' : ((s.size : Int) == 0) = true := by simp [h0]
  have H0 := hidden h0
  clear h0
  go_enter Try.func36, Try.ntmps36
  go_wp2
  refine bodyPost_ret (v := .agg #[.string ⟨#[]⟩, .int .i64 0, .string ⟨#[]⟩, .int .i64 0, .int .i64 0, .string ⟨#[]⟩]) (by simp [results, Try.results36, go_sem]) rfl ⟨rfl, ?_⟩
  exact bthen (bthen (ballc _ _) (ballc _ _)) (ballc _ _)
set_option maxHeartbeats 4000000 in
theorem rguess_TT (n f d p r dr o sl md fr : Int) (ad : Option Addr) (cap : Nat) (zs : List Int) (s : ByteArray) (R B : Nat) (w : World) (hl : zs.length ≤ 9223372036854775807) (hT : Tab w ad zs) (hE : plainE n f d p r dr o sl md fr zs = 0) (hR : 3 * (f + 1) = (R : Int)) (hB : 8 + n = (B : Int)) (hs : s.size ≤ 255) (hR2 : R ≤ 255) (hB2 : B ≤ 255) (h0 : ¬ s.size = 0) (h1 : nb (bl s) 0 % 2 = 1) (h2 : guA R < s.size) (h3 : nb (bl s) 0 / 2 % 2 = 1) (h4 : guB (bl s) R B + 2 < s.size) :
    Calls Try.prog 36 #[.agg #[.int .i64 n, .int .i64 f, .int .i64 d, .int .i64 p, .int .i64 r, .int .i64 dr, .int .i64 o, .int .i64 sl, .int .i64 md, .int .i64 fr, .slice ad zs.length cap], .string s] w fun e w' => e = .returned (.agg #[.string (guessF (bl s) R B).vo, .int .i64 (guessF (bl s) R B).ex, .string (guessF (bl s) R B).ve, .int .i64 (guessF (bl s) R B).ps, .int .i64 (guessF (bl s) R B).cy, .string (guessF (bl s) R B).te]) ∧ Below w.heap.size w w' := by
  have gx : guX (bl s) R = true := by
    unfold guX
    rw [bl_length]
    exact decide_eq_true ⟨h1, h2⟩
  have gy : guY (bl s) R B = true := by
    unfold guY
    rw [bl_length]
    exact decide_eq_true ⟨h3, h4⟩
  have gB : guB (bl s) R B = guA R + 1 + (B + 3) / 4 := by unfold guB; rw [gx]; rw [if_pos rfl]
  have hG : guessF (bl s) R B = ⟨ba (unp (bl s) 1 R), nb (bl s) (guA R), ba (unp (bl s) (guA R + 1) B), nb (bl s) (guB (bl s) R B), nb (bl s) (guB (bl s) R B + 1), ba ((bl s).drop (guB (bl s) R B + 3))⟩ := guess_eq _ _ _ (by rw [bl_length]; exact h0) true true gx gy
  rw [hG]
  dsimp only
  rw [gB] at h4
  rw [gB, drop_ext]
  clear gx gy gB hG
  have hAe : guA R = 1 + (R + 3) / 4 := rfl
  generalize guA R = A at *
  have A1 : (1 : Int) + ((R : Int) + 3) / 4 = (A : Int) := by omega
  have A0 : A ≤ 200 := by omega
  have HAe := hidden hAe
  clear hAe
  generalize hGG : A + 1 + (B + 3) / 4 = G at *
  have A2 : (A : Int) + 1 + ((B : Int) + 3) / 4 = (G : Int) := by omega
  have A3 : G ≤ 400 := by omega
  clear hGG
  have hnl := nb_lt (bl s)
  have C1 := fun V h => refRounds_any n f d p r dr o sl md fr ad cap zs V hl h
  have C2 := fun V h => refBits_any n f d p r dr o sl md fr ad cap zs V hl h
  rw [hE, gate_ok, hR] at C1
  rw [hE, gate_ok, hB] at C2
  have C3 := fun V => runpack_any s 1 R V (by omega) (by omega) (by omega)
  have C4 := fun V => runpack_any s (A + 1) B V (by omega) (by omega) (by omega)
  have e0 := nb_at s 0 (Nat.pos_of_ne_zero h0)
  have hz0 : ((s.size : Int) == 0) = false := by simp [h0]
  have hp0 : (0 : Int) < (s.size : Int) := by omega
  have t1 : ((nb (bl s) 0 : Int) % 2 == 1) = true := by simp; omega
  have t3 : ((nb (bl s) 0 : Int) / 2 % 2 == 1) = true := by simp; omega
  have t2 : (A : Int) < (s.size : Int) := by omega
  have t2' : decide ((A : Int) < (s.size : Int)) = true := by simp; omega
  have e2 := nb_at s (A) (by omega)
  have t4 : (G : Int) + 2 < (s.size : Int) := by omega
  have t4' : decide ((G : Int) + 2 < (s.size : Int)) = true := by simp; omega
  have e3 := nb_at s G (by omega)
  have e4 := nb_at s (G + 1) (by omega)
  have j5 : (0 : Int) ≤ (G : Int) + 3 := by omega
  have j6 : (G : Int) + 3 ≤ (s.size : Int) := by omega
  have N3 := hnl G
  have N4 := hnl (G + 1)
  have N2 := hnl A
  generalize nb (bl s) A = X at *
  generalize ba (unp (bl s) (A + 1) B) = P at *
  have N0 := hnl 0
  generalize nb (bl s) 0 = T at *
  generalize ba (unp (bl s) 1 R) = V at *
  generalize nb (bl s) G = S at *
  generalize nb (bl s) (G + 1) = Y at *
  have HT := hidden (hT.below (bthen (bthen (ballc w (.cells #[.int .i64 n, .int .i64 f, .int .i64 d, .int .i64 p, .int .i64 r, .int .i64 dr, .int .i64 o, .int .i64 sl, .int .i64 md, .int .i64 fr, .slice ad zs.length cap] 24)) (ballc _ (.cells #[.string ⟨#[]⟩, .int .i64 0, .string ⟨#[]⟩, .int .i64 0, .int .i64 0, .string ⟨#[]⟩] 26))) (ballc _ (.cells #[.string ⟨#[]⟩, .int .i64 0, .string ⟨#[]⟩, .int .i64 0, .int .i64 0, .string ⟨#[]⟩] 26))))
  have HT0 := hidden hT
  clear hT hE hR hB hnl
  try clear h1
  try clear h3
  go_enter Try.func36, Try.ntmps36
  go_wp2_with fail
  refine (C1 _ HT.out).mono ?_
  rintro e w1 ⟨rfl, hb⟩
  have HT1 := hidden (HT.out.below hb)
  have hS := GS.start w _ hb
  clear hb HT
  go_wp2_with fail
  refine (C3 _).mono ?_
  rintro e w2 ⟨rfl, hb⟩
  have hS := hS.call hb
  clear hb
  have kc := blk_cell hS.cf
  have kp := blk_cell hS.pk
  have kf := blk_frozen hS.pk
  have kz := blk_cell hS.rz
  have ke := blk_frozen hS.rz
  have HS := hidden (hS.set 0 (.string V))
  have HT3 := hidden (HT0.out.below HS.out.bt)
  clear hS
  go_wp2_with fail
  refine (C1 _ HT3.out).mono ?_
  rintro e w3 ⟨rfl, hb⟩
  have hS := HS.out.call hb
  clear hb HS HT3 kc kp kf kz ke
  simp only [List.setIfInBounds_toArray, List.set_cons_zero] at hS
  have kc := blk_cell hS.cf
  have kp := blk_cell hS.pk
  have kf := blk_frozen hS.pk
  have kz := blk_cell hS.rz
  have ke := blk_frozen hS.rz
  have HS := hidden (hS.set 1 (.int .i64 (X : Int)))
  have HT3 := hidden (HT0.out.below HS.out.bt)
  clear hS
  go_wp2_with fail
  refine (C2 _ HT3.out).mono ?_
  rintro e w4 ⟨rfl, hb⟩
  have hS := HS.out.call hb
  clear hb HS HT3 kc kp kf kz ke
  simp only [List.setIfInBounds_toArray, List.set_cons_zero, List.set_cons_succ] at hS
  have kc := blk_cell hS.cf
  have kp := blk_cell hS.pk
  have kf := blk_frozen hS.pk
  have kz := blk_cell hS.rz
  have ke := blk_frozen hS.rz
  have HS := hidden hS
  clear hS
  go_wp2_with fail
  refine (C4 _).mono ?_
  rintro e w5 ⟨rfl, hb⟩
  have hS := HS.out.call hb
  clear hb HS kc kp kf kz ke
  have kc := blk_cell hS.cf
  have kp := blk_cell hS.pk
  have kf := blk_frozen hS.pk
  have kz := blk_cell hS.rz
  have ke := blk_frozen hS.rz
  have HS := hidden (hS.set 2 (.string P))
  have HT3 := hidden (HT0.out.below HS.out.bt)
  clear hS
  go_wp2_with fail
  refine (C2 _ HT3.out).mono ?_
  rintro e w6 ⟨rfl, hb⟩
  have hS := HS.out.call hb
  clear hb HS HT3 kc kp kf kz ke
  simp only [List.setIfInBounds_toArray, List.set_cons_zero, List.set_cons_succ] at hS
  have kc := blk_cell hS.cf
  have kp := blk_cell hS.pk
  have kf := blk_frozen hS.pk
  have kz := blk_cell hS.rz
  have ke := blk_frozen hS.rz
  have HS := hidden (((hS.set 3 (.int .i64 (S : Int))).set 4 (.int .i64 (Y : Int))).set 5 (.string (s.extract (G + 3) s.size)))
  clear hS
  go_wp2
  obtain ⟨r0, r1, r2, r3, r4, r5⟩ := read6T HS.out.rz (.string V) (.int .i64 (X : Int)) (.string P) (.int .i64 (S : Int)) (.int .i64 (Y : Int)) (.string (s.extract (G + 3) s.size))
  refine bodyPost_ret (v := .agg #[.string V, .int .i64 (X : Int), .string P, .int .i64 (S : Int), .int .i64 (Y : Int), .string (s.extract (G + 3) s.size)]) (by simp [results, Try.results36, go_sem, r0, r1, r2, r3, r4, r5]) rfl ⟨rfl, ?_⟩
  exact below6T HS.out.bt (by omega) _ _ _ _ _ _
set_option maxHeartbeats 4000000 in
theorem rguess_TF (n f d p r dr o sl md fr : Int) (ad : Option Addr) (cap : Nat) (zs : List Int) (s : ByteArray) (R B : Nat) (w : World) (hl : zs.length ≤ 9223372036854775807) (hT : Tab w ad zs) (hE : plainE n f d p r dr o sl md fr zs = 0) (hR : 3 * (f + 1) = (R : Int)) (hB : 8 + n = (B : Int)) (hs : s.size ≤ 255) (hR2 : R ≤ 255) (hB2 : B ≤ 255) (h0 : ¬ s.size = 0) (h1 : nb (bl s) 0 % 2 = 1) (h2 : guA R < s.size) (h3 : ¬ nb (bl s) 0 / 2 % 2 = 1) :
    Calls Try.prog 36 #[.agg #[.int .i64 n, .int .i64 f, .int .i64 d, .int .i64 p, .int .i64 r, .int .i64 dr, .int .i64 o, .int .i64 sl, .int .i64 md, .int .i64 fr, .slice ad zs.length cap], .string s] w fun e w' => e = .returned (.agg #[.string (guessF (bl s) R B).vo, .int .i64 (guessF (bl s) R B).ex, .string (guessF (bl s) R B).ve, .int .i64 (guessF (bl s) R B).ps, .int .i64 (guessF (bl s) R B).cy, .string (guessF (bl s) R B).te]) ∧ Below w.heap.size w w' := by
  have gx : guX (bl s) R = true := by
    unfold guX
    rw [bl_length]
    exact decide_eq_true ⟨h1, h2⟩
  have gy : guY (bl s) R B = false := by
    unfold guY
    rw [bl_length]
    exact decide_eq_false (fun k => h3 k.1)
  have gB : guB (bl s) R B = guA R + 1 + (B + 3) / 4 := by unfold guB; rw [gx]; rw [if_pos rfl]
  have hG : guessF (bl s) R B = ⟨ba (unp (bl s) 1 R), nb (bl s) (guA R), ba (unp (bl s) (guA R + 1) B), 0, 0, ⟨#[]⟩⟩ := guess_eq _ _ _ (by rw [bl_length]; exact h0) true false gx gy
  rw [hG]
  dsimp only
  clear gx gy gB hG
  have hAe : guA R = 1 + (R + 3) / 4 := rfl
  generalize guA R = A at *
  have A1 : (1 : Int) + ((R : Int) + 3) / 4 = (A : Int) := by omega
  have A0 : A ≤ 200 := by omega
  have HAe := hidden hAe
  clear hAe
  generalize hGG : A + 1 + (B + 3) / 4 = G at *
  have A2 : (A : Int) + 1 + ((B : Int) + 3) / 4 = (G : Int) := by omega
  have A3 : G ≤ 400 := by omega
  clear hGG
  have hnl := nb_lt (bl s)
  have C1 := fun V h => refRounds_any n f d p r dr o sl md fr ad cap zs V hl h
  have C2 := fun V h => refBits_any n f d p r dr o sl md fr ad cap zs V hl h
  rw [hE, gate_ok, hR] at C1
  rw [hE, gate_ok, hB] at C2
  have C3 := fun V => runpack_any s 1 R V (by omega) (by omega) (by omega)
  have C4 := fun V => runpack_any s (A + 1) B V (by omega) (by omega) (by omega)
  have e0 := nb_at s 0 (Nat.pos_of_ne_zero h0)
  have hz0 : ((s.size : Int) == 0) = false := by simp [h0]
  have hp0 : (0 : Int) < (s.size : Int) := by omega
  have t1 : ((nb (bl s) 0 : Int) % 2 == 1) = true := by simp; omega
  have t3 : ((nb (bl s) 0 : Int) / 2 % 2 == 1) = false := by simp; omega
  have t2 : (A : Int) < (s.size : Int) := by omega
  have t2' : decide ((A : Int) < (s.size : Int)) = true := by simp; omega
  have e2 := nb_at s (A) (by omega)
  have N2 := hnl A
  generalize nb (bl s) A = X at *
  generalize ba (unp (bl s) (A + 1) B) = P at *
  have N0 := hnl 0
  generalize nb (bl s) 0 = T at *
  generalize ba (unp (bl s) 1 R) = V at *
  have HT := hidden (hT.below (bthen (bthen (ballc w (.cells #[.int .i64 n, .int .i64 f, .int .i64 d, .int .i64 p, .int .i64 r, .int .i64 dr, .int .i64 o, .int .i64 sl, .int .i64 md, .int .i64 fr, .slice ad zs.length cap] 24)) (ballc _ (.cells #[.string ⟨#[]⟩, .int .i64 0, .string ⟨#[]⟩, .int .i64 0, .int .i64 0, .string ⟨#[]⟩] 26))) (ballc _ (.cells #[.string ⟨#[]⟩, .int .i64 0, .string ⟨#[]⟩, .int .i64 0, .int .i64 0, .string ⟨#[]⟩] 26))))
  have HT0 := hidden hT
  clear hT hE hR hB hnl
  try clear h1
  try clear h3
  go_enter Try.func36, Try.ntmps36
  go_wp2_with fail
  refine (C1 _ HT.out).mono ?_
  rintro e w1 ⟨rfl, hb⟩
  have HT1 := hidden (HT.out.below hb)
  have hS := GS.start w _ hb
  clear hb HT
  go_wp2_with fail
  refine (C3 _).mono ?_
  rintro e w2 ⟨rfl, hb⟩
  have hS := hS.call hb
  clear hb
  have kc := blk_cell hS.cf
  have kp := blk_cell hS.pk
  have kf := blk_frozen hS.pk
  have kz := blk_cell hS.rz
  have ke := blk_frozen hS.rz
  have HS := hidden (hS.set 0 (.string V))
  have HT3 := hidden (HT0.out.below HS.out.bt)
  clear hS
  go_wp2_with fail
  refine (C1 _ HT3.out).mono ?_
  rintro e w3 ⟨rfl, hb⟩
  have hS := HS.out.call hb
  clear hb HS HT3 kc kp kf kz ke
  simp only [List.setIfInBounds_toArray, List.set_cons_zero] at hS
  have kc := blk_cell hS.cf
  have kp := blk_cell hS.pk
  have kf := blk_frozen hS.pk
  have kz := blk_cell hS.rz
  have ke := blk_frozen hS.rz
  have HS := hidden (hS.set 1 (.int .i64 (X : Int)))
  have HT3 := hidden (HT0.out.below HS.out.bt)
  clear hS
  go_wp2_with fail
  refine (C2 _ HT3.out).mono ?_
  rintro e w4 ⟨rfl, hb⟩
  have hS := HS.out.call hb
  clear hb HS HT3 kc kp kf kz ke
  simp only [List.setIfInBounds_toArray, List.set_cons_zero, List.set_cons_succ] at hS
  have kc := blk_cell hS.cf
  have kp := blk_cell hS.pk
  have kf := blk_frozen hS.pk
  have kz := blk_cell hS.rz
  have ke := blk_frozen hS.rz
  have HS := hidden hS
  clear hS
  go_wp2_with fail
  refine (C4 _).mono ?_
  rintro e w5 ⟨rfl, hb⟩
  have hS := HS.out.call hb
  clear hb HS kc kp kf kz ke
  have kc := blk_cell hS.cf
  have kp := blk_cell hS.pk
  have kf := blk_frozen hS.pk
  have kz := blk_cell hS.rz
  have ke := blk_frozen hS.rz
  have HS := hidden (hS.set 2 (.string P))
  have HT3 := hidden (HT0.out.below HS.out.bt)
  clear hS
  go_wp2_with fail
  refine (C2 _ HT3.out).mono ?_
  rintro e w6 ⟨rfl, hb⟩
  have hS := HS.out.call hb
  clear hb HS HT3 kc kp kf kz ke
  simp only [List.setIfInBounds_toArray, List.set_cons_zero, List.set_cons_succ] at hS
  have kc := blk_cell hS.cf
  have kp := blk_cell hS.pk
  have kf := blk_frozen hS.pk
  have kz := blk_cell hS.rz
  have ke := blk_frozen hS.rz
  have HS := hidden hS
  clear hS
  go_wp2
  obtain ⟨r0, r1, r2, r3, r4, r5⟩ := read6T HS.out.rz (.string V) (.int .i64 (X : Int)) (.string P) (.int .i64 0) (.int .i64 0) (.string ⟨#[]⟩)
  refine bodyPost_ret (v := .agg #[.string V, .int .i64 (X : Int), .string P, .int .i64 0, .int .i64 0, .string ⟨#[]⟩]) (by simp [results, Try.results36, go_sem, r0, r1, r2, r3, r4, r5]) rfl ⟨rfl, ?_⟩
  exact below6T HS.out.bt (by omega) _ _ _ _ _ _
set_option maxHeartbeats 4000000 in
theorem rguess_TG (n f d p r dr o sl md fr : Int) (ad : Option Addr) (cap : Nat) (zs : List Int) (s : ByteArray) (R B : Nat) (w : World) (hl : zs.length ≤ 9223372036854775807) (hT : Tab w ad zs) (hE : plainE n f d p r dr o sl md fr zs = 0) (hR : 3 * (f + 1) = (R : Int)) (hB : 8 + n = (B : Int)) (hs : s.size ≤ 255) (hR2 : R ≤ 255) (hB2 : B ≤ 255) (h0 : ¬ s.size = 0) (h1 : nb (bl s) 0 % 2 = 1) (h2 : guA R < s.size) (h3 : nb (bl s) 0 / 2 % 2 = 1) (h4 : ¬ guB (bl s) R B + 2 < s.size) :
    Calls Try.prog 36 #[.agg #[.int .i64 n, .int .i64 f, .int .i64 d, .int .i64 p, .int .i64 r, .int .i64 dr, .int .i64 o, .int .i64 sl, .int .i64 md, .int .i64 fr, .slice ad zs.length cap], .string s] w fun e w' => e = .returned (.agg #[.string (guessF (bl s) R B).vo, .int .i64 (guessF (bl s) R B).ex, .string (guessF (bl s) R B).ve, .int .i64 (guessF (bl s) R B).ps, .int .i64 (guessF (bl s) R B).cy, .string (guessF (bl s) R B).te]) ∧ Below w.heap.size w w' := by
  have gx : guX (bl s) R = true := by
    unfold guX
    rw [bl_length]
    exact decide_eq_true ⟨h1, h2⟩
  have gy : guY (bl s) R B = false := by
    unfold guY
    rw [bl_length]
    exact decide_eq_false (fun k => h4 k.2)
  have gB : guB (bl s) R B = guA R + 1 + (B + 3) / 4 := by unfold guB; rw [gx]; rw [if_pos rfl]
  have hG : guessF (bl s) R B = ⟨ba (unp (bl s) 1 R), nb (bl s) (guA R), ba (unp (bl s) (guA R + 1) B), 0, 0, ⟨#[]⟩⟩ := guess_eq _ _ _ (by rw [bl_length]; exact h0) true false gx gy
  rw [hG]
  dsimp only
  rw [gB] at h4
  clear gx gy gB hG
  have hAe : guA R = 1 + (R + 3) / 4 := rfl
  generalize guA R = A at *
  have A1 : (1 : Int) + ((R : Int) + 3) / 4 = (A : Int) := by omega
  have A0 : A ≤ 200 := by omega
  have HAe := hidden hAe
  clear hAe
  generalize hGG : A + 1 + (B + 3) / 4 = G at *
  have A2 : (A : Int) + 1 + ((B : Int) + 3) / 4 = (G : Int) := by omega
  have A3 : G ≤ 400 := by omega
  clear hGG
  have hnl := nb_lt (bl s)
  have C1 := fun V h => refRounds_any n f d p r dr o sl md fr ad cap zs V hl h
  have C2 := fun V h => refBits_any n f d p r dr o sl md fr ad cap zs V hl h
  rw [hE, gate_ok, hR] at C1
  rw [hE, gate_ok, hB] at C2
  have C3 := fun V => runpack_any s 1 R V (by omega) (by omega) (by omega)
  have C4 := fun V => runpack_any s (A + 1) B V (by omega) (by omega) (by omega)
  have e0 := nb_at s 0 (Nat.pos_of_ne_zero h0)
  have hz0 : ((s.size : Int) == 0) = false := by simp [h0]
  have hp0 : (0 : Int) < (s.size : Int) := by omega
  have t1 : ((nb (bl s) 0 : Int) % 2 == 1) = true := by simp; omega
  have t3 : ((nb (bl s) 0 : Int) / 2 % 2 == 1) = true := by simp; omega
  have t2 : (A : Int) < (s.size : Int) := by omega
  have t2' : decide ((A : Int) < (s.size : Int)) = true := by simp; omega
  have e2 := nb_at s (A) (by omega)
  have t4 : ¬ (G : Int) + 2 < (s.size : Int) := by omega
  have t4' : decide ((G : Int) + 2 < (s.size : Int)) = false := by simp; omega
  have N2 := hnl A
  generalize nb (bl s) A = X at *
  generalize ba (unp (bl s) (A + 1) B) = P at *
  have N0 := hnl 0
  generalize nb (bl s) 0 = T at *
  generalize ba (unp (bl s) 1 R) = V at *
  have HT := hidden (hT.below (bthen (bthen (ballc w (.cells #[.int .i64 n, .int .i64 f, .int .i64 d, .int .i64 p, .int .i64 r, .int .i64 dr, .int .i64 o, .int .i64 sl, .int .i64 md, .int .i64 fr, .slice ad zs.length cap] 24)) (ballc _ (.cells #[.string ⟨#[]⟩, .int .i64 0, .string ⟨#[]⟩, .int .i64 0, .int .i64 0, .string ⟨#[]⟩] 26))) (ballc _ (.cells #[.string ⟨#[]⟩, .int .i64 0, .string ⟨#[]⟩, .int .i64 0, .int .i64 0, .string ⟨#[]⟩] 26))))
  have HT0 := hidden hT
  clear hT hE hR hB hnl
  try clear h1
  try clear h3
  go_enter Try.func36, Try.ntmps36
  go_wp2_with fail
  refine (C1 _ HT.out).mono ?_
  rintro e w1 ⟨rfl, hb⟩
  have HT1 := hidden (HT.out.below hb)
  have hS := GS.start w _ hb
  clear hb HT
  go_wp2_with fail
  refine (C3 _).mono ?_
  rintro e w2 ⟨rfl, hb⟩
  have hS := hS.call hb
  clear hb
  have kc := blk_cell hS.cf
  have kp := blk_cell hS.pk
  have kf := blk_frozen hS.pk
  have kz := blk_cell hS.rz
  have ke := blk_frozen hS.rz
  have HS := hidden (hS.set 0 (.string V))
  have HT3 := hidden (HT0.out.below HS.out.bt)
  clear hS
  go_wp2_with fail
  refine (C1 _ HT3.out).mono ?_
  rintro e w3 ⟨rfl, hb⟩
  have hS := HS.out.call hb
  clear hb HS HT3 kc kp kf kz ke
  simp only [List.setIfInBounds_toArray, List.set_cons_zero] at hS
  have kc := blk_cell hS.cf
  have kp := blk_cell hS.pk
  have kf := blk_frozen hS.pk
  have kz := blk_cell hS.rz
  have ke := blk_frozen hS.rz
  have HS := hidden (hS.set 1 (.int .i64 (X : Int)))
  have HT3 := hidden (HT0.out.below HS.out.bt)
  clear hS
  go_wp2_with fail
  refine (C2 _ HT3.out).mono ?_
  rintro e w4 ⟨rfl, hb⟩
  have hS := HS.out.call hb
  clear hb HS HT3 kc kp kf kz ke
  simp only [List.setIfInBounds_toArray, List.set_cons_zero, List.set_cons_succ] at hS
  have kc := blk_cell hS.cf
  have kp := blk_cell hS.pk
  have kf := blk_frozen hS.pk
  have kz := blk_cell hS.rz
  have ke := blk_frozen hS.rz
  have HS := hidden hS
  clear hS
  go_wp2_with fail
  refine (C4 _).mono ?_
  rintro e w5 ⟨rfl, hb⟩
  have hS := HS.out.call hb
  clear hb HS kc kp kf kz ke
  have kc := blk_cell hS.cf
  have kp := blk_cell hS.pk
  have kf := blk_frozen hS.pk
  have kz := blk_cell hS.rz
  have ke := blk_frozen hS.rz
  have HS := hidden (hS.set 2 (.string P))
  have HT3 := hidden (HT0.out.below HS.out.bt)
  clear hS
  go_wp2_with fail
  refine (C2 _ HT3.out).mono ?_
  rintro e w6 ⟨rfl, hb⟩
  have hS := HS.out.call hb
  clear hb HS HT3 kc kp kf kz ke
  simp only [List.setIfInBounds_toArray, List.set_cons_zero, List.set_cons_succ] at hS
  have kc := blk_cell hS.cf
  have kp := blk_cell hS.pk
  have kf := blk_frozen hS.pk
  have kz := blk_cell hS.rz
  have ke := blk_frozen hS.rz
  have HS := hidden hS
  clear hS
  go_wp2
  obtain ⟨r0, r1, r2, r3, r4, r5⟩ := read6T HS.out.rz (.string V) (.int .i64 (X : Int)) (.string P) (.int .i64 0) (.int .i64 0) (.string ⟨#[]⟩)
  refine bodyPost_ret (v := .agg #[.string V, .int .i64 (X : Int), .string P, .int .i64 0, .int .i64 0, .string ⟨#[]⟩]) (by simp [results, Try.results36, go_sem, r0, r1, r2, r3, r4, r5]) rfl ⟨rfl, ?_⟩
  exact below6T HS.out.bt (by omega) _ _ _ _ _ _
set_option maxHeartbeats 4000000 in
theorem rguess_FT (n f d p r dr o sl md fr : Int) (ad : Option Addr) (cap : Nat) (zs : List Int) (s : ByteArray) (R B : Nat) (w : World) (hl : zs.length ≤ 9223372036854775807) (hT : Tab w ad zs) (hE : plainE n f d p r dr o sl md fr zs = 0) (hR : 3 * (f + 1) = (R : Int)) (hB : 8 + n = (B : Int)) (hs : s.size ≤ 255) (hR2 : R ≤ 255) (hB2 : B ≤ 255) (h0 : ¬ s.size = 0) (h1 : ¬ nb (bl s) 0 % 2 = 1) (h3 : nb (bl s) 0 / 2 % 2 = 1) (h4 : guB (bl s) R B + 2 < s.size) :
    Calls Try.prog 36 #[.agg #[.int .i64 n, .int .i64 f, .int .i64 d, .int .i64 p, .int .i64 r, .int .i64 dr, .int .i64 o, .int .i64 sl, .int .i64 md, .int .i64 fr, .slice ad zs.length cap], .string s] w fun e w' => e = .returned (.agg #[.string (guessF (bl s) R B).vo, .int .i64 (guessF (bl s) R B).ex, .string (guessF (bl s) R B).ve, .int .i64 (guessF (bl s) R B).ps, .int .i64 (guessF (bl s) R B).cy, .string (guessF (bl s) R B).te]) ∧ Below w.heap.size w w' := by
  have gx : guX (bl s) R = false := by
    unfold guX
    rw [bl_length]
    exact decide_eq_false (fun k => h1 k.1)
  have gy : guY (bl s) R B = true := by
    unfold guY
    rw [bl_length]
    exact decide_eq_true ⟨h3, h4⟩
  have gB : guB (bl s) R B = guA R := by unfold guB; rw [gx]; rw [if_neg (by decide)]
  have hG : guessF (bl s) R B = ⟨ba (unp (bl s) 1 R), 0, ⟨#[]⟩, nb (bl s) (guB (bl s) R B), nb (bl s) (guB (bl s) R B + 1), ba ((bl s).drop (guB (bl s) R B + 3))⟩ := guess_eq _ _ _ (by rw [bl_length]; exact h0) false true gx gy
  rw [hG]
  dsimp only
  rw [gB] at h4
  rw [gB, drop_ext]
  clear gx gy gB hG
  have hAe : guA R = 1 + (R + 3) / 4 := rfl
  generalize guA R = A at *
  have A1 : (1 : Int) + ((R : Int) + 3) / 4 = (A : Int) := by omega
  have A0 : A ≤ 200 := by omega
  have HAe := hidden hAe
  clear hAe
  have hnl := nb_lt (bl s)
  have C1 := fun V h => refRounds_any n f d p r dr o sl md fr ad cap zs V hl h
  have C2 := fun V h => refBits_any n f d p r dr o sl md fr ad cap zs V hl h
  rw [hE, gate_ok, hR] at C1
  rw [hE, gate_ok, hB] at C2
  have C3 := fun V => runpack_any s 1 R V (by omega) (by omega) (by omega)
  have e0 := nb_at s 0 (Nat.pos_of_ne_zero h0)
  have hz0 : ((s.size : Int) == 0) = false := by simp [h0]
  have hp0 : (0 : Int) < (s.size : Int) := by omega
  have t1 : ((nb (bl s) 0 : Int) % 2 == 1) = false := by simp; omega
  have t3 : ((nb (bl s) 0 : Int) / 2 % 2 == 1) = true := by simp; omega
  have t4 : (A : Int) + 2 < (s.size : Int) := by omega
  have t4' : decide ((A : Int) + 2 < (s.size : Int)) = true := by simp; omega
  have e3 := nb_at s A (by omega)
  have e4 := nb_at s (A + 1) (by omega)
  have j5 : (0 : Int) ≤ (A : Int) + 3 := by omega
  have j6 : (A : Int) + 3 ≤ (s.size : Int) := by omega
  have N3 := hnl A
  have N4 := hnl (A + 1)
  have N0 := hnl 0
  generalize nb (bl s) 0 = T at *
  generalize ba (unp (bl s) 1 R) = V at *
  generalize nb (bl s) A = S at *
  generalize nb (bl s) (A + 1) = Y at *
  have HT := hidden (hT.below (bthen (bthen (ballc w (.cells #[.int .i64 n, .int .i64 f, .int .i64 d, .int .i64 p, .int .i64 r, .int .i64 dr, .int .i64 o, .int .i64 sl, .int .i64 md, .int .i64 fr, .slice ad zs.length cap] 24)) (ballc _ (.cells #[.string ⟨#[]⟩, .int .i64 0, .string ⟨#[]⟩, .int .i64 0, .int .i64 0, .string ⟨#[]⟩] 26))) (ballc _ (.cells #[.string ⟨#[]⟩, .int .i64 0, .string ⟨#[]⟩, .int .i64 0, .int .i64 0, .string ⟨#[]⟩] 26))))
  have HT0 := hidden hT
  clear hT hE hR hB hnl
  try clear h1
  try clear h3
  go_enter Try.func36, Try.ntmps36
  go_wp2_with fail
  refine (C1 _ HT.out).mono ?_
  rintro e w1 ⟨rfl, hb⟩
  have HT1 := hidden (HT.out.below hb)
  have hS := GS.start w _ hb
  clear hb HT
  go_wp2_with fail
  refine (C3 _).mono ?_
  rintro e w2 ⟨rfl, hb⟩
  have hS := hS.call hb
  clear hb
  have kc := blk_cell hS.cf
  have kp := blk_cell hS.pk
  have kf := blk_frozen hS.pk
  have kz := blk_cell hS.rz
  have ke := blk_frozen hS.rz
  have HS := hidden (hS.set 0 (.string V))
  have HT3 := hidden (HT0.out.below HS.out.bt)
  clear hS
  go_wp2_with fail
  refine (C1 _ HT3.out).mono ?_
  rintro e w3 ⟨rfl, hb⟩
  have hS := HS.out.call hb
  clear hb HS HT3 kc kp kf kz ke
  simp only [List.setIfInBounds_toArray, List.set_cons_zero] at hS
  have kc := blk_cell hS.cf
  have kp := blk_cell hS.pk
  have kf := blk_frozen hS.pk
  have kz := blk_cell hS.rz
  have ke := blk_frozen hS.rz
  have HS := hidden (((hS.set 3 (.int .i64 (S : Int))).set 4 (.int .i64 (Y : Int))).set 5 (.string (s.extract (A + 3) s.size)))
  clear hS
  go_wp2
  obtain ⟨r0, r1, r2, r3, r4, r5⟩ := read6T HS.out.rz (.string V) (.int .i64 0) (.string ⟨#[]⟩) (.int .i64 (S : Int)) (.int .i64 (Y : Int)) (.string (s.extract (A + 3) s.size))
  refine bodyPost_ret (v := .agg #[.string V, .int .i64 0, .string ⟨#[]⟩, .int .i64 (S : Int), .int .i64 (Y : Int), .string (s.extract (A + 3) s.size)]) (by simp [results, Try.results36, go_sem, r0, r1, r2, r3, r4, r5]) rfl ⟨rfl, ?_⟩
  exact below6T HS.out.bt (by omega) _ _ _ _ _ _
set_option maxHeartbeats 4000000 in
theorem rguess_FF (n f d p r dr o sl md fr : Int) (ad : Option Addr) (cap : Nat) (zs : List Int) (s : ByteArray) (R B : Nat) (w : World) (hl : zs.length ≤ 9223372036854775807) (hT : Tab w ad zs) (hE : plainE n f d p r dr o sl md fr zs = 0) (hR : 3 * (f + 1) = (R : Int)) (hB : 8 + n = (B : Int)) (hs : s.size ≤ 255) (hR2 : R ≤ 255) (hB2 : B ≤ 255) (h0 : ¬ s.size = 0) (h1 : ¬ nb (bl s) 0 % 2 = 1) (h3 : ¬ nb (bl s) 0 / 2 % 2 = 1) :
    Calls Try.prog 36 #[.agg #[.int .i64 n, .int .i64 f, .int .i64 d, .int .i64 p, .int .i64 r, .int .i64 dr, .int .i64 o, .int .i64 sl, .int .i64 md, .int .i64 fr, .slice ad zs.length cap], .string s] w fun e w' => e = .returned (.agg #[.string (guessF (bl s) R B).vo, .int .i64 (guessF (bl s) R B).ex, .string (guessF (bl s) R B).ve, .int .i64 (guessF (bl s) R B).ps, .int .i64 (guessF (bl s) R B).cy, .string (guessF (bl s) R B).te]) ∧ Below w.heap.size w w' := by
  have gx : guX (bl s) R = false := by
    unfold guX
    rw [bl_length]
    exact decide_eq_false (fun k => h1 k.1)
  have gy : guY (bl s) R B = false := by
    unfold guY
    rw [bl_length]
    exact decide_eq_false (fun k => h3 k.1)
  have gB : guB (bl s) R B = guA R := by unfold guB; rw [gx]; rw [if_neg (by decide)]
  have hG : guessF (bl s) R B = ⟨ba (unp (bl s) 1 R), 0, ⟨#[]⟩, 0, 0, ⟨#[]⟩⟩ := guess_eq _ _ _ (by rw [bl_length]; exact h0) false false gx gy
  rw [hG]
  dsimp only
  clear gx gy gB hG
  have hAe : guA R = 1 + (R + 3) / 4 := rfl
  generalize guA R = A at *
  have A1 : (1 : Int) + ((R : Int) + 3) / 4 = (A : Int) := by omega
  have A0 : A ≤ 200 := by omega
  have HAe := hidden hAe
  clear hAe
  have hnl := nb_lt (bl s)
  have C1 := fun V h => refRounds_any n f d p r dr o sl md fr ad cap zs V hl h
  have C2 := fun V h => refBits_any n f d p r dr o sl md fr ad cap zs V hl h
  rw [hE, gate_ok, hR] at C1
  rw [hE, gate_ok, hB] at C2
  have C3 := fun V => runpack_any s 1 R V (by omega) (by omega) (by omega)
  have e0 := nb_at s 0 (Nat.pos_of_ne_zero h0)
  have hz0 : ((s.size : Int) == 0) = false := by simp [h0]
  have hp0 : (0 : Int) < (s.size : Int) := by omega
  have t1 : ((nb (bl s) 0 : Int) % 2 == 1) = false := by simp; omega
  have t3 : ((nb (bl s) 0 : Int) / 2 % 2 == 1) = false := by simp; omega
  have N0 := hnl 0
  generalize nb (bl s) 0 = T at *
  generalize ba (unp (bl s) 1 R) = V at *
  have HT := hidden (hT.below (bthen (bthen (ballc w (.cells #[.int .i64 n, .int .i64 f, .int .i64 d, .int .i64 p, .int .i64 r, .int .i64 dr, .int .i64 o, .int .i64 sl, .int .i64 md, .int .i64 fr, .slice ad zs.length cap] 24)) (ballc _ (.cells #[.string ⟨#[]⟩, .int .i64 0, .string ⟨#[]⟩, .int .i64 0, .int .i64 0, .string ⟨#[]⟩] 26))) (ballc _ (.cells #[.string ⟨#[]⟩, .int .i64 0, .string ⟨#[]⟩, .int .i64 0, .int .i64 0, .string ⟨#[]⟩] 26))))
  have HT0 := hidden hT
  clear hT hE hR hB hnl
  try clear h1
  try clear h3
  go_enter Try.func36, Try.ntmps36
  go_wp2_with fail
  refine (C1 _ HT.out).mono ?_
  rintro e w1 ⟨rfl, hb⟩
  have HT1 := hidden (HT.out.below hb)
  have hS := GS.start w _ hb
  clear hb HT
  go_wp2_with fail
  refine (C3 _).mono ?_
  rintro e w2 ⟨rfl, hb⟩
  have hS := hS.call hb
  clear hb
  have kc := blk_cell hS.cf
  have kp := blk_cell hS.pk
  have kf := blk_frozen hS.pk
  have kz := blk_cell hS.rz
  have ke := blk_frozen hS.rz
  have HS := hidden (hS.set 0 (.string V))
  have HT3 := hidden (HT0.out.below HS.out.bt)
  clear hS
  go_wp2_with fail
  refine (C1 _ HT3.out).mono ?_
  rintro e w3 ⟨rfl, hb⟩
  have hS := HS.out.call hb
  clear hb HS HT3 kc kp kf kz ke
  simp only [List.setIfInBounds_toArray, List.set_cons_zero] at hS
  have kc := blk_cell hS.cf
  have kp := blk_cell hS.pk
  have kf := blk_frozen hS.pk
  have kz := blk_cell hS.rz
  have ke := blk_frozen hS.rz
  have HS := hidden hS
  clear hS
  go_wp2
  obtain ⟨r0, r1, r2, r3, r4, r5⟩ := read6T HS.out.rz (.string V) (.int .i64 0) (.string ⟨#[]⟩) (.int .i64 0) (.int .i64 0) (.string ⟨#[]⟩)
  refine bodyPost_ret (v := .agg #[.string V, .int .i64 0, .string ⟨#[]⟩, .int .i64 0, .int .i64 0, .string ⟨#[]⟩]) (by simp [results, Try.results36, go_sem, r0, r1, r2, r3, r4, r5]) rfl ⟨rfl, ?_⟩
  exact below6T HS.out.bt (by omega) _ _ _ _ _ _
set_option maxHeartbeats 4000000 in
theorem rguess_FG (n f d p r dr o sl md fr : Int) (ad : Option Addr) (cap : Nat) (zs : List Int) (s : ByteArray) (R B : Nat) (w : World) (hl : zs.length ≤ 9223372036854775807) (hT : Tab w ad zs) (hE : plainE n f d p r dr o sl md fr zs = 0) (hR : 3 * (f + 1) = (R : Int)) (hB : 8 + n = (B : Int)) (hs : s.size ≤ 255) (hR2 : R ≤ 255) (hB2 : B ≤ 255) (h0 : ¬ s.size = 0) (h1 : ¬ nb (bl s) 0 % 2 = 1) (h3 : nb (bl s) 0 / 2 % 2 = 1) (h4 : ¬ guB (bl s) R B + 2 < s.size) :
    Calls Try.prog 36 #[.agg #[.int .i64 n, .int .i64 f, .int .i64 d, .int .i64 p, .int .i64 r, .int .i64 dr, .int .i64 o, .int .i64 sl, .int .i64 md, .int .i64 fr, .slice ad zs.length cap], .string s] w fun e w' => e = .returned (.agg #[.string (guessF (bl s) R B).vo, .int .i64 (guessF (bl s) R B).ex, .string (guessF (bl s) R B).ve, .int .i64 (guessF (bl s) R B).ps, .int .i64 (guessF (bl s) R B).cy, .string (guessF (bl s) R B).te]) ∧ Below w.heap.size w w' := by
  have gx : guX (bl s) R = false := by
    unfold guX
    rw [bl_length]
    exact decide_eq_false (fun k => h1 k.1)
  have gy : guY (bl s) R B = false := by
    unfold guY
    rw [bl_length]
    exact decide_eq_false (fun k => h4 k.2)
  have gB : guB (bl s) R B = guA R := by unfold guB; rw [gx]; rw [if_neg (by decide)]
  have hG : guessF (bl s) R B = ⟨ba (unp (bl s) 1 R), 0, ⟨#[]⟩, 0, 0, ⟨#[]⟩⟩ := guess_eq _ _ _ (by rw [bl_length]; exact h0) false false gx gy
  rw [hG]
  dsimp only
  rw [gB] at h4
  clear gx gy gB hG
  have hAe : guA R = 1 + (R + 3) / 4 := rfl
  generalize guA R = A at *
  have A1 : (1 : Int) + ((R : Int) + 3) / 4 = (A : Int) := by omega
  have A0 : A ≤ 200 := by omega
  have HAe := hidden hAe
  clear hAe
  have hnl := nb_lt (bl s)
  have C1 := fun V h => refRounds_any n f d p r dr o sl md fr ad cap zs V hl h
  have C2 := fun V h => refBits_any n f d p r dr o sl md fr ad cap zs V hl h
  rw [hE, gate_ok, hR] at C1
  rw [hE, gate_ok, hB] at C2
  have C3 := fun V => runpack_any s 1 R V (by omega) (by omega) (by omega)
  have e0 := nb_at s 0 (Nat.pos_of_ne_zero h0)
  have hz0 : ((s.size : Int) == 0) = false := by simp [h0]
  have hp0 : (0 : Int) < (s.size : Int) := by omega
  have t1 : ((nb (bl s) 0 : Int) % 2 == 1) = false := by simp; omega
  have t3 : ((nb (bl s) 0 : Int) / 2 % 2 == 1) = true := by simp; omega
  have t4 : ¬ (A : Int) + 2 < (s.size : Int) := by omega
  have t4' : decide ((A : Int) + 2 < (s.size : Int)) = false := by simp; omega
  have N0 := hnl 0
  generalize nb (bl s) 0 = T at *
  generalize ba (unp (bl s) 1 R) = V at *
  have HT := hidden (hT.below (bthen (bthen (ballc w (.cells #[.int .i64 n, .int .i64 f, .int .i64 d, .int .i64 p, .int .i64 r, .int .i64 dr, .int .i64 o, .int .i64 sl, .int .i64 md, .int .i64 fr, .slice ad zs.length cap] 24)) (ballc _ (.cells #[.string ⟨#[]⟩, .int .i64 0, .string ⟨#[]⟩, .int .i64 0, .int .i64 0, .string ⟨#[]⟩] 26))) (ballc _ (.cells #[.string ⟨#[]⟩, .int .i64 0, .string ⟨#[]⟩, .int .i64 0, .int .i64 0, .string ⟨#[]⟩] 26))))
  have HT0 := hidden hT
  clear hT hE hR hB hnl
  try clear h1
  try clear h3
  go_enter Try.func36, Try.ntmps36
  go_wp2_with fail
  refine (C1 _ HT.out).mono ?_
  rintro e w1 ⟨rfl, hb⟩
  have HT1 := hidden (HT.out.below hb)
  have hS := GS.start w _ hb
  clear hb HT
  go_wp2_with fail
  refine (C3 _).mono ?_
  rintro e w2 ⟨rfl, hb⟩
  have hS := hS.call hb
  clear hb
  have kc := blk_cell hS.cf
  have kp := blk_cell hS.pk
  have kf := blk_frozen hS.pk
  have kz := blk_cell hS.rz
  have ke := blk_frozen hS.rz
  have HS := hidden (hS.set 0 (.string V))
  have HT3 := hidden (HT0.out.below HS.out.bt)
  clear hS
  go_wp2_with fail
  refine (C1 _ HT3.out).mono ?_
  rintro e w3 ⟨rfl, hb⟩
  have hS := HS.out.call hb
  clear hb HS HT3 kc kp kf kz ke
  simp only [List.setIfInBounds_toArray, List.set_cons_zero] at hS
  have kc := blk_cell hS.cf
  have kp := blk_cell hS.pk
  have kf := blk_frozen hS.pk
  have kz := blk_cell hS.rz
  have ke := blk_frozen hS.rz
  have HS := hidden hS
  clear hS
  go_wp2
  obtain ⟨r0, r1, r2, r3, r4, r5⟩ := read6T HS.out.rz (.string V) (.int .i64 0) (.string ⟨#[]⟩) (.int .i64 0) (.int .i64 0) (.string ⟨#[]⟩)
  refine bodyPost_ret (v := .agg #[.string V, .int .i64 0, .string ⟨#[]⟩, .int .i64 0, .int .i64 0, .string ⟨#[]⟩]) (by simp [results, Try.results36, go_sem, r0, r1, r2, r3, r4, r5]) rfl ⟨rfl, ?_⟩
  exact below6T HS.out.bt (by omega) _ _ _ _ _ _
set_option maxHeartbeats 4000000 in
theorem rguess_GF (n f d p r dr o sl md fr : Int) (ad : Option Addr) (cap : Nat) (zs : List Int) (s : ByteArray) (R B : Nat) (w : World) (hl : zs.length ≤ 9223372036854775807) (hT : Tab w ad zs) (hE : plainE n f d p r dr o sl md fr zs = 0) (hR : 3 * (f + 1) = (R : Int)) (hB : 8 + n = (B : Int)) (hs : s.size ≤ 255) (hR2 : R ≤ 255) (hB2 : B ≤ 255) (h0 : ¬ s.size = 0) (h1 : nb (bl s) 0 % 2 = 1) (h2 : ¬ guA R < s.size) (h3 : ¬ nb (bl s) 0 / 2 % 2 = 1) :
    Calls Try.prog 36 #[.agg #[.int .i64 n, .int .i64 f, .int .i64 d, .int .i64 p, .int .i64 r, .int .i64 dr, .int .i64 o, .int .i64 sl, .int .i64 md, .int .i64 fr, .slice ad zs.length cap], .string s] w fun e w' => e = .returned (.agg #[.string (guessF (bl s) R B).vo, .int .i64 (guessF (bl s) R B).ex, .string (guessF (bl s) R B).ve, .int .i64 (guessF (bl s) R B).ps, .int .i64 (guessF (bl s) R B).cy, .string (guessF (bl s) R B).te]) ∧ Below w.heap.size w w' := by
  have gx : guX (bl s) R = false := by
    unfold guX
    rw [bl_length]
    exact decide_eq_false (fun k => h2 k.2)
  have gy : guY (bl s) R B = false := by
    unfold guY
    rw [bl_length]
    exact decide_eq_false (fun k => h3 k.1)
  have gB : guB (bl s) R B = guA R := by unfold guB; rw [gx]; rw [if_neg (by decide)]
  have hG : guessF (bl s) R B = ⟨ba (unp (bl s) 1 R), 0, ⟨#[]⟩, 0, 0, ⟨#[]⟩⟩ := guess_eq _ _ _ (by rw [bl_length]; exact h0) false false gx gy
  rw [hG]
  dsimp only
  clear gx gy gB hG
  have hAe : guA R = 1 + (R + 3) / 4 := rfl
  generalize guA R = A at *
  have A1 : (1 : Int) + ((R : Int) + 3) / 4 = (A : Int) := by omega
  have A0 : A ≤ 200 := by omega
  have HAe := hidden hAe
  clear hAe
  have hnl := nb_lt (bl s)
  have C1 := fun V h => refRounds_any n f d p r dr o sl md fr ad cap zs V hl h
  have C2 := fun V h => refBits_any n f d p r dr o sl md fr ad cap zs V hl h
  rw [hE, gate_ok, hR] at C1
  rw [hE, gate_ok, hB] at C2
  have C3 := fun V => runpack_any s 1 R V (by omega) (by omega) (by omega)
  have e0 := nb_at s 0 (Nat.pos_of_ne_zero h0)
  have hz0 : ((s.size : Int) == 0) = false := by simp [h0]
  have hp0 : (0 : Int) < (s.size : Int) := by omega
  have t1 : ((nb (bl s) 0 : Int) % 2 == 1) = true := by simp; omega
  have t3 : ((nb (bl s) 0 : Int) / 2 % 2 == 1) = false := by simp; omega
  have t2 : ¬ (A : Int) < (s.size : Int) := by omega
  have t2' : decide ((A : Int) < (s.size : Int)) = false := by simp; omega
  have N0 := hnl 0
  generalize nb (bl s) 0 = T at *
  generalize ba (unp (bl s) 1 R) = V at *
  have HT := hidden (hT.below (bthen (bthen (ballc w (.cells #[.int .i64 n, .int .i64 f, .int .i64 d, .int .i64 p, .int .i64 r, .int .i64 dr, .int .i64 o, .int .i64 sl, .int .i64 md, .int .i64 fr, .slice ad zs.length cap] 24)) (ballc _ (.cells #[.string ⟨#[]⟩, .int .i64 0, .string ⟨#[]⟩, .int .i64 0, .int .i64 0, .string ⟨#[]⟩] 26))) (ballc _ (.cells #[.string ⟨#[]⟩, .int .i64 0, .string ⟨#[]⟩, .int .i64 0, .int .i64 0, .string ⟨#[]⟩] 26))))
  have HT0 := hidden hT
  clear hT hE hR hB hnl
  try clear h1
  try clear h3
  go_enter Try.func36, Try.ntmps36
  go_wp2_with fail
  refine (C1 _ HT.out).mono ?_
  rintro e w1 ⟨rfl, hb⟩
  have HT1 := hidden (HT.out.below hb)
  have hS := GS.start w _ hb
  clear hb HT
  go_wp2_with fail
  refine (C3 _).mono ?_
  rintro e w2 ⟨rfl, hb⟩
  have hS := hS.call hb
  clear hb
  have kc := blk_cell hS.cf
  have kp := blk_cell hS.pk
  have kf := blk_frozen hS.pk
  have kz := blk_cell hS.rz
  have ke := blk_frozen hS.rz
  have HS := hidden (hS.set 0 (.string V))
  have HT3 := hidden (HT0.out.below HS.out.bt)
  clear hS
  go_wp2_with fail
  refine (C1 _ HT3.out).mono ?_
  rintro e w3 ⟨rfl, hb⟩
  have hS := HS.out.call hb
  clear hb HS HT3 kc kp kf kz ke
  simp only [List.setIfInBounds_toArray, List.set_cons_zero] at hS
  have kc := blk_cell hS.cf
  have kp := blk_cell hS.pk
  have kf := blk_frozen hS.pk
  have kz := blk_cell hS.rz
  have ke := blk_frozen hS.rz
  have HS := hidden hS
  clear hS
  go_wp2
  obtain ⟨r0, r1, r2, r3, r4, r5⟩ := read6T HS.out.rz (.string V) (.int .i64 0) (.string ⟨#[]⟩) (.int .i64 0) (.int .i64 0) (.string ⟨#[]⟩)
  refine bodyPost_ret (v := .agg #[.string V, .int .i64 0, .string ⟨#[]⟩, .int .i64 0, .int .i64 0, .string ⟨#[]⟩]) (by simp [results, Try.results36, go_sem, r0, r1, r2, r3, r4, r5]) rfl ⟨rfl, ?_⟩
  exact below6T HS.out.bt (by omega) _ _ _ _ _ _
set_option maxHeartbeats 4000000 in
theorem rguess_GG (n f d p r dr o sl md fr : Int) (ad : Option Addr) (cap : Nat) (zs : List Int) (s : ByteArray) (R B : Nat) (w : World) (hl : zs.length ≤ 9223372036854775807) (hT : Tab w ad zs) (hE : plainE n f d p r dr o sl md fr zs = 0) (hR : 3 * (f + 1) = (R : Int)) (hB : 8 + n = (B : Int)) (hs : s.size ≤ 255) (hR2 : R ≤ 255) (hB2 : B ≤ 255) (h0 : ¬ s.size = 0) (h1 : nb (bl s) 0 % 2 = 1) (h2 : ¬ guA R < s.size) (h3 : nb (bl s) 0 / 2 % 2 = 1) (h4 : ¬ guB (bl s) R B + 2 < s.size) :
    Calls Try.prog 36 #[.agg #[.int .i64 n, .int .i64 f, .int .i64 d, .int .i64 p, .int .i64 r, .int .i64 dr, .int .i64 o, .int .i64 sl, .int .i64 md, .int .i64 fr, .slice ad zs.length cap], .string s] w fun e w' => e = .returned (.agg #[.string (guessF (bl s) R B).vo, .int .i64 (guessF (bl s) R B).ex, .string (guessF (bl s) R B).ve, .int .i64 (guessF (bl s) R B).ps, .int .i64 (guessF (bl s) R B).cy, .string (guessF (bl s) R B).te]) ∧ Below w.heap.size w w' := by
  have gx : guX (bl s) R = false := by
    unfold guX
    rw [bl_length]
    exact decide_eq_false (fun k => h2 k.2)
  have gy : guY (bl s) R B = false := by
    unfold guY
    rw [bl_length]
    exact decide_eq_false (fun k => h4 k.2)
  have gB : guB (bl s) R B = guA R := by unfold guB; rw [gx]; rw [if_neg (by decide)]
  have hG : guessF (bl s) R B = ⟨ba (unp (bl s) 1 R), 0, ⟨#[]⟩, 0, 0, ⟨#[]⟩⟩ := guess_eq _ _ _ (by rw [bl_length]; exact h0) false false gx gy
  rw [hG]
  dsimp only
  rw [gB] at h4
  clear gx gy gB hG
  have hAe : guA R = 1 + (R + 3) / 4 := rfl
  generalize guA R = A at *
  have A1 : (1 : Int) + ((R : Int) + 3) / 4 = (A : Int) := by omega
  have A0 : A ≤ 200 := by omega
  have HAe := hidden hAe
  clear hAe
  have hnl := nb_lt (bl s)
  have C1 := fun V h => refRounds_any n f d p r dr o sl md fr ad cap zs V hl h
  have C2 := fun V h => refBits_any n f d p r dr o sl md fr ad cap zs V hl h
  rw [hE, gate_ok, hR] at C1
  rw [hE, gate_ok, hB] at C2
  have C3 := fun V => runpack_any s 1 R V (by omega) (by omega) (by omega)
  have e0 := nb_at s 0 (Nat.pos_of_ne_zero h0)
  have hz0 : ((s.size : Int) == 0) = false := by simp [h0]
  have hp0 : (0 : Int) < (s.size : Int) := by omega
  have t1 : ((nb (bl s) 0 : Int) % 2 == 1) = true := by simp; omega
  have t3 : ((nb (bl s) 0 : Int) / 2 % 2 == 1) = true := by simp; omega
  have t2 : ¬ (A : Int) < (s.size : Int) := by omega
  have t2' : decide ((A : Int) < (s.size : Int)) = false := by simp; omega
  have t4 : ¬ (A : Int) + 2 < (s.size : Int) := by omega
  have t4' : decide ((A : Int) + 2 < (s.size : Int)) = false := by simp; omega
  have N0 := hnl 0
  generalize nb (bl s) 0 = T at *
  generalize ba (unp (bl s) 1 R) = V at *
  have HT := hidden (hT.below (bthen (bthen (ballc w (.cells #[.int .i64 n, .int .i64 f, .int .i64 d, .int .i64 p, .int .i64 r, .int .i64 dr, .int .i64 o, .int .i64 sl, .int .i64 md, .int .i64 fr, .slice ad zs.length cap] 24)) (ballc _ (.cells #[.string ⟨#[]⟩, .int .i64 0, .string ⟨#[]⟩, .int .i64 0, .int .i64 0, .string ⟨#[]⟩] 26))) (ballc _ (.cells #[.string ⟨#[]⟩, .int .i64 0, .string ⟨#[]⟩, .int .i64 0, .int .i64 0, .string ⟨#[]⟩] 26))))
  have HT0 := hidden hT
  clear hT hE hR hB hnl
  try clear h1
  try clear h3
  go_enter Try.func36, Try.ntmps36
  go_wp2_with fail
  refine (C1 _ HT.out).mono ?_
  rintro e w1 ⟨rfl, hb⟩
  have HT1 := hidden (HT.out.below hb)
  have hS := GS.start w _ hb
  clear hb HT
  go_wp2_with fail
  refine (C3 _).mono ?_
  rintro e w2 ⟨rfl, hb⟩
  have hS := hS.call hb
  clear hb
  have kc := blk_cell hS.cf
  have kp := blk_cell hS.pk
  have kf := blk_frozen hS.pk
  have kz := blk_cell hS.rz
  have ke := blk_frozen hS.rz
  have HS := hidden (hS.set 0 (.string V))
  have HT3 := hidden (HT0.out.below HS.out.bt)
  clear hS
  go_wp2_with fail
  refine (C1 _ HT3.out).mono ?_
  rintro e w3 ⟨rfl, hb⟩
  have hS := HS.out.call hb
  clear hb HS HT3 kc kp kf kz ke
  simp only [List.setIfInBounds_toArray, List.set_cons_zero] at hS
  have kc := blk_cell hS.cf
  have kp := blk_cell hS.pk
  have kf := blk_frozen hS.pk
  have kz := blk_cell hS.rz
  have ke := blk_frozen hS.rz
  have HS := hidden hS
  clear hS
  go_wp2
  obtain ⟨r0, r1, r2, r3, r4, r5⟩ := read6T HS.out.rz (.string V) (.int .i64 0) (.string ⟨#[]⟩) (.int .i64 0) (.int .i64 0) (.string ⟨#[]⟩)
  refine bodyPost_ret (v := .agg #[.string V, .int .i64 0, .string ⟨#[]⟩, .int .i64 0, .int .i64 0, .string ⟨#[]⟩]) (by simp [results, Try.results36, go_sem, r0, r1, r2, r3, r4, r5]) rfl ⟨rfl, ?_⟩
  exact below6T HS.out.bt (by omega) _ _ _ _ _ _
end Go.Proofs.Ytcnmbpgjgjncdaa
