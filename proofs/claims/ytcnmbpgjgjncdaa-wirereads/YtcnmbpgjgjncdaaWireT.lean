/- The document's call Decode for wires returns what a plain function decodes of bytes, and makes at most new memory; conditions: the table lies where it says, and lengths fit int. -/
import Derived.Test.YtcnmbpgjgjncdaaWireS
import Derived.Test.YtcnmbpgjgjncdaaWireQ
namespace Go.Proofs.Ytcnmbpgjgjncdaa
open Go.ChangeShapes Go.WideShapes Go.ChangeAt Go.RowKit
set_option linter.unusedVariables false

theorem rguess_any (n f d p r dr o sl md fr : Int) (ad : Option Addr) (cap : Nat) (zs : List Int) (s : ByteArray) (R B : Nat) (w : World) (hl : zs.length ≤ 9223372036854775807) (hT : Tab w ad zs) (hE : plainE n f d p r dr o sl md fr zs = 0) (hR : 3 * (f + 1) = (R : Int)) (hB : 8 + n = (B : Int)) (hs : s.size ≤ 255) (hR2 : R ≤ 255) (hB2 : B ≤ 255) :
    Calls Try.prog 36 #[.agg #[.int .i64 n, .int .i64 f, .int .i64 d, .int .i64 p, .int .i64 r, .int .i64 dr, .int .i64 o, .int .i64 sl, .int .i64 md, .int .i64 fr, .slice ad zs.length cap], .string s] w fun e w' => e = .returned (.agg #[.string (guessF (bl s) R B).vo, .int .i64 (guessF (bl s) R B).ex, .string (guessF (bl s) R B).ve, .int .i64 (guessF (bl s) R B).ps, .int .i64 (guessF (bl s) R B).cy, .string (guessF (bl s) R B).te]) ∧ Below w.heap.size w w' := by
  by_cases h0 : s.size = 0
  · exact rguess_nil n f d p r dr o sl md fr ad cap zs s R B w hl hT hE hR hB hs hR2 hB2 h0
  by_cases h1 : nb (bl s) 0 % 2 = 1
  · by_cases h2 : guA R < s.size
    · by_cases h3 : nb (bl s) 0 / 2 % 2 = 1
      · by_cases h4 : guB (bl s) R B + 2 < s.size
        · exact rguess_TT n f d p r dr o sl md fr ad cap zs s R B w hl hT hE hR hB hs hR2 hB2 h0 h1 h2 h3 h4
        · exact rguess_TG n f d p r dr o sl md fr ad cap zs s R B w hl hT hE hR hB hs hR2 hB2 h0 h1 h2 h3 h4
      · exact rguess_TF n f d p r dr o sl md fr ad cap zs s R B w hl hT hE hR hB hs hR2 hB2 h0 h1 h2 h3
    · by_cases h3 : nb (bl s) 0 / 2 % 2 = 1
      · by_cases h4 : guB (bl s) R B + 2 < s.size
        · have k := guB_short (bl s) R B (by rw [bl_length]; exact h2)
          omega
        · exact rguess_GG n f d p r dr o sl md fr ad cap zs s R B w hl hT hE hR hB hs hR2 hB2 h0 h1 h2 h3 h4
      · exact rguess_GF n f d p r dr o sl md fr ad cap zs s R B w hl hT hE hR hB hs hR2 hB2 h0 h1 h2 h3
  · by_cases h3 : nb (bl s) 0 / 2 % 2 = 1
    · by_cases h4 : guB (bl s) R B + 2 < s.size
      · exact rguess_FT n f d p r dr o sl md fr ad cap zs s R B w hl hT hE hR hB hs hR2 hB2 h0 h1 h3 h4
      · exact rguess_FG n f d p r dr o sl md fr ad cap zs s R B w hl hT hE hR hB hs hR2 hB2 h0 h1 h3 h4
    · exact rguess_FF n f d p r dr o sl md fr ad cap zs s R B w hl hT hE hR hB hs hR2 hB2 h0 h1 h3
theorem openF_size' (s : ByteArray) : (openF s).1.size ≤ s.size := by
  unfold openF
  split
  · exact Nat.zero_le _
  · split
    · simp [ByteArray.size_extract]
    · exact Nat.zero_le _
theorem unp_len (l : List UInt8) (a n : Nat) : (unp l a n).length ≤ n := by
  unfold unp
  split
  · rw [unL_length]; exact Nat.le_refl _
  · exact Nat.zero_le _
theorem guessF_sizes (l : List UInt8) (R B : Nat) (hl : l.length ≤ 255) (hR : R ≤ 255) (hB : B ≤ 255) : (guessF l R B).vo.size ≤ 255 ∧ (guessF l R B).ve.size ≤ 255 ∧ (guessF l R B).te.size ≤ 255 := by
  by_cases h : l.length = 0
  · rw [guess_nil l R B h]; decide
  · rw [guess_eq l R B h _ _ rfl rfl]
    dsimp only
    have h1 := unp_len l 1 R
    have h2 := unp_len l (guA R + 1) B
    refine ⟨by rw [ba_size]; omega, ?_, ?_⟩
    · split
      · rw [ba_size]; omega
      · decide
    · split
      · rw [ba_size, List.length_drop]; omega
      · decide
set_option maxHeartbeats 4000000 in
theorem rDecode_late (n f d p r dr o sl md fr : Int) (ad : Option Addr) (cap : Nat) (zs : List Int) (s : ByteArray) (w : World) (hl : zs.length ≤ 9223372036854775807) (hT : Tab w ad zs) (hE : plainE n f d p r dr o sl md fr zs = 0) (hs : ¬ 40 < s.size) (ho : (openF s).2 = 0) (q : Pk) (v : Int)
    (hq : (if pkR 0 (3 * (f + 1)) (8 + n) zs.length md (guessF (bl (openF s).1) (3 * (f + 1)).toNat (8 + n).toNat) = 0 ∧ plainB (guessF (bl (openF s).1) (3 * (f + 1)).toNat (8 + n).toNat) = (openF s).1 then (guessF (bl (openF s).1) (3 * (f + 1)).toNat (8 + n).toNat, (0 : Int)) else (pk0, 3)) = (q, v)) :
    Calls Try.prog 15 #[.agg #[.int .i64 n, .int .i64 f, .int .i64 d, .int .i64 p, .int .i64 r, .int .i64 dr, .int .i64 o, .int .i64 sl, .int .i64 md, .int .i64 fr, .slice ad zs.length cap], .string s] w fun e w' => e = .returned (.tuple #[.agg #[.string q.vo, .int .i64 q.ex, .string q.ve, .int .i64 q.ps, .int .i64 q.cy, .string q.te], .int .i64 v]) ∧ Below w.heap.size w w' := by
  have hcap := conf_caps hE
  have C1 := fun V h => refPlain_any n f d p r dr o sl md fr ad cap zs V hl h
  have C2 := fun V => ropen_any s V (by omega)
  rw [hE] at C1
  rw [ho] at C2
  have hbz := openF_size' s
  generalize (openF s).1 = body at *
  obtain ⟨R, hR⟩ : ∃ R : Nat, 3 * (f + 1) = (R : Int) := ⟨(3 * (f + 1)).toNat, by omega⟩
  obtain ⟨B, hB⟩ : ∃ B : Nat, 8 + n = (B : Int) := ⟨(8 + n).toNat, by omega⟩
  have hgs := guessF_sizes (bl body) R B (by rw [bl_length]; omega) (by omega) (by omega)
  have C5 := fun V h => rguess_any n f d p r dr o sl md fr ad cap zs body R B V hl h hE hR hB (by omega) (by omega) (by omega)
  have C6 := fun V h => rRight_any n f d p r dr o sl md fr ad cap zs (guessF (bl body) R B).vo (guessF (bl body) R B).ex (guessF (bl body) R B).ve (guessF (bl body) R B).ps (guessF (bl body) R B).cy (guessF (bl body) R B).te V hl h (by omega) (by omega) (by omega)
  have hC6 : pRight (plainE n f d p r dr o sl md fr zs) (3 * (f + 1)) (8 + n) zs.length md (guessF (bl body) R B).vo (guessF (bl body) R B).ex (guessF (bl body) R B).ve (guessF (bl body) R B).ps (guessF (bl body) R B).cy (guessF (bl body) R B).te = pkR 0 (3 * (f + 1)) (8 + n) zs.length md (guessF (bl body) R B) := by rw [hE]; rfl
  rw [hC6] at C6
  have e1 : (3 * (f + 1)).toNat = R := by omega
  have e2 : (8 + n).toNat = B := by omega
  rw [e1, e2] at hq
  have hrp : pkR 0 (3 * (f + 1)) (8 + n) zs.length md (guessF (bl body) R B) = 0 → ∀ V, Calls Try.prog 27 #[.agg #[.string (guessF (bl body) R B).vo, .int .i64 (guessF (bl body) R B).ex, .string (guessF (bl body) R B).ve, .int .i64 (guessF (bl body) R B).ps, .int .i64 (guessF (bl body) R B).cy, .string (guessF (bl body) R B).te]] V fun e w' => e = .returned (.string (plainB (guessF (bl body) R B))) ∧ Below V.heap.size V w' := fun h V =>
    rplain_any _ V (rightP_of h (by omega) (by omega) (by omega)) (by omega) (by omega)
  generalize pkR 0 (3 * (f + 1)) (8 + n) zs.length md (guessF (bl body) R B) = X at *
  generalize plainB (guessF (bl body) R B) = PB at *
  generalize guessF (bl body) R B = g at *
  obtain ⟨gv, ge, gw, gs, gc, gt⟩ := g
  dsimp only at *
  have HT := hidden (hT.below (bthen (ballc w (.cells #[.int .i64 n, .int .i64 f, .int .i64 d, .int .i64 p, .int .i64 r, .int .i64 dr, .int .i64 o, .int .i64 sl, .int .i64 md, .int .i64 fr, .slice ad zs.length cap] 24)) (ballc _ (.cells #[.string ⟨#[]⟩, .int .i64 0, .string ⟨#[]⟩, .int .i64 0, .int .i64 0, .string ⟨#[]⟩] 26))))
  have HQ := hidden hq
  clear hq hT ho hE hR hB hC6 e1 e2 hgs
  have hs' : ¬ (40 : Int) < (s.size : Int) := by omega
  go_enter Try.func15, Try.ntmps15
  go_wp2_with fail
  refine (C1 _ HT.out).mono ?_
  rintro e w1 ⟨rfl, hb⟩
  have HB1 := hidden hb
  clear hb C1
  go_wp2_with fail
  refine (C2 _).mono ?_
  rintro e w2 ⟨rfl, hb⟩
  have HB2 := hidden (bthen HB1.out hb)
  clear hb C2 HB1
  obtain ⟨hbox, hbox2, hsz0, hsz⟩ := box_two HB2.out
  have HT2 := hidden (HT.out.below HB2.out)
  clear HT
  go_wp2_with fail
  refine (C5 _ HT2.out).mono ?_
  rintro e w3 ⟨rfl, hb⟩
  have HT3 := hidden (HT2.out.below hb)
  have HB3 := hidden (bthen HB2.out hb)
  clear hb hbox hbox2 hsz0 hsz HT2 HB2 C5
  obtain ⟨hbox, hbox2, hsz0, hsz⟩ := box_two HB3.out
  go_wp2_with fail
  refine (C6 _ (HT3.out.below (ballc _ _))).mono ?_
  rintro e w4 ⟨rfl, hb⟩
  have kp := (hb.block _ (by simp)).trans (heap_alloc_new w3 _)
  have kpc := blk_cell kp
  have HK := hidden kp
  have HB4 := hidden (bthen HB3.out (bthen (ballc _ _) hb))
  clear hb hbox hbox2 hsz0 hsz C6 HT3 kp
  by_cases hX : X = 0
  · have hX' : (X != 0) = false := by simp [hX]
    have C7 := hrp hX
    have HX := hidden hX
    clear hX hrp
    go_wp2_with fail
    refine (C7 _).mono ?_
    rintro e w5 ⟨rfl, hb⟩
    have kp := (hb.block _ (Array.getElem?_eq_some_iff.1 HK.out).1).trans HK.out
    have kpc5 := blk_cell kp
    have HB5 := hidden (bthen HB4.out hb)
    have hz := blk_second _ _ _ _ HB5.out
    have kzc := blk_cell hz
    have kzf := blk_frozen hz
    have KZ := hidden hz
    clear hb kp hz kpc C7
    by_cases hP : PB = body
    · have i1 : (PB.toList == body.toList) = true := by rw [hP]; simp
      have HP := hidden hP
      clear hP
      go_wp2
      obtain ⟨r0, r1, r2, r3, r4, r5⟩ := read6T KZ.out (.string gv) (.int .i64 ge) (.string gw) (.int .i64 gs) (.int .i64 gc) (.string gt)
      refine bodyPost_ret (v := .tuple #[.agg #[.string gv, .int .i64 ge, .string gw, .int .i64 gs, .int .i64 gc, .string gt], .int .i64 0]) (by simp [results, Try.results15, go_sem, r0, r1, r2, r3, r4, r5]) rfl ⟨?_, ?_⟩
      · have e := HQ.out
        rw [if_pos ⟨HX.out, HP.out⟩] at e
        cases e
        rfl
      · exact below6T (bthen (bthen (ballc w _) (ballc _ _)) HB5.out) (by omega) _ _ _ _ _ _
    · have i1 : (PB.toList == body.toList) = false := bytes_ne hP
      have HP := hidden hP
      clear hP
      go_wp2
      obtain ⟨r0, r1, r2, r3, r4, r5⟩ := read6T KZ.out (.string ⟨#[]⟩) (.int .i64 0) (.string ⟨#[]⟩) (.int .i64 0) (.int .i64 0) (.string ⟨#[]⟩)
      refine bodyPost_ret (v := .tuple #[.agg #[.string ⟨#[]⟩, .int .i64 0, .string ⟨#[]⟩, .int .i64 0, .int .i64 0, .string ⟨#[]⟩], .int .i64 3]) (by simp [results, Try.results15, go_sem, r0, r1, r2, r3, r4, r5]) rfl ⟨?_, ?_⟩
      · have e := HQ.out
        rw [if_neg (fun k => HP.out k.2)] at e
        cases e
        rfl
      · exact below6T (bthen (bthen (ballc w _) (ballc _ _)) HB5.out) (by omega) _ _ _ _ _ _
  · have hX' : (X != 0) = true := by simp [hX]
    have HX := hidden hX
    have hz := blk_second _ _ _ _ HB4.out
    have kzc := blk_cell hz
    have kzf := blk_frozen hz
    have KZ := hidden hz
    clear hX hrp hz
    go_wp2
    obtain ⟨r0, r1, r2, r3, r4, r5⟩ := read6T KZ.out (.string ⟨#[]⟩) (.int .i64 0) (.string ⟨#[]⟩) (.int .i64 0) (.int .i64 0) (.string ⟨#[]⟩)
    refine bodyPost_ret (v := .tuple #[.agg #[.string ⟨#[]⟩, .int .i64 0, .string ⟨#[]⟩, .int .i64 0, .int .i64 0, .string ⟨#[]⟩], .int .i64 3]) (by simp [results, Try.results15, go_sem, r0, r1, r2, r3, r4, r5]) rfl ⟨?_, ?_⟩
    · have e := HQ.out
      rw [if_neg (fun k => HX.out k.1)] at e
      cases e
      rfl
    · exact below6T (bthen (bthen (ballc w _) (ballc _ _)) HB4.out) (by omega) _ _ _ _ _ _
set_option maxHeartbeats 2000000 in
theorem rDecode_any (n f d p r dr o sl md fr : Int) (ad : Option Addr) (cap : Nat) (zs : List Int) (s : ByteArray) (w : World) (hl : zs.length ≤ 9223372036854775807) (hT : Tab w ad zs) (hs : s.size ≤ 9223372036854775807) :
    Calls Try.prog 15 #[.agg #[.int .i64 n, .int .i64 f, .int .i64 d, .int .i64 p, .int .i64 r, .int .i64 dr, .int .i64 o, .int .i64 sl, .int .i64 md, .int .i64 fr, .slice ad zs.length cap], .string s] w fun e w' => e = .returned (.tuple #[.agg #[.string (decR (plainE n f d p r dr o sl md fr zs) (3 * (f + 1)) (8 + n) zs.length md s).1.vo, .int .i64 (decR (plainE n f d p r dr o sl md fr zs) (3 * (f + 1)) (8 + n) zs.length md s).1.ex, .string (decR (plainE n f d p r dr o sl md fr zs) (3 * (f + 1)) (8 + n) zs.length md s).1.ve, .int .i64 (decR (plainE n f d p r dr o sl md fr zs) (3 * (f + 1)) (8 + n) zs.length md s).1.ps, .int .i64 (decR (plainE n f d p r dr o sl md fr zs) (3 * (f + 1)) (8 + n) zs.length md s).1.cy, .string (decR (plainE n f d p r dr o sl md fr zs) (3 * (f + 1)) (8 + n) zs.length md s).1.te], .int .i64 (decR (plainE n f d p r dr o sl md fr zs) (3 * (f + 1)) (8 + n) zs.length md s).2]) ∧ Below w.heap.size w w' := by
  by_cases hE : plainE n f d p r dr o sl md fr zs = 0
  · by_cases h40 : 40 < s.size
    · have e : decR (plainE n f d p r dr o sl md fr zs) (3 * (f + 1)) (8 + n) zs.length md s = (pk0, 6) := by unfold decR; rw [if_neg (not_not_intro hE), if_pos h40]
      have C1 := fun V h => refPlain_any n f d p r dr o sl md fr ad cap zs V hl h
      rw [e]
      rw [hE] at C1
      have HT := hidden (hT.below (bthen (ballc w (.cells #[.int .i64 n, .int .i64 f, .int .i64 d, .int .i64 p, .int .i64 r, .int .i64 dr, .int .i64 o, .int .i64 sl, .int .i64 md, .int .i64 fr, .slice ad zs.length cap] 24)) (ballc _ (.cells #[.string ⟨#[]⟩, .int .i64 0, .string ⟨#[]⟩, .int .i64 0, .int .i64 0, .string ⟨#[]⟩] 26))))
      have h40' : (40 : Int) < (s.size : Int) := by omega
      clear hT hE e
      go_enter Try.func15, Try.ntmps15
      go_wp2_with fail
      refine (C1 _ HT.out).mono ?_
      rintro e w1 ⟨rfl, hb⟩
      have hz := blk_second _ _ _ _ hb
      have kc := blk_cell hz
      have kf := blk_frozen hz
      have HZ := hidden hz
      have HB := hidden (bthen (bthen (ballc w _) (ballc _ _)) hb)
      clear hb hz C1
      go_wp2
      obtain ⟨r0, r1, r2, r3, r4, r5⟩ := read6T HZ.out (.string ⟨#[]⟩) (.int .i64 0) (.string ⟨#[]⟩) (.int .i64 0) (.int .i64 0) (.string ⟨#[]⟩)
      exact bodyPost_ret (v := .tuple #[.agg #[.string ⟨#[]⟩, .int .i64 0, .string ⟨#[]⟩, .int .i64 0, .int .i64 0, .string ⟨#[]⟩], .int .i64 6]) (by simp [results, Try.results15, go_sem, r0, r1, r2, r3, r4, r5]) rfl ⟨rfl, below6T HB.out (by omega) _ _ _ _ _ _⟩
    · by_cases ho : (openF s).2 = 0
      · have e : decR (plainE n f d p r dr o sl md fr zs) (3 * (f + 1)) (8 + n) zs.length md s = if pkR 0 (3 * (f + 1)) (8 + n) zs.length md (guessF (bl (openF s).1) (3 * (f + 1)).toNat (8 + n).toNat) = 0 ∧ plainB (guessF (bl (openF s).1) (3 * (f + 1)).toNat (8 + n).toNat) = (openF s).1 then (guessF (bl (openF s).1) (3 * (f + 1)).toNat (8 + n).toNat, (0 : Int)) else (pk0, 3) := by
          unfold decR
          rw [if_neg (not_not_intro hE), if_neg h40, if_neg (not_not_intro ho), hE]
        exact rDecode_late n f d p r dr o sl md fr ad cap zs s w hl hT hE h40 ho (decR (plainE n f d p r dr o sl md fr zs) (3 * (f + 1)) (8 + n) zs.length md s).1 (decR (plainE n f d p r dr o sl md fr zs) (3 * (f + 1)) (8 + n) zs.length md s).2 (e.symm)
      · have e : decR (plainE n f d p r dr o sl md fr zs) (3 * (f + 1)) (8 + n) zs.length md s = (pk0, (openF s).2) := by unfold decR; rw [if_neg (not_not_intro hE), if_neg h40, if_pos ho]
        have C1 := fun V h => refPlain_any n f d p r dr o sl md fr ad cap zs V hl h
        have C2 := fun V => ropen_any s V (by omega)
        rw [e]
        rw [hE] at C1
        have HT := hidden (hT.below (bthen (ballc w (.cells #[.int .i64 n, .int .i64 f, .int .i64 d, .int .i64 p, .int .i64 r, .int .i64 dr, .int .i64 o, .int .i64 sl, .int .i64 md, .int .i64 fr, .slice ad zs.length cap] 24)) (ballc _ (.cells #[.string ⟨#[]⟩, .int .i64 0, .string ⟨#[]⟩, .int .i64 0, .int .i64 0, .string ⟨#[]⟩] 26))))
        have h40' : ¬ (40 : Int) < (s.size : Int) := by omega
        clear hT hE e
        generalize openF s = O at *
        obtain ⟨O1, O2⟩ := O
        dsimp only at *
        have ho' : (O2 != 0) = true := by simp [ho]
        go_enter Try.func15, Try.ntmps15
        go_wp2_with fail
        refine (C1 _ HT.out).mono ?_
        rintro e w1 ⟨rfl, hb⟩
        have HB1 := hidden hb
        clear hb C1
        go_wp2_with fail
        refine (C2 _).mono ?_
        rintro e w2 ⟨rfl, hb⟩
        have hb := bthen HB1.out hb
        have hz := blk_second _ _ _ _ hb
        have kc := blk_cell hz
        have kf := blk_frozen hz
        have HZ := hidden hz
        have HB := hidden (bthen (bthen (ballc w _) (ballc _ _)) hb)
        clear hb hz C2 HB1
        go_wp2
        obtain ⟨r0, r1, r2, r3, r4, r5⟩ := read6T HZ.out (.string ⟨#[]⟩) (.int .i64 0) (.string ⟨#[]⟩) (.int .i64 0) (.int .i64 0) (.string ⟨#[]⟩)
        exact bodyPost_ret (v := .tuple #[.agg #[.string ⟨#[]⟩, .int .i64 0, .string ⟨#[]⟩, .int .i64 0, .int .i64 0, .string ⟨#[]⟩], .int .i64 O2]) (by simp [results, Try.results15, go_sem, r0, r1, r2, r3, r4, r5]) rfl ⟨rfl, below6T HB.out (by omega) _ _ _ _ _ _⟩
  · have e : decR (plainE n f d p r dr o sl md fr zs) (3 * (f + 1)) (8 + n) zs.length md s = (pk0, plainE n f d p r dr o sl md fr zs) := by unfold decR; rw [if_pos hE]
    have C1 := fun V h => refPlain_any n f d p r dr o sl md fr ad cap zs V hl h
    rw [e]
    clear e
    generalize plainE n f d p r dr o sl md fr zs = E at *
    have HT := hidden (hT.below (bthen (ballc w (.cells #[.int .i64 n, .int .i64 f, .int .i64 d, .int .i64 p, .int .i64 r, .int .i64 dr, .int .i64 o, .int .i64 sl, .int .i64 md, .int .i64 fr, .slice ad zs.length cap] 24)) (ballc _ (.cells #[.string ⟨#[]⟩, .int .i64 0, .string ⟨#[]⟩, .int .i64 0, .int .i64 0, .string ⟨#[]⟩] 26))))
    have hE' : (E != 0) = true := by simp [hE]
    clear hT
    go_enter Try.func15, Try.ntmps15
    go_wp2_with fail
    refine (C1 _ HT.out).mono ?_
    rintro e w1 ⟨rfl, hb⟩
    obtain ⟨hbox, hbox2, hsz0, hsz⟩ := box_two hb
    have HT1 := hidden (HT.out.below hb)
    have HB1 := hidden hb
    clear hb HT
    go_wp2_with fail
    refine (C1 _ HT1.out).mono ?_
    rintro e w2 ⟨rfl, hb⟩
    have hb := bthen HB1.out hb
    have hz := blk_second _ _ _ _ hb
    have kc := blk_cell hz
    have kf := blk_frozen hz
    have HZ := hidden hz
    have HB := hidden (bthen (bthen (ballc w _) (ballc _ _)) hb)
    clear hb hz C1 HB1 hbox hbox2 hsz0 hsz
    go_wp2
    obtain ⟨r0, r1, r2, r3, r4, r5⟩ := read6T HZ.out (.string ⟨#[]⟩) (.int .i64 0) (.string ⟨#[]⟩) (.int .i64 0) (.int .i64 0) (.string ⟨#[]⟩)
    exact bodyPost_ret (v := .tuple #[.agg #[.string ⟨#[]⟩, .int .i64 0, .string ⟨#[]⟩, .int .i64 0, .int .i64 0, .string ⟨#[]⟩], .int .i64 E]) (by simp [results, Try.results15, go_sem, r0, r1, r2, r3, r4, r5]) rfl ⟨rfl, below6T HB.out (by omega) _ _ _ _ _ _⟩
end Go.Proofs.Ytcnmbpgjgjncdaa
