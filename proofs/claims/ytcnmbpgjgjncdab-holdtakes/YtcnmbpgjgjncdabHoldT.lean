/- The document's call Take for frames that wait returns what plain functions give, in memory of its own, and makes at most new memory; conditions: the table and the row lie where they say, and their lengths fit int. -/
import Derived.Test.YtcnmbpgjgjncdabHoldR
namespace Go.Proofs.Ytcnmbpgjgjncdab
open Go.ChangeShapes Go.WideShapes Go.ChangeAt Go.RowKit
set_option linter.unusedVariables false

/-- A part of a row of texts: what is cut, and where it lies. -/
theorem kStr_cut {n₀ : Nat} {W : World} {b o len cap : Nat} {hs : List ByteArray} (hL : kStr.Lies n₀ W (.slice (some ⟨b, o, none⟩) len cap) hs) (L Q : Nat) (h1 : L ≤ Q) (h2 : Q ≤ hs.length) :
    ∃ sp, (∀ V : World, (Instr.slice 25 (.slice (some ⟨b, o, none⟩) len cap) (some (.int .i64 (L : Int))) (some (.int .i64 (Q : Int))) none).run Try.prog V = .ok (.slice sp (Q - L) (cap - L)) V) ∧ kStr.Lies n₀ W (.slice sp (Q - L) (cap - L)) ((hs.drop L).take (Q - L)) := by
  obtain ⟨hc1, hc2⟩ := kStr_caps hL
  obtain rfl := hL.len
  refine ⟨if cap = L then some ⟨b, o, none⟩ else some ⟨b, o + L, none⟩, fun V => ?_, ?_⟩
  · have ht : Try.prog.underlying 25 = some (.slice (Try.prog.elem 25)) := by kernel_rfl
    rw [run_slice_lh V 25 _ hs.length cap ht .i64 .i64 L Q (by omega) (by omega) (by omega)]
    have hz : (sizeOf (Try.prog.elem 25)).run Try.prog V = .ok 1 V := rfl
    rw [hz]
    simp only [Result.andThen, sliced, Int.toNat_natCast]
    by_cases h : cap = L
    · simp [h]
    · have e : (⟨b, o, none⟩ : Addr).add L = ⟨b, o + L, none⟩ := add_plain _ _ _
      simp [h, e]
  · by_cases h : cap = L
    · have e1 : Q - L = 0 := by omega
      rw [if_pos h, e1, List.take_zero]
      refine ⟨_, _, rfl, Nat.zero_le _, by unfold maxLen; omega, fun h => (by cases h), fun hj => absurd hj (Nat.not_lt_zero _)⟩
    · rw [if_neg h]
      have hd := hL.drop L (by omega)
      have e2 : L * kStr.k = L := Nat.mul_one L
      rw [e2] at hd
      exact hd.take (Q - L) (by rw [List.length_drop]; omega)
theorem takeN_step (k D : Nat) (hs : List ByteArray) : takeN k D hs ++ [hs.getD (k * D) noB] = takeN (k + 1) D hs := by simp [takeN, List.range_succ]
theorem takeR_step (k D : Nat) (hs : List ByteArray) (hD : 0 < D) (hl : k * D + D ≤ hs.length) : takeR (k * D) D hs ++ (hs.drop (k * D + 1)).take (D - 1) ++ [noB] = takeR (k * D + D) D hs := by
  have hc : ((hs.drop (k * D + 1)).take (D - 1)).length = D - 1 := by rw [List.length_take, List.length_drop]; omega
  apply list_ext
  · rw [List.length_append, List.length_append, takeR_length, takeR_length, hc, List.length_singleton]; omega
  · intro j hj
    rw [List.length_append, List.length_append, takeR_length, hc, List.length_singleton] at hj
    rw [takeR_at _ _ _ _ (by omega)]
    rw [List.getD_eq_getElem?_getD]
    by_cases h1 : j < k * D
    · rw [List.append_assoc, List.getElem?_append_left (by rw [takeR_length]; exact h1), ← List.getD_eq_getElem?_getD, takeR_at _ _ _ _ h1]
    · by_cases h2 : j < k * D + (D - 1)
      · have hm : ¬ (j + 1) % D = 0 := by
          have e : j + 1 = k * D + (j + 1 - k * D) := by omega
          rw [e, place_mod D k _ (by omega)]
          omega
        rw [List.append_assoc, List.getElem?_append_right (by rw [takeR_length]; omega), takeR_length, List.getElem?_append_left (by rw [hc]; omega), ← List.getD_eq_getElem?_getD, drop_at _ _ _ _ (by omega), if_neg hm]
        congr 1
        omega
      · have e : j = k * D + (D - 1) := by omega
        rw [List.getElem?_append_right (by rw [List.length_append, takeR_length, hc]; omega), if_pos]
        · have e0 : j - (takeR (k * D) D hs ++ (hs.drop (k * D + 1)).take (D - 1)).length = 0 := by rw [List.length_append, takeR_length, hc]; omega
          rw [e0]; rfl
        · have e1 : j + 1 = (k + 1) * D := by rw [Nat.add_mul]; omega
          rw [e1, Nat.mul_mod_left]
set_option maxHeartbeats 1000000 in
theorem rTake_nil (n f d p r dr o sl md fr : Int) (ad : Option Addr) (cap : Nat) (zs : List Int) (a2 : Option Addr) (len c2 : Nat) (w : World) (hl : zs.length ≤ 9223372036854775807) (hT : Tab w ad zs) (hE : ¬ plainE n f d p r dr o sl md fr zs = 0) :
    Calls Try.prog 8 #[.agg #[.int .i64 n, .int .i64 f, .int .i64 d, .int .i64 p, .int .i64 r, .int .i64 dr, .int .i64 o, .int .i64 sl, .int .i64 md, .int .i64 fr, .slice ad zs.length cap], .slice a2 len c2] w fun e w' => e = .returned (.tuple #[.slice none 0 0, .slice none 0 0]) ∧ Below w.heap.size w w' := by
  have C1 := fun V h => rFits_no n f d p r dr o sl md fr ad cap zs a2 len c2 V hl h hE
  have HT := hidden (hT.below (ballc w (.cells #[.int .i64 n, .int .i64 f, .int .i64 d, .int .i64 p, .int .i64 r, .int .i64 dr, .int .i64 o, .int .i64 sl, .int .i64 md, .int .i64 fr, .slice ad zs.length cap] 24)))
  clear hT hE
  go_enter Try.func8, Try.ntmps8
  go_wp2_with fail
  refine (C1 _ HT.out).mono ?_
  rintro e w1 ⟨rfl, hb⟩
  go_wp2
  go_ret2
  exact ⟨rfl, bthen (ballc w _) hb⟩
set_option maxHeartbeats 1000000 in
theorem rTake_unfit (N : Nat) (f : Int) (D : Nat) (p r dr o sl md fr : Int) (ad : Option Addr) (cap : Nat) (zs : List Int) (a2 : Option Addr) (len c2 : Nat) (w : World) (hl : zs.length ≤ 9223372036854775807) (hT : Tab w ad zs) (hE : plainE (N : Int) f (D : Int) p r dr o sl md fr zs = 0) (hlen : len ≤ 9223372036854775807) (hf : ¬ len = N * D) :
    Calls Try.prog 8 #[.agg #[.int .i64 (N : Int), .int .i64 f, .int .i64 (D : Int), .int .i64 p, .int .i64 r, .int .i64 dr, .int .i64 o, .int .i64 sl, .int .i64 md, .int .i64 fr, .slice ad zs.length cap], .slice a2 len c2] w fun e w' => e = .returned (.tuple #[.slice none 0 0, .slice none 0 0]) ∧ Below w.heap.size w w' := by
  have C1 := fun V h => rFits_ok N f D p r dr o sl md fr ad cap zs a2 len c2 V hl h hE hlen
  rw [decide_eq_false hf] at C1
  have HT := hidden (hT.below (ballc w (.cells #[.int .i64 (N : Int), .int .i64 f, .int .i64 (D : Int), .int .i64 p, .int .i64 r, .int .i64 dr, .int .i64 o, .int .i64 sl, .int .i64 md, .int .i64 fr, .slice ad zs.length cap] 24)))
  clear hT hE hf
  go_enter Try.func8, Try.ntmps8
  go_wp2_with fail
  refine (C1 _ HT.out).mono ?_
  rintro e w1 ⟨rfl, hb⟩
  go_wp2
  go_ret2
  exact ⟨rfl, bthen (ballc w _) hb⟩
theorem Hid2 {q : Prop} (h : Hid q) : q := h
/-- Two rows of one's own are in two blocks. -/
def TwoOwn (u v : Value) : Prop := ∀ g, u.ownBlock = some g → v.ownBlock = some g → False
theorem TwoOwn.ne {u v : Value} (h : TwoOwn u v) : v.ownBlock = none ∨ v.ownBlock ≠ u.ownBlock := by
  cases hv : v.ownBlock with
  | none => exact .inl rfl
  | some g => exact .inr fun e => h g e.symm hv
theorem TwoOwn.symm {u v : Value} (h : TwoOwn u v) : TwoOwn v u := fun g a b => h g b a
theorem TwoOwn.new {u v u' : Value} {n : Nat} (h : TwoOwn u v) (hu : u'.ownBlock = u.ownBlock ∨ u'.ownBlock = some n) (hv : ∀ g, v.ownBlock = some g → g < n) : TwoOwn u' v := by
  intro g a b
  rcases hu with hu | hu
  · exact h g (hu ▸ a) b
  · have e : g = n := by rw [hu] at a; exact (Option.some.inj a).symm
    have := hv g b
    omega
set_option maxHeartbeats 4000000 in
theorem rTake_ok (N : Nat) (f : Int) (D : Nat) (p r dr o sl md fr : Int) (ad : Option Addr) (cap : Nat) (zs : List Int) (a2 : Option Addr) (len c2 : Nat) (hs : List ByteArray) (w : World) (hl : zs.length ≤ 9223372036854775807) (hT : Tab w ad zs) (hE : plainE (N : Int) f (D : Int) p r dr o sl md fr zs = 0) (hf : hs.length = N * D) (hL : kStr.Lies w.heap.size w (.slice a2 len c2) hs) :
    Calls Try.prog 8 #[.agg #[.int .i64 (N : Int), .int .i64 f, .int .i64 (D : Int), .int .i64 p, .int .i64 r, .int .i64 dr, .int .i64 o, .int .i64 sl, .int .i64 md, .int .i64 fr, .slice ad zs.length cap], .slice a2 len c2] w fun e w' => ∃ a1 c1 a3 c3, e = .returned (.tuple #[.slice a1 N c1, .slice a3 (N * D) c3]) ∧ kStr.Lies w'.heap.size w' (.slice a1 N c1) (takeN N D hs) ∧ kStr.Lies w'.heap.size w' (.slice a3 (N * D) c3) (takeR (N * D) D hs) ∧ Below w.heap.size w w' := by
  obtain ⟨n1, n2, d1, d2⟩ := ND_caps N f D p r dr o sl md fr ad cap zs hE
  have hm := mul_cast n2 d2
  obtain rfl := hL.len
  have hpos : 0 < hs.length := by rw [hf]; exact Nat.mul_pos (by omega) (by omega)
  obtain ⟨hc1, hc2⟩ := kStr_caps hL
  obtain ⟨b, off, rfl, hbl, _⟩ := kStr_at hL 0 hpos
  have C2 := fun V h => rFits_ok N f D p r dr o sl md fr ad cap zs (some ⟨b, off, none⟩) hs.length c2 V hl h hE (by omega)
  rw [decide_eq_true hf] at C2
  obtain ⟨i0, hi, hz0, hz1, hz2⟩ := strs_info
  have HT := hidden (hT.below (ballc w (.cells #[.int .i64 (N : Int), .int .i64 f, .int .i64 (D : Int), .int .i64 p, .int .i64 r, .int .i64 dr, .int .i64 o, .int .i64 sl, .int .i64 md, .int .i64 fr, .slice ad zs.length cap] 24)))
  have HL := hidden hL
  have HF := hidden hf
  have hln : hs.length ≤ 52 := by omega
  clear hT hE hf hL
  go_enter Try.func8, Try.ntmps8
  go_wp2_with fail
  refine (C2 _ HT.out).mono ?_
  rintro e w1 ⟨rfl, hb⟩
  have hbk := (hb.block w.heap.size (by simp)).trans (heap_alloc_new w _)
  have hsz := (Array.getElem?_eq_some_iff.1 hbk).1
  have HK := hidden hbk
  have HB := hidden (bthen (ballc w _) hb)
  clear hb hbk C2
  go_wp2
  go_loopw [6, 7, 8] (fun v u i wr => ∃ k : Nat, k ≤ N ∧ i = .int .i64 (k : Int) ∧ wr.ownsRow w1.heap.size 9 1 v k (kStr.flat (takeN k D hs)) ∧ wr.ownsRow w1.heap.size 9 1 u (k * D) (kStr.flat (takeR (k * D) D hs)) ∧ TwoOwn v u ∧ Below w1.heap.size w1 wr) (fun _ _ i _ => N - (intV i).toNat)
  case atStart =>
    refine ⟨0, Nat.zero_le _, rfl, World.ownsRow_nil _ _ _ _, ?_, fun g a _ => (by cases a), Below.refl _ _⟩
    rw [Nat.zero_mul]
    exact World.ownsRow_nil _ _ _ _
  case round =>
    obtain ⟨k, hk, rfl, hown, hown2, hTwo, hB⟩ := hrel
    have lc := blk_cell ((hB.block _ hsz).trans HK.out)
    by_cases hlt : k < N
    · have i2 : (k : Int) < (N : Int) := by omega
      obtain ⟨P, hP⟩ : ∃ P, P = k * D := ⟨_, rfl⟩
      obtain ⟨Q, hQ⟩ : ∃ Q, Q = P + D := ⟨_, rfl⟩
      have hQl : Q ≤ hs.length := by
        rw [hQ, hP, HF.out]
        have h1 : (k + 1) * D ≤ N * D := Nat.mul_le_mul_right D hlt
        rw [Nat.add_mul] at h1
        omega
      have e1 : (k : Int) * (D : Int) = (P : Int) := by rw [hP]; rfl
      have e2 : ((k : Int) + 1) * (D : Int) = (Q : Int) := by rw [Int.add_mul, e1, Int.one_mul, hQ]; rfl
      have HS1 := hidden (takeN_step k D hs)
      have HS2 := hidden (takeR_step k D hs (by omega) (by omega))
      obtain ⟨b', off', hbo, _, hx⟩ := kStr_at HL.out P (by omega)
      obtain ⟨rfl, rfl⟩ : b = b' ∧ off = off' := by simpa using hbo
      obtain ⟨sp, hsl, hcut⟩ := kStr_cut HL.out (P + 1) Q (by omega) hQl
      have hBw : Below w.heap.size w wr := bthen HB.out hB
      have hx3 := (hBw.cell (p := ⟨b, off + P, none⟩) hbl).trans hx
      have hsl' : ∀ V : World, (Instr.slice 25 (.slice (some ⟨b, off, none⟩) hs.length c2) (some (.int .i64 ((P : Int) + 1))) (some (.int .i64 (Q : Int))) none).run Try.prog V = .ok (.slice sp (Q - (P + 1)) (c2 - (P + 1))) V := hsl
      have eq1 : Q - (P + 1) = D - 1 := by omega
      rw [eq1] at hsl' hcut
      have hcl := hcut.len
      rw [← hP] at hown2 HS1 HS2
      have HQ := hidden hQ
      have HP := hidden hP
      have j1 : (P : Int) < (hs.length : Int) := by omega
      have j0 : (0 : Int) ≤ (P : Int) := by omega
      have HCUT := hidden hcut
      clear hx hbo hsl hQ hP hcut eq1
      generalize hs.getD P noB = X at hx3 HS1
      generalize takeN k D hs = A1 at hown HS1
      generalize takeR P D hs = A2 at hown2 HS2
      generalize (hs.drop (P + 1)).take (D - 1) = M1 at HCUT HS2 hcl
      have HCL := hidden hcl
      clear hcl
      go_wp2_with (at_builtin; refine kStr.wpList_append _ rfl (.tmp 19) (.tmp 27) 25 rfl w1.heap.size 9 i0 (.string noB) 16 Try.underlying25 hi hz0 hz1 hz2 rfl u6 k _ rfl (hown.alloc _) (.slice (some ⟨wr.heap.size, 0, none⟩) 1 1) [X] rfl (Kind.Lies.of_block (K := kStr) (es := [X]) (heap_alloc_new wr _) (by simp only [maxLen, List.length_singleton]; omega)) (by simp only [maxLen, List.length_singleton]; omega) (by simp only [List.length_singleton]; omega) (by have := hB.size; simp; omega) ?_; intro v3 w3 hown3 hgrow3 hbl3; refine Hid2 ?_)
      have hB3 : Below w1.heap.size w1 w3 := (hB.alloc hB.size _).grown hgrow3 (by have := hB.size; simp; omega) (own_from hown)
      have lc3 := blk_cell ((hB3.block _ hsz).trans HK.out)
      have hown2' := World.ownsRow.kept (hown2.alloc (.cells #[.string X] 9)) hgrow3 hTwo.ne
      have hTwo3 : TwoOwn v3 u7 := hTwo.new hbl3 (fun g h => ((hown2.alloc (.cells #[.string X] 9)).lt g h).2)
      refine hidden ?_
      go_wp2_with (at_builtin; refine kStr.wpList_append _ rfl (.tmp 29) (.tmp 41) 25 rfl w1.heap.size 9 i0 (.string noB) 16 Try.underlying25 hi hz0 hz1 hz2 rfl u7 P _ rfl hown2' (.slice sp (D - 1) (c2 - (P + 1))) M1 rfl (HCUT.out.below (bthen HB.out hB3)) (by have := HCL.out; simp only [maxLen]; omega) (by have := HCL.out; omega) hB3.size ?_; intro v4 w4 hown4 hgrow4 hbl4; refine Hid2 ?_)
      have hB4 : Below w1.heap.size w1 w4 := hB3.grown hgrow4 hB3.size (own_from hown2')
      have hown3' := World.ownsRow.kept hown3 hgrow4 hTwo3.symm.ne
      have hTwo4 : TwoOwn v4 v3 := hTwo3.symm.new hbl4 (fun g h => (hown3.lt g h).2)
      refine hidden ?_
      go_wp2_with (at_builtin; refine kStr.wpList_append _ rfl (.tmp 43) (.tmp 44) 25 rfl w1.heap.size 9 i0 (.string noB) 16 Try.underlying25 hi hz0 hz1 hz2 rfl v4 (P + M1.length) _ rfl (hown4.alloc _) (.slice (some ⟨w4.heap.size, 0, none⟩) 1 1) [noB] rfl (Kind.Lies.of_block (K := kStr) (es := [noB]) (heap_alloc_new w4 _) (by simp only [maxLen, List.length_singleton]; omega)) (by have := HCL.out; simp only [maxLen, List.length_singleton]; omega) (by have := HCL.out; simp only [List.length_singleton]; omega) (by have := hB4.size; simp; omega) ?_; intro v5 w5 hown5 hgrow5 hbl5)
      have hB5 : Below w1.heap.size w1 w5 := (hB4.alloc hB4.size _).grown hgrow5 (by have := hB4.size; simp; omega) (own_from hown4)
      have hown3'' := World.ownsRow.kept (hown3'.alloc (.cells #[.string noB] 9)) hgrow5 hTwo4.ne
      have hTwo5 : TwoOwn v5 v3 := hTwo4.new hbl5 (fun g h => ((hown3'.alloc (.cells #[.string noB] 9)).lt g h).2)
      go_roundw
      case rel =>
        refine ⟨k + 1, by omega, by go_num, ?_, ?_, hTwo5.symm, hB5⟩
        · rw [← HS1.out, Kind.flat_append]
          exact hown3''
        · have eD : (k + 1) * D = P + D := by rw [Nat.add_mul, HP.out]; omega
          rw [eD, ← HS2.out, Kind.flat_append, Kind.flat_append]
          have e3 : P + M1.length + 1 = P + D := by have := HCL.out; omega
          rw [← e3]
          exact hown5
      case measure => simp [intV]; omega
    · obtain rfl : k = N := by omega
      have l1 := lies_own hown (takeN_length k D hs)
      have l2 := lies_own hown2 (takeR_length (k * D) D hs)
      obtain ⟨a1, c1, rfl⟩ := own_slice hown
      obtain ⟨a3, c3, rfl⟩ := own_slice hown2
      go_wp2
      go_ret2
      exact ⟨a1, c1, a3, c3, rfl, l1, l2, bthen HB.out hB⟩
end Go.Proofs.Ytcnmbpgjgjncdab
