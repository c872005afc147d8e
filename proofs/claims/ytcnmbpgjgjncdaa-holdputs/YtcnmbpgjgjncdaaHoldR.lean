/- The document's calls Fits, Same, Empty and Held for frames that wait return what plain functions give, and make at most new memory; conditions: the table and the rows lie where they say, and their lengths fit int. -/
import Derived.Test.YtcnmbpgjgjncdaaHoldF
import Derived.Test.YtcnmbpgjgjncdaaConfRef
namespace Go.Proofs.Ytcnmbpgjgjncdaa
open Go.ChangeShapes Go.WideShapes Go.ChangeAt Go.RowKit
set_option linter.unusedVariables false
attribute [local go_sem] cell_rg

theorem strs_info : ∃ i, Try.prog.info? 9 = some i ∧ i.zero = some (.string noB) ∧ i.size = 1 ∧ i.bytes = 16 := by
  have h := infoStr
  cases hi : Try.prog.info? 9 with
  | none => rw [hi] at h; cases h
  | some i =>
    rw [hi] at h
    simp only [Option.map_some, Option.some.injEq, Prod.mk.injEq] at h
    exact ⟨i, rfl, h.1, h.2.1, h.2.2⟩
theorem lies_own {W : World} {base : Nat} {e : TypeId} {v : Value} {n : Nat} {L : List ByteArray} (h : W.ownsRow base e 1 v n (kStr.flat L)) (hn : L.length = n) : kStr.Lies W.heap.size W v L := by
  subst hn
  exact Kind.Lies.of_own (K := kStr) h
set_option maxHeartbeats 1000000 in
theorem rFits_ok (N : Nat) (f : Int) (D : Nat) (p r dr o sl md fr : Int) (ad : Option Addr) (cap : Nat) (zs : List Int) (a2 : Option Addr) (len c2 : Nat) (w : World) (hl : zs.length ≤ 9223372036854775807) (hT : Tab w ad zs) (hE : plainE (N : Int) f (D : Int) p r dr o sl md fr zs = 0) (hlen : len ≤ 9223372036854775807) :
    Calls Try.prog 45 #[.agg #[.int .i64 (N : Int), .int .i64 f, .int .i64 (D : Int), .int .i64 p, .int .i64 r, .int .i64 dr, .int .i64 o, .int .i64 sl, .int .i64 md, .int .i64 fr, .slice ad zs.length cap], .slice a2 len c2] w fun e w' => e = .returned (.bool (decide (len = N * D))) ∧ Below w.heap.size w w' := by
  obtain ⟨n1, n2, d1, d2⟩ := ND_caps N f D p r dr o sl md fr ad cap zs hE
  have C1 := fun V h => refPlain_any (N : Int) f (D : Int) p r dr o sl md fr ad cap zs V hl h
  rw [hE] at C1
  obtain ⟨M, hM⟩ : ∃ M, M = N * D := ⟨_, rfl⟩
  have hm : M ≤ 1000000 := by rw [hM]; have := mul_cast n2 d2; omega
  have hd : ((len : Int) == (M : Int)) = decide (len = M) := by
    by_cases h : len = M
    · subst h; simp
    · rw [decide_eq_false h]; simp; omega
  have e : (N : Int) * (D : Int) = (M : Int) := by rw [hM]; rfl
  have t1 := wr64 e hm
  rw [← hM]
  have HT := hidden (hT.below (ballc w (.cells #[.int .i64 (N : Int), .int .i64 f, .int .i64 (D : Int), .int .i64 p, .int .i64 r, .int .i64 dr, .int .i64 o, .int .i64 sl, .int .i64 md, .int .i64 fr, .slice ad zs.length cap] 24)))
  clear hM e hT hE n1 n2 d1 d2
  go_enter Try.func45, Try.ntmps45
  go_wp2_with fail
  refine (C1 _ HT.out).mono ?_
  rintro e w1 ⟨rfl, hb⟩
  obtain ⟨hbox, hsz⟩ := box_at hb
  have HB := hidden (bthen (ballc w _) hb)
  clear hb
  go_wp2
  go_ret
  exact ⟨rfl, HB.out⟩
set_option maxHeartbeats 1000000 in
theorem rFits_no (n f d p r dr o sl md fr : Int) (ad : Option Addr) (cap : Nat) (zs : List Int) (a2 : Option Addr) (len c2 : Nat) (w : World) (hl : zs.length ≤ 9223372036854775807) (hT : Tab w ad zs) (hE : ¬ plainE n f d p r dr o sl md fr zs = 0) :
    Calls Try.prog 45 #[.agg #[.int .i64 n, .int .i64 f, .int .i64 d, .int .i64 p, .int .i64 r, .int .i64 dr, .int .i64 o, .int .i64 sl, .int .i64 md, .int .i64 fr, .slice ad zs.length cap], .slice a2 len c2] w fun e w' => e = .returned (.bool false) ∧ Below w.heap.size w w' := by
  have C1 := fun V h => refPlain_any n f d p r dr o sl md fr ad cap zs V hl h
  generalize plainE n f d p r dr o sl md fr zs = E at *
  have hE' : (E == 0) = false := by simp [hE]
  have HT := hidden (hT.below (ballc w (.cells #[.int .i64 n, .int .i64 f, .int .i64 d, .int .i64 p, .int .i64 r, .int .i64 dr, .int .i64 o, .int .i64 sl, .int .i64 md, .int .i64 fr, .slice ad zs.length cap] 24)))
  clear hT hE
  go_enter Try.func45, Try.ntmps45
  go_wp2_with fail
  refine (C1 _ HT.out).mono ?_
  rintro e w1 ⟨rfl, hb⟩
  go_wp2
  go_ret
  exact ⟨rfl, bthen (ballc w _) hb⟩
set_option maxHeartbeats 1000000 in
theorem Same_eq (a1 a2 : Option Addr) (l1 l2 c1 c2 : Nat) (L : List ByteArray) (w : World) (hL : L.length ≤ 1000000) (h1 : kStr.Lies w.heap.size w (.slice a1 l1 c1) L) (h2 : kStr.Lies w.heap.size w (.slice a2 l2 c2) L) :
    Calls Try.prog 20 #[.slice a1 l1 c1, .slice a2 l2 c2] w fun e w' => e = .returned (.bool true) ∧ Below w.heap.size w w' := by
  obtain rfl := h1.len
  obtain rfl := h2.len
  have H1 := hidden h1
  have H2 := hidden h2
  clear h1 h2
  go_enter Try.func20, Try.ntmps20
  go_wp2
  go_loopw [5] (fun i wr => ∃ k : Nat, k ≤ L.length ∧ i = .int .i64 (k : Int) ∧ Below w.heap.size w wr) (fun i _ => L.length - (intV i).toNat)
  case atStart => exact ⟨0, Nat.zero_le _, rfl, Below.refl _ _⟩
  case round =>
    obtain ⟨k, hk, rfl, hB⟩ := hrel
    by_cases hlt : k < L.length
    · have i2 : (k : Int) < (L.length : Int) := by omega
      have i0 : (0 : Int) ≤ (k : Int) := by omega
      obtain ⟨b1, o1, rfl, hb1, x1⟩ := kStr_at H1.out k hlt
      obtain ⟨b2, o2, rfl, hb2, x2⟩ := kStr_at H2.out k hlt
      have y1 := (hB.cell (p := ⟨b1, o1 + k, none⟩) hb1).trans x1
      have y2 := (hB.cell (p := ⟨b2, o2 + k, none⟩) hb2).trans x2
      have z1 : b1 < wr.heap.size := Nat.lt_of_lt_of_le hb1 hB.size
      have z2 : b2 < wr.heap.size := Nat.lt_of_lt_of_le hb2 hB.size
      generalize L.getD k noB = X at y1 y2
      have e1 : (X.toList == X.toList) = true := by simp
      have HB := hidden hB
      clear x1 x2 hB
      go_wp2
      refine wp_region_quiet_below (by kernel_rfl) (by kernel_rfl) ?_
      repeat (go_big_quiet_step (fail))
      refine wpQuiet_nil ?_
      intro w2 hw2
      have HB2 := hidden (bthen HB.out (rg_below hw2))
      clear hw2
      go_wp2
      go_roundw
      case rel => exact ⟨k + 1, by omega, by go_num, HB2.out⟩
      case measure => simp [intV]; omega
    · have i2 : ¬ (k : Int) < (L.length : Int) := by omega
      go_wp2
      go_ret
      exact ⟨rfl, hB⟩
set_option maxHeartbeats 2000000 in
theorem rEmpty_ok (N : Nat) (f : Int) (D : Nat) (p r dr o sl md fr : Int) (ad : Option Addr) (cap : Nat) (zs : List Int) (w : World) (hl : zs.length ≤ 9223372036854775807) (hT : Tab w ad zs) (hE : plainE (N : Int) f (D : Int) p r dr o sl md fr zs = 0) :
    Calls Try.prog 22 #[.agg #[.int .i64 (N : Int), .int .i64 f, .int .i64 (D : Int), .int .i64 p, .int .i64 r, .int .i64 dr, .int .i64 o, .int .i64 sl, .int .i64 md, .int .i64 fr, .slice ad zs.length cap]] w fun e w' => ∃ a c, e = .returned (.slice a (N * D) c) ∧ kStr.Lies w'.heap.size w' (.slice a (N * D) c) (List.replicate (N * D) noB) ∧ Below w.heap.size w w' := by
  obtain ⟨n1, n2, d1, d2⟩ := ND_caps N f D p r dr o sl md fr ad cap zs hE
  have C1 := fun V h => refPlain_any (N : Int) f (D : Int) p r dr o sl md fr ad cap zs V hl h
  rw [hE] at C1
  obtain ⟨i0, hi, hz0, hz1, hz2⟩ := strs_info
  obtain ⟨M, hM⟩ : ∃ M, M = N * D := ⟨_, rfl⟩
  have hm : M ≤ 1000 := by rw [hM]; have := mul_cast n2 d2; omega
  have e : (N : Int) * (D : Int) = (M : Int) := by rw [hM]; rfl
  have t1 := wr64 e (by omega)
  rw [← hM]
  have HT := hidden (hT.below (ballc w (.cells #[.int .i64 (N : Int), .int .i64 f, .int .i64 (D : Int), .int .i64 p, .int .i64 r, .int .i64 dr, .int .i64 o, .int .i64 sl, .int .i64 md, .int .i64 fr, .slice ad zs.length cap] 24)))
  clear hM e hT hE n1 n2 d1 d2
  go_enter Try.func22, Try.ntmps22
  go_wp2_with fail
  refine (C1 _ HT.out).mono ?_
  rintro e w1 ⟨rfl, hb⟩
  have hbk := (hb.block w.heap.size (by simp)).trans (heap_alloc_new w _)
  have hsz := (Array.getElem?_eq_some_iff.1 hbk).1
  have HK := hidden hbk
  have HB := hidden (bthen (ballc w _) hb)
  clear hb hbk C1
  go_wp2
  go_loopw [3, 4] (fun v i wr => ∃ k : Nat, k ≤ M ∧ i = .int .i64 (k : Int) ∧ wr.ownsRow w1.heap.size 9 1 v k (kStr.flat (List.replicate k noB)) ∧ Below w1.heap.size w1 wr) (fun _ i _ => M - (intV i).toNat)
  case atStart => exact ⟨0, Nat.zero_le _, rfl, World.ownsRow_nil _ _ _ _, Below.refl _ _⟩
  case round =>
    obtain ⟨k, hk, rfl, hown, hB⟩ := hrel
    have lc := blk_cell ((hB.block _ hsz).trans HK.out)
    by_cases hlt : k < M
    · have i2 : (k : Int) < (M : Int) := by omega
      have HS : Hid (List.replicate (k + 1) noB = List.replicate k noB ++ [noB]) := List.replicate_succ'
      generalize List.replicate k noB = R0 at hown HS
      go_wp2_with (at_builtin; refine kStr.wpList_append _ rfl _ _ 39 rfl w1.heap.size 9 i0 (.string noB) 16 Try.underlying39 hi hz0 hz1 hz2 rfl u3 _ _ rfl (hown.alloc _) (.slice (some ⟨wr.heap.size, 0, none⟩) 1 1) [noB] rfl (Kind.Lies.of_block (K := kStr) (es := [noB]) (heap_alloc_new wr _) (by simp only [maxLen, List.length_singleton]; omega)) (by simp only [maxLen, List.length_singleton]; omega) (by simp only [List.length_singleton]; omega) (by have := hB.size; simp; omega) ?_; intro v2 w2 hown2 hgrow2 _)
      have hB2 : Below w1.heap.size w1 w2 := (hB.alloc hB.size _).grown hgrow2 (by have := hB.size; simp; omega) (own_from hown)
      go_roundw
      case rel => exact ⟨k + 1, by omega, by go_num, by rw [HS.out, Kind.flat_append]; exact hown2, hB2⟩
      case measure => simp [intV]; omega
    · obtain rfl : k = M := by omega
      have hlies := lies_own hown List.length_replicate
      obtain ⟨ab, cb, rfl⟩ := own_slice hown
      go_wp2
      go_ret
      exact ⟨ab, cb, rfl, hlies, bthen HB.out hB⟩
set_option maxHeartbeats 1000000 in
theorem rEmpty_no (n f d p r dr o sl md fr : Int) (ad : Option Addr) (cap : Nat) (zs : List Int) (w : World) (hl : zs.length ≤ 9223372036854775807) (hT : Tab w ad zs) (hE : ¬ plainE n f d p r dr o sl md fr zs = 0) :
    Calls Try.prog 22 #[.agg #[.int .i64 n, .int .i64 f, .int .i64 d, .int .i64 p, .int .i64 r, .int .i64 dr, .int .i64 o, .int .i64 sl, .int .i64 md, .int .i64 fr, .slice ad zs.length cap]] w fun e w' => e = .returned (.slice none 0 0) ∧ Below w.heap.size w w' := by
  have C1 := fun V h => refPlain_any n f d p r dr o sl md fr ad cap zs V hl h
  generalize plainE n f d p r dr o sl md fr zs = E at *
  have hE' : (E != 0) = true := by simp [hE]
  have HT := hidden (hT.below (ballc w (.cells #[.int .i64 n, .int .i64 f, .int .i64 d, .int .i64 p, .int .i64 r, .int .i64 dr, .int .i64 o, .int .i64 sl, .int .i64 md, .int .i64 fr, .slice ad zs.length cap] 24)))
  clear hT hE
  go_enter Try.func22, Try.ntmps22
  go_wp2_with fail
  refine (C1 _ HT.out).mono ?_
  rintro e w1 ⟨rfl, hb⟩
  go_wp2
  go_ret
  exact ⟨rfl, bthen (ballc w _) hb⟩
end Go.Proofs.Ytcnmbpgjgjncdaa
