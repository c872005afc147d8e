/- The fixed calls of the statements on package hold come out as they must, and make at most new memory; no conditions. -/
import Derived.Test.YtcnmbpgjgjncdaaHoldH
import Derived.Test.YtcnmbpgjgjncdaaHoldR
namespace Go.Proofs.Ytcnmbpgjgjncdaa
open Go.ChangeShapes Go.WideShapes Go.ChangeAt Go.RowKit
set_option linter.unusedVariables false

theorem TabFour (w : World) (t : TypeId) (g : Nat) (hg : g = w.heap.size) : Tab (w.alloc (.cells #[.int .i64 0, .int .i64 1, .int .i64 2, .int .i64 3] t)) (some ⟨g, 0, none⟩) [0, 1, 2, 3] := by
  subst hg
  intro i hi
  refine ⟨_, rfl, ?_⟩
  have hi' : i = 0 ∨ i = 1 ∨ i = 2 ∨ i = 3 := by simp at hi; omega
  rcases hi' with rfl | rfl | rfl | rfl <;> exact World.cell?_alloc_mark w _ t _ _
theorem two_any (w : World) :
    Calls Try.prog 40 #[] w fun e w' => ∃ g, e = .returned (.agg #[.int .i64 4, .int .i64 1, .int .i64 2, .int .i64 30, .int .i64 1, .int .i64 0, .int .i64 0, .int .i64 5, .int .i64 10, .int .i64 3, .slice (some ⟨g, 0, none⟩) 4 4]) ∧ Tab w' (some ⟨g, 0, none⟩) [0, 1, 2, 3] ∧ Below w.heap.size w w' := by
  go_enter Try.func40, Try.ntmps40
  go_wp2
  refine bodyPost_ret (v := .agg #[.int .i64 4, .int .i64 1, .int .i64 2, .int .i64 30, .int .i64 1, .int .i64 0, .int .i64 0, .int .i64 5, .int .i64 10, .int .i64 3, .slice (some ⟨w.heap.size + 1, 0, none⟩) 4 4]) (by simp [results, Try.results40, go_sem]) rfl ⟨_, rfl, TabFour _ _ _ (by simp), Joins.below_alloc2 _ _ _⟩
theorem plainE_two : plainE ((4 : Nat) : Int) 1 ((2 : Nat) : Int) 30 1 0 0 5 10 3 [0, 1, 2, 3] = 0 := by decide
def sA : ByteArray := ⟨#[97]⟩
def sB : ByteArray := ⟨#[98]⟩
theorem emt_A : emt sA = false := by unfold emt; rw [ByteArray.toList_eq]; rfl
theorem emt_B : emt sB = false := by unfold emt; rw [ByteArray.toList_eq]; rfl
theorem wr_A : wrE 0 ((4 : Nat) : Int) ((2 : Nat) : Int) ((8 : Nat) : Int) ((1 : Nat) : Int) ((1 : Nat) : Int) sA = 0 := wr_6 rfl (by decide) (by decide) (by decide) (by rw [emt_A]; decide) (by decide)
theorem wr_B : wrE 0 ((4 : Nat) : Int) ((2 : Nat) : Int) ((8 : Nat) : Int) ((1 : Nat) : Int) ((1 : Nat) : Int) sB = 0 := wr_6 rfl (by decide) (by decide) (by decide) (by rw [emt_B]; decide) (by decide)
def h8 : List ByteArray := [noB, noB, noB, sA, noB, noB, noB, noB]
def r8 : List ByteArray := [noB, noB, sA, noB, noB, noB, noB, noB]
def n4 : List ByteArray := [noB, noB, noB, noB]
theorem set_h8 : (List.replicate 8 noB).set (1 * 2 + (2 - 1)) sA = h8 := rfl
theorem take_n4 : takeN 4 2 h8 = n4 := rfl
theorem take_r8 : takeR (4 * 2) 2 h8 = r8 := rfl
theorem held_r8 : heldK 2 r8 1 2 = 1 := by
  rw [heldK_succ, heldK_succ, heldK_zero]
  have e1 : r8.getD (1 * 2 + 0) noB = sA := rfl
  have e2 : r8.getD (1 * 2 + 1) noB = noB := rfl
  rw [e1, e2, emt_A, emt_noB]
  rfl
theorem two_empty (g : Nat) (w : World) (hT : Tab w (some ⟨g, 0, none⟩) [0, 1, 2, 3]) :
    Calls Try.prog 21 #[.agg #[.int .i64 4, .int .i64 1, .int .i64 2, .int .i64 30, .int .i64 1, .int .i64 0, .int .i64 0, .int .i64 5, .int .i64 10, .int .i64 3, .slice (some ⟨g, 0, none⟩) 4 4]] w fun e w' => ∃ q, e = .returned (.slice (some ⟨q, 0, none⟩) 8 8) ∧ SBlk w' q (List.replicate 8 noB) ∧ Below w.heap.size w w' :=
  (Empty_ok 4 1 2 30 1 0 0 5 10 3 (some ⟨g, 0, none⟩) 4 [0, 1, 2, 3] w (by decide) hT plainE_two).mono fun e w' ⟨q, h1, h2, _, h3⟩ => ⟨q, h1, h2, h3⟩
theorem two_putA (g q : Nat) (w : World) (hT : Tab w (some ⟨g, 0, none⟩) [0, 1, 2, 3]) (hk : SBlk w q (List.replicate 8 noB)) :
    Calls Try.prog 18 #[.agg #[.int .i64 4, .int .i64 1, .int .i64 2, .int .i64 30, .int .i64 1, .int .i64 0, .int .i64 0, .int .i64 5, .int .i64 10, .int .i64 3, .slice (some ⟨g, 0, none⟩) 4 4], .slice (some ⟨q, 0, none⟩) 8 8, .int .i64 1, .int .i64 1, .string ⟨#[97]⟩] w fun e w' => ∃ q, e = .returned (.tuple #[.slice (some ⟨q, 0, none⟩) 8 8, .int .i64 0]) ∧ SBlk w' q h8 ∧ Below w.heap.size w w' := by
  refine (Put_late 4 1 2 30 1 0 0 5 10 3 (some ⟨g, 0, none⟩) 4 [0, 1, 2, 3] (some ⟨q, 0, none⟩) 8 8 (List.replicate 8 noB) 1 1 sA w (by decide) hT plainE_two rfl (by decide) (by decide) (by decide) wr_A (by decide) (hk.lies (by decide))).mono ?_
  rintro e w' ⟨_, k2, hb⟩
  obtain ⟨G, e1, e2⟩ := k2 emt_noB
  exact ⟨G, e1, e2, hb⟩
theorem two_putB (g q : Nat) (w : World) (hT : Tab w (some ⟨g, 0, none⟩) [0, 1, 2, 3]) (hk : SBlk w q h8) :
    Calls Try.prog 18 #[.agg #[.int .i64 4, .int .i64 1, .int .i64 2, .int .i64 30, .int .i64 1, .int .i64 0, .int .i64 0, .int .i64 5, .int .i64 10, .int .i64 3, .slice (some ⟨g, 0, none⟩) 4 4], .slice (some ⟨q, 0, none⟩) 8 8, .int .i64 1, .int .i64 1, .string ⟨#[98]⟩] w fun e w' => e = .returned (.tuple #[.slice none 0 0, .int .i64 13]) ∧ Below w.heap.size w w' := by
  refine (Put_late 4 1 2 30 1 0 0 5 10 3 (some ⟨g, 0, none⟩) 4 [0, 1, 2, 3] (some ⟨q, 0, none⟩) 8 8 h8 1 1 sB w (by decide) hT plainE_two rfl (by decide) (by decide) (by decide) wr_B (by decide) (hk.lies (by decide))).mono ?_
  rintro e w' ⟨k1, _, hb⟩
  exact ⟨k1 emt_A, hb⟩
theorem two_take (g q : Nat) (w : World) (hT : Tab w (some ⟨g, 0, none⟩) [0, 1, 2, 3]) (hk : SBlk w q h8) :
    Calls Try.prog 41 #[.agg #[.int .i64 4, .int .i64 1, .int .i64 2, .int .i64 30, .int .i64 1, .int .i64 0, .int .i64 0, .int .i64 5, .int .i64 10, .int .i64 3, .slice (some ⟨g, 0, none⟩) 4 4], .slice (some ⟨q, 0, none⟩) 8 8] w fun e w' => ∃ g1 g2, e = .returned (.tuple #[.slice (some ⟨g1, 0, none⟩) 4 4, .slice (some ⟨g2, 0, none⟩) 8 8]) ∧ SBlk w' g1 n4 ∧ SBlk w' g2 r8 ∧ Below w.heap.size w w' := by
  refine (Take_ok 4 1 2 30 1 0 0 5 10 3 (some ⟨g, 0, none⟩) 4 [0, 1, 2, 3] (some ⟨q, 0, none⟩) 8 8 h8 w (by decide) hT plainE_two rfl (hk.lies (by decide))).mono ?_
  rintro e w' ⟨g1, g2, e1, k1, k2, _, _, hb⟩
  exact ⟨g1, g2, e1, k1, k2, hb⟩
theorem two_held (g q : Nat) (w : World) (hT : Tab w (some ⟨g, 0, none⟩) [0, 1, 2, 3]) (hk : SBlk w q r8) :
    Calls Try.prog 42 #[.agg #[.int .i64 4, .int .i64 1, .int .i64 2, .int .i64 30, .int .i64 1, .int .i64 0, .int .i64 0, .int .i64 5, .int .i64 10, .int .i64 3, .slice (some ⟨g, 0, none⟩) 4 4], .slice (some ⟨q, 0, none⟩) 8 8, .int .i64 1] w fun e w' => e = .returned (.int .i64 1) ∧ Below w.heap.size w w' := by
  have h := Held_ok 4 1 2 30 1 0 0 5 10 3 (some ⟨g, 0, none⟩) 4 [0, 1, 2, 3] (some ⟨q, 0, none⟩) 8 8 r8 1 w (by decide) hT plainE_two rfl (by decide) (hk.lies (by decide))
  rw [held_r8] at h
  exact h
theorem lies_lit {W : World} {g : Nat} {l : List ByteArray} {n : Nat} (hn : l.length = n) (h : SBlk W g l) (hl : n ≤ 1000) : kStr.Lies W.heap.size W (.slice (some ⟨g, 0, none⟩) n n) l := by
  subst hn
  exact h.lies (by unfold maxLen; omega)
set_option maxHeartbeats 4000000 in
theorem known12_any (w : World) :
    Calls Try.prog 17 #[] w fun e w' => e = .returned (.bool true) ∧ Below w.heap.size w w' := by
  go_enter Try.func17, Try.ntmps17
  go_wp2_with fail
  refine (two_any _).mono ?_
  rintro e w1 ⟨g1, rfl, hT1, hb⟩
  have HB1 := hidden hb
  have HT1 := hidden hT1
  clear hb hT1
  go_wp2_with fail
  refine (two_any _).mono ?_
  rintro e w2 ⟨g2, rfl, hT2, hb⟩
  have HT1' := hidden (HT1.out.below hb)
  have HB2 := hidden (bthen HB1.out hb)
  clear hb HB1 HT1
  go_wp2_with fail
  refine (two_empty g2 _ hT2).mono ?_
  rintro e w3 ⟨q3, rfl, hk3, hb⟩
  have HT1 := hidden (HT1'.out.below hb)
  have HB3 := hidden (bthen HB2.out hb)
  have HK3 := hidden hk3
  clear hb HB2 HT1' hT2 hk3
  go_wp2_with fail
  refine (two_putA g1 q3 _ HT1.out HK3.out).mono ?_
  rintro e w4 ⟨q4, rfl, hk4, hb⟩
  have HB4 := hidden (bthen HB3.out hb)
  have HK4 := hidden hk4
  clear hb HB3 HT1 HK3 hk4
  go_wp2_with fail
  refine (two_any _).mono ?_
  rintro e w5 ⟨g5, rfl, hT5, hb⟩
  have HK5 := hidden (HK4.out.later hb)
  have HB5 := hidden (bthen HB4.out hb)
  clear hb HB4 HK4
  go_wp2_with fail
  refine (two_putB g5 q4 _ hT5 HK5.out).mono ?_
  rintro e w6 ⟨rfl, hb⟩
  have HK6 := hidden (HK5.out.later hb)
  have HB6 := hidden (bthen HB5.out hb)
  clear hb HB5 HK5 hT5
  go_wp2_with fail
  refine (two_any _).mono ?_
  rintro e w7 ⟨g7, rfl, hT7, hb⟩
  have HK7 := hidden (HK6.out.later hb)
  have HB7 := hidden (bthen HB6.out hb)
  clear hb HB6 HK6
  go_wp2_with fail
  refine (two_take g7 q4 _ hT7 HK7.out).mono ?_
  rintro e w8 ⟨q8, r8', rfl, hn8, hr8, hb⟩
  have HK8 := hidden (HK7.out.later hb)
  have HN8 := hidden hn8
  have HR8 := hidden hr8
  have HB8 := hidden (bthen HB7.out hb)
  clear hb HB7 HK7 hT7 hn8 hr8
  go_wp2_with fail
  refine (Same_eq _ _ _ _ _ _ h8 _ (by decide) (lies_lit rfl (HK8.out.later (ballc _ _)) (by decide)) (lies_lit (l := h8) rfl (heap_alloc_new w8 _) (by decide))).mono ?_
  rintro e w9 ⟨rfl, hb⟩
  have hb' := bthen (ballc _ _) hb
  have HN9 := hidden (HN8.out.later hb')
  have HR9 := hidden (HR8.out.later hb')
  have HB9 := hidden (bthen HB8.out hb')
  clear hb hb' HB8 HK8 HN8 HR8
  go_wp2_with fail
  refine (Same_eq _ _ _ _ _ _ n4 _ (by decide) (lies_lit rfl (HN9.out.later (ballc _ _)) (by decide)) (lies_lit (l := n4) rfl (heap_alloc_new w9 _) (by decide))).mono ?_
  rintro e w10 ⟨rfl, hb⟩
  have hb' := bthen (ballc _ _) hb
  have HR10 := hidden (HR9.out.later hb')
  have HB10 := hidden (bthen HB9.out hb')
  clear hb hb' HB9 HN9 HR9
  go_wp2_with fail
  refine (Same_eq _ _ _ _ _ _ r8 _ (by decide) (lies_lit rfl (HR10.out.later (ballc _ _)) (by decide)) (lies_lit (l := r8) rfl (heap_alloc_new w10 _) (by decide))).mono ?_
  rintro e w11 ⟨rfl, hb⟩
  have hb' := bthen (ballc _ _) hb
  have HR11 := hidden (HR10.out.later hb')
  have HB11 := hidden (bthen HB10.out hb')
  clear hb hb' HB10 HR10
  go_wp2_with fail
  refine (two_any _).mono ?_
  rintro e w12 ⟨g12, rfl, hT12, hb⟩
  have HR12 := hidden (HR11.out.later hb)
  have HB12 := hidden (bthen HB11.out hb)
  clear hb HB11 HR11
  go_wp2_with fail
  refine (two_held g12 r8' _ hT12 HR12.out).mono ?_
  rintro e w13 ⟨rfl, hb⟩
  have HB13 := hidden (bthen HB12.out hb)
  clear hb
  go_wp2
  go_ret
  exact ⟨rfl, HB13.out⟩
end Go.Proofs.Ytcnmbpgjgjncdaa
