/- The fixed calls of the statements on package tally come out as they must, and make at most new memory; no conditions. -/
import Derived.Test.YtklcjfbdneallaaConfK
import Derived.Test.YtklcjfbdneallaaTalB
namespace Go.Proofs.Ytklcjfbdneallaa
open Go.ChangeShapes Go.WideShapes Go.ChangeAt Go.RowKit
set_option linter.unusedVariables false

theorem row_new (w : World) (t : TypeId) (vs : List Int) (A : Array Value) (hA : A = (kInt.flat vs).toArray) (hl : vs.length ≤ maxLen) (g : Nat) (hg : g = w.heap.size) (m : Nat) (hm : m = vs.length) : kInt.Lies (w.alloc (.cells A t)).heap.size (w.alloc (.cells A t)) (.slice (some ⟨g, 0, none⟩) m m) vs := by
  subst hA hg hm
  exact Kind.Lies.of_block (t := t) (heap_alloc_new w _) hl
theorem val_b {a b : Bool} (h : a = b) : Value.bool a = .bool b := by rw [h]
theorem small13_any (w : World) :
    Calls Try.prog 36 #[] w fun e w' => ∃ g, e = .returned (.agg #[.int .i64 4, .int .i64 1, .int .i64 1, .int .i64 20, .int .i64 64, .int .i64 1, .int .i64 64, .int .i64 190, .int .i64 10, .int .i64 3, .slice (some ⟨g, 0, none⟩) 4 4]) ∧ Tab w' (some ⟨g, 0, none⟩) [0, 1, 2, 3] ∧ Below w.heap.size w w' := by
  go_enter Try.func36, Try.ntmps36
  go_wp2
  refine bodyPost_ret (v := .agg #[.int .i64 4, .int .i64 1, .int .i64 1, .int .i64 20, .int .i64 64, .int .i64 1, .int .i64 64, .int .i64 190, .int .i64 10, .int .i64 3, .slice (some ⟨w.heap.size + 1, 0, none⟩) 4 4]) (by simp [results, Try.results36, go_sem]) rfl ⟨_, rfl, Tab.four _ _ _ (by simp), Joins.below_alloc2 _ _ _⟩
set_option maxHeartbeats 4000000 in
theorem known13_any (w : World) :
    Calls Try.prog 9 #[] w fun e w' => e = .returned (.bool true) ∧ Below w.heap.size w w' := by
  go_enter Try.func9, Try.ntmps9
  go_wp2_with fail
  refine (small13_any _).mono ?_
  rintro e w1 ⟨g, rfl, hT, hb⟩
  have HB1 := hidden hb
  have HT := hidden (hT.below (ballc w1 (.cells #[.int .i64 4, .int .i64 1, .int .i64 1, .int .i64 20, .int .i64 64, .int .i64 1, .int .i64 64, .int .i64 190, .int .i64 10, .int .i64 3, .slice (some ⟨g, 0, none⟩) 4 4] 24)))
  clear hT hb

  go_wp2_with fail
  refine (Calls.ret_to (Quorum_any 4 1 1 20 64 1 64 190 10 3 (some ⟨g, 0, none⟩) 4 [0, 1, 2, 3] _ (by decide) (HT.out)) (val_i (b := 3) (by first | rfl | (rw [plainE_small]; rfl) | (rw [plainE_small]; decide)))).mono ?_
  rintro e v0 ⟨rfl, hb⟩
  have HC0 := hidden hb
  clear hb
  obtain ⟨hbox, hsz⟩ := box_at HC0.out
  go_wp2_with fail
  refine (Calls.ret_to (Some_any 4 1 1 20 64 1 64 190 10 3 (some ⟨g, 0, none⟩) 4 [0, 1, 2, 3] _ (by decide) (HT.out.below HC0.out)) (val_i (b := 2) (by first | rfl | (rw [plainE_small]; rfl) | (rw [plainE_small]; decide)))).mono ?_
  rintro e v1 ⟨rfl, hb⟩
  have HC1 := hidden (bthen HC0.out hb)
  clear hbox hsz
  clear hb
  obtain ⟨hbox, hsz⟩ := box_at HC1.out
  go_wp2_with fail
  refine (Calls.ret_to (TCount_any 1 _ 4 4 [1, 0, 1, -1] (by decide) _ (row_new _ _ [1, 0, 1, -1] _ rfl (by decide) _ (by rfl) _ rfl)) (val_i (b := 2) (by first | rfl | (rw [plainE_small]; rfl) | (rw [plainE_small]; decide)))).mono ?_
  rintro e v2 ⟨rfl, hb⟩
  have HC2 := hidden (bthen (bthen HC1.out (ballc _ _)) hb)
  clear hbox hsz
  clear hb
  obtain ⟨hbox, hsz⟩ := box_at HC2.out
  go_wp2_with fail
  refine (Calls.ret_to (Enough_any 4 1 1 20 64 1 64 190 10 3 (some ⟨g, 0, none⟩) 4 [0, 1, 2, 3] 1 _ 3 3 [1, 1, 1] _ (by decide) ((HT.out.below HC2.out).below (ballc _ _)) (by decide) (row_new _ _ [1, 1, 1] _ rfl (by decide) _ (by rfl) _ rfl)) (val_b (b := true) (by first | rfl | (rw [plainE_small]; rfl) | (rw [plainE_small]; decide)))).mono ?_
  rintro e v3 ⟨rfl, hb⟩
  have HC3 := hidden (bthen (bthen HC2.out (ballc _ _)) hb)
  clear hbox hsz
  clear hb
  obtain ⟨hbox, hsz⟩ := box_at HC3.out
  go_wp2_with fail
  refine (Calls.ret_to (Most_any 4 1 1 20 64 1 64 190 10 3 (some ⟨g, 0, none⟩) 4 [0, 1, 2, 3]  _ 4 4 [1, 1, 1, 0] _ (by decide) ((HT.out.below HC3.out).below (ballc _ _)) (by decide) (row_new _ _ [1, 1, 1, 0] _ rfl (by decide) _ (by rfl) _ rfl)) (val_i (b := 1) (by first | rfl | (rw [plainE_small]; rfl) | (rw [plainE_small]; decide)))).mono ?_
  rintro e v4 ⟨rfl, hb⟩
  have HC4 := hidden (bthen (bthen HC3.out (ballc _ _)) hb)
  clear hbox hsz
  clear hb
  obtain ⟨hbox, hsz⟩ := box_at HC4.out
  go_wp2_with fail
  refine (Calls.ret_to (Most_any 4 1 1 20 64 1 64 190 10 3 (some ⟨g, 0, none⟩) 4 [0, 1, 2, 3]  _ 4 4 [1, 1, 0, 0] _ (by decide) ((HT.out.below HC4.out).below (ballc _ _)) (by decide) (row_new _ _ [1, 1, 0, 0] _ rfl (by decide) _ (by rfl) _ rfl)) (val_i (b := 2) (by first | rfl | (rw [plainE_small]; rfl) | (rw [plainE_small]; decide)))).mono ?_
  rintro e v5 ⟨rfl, hb⟩
  have HC5 := hidden (bthen (bthen HC4.out (ballc _ _)) hb)
  clear hbox hsz
  clear hb
  obtain ⟨hbox, hsz⟩ := box_at HC5.out
  go_wp2_with fail
  refine (Calls.ret_to (Least_any 4 1 1 20 64 1 64 190 10 3 (some ⟨g, 0, none⟩) 4 [0, 1, 2, 3] 2 _ 4 4 [1, 1, 0, 0] _ (by decide) ((HT.out.below HC5.out).below (ballc _ _)) (by decide) (row_new _ _ [1, 1, 0, 0] _ rfl (by decide) _ (by rfl) _ rfl)) (val_i (b := 0) (by first | rfl | (rw [plainE_small]; rfl) | (rw [plainE_small]; decide)))).mono ?_
  rintro e v6 ⟨rfl, hb⟩
  have HC6 := hidden (bthen (bthen HC5.out (ballc _ _)) hb)
  clear hbox hsz
  clear hb
  obtain ⟨hbox, hsz⟩ := box_at HC6.out
  go_wp2_with fail
  refine (Calls.ret_to (Least_any 4 1 1 20 64 1 64 190 10 3 (some ⟨g, 0, none⟩) 4 [0, 1, 2, 3] 7 _ 2 2 [1, 0] _ (by decide) ((HT.out.below HC6.out).below (ballc _ _)) (by decide) (row_new _ _ [1, 0] _ rfl (by decide) _ (by rfl) _ rfl)) (val_i (b := 7) (by first | rfl | (rw [plainE_small]; rfl) | (rw [plainE_small]; decide)))).mono ?_
  rintro e v7 ⟨rfl, hb⟩
  have HC7 := hidden (bthen (bthen HC6.out (ballc _ _)) hb)
  clear hbox hsz
  clear hb
  obtain ⟨hbox, hsz⟩ := box_at HC7.out
  go_wp2
  go_ret
  exact ⟨rfl, bthen HB1.out (bthen (ballc _ _) HC7.out)⟩
end Go.Proofs.Ytklcjfbdneallaa
