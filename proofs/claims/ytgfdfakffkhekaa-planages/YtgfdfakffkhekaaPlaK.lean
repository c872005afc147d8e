/- The fixed calls of the statements on package plan come out as they must, and make at most new memory; no conditions. -/
import Derived.Test.YtgfdfakffkhekaaConfK
import Derived.Test.YtgfdfakffkhekaaPlaC
namespace Go.Proofs.Ytgfdfakffkhekaa
open Go.ChangeShapes Go.WideShapes Go.ChangeAt Go.RowKit
set_option linter.unusedVariables false

theorem rounds_small : gate (plainE 4 1 1 20 64 1 64 190 10 3 [0, 1, 2, 3]) (3 * (1 + 1)) = ((6 : Nat) : Int) := by rw [plainE_small]; rfl
theorem small15_any (w : World) :
    Calls Try.prog 33 #[] w fun e w' => ∃ g, e = .returned (.agg #[.int .i64 4, .int .i64 1, .int .i64 1, .int .i64 20, .int .i64 64, .int .i64 1, .int .i64 64, .int .i64 190, .int .i64 10, .int .i64 3, .slice (some ⟨g, 0, none⟩) 4 4]) ∧ Tab w' (some ⟨g, 0, none⟩) [0, 1, 2, 3] ∧ Below w.heap.size w w' := by
  go_enter Try.func33, Try.ntmps33
  go_wp2
  refine bodyPost_ret (v := .agg #[.int .i64 4, .int .i64 1, .int .i64 1, .int .i64 20, .int .i64 64, .int .i64 1, .int .i64 64, .int .i64 190, .int .i64 10, .int .i64 3, .slice (some ⟨w.heap.size + 1, 0, none⟩) 4 4]) (by simp [results, Try.results33, go_sem]) rfl ⟨_, rfl, Tab.four _ _ _ (by simp), Joins.below_alloc2 _ _ _⟩
set_option maxHeartbeats 4000000 in
theorem known15_any (w : World) :
    Calls Try.prog 15 #[] w fun e w' => e = .returned (.bool true) ∧ Below w.heap.size w w' := by
  go_enter Try.func15, Try.ntmps15
  go_wp2_with fail
  refine (small15_any _).mono ?_
  rintro e w1 ⟨g, rfl, hT, hb⟩
  have HB1 := hidden hb
  have HT := hidden (hT.below (ballc w1 (.cells #[.int .i64 4, .int .i64 1, .int .i64 1, .int .i64 20, .int .i64 64, .int .i64 1, .int .i64 64, .int .i64 190, .int .i64 10, .int .i64 3, .slice (some ⟨g, 0, none⟩) 4 4] 24)))
  have HR := hidden rounds_small
  clear hT hb
  go_wp2_with fail
  refine (Calls.ret_to (Tells_any 4 1 1 20 64 1 64 190 10 3 (some ⟨g, 0, none⟩) 4 [0, 1, 2, 3] 5 6 (by decide) (by decide) _ (by decide) HT.out HR.out) (val_i (b := 5) (by decide))).mono ?_
  rintro e v0 ⟨rfl, hb⟩
  have HC0 := hidden (hb)
  clear hb
  obtain ⟨hbox, hsz⟩ := box_at HC0.out
  go_wp2_with fail
  refine (Calls.ret_to (Tells_any 4 1 1 20 64 1 64 190 10 3 (some ⟨g, 0, none⟩) 4 [0, 1, 2, 3] 6 6 (by decide) (by decide) _ (by decide) (HT.out.below HC0.out) HR.out) (val_i (b := -1) (by decide))).mono ?_
  rintro e v1 ⟨rfl, hb⟩
  have HC1 := hidden (bthen HC0.out hb)
  clear hb hbox hsz
  obtain ⟨hbox, hsz⟩ := box_at HC1.out
  go_wp2_with fail
  refine (Calls.ret_to (Hears_any 4 1 1 20 64 1 64 190 10 3 (some ⟨g, 0, none⟩) 4 [0, 1, 2, 3] 6 6 (by decide) (by decide) _ (by decide) (HT.out.below HC1.out) HR.out) (val_i (b := 5) (by decide))).mono ?_
  rintro e v2 ⟨rfl, hb⟩
  have HC2 := hidden (bthen HC1.out hb)
  clear hb hbox hsz
  obtain ⟨hbox, hsz⟩ := box_at HC2.out
  go_wp2_with fail
  refine (Calls.ret_to (Hears_any 4 1 1 20 64 1 64 190 10 3 (some ⟨g, 0, none⟩) 4 [0, 1, 2, 3] 0 6 (by decide) (by decide) _ (by decide) (HT.out.below HC2.out) HR.out) (val_i (b := -1) (by decide))).mono ?_
  rintro e v3 ⟨rfl, hb⟩
  have HC3 := hidden (bthen HC2.out hb)
  clear hb hbox hsz
  obtain ⟨hbox, hsz⟩ := box_at HC3.out
  go_wp2_with fail
  refine (Calls.ret_to (PKing_any 4 1 1 20 64 1 64 190 10 3 (some ⟨g, 0, none⟩) 4 [0, 1, 2, 3] 5 6 (by decide) _ (by decide) (HT.out.below HC3.out) HR.out) (val_i (b := 1) (by decide))).mono ?_
  rintro e v4 ⟨rfl, hb⟩
  have HC4 := hidden (bthen HC3.out hb)
  clear hb hbox hsz
  obtain ⟨hbox, hsz⟩ := box_at HC4.out
  go_wp2_with fail
  refine (Calls.ret_to (PKing_any 4 1 1 20 64 1 64 190 10 3 (some ⟨g, 0, none⟩) 4 [0, 1, 2, 3] 6 6 (by decide) _ (by decide) (HT.out.below HC4.out) HR.out) (val_i (b := -1) (by decide))).mono ?_
  rintro e v5 ⟨rfl, hb⟩
  have HC5 := hidden (bthen HC4.out hb)
  clear hb hbox hsz
  obtain ⟨hbox, hsz⟩ := box_at HC5.out
  go_wp2
  go_ret
  exact ⟨rfl, bthen HB1.out (bthen (ballc _ _) HC5.out)⟩
end Go.Proofs.Ytgfdfakffkhekaa
