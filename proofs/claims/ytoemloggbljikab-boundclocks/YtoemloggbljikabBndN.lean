/- The fixed calls of the statements on package bound come out as they must, and make at most new memory; no conditions. -/
import Derived.Test.YtoemloggbljikabBndR
import Derived.Test.YtoemloggbljikabConfK
namespace Go.Proofs.Ytoemloggbljikab
open Go.ChangeShapes Go.WideShapes Go.ChangeAt Go.RowKit
set_option linter.unusedVariables false

theorem small4_any (w : World) :
    Calls Try.prog 13 #[] w fun e w' => ∃ g, e = .returned (.agg #[.int .i64 4, .int .i64 1, .int .i64 1, .int .i64 20, .int .i64 64, .int .i64 1, .int .i64 64, .int .i64 190, .int .i64 10, .int .i64 3, .slice (some ⟨g, 0, none⟩) 4 4]) ∧ Tab w' (some ⟨g, 0, none⟩) [0, 1, 2, 3] ∧ Below w.heap.size w w' := by
  go_enter Try.func13, Try.ntmps13
  go_wp2
  refine bodyPost_ret (v := .agg #[.int .i64 4, .int .i64 1, .int .i64 1, .int .i64 20, .int .i64 64, .int .i64 1, .int .i64 64, .int .i64 190, .int .i64 10, .int .i64 3, .slice (some ⟨w.heap.size + 1, 0, none⟩) 4 4]) (by simp [results, Try.results13, go_sem]) rfl ⟨_, rfl, Tab.four _ _ _ (by simp), Joins.below_alloc2 _ _ _⟩
set_option maxHeartbeats 1000000 in
theorem known4_any (w : World) :
    Calls Try.prog 5 #[] w fun e w' => e = .returned (.bool true) ∧ Below w.heap.size w w' := by
  go_enter Try.func5, Try.ntmps5
  go_wp2_with fail
  refine (small4_any _).mono ?_
  rintro e w1 ⟨g, rfl, hT, hb⟩
  have HB1 := hidden hb
  have HT := hidden (hT.below (ballc w1 (.cells #[.int .i64 4, .int .i64 1, .int .i64 1, .int .i64 20, .int .i64 64, .int .i64 1, .int .i64 64, .int .i64 190, .int .i64 10, .int .i64 3, .slice (some ⟨g, 0, none⟩) 4 4] 24)))
  clear hT hb
  go_wp2_with fail
  refine (Calls.ret_to (BRight_any 4 1 1 20 64 1 64 190 10 3 (some ⟨g, 0, none⟩) 4 [0, 1, 2, 3] _ (by decide) HT.out) (val_i (b := 0) (by rw [rightE_plain plainE_small]; decide))).mono ?_
  rintro e v0 ⟨rfl, hb⟩
  have HC0 := hidden hb
  clear hb
  obtain ⟨hbox, hsz⟩ := box_at HC0.out
  go_wp2_with fail
  refine (Calls.ret_to (BMiddle_any 4 1 1 20 64 1 64 190 10 3 (some ⟨g, 0, none⟩) 4 [0, 1, 2, 3] 3 _ (by decide) (HT.out.below HC0.out)) (val_i (b := 729) (by rw [plainE_small]; decide))).mono ?_
  rintro e v1 ⟨rfl, hb⟩
  have HC1 := hidden (bthen HC0.out hb)
  clear hbox hsz
  clear hb
  obtain ⟨hbox, hsz⟩ := box_at HC1.out
  go_wp2_with fail
  refine (Calls.ret_to (BBegin_any 4 1 1 20 64 1 64 190 10 3 (some ⟨g, 0, none⟩) 4 [0, 1, 2, 3] 1 _ (by decide) (HT.out.below HC1.out)) (val_i (b := 254) (by rw [plainE_small]; decide))).mono ?_
  rintro e v2 ⟨rfl, hb⟩
  have HC2 := hidden (bthen HC1.out hb)
  clear hbox hsz
  clear hb
  obtain ⟨hbox, hsz⟩ := box_at HC2.out
  go_wp2_with fail
  refine (Calls.ret_to (BGuard_any 4 1 1 20 64 1 64 190 10 3 (some ⟨g, 0, none⟩) 4 [0, 1, 2, 3] _ (by decide) (HT.out.below HC2.out)) (val_i (b := 90) (by rw [plainE_small]; decide))).mono ?_
  rintro e v3 ⟨rfl, hb⟩
  have HC3 := hidden (bthen HC2.out hb)
  clear hbox hsz
  clear hb
  obtain ⟨hbox, hsz⟩ := box_at HC3.out
  go_wp2_with fail
  refine (Calls.ret_to (BSettle_any 4 1 1 20 64 1 64 190 10 3 (some ⟨g, 0, none⟩) 4 [0, 1, 2, 3] _ (by decide) (HT.out.below HC3.out)) (val_i (b := 65) (by rw [plainE_small]; decide))).mono ?_
  rintro e v4 ⟨rfl, hb⟩
  have HC4 := hidden (bthen HC3.out hb)
  clear hbox hsz
  clear hb
  obtain ⟨hbox, hsz⟩ := box_at HC4.out
  go_wp2_with fail
  refine (Calls.ret_to (BAll_any 4 1 1 20 64 1 64 190 10 3 (some ⟨g, 0, none⟩) 4 [0, 1, 2, 3] _ (by decide) (HT.out.below HC4.out)) (val_i (b := 145) (by rw [plainE_small]; decide))).mono ?_
  rintro e v5 ⟨rfl, hb⟩
  have HC5 := hidden (bthen HC4.out hb)
  clear hbox hsz
  clear hb
  obtain ⟨hbox, hsz⟩ := box_at HC5.out
  go_wp2_with fail
  refine (Calls.ret_to (BRight_any 0 0 0 0 0 0 0 0 0 0 none 0 [] _ (by decide) (Tab.none _)) (val_i (b := 7) (by rw [rightE_not (by rw [plainE_zero]; decide)]; exact plainE_zero))).mono ?_
  rintro e v6 ⟨rfl, hb⟩
  have HC6 := hidden (bthen HC5.out hb)
  clear hbox hsz
  clear hb
  obtain ⟨hbox, hsz⟩ := box_at HC6.out
  go_wp2
  go_ret
  exact ⟨rfl, bthen HB1.out (bthen (ballc _ _) HC6.out)⟩
end Go.Proofs.Ytoemloggbljikab
