/- The fixed calls of the statements of layer 1 ('known') all answer as they must, and make at most new memory; no conditions. -/
import Derived.Test.YtjecogbhkmljkaaRef
namespace Go.Proofs.Ytjecogbhkmljkaa
open Go.ChangeShapes Go.WideShapes Go.ChangeAt Go.RowKit
set_option linter.unusedVariables false
set_option maxHeartbeats 400000 in
theorem known_any (w : World) : Calls Try.prog 13 #[] w fun e w' => e = .returned (.bool true) ∧ Below w.heap.size w w' := by
  have c1 : clampF 9 1 5 = 5 := by decide
  have c2 : modF (-1) 5 = 4 := by decide
  have c3 : satF 4 5 = 5 := by decide
  go_enter Try.func13, Try.ntmps13
  go_wp2_with fail
  refine (put_2 258 _ (by omega) (by omega)).mono ?_
  rintro e w1 ⟨rfl, hb⟩
  have e1 : numStr (leInts 258 2) = ⟨#[2, 1]⟩ := by decide
  rw [e1]
  go_wp2_with fail
  refine (get_2 ⟨#[97, 2, 1]⟩ 1 _ (by decide) (by decide)).mono ?_
  rintro e w2 ⟨rfl, rfl⟩
  have e2 : leNum (bytesAt ⟨#[97, 2, 1]⟩ 1 2) = 258 := by decide
  rw [e2]
  go_wp2_with (first | (go_at_call 16; refine (mod_any _ _ _ (by decide) (by decide)).mono ?_; rintro e w' ⟨rfl, rfl⟩) | (go_at_call 14; refine (clamp_any _ _ _ _).mono ?_; rintro e w' ⟨rfl, rfl⟩) | (go_at_call 18; refine (sat_any _ _ _ (by decide) (by decide)).mono ?_; rintro e w' ⟨rfl, rfl⟩))
  go_ret
  exact ⟨rfl, hb⟩
end Go.Proofs.Ytjecogbhkmljkaa
