/- The law NumBounds returns true at every input, and makes at most new memory; conditions: the three integers fit int. -/
import Derived.Test.YtjecogbhkmljkaaKnown
namespace Go.Proofs.Ytjecogbhkmljkaa.LawNumBounds
open Go.ChangeShapes Go.WideShapes Go.ChangeAt Go.RowKit
set_option linter.unusedVariables false
set_option maxHeartbeats 800000 in
theorem walk (n lo hi : Int) (w0 : (Lit.int .i64 n).wf = true) (w1 : (Lit.int .i64 lo).wf = true) (w2 : (Lit.int .i64 hi).wf = true) (w : World) :
    Calls Try.prog 4 #[.int .i64 n, .int .i64 lo, .int .i64 hi] w fun e w' => e = .returned (.bool true) ∧ Below w.heap.size w w' := by
  go_enter Try.func4, Try.ntmps4
  go_wp2_with (first | (go_at_call 14; refine (clamp_any _ _ _ _).mono ?_; rintro e w' ⟨rfl, rfl⟩) | (go_at_call 15; refine (rclamp_any _ _ _ _).mono ?_; rintro e w' ⟨rfl, rfl⟩) | (go_at_call 16; refine (mod_any _ _ _ w0 w2).mono ?_; rintro e w' ⟨rfl, rfl⟩) | (go_at_call 17; refine (rmod_any _ _ _ w0 w2).mono ?_; rintro e w' ⟨rfl, rfl⟩) | (go_at_call 18; refine (sat_any _ _ _ w0 w2).mono ?_; rintro e w' ⟨rfl, rfl⟩) | (go_at_call 19; refine (rsat_any _ _ _ w0 w2).mono ?_; rintro e w' ⟨rfl, rfl⟩) | (go_at_call 13; refine (known_any _).mono ?_; rintro e w' ⟨rfl, hb⟩))
  go_ret
  exact ⟨rfl, by assumption⟩
end Go.Proofs.Ytjecogbhkmljkaa.LawNumBounds
