/- The walk of RingTurns: for integers that fit int it returns true and makes no memory. -/
import Derived.Test.YtnllidjbehonkaaRingN
namespace Go.Proofs.Ytnllidjbehonkaa.LawRingTurns
open Go.ChangeShapes Go.WideShapes Go.ChangeAt Go.RowKit
set_option linter.unusedVariables false

theorem walk (a b u : Int) (W : World) (ha : -9223372036854775808 ≤ a ∧ a ≤ 9223372036854775807)(hb : -9223372036854775808 ≤ b ∧ b ≤ 9223372036854775807)(hu : -9223372036854775808 ≤ u ∧ u ≤ 9223372036854775807) :
    Calls Try.prog 5 #[.int .i64 a, .int .i64 b, .int .i64 u] W fun e w' => e = .returned (.bool true) ∧ Below W.heap.size W w' := by
  have e1 : ((a + u) % 65536 - (b + u) % 65536) % 65536 = (a - b) % 65536 := by omega
  have e2 : signedF ((a + u) % 65536) ((b + u) % 65536) = signedF a b := by unfold signedF; rw [e1]
  go_enter Try.func5, Try.ntmps5
  go_wp2_with (first
    | (go_at_call 9; refine (Put_any _ _).mono ?_; rintro e w' ⟨rfl, rfl⟩)
    | (go_at_call 11; refine (Add_any _ _ _).mono ?_; rintro e w' ⟨rfl, rfl⟩)
    | (go_at_call 13; refine (Diff_any _ _ _).mono ?_; rintro e w' ⟨rfl, rfl⟩)
    | (go_at_call 15; refine (Signed_any _ _ _).mono ?_; rintro e w' ⟨rfl, rfl⟩)
    | (go_at_call 17; refine (Before_any _ _ _).mono ?_; rintro e w' ⟨rfl, rfl⟩)
    | (go_at_call 19; refine (known5_any _).mono ?_; rintro e w' ⟨rfl, rfl⟩))
  go_ret
  exact ⟨rfl, Below.refl _ _⟩
end Go.Proofs.Ytnllidjbehonkaa.LawRingTurns
