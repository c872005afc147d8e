/- The walk of RingBack: for integers that fit int it returns true and makes no memory. -/
import Derived.Test.YtnllidjbehonkaaRingN
namespace Go.Proofs.Ytnllidjbehonkaa.LawRingBack
open Go.ChangeShapes Go.WideShapes Go.ChangeAt Go.RowKit
set_option linter.unusedVariables false

theorem walk (a b : Int) (W : World) (ha : -9223372036854775808 ≤ a ∧ a ≤ 9223372036854775807)(hb : -9223372036854775808 ≤ b ∧ b ≤ 9223372036854775807) :
    Calls Try.prog 4 #[.int .i64 a, .int .i64 b] W fun e w' => e = .returned (.bool true) ∧ Below W.heap.size W w' := by
  have e1 : ((a + b) % 65536 - a) % 65536 = b % 65536 := by omega
  have e2 : (a - (a + b) % 65536) % 65536 = (-b) % 65536 := by omega
  have hp : 0 ≤ (a + b) % 65536 := by omega
  have hq : (a + b) % 65536 < 65536 := by omega
  have t1 : IntKind.i64.wrap (b % 65536 + (-b) % 65536) = b % 65536 + (-b) % 65536 := IntWalk.i64_in _ (by omega)
  by_cases h0 : b % 65536 = 0
  · have n0 : (-b) % 65536 = 0 := by omega
    have e3 : (a + b) % 65536 = a % 65536 := by omega
    go_enter Try.func4, Try.ntmps4
    go_wp2_with (first
    | (go_at_call 9; refine (Put_any _ _).mono ?_; rintro e w' ⟨rfl, rfl⟩)
    | (go_at_call 11; refine (Add_any _ _ _).mono ?_; rintro e w' ⟨rfl, rfl⟩)
    | (go_at_call 13; refine (Diff_any _ _ _).mono ?_; rintro e w' ⟨rfl, rfl⟩)
    | (go_at_call 15; refine (Signed_any _ _ _).mono ?_; rintro e w' ⟨rfl, rfl⟩)
    | (go_at_call 17; refine (Before_any _ _ _).mono ?_; rintro e w' ⟨rfl, rfl⟩)
    | (go_at_call 19; refine (known5_any _).mono ?_; rintro e w' ⟨rfl, rfl⟩))
    go_ret
    exact ⟨rfl, Below.refl _ _⟩
  · have n0 : (-b) % 65536 = 65536 - b % 65536 := by omega
    have e3 : ¬ (a + b) % 65536 = a % 65536 := by omega
    go_enter Try.func4, Try.ntmps4
    go_wp2_with (first
    | (go_at_call 9; refine (Put_any _ _).mono ?_; rintro e w' ⟨rfl, rfl⟩)
    | (go_at_call 11; refine (Add_any _ _ _).mono ?_; rintro e w' ⟨rfl, rfl⟩)
    | (go_at_call 13; refine (Diff_any _ _ _).mono ?_; rintro e w' ⟨rfl, rfl⟩)
    | (go_at_call 15; refine (Signed_any _ _ _).mono ?_; rintro e w' ⟨rfl, rfl⟩)
    | (go_at_call 17; refine (Before_any _ _ _).mono ?_; rintro e w' ⟨rfl, rfl⟩)
    | (go_at_call 19; refine (known5_any _).mono ?_; rintro e w' ⟨rfl, rfl⟩))
    go_ret
    exact ⟨ret_b (by simpa using e3 : (!((a + b) % 65536 == a % 65536)) = true), Below.refl _ _⟩
end Go.Proofs.Ytnllidjbehonkaa.LawRingBack
