/- The calls of the document's answer on clocks return what plain functions on integers give, and leave the world as it was; for integers that fit int. -/
import Derived.Test.YtjmeeklaclidbaaRing
namespace Go.Proofs.Ytjmeeklaclidbaa
open Go.ChangeShapes Go.WideShapes Go.ChangeAt Go.RowKit
set_option linter.unusedVariables false

theorem rmod_any (n : Int) (w : World) :
    Calls Try.prog 44 #[.int .i64 n, .int .i64 65536] w fun e w' => e = .returned (.int .i64 (n % 65536)) ∧ w = w' := by
  have hr : -65536 < n.tmod 65536 := by have := Int.lt_tmod_of_pos n (show (0 : Int) < 65536 by omega); omega
  by_cases h : n.tmod 65536 < 0
  · rw [← tmod_neg n h]
    go_enter Try.func44, Try.ntmps44
    go_wp2
    go_ret
    exact ⟨rfl, rfl⟩
  · rw [← tmod_pos n h]
    go_enter Try.func44, Try.ntmps44
    go_wp2
    go_ret
    exact ⟨rfl, rfl⟩
theorem rPut_any (n : Int) (w : World) :
    Calls Try.prog 33 #[.int .i64 n] w fun e w' => e = .returned (.int .i64 (n % 65536)) ∧ w = w' := by
  go_enter Try.func33, Try.ntmps33
  go_wp2_with (go_at_call 44; refine (rmod_any _ _).mono ?_; rintro e w' ⟨rfl, rfl⟩)
  go_ret
  exact ⟨rfl, rfl⟩
theorem rDiff_any (a b : Int) (w : World) :
    Calls Try.prog 50 #[.int .i64 a, .int .i64 b] w fun e w' => e = .returned (.int .i64 ((a - b) % 65536)) ∧ w = w' := by
  have em : (a % 65536 - b % 65536) % 65536 = (a - b) % 65536 := by omega
  have t1 : IntKind.i64.wrap (a % 65536 - b % 65536) = a % 65536 - b % 65536 := IntWalk.i64_in _ (by omega)
  go_enter Try.func50, Try.ntmps50
  go_wp2_with (go_at_call 33; refine (rPut_any _ _).mono ?_; rintro e w' ⟨rfl, rfl⟩)
  go_ret
  exact ⟨rfl, rfl⟩
theorem rSigned_any (a b : Int) (w : World) :
    Calls Try.prog 45 #[.int .i64 a, .int .i64 b] w fun e w' => e = .returned (.int .i64 (signedF a b)) ∧ w = w' := by
  have hm : 0 ≤ (a - b) % 65536 ∧ (a - b) % 65536 < 65536 := by omega
  unfold signedF
  generalize hmm : (a - b) % 65536 = m at hm ⊢
  have S : ∀ w, Calls Try.prog 50 #[.int .i64 a, .int .i64 b] w fun e w' => e = .returned (.int .i64 m) ∧ w = w' := fun w => by rw [← hmm]; exact rDiff_any a b w
  have t1 : IntKind.i64.wrap (m - 65536) = m - 65536 := IntWalk.i64_in _ (by omega)
  by_cases h : m < 32768
  · rw [if_pos h]
    go_enter Try.func45, Try.ntmps45
    go_wp2_with (go_at_call 50; refine (S _).mono ?_; rintro e w' ⟨rfl, rfl⟩)
    go_ret
    exact ⟨rfl, rfl⟩
  · rw [if_neg h]
    go_enter Try.func45, Try.ntmps45
    go_wp2_with (go_at_call 50; refine (S _).mono ?_; rintro e w' ⟨rfl, rfl⟩)
    go_ret
    exact ⟨rfl, rfl⟩
end Go.Proofs.Ytjmeeklaclidbaa
