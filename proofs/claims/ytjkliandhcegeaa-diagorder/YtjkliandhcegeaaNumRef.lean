/- The integer calls Clamp, Mod and Sat of the document's answer for layer 1 return what plain functions on integers give, and leave the world as it was; for integers that fit int. -/
import Derived.Test.YtjkliandhcegeaaNum
namespace Go.Proofs.Ytjkliandhcegeaa
open Go.ChangeShapes Go.WideShapes Go.ChangeAt Go.RowKit
set_option linter.unusedVariables false

theorem rclamp_any (n lo hi : Int) (w : World) :
    Calls Try.prog 36 #[.int .i64 n, .int .i64 lo, .int .i64 hi] w fun e w' => e = .returned (.int .i64 (clampF n lo hi)) ∧ w = w' := by
  by_cases h1 : n < lo
  · have e : clampF n lo hi = lo := by unfold clampF; rw [if_pos (Or.inl h1)]
    rw [e]; clear e
    go_enter Try.func36, Try.ntmps36
    go_wp2
    go_ret
    exact ⟨rfl, rfl⟩
  · by_cases h2 : hi < lo
    · have e : clampF n lo hi = lo := by unfold clampF; rw [if_pos (Or.inr h2)]
      rw [e]; clear e
      go_enter Try.func36, Try.ntmps36
      go_wp2
      go_ret
      exact ⟨rfl, rfl⟩
    · by_cases h3 : n ≤ hi
      · have e : clampF n lo hi = n := by unfold clampF; rw [if_neg (by omega), if_pos h3]
        rw [e]; clear e
        go_enter Try.func36, Try.ntmps36
        go_wp2
        go_ret
        exact ⟨rfl, rfl⟩
      · have e : clampF n lo hi = hi := by unfold clampF; rw [if_neg (by omega), if_neg h3]
        rw [e]; clear e
        go_enter Try.func36, Try.ntmps36
        go_wp2
        go_ret
        exact ⟨rfl, rfl⟩
theorem rsat_any (n m : Int) (w : World) (hn : (Lit.int .i64 n).wf = true) (hm : (Lit.int .i64 m).wf = true) :
    Calls Try.prog 34 #[.int .i64 n, .int .i64 m] w fun e w' => e = .returned (.int .i64 (satF n m)) ∧ w = w' := by
  have bn := bd64 hn
  have bb := bd64 hm
  by_cases h1 : n < 0
  · have e : satF n m = 0 := by unfold satF; rw [if_pos (Or.inl h1)]
    rw [e]; clear e
    go_enter Try.func34, Try.ntmps34
    go_wp2
    go_ret
    exact ⟨rfl, rfl⟩
  · by_cases h2 : m < 0
    · have e : satF n m = 0 := by unfold satF; rw [if_pos (Or.inr h2)]
      rw [e]; clear e
      go_enter Try.func34, Try.ntmps34
      go_wp2
      go_ret
      exact ⟨rfl, rfl⟩
    · by_cases h3 : m ≤ n
      · have e : satF n m = m := by unfold satF; rw [if_neg (by omega), if_pos h3]
        rw [e]; clear e
        go_enter Try.func34, Try.ntmps34
        go_wp2
        go_ret
        exact ⟨rfl, rfl⟩
      · have e : satF n m = n + 1 := by unfold satF; rw [if_neg (by omega), if_neg h3]
        rw [e]; clear e
        go_enter Try.func34, Try.ntmps34
        go_wp2
        go_ret
        exact ⟨rfl, rfl⟩
end Go.Proofs.Ytjkliandhcegeaa
