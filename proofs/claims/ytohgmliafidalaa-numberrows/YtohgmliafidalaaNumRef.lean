/- The integer calls Clamp, Mod and Sat of the document's answer for layer 1 return what plain functions on integers give, and leave the world as it was; for integers that fit int. -/
import Derived.Test.YtohgmliafidalaaNum
namespace Go.Proofs.Ytohgmliafidalaa
open Go.ChangeShapes Go.WideShapes Go.ChangeAt Go.RowKit
set_option linter.unusedVariables false

theorem rmod_any (n b : Int) (w : World) (hn : (Lit.int .i64 n).wf = true) (hb : (Lit.int .i64 b).wf = true) :
    Calls Try.prog 74 #[.int .i64 n, .int .i64 b] w fun e w' => e = .returned (.int .i64 (modF n b)) ∧ w = w' := by
  have bn := bd64 hn
  have bb := bd64 hb
  by_cases h1 : b < 1
  · have e : modF n b = 0 := by unfold modF; rw [if_pos h1]
    rw [e]; clear e
    go_enter Try.func74, Try.ntmps74
    go_wp2
    go_ret
    exact ⟨rfl, rfl⟩
  · by_cases h2 : n.tmod b < 0
    · have e : modF n b = n.tmod b + b := by unfold modF; rw [if_neg h1, if_pos h2]
      rw [e]; clear e
      have hr : -b < n.tmod b := by have := Int.lt_tmod_of_pos n (show 0 < b by omega); omega
      go_enter Try.func74, Try.ntmps74
      go_wp2
      go_ret
      exact ⟨rfl, rfl⟩
    · have e : modF n b = n.tmod b := by unfold modF; rw [if_neg h1, if_neg h2]
      rw [e]; clear e
      go_enter Try.func74, Try.ntmps74
      go_wp2
      go_ret
      exact ⟨rfl, rfl⟩
theorem rsat_any (n m : Int) (w : World) (hn : (Lit.int .i64 n).wf = true) (hm : (Lit.int .i64 m).wf = true) :
    Calls Try.prog 63 #[.int .i64 n, .int .i64 m] w fun e w' => e = .returned (.int .i64 (satF n m)) ∧ w = w' := by
  have bn := bd64 hn
  have bb := bd64 hm
  by_cases h1 : n < 0
  · have e : satF n m = 0 := by unfold satF; rw [if_pos (Or.inl h1)]
    rw [e]; clear e
    go_enter Try.func63, Try.ntmps63
    go_wp2
    go_ret
    exact ⟨rfl, rfl⟩
  · by_cases h2 : m < 0
    · have e : satF n m = 0 := by unfold satF; rw [if_pos (Or.inr h2)]
      rw [e]; clear e
      go_enter Try.func63, Try.ntmps63
      go_wp2
      go_ret
      exact ⟨rfl, rfl⟩
    · by_cases h3 : m ≤ n
      · have e : satF n m = m := by unfold satF; rw [if_neg (by omega), if_pos h3]
        rw [e]; clear e
        go_enter Try.func63, Try.ntmps63
        go_wp2
        go_ret
        exact ⟨rfl, rfl⟩
      · have e : satF n m = n + 1 := by unfold satF; rw [if_neg (by omega), if_neg h3]
        rw [e]; clear e
        go_enter Try.func63, Try.ntmps63
        go_wp2
        go_ret
        exact ⟨rfl, rfl⟩
end Go.Proofs.Ytohgmliafidalaa
