/- The integer calls of package num (Clamp, Mod, Sat, isWidth) and of the document's answer (Clamp, Mod, Sat) return what plain functions on integers give, and leave the world as it was; for integers that fit int. -/
import Derived.Test.YtohgmliafidalaaBase
namespace Go.Proofs.Ytohgmliafidalaa
open Go.ChangeShapes Go.WideShapes Go.ChangeAt Go.RowKit
open Go.ChangeMaps (open_string shut_string)
set_option linter.unusedVariables false

def clampF (n lo hi : Int) : Int := if n < lo ∨ hi < lo then lo else if n ≤ hi then n else hi
def modF (n by_ : Int) : Int := if by_ < 1 then 0 else if n.tmod by_ < 0 then n.tmod by_ + by_ else n.tmod by_
def satF (n most : Int) : Int := if n < 0 ∨ most < 0 then 0 else if most ≤ n then most else n + 1


theorem clamp_any (n lo hi : Int) (w : World) :
    Calls Try.prog 76 #[.int .i64 n, .int .i64 lo, .int .i64 hi] w fun e w' => e = .returned (.int .i64 (clampF n lo hi)) ∧ w = w' := by
  by_cases h1 : n < lo
  · have e : clampF n lo hi = lo := by unfold clampF; rw [if_pos (Or.inl h1)]
    rw [e]; clear e
    go_enter Try.func76, Try.ntmps76
    go_wp2
    go_ret
    exact ⟨rfl, rfl⟩
  · by_cases h2 : hi < lo
    · have e : clampF n lo hi = lo := by unfold clampF; rw [if_pos (Or.inr h2)]
      rw [e]; clear e
      go_enter Try.func76, Try.ntmps76
      go_wp2
      go_ret
      exact ⟨rfl, rfl⟩
    · by_cases h3 : n ≤ hi
      · have e : clampF n lo hi = n := by unfold clampF; rw [if_neg (by omega), if_pos h3]
        rw [e]; clear e
        go_enter Try.func76, Try.ntmps76
        go_wp2
        go_ret
        exact ⟨rfl, rfl⟩
      · have e : clampF n lo hi = hi := by unfold clampF; rw [if_neg (by omega), if_neg h3]
        rw [e]; clear e
        go_enter Try.func76, Try.ntmps76
        go_wp2
        go_ret
        exact ⟨rfl, rfl⟩
theorem mod_any (n b : Int) (w : World) (hn : (Lit.int .i64 n).wf = true) (hb : (Lit.int .i64 b).wf = true) :
    Calls Try.prog 75 #[.int .i64 n, .int .i64 b] w fun e w' => e = .returned (.int .i64 (modF n b)) ∧ w = w' := by
  have bn := bd64 hn
  have bb := bd64 hb
  by_cases h1 : b < 1
  · have e : modF n b = 0 := by unfold modF; rw [if_pos h1]
    rw [e]; clear e
    go_enter Try.func75, Try.ntmps75
    go_wp2
    go_ret
    exact ⟨rfl, rfl⟩
  · by_cases h2 : n.tmod b < 0
    · have e : modF n b = n.tmod b + b := by unfold modF; rw [if_neg h1, if_pos h2]
      rw [e]; clear e
      have hr : -b < n.tmod b := by have := Int.lt_tmod_of_pos n (show 0 < b by omega); omega
      go_enter Try.func75, Try.ntmps75
      go_wp2
      go_ret
      exact ⟨rfl, rfl⟩
    · have e : modF n b = n.tmod b := by unfold modF; rw [if_neg h1, if_neg h2]
      rw [e]; clear e
      go_enter Try.func75, Try.ntmps75
      go_wp2
      go_ret
      exact ⟨rfl, rfl⟩
theorem sat_any (n m : Int) (w : World) (hn : (Lit.int .i64 n).wf = true) (hm : (Lit.int .i64 m).wf = true) :
    Calls Try.prog 60 #[.int .i64 n, .int .i64 m] w fun e w' => e = .returned (.int .i64 (satF n m)) ∧ w = w' := by
  have bn := bd64 hn
  have bb := bd64 hm
  by_cases h1 : n < 0
  · have e : satF n m = 0 := by unfold satF; rw [if_pos (Or.inl h1)]
    rw [e]; clear e
    go_enter Try.func60, Try.ntmps60
    go_wp2
    go_ret
    exact ⟨rfl, rfl⟩
  · by_cases h2 : m < 0
    · have e : satF n m = 0 := by unfold satF; rw [if_pos (Or.inr h2)]
      rw [e]; clear e
      go_enter Try.func60, Try.ntmps60
      go_wp2
      go_ret
      exact ⟨rfl, rfl⟩
    · by_cases h3 : m ≤ n
      · have e : satF n m = m := by unfold satF; rw [if_neg (by omega), if_pos h3]
        rw [e]; clear e
        go_enter Try.func60, Try.ntmps60
        go_wp2
        go_ret
        exact ⟨rfl, rfl⟩
      · have e : satF n m = n + 1 := by unfold satF; rw [if_neg (by omega), if_neg h3]
        rw [e]; clear e
        go_enter Try.func60, Try.ntmps60
        go_wp2
        go_ret
        exact ⟨rfl, rfl⟩
end Go.Proofs.Ytohgmliafidalaa
