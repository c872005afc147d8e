/- The calls of package ring and of the document's answer on clocks return what plain functions on integers give, and leave the world as it was; for integers that fit int. -/
import Derived.Test.YtjmeeklaclidbaaBase
namespace Go.Proofs.Ytjmeeklaclidbaa
open Go.ChangeShapes Go.WideShapes Go.ChangeAt Go.RowKit
set_option linter.unusedVariables false

def signedF (a b : Int) : Int := if (a - b) % 65536 < 32768 then (a - b) % 65536 else (a - b) % 65536 - 65536
theorem tmod_neg (n : Int) (h : n.tmod 65536 < 0) : n.tmod 65536 + 65536 = n % 65536 := by
  have h1 := Int.mul_tdiv_add_tmod n 65536
  have h2 : -65536 < n.tmod 65536 := by
    by_cases h0 : 0 ≤ n
    · have := Int.tmod_nonneg 65536 h0; omega
    · have e : n.tmod 65536 = -((-n).tmod 65536) := by rw [Int.neg_tmod]; omega
      have := Int.tmod_lt_of_pos (-n) (b := 65536) (by omega)
      omega
  omega
theorem tmod_pos (n : Int) (h : ¬ n.tmod 65536 < 0) : n.tmod 65536 = n % 65536 := by
  have h1 := Int.mul_tdiv_add_tmod n 65536
  have h2 := Int.tmod_lt_of_pos n (b := 65536) (by omega)
  omega
theorem nmod_any (n : Int) (w : World) :
    Calls Try.prog 49 #[.int .i64 n, .int .i64 65536] w fun e w' => e = .returned (.int .i64 (n % 65536)) ∧ w = w' := by
  have hr : -65536 < n.tmod 65536 := by have := Int.lt_tmod_of_pos n (show (0 : Int) < 65536 by omega); omega
  by_cases h : n.tmod 65536 < 0
  · rw [← tmod_neg n h]
    go_enter Try.func49, Try.ntmps49
    go_wp2
    go_ret
    exact ⟨rfl, rfl⟩
  · rw [← tmod_pos n h]
    go_enter Try.func49, Try.ntmps49
    go_wp2
    go_ret
    exact ⟨rfl, rfl⟩
theorem read_any (n : Int) (w : World) :
    Calls Try.prog 43 #[.int .i64 n] w fun e w' => e = .returned (.int .i64 (n % 65536)) ∧ w = w' := by
  go_enter Try.func43, Try.ntmps43
  go_wp2_with (go_at_call 49; refine (nmod_any _ _).mono ?_; rintro e w' ⟨rfl, rfl⟩)
  go_ret
  exact ⟨rfl, rfl⟩
theorem Put_any (n : Int) (w : World) :
    Calls Try.prog 31 #[.int .i64 n] w fun e w' => e = .returned (.int .i64 (n % 65536)) ∧ w = w' := by
  go_enter Try.func31, Try.ntmps31
  go_wp2_with (go_at_call 43; refine (read_any _ _).mono ?_; rintro e w' ⟨rfl, rfl⟩)
  go_ret
  exact ⟨rfl, rfl⟩
theorem since_any (a b : Int) (w : World) (ha : 0 ≤ a ∧ a < 65536) (hb : 0 ≤ b ∧ b < 65536) :
    Calls Try.prog 53 #[.int .i64 a, .int .i64 b] w fun e w' => e = .returned (.int .i64 ((a - b) % 65536)) ∧ w = w' := by
  have t1 : IntKind.i64.wrap (a - b) = a - b := IntWalk.i64_in _ (by omega)
  go_enter Try.func53, Try.ntmps53
  go_wp2_with (go_at_call 43; refine (read_any _ _).mono ?_; rintro e w' ⟨rfl, rfl⟩)
  go_ret
  exact ⟨rfl, rfl⟩
theorem ahead_any (a b : Int) (w : World) (ha : 0 ≤ a ∧ a < 65536) (hb : 0 ≤ b ∧ b < 65536) :
    Calls Try.prog 52 #[.int .i64 a, .int .i64 b] w fun e w' => e = .returned (.int .i64 (signedF a b)) ∧ w = w' := by
  have hm : 0 ≤ (a - b) % 65536 ∧ (a - b) % 65536 < 65536 := by omega
  unfold signedF
  generalize hmm : (a - b) % 65536 = m at hm ⊢
  have S : ∀ w, Calls Try.prog 53 #[.int .i64 a, .int .i64 b] w fun e w' => e = .returned (.int .i64 m) ∧ w = w' := fun w => by rw [← hmm]; exact since_any a b w ha hb
  have t1 : IntKind.i64.wrap (m - 65536) = m - 65536 := IntWalk.i64_in _ (by omega)
  by_cases h : m < 32768
  · rw [if_pos h]
    go_enter Try.func52, Try.ntmps52
    go_wp2_with (go_at_call 53; refine (S _).mono ?_; rintro e w' ⟨rfl, rfl⟩)
    go_ret
    exact ⟨rfl, rfl⟩
  · rw [if_neg h]
    go_enter Try.func52, Try.ntmps52
    go_wp2_with (go_at_call 53; refine (S _).mono ?_; rintro e w' ⟨rfl, rfl⟩)
    go_ret
    exact ⟨rfl, rfl⟩
theorem bothAhead_any (a b : Int) (w : World) :
    Calls Try.prog 51 #[.func (.func 52) #[] #[], .int .i64 a, .int .i64 b] w fun e w' => e = .returned (.int .i64 (signedF a b)) ∧ w = w' := by
  have em : signedF (a % 65536) (b % 65536) = signedF a b := by
    have : (a % 65536 - b % 65536) % 65536 = (a - b) % 65536 := by omega
    unfold signedF; rw [this]
  go_enter Try.func51, Try.ntmps51
  go_wp2_with (first
    | (go_at_call 43; refine (read_any _ _).mono ?_; rintro e w' ⟨rfl, rfl⟩)
    | (go_at_call 52; refine (ahead_any _ _ _ (by omega) (by omega)).mono ?_; rintro e w' ⟨rfl, rfl⟩))
  go_ret
  exact ⟨rfl, rfl⟩
theorem Signed_any (a b : Int) (w : World) :
    Calls Try.prog 48 #[.int .i64 a, .int .i64 b] w fun e w' => e = .returned (.int .i64 (signedF a b)) ∧ w = w' := by
  go_enter Try.func48, Try.ntmps48
  go_wp2_with (go_at_call 51; refine (bothAhead_any _ _ _).mono ?_; rintro e w' ⟨rfl, rfl⟩)
  go_ret
  exact ⟨rfl, rfl⟩
end Go.Proofs.Ytjmeeklaclidbaa
