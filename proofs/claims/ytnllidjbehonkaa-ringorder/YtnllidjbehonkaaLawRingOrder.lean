/- The walk of RingOrder: for integers that fit int it returns true and makes no memory. -/
import Derived.Test.YtnllidjbehonkaaRingN
namespace Go.Proofs.Ytnllidjbehonkaa.LawRingOrder
open Go.ChangeShapes Go.WideShapes Go.ChangeAt Go.RowKit
set_option linter.unusedVariables false

theorem self (a : Int) : signedF a a = 0 := by unfold signedF; rw [if_pos (by omega)]; omega
theorem up (a b k : Int) (h : 0 ≤ k ∧ k < 32768) (e : (b - a) % 65536 = k) : signedF b a = k := by unfold signedF; rw [e, if_pos (by omega)]
theorem down (a b k : Int) (h : 0 < k ∧ k < 32768) (e : (b - a) % 65536 = k) : signedF a b = -k := by
  have e2 : (a - b) % 65536 = 65536 - k := by omega
  unfold signedF; rw [e2, if_neg (by omega)]; omega

theorem walk (a x y : Int) (W : World) (ha : -9223372036854775808 ≤ a ∧ a ≤ 9223372036854775807) (hx : -9223372036854775808 ≤ x ∧ x ≤ 9223372036854775807) (hy : -9223372036854775808 ≤ y ∧ y ≤ 9223372036854775807) :
    Calls Try.prog 6 #[.int .i64 a, .int .i64 x, .int .i64 y] W fun e w' => e = .returned (.bool true) ∧ Below W.heap.size W w' := by
  have s0 := self a
  by_cases h1 : x ≤ 0
  · go_enter Try.func6, Try.ntmps6
    go_wp2_with (first
    | (go_at_call 11; refine (Add_any _ _ _).mono ?_; rintro e w' ⟨rfl, rfl⟩)
    | (go_at_call 15; refine (Signed_any _ _ _).mono ?_; rintro e w' ⟨rfl, rfl⟩)
    | (go_at_call 17; refine (Before_any _ _ _).mono ?_; rintro e w' ⟨rfl, rfl⟩)
    | (go_at_call 19; refine (known5_any _).mono ?_; rintro e w' ⟨rfl, rfl⟩))
    go_ret
    exact ⟨rfl, Below.refl _ _⟩
  by_cases h2 : 16384 ≤ x
  · have d1 : decide (x ≤ 0) = false := by simp; omega
    go_enter Try.func6, Try.ntmps6
    go_wp2_with (first
    | (go_at_call 11; refine (Add_any _ _ _).mono ?_; rintro e w' ⟨rfl, rfl⟩)
    | (go_at_call 15; refine (Signed_any _ _ _).mono ?_; rintro e w' ⟨rfl, rfl⟩)
    | (go_at_call 17; refine (Before_any _ _ _).mono ?_; rintro e w' ⟨rfl, rfl⟩)
    | (go_at_call 19; refine (known5_any _).mono ?_; rintro e w' ⟨rfl, rfl⟩))
    go_ret
    exact ⟨rfl, Below.refl _ _⟩
  by_cases h3 : y ≤ 0
  · have d1 : decide (x ≤ 0) = false := by simp; omega
    have d2 : decide (16384 ≤ x) = false := by simp; omega
    go_enter Try.func6, Try.ntmps6
    go_wp2_with (first
    | (go_at_call 11; refine (Add_any _ _ _).mono ?_; rintro e w' ⟨rfl, rfl⟩)
    | (go_at_call 15; refine (Signed_any _ _ _).mono ?_; rintro e w' ⟨rfl, rfl⟩)
    | (go_at_call 17; refine (Before_any _ _ _).mono ?_; rintro e w' ⟨rfl, rfl⟩)
    | (go_at_call 19; refine (known5_any _).mono ?_; rintro e w' ⟨rfl, rfl⟩))
    go_ret
    exact ⟨rfl, Below.refl _ _⟩
  by_cases h4 : 16384 ≤ y
  · have d1 : decide (x ≤ 0) = false := by simp; omega
    have d2 : decide (16384 ≤ x) = false := by simp; omega
    have d3 : decide (y ≤ 0) = false := by simp; omega
    go_enter Try.func6, Try.ntmps6
    go_wp2_with (first
    | (go_at_call 11; refine (Add_any _ _ _).mono ?_; rintro e w' ⟨rfl, rfl⟩)
    | (go_at_call 15; refine (Signed_any _ _ _).mono ?_; rintro e w' ⟨rfl, rfl⟩)
    | (go_at_call 17; refine (Before_any _ _ _).mono ?_; rintro e w' ⟨rfl, rfl⟩)
    | (go_at_call 19; refine (known5_any _).mono ?_; rintro e w' ⟨rfl, rfl⟩))
    go_ret
    exact ⟨rfl, Below.refl _ _⟩
  have d1 : decide (x ≤ 0) = false := by simp; omega
  have d2 : decide (16384 ≤ x) = false := by simp; omega
  have d3 : decide (y ≤ 0) = false := by simp; omega
  have d4 : decide (16384 ≤ y) = false := by simp; omega
  have b0 : 0 ≤ (a + x) % 65536 ∧ (a + x) % 65536 < 65536 := by omega
  have q1 : ((a + x) % 65536 - a) % 65536 = x := by omega
  have q2 : (((a + x) % 65536 + y) % 65536 - (a + x) % 65536) % 65536 = y := by omega
  have q3 : (((a + x) % 65536 + y) % 65536 - a) % 65536 = x + y := by omega
  have A : ∀ w, Calls Try.prog 11 #[.int .i64 a, .int .i64 x] w fun e w' => e = .returned (.int .i64 ((a + x) % 65536)) ∧ w = w' := fun w => Add_any a x w
  generalize (a + x) % 65536 = b at q1 q2 q3 A
  have B : ∀ w, Calls Try.prog 11 #[.int .i64 b, .int .i64 y] w fun e w' => e = .returned (.int .i64 ((b + y) % 65536)) ∧ w = w' := fun w => Add_any b y w
  generalize (b + y) % 65536 = c at q2 q3 B
  have p1 : signedF a b < 0 := by rw [down a b x (by omega) q1]; omega
  have p2 : signedF b c < 0 := by rw [down b c y (by omega) q2]; omega
  have p3 : signedF a c < 0 := by rw [down a c (x + y) (by omega) q3]; omega
  have n1 : ¬ signedF b a < 0 := by rw [up a b x (by omega) q1]; omega
  have e3 : signedF c a = x + y := up a c (x + y) (by omega) q3
  have n3 : ¬ x + y < 0 := by omega
  have t1 : IntKind.i64.wrap (x + y) = x + y := IntWalk.i64_in _ (by omega)
  clear q1 q2 q3 b0
  go_enter Try.func6, Try.ntmps6
  go_wp2_with fail
  refine (A _).mono ?_
  rintro e w' ⟨rfl, rfl⟩
  go_wp2_with fail
  refine (B _).mono ?_
  rintro e w' ⟨rfl, rfl⟩
  clear A B
  go_wp2_with (first
    | (go_at_call 11; refine (Add_any _ _ _).mono ?_; rintro e w' ⟨rfl, rfl⟩)
    | (go_at_call 15; refine (Signed_any _ _ _).mono ?_; rintro e w' ⟨rfl, rfl⟩)
    | (go_at_call 17; refine (Before_any _ _ _).mono ?_; rintro e w' ⟨rfl, rfl⟩)
    | (go_at_call 19; refine (known5_any _).mono ?_; rintro e w' ⟨rfl, rfl⟩))
  go_ret
  exact ⟨ret_b (by simp; omega : (!decide (signedF b a < 0) && !decide (x + y < 0)) = true), Below.refl _ _⟩
end Go.Proofs.Ytnllidjbehonkaa.LawRingOrder
