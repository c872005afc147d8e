/- The calls Clean and Kind of package diag and of the document's answer return what plain functions give, and make at most new memory; no conditions. -/
import Derived.Test.YtjkliandhcegeaaDiaA
namespace Go.Proofs.Ytjkliandhcegeaa
open Go.ChangeShapes Go.WideShapes Go.ChangeAt Go.RowKit
set_option linter.unusedVariables false

theorem idx6_0 (x : Nat → Int) (w : World) : (Instr.index 22 (.agg #[.int .i64 (x 0), .int .i64 (x 1), .int .i64 (x 2), .int .i64 (x 3), .int .i64 (x 4), .int .i64 (x 5)]) (.int .i64 0)).run Try.prog w = .ok (.int .i64 (x 0)) w := by kernel_rfl
theorem idx6_1 (x : Nat → Int) (w : World) : (Instr.index 22 (.agg #[.int .i64 (x 0), .int .i64 (x 1), .int .i64 (x 2), .int .i64 (x 3), .int .i64 (x 4), .int .i64 (x 5)]) (.int .i64 1)).run Try.prog w = .ok (.int .i64 (x 1)) w := by kernel_rfl
theorem idx6_2 (x : Nat → Int) (w : World) : (Instr.index 22 (.agg #[.int .i64 (x 0), .int .i64 (x 1), .int .i64 (x 2), .int .i64 (x 3), .int .i64 (x 4), .int .i64 (x 5)]) (.int .i64 2)).run Try.prog w = .ok (.int .i64 (x 2)) w := by kernel_rfl
theorem idx6_3 (x : Nat → Int) (w : World) : (Instr.index 22 (.agg #[.int .i64 (x 0), .int .i64 (x 1), .int .i64 (x 2), .int .i64 (x 3), .int .i64 (x 4), .int .i64 (x 5)]) (.int .i64 3)).run Try.prog w = .ok (.int .i64 (x 3)) w := by kernel_rfl
theorem idx6_4 (x : Nat → Int) (w : World) : (Instr.index 22 (.agg #[.int .i64 (x 0), .int .i64 (x 1), .int .i64 (x 2), .int .i64 (x 3), .int .i64 (x 4), .int .i64 (x 5)]) (.int .i64 4)).run Try.prog w = .ok (.int .i64 (x 4)) w := by kernel_rfl
theorem idx6_5 (x : Nat → Int) (w : World) : (Instr.index 22 (.agg #[.int .i64 (x 0), .int .i64 (x 1), .int .i64 (x 2), .int .i64 (x 3), .int .i64 (x 4), .int .i64 (x 5)]) (.int .i64 5)).run Try.prog w = .ok (.int .i64 (x 5)) w := by kernel_rfl
attribute [local go_sem] idx6_0 idx6_1 idx6_2 idx6_3 idx6_4 idx6_5
def kindF (e : Int) : Int :=
  if e = 3 ∨ e = 16 ∨ e = 11 ∨ e = 2 ∨ e = 15 ∨ e = 4 ∨ e = 5 ∨ e = 6 ∨ e = 7 then 0 else if e = 10 then 1 else if e = 17 then 2 else if e = 13 then 3 else if e = 9 then 4 else -1
set_option maxHeartbeats 2000000 in
theorem DClean_eq (x : Nat → Int) (w : World) :
    Calls Try.prog 12 #[.agg #[.int .i64 (x 0), .int .i64 (x 1), .int .i64 (x 2), .int .i64 (x 3), .int .i64 (x 4), .int .i64 (x 5)]] w fun e w' => e = .returned (.agg #[.int .i64 ((cleanF x) 0), .int .i64 ((cleanF x) 1), .int .i64 ((cleanF x) 2), .int .i64 ((cleanF x) 3), .int .i64 ((cleanF x) 4), .int .i64 ((cleanF x) 5)]) ∧ (w.alloc (.cells #[.int .i64 ((cleanF x) 0), .int .i64 ((cleanF x) 1), .int .i64 ((cleanF x) 2), .int .i64 ((cleanF x) 3), .int .i64 ((cleanF x) 4), .int .i64 ((cleanF x) 5)] 22)).alloc (.cells #[.int .i64 ((cleanF x) 0), .int .i64 ((cleanF x) 1), .int .i64 ((cleanF x) 2), .int .i64 ((cleanF x) 3), .int .i64 ((cleanF x) 4), .int .i64 ((cleanF x) 5)] 22) = w' := by
  go_enter Try.func12, Try.ntmps12
  go_wp2
  refine wp_loop_rounds 7 ?_
  rw [rounds_succ]
  go_wp2_with (go_at_call 35; refine (clamp_any _ _ _ _).mono ?_; rintro e w1 ⟨rfl, rfl⟩)
  rw [rounds_succ]
  go_wp2_with (go_at_call 35; refine (clamp_any _ _ _ _).mono ?_; rintro e w1 ⟨rfl, rfl⟩)
  rw [rounds_succ]
  go_wp2_with (go_at_call 35; refine (clamp_any _ _ _ _).mono ?_; rintro e w1 ⟨rfl, rfl⟩)
  rw [rounds_succ]
  go_wp2_with (go_at_call 35; refine (clamp_any _ _ _ _).mono ?_; rintro e w1 ⟨rfl, rfl⟩)
  rw [rounds_succ]
  go_wp2_with (go_at_call 35; refine (clamp_any _ _ _ _).mono ?_; rintro e w1 ⟨rfl, rfl⟩)
  rw [rounds_succ]
  go_wp2_with (go_at_call 35; refine (clamp_any _ _ _ _).mono ?_; rintro e w1 ⟨rfl, rfl⟩)
  rw [rounds_succ]
  go_wp2
  exact bodyPost_ret (v := .agg #[.int .i64 ((cleanF x) 0), .int .i64 ((cleanF x) 1), .int .i64 ((cleanF x) 2), .int .i64 ((cleanF x) 3), .int .i64 ((cleanF x) 4), .int .i64 ((cleanF x) 5)]) (by simp [results, Try.results12, go_sem, cleanF]) rfl ⟨rfl, rfl⟩
theorem DClean_any (x : Nat → Int) (w : World) :
    Calls Try.prog 12 #[.agg #[.int .i64 (x 0), .int .i64 (x 1), .int .i64 (x 2), .int .i64 (x 3), .int .i64 (x 4), .int .i64 (x 5)]] w fun e w' => e = .returned (.agg #[.int .i64 ((cleanF x) 0), .int .i64 ((cleanF x) 1), .int .i64 ((cleanF x) 2), .int .i64 ((cleanF x) 3), .int .i64 ((cleanF x) 4), .int .i64 ((cleanF x) 5)]) ∧ Below w.heap.size w w' :=
  (DClean_eq x w).mono fun e w' ⟨he, hw⟩ => ⟨he, hw ▸ (((Below.refl _ w).alloc (Nat.le_refl _) _).alloc (by simp) _)⟩
set_option maxHeartbeats 2000000 in
theorem rDClean_eq (x : Nat → Int) (w : World) :
    Calls Try.prog 13 #[.agg #[.int .i64 (x 0), .int .i64 (x 1), .int .i64 (x 2), .int .i64 (x 3), .int .i64 (x 4), .int .i64 (x 5)]] w fun e w' => e = .returned (.agg #[.int .i64 ((cleanF x) 0), .int .i64 ((cleanF x) 1), .int .i64 ((cleanF x) 2), .int .i64 ((cleanF x) 3), .int .i64 ((cleanF x) 4), .int .i64 ((cleanF x) 5)]) ∧ (w.alloc (.cells #[.int .i64 ((cleanF x) 0), .int .i64 ((cleanF x) 1), .int .i64 ((cleanF x) 2), .int .i64 ((cleanF x) 3), .int .i64 ((cleanF x) 4), .int .i64 ((cleanF x) 5)] 22)).alloc (.cells #[.int .i64 ((cleanF x) 0), .int .i64 ((cleanF x) 1), .int .i64 ((cleanF x) 2), .int .i64 ((cleanF x) 3), .int .i64 ((cleanF x) 4), .int .i64 ((cleanF x) 5)] 22) = w' := by
  go_enter Try.func13, Try.ntmps13
  go_wp2
  refine wp_loop_rounds 7 ?_
  rw [rounds_succ]
  go_wp2_with (go_at_call 36; refine (rclamp_any _ _ _ _).mono ?_; rintro e w1 ⟨rfl, rfl⟩)
  rw [rounds_succ]
  go_wp2_with (go_at_call 36; refine (rclamp_any _ _ _ _).mono ?_; rintro e w1 ⟨rfl, rfl⟩)
  rw [rounds_succ]
  go_wp2_with (go_at_call 36; refine (rclamp_any _ _ _ _).mono ?_; rintro e w1 ⟨rfl, rfl⟩)
  rw [rounds_succ]
  go_wp2_with (go_at_call 36; refine (rclamp_any _ _ _ _).mono ?_; rintro e w1 ⟨rfl, rfl⟩)
  rw [rounds_succ]
  go_wp2_with (go_at_call 36; refine (rclamp_any _ _ _ _).mono ?_; rintro e w1 ⟨rfl, rfl⟩)
  rw [rounds_succ]
  go_wp2_with (go_at_call 36; refine (rclamp_any _ _ _ _).mono ?_; rintro e w1 ⟨rfl, rfl⟩)
  rw [rounds_succ]
  go_wp2
  exact bodyPost_ret (v := .agg #[.int .i64 ((cleanF x) 0), .int .i64 ((cleanF x) 1), .int .i64 ((cleanF x) 2), .int .i64 ((cleanF x) 3), .int .i64 ((cleanF x) 4), .int .i64 ((cleanF x) 5)]) (by simp [results, Try.results13, go_sem, cleanF]) rfl ⟨rfl, rfl⟩
theorem rDClean_any (x : Nat → Int) (w : World) :
    Calls Try.prog 13 #[.agg #[.int .i64 (x 0), .int .i64 (x 1), .int .i64 (x 2), .int .i64 (x 3), .int .i64 (x 4), .int .i64 (x 5)]] w fun e w' => e = .returned (.agg #[.int .i64 ((cleanF x) 0), .int .i64 ((cleanF x) 1), .int .i64 ((cleanF x) 2), .int .i64 ((cleanF x) 3), .int .i64 ((cleanF x) 4), .int .i64 ((cleanF x) 5)]) ∧ Below w.heap.size w w' :=
  (rDClean_eq x w).mono fun e w' ⟨he, hw⟩ => ⟨he, hw ▸ (((Below.refl _ w).alloc (Nat.le_refl _) _).alloc (by simp) _)⟩
set_option maxHeartbeats 2000000 in
theorem DKind_any (e : Int) (w : World) :
    Calls Try.prog 18 #[.int .i64 e] w fun r w' => r = .returned (.int .i64 (kindF e)) ∧ w = w' := by
  have hq : (e = 3 ∨ e = 16 ∨ e = 11 ∨ e = 2 ∨ e = 15 ∨ e = 4 ∨ e = 5 ∨ e = 6 ∨ e = 7 ∨ e = 10 ∨ e = 17 ∨ e = 13 ∨ e = 9) ∨ ¬ (e = 3 ∨ e = 16 ∨ e = 11 ∨ e = 2 ∨ e = 15 ∨ e = 4 ∨ e = 5 ∨ e = 6 ∨ e = 7 ∨ e = 10 ∨ e = 17 ∨ e = 13 ∨ e = 9) := by omega
  rcases hq with hq | hq
  · rcases hq with rfl | rfl | rfl | rfl | rfl | rfl | rfl | rfl | rfl | rfl | rfl | rfl | rfl
    all_goals
      go_enter Try.func18, Try.ntmps18
      go_wp2
      go_ret
      exact ⟨rfl, rfl⟩
  · simp only [not_or] at hq
    obtain ⟨h1, h2, h3, h4, h5, h6, h7, h8, h9, h10, h11, h12, h13⟩ := hq
    have hk : kindF e = -1 := by unfold kindF; simp [*]
    rw [hk]
    go_enter Try.func18, Try.ntmps18
    go_wp2
    go_ret
    exact ⟨rfl, rfl⟩
set_option maxHeartbeats 2000000 in
theorem rDKind_any (e : Int) (w : World) :
    Calls Try.prog 19 #[.int .i64 e] w fun r w' => r = .returned (.int .i64 (kindF e)) ∧ w = w' := by
  have hq : (e = 3 ∨ e = 16 ∨ e = 11 ∨ e = 2 ∨ e = 15 ∨ e = 4 ∨ e = 5 ∨ e = 6 ∨ e = 7 ∨ e = 10 ∨ e = 17 ∨ e = 13 ∨ e = 9) ∨ ¬ (e = 3 ∨ e = 16 ∨ e = 11 ∨ e = 2 ∨ e = 15 ∨ e = 4 ∨ e = 5 ∨ e = 6 ∨ e = 7 ∨ e = 10 ∨ e = 17 ∨ e = 13 ∨ e = 9) := by omega
  rcases hq with hq | hq
  · rcases hq with rfl | rfl | rfl | rfl | rfl | rfl | rfl | rfl | rfl | rfl | rfl | rfl | rfl
    all_goals
      go_enter Try.func19, Try.ntmps19
      go_wp2
      go_ret
      exact ⟨rfl, rfl⟩
  · simp only [not_or] at hq
    obtain ⟨h1, h2, h3, h4, h5, h6, h7, h8, h9, h10, h11, h12, h13⟩ := hq
    have hk : kindF e = -1 := by unfold kindF; simp [*]
    rw [hk]
    go_enter Try.func19, Try.ntmps19
    go_wp2
    go_ret
    exact ⟨rfl, rfl⟩
end Go.Proofs.Ytjkliandhcegeaa
