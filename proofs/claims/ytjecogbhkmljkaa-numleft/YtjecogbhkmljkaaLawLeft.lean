/- The law NumLeft returns true at every input, and makes at most new memory; conditions: the three integers fit int. -/
import Derived.Test.YtjecogbhkmljkaaKnown
namespace Go.Proofs.Ytjecogbhkmljkaa.LawNumLeft
open Go.ChangeShapes Go.WideShapes Go.ChangeAt Go.RowKit
set_option linter.unusedVariables false

theorem satF_cases (n m : Int) : ((n < 0 ∨ m < 0) ∧ satF n m = 0) ∨ ((0 ≤ n ∧ 0 ≤ m) ∧ ((m ≤ n ∧ satF n m = m) ∨ (n < m ∧ satF n m = n + 1))) := by
  unfold satF
  split
  · left; omega
  · split
    · right; omega
    · right; omega

set_option maxHeartbeats 800000 in
theorem walk (n b m : Int) (w0 : (Lit.int .i64 n).wf = true) (w1 : (Lit.int .i64 b).wf = true) (w2 : (Lit.int .i64 m).wf = true) (w : World) :
    Calls Try.prog 6 #[.int .i64 n, .int .i64 b, .int .i64 m] w fun e w' => e = .returned (.bool true) ∧ Below w.heap.size w w' := by
  have bn := bd64 w0
  have bb := bd64 w1
  have bm := bd64 w2
  by_cases h1 : b < 1
  · have e : modF n b = 0 := by unfold modF; rw [if_pos h1]
    go_enter Try.func6, Try.ntmps6
    go_wp2_with (first | (go_at_call 16; refine (mod_any _ _ _ w0 w1).mono ?_; rintro e w' ⟨rfl, rfl⟩) | (go_at_call 13; refine (known_any _).mono ?_; rintro e w' ⟨rfl, hb⟩))
    go_ret
    exact ⟨rfl, by assumption⟩
  · have hr1 : -b < n.tmod b := by have := Int.lt_tmod_of_pos n (show 0 < b by omega); omega
    have hr2 : n.tmod b < b := Int.tmod_lt_of_pos n (by omega)
    obtain ⟨q, hq0, hqb, hqe, hqd⟩ : ∃ q, 0 ≤ q ∧ q < b ∧ modF n b = q ∧ (n.tmod b - q = 0 ∨ n.tmod b - q = -b) := by
      refine ⟨modF n b, ?_, ?_, rfl, ?_⟩ <;> unfold modF <;> rw [if_neg h1] <;> split <;> omega
    have hd : ((n.tmod b - q).tmod b != 0) = false := by
      rcases hqd with h | h <;> rw [h] <;> simp [Int.neg_tmod]
    have hlo : -9223372036854775808 ≤ n.tmod b - q := by omega
    have hm1 := fun w => mod_any n b w w0 w1
    rw [hqe] at hm1
    have hx1 : decide (q < 0) = false := by simp; omega
    have hx2 : decide (b ≤ q) = false := by simp; omega
    clear hqd hqe
    rcases satF_cases n m with ⟨hs, es⟩ | ⟨hs, ⟨hs2, es⟩ | ⟨hs2, es⟩⟩
    · rcases hs with hs | hs
      · go_enter Try.func6, Try.ntmps6
        go_wp2_with (first | (go_at_call 16; refine (hm1 _).mono ?_; rintro e w' ⟨rfl, rfl⟩) | (go_at_call 18; refine (sat_any _ _ _ w0 w2).mono ?_; rintro e w' ⟨rfl, rfl⟩) | (go_at_call 13; refine (known_any _).mono ?_; rintro e w' ⟨rfl, hb⟩))
        go_ret
        exact ⟨rfl, by assumption⟩
      · have hx3 : decide (0 ≤ m) = false := by simp; omega
        by_cases hn : 0 ≤ n
        · rw [Int.tmod_eq_emod_of_nonneg hn] at hd hr1 hr2 hlo
          go_enter Try.func6, Try.ntmps6
          go_wp2_with (first | (go_at_call 16; refine (hm1 _).mono ?_; rintro e w' ⟨rfl, rfl⟩) | (go_at_call 18; refine (sat_any _ _ _ w0 w2).mono ?_; rintro e w' ⟨rfl, rfl⟩) | (go_at_call 13; refine (known_any _).mono ?_; rintro e w' ⟨rfl, hb⟩))
          go_ret
          exact ⟨rfl, by assumption⟩
        · go_enter Try.func6, Try.ntmps6
          go_wp2_with (first | (go_at_call 16; refine (hm1 _).mono ?_; rintro e w' ⟨rfl, rfl⟩) | (go_at_call 18; refine (sat_any _ _ _ w0 w2).mono ?_; rintro e w' ⟨rfl, rfl⟩) | (go_at_call 13; refine (known_any _).mono ?_; rintro e w' ⟨rfl, hb⟩))
          go_ret
          exact ⟨rfl, by assumption⟩
    · have hx4 : decide (n < m) = false := by simp; omega
      obtain ⟨hs0, hs1⟩ := hs
      rw [Int.tmod_eq_emod_of_nonneg hs0] at hd hr1 hr2 hlo
      go_enter Try.func6, Try.ntmps6
      go_wp2_with (first | (go_at_call 16; refine (hm1 _).mono ?_; rintro e w' ⟨rfl, rfl⟩) | (go_at_call 18; refine (sat_any _ _ _ w0 w2).mono ?_; rintro e w' ⟨rfl, rfl⟩) | (go_at_call 13; refine (known_any _).mono ?_; rintro e w' ⟨rfl, hb⟩))
      go_ret
      exact ⟨rfl, by assumption⟩
    · obtain ⟨hs0, hs1⟩ := hs
      rw [Int.tmod_eq_emod_of_nonneg hs0] at hd hr1 hr2 hlo
      have hx5 : (n + 1 - 1 != n) = false := by simp
      have hx6 : decide (m < n + 1) = false := by simp; omega
      go_enter Try.func6, Try.ntmps6
      go_wp2_with (first | (go_at_call 16; refine (hm1 _).mono ?_; rintro e w' ⟨rfl, rfl⟩) | (go_at_call 18; refine (sat_any _ _ _ w0 w2).mono ?_; rintro e w' ⟨rfl, rfl⟩) | (go_at_call 13; refine (known_any _).mono ?_; rintro e w' ⟨rfl, hb⟩))
      go_ret
      exact ⟨rfl, by assumption⟩
end Go.Proofs.Ytjecogbhkmljkaa.LawNumLeft
