/- The calls Digits, at, Vote and Bit of the document's answer for packets return what plain functions give, and make at most new memory; conditions: lengths of texts, and numbers, fit int. -/
import Derived.Test.YtjkliandhcegeaaPacA
namespace Go.Proofs.Ytjkliandhcegeaa
open Go.ChangeShapes Go.WideShapes Go.ChangeAt Go.RowKit
set_option linter.unusedVariables false

theorem rDigits_any (s : ByteArray) (n : Int) (w : World) (hs : s.size ≤ 9223372036854775807) :
    Calls Try.prog 42 #[.string s, .int .i64 n] w fun e w' => e = .returned (.bool (areD s n)) ∧ w = w' := by
  by_cases h1 : (s.size : Int) = n
  · subst h1
    go_enter Try.func42, Try.ntmps42
    go_wp2
    go_loop [5] (fun i => ∃ k : Nat, i = .int .i64 k ∧ k ≤ s.size ∧ ∀ i, (h : i < s.size) → i < k → 48 ≤ (s[i]'h).toNat ∧ (s[i]'h).toNat ≤ 50) (fun i => s.size - (intV i).toNat)
    case atStart => exact ⟨0, rfl, Nat.zero_le _, fun i _ h => absurd h (Nat.not_lt_zero _)⟩
    case round =>
      obtain ⟨k, rfl, hle, hd⟩ := hrel
      have HD := hidden hd
      clear hd
      by_cases hp : k < s.size
      · by_cases hg : 48 ≤ (s[k]'hp).toNat ∧ (s[k]'hp).toNat ≤ 50
        · have d1 : decide ((s[k]'hp).toNat < 48) = false := by simp; omega
          have d2 : decide (50 < (s[k]'hp).toNat) = false := by simp; omega
          have n1 : ¬ (s[k]'hp).toNat < 48 := by omega
          have n2 : ¬ 50 < (s[k]'hp).toNat := by omega
          have HG := hidden hg
          clear hg
          go_wp2
          go_round
          case rel =>
            refine ⟨k + 1, by go_num, by omega, fun i hi hlt => ?_⟩
            by_cases e : i = k
            · subst e; exact HG.out
            · exact HD.out i hi (by omega)
          case measure => simp [intV]; omega
        · have HA := hidden (areD_bad (n := (s.size : Int)) hp hg)
          by_cases hl : (s[k]'hp).toNat < 48
          · have d1 : decide ((s[k]'hp).toNat < 48) = true := by simp [hl]
            clear hg
            go_wp2
            go_ret
            exact ⟨ret_b HA.out.symm, rfl⟩
          · have d1 : decide ((s[k]'hp).toNat < 48) = false := by simp; omega
            have d2 : decide (50 < (s[k]'hp).toNat) = true := by simp; omega
            have n2 : 50 < (s[k]'hp).toNat := by omega
            clear hg
            go_wp2
            go_ret
            exact ⟨ret_b HA.out.symm, rfl⟩
      · go_wp2
        go_ret
        exact ⟨ret_b (areD_good rfl (fun i hi => HD.out i hi (by omega))).symm, rfl⟩
  · have HA := hidden (areD_size h1)
    go_enter Try.func42, Try.ntmps42
    go_wp2
    go_ret
    exact ⟨ret_b HA.out.symm, rfl⟩
theorem rAt_any (s : ByteArray) (k : Int) (w : World) (hs : s.size ≤ 9223372036854775807) :
    Calls Try.prog 49 #[.string s, .int .i64 k] w fun e w' => e = .returned (.int .i64 (dgAt s k)) ∧ w = w' := by
  by_cases h1 : k < 0
  · have d1 : decide (k < 0) = true := by simp [h1]
    have e : dgAt s k = -1 := by unfold dgAt; rw [dif_neg (by omega)]
    rw [e]
    go_enter Try.func49, Try.ntmps49
    go_wp2
    go_ret
    exact ⟨rfl, rfl⟩
  · have d1 : decide (k < 0) = false := by simp; omega
    obtain ⟨j, rfl⟩ : ∃ j : Nat, k = (j : Int) := ⟨k.toNat, by omega⟩
    by_cases h2 : s.size ≤ j
    · have d2 : decide (s.size ≤ j) = true := by simp [h2]
      have h2' : (s.size : Int) ≤ (j : Int) := by omega
      have e : dgAt s j = -1 := by unfold dgAt; rw [dif_neg (by omega)]
      rw [e]
      go_enter Try.func49, Try.ntmps49
      go_wp2
      go_ret
      exact ⟨rfl, rfl⟩
    · have d2 : decide (s.size ≤ j) = false := by simp; omega
      have d3 : decide ((s.size : Int) ≤ (j : Int)) = false := by simp; omega
      have hj : j < s.size := by omega
      have e : dgAt s j = digV ((s[j]'hj).toNat) := by unfold dgAt; rw [dif_pos (by omega)]; simp
      rw [e]
      by_cases l1 : (s[j]'hj).toNat < 48
      · have q1 : decide ((s[j]'hj).toNat < 48) = true := by simp [l1]
        rw [digV_no (by omega)]
        clear e
        go_enter Try.func49, Try.ntmps49
        go_wp2
        go_ret
        exact ⟨rfl, rfl⟩
      · have q1 : decide ((s[j]'hj).toNat < 48) = false := by simp; omega
        by_cases l2 : 50 < (s[j]'hj).toNat
        · have q2 : decide (50 < (s[j]'hj).toNat) = true := by simp [l2]
          rw [digV_no (by omega)]
          clear e
          go_enter Try.func49, Try.ntmps49
          go_wp2
          go_ret
          exact ⟨rfl, rfl⟩
        · have q2 : decide (50 < (s[j]'hj).toNat) = false := by simp; omega
          rw [digV_yes (by omega)]
          clear e
          go_enter Try.func49, Try.ntmps49
          go_wp2
          go_ret
          exact ⟨ret_i (by first | rfl | omega | (simp [wrap64, IntKind.wrap, IntKind.bits, IntKind.signed]; omega)), rfl⟩
theorem rVote_any (vo : ByteArray) (ex : Int) (ve : ByteArray) (ps cy : Int) (te : ByteArray) (x : Int) (w : World) (hs : vo.size ≤ 9223372036854775807) :
    Calls Try.prog 26 #[.agg #[.string vo, .int .i64 ex, .string ve, .int .i64 ps, .int .i64 cy, .string te], .int .i64 x] w fun e w' => e = .returned (.int .i64 (dgAt vo x)) ∧ Below w.heap.size w w' := by
  go_enter Try.func26, Try.ntmps26
  go_wp2_with (go_at_call 49; refine (rAt_any _ _ _ hs).mono ?_; rintro e w1 ⟨rfl, rfl⟩)
  go_ret
  exact ⟨rfl, ballc _ _⟩
theorem rBit_any (vo : ByteArray) (ex : Int) (ve : ByteArray) (ps cy : Int) (te : ByteArray) (x k : Int) (w : World) (hs : ve.size ≤ 9223372036854775807) :
    Calls Try.prog 28 #[.agg #[.string vo, .int .i64 ex, .string ve, .int .i64 ps, .int .i64 cy, .string te], .int .i64 x, .int .i64 k] w fun e w' => e = .returned (.int .i64 (bitF ex ve x k)) ∧ Below w.heap.size w w' := by
  by_cases h1 : x < 0
  · have d1 : decide (x < 0) = true := by simp [h1]
    have e : bitF ex ve x k = -1 := if_pos (.inl h1)
    rw [e]
    go_enter Try.func28, Try.ntmps28
    go_wp2
    go_ret
    exact ⟨rfl, ballc _ _⟩
  · have d1 : decide (x < 0) = false := by simp; omega
    by_cases h2 : 65535 < x
    · have d2 : decide (65535 < x) = true := by simp [h2]
      have e : bitF ex ve x k = -1 := if_pos (.inr (.inl h2))
      rw [e]
      go_enter Try.func28, Try.ntmps28
      go_wp2
      go_ret
      exact ⟨rfl, ballc _ _⟩
    · have d2 : decide (65535 < x) = false := by simp; omega
      have t1 : IntKind.i64.wrap (x + 1) = x + 1 := IntWalk.i64_in _ (by omega)
      have t2 : wrap64 (x + 1) = x + 1 := IntWalk.wrap64_in _ (by omega)
      by_cases h3 : ex = x + 1
      · have e : bitF ex ve x k = dgAt ve k := if_neg (by omega)
        rw [e]
        have h4 : (ex == x + 1) = true := by simp [h3]
        have HX := hidden h3
        clear h3
        go_enter Try.func28, Try.ntmps28
        go_wp2_with (go_at_call 49; refine (rAt_any _ _ _ hs).mono ?_; rintro e w1 ⟨rfl, rfl⟩)
        go_ret
        exact ⟨rfl, ballc _ _⟩
      · have e : bitF ex ve x k = -1 := if_pos (.inr (.inr h3))
        rw [e]
        have h4 : (ex == x + 1) = false := by simp [h3]
        go_enter Try.func28, Try.ntmps28
        go_wp2
        go_ret
        exact ⟨rfl, ballc _ _⟩
end Go.Proofs.Ytjkliandhcegeaa
