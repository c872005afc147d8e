/- The calls Digits, at, Vote and Bit of the document's answer for packets return what plain functions give, and make at most new memory; conditions: lengths of texts, and numbers, fit int. -/
import Derived.Test.YtcnmbpgjgjncdaaPacA
namespace Go.Proofs.Ytcnmbpgjgjncdaa
open Go.ChangeShapes Go.WideShapes Go.ChangeAt Go.RowKit
set_option linter.unusedVariables false

theorem rDigits_any (s : ByteArray) (n : Int) (w : World) (hs : s.size ≤ 9223372036854775807) :
    Calls Try.prog 37 #[.string s, .int .i64 n] w fun e w' => e = .returned (.bool (areD s n)) ∧ w = w' := by
  by_cases h1 : (s.size : Int) = n
  · subst h1
    go_enter Try.func37, Try.ntmps37
    go_wp2
    go_loop [5] (fun i => ∃ k : Nat, i = .int .i64 k ∧ k ≤ s.size ∧ ∀ i, (h : i < s.size) → i < k → 48 ≤ (s[i]'h).toNat ∧ (s[i]'h).toNat ≤ 50) (fun i => s.size - (intV i).toNat)
    case atStart => exact ⟨0, rfl, Nat.zero_le _, fun i _ h => absurd h (Nat.not_lt_zero _)⟩
    case round =>
      obtain ⟨k, rfl, hle, hd⟩ := hrel
      have HD := hidden hd
      clear hd
      by_cases hp : k < s.size
      · by_cases hg : 48 ≤ (s[k]'hp).toNat ∧ (s[k]'hp).toNat ≤ 50
        · have d1 : decide ((s[k]'hp).toNat < 48) = false := by simp; omega
          have d2 : decide (50 < (s[k]'hp).toNat) = false := by simp; omega
          have n1 : ¬ (s[k]'hp).toNat < 48 := by omega
          have n2 : ¬ 50 < (s[k]'hp).toNat := by omega
          have HG := hidden hg
          clear hg
          go_wp2
          go_round
          case rel =>
            refine ⟨k + 1, by go_num, by omega, fun i hi hlt => ?_⟩
            by_cases e : i = k
            · subst e; exact HG.out
            · exact HD.out i hi (by omega)
          case measure => simp [intV]; omega
        · have HA := hidden (areD_bad (n := (s.size : Int)) hp hg)
          by_cases hl : (s[k]'hp).toNat < 48
          · have d1 : decide ((s[k]'hp).toNat < 48) = true := by simp [hl]
            clear hg
            go_wp2
            go_ret
            exact ⟨ret_b HA.out.symm, rfl⟩
          · have d1 : decide ((s[k]'hp).toNat < 48) = false := by simp; omega
            have d2 : decide (50 < (s[k]'hp).toNat) = true := by simp; omega
            have n2 : 50 < (s[k]'hp).toNat := by omega
            clear hg
            go_wp2
            go_ret
            exact ⟨ret_b HA.out.symm, rfl⟩
      · go_wp2
        go_ret
        exact ⟨ret_b (areD_good rfl (fun i hi => HD.out i hi (by omega))).symm, rfl⟩
  · have HA := hidden (areD_size h1)
    go_enter Try.func37, Try.ntmps37
    go_wp2
    go_ret
    exact ⟨ret_b HA.out.symm, rfl⟩
end Go.Proofs.Ytcnmbpgjgjncdaa
