/- The call Number of package vec returns the number of a text's first places; conditions: the text's length fits int. -/
import Derived.Test.YtohgmliafidalaaVecD
namespace Go.Proofs.Ytohgmliafidalaa
open Go.ChangeShapes Go.WideShapes Go.ChangeAt Go.RowKit
set_option linter.unusedVariables false
attribute [local go_sem] cell_rg

/-- The number of the first places of a text. -/
def numG (s : ByteArray) : Nat → Nat
  | 0 => 0
  | k + 1 => numG s k + (if vdg 1 s k = 1 then 2 ^ k else 0)
theorem numG_lt (s : ByteArray) : ∀ k, numG s k < 2 ^ k
  | 0 => Nat.one_pos
  | k + 1 => by
    have := numG_lt s k
    unfold numG
    split <;> (rw [Nat.pow_succ]; omega)
theorem or_pow : ∀ k : Nat, k < 8 → ∀ x : Nat, x < 2 ^ k → bits .or .i64 (x : Int) ((2 ^ k : Nat) : Int) = ((x + 2 ^ k : Nat) : Int) := by decide +kernel
set_option maxHeartbeats 1000000 in
theorem Number_any (s : ByteArray) (hs : s.size ≤ 9223372036854775807) (w : World) :
    Calls Try.prog 72 #[.string s] w fun e w' => e = .returned (.int .i64 (numG s 8 : Int)) ∧ w = w' := by
  have CG := hidden (fun (k : Nat) V => vdigitAt_any s k 1 V hs (by decide))
  go_enter Try.func72, Try.ntmps72
  go_wp2
  go_loop [3, 5] (fun a i => ∃ k : Nat, k ≤ 8 ∧ i = .int .i64 k ∧ a = .int .i64 (numG s k : Int)) (fun _ i => 8 - (intV i).toNat)
  case atStart => exact ⟨0, Nat.zero_le _, rfl, rfl⟩
  case round =>
    obtain ⟨k, hk, rfl, rfl⟩ := hrel
    by_cases hlt : k < 8
    · have i2 : (k : Int) < 8 := by omega
      have hx := numG_lt s k
      have HO := hidden (or_pow k hlt (numG s k) hx)
      have HC := hidden (CG.out k)
      have HN : Hid (numG s (k + 1) = numG s k + (if vdg 1 s k = 1 then 2 ^ k else 0)) := rfl
      have hp : 2 ^ k ≤ 128 := by
        have hk' : k = 0 ∨ k = 1 ∨ k = 2 ∨ k = 3 ∨ k = 4 ∨ k = 5 ∨ k = 6 ∨ k = 7 := by omega
        rcases hk' with rfl | rfl | rfl | rfl | rfl | rfl | rfl | rfl <;> decide
      generalize vdg 1 s k = z at *
      by_cases hz : z = 1
      · subst hz
        rw [if_pos rfl] at HN
        go_wp2_with fail
        refine (HC.out _).mono ?_
        rintro e w2 ⟨rfl, rfl⟩
        have HW : Hid (wrap64 ((2 : Int) ^ k) = ((2 ^ k : Nat) : Int)) := by
          show wrap64 ((2 : Int) ^ k) = ((2 ^ k : Nat) : Int)
          rw [show (2 : Int) ^ k = ((2 ^ k : Nat) : Int) by simp]
          generalize 2 ^ k = y at *
          unfold wrap64
          omega
        clear hp hx
        go_wp2
        go_round
        case rel => exact ⟨k + 1, by omega, by go_num, by rw [HW.out, HO.out, HN.out]⟩
        case measure => simp [intV]; omega
      · have j : (z == 1) = false := by simp [hz]
        rw [if_neg hz] at HN
        clear hz
        go_wp2_with fail
        refine (HC.out _).mono ?_
        rintro e w2 ⟨rfl, rfl⟩
        go_wp2
        go_round
        case rel => exact ⟨k + 1, by omega, by go_num, by rw [HN.out]; rfl⟩
        case measure => simp [intV]; omega
    · obtain rfl : k = 8 := by omega
      go_wp2
      go_ret
      exact ⟨rfl, rfl⟩
end Go.Proofs.Ytohgmliafidalaa
