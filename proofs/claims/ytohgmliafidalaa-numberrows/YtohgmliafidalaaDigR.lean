/- The document's call Digits of layer 19 returns digits of a text from a place on, and makes no memory; conditions: lengths and places are small. -/
import Derived.Test.YtohgmliafidalaaNbrM
namespace Go.Proofs.Ytohgmliafidalaa
open Go.ChangeShapes Go.WideShapes Go.ChangeAt Go.RowKit
set_option linter.unusedVariables false

theorem digT_s (s : ByteArray) (fr k : Nat) : digT s fr (k + 1) = digT s fr k ++ ba [UInt8.ofNat (48 + digG s fr k)] := dgB_s _ _
theorem digT_size (s : ByteArray) (fr k : Nat) : (digT s fr k).size = k := dgB_size _ _
theorem digG_yes {s : ByteArray} {fr k q : Nat} (hq : q = fr + k) (h : q < s.size) (e : ((s[q]'h).toNat : Int) = 49) : ba [UInt8.ofNat (48 + digG s fr k)] = ⟨#[49]⟩ := by
  subst hq
  unfold digG
  rw [vdg_in h (by omega) (by omega), e]
  rfl
theorem digG_no {s : ByteArray} {fr k q : Nat} (hq : q = fr + k) (h : q < s.size) (e : ¬ ((s[q]'h).toNat : Int) = 49) : ba [UInt8.ofNat (48 + digG s fr k)] = ⟨#[48]⟩ := by
  subst hq
  have : vdg 1 s (fr + k) ≠ 1 := fun hv => by
    unfold vdg at hv
    rw [dif_pos h] at hv
    split at hv <;> omega
  unfold digG
  rw [if_neg this]
  rfl
theorem digG_out {s : ByteArray} {fr k q : Nat} (hq : q = fr + k) (h : ¬ q < s.size) : ba [UInt8.ofNat (48 + digG s fr k)] = ⟨#[48]⟩ := by
  subst hq
  unfold digG
  rw [vdg_out (by omega)]
  rfl
set_option maxRecDepth 100000 in
set_option maxHeartbeats 4000000 in
theorem rDigits_any (s : ByteArray) (fr n : Nat) (w : World) (hs : s.size ≤ 9223372036854775807) (hf : fr ≤ 1000) (hn : n ≤ 1000) :
    Calls Try.prog 58 #[.string s, .int .i64 (fr : Int), .int .i64 (n : Int)] w fun e w' => e = .returned (.string (digT s fr n)) ∧ w = w' := by
  obtain ⟨z, hz⟩ : ∃ z : Nat, z = fr + n := ⟨_, rfl⟩
  have t1 : (fr : Int) + (n : Int) = (z : Int) := by omega
  have HZ := hidden hz
  have hz1 : z ≤ 2000 := by omega
  clear hz
  go_enter Try.func58, Try.ntmps58
  go_wp2
  go_loop [7, 8] (fun a i => ∃ k : Nat, k ≤ n ∧ i = .int .i64 ((fr + k : Nat) : Int) ∧ a = .string (digT s fr k)) (fun _ i => z - (intV i).toNat)
  case atStart => exact ⟨0, Nat.zero_le _, rfl, rfl⟩
  case round =>
    obtain ⟨k, hk, rfl, rfl⟩ := hrel
    obtain ⟨q, hq⟩ : ∃ q : Nat, q = fr + k := ⟨_, rfl⟩
    rw [← hq]
    have HQ := hidden hq
    have hsz := digT_size s fr k
    have HS := hidden (digT_s s fr k)
    by_cases hlt : k < n
    · have i1 : (0 : Int) ≤ (q : Int) := by omega
      have i2 : (q : Int) < (z : Int) := by have := HZ.out; omega
      have hq2 : q + 1 ≤ 2000 := by have := HZ.out; omega
      by_cases hlk : q < s.size
      · have i3 : (q : Int) < (s.size : Int) := by omega
        have i4 : decide ((q : Int) < (s.size : Int)) = true := decide_eq_true i3
        have i5 : decide (q < s.size) = true := decide_eq_true hlk
        by_cases h49 : ((s[q]'hlk).toNat : Int) = 49
        · have HD := hidden (digG_yes hq hlk h49)
          have d1 : (((s[q]'hlk).toNat : Int) == 49) = true := beq_iff_eq.2 h49
          clear hq
          generalize digT s fr k = out at *
          go_wp2
          go_round
          case rel => exact ⟨k + 1, by omega, by have := HQ.out; go_num, by rw [HS.out, HD.out]⟩
          case measure => have := HZ.out; have := HQ.out; simp [intV]; omega
        · have HD := hidden (digG_no hq hlk h49)
          have d1 : (((s[q]'hlk).toNat : Int) == 49) = false := beq_eq_false_iff_ne.2 h49
          clear hq
          generalize digT s fr k = out at *
          go_wp2
          go_round
          case rel => exact ⟨k + 1, by omega, by have := HQ.out; go_num, by rw [HS.out, HD.out]⟩
          case measure => have := HZ.out; have := HQ.out; simp [intV]; omega
      · have i3 : ¬ (q : Int) < (s.size : Int) := by omega
        have i4 : decide ((q : Int) < (s.size : Int)) = false := decide_eq_false i3
        have i5 : decide (q < s.size) = false := decide_eq_false hlk
        have HD := hidden (digG_out hq hlk)
        clear hq
        generalize digT s fr k = out at *
        go_wp2
        go_round
        case rel => exact ⟨k + 1, by omega, by have := HQ.out; go_num, by rw [HS.out, HD.out]⟩
        case measure => have := HZ.out; have := HQ.out; simp [intV]; omega
    · obtain rfl : k = n := by omega
      have i2 : ¬ (q : Int) < (z : Int) := by have := HZ.out; omega
      clear hq
      go_wp2
      go_ret
      exact ⟨rfl, rfl⟩
end Go.Proofs.Ytohgmliafidalaa
