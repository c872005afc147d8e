/- The document's own answer for layer 2 (Sum, tail, Seal, Open) returns the same plain functions' values as package crc's contracts; conditions: a text's length is at most 2 to the 48th. -/
import Derived.Test.YtcnmbpgjgjncdaaCrc
import Derived.Test.YtcnmbpgjgjncdaaRefB
namespace Go.Proofs.Ytcnmbpgjgjncdaa
open Go.ChangeShapes Go.WideShapes Go.ChangeAt Go.RowKit
set_option linter.unusedVariables false
set_option maxHeartbeats 800000 in
theorem rsum_any (s : ByteArray) (w : World) (hs : s.size ≤ maxLen) :
    Calls Try.prog 69 #[.string s] w fun e w' => e = .returned (.int .u32 (crcOf s.data.toList)) ∧ w = w' := by
  unfold maxLen at hs
  go_enter Try.func69, Try.ntmps69
  go_wp2
  go_loop [3, 4, 5] (fun r i _ => ∃ k : Nat, k ≤ s.size ∧ i = .int .i64 k ∧ r = .int .u32 (crcRaw 4294967295 (s.data.toList.take k))) (fun _ i _ => s.size - (intOf i).toNat)
  case atStart => exact ⟨0, Nat.zero_le _, rfl, rfl⟩
  case round =>
    obtain ⟨k, hk, rfl, rfl⟩ := hrel
    have hlt := crcRaw_lt (s.data.toList.take k) (show 4294967295 < 4294967296 by decide)
    by_cases hlt2 : k < s.size
    · have HR : Hid (crcRaw 4294967295 (s.data.toList.take (k + 1)) = crcByte (crcRaw 4294967295 (s.data.toList.take k)) s[k].toNat) := by rw [take_snoc s k hlt2, crcRaw_snoc]; exact rfl
      generalize crcRaw 4294967295 (s.data.toList.take k) = x at *
      have hb := s[k].toNat_lt
      have hxb : bits .xor .u32 (x : Int) (s[k].toNat : Int) = ((x ^^^ s[k].toNat : Nat) : Int) := u32_xor_nat x _ hlt (by omega)
      go_wp2
      go_loop [3, 5] (fun r j => ∃ m : Nat, m ≤ 8 ∧ j = .int .i64 m ∧ r = .int .u32 (crcSteps m (x ^^^ s[k].toNat))) (fun _ j => 8 - (intOf j).toNat)
      case atStart => exact ⟨0, Nat.zero_le _, rfl, rfl⟩
      case round =>
        obtain ⟨m, hm, rfl, rfl⟩ := hrel
        have hlt3 := crcSteps_lt m (xor_lt32 hlt (show s[k].toNat < 4294967296 by omega))
        by_cases hm8 : m < 8
        · generalize hy : crcSteps m (x ^^^ s[k].toNat) = y at *
          have HY : Hid (crcSteps m (x ^^^ s[k].toNat) = y) := hy
          clear hy
          have hp := xor_poly y hlt3
          by_cases ho : y % 2 = 1
          · have h1 := and1_odd y hlt3 ho
            go_wp2
            go_round
            case rel => exact ⟨m + 1, by omega, by go_num, by rw [crcSteps_odd HY.out ho]⟩
            case measure => simp [intOf]; omega
          · have h1 := and1_even y hlt3 ho
            go_wp2
            go_round
            case rel => exact ⟨m + 1, by omega, by go_num, by rw [crcSteps_even HY.out ho]; exact val_u32 (by omega)⟩
            case measure => simp [intOf]; omega
        · have hm' : m = 8 := by omega
          subst hm'
          go_wp2
          go_round
          case rel => exact ⟨k + 1, by omega, by go_num, by rw [HR.out]; rfl⟩
          case measure => simp [intOf]; omega
    · have hall : s.data.toList.take k = s.data.toList := List.take_of_length_le (by simp; omega)
      rw [hall]
      have hx := u32_xor_nat (crcRaw 4294967295 s.data.toList) 4294967295 (crcRaw_lt _ (by decide)) (by decide)
      go_wp2
      go_ret
      exact ⟨ret_u32 hx, rfl⟩
theorem rtail_any (s : ByteArray) (w : World) (hs : s.size ≤ maxLen) :
    Calls Try.prog 50 #[.string s] w fun e w' => e = .returned (.string (tailOf s)) ∧ Below w.heap.size w w' := by
  have hlt := crcOf_lt s.data.toList
  go_enter Try.func50, Try.ntmps50
  go_wp2_with fail
  refine (rsum_any s _ hs).mono ?_
  rintro e w1 ⟨rfl, rfl⟩
  go_wp2_with fail
  refine (rput_4 _ _ (by omega) (by omega)).mono ?_
  rintro e w2 ⟨rfl, hb2⟩
  go_wp2
  go_ret
  exact ⟨rfl, hb2⟩
theorem rseal_any (s : ByteArray) (w : World) (hs : s.size ≤ 281474976710656) :
    Calls Try.prog 26 #[.string s] w fun e w' => e = .returned (.string (s ++ tailOf s)) ∧ Below w.heap.size w w' := by
  have ht := tailOf_size s
  go_enter Try.func26, Try.ntmps26
  go_wp2_with fail
  refine (rtail_any s _ (by unfold maxLen; omega)).mono ?_
  rintro e w1 ⟨rfl, hb1⟩
  go_wp2
  go_ret
  exact ⟨rfl, hb1⟩
theorem ropen_short (s : ByteArray) (w : World) (h : s.size < 4) :
    Calls Try.prog 35 #[.string s] w fun e w' => e = .returned (.tuple #[.string (openF s).1, .int .i64 (openF s).2]) ∧ Below w.heap.size w w' := by
  unfold openF
  rw [if_pos h]
  go_enter Try.func35, Try.ntmps35
  go_wp2
  go_ret2
  exact ⟨rfl, Below.refl _ _⟩
set_option maxHeartbeats 400000 in
theorem ropen_long (s : ByteArray) (w : World) (hs : s.size ≤ 281474976710656) (h : 4 ≤ s.size) :
    Calls Try.prog 35 #[.string s] w fun e w' => e = .returned (.tuple #[.string (openF s).1, .int .i64 (openF s).2]) ∧ Below w.heap.size w w' := by
  unfold openF
  rw [if_neg (by omega)]
  obtain ⟨n, hn⟩ : ∃ n, s.size = n + 4 := ⟨s.size - 4, by omega⟩
  rw [hn, Nat.add_sub_cancel]
  have hsz : (s.extract 0 n).size ≤ maxLen := by simp [ByteArray.size_extract, maxLen]; omega
  by_cases hE : s.extract n (n + 4) = tailOf (s.extract 0 n)
  · rw [if_pos hE]
    have hq : ((s.extract n (n + 4)).toList == (tailOf (s.extract 0 n)).toList) = true := by rw [hE]; simp
    clear hE
    go_enter Try.func35, Try.ntmps35
    go_wp2
    go_region_with (go_at_call 50; refine (rtail_any _ _ hsz).mono ?_; rintro e w1 ⟨rfl, hb1⟩)
    all_goals go_wp2
    all_goals go_ret2
    all_goals exact ⟨rfl, (Below.refl _ _).drew.trans hb1⟩
  · rw [if_neg hE]
    have hq : ((s.extract n (n + 4)).toList == (tailOf (s.extract 0 n)).toList) = false := bytes_ne hE
    clear hE
    go_enter Try.func35, Try.ntmps35
    go_wp2
    go_region_with (go_at_call 50; refine (rtail_any _ _ hsz).mono ?_; rintro e w1 ⟨rfl, hb1⟩)
    all_goals go_wp2
    all_goals go_ret2
    all_goals exact ⟨rfl, (Below.refl _ _).drew.trans hb1⟩
theorem ropen_any (s : ByteArray) (w : World) (hs : s.size ≤ 281474976710656) :
    Calls Try.prog 35 #[.string s] w fun e w' => e = .returned (.tuple #[.string (openF s).1, .int .i64 (openF s).2]) ∧ Below w.heap.size w w' := by
  by_cases h : s.size < 4
  · exact ropen_short s w h
  · exact ropen_long s w hs (by omega)
end Go.Proofs.Ytcnmbpgjgjncdaa
