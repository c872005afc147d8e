/- The calls of package crc (withByte, Sum, tail, Seal) return what the plain functions on bytes give, and make at most new memory; conditions: a text's length fits int. -/
import Derived.Test.YtcnmbpgjgjncdaaCrcM
import Derived.Laws.BitsAllLaws
import Derived.Laws.IdiomStrings
import Derived.Deep.RegionWith
import Derived.Lib.Strings
namespace Go.Proofs.Ytcnmbpgjgjncdaa
open Go.ChangeShapes Go.WideShapes Go.ChangeAt Go.RowKit
set_option linter.unusedVariables false

theorem and1_odd (y : Nat) (hy : y < 4294967296) (h : y % 2 = 1) : (bits .and .u32 (y : Int) 1 == 1) = true := by
  have := u32_and_nat y 1 hy (by decide)
  rw [Nat.and_one_is_mod, h] at this
  simpa using this
theorem and1_even (y : Nat) (hy : y < 4294967296) (h : ¬ y % 2 = 1) : (bits .and .u32 (y : Int) 1 == 1) = false := by
  have := u32_and_nat y 1 hy (by decide)
  rw [Nat.and_one_is_mod, show y % 2 = 0 by omega] at this
  rw [show (1 : Int) = ((1 : Nat) : Int) from rfl, this]
  decide
theorem xor_poly (y : Nat) (hy : y < 4294967296) : bits .xor .u32 ((y : Int) / 2) 3988292384 = ((y / 2 ^^^ 3988292384 : Nat) : Int) := by
  have := u32_xor_nat (y / 2) 3988292384 (by omega) (by decide)
  simpa using this
theorem crcSteps_odd {k x y : Nat} (h : crcSteps k x = y) (ho : y % 2 = 1) : crcSteps (k + 1) x = y / 2 ^^^ 3988292384 := by
  simp only [crcSteps]; rw [h]; unfold crcStep; rw [if_pos ho]
theorem crcSteps_even {k x y : Nat} (h : crcSteps k x = y) (ho : ¬ y % 2 = 1) : crcSteps (k + 1) x = y / 2 := by
  simp only [crcSteps]; rw [h]; unfold crcStep; rw [if_neg ho]
theorem val_u32 {a b : Int} (h : a = b) : Value.int .u32 a = Value.int .u32 b := by rw [h]
theorem ret_u32 {a b : Int} (h : a = b) : Ending.returned (.int .u32 a) = .returned (.int .u32 b) := by rw [h]
theorem take_snoc (s : ByteArray) (k : Nat) (h : k < s.size) : s.data.toList.take (k + 1) = s.data.toList.take k ++ [s[k]] := by
  rw [List.take_succ_eq_append_getElem (by simpa using h)]; rfl

set_option maxHeartbeats 400000 in
theorem withByte_any (x b : Nat) (w : World) (hx : x < 4294967296) (hb : b < 256) :
    Calls Try.prog 73 #[.int .u32 x, .int .u8 b] w fun e w' => e = .returned (.int .u32 (crcByte x b)) ∧ w = w' := by
  have hxb : bits .xor .u32 (x : Int) (b : Int) = ((x ^^^ b : Nat) : Int) := u32_xor_nat x b hx (by omega)
  go_enter Try.func73, Try.ntmps73
  go_wp2
  go_loop [0, 10] (fun s i => ∃ k : Nat, k ≤ 8 ∧ i = .int .i64 k ∧ s = .int .u32 (crcSteps k (x ^^^ b))) (fun _ i => 8 - (intOf i).toNat)
  case atStart => exact ⟨0, Nat.zero_le _, rfl, rfl⟩
  case round =>
    obtain ⟨k, hk, rfl, rfl⟩ := hrel
    have hlt := crcSteps_lt k (xor_lt32 hx (show b < 4294967296 by omega))
    by_cases hk8 : k < 8
    · generalize hy : crcSteps k (x ^^^ b) = y at *
      have HY : Hid (crcSteps k (x ^^^ b) = y) := hy
      clear hy
      have hp := xor_poly y hlt
      by_cases ho : y % 2 = 1
      · have h1 := and1_odd y hlt ho
        go_wp2
        go_round
        case rel => exact ⟨k + 1, by omega, by go_num, by rw [crcSteps_odd HY.out ho]⟩
        case measure => simp [intOf]; omega
      · have h1 := and1_even y hlt ho
        go_wp2
        go_round
        case rel => exact ⟨k + 1, by omega, by go_num, by rw [crcSteps_even HY.out ho]; exact val_u32 (by omega)⟩
        case measure => simp [intOf]; omega
    · have hk' : k = 8 := by omega
      subst hk'
      go_wp2
      go_ret
      exact ⟨rfl, rfl⟩

set_option maxHeartbeats 400000 in
theorem sum_any (s : ByteArray) (w : World) (hs : s.size ≤ maxLen) :
    Calls Try.prog 67 #[.string s] w fun e w' => e = .returned (.int .u32 (crcOf s.data.toList)) ∧ Below w.heap.size w w' := by
  unfold maxLen at hs
  have hcv := run_bytes_of_string (P := Try.prog) w 9 37 5 s Try.underlying9 Try.underlying37 Try.underlying5
  generalize hC : grownCap w s.size 0 5 = cap at hcv
  have hcell : ∀ (k : Nat) (h : k < s.size), (w.alloc (.cells (bytesRow s cap) 5 ((bytesRow s cap).size, (bytesRow s cap).size + 1))).cell? ⟨w.heap.size, k, none⟩ = some (.int .u8 (s[k].toNat : Int)) := by
    intro k h
    rw [World.cell?_alloc_mark]
    exact bytesRow_at s cap k (by simpa using h)
  clear hC
  generalize bytesRow s cap = C at *
  go_enter Try.func67, Try.ntmps67
  go_wp2
  go_loop [3, 10] (fun r i => ∃ k : Nat, k ≤ s.size ∧ i = .int .i64 k ∧ r = .int .u32 (crcRaw 4294967295 (s.data.toList.take k))) (fun _ i => s.size - (intOf i).toNat)
  case atStart => exact ⟨0, Nat.zero_le _, rfl, rfl⟩
  case round =>
    obtain ⟨k, hk, rfl, rfl⟩ := hrel
    have hlt := crcRaw_lt (s.data.toList.take k) (show 4294967295 < 4294967296 by decide)
    by_cases hlt2 : k < s.size
    · have hc := hcell k hlt2
      go_wp2_with (go_at_call 73; refine (withByte_any _ _ _ hlt (UInt8.toNat_lt _)).mono ?_; rintro e w' ⟨rfl, rfl⟩)
      go_round
      case rel => exact ⟨k + 1, by omega, by go_num, by rw [take_snoc s k hlt2, crcRaw_snoc]⟩
      case measure => simp [intOf]; omega
    · have hall : s.data.toList.take k = s.data.toList := List.take_of_length_le (by simp; omega)
      rw [hall]
      have hx := u32_xor_nat (crcRaw 4294967295 s.data.toList) 4294967295 (crcRaw_lt _ (by decide)) (by decide)
      go_wp2
      go_ret
      exact ⟨ret_u32 hx, ((Below.refl _ _).alloc (Nat.le_refl _) _).drew⟩

/-- The sum of a text, in four bytes. -/
def tailOf (s : ByteArray) : ByteArray := numStr (leInts (crcOf s.data.toList : Int) 4)
theorem tail_any (s : ByteArray) (w : World) (hs : s.size ≤ maxLen) :
    Calls Try.prog 47 #[.string s] w fun e w' => e = .returned (.string (tailOf s)) ∧ Below w.heap.size w w' := by
  have hlt := crcOf_lt s.data.toList
  go_enter Try.func47, Try.ntmps47
  go_wp2_with fail
  refine (sum_any s _ hs).mono ?_
  rintro e w1 ⟨rfl, hb1⟩
  go_wp2_with fail
  refine (put_4 _ _ (by omega) (by omega)).mono ?_
  rintro e w2 ⟨rfl, hb2⟩
  go_wp2
  go_ret
  exact ⟨rfl, hb1.trans (hb2.mono hb1.size)⟩
theorem tailOf_size (s : ByteArray) : (tailOf s).size = 4 := by
  simp [tailOf, numStr, ByteArray.size, leInts]
theorem seal_any (s : ByteArray) (w : World) (hs : s.size ≤ 281474976710656) :
    Calls Try.prog 24 #[.string s] w fun e w' => e = .returned (.string (s ++ tailOf s)) ∧ Below w.heap.size w w' := by
  have ht := tailOf_size s
  go_enter Try.func24, Try.ntmps24
  go_wp2_with fail
  refine (tail_any s _ (by unfold maxLen; omega)).mono ?_
  rintro e w1 ⟨rfl, hb1⟩
  go_wp2
  go_ret
  exact ⟨rfl, hb1⟩
theorem bytes_ne {a b : ByteArray} (h : ¬ a = b) : (a.toList == b.toList) = false := by
  rw [Lib.toList_data, Lib.toList_data]
  apply Bool.eq_false_iff.2
  intro he
  have he' : a.data.toList = b.data.toList := by simpa using he
  exact h (ByteArray.ext (Array.toList_inj.1 he'))
/-- What Open gives: the text and the error's number. -/
def openF (s : ByteArray) : ByteArray × Int :=
  if s.size < 4 then (⟨#[]⟩, 5) else if s.extract (s.size - 4) s.size = tailOf (s.extract 0 (s.size - 4)) then (s.extract 0 (s.size - 4), 0) else (⟨#[]⟩, 4)
theorem open_short (s : ByteArray) (w : World) (h : s.size < 4) :
    Calls Try.prog 30 #[.string s] w fun e w' => e = .returned (.tuple #[.string (openF s).1, .int .i64 (openF s).2]) ∧ Below w.heap.size w w' := by
  unfold openF
  rw [if_pos h]
  go_enter Try.func30, Try.ntmps30
  go_wp2
  go_ret2
  exact ⟨rfl, Below.refl _ _⟩
set_option maxHeartbeats 400000 in
theorem open_long (s : ByteArray) (w : World) (hs : s.size ≤ 281474976710656) (h : 4 ≤ s.size) :
    Calls Try.prog 30 #[.string s] w fun e w' => e = .returned (.tuple #[.string (openF s).1, .int .i64 (openF s).2]) ∧ Below w.heap.size w w' := by
  unfold openF
  rw [if_neg (by omega)]
  obtain ⟨n, hn⟩ : ∃ n, s.size = n + 4 := ⟨s.size - 4, by omega⟩
  rw [hn, Nat.add_sub_cancel]
  have hsz : (s.extract 0 n).size ≤ maxLen := by simp [ByteArray.size_extract, maxLen]; omega
  by_cases hE : s.extract n (n + 4) = tailOf (s.extract 0 n)
  · rw [if_pos hE]
    have hq : ((s.extract n (n + 4)).toList == (tailOf (s.extract 0 n)).toList) = true := by rw [hE]; simp
    clear hE
    go_enter Try.func30, Try.ntmps30
    go_wp2
    go_region_with (go_at_call 47; refine (tail_any _ _ hsz).mono ?_; rintro e w1 ⟨rfl, hb1⟩)
    all_goals go_wp2
    all_goals go_ret2
    all_goals exact ⟨rfl, (Below.refl _ _).drew.trans hb1⟩
  · rw [if_neg hE]
    have hq : ((s.extract n (n + 4)).toList == (tailOf (s.extract 0 n)).toList) = false := bytes_ne hE
    clear hE
    go_enter Try.func30, Try.ntmps30
    go_wp2
    go_region_with (go_at_call 47; refine (tail_any _ _ hsz).mono ?_; rintro e w1 ⟨rfl, hb1⟩)
    all_goals go_wp2
    all_goals go_ret2
    all_goals exact ⟨rfl, (Below.refl _ _).drew.trans hb1⟩
theorem open_any (s : ByteArray) (w : World) (hs : s.size ≤ 281474976710656) :
    Calls Try.prog 30 #[.string s] w fun e w' => e = .returned (.tuple #[.string (openF s).1, .int .i64 (openF s).2]) ∧ Below w.heap.size w w' := by
  by_cases h : s.size < 4
  · exact open_short s w h
  · exact open_long s w hs (by omega)
end Go.Proofs.Ytcnmbpgjgjncdaa
