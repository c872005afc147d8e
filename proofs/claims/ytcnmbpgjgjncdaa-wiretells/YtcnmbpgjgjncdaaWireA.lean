/- The calls oneByte and pack of package wire return the bytes that plain functions give, and make at most new memory; conditions: the number is a byte, the text has digits alone. -/
import Derived.Test.YtcnmbpgjgjncdaaWireO
import Derived.Laws.BitsLemmas
import Derived.Laws.BitsAllLaws
namespace Go.Proofs.Ytcnmbpgjgjncdaa
open Go.ChangeShapes Go.WideShapes Go.ChangeAt Go.RowKit
set_option linter.unusedVariables false

theorem oneByte_any (n : Int) (w : World) (h0 : 0 ≤ n) (h1 : n < 256) :
    Calls Try.prog 49 #[.int .i64 n] w fun e w' => e = .returned (.string (ba [UInt8.ofNat n.toNat])) ∧ Below w.heap.size w w' := by
  have C := put_1 n w h0 h1
  rw [put_cells_1 n h0 h1, numStr_one] at C
  go_enter Try.func49, Try.ntmps49
  go_wp2_with fail
  refine C.mono ?_
  rintro e w1 ⟨rfl, hb⟩
  go_wp2
  go_ret
  exact ⟨rfl, hb⟩
/-- The bytes behind so many digits. -/
def pkPart (l : List UInt8) (k : Nat) : List UInt8 := (List.range ((l.length + 3) / 4)).map fun j => UInt8.ofNat (pkN (l.take k) j)
theorem pkPart_length (l : List UInt8) (k : Nat) : (pkPart l k).length = (l.length + 3) / 4 := by simp [pkPart]
theorem pkPart_zero (l : List UInt8) : pkPart l 0 = List.replicate ((l.length + 3) / 4) 0 := by
  apply List.ext_getElem
  · rw [pkPart_length, List.length_replicate]
  · intro i h1 h2
    simp [pkPart, pkN, dgL]
theorem pkPart_all (l : List UInt8) : pkPart l l.length = pkL l := by unfold pkPart pkL; rw [List.take_length]
theorem dgL_take (l : List UInt8) (k j : Nat) : dgL (l.take k) j = if j < k then dgL l j else 0 := by
  unfold dgL
  by_cases h : j < k
  · rw [if_pos h, List.getD_eq_getElem?_getD, List.getD_eq_getElem?_getD, List.getElem?_take_of_lt h]
  · rw [if_neg h, List.getD_eq_getElem?_getD, List.getElem?_eq_none (by simp; omega)]
    decide
theorem pkN_take_lt {l : List UInt8} (h : DigL l) (k j : Nat) : pkN (l.take k) j < 256 := pkN_lt (fun b hb => h b (List.mem_of_mem_take hb)) j
/-- One digit more: what was there is below its place. -/
theorem pkN_step {l : List UInt8} (h : DigL l) (q r : Nat) (hr : r < 4) : pkN (l.take (4 * q + r)) q < 4 ^ r ∧ pkN (l.take (4 * q + r + 1)) q = pkN (l.take (4 * q + r)) q + dgL l (4 * q + r) * 4 ^ r ∧ ∀ j, j ≠ q → pkN (l.take (4 * q + r + 1)) j = pkN (l.take (4 * q + r)) j := by
  have h0 := dgL_le h (4 * q)
  have h1 := dgL_le h (4 * q + 1)
  have h2 := dgL_le h (4 * q + 2)
  have h3 := dgL_le h (4 * q + 3)
  refine ⟨?_, ?_, ?_⟩
  · unfold pkN
    simp only [dgL_take]
    obtain rfl | rfl | rfl | rfl : r = 0 ∨ r = 1 ∨ r = 2 ∨ r = 3 := by omega
    all_goals (simp only [show (4 : Nat) ^ 0 = 1 by decide, show (4 : Nat) ^ 1 = 4 by decide, show (4 : Nat) ^ 2 = 16 by decide, show (4 : Nat) ^ 3 = 64 by decide]; repeat' split) <;> omega
  · unfold pkN
    simp only [dgL_take]
    obtain rfl | rfl | rfl | rfl : r = 0 ∨ r = 1 ∨ r = 2 ∨ r = 3 := by omega
    all_goals (simp only [show (4 : Nat) ^ 0 = 1 by decide, show (4 : Nat) ^ 1 = 4 by decide, show (4 : Nat) ^ 2 = 16 by decide, show (4 : Nat) ^ 3 = 64 by decide, Nat.add_zero]; repeat' split) <;> omega
  · intro j hj
    have e : ∀ i, i < 4 → dgL (l.take (4 * q + r + 1)) (4 * j + i) = dgL (l.take (4 * q + r)) (4 * j + i) := by
      intro i hi
      rw [dgL_take, dgL_take]
      by_cases k1 : 4 * j + i < 4 * q + r
      · rw [if_pos k1, if_pos (by omega)]
      · rw [if_neg k1, if_neg (by omega)]
    unfold pkN
    have e0 : dgL (l.take (4 * q + r + 1)) (4 * j) = dgL (l.take (4 * q + r)) (4 * j) := e 0 (by omega)
    rw [e0, e 1 (by omega), e 2 (by omega), e 3 (by omega)]
theorem pkPart_step {l : List UInt8} (h : DigL l) (q r : Nat) (hr : r < 4) (hk : 4 * q + r < l.length) : (pkPart l (4 * q + r)).set q (UInt8.ofNat (pkN (l.take (4 * q + r)) q + dgL l (4 * q + r) * 4 ^ r)) = pkPart l (4 * q + r + 1) := by
  obtain ⟨_, s2, s3⟩ := pkN_step h q r hr
  apply List.ext_getElem
  · rw [List.length_set, pkPart_length, pkPart_length]
  · intro i h1 h2
    rw [List.getElem_set]
    split
    · rename_i e
      subst e
      rw [← s2]
      simp [pkPart]
    · rename_i e
      simp only [pkPart, List.getElem_map, List.getElem_range]
      rw [s3 i (fun k => e k.symm)]
theorem pkPart_at {l : List UInt8} (h : DigL l) (k q : Nat) (hq : q < (l.length + 3) / 4) : (bvals (pkPart l k))[q]? = some (.int .u8 (pkN (l.take k) q : Int)) := by
  rw [bvals_at _ _ (by rw [pkPart_length]; exact hq)]
  simp only [pkPart, List.getElem_map, List.getElem_range]
  rw [UInt8.toNat_ofNat_of_lt' (pkN_take_lt h k q)]
theorem or8_all : ∀ r, r < 4 → ∀ a, a < 4 ^ r → ∀ d, d < 3 → bits .or .u8 ((a : Nat) : Int) (((d : Nat) : Int) % 256 * 2 ^ (2 * r) % 256) = ((a + d * 4 ^ r : Nat) : Int) := by decide +kernel
theorem dgL_bl (s : ByteArray) (hd : DigL (bl s)) (k : Nat) (h : k < s.size) : ((s[k].toNat : Int) - 48) = (dgL (bl s) k : Int) := by
  have hl : k < (bl s).length := by rw [bl_length]; exact h
  rw [dgL_at k hl]
  have h1 := hd _ (List.getElem_mem hl)
  have h2 : (bl s)[k] = s[k] := rfl
  rw [h2] at h1 ⊢
  omega
set_option maxHeartbeats 1000000 in
theorem pack_any (s : ByteArray) (w : World) (hd : DigL (bl s)) (hs : s.size ≤ 1000) :
    Calls Try.prog 48 #[.string s] w fun e w' => e = .returned (.string (ba (pkL (bl s)))) ∧ Below w.heap.size w w' := by
  have hmk := fun w => make_bytes ((s.size + 3) / 4) (by omega) w
  have hln : (pkPart (bl s) s.size).length = (s.size + 3) / 4 := by rw [pkPart_length, bl_length]
  have e1 : ((((s.size + 3) / 4 : Nat)) : Int) = ((s.size : Int) + 4 - 1) / 4 := by omega
  rw [e1] at hmk
  go_enter Try.func48, Try.ntmps48
  go_wp2
  go_loopw [13] (fun i wr => ∃ k : Nat, k ≤ s.size ∧ i = .int .i64 k ∧ wr.heap[w.heap.size]? = some (.cells (bvals (pkPart (bl s) k)) 5 (0, 0)) ∧ Below w.heap.size w wr) (fun i _ => s.size - (intV i).toNat)
  case atStart =>
    refine ⟨0, Nat.zero_le _, rfl, ?_, ballc _ _⟩
    rw [pkPart_zero, bl_length]
    exact heap_alloc_new _ _
  case round =>
    obtain ⟨k, hk, rfl, hg, hB⟩ := hrel
    by_cases hlt : k < s.size
    · obtain ⟨q, r, hr, rfl⟩ : ∃ q r, r < 4 ∧ k = 4 * q + r := ⟨k / 4, k % 4, by omega, by omega⟩
      obtain ⟨s1, s2, _⟩ := pkN_step hd q r hr
      have hcell := (blk_cell hg q).trans (pkPart_at hd (4 * q + r) q (by rw [bl_length]; omega))
      have hfro := blk_frozen hg q
      have q1 : ((4 * q + r : Nat) : Int) / 4 = (q : Int) := by omega
      have q2 : ((4 * q + r : Nat) : Int) % 4 = (r : Int) := by omega
      generalize hK : 4 * q + r = K at *
      have q3 : (q : Int) < ((s.size : Int) + 4 - 1) / 4 := by omega
      have q4 : (0 : Int) ≤ (q : Int) := by omega
      go_wp2
      go_region
      have hst := heap_setCell_same _ w.heap.size q _ _ (Value.int .u8 (bits .or .u8 (pkN (List.take K (bl s)) q : Int) (((s[K].toNat : Int) - 48) % 256 * 2 ^ (2 * r) % 256))) hg
      have hB2 := hB.setCell (p := ⟨w.heap.size, q, none⟩) (Nat.le_refl _) (Value.int .u8 (bits .or .u8 (pkN (List.take K (bl s)) q : Int) (((s[K].toNat : Int) - 48) % 256 * 2 ^ (2 * r) % 256)))
      have e3 : (bvals (pkPart (bl s) K)).setIfInBounds q (Value.int .u8 (bits .or .u8 (pkN (List.take K (bl s)) q : Int) (((s[K].toNat : Int) - 48) % 256 * 2 ^ (2 * r) % 256))) = bvals (pkPart (bl s) (K + 1)) := by
        have hdg := dgL_le hd K
        have hlt2 := pkN_take_lt hd (K + 1) q
        rw [dgL_bl s hd K hlt, or8_all r hr _ s1 _ (by omega), bvals_set _ _ _ (by omega)]
        have hst := pkPart_step hd q r hr (by rw [bl_length]; omega)
        rw [hK] at hst
        rw [hst]
      rw [e3] at hst
      go_wp2
      go_roundw
      case rel => exact ⟨K + 1, by omega, by go_num, hst, hB2.drew⟩
      case measure => simp [intV]; omega
    · obtain rfl : k = s.size := by omega
      have hcv := conv_blk hg
      rw [hln] at hcv
      go_wp2
      go_ret
      refine ⟨?_, hB⟩
      rw [← pkPart_all, bl_length]
      rfl
end Go.Proofs.Ytcnmbpgjgjncdaa
