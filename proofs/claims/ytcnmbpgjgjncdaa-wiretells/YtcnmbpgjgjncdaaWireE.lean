/- The call digits of package wire's reader of packets returns so many digits, moves the reader's place on, and leaves all other memory as it was; conditions: the reader lies where it says, its place is not beyond its bytes, of which there are at most 1000. -/
import Derived.Test.YtcnmbpgjgjncdaaWireD
namespace Go.Proofs.Ytcnmbpgjgjncdaa
open Go.ChangeShapes Go.WideShapes Go.ChangeAt Go.RowKit
set_option linter.unusedVariables false

theorem But.set_new {b : Nat} {u w : World} (h : But b u w) (g i : Nat) (hg : u.heap.size ≤ g) (v : Value) : But b u (w.setCell ⟨g, i, none⟩ v) :=
  ⟨h.os, h.tape, h.output, by simpa using h.size, fun k hk hne => (heap_setCell_other w ⟨g, i, none⟩ k v (fun e => by simp at e; omega)).trans (h.block k hk hne)⟩
theorem and3 (x : Nat) (hx : x < 1000) : bits .and .i64 (x : Int) 3 = ((x % 4 : Nat) : Int) := by
  have h := (bits_nat .i64 62 (by decide) wraps_i64 x 3 (by omega) (by omega)).1
  have e : x &&& 3 = x % 4 := Nat.and_two_pow_sub_one_eq_mod x 2
  rw [e] at h
  exact h
theorem adv_one (l : List UInt8) (a m : Nat) (ha : a ≤ l.length) : adv l (adv l a m) 1 = adv l a (m + 1) := by unfold adv; omega
theorem nb_adv (l : List UInt8) (a m : Nat) : nb l (adv l a m) = nb l (a + m) := by
  unfold adv
  by_cases h : a + m ≤ l.length
  · rw [Nat.min_eq_left h]
  · rw [Nat.min_eq_right (by omega), nb_out l l.length (Nat.le_refl _), nb_out l (a + m) (by omega)]
def unPart (l : List UInt8) (a n k : Nat) : List UInt8 := unL l a k ++ List.replicate (n - k) 0
theorem unPart_length (l : List UInt8) (a n k : Nat) (h : k ≤ n) : (unPart l a n k).length = n := by unfold unPart; rw [List.length_append, unL_length, List.length_replicate]; omega
theorem unPart_zero (l : List UInt8) (a n : Nat) : unPart l a n 0 = List.replicate n 0 := by simp [unPart, unL]
theorem unPart_all (l : List UInt8) (a n : Nat) : unPart l a n n = unL l a n := by simp [unPart]
theorem unN_lt (l : List UInt8) (a i : Nat) : unN l a i < 256 := by unfold unN; omega
theorem unPart_step (l : List UInt8) (a n k : Nat) (h : k < n) : (unPart l a n k).set k (UInt8.ofNat (unN l a k)) = unPart l a n (k + 1) := by
  have e : n - k = (n - (k + 1)) + 1 := by omega
  have e2 : unL l a (k + 1) = unL l a k ++ [UInt8.ofNat (unN l a k)] := by simp [unL, List.range_succ]
  unfold unPart
  rw [e, List.replicate_succ, e2]
  have hl := unL_length l a k
  rw [List.set_append_right _ _ (by omega), hl, Nat.sub_self]
  simp
theorem unPart_at (l : List UInt8) (a n k : Nat) (h : k < n) : ∃ u, (bvals (unPart l a n k))[k]? = some u := ⟨_, bvals_at _ _ (by rw [unPart_length _ _ _ _ (by omega)]; exact h)⟩
theorem unPart_cells (l : List UInt8) (a n k y : Nat) (h : k < n) (e : unN l a k = 48 + y % 4) : (bvals (unPart l a n k)).setIfInBounds k (.int .u8 (48 + (y : Int) % 4)) = bvals (unPart l a n (k + 1)) := by
  have e2 : (48 + (y : Int) % 4) = ((48 + y % 4 : Nat) : Int) := by omega
  rw [e2, ← e, bvals_set _ _ _ (unN_lt _ _ _), unPart_step _ _ _ _ h]
set_option maxHeartbeats 2000000 in
theorem digits_any (b : Nat) (s : ByteArray) (a : Nat) (R B : Int) (n : Nat) (w : World) (h : Rd b s a R B w) (ha : a ≤ s.size) (hs : s.size ≤ 1000) (hn : n ≤ 1000) :
    Calls Try.prog 59 #[.pointer (some ⟨b, 0, none⟩), .int .i64 (n : Int)] w fun e w' => e = .returned (.string (ba (unL (bl s) a n))) ∧ Rd b s (adv (bl s) a ((n + 3) / 4)) R B w' ∧ But b w w' := by
  have hmk := fun w => make_bytes n (by omega) w
  have hls : a ≤ (bl s).length := by rw [bl_length]; exact ha
  have hlb := h.lt
  go_enter Try.func59, Try.ntmps59
  go_wp2
  go_loopw [6, 11] (fun v i wr => ∃ k x : Nat, k ≤ n ∧ i = .int .i64 k ∧ v = .int .i64 x ∧ x < 256 ∧ (k % 4 ≠ 0 → x = nb (bl s) (a + k / 4) / 4 ^ (k % 4)) ∧ Rd b s (adv (bl s) a ((k + 3) / 4)) R B wr ∧ wr.heap[w.heap.size]? = some (.cells (bvals (unPart (bl s) a n k)) 5 (0, 0)) ∧ But b w wr) (fun _ i _ => n - (intV i).toNat)
  case atStart =>
    refine ⟨0, 0, Nat.zero_le _, rfl, rfl, by omega, fun h => absurd rfl h, ?_, ?_, But.of_below (ballc _ _)⟩
    · have e : adv (bl s) a ((0 + 3) / 4) = a := by unfold adv; omega
      rw [e]
      exact h.later (ballc _ _)
    · rw [unPart_zero]
      exact heap_alloc_new _ _
  case round =>
    obtain ⟨k, x, hk, rfl, rfl, hx, hpk, hR, hg, hB⟩ := hrel
    by_cases hlt : k < n
    · have i2 : (k : Int) < (n : Int) := by omega
      by_cases h4 : k % 4 = 0
      · have h4' : ((k : Int) % 4 == 0) = true := by simp; omega
        have C := number_any b s (adv (bl s) a ((k + 3) / 4)) R B wr hR (by unfold adv; rw [bl_length]; omega) hs
        rw [nb_adv, adv_one _ _ _ hls] at C
        have e1 : (k + 3) / 4 = k / 4 := by omega
        have e2 : (k + 3) / 4 + 1 = (k + 1 + 3) / 4 := by omega
        rw [e2, e1] at C
        have hy := nb_lt (bl s) (a + k / 4)
        have HU : Hid (unN (bl s) a k = 48 + nb (bl s) (a + k / 4) % 4) := by
          show _ = _
          unfold unN
          rw [h4, Nat.pow_zero, Nat.div_one]; rfl
        have HN : Hid ((k + 1) % 4 ≠ 0 → nb (bl s) (a + k / 4) / 4 = nb (bl s) (a + (k + 1) / 4) / 4 ^ ((k + 1) % 4)) := fun _ => by
          have e3 : (k + 1) / 4 = k / 4 := by omega
          have e4 : (k + 1) % 4 = 1 := by omega
          rw [e3, e4, Nat.pow_one]
        generalize nb (bl s) (a + k / 4) = y at *
        have h3 := and3 y (by omega)
        clear hpk h4 e1 e2
        go_wp2_with fail
        refine C.mono ?_
        rintro e w1 ⟨rfl, hR1, hB1⟩
        have hg1 := (hB1.block w.heap.size (Array.getElem?_eq_some_iff.1 hg).1 (by simp; omega)).trans hg
        obtain ⟨u, hu⟩ := unPart_at (bl s) a n k hlt
        have hc := (blk_cell hg1 k).trans hu
        have hf := blk_frozen hg1 k
        have HR1 := hidden hR1
        have HB1 := hidden (But.trans hB hB1)
        have HG1 := hidden hg1
        clear hR1 hB1 hg1 hg hB hR hu C
        go_wp2
        go_roundw
        case rel =>
          have hst := heap_setCell_same _ w.heap.size k _ _ (.int .u8 (48 + (y : Int) % 4)) HG1.out
          rw [unPart_cells _ _ _ _ _ hlt HU.out] at hst
          refine ⟨k + 1, y / 4, by omega, by go_num, by go_num, by omega, HN.out, ?_, hst, HB1.out.set_new _ _ (Nat.le_refl _) _⟩
          exact (heap_setCell_other w1 ⟨w.heap.size, k, none⟩ b _ (by simp; omega)).trans HR1.out
        case measure => simp [intV]; omega
      · have h4' : ((k : Int) % 4 == 0) = false := by simp; omega
        have hx2 := hpk h4
        have HU : Hid (unN (bl s) a k = 48 + x % 4) := by
          show _ = _
          rw [hx2]; rfl
        have HN : Hid ((k + 1) % 4 ≠ 0 → x / 4 = nb (bl s) (a + (k + 1) / 4) / 4 ^ ((k + 1) % 4)) := fun h5 => by
          have e3 : (k + 1) / 4 = k / 4 := by omega
          have e4 : (k + 1) % 4 = k % 4 + 1 := by omega
          rw [e3, e4, Nat.pow_succ, ← Nat.div_div_eq_div_mul, ← hx2]
        have h3 := and3 x (by omega)
        have e1 : (k + 3) / 4 = (k + 1 + 3) / 4 := by omega
        rw [e1] at hR
        obtain ⟨u, hu⟩ := unPart_at (bl s) a n k hlt
        have hc := (blk_cell hg k).trans hu
        have hf := blk_frozen hg k
        have HR1 := hidden hR
        have HB1 := hidden hB
        have HG1 := hidden hg
        clear hpk h4 e1 hx2 hR hB hg hu
        go_wp2
        go_roundw
        case rel =>
          have hst := heap_setCell_same _ w.heap.size k _ _ (.int .u8 (48 + (x : Int) % 4)) HG1.out
          rw [unPart_cells _ _ _ _ _ hlt HU.out] at hst
          refine ⟨k + 1, x / 4, by omega, by go_num, by go_num, by omega, HN.out, ?_, hst, HB1.out.set_new _ _ (Nat.le_refl _) _⟩
          exact (heap_setCell_other wr ⟨w.heap.size, k, none⟩ b _ (by simp; omega)).trans HR1.out
        case measure => simp [intV]; omega
    · obtain rfl : k = n := by omega
      rw [unPart_all] at hg
      have hcv := conv_blk hg
      rw [unL_length] at hcv
      go_wp2
      go_ret
      exact ⟨rfl, hR, hB⟩
end Go.Proofs.Ytcnmbpgjgjncdaa
