/- Plain mathematics of numbers as bytes, the lowest first: what was put is got, and what was got is put; no Go text in sight. -/
import Derived.Test.YtjecogbhkmljkaaRef
import Derived.Lib.Strings
namespace Go.Proofs.Ytjecogbhkmljkaa
open Go.ChangeShapes Go.WideShapes Go.ChangeAt Go.RowKit
set_option linter.unusedVariables false

theorem leNum_leInts : ∀ (k : Nat) (n : Int), 0 ≤ n → n < 256 ^ k → leNum (leInts n k) = n
  | 0, n, h0, h1 => by simp at h1; simp [leInts, leNum]; omega
  | k + 1, n, h0, h1 => by
    have h2 : n / 256 < 256 ^ k := Int.ediv_lt_of_lt_mul (by decide) (by rw [Int.pow_succ] at h1; omega)
    simp only [leInts, leNum]
    rw [leNum_leInts k (n / 256) (by omega) h2]
    omega
theorem leInts_leNum : ∀ (zs : List Int), (∀ z ∈ zs, 0 ≤ z ∧ z ≤ 255) → leInts (leNum zs) zs.length = zs
  | [], _ => rfl
  | z :: zs, h => by
    have hz := h z (by simp)
    have ih := leInts_leNum zs (fun y hy => h y (by simp [hy]))
    simp only [leNum, List.length_cons, leInts]
    have e1 : (z + 256 * leNum zs) % 256 = z := by omega
    have e2 : (z + 256 * leNum zs) / 256 = leNum zs := by omega
    rw [e1, e2, ih]
theorem leNum_bd : ∀ (zs : List Int), (∀ z ∈ zs, 0 ≤ z ∧ z ≤ 255) → 0 ≤ leNum zs ∧ leNum zs < 256 ^ zs.length
  | [], _ => by simp [leNum]
  | z :: zs, h => by
    have hz := h z (by simp)
    have ih := leNum_bd zs (fun y hy => h y (by simp [hy]))
    simp only [leNum, List.length_cons, Int.pow_succ]
    omega
theorem leInts_bd : ∀ (k : Nat) (n : Int), ∀ z ∈ leInts n k, 0 ≤ z ∧ z ≤ 255
  | 0, n, z, h => by simp [leInts] at h
  | k + 1, n, z, h => by
    simp only [leInts, List.mem_cons] at h
    rcases h with h | h
    · omega
    · exact leInts_bd k _ z h
theorem leInts_length : ∀ (k : Nat) (n : Int), (leInts n k).length = k
  | 0, _ => rfl
  | k + 1, n => by simp [leInts, leInts_length k]

theorem bytesAt_eq (s : ByteArray) : ∀ (k p : Nat), p + k ≤ s.size → bytesAt s p k = ((s.data.toList.drop p).take k).map (fun b => (b.toNat : Int))
  | 0, p, h => by simp [bytesAt]
  | k + 1, p, h => by
    have hp : p < s.data.toList.length := by simp; omega
    rw [List.drop_eq_getElem_cons hp, List.take_succ_cons, List.map_cons, bytesAt, bytesAt_eq s k (p + 1) (by omega)]
    congr 1
    unfold bt
    rw [List.getD_eq_getElem?_getD, List.getElem?_eq_getElem hp]
    rfl
theorem bytesAt_length (s : ByteArray) : ∀ (k p : Nat), (bytesAt s p k).length = k
  | 0, p => rfl
  | k + 1, p => by simp [bytesAt, bytesAt_length s k]
theorem bytesAt_bd (s : ByteArray) : ∀ (k p : Nat), ∀ z ∈ bytesAt s p k, 0 ≤ z ∧ z ≤ 255
  | 0, p, z, h => by simp [bytesAt] at h
  | k + 1, p, z, h => by
    simp only [bytesAt, List.mem_cons] at h
    rcases h with h | h
    · rw [h]; exact bt_bd s p
    · exact bytesAt_bd s k _ z h
theorem ofNat_back (zs : List Int) (h : ∀ z ∈ zs, 0 ≤ z ∧ z ≤ 255) : (zs.map fun z => UInt8.ofNat z.toNat).map (fun b => (b.toNat : Int)) = zs := by
  rw [List.map_map]
  conv => rhs; rw [← List.map_id zs]
  apply List.map_congr_left
  intro z hz
  have := h z hz
  simp
  omega
theorem bytesAt_mid (a c : ByteArray) (zs : List Int) (h : ∀ z ∈ zs, 0 ≤ z ∧ z ≤ 255) : bytesAt (a ++ numStr zs ++ c) a.size zs.length = zs := by
  rw [bytesAt_eq _ _ _ (by simp [ByteArray.size_append, numStr_size])]
  have e : (a ++ numStr zs ++ c).data.toList = a.data.toList ++ ((zs.map fun z => UInt8.ofNat z.toNat) ++ c.data.toList) := by
    simp [ByteArray.data_append, numStr]
  rw [e]
  have e2 : a.size = a.data.toList.length := by simp
  rw [e2, List.drop_left, List.take_append_of_le_length (by simp), List.take_of_length_le (by simp)]
  exact ofNat_back zs h
theorem extract_bytes (s : ByteArray) (k : Nat) (h : k ≤ s.size) : s.extract 0 k = numStr (bytesAt s 0 k) := by
  apply ByteArray.ext
  apply Array.toList_inj.1
  rw [Lib.extract_data, bytesAt_eq s k 0 (by omega)]
  simp [numStr, Function.comp_def]

/-- What Put gives, taken apart. -/
theorem putF_cases (n b : Int) : ((putF n b).2 ≠ 0 ∧ (putF n b).1 = ⟨#[]⟩) ∨ (1 ≤ b ∧ b ≤ 4 ∧ 0 ≤ n ∧ n < 256 ^ b.toNat ∧ putF n b = (numStr (leInts n b.toNat), 0)) := by
  by_cases hb : b < 1 ∨ 4 < b
  · left; rw [putF_arg n b hb]; simp
  · by_cases h : n < 0 ∨ 256 ^ b.toNat ≤ n
    · left; rw [putF_long n b (by omega) (by omega) h]; simp
    · right; exact ⟨by omega, by omega, by omega, by omega, putF_ok n b (by omega) (by omega) (by omega) (by omega)⟩
theorem getF_cases (s : ByteArray) (a b : Int) : ((getF s a b).2 ≠ 0 ∧ (getF s a b).1 = 0) ∨ (0 ≤ a ∧ 1 ≤ b ∧ b ≤ 4 ∧ a ≤ (s.size : Int) - b ∧ getF s a b = (leNum (bytesAt s a.toNat b.toNat), 0)) := by
  by_cases hb : b < 1 ∨ 4 < b ∨ a < 0
  · left; rw [getF_arg s a b hb]; simp
  · by_cases h : (s.size : Int) - b < a
    · left; rw [getF_short s a b (by omega) (by omega) (by omega) h]; simp
    · right; exact ⟨by omega, by omega, by omega, by omega, getF_ok s a b (by omega) (by omega) (by omega) (by omega)⟩
/-- What was put is got. -/
theorem getF_putF (n b : Int) (a c : ByteArray) (h1 : 1 ≤ b) (h2 : b ≤ 4) (h3 : 0 ≤ n) (h4 : n < 256 ^ b.toNat) : getF (a ++ numStr (leInts n b.toNat) ++ c) a.size b = (n, 0) := by
  have hl := leInts_length b.toNat n
  rw [getF_ok _ _ _ (by omega) h1 h2 (by simp [ByteArray.size_append, numStr_size, hl]; omega)]
  have e : bytesAt (a ++ numStr (leInts n b.toNat) ++ c) (a.size : Int).toNat b.toNat = leInts n b.toNat := by
    have := bytesAt_mid a c (leInts n b.toNat) (leInts_bd _ _)
    rw [hl] at this
    simpa using this
  rw [e, leNum_leInts _ _ h3 h4]
/-- What was got is put. -/
theorem putF_getF (s : ByteArray) (b : Int) (h1 : 1 ≤ b) (h2 : b ≤ 4) (h3 : b ≤ s.size) : putF (leNum (bytesAt s 0 b.toNat)) b = (s.extract 0 b.toNat, 0) := by
  have hl := bytesAt_length s b.toNat 0
  have hb := leNum_bd _ (bytesAt_bd s b.toNat 0)
  rw [hl] at hb
  rw [putF_ok _ b h1 h2 hb.1 hb.2, extract_bytes s b.toNat (by omega)]
  have := leInts_leNum _ (bytesAt_bd s b.toNat 0)
  rw [hl] at this
  rw [this]
end Go.Proofs.Ytjecogbhkmljkaa
