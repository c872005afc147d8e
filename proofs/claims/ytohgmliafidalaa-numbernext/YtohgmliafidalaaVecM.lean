/- Plain mathematics of texts of digits: the digit at a place, the text of so many digits, codes and what is told of them, a step of each; no conditions. -/
import Derived.Test.YtohgmliafidalaaKinM
import Derived.Test.YtohgmliafidalaaTxtO
import Derived.Test.YtohgmliafidalaaRowB
import Derived.Test.YtohgmliafidalaaHoldM
namespace Go.Proofs.Ytohgmliafidalaa
open Go.ChangeShapes Go.WideShapes Go.ChangeAt Go.RowKit
set_option linter.unusedVariables false

/-- The digit at a place of a text, up to the last one; else -1. -/
def vdg (last : Int) (s : ByteArray) (k : Nat) : Int := if h : k < s.size then (if ((s[k]'h).toNat : Int) < 48 ∨ last + 48 < ((s[k]'h).toNat : Int) then -1 else ((s[k]'h).toNat : Int) - 48) else -1
theorem vdg_out {last : Int} {s : ByteArray} {k : Nat} (h : s.size ≤ k) : vdg last s k = -1 := dif_neg (by omega)
theorem vdg_no {last : Int} {s : ByteArray} {k : Nat} (h : k < s.size) (h2 : ((s[k]'h).toNat : Int) < 48 ∨ last + 48 < ((s[k]'h).toNat : Int)) : vdg last s k = -1 := (dif_pos h).trans (if_pos h2)
theorem vdg_in {last : Int} {s : ByteArray} {k : Nat} (h : k < s.size) (h1 : ¬ ((s[k]'h).toNat : Int) < 48) (h2 : ¬ last + 48 < ((s[k]'h).toNat : Int)) : vdg last s k = ((s[k]'h).toNat : Int) - 48 := (dif_pos h).trans (if_neg (by omega))
theorem vdg_bd {last : Int} (hl : 0 ≤ last) (s : ByteArray) (k : Nat) : -1 ≤ vdg last s k ∧ vdg last s k ≤ last := by
  unfold vdg
  split
  · split <;> omega
  · omega
/-- A text of so many digits. -/
def dgL (n : Nat) (g : Nat → Nat) : List UInt8 := (List.range n).map fun k => UInt8.ofNat (48 + g k)
def dgB (n : Nat) (g : Nat → Nat) : ByteArray := ba (dgL n g)
theorem dgL_len (n : Nat) (g : Nat → Nat) : (dgL n g).length = n := by simp [dgL]
theorem dgB_size (n : Nat) (g : Nat → Nat) : (dgB n g).size = n := by rw [dgB, ba_size, dgL_len]
theorem dgB_0 (g : Nat → Nat) : dgB 0 g = noB := rfl
theorem dgB_s (n : Nat) (g : Nat → Nat) : dgB (n + 1) g = dgB n g ++ ba [UInt8.ofNat (48 + g n)] := by
  unfold dgB
  rw [ba_append]
  simp [dgL, List.range_succ]
theorem dgB_byte (n : Nat) (g : Nat → Nat) (k : Nat) (hk : k < n) (hg : g k ≤ 9) (h : k < (dgB n g).size) : ((dgB n g)[k]'h).toNat = 48 + g k := by
  have e : (dgB n g)[k]'h = UInt8.ofNat (48 + g k) := by
    show (dgL n g).toArray[k]'_ = _
    simp [dgL]
  rw [e, UInt8.toNat_ofNat_of_lt' (by simp [UInt8.size]; omega)]
theorem vdg_dgB {last : Int} {n : Nat} {g : Nat → Nat} {k : Nat} (hk : k < n) (hg : g k ≤ 9) (hl : (g k : Int) ≤ last) : vdg last (dgB n g) k = g k := by
  have hs : k < (dgB n g).size := by rw [dgB_size]; exact hk
  have e := dgB_byte n g k hk hg hs
  rw [vdg_in hs (by omega) (by omega), e]
  omega
theorem dgB_congr {n : Nat} {g h : Nat → Nat} (e : ∀ k, k < n → g k = h k) : dgB n g = dgB n h := by
  unfold dgB dgL
  congr 1
  apply List.map_congr_left
  intro k hk
  rw [e k (List.mem_range.1 hk)]
theorem codeF_bd (b : Int × Bool) : 0 ≤ codeF b ∧ codeF b ≤ 5 := by
  have := valF_bd b
  unfold codeF
  split <;> omega
theorem readK_bd (c : Int) : 0 ≤ (readK c).1 ∧ (readK c).1 ≤ 2 := by
  unfold readK
  split
  · exact ⟨by decide, by decide⟩
  · have h1 := Int.tmod_lt_of_pos c (b := 3) (by decide)
    have h2 := Int.tmod_nonneg (a := c) 3 (by omega)
    exact ⟨h2, by simp only; omega⟩
/-- What a bit is read of the code at a place; what is told of it; what code a bit has at first; behind a step. -/
def bitK (s : ByteArray) (k : Nat) : Int × Bool := readK (vdg 5 s k)
def valG (s : ByteArray) (k : Nat) : Nat := (bitK s k).1.toNat
def ofG (s : ByteArray) (k : Nat) : Nat := (codeF (startF (vdg 1 s k))).toNat
def stpB (E n f x : Int) (codes told : ByteArray) (votes : List ByteArray) (k : Nat) : Int × Bool := stepF E n f x (bitK codes k) (vdg 2 told k) (votes.map fun t => vdg 2 t k)
def stpG (E n f x : Int) (codes told : ByteArray) (votes : List ByteArray) (k : Nat) : Nat := (codeF (stpB E n f x codes told votes k)).toNat
theorem valG_bd (s : ByteArray) (k : Nat) : valG s k ≤ 2 := by have := readK_bd (vdg 5 s k); unfold valG bitK; omega
theorem valG_int (s : ByteArray) (k : Nat) : (valG s k : Int) = (bitK s k).1 := by have := readK_bd (vdg 5 s k); unfold valG bitK; omega
theorem ofG_bd (s : ByteArray) (k : Nat) : ofG s k ≤ 5 := by have := codeF_bd (startF (vdg 1 s k)); unfold ofG; omega
theorem ofG_int (s : ByteArray) (k : Nat) : (ofG s k : Int) = codeF (startF (vdg 1 s k)) := by have := codeF_bd (startF (vdg 1 s k)); unfold ofG; omega
theorem stpG_bd (E n f x : Int) (codes told : ByteArray) (votes : List ByteArray) (k : Nat) : stpG E n f x codes told votes k ≤ 5 := by have := codeF_bd (stpB E n f x codes told votes k); unfold stpG; omega
theorem stpG_int (E n f x : Int) (codes told : ByteArray) (votes : List ByteArray) (k : Nat) : (stpG E n f x codes told votes k : Int) = codeF (stpB E n f x codes told votes k) := by have := codeF_bd (stpB E n f x codes told votes k); unfold stpG; omega
end Go.Proofs.Ytohgmliafidalaa
