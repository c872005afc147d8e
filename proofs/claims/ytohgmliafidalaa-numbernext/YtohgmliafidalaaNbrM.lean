/- Plain mathematics of cycles' numbers and members: the number behind one, a row of them, digits of a text; no conditions. -/
import Derived.Test.YtohgmliafidalaaVecN
namespace Go.Proofs.Ytohgmliafidalaa
open Go.ChangeShapes Go.WideShapes Go.ChangeAt Go.RowKit
set_option linter.unusedVariables false

/-- The number behind one; the next one of a node that agreed on something, or on nothing. -/
def behF (md n : Int) : Int := modF (modF n md + 1) md
def ownF (own : Int) (agreed : ByteArray) : Int := if emt agreed = true then own else (numG agreed 8 : Int)
def nextF (E md own : Int) (agreed : ByteArray) : Int := if E = 0 then behF md (ownF own agreed) else 0
def apartF (E md a b : Int) : Int := if E = 0 then modF (modF b md - modF a md) md else 0
/-- Numbers one behind another. -/
def seqF (md first : Int) : Nat → Int
  | 0 => modF first md
  | k + 1 => behF md (seqF md first k)
def seqL (md first : Int) (m : Nat) : List Int := (List.range m).map (seqF md first)
theorem seqL_len (md first : Int) (m : Nat) : (seqL md first m).length = m := by simp [seqL]
theorem seqL_s (md first : Int) (m : Nat) : seqL md first (m + 1) = seqL md first m ++ [seqF md first m] := by simp [seqL, List.range_succ]
/-- Digits of a text from a place on: 1 where there is a 1. -/
def digG (s : ByteArray) (fr k : Nat) : Nat := if vdg 1 s (fr + k) = 1 then 1 else 0
def digT (s : ByteArray) (fr n : Nat) : ByteArray := dgB n (digG s fr)
theorem digG_bd (s : ByteArray) (fr k : Nat) : digG s fr k ≤ 1 := by unfold digG; split <;> omega
def memF (E : Int) (N : Nat) (own agreed : ByteArray) : ByteArray := if E = 0 then (if emt agreed = true then digT own 0 N else digT agreed 8 N) else noB
theorem modF_bd (n : Int) {by_ : Int} (h : 1 ≤ by_) : 0 ≤ modF n by_ ∧ modF n by_ < by_ := by
  unfold modF
  rw [if_neg (by omega)]
  have h1 := Int.tmod_lt_of_pos n (b := by_) (by omega)
  have h2 := Int.lt_tmod_of_pos n (b := by_) (by omega)
  split <;> omega
theorem modF_in {n by_ : Int} (h0 : 0 ≤ n) (h : n < by_) : modF n by_ = n := by
  unfold modF
  rw [if_neg (by omega), Int.tmod_eq_of_lt h0 h, if_neg (by omega)]
theorem modF_self {by_ : Int} (h : 1 ≤ by_) : modF by_ by_ = 0 := by
  unfold modF
  rw [if_neg (by omega), Int.tmod_self, if_neg (by omega)]
theorem modF_emod (n : Int) {by_ : Int} (h : 1 ≤ by_) : modF n by_ = n % by_ := by
  unfold modF
  rw [if_neg (by omega), Int.tmod_eq_emod]
  have h1 := Int.emod_nonneg n (show by_ ≠ 0 by omega)
  have h2 := Int.emod_lt_of_pos n (show 0 < by_ by omega)
  by_cases c : 0 ≤ n ∨ by_ ∣ n
  · rw [if_pos c, if_neg (by omega)]; omega
  · rw [if_neg c]
    have hne : n % by_ ≠ 0 := fun e => c (.inr (Int.dvd_of_emod_eq_zero e))
    have : (by_.natAbs : Int) = by_ := by omega
    rw [this, if_pos (by omega)]
    omega
theorem modF_lt (n : Int) {md : Int} (h : 2 ≤ md) (h2 : md ≤ 250) : 0 ≤ modF n md ∧ modF n md ≤ 249 := by
  have := modF_bd n (by_ := md) (by omega)
  omega
theorem behF_bd (n : Int) {md : Int} (h : 2 ≤ md) (h2 : md ≤ 250) : 0 ≤ behF md n ∧ behF md n ≤ 249 := modF_lt _ h h2
/-- A number counts as what is left of it. -/
theorem behF_mod (n : Int) {md : Int} (h : 2 ≤ md) : behF md n = modF (n + 1) md := by
  unfold behF
  rw [modF_emod _ (show 1 ≤ md by omega), modF_emod n (show 1 ≤ md by omega), modF_emod _ (show 1 ≤ md by omega)]
  rw [Int.emod_add_emod]
theorem seqF_at (first : Int) {md : Int} (h : 2 ≤ md) : ∀ k : Nat, seqF md first k = (first + k) % md
  | 0 => by
    unfold seqF
    rw [modF_emod _ (by omega)]
    simp
  | k + 1 => by
    unfold seqF
    rw [behF_mod _ h, modF_emod _ (by omega), seqF_at first h k, Int.emod_add_emod]
    congr 1
    omega
end Go.Proofs.Ytohgmliafidalaa
