/- Plain mathematics of exchanges and ages: which one is told and heard at an age, whose it is; no conditions. -/
import Derived.RangeFuncNested
import Derived.RangeFuncBound
import Derived.RangeFuncCalls
import Derived.RangeFuncLeaves
import Derived.Shelf.Abstract
import Derived.Shelf.RegionOpen
import Derived.OwnWalkIn
import Derived.TacticsInMore
import Derived.LoopNIn
import Derived.LoopIn
import Derived.Test.YtgfdfakffkhekaaConfG
import Derived.Test.YtgfdfakffkhekaaSix
namespace Go.Proofs.Ytgfdfakffkhekaa
open Go.ChangeShapes Go.WideShapes Go.ChangeAt Go.RowKit Go.Shelf
set_option linter.unusedVariables false

/-- An exchange of so many. -/
abbrev Exn (R : Nat) := { k : Nat // k < R }
def upto (R k : Nat) : List (Exn R) := (List.range k).filterMap fun j => if h : j < R then some ⟨j, h⟩ else none
theorem upto_zero (R : Nat) : upto R 0 = [] := rfl
theorem upto_succ {R k : Nat} (h : k < R) : upto R (k + 1) = upto R k ++ [⟨k, h⟩] := by
  simp [upto, List.range_succ, List.filterMap_append, h]
theorem upto_length {R : Nat} : ∀ {k : Nat}, k ≤ R → (upto R k).length = k
  | 0, _ => rfl
  | k + 1, h => by rw [upto_succ (by omega), List.length_append, upto_length (by omega)]; rfl
/-- The first number that a test lets by. -/
def firstF (R : Nat) (p : Nat → Bool) : Int := match (List.range R).find? p with
  | some x => x
  | none => -1
theorem first_hit {R : Nat} {p : Nat → Bool} {k : Nat} (hk : k < R) (h : p k = true) (hn : ∀ j, j < k → p j = false) : firstF R p = k := by
  have e : (List.range R).find? p = some k := by
    rw [List.find?_range_eq_some]
    exact ⟨h, by simp [hk], fun j hj => by simp [hn j hj]⟩
  unfold firstF
  rw [e]
theorem first_none {R : Nat} {p : Nat → Bool} (hn : ∀ j, j < R → p j = false) : firstF R p = -1 := by
  have e : (List.range R).find? p = none := by
    rw [List.find?_eq_none]
    intro x hx
    simp at hx
    simp [hn x hx]
  unfold firstF
  rw [e]
theorem first_lt (R : Nat) (p : Nat → Bool) : -1 ≤ firstF R p ∧ firstF R p < R ∨ firstF R p = -1 := by
  unfold firstF
  cases h : (List.range R).find? p with
  | none => exact .inr rfl
  | some x =>
    have h2 := List.mem_of_find?_eq_some h
    rw [List.mem_range] at h2
    refine .inl ⟨?_, ?_⟩
    · show (-1 : Int) ≤ (x : Int)
      omega
    · show (x : Int) < (R : Int)
      omega
def tellB (d age : Int) (x : Nat) : Bool := decide ((x : Int) * d = age)
def hearB (d age : Int) (x : Nat) : Bool := decide ((x : Int) * d + d = age)
def tellF (R : Nat) (d age : Int) : Int := firstF R (tellB d age)
def hearF (R : Nat) (d age : Int) : Int := firstF R (hearB d age)
def kingF (R : Nat) (x : Int) : Int := if 0 ≤ x ∧ x < R then x / 3 else -1
theorem kingF_lo {R : Nat} {x : Int} (h : x < 0) : kingF R x = -1 := if_neg (by omega)
theorem kingF_hi {R : Nat} {x : Int} (h : (R : Int) ≤ x) : kingF R x = -1 := if_neg (by omega)
theorem kingF_in {R : Nat} {x : Int} (h : 0 ≤ x) (h2 : x < R) : kingF R x = x / 3 := if_pos ⟨h, h2⟩
/-- How many exchanges there are, and how far apart. -/
theorem rounds_nat (n f d p r dr o sl md fr : Int) (ad : Option Addr) (cap : Nat) (zs : List Int) : ∃ R : Nat, gate (plainE n f d p r dr o sl md fr zs) (3 * (f + 1)) = (R : Int) ∧ R ≤ 15 ∧ (R = 0 ∨ 1 ≤ d ∧ d ≤ 4) ∧ (plainE n f d p r dr o sl md fr zs = 0 → (R : Int) = 3 * (f + 1) ∧ 1 ≤ d ∧ d ≤ 4 ∧ 0 ≤ f ∧ 3 * f + 1 ≤ n) ∧ (¬ plainE n f d p r dr o sl md fr zs = 0 → R = 0) := by
  by_cases e : plainE n f d p r dr o sl md fr zs = 0
  · obtain ⟨h0, h00, h1, h2, h22, h3, h4, _⟩ := plainE_ok e
    rw [e, gate_ok]
    exact ⟨(3 * (f + 1)).toNat, by omega, by omega, .inr ⟨h3, h4⟩, fun _ => ⟨by omega, h3, h4, h1, h22⟩, fun h => absurd rfl h⟩
  · rw [gate_no e]
    exact ⟨0, rfl, by omega, .inl rfl, fun h => absurd h e, fun _ => rfl⟩
theorem xd_bd {R k : Nat} {d : Int} (hR : R ≤ 15) (hd : R = 0 ∨ 1 ≤ d ∧ d ≤ 4) (hk : k < R) : 0 ≤ (k : Int) * d ∧ (k : Int) * d ≤ 60 := by
  have h1 : 1 ≤ d ∧ d ≤ 4 := by omega
  have hd : d = 1 ∨ d = 2 ∨ d = 3 ∨ d = 4 := by omega
  rcases hd with rfl | rfl | rfl | rfl <;> omega
end Go.Proofs.Ytgfdfakffkhekaa
