/- Plain mathematics of bits that are agreed on by kings: a bit at first, behind an exchange, its number; a whole instance; no conditions. -/
import Derived.Test.YtohgmliafidalaaTalM
import Derived.Test.YtohgmliafidalaaNum
namespace Go.Proofs.Ytohgmliafidalaa
open Go.ChangeShapes Go.WideShapes Go.ChangeAt Go.RowKit
set_option linter.unusedVariables false

/-- A row of bits: two cells each. -/
def kBit : Kind (Int × Bool) := ⟨2, fun b => [.int .i64 b.1, .bool b.2], fun _ => rfl, by intro a u hu; simp at hu; rcases hu with rfl | rfl <;> rfl, by decide⟩
/-- A bit as a value. -/
def agB (b : Int × Bool) : Value := .agg #[.int .i64 b.1, .bool b.2]
def startF (b : Int) : Int × Bool := if b = 1 then (1, false) else (0, false)
def valF (b : Int × Bool) : Int := if b.1 < 0 then 2 else if 3 ≤ b.1 then 2 else b.1
def obeyF (b : Int × Bool) (k : Int) : Int × Bool := if valF b ≠ 2 ∧ b.2 = true then (valF b, false) else if k = 1 ∨ k = 2 then (1, false) else (0, false)
def stepF (E n f x : Int) (b : Int × Bool) (k : Int) (vs : List Int) : Int × Bool :=
  if modF x 3 = 0 then (mostF E n f vs, false) else if modF x 3 = 1 then (leastF E f (valF b) vs, enoughB E n f (leastF E f (valF b) vs) vs) else obeyF b k
def codeF (b : Int × Bool) : Int := if b.2 = true then 3 + valF b else valF b
def readK (c : Int) : Int × Bool := if c < 0 ∨ 6 ≤ c then (2, false) else (c.tmod 3, decide (3 ≤ c))
theorem valF_bd (b : Int × Bool) : 0 ≤ valF b ∧ valF b ≤ 2 := by unfold valF; repeat' split <;> omega
theorem valF_same {b : Int × Bool} (h : 0 ≤ b.1 ∧ b.1 ≤ 2) : valF b = b.1 := by unfold valF; rw [if_neg (by omega), if_neg (by omega)]
theorem valF_lo {b : Int × Bool} (h : b.1 < 0) : valF b = 2 := if_pos h
theorem valF_hi {b : Int × Bool} (h : ¬ b.1 < 0) (h2 : 3 ≤ b.1) : valF b = 2 := (if_neg h).trans (if_pos h2)
theorem valF_in {b : Int × Bool} (h : ¬ b.1 < 0) (h2 : ¬ 3 ≤ b.1) : valF b = b.1 := (if_neg h).trans (if_neg h2)
theorem modF3 (x : Int) : 0 ≤ modF x 3 ∧ modF x 3 ≤ 2 := by
  unfold modF
  rw [if_neg (by decide)]
  have h1 := Int.tmod_lt_of_pos x (b := 3) (by decide)
  have h2 := Int.lt_tmod_of_pos x (b := 3) (by decide)
  split <;> omega
theorem modF3_nat (x : Nat) : modF (x : Int) 3 = ((x % 3 : Nat) : Int) := by
  unfold modF
  have e : ((x : Int)).tmod 3 = ((x % 3 : Nat) : Int) := by rw [Int.tmod_eq_emod_of_nonneg (by omega)]; omega
  rw [if_neg (by decide), e, if_neg (by omega)]
theorem stepF_0 {E n f x : Int} {b : Int × Bool} {k : Int} {vs : List Int} (h : modF x 3 = 0) : stepF E n f x b k vs = (mostF E n f vs, false) := if_pos h
theorem stepF_1 {E n f x : Int} {b : Int × Bool} {k : Int} {vs : List Int} (h : modF x 3 = 1) : stepF E n f x b k vs = (leastF E f (valF b) vs, enoughB E n f (leastF E f (valF b) vs) vs) := (if_neg (by omega)).trans (if_pos h)
theorem stepF_2 {E n f x : Int} {b : Int × Bool} {k : Int} {vs : List Int} (h : modF x 3 = 2) : stepF E n f x b k vs = obeyF b k := (if_neg (by omega)).trans (if_neg (by omega))
theorem obeyF_s {b : Int × Bool} {k : Int} (h : valF b ≠ 2) (h2 : b.2 = true) : obeyF b k = (valF b, false) := if_pos ⟨h, h2⟩
theorem obeyF_1 {b : Int × Bool} {k : Int} (h : ¬ (valF b ≠ 2 ∧ b.2 = true)) (h2 : k = 1 ∨ k = 2) : obeyF b k = (1, false) := (if_neg h).trans (if_pos h2)
theorem obeyF_0 {b : Int × Bool} {k : Int} (h : ¬ (valF b ≠ 2 ∧ b.2 = true)) (h2 : ¬ (k = 1 ∨ k = 2)) : obeyF b k = (0, false) := (if_neg h).trans (if_neg h2)
/-- What a lie is: those of one place after another, round and round. -/
def lieF (lies : List Int) (N x a t : Nat) : Int := if lies.length = 0 then -1 else lies.getD (((x * N + a) * N + t) % lies.length) 0
/-- What a node tells another one. -/
def sayF (fa : Nat → Bool) (lies : List Int) (N x t : Nat) (bs : List (Int × Bool)) (a : Nat) : Int := if fa a = true then lieF lies N x a t else valF (bs.getD a (0, false))
def votesL (fa : Nat → Bool) (lies : List Int) (N x t : Nat) (bs : List (Int × Bool)) : List Int := (List.range N).map (sayF fa lies N x t bs)
def stepN (fa : Nat → Bool) (lies : List Int) (N : Nat) (f : Int) (x : Nat) (bs : List (Int × Bool)) (t : Nat) : Int × Bool := stepF 0 N f x (bs.getD t (0, false)) ((votesL fa lies N x t bs).getD (x / 3) 0) (votesL fa lies N x t bs)
def exchL (fa : Nat → Bool) (lies : List Int) (N : Nat) (f : Int) (x : Nat) (bs : List (Int × Bool)) : List (Int × Bool) := (List.range N).map (stepN fa lies N f x bs)
def startL (N : Nat) (bits : List Int) : List (Int × Bool) := (List.range N).map fun i => startF (bits.getD i 0)
def playL (fa : Nat → Bool) (lies : List Int) (N : Nat) (f : Int) (bits : List Int) : Nat → List (Int × Bool)
  | 0 => startL N bits
  | x + 1 => exchL fa lies N f x (playL fa lies N f bits x)
def endN (fa : Nat → Bool) (bs : List (Int × Bool)) (i : Nat) : Int := if fa i = true then -1 else valF (bs.getD i (0, false))
def endsL (fa : Nat → Bool) (N : Nat) (bs : List (Int × Bool)) : List Int := (List.range N).map (endN fa bs)
/-- A row that is filled up to k. -/
def fillL {α : Type} (z : α) (N : Nat) (g : Nat → α) (k : Nat) : List α := (List.range N).map fun j => if j < k then g j else z
theorem fillL_len {α : Type} (z : α) (N : Nat) (g : Nat → α) (k : Nat) : (fillL z N g k).length = N := by simp [fillL]
theorem fillL_0 {α : Type} (z : α) (N : Nat) (g : Nat → α) : fillL z N g 0 = List.replicate N z := by
  apply List.ext_getElem <;> simp [fillL]
theorem fillL_all {α : Type} (z : α) (N : Nat) (g : Nat → α) : fillL z N g N = (List.range N).map g := by
  apply List.ext_getElem
  · simp [fillL]
  · intro i h1 h2
    simp [fillL] at h1 ⊢
    intro h; omega
theorem fillL_set {α : Type} (z : α) (N : Nat) (g : Nat → α) (k : Nat) (hk : k < N) : (fillL z N g k).set k (g k) = fillL z N g (k + 1) := by
  apply List.ext_getElem
  · simp [fillL]
  · intro i h1 h2
    rw [List.getElem_set]
    simp only [fillL, List.getElem_map, List.getElem_range]
    by_cases e : k = i
    · subst e; rw [if_pos rfl, if_pos (by omega)]
    · rw [if_neg e]
      by_cases h : i < k
      · rw [if_pos h, if_pos (by omega)]
      · rw [if_neg h, if_neg (by omega)]
theorem votesL_len (fa : Nat → Bool) (lies : List Int) (N x t : Nat) (bs : List (Int × Bool)) : (votesL fa lies N x t bs).length = N := by simp [votesL]
theorem exchL_len (fa : Nat → Bool) (lies : List Int) (N : Nat) (f : Int) (x : Nat) (bs : List (Int × Bool)) : (exchL fa lies N f x bs).length = N := by simp [exchL]
theorem playL_len (fa : Nat → Bool) (lies : List Int) (N : Nat) (f : Int) (bits : List Int) (x : Nat) : (playL fa lies N f bits x).length = N := by
  cases x <;> simp [playL, startL, exchL]
theorem range_getD {α : Type} (z : α) (N : Nat) (g : Nat → α) (i : Nat) (hi : i < N) : ((List.range N).map g).getD i z = g i := by simp [hi]
end Go.Proofs.Ytohgmliafidalaa
