/- Plain mathematics of votes: how many there are of each, what both exchanges make of them; no conditions. -/
import Derived.Test.YtohgmliafidalaaRowI
namespace Go.Proofs.Ytohgmliafidalaa
open Go.ChangeShapes Go.WideShapes Go.ChangeAt Go.RowKit
set_option linter.unusedVariables false

/-- How many of a row are v. -/
def cntL (v : Int) (zs : List Int) : Nat := zs.countP (fun z => decide (z = v))
/-- How many votes are v. -/
def cntF (v : Int) (zs : List Int) : Int := if 0 ≤ v ∧ v < 3 then (cntL v zs : Int) else 0
theorem cntF_in {v : Int} (h1 : 0 ≤ v) (h2 : v < 3) (zs : List Int) : cntF v zs = (cntL v zs : Int) := if_pos ⟨h1, h2⟩
theorem cntF_out {v : Int} (h : ¬ (0 ≤ v ∧ v < 3)) (zs : List Int) : cntF v zs = 0 := if_neg h
theorem cntL_nil (v : Int) : cntL v [] = 0 := rfl
theorem cntL_snoc (v : Int) (zs : List Int) (z : Int) : cntL v (zs ++ [z]) = cntL v zs + if z = v then 1 else 0 := by
  unfold cntL
  rw [List.countP_append, List.countP_singleton]
  by_cases h : z = v
  · rw [if_pos h, if_pos (decide_eq_true h)]
  · rw [if_neg h, if_neg (by simp [h])]
theorem cntL_le (v : Int) (zs : List Int) : cntL v zs ≤ zs.length := List.countP_le_length
theorem cntF_bd (v : Int) (zs : List Int) : 0 ≤ cntF v zs ∧ cntF v zs ≤ (zs.length : Int) := by
  have h := cntL_le v zs
  unfold cntF
  split <;> omega
theorem take_snocV (zs : List Int) {k : Nat} (hk : k < zs.length) : zs.take (k + 1) = zs.take k ++ [zs[k]] := by rw [List.take_add_one]; simp [hk]
/-- Whether there are a quorum. -/
def enoughB (E n f v : Int) (zs : List Int) : Bool := decide (E = 0 ∧ n - f ≤ cntF v zs)
theorem enoughB_no {E : Int} (h : ¬ E = 0) (n f v : Int) (zs : List Int) : enoughB E n f v zs = false := decide_eq_false fun k => h k.1
theorem enoughB_ok {E : Int} (h : E = 0) (n f v : Int) (zs : List Int) : enoughB E n f v zs = decide (n - f ≤ cntF v zs) := by
  unfold enoughB
  simp [h]
/-- What the first exchange makes of votes. -/
def mostF (E n f : Int) (zs : List Int) : Int := if E = 0 then (if n - f ≤ (cntL 1 zs : Int) then 1 else if n - f ≤ (cntL 0 zs : Int) then 0 else 2) else 2
/-- What the second exchange makes of them. -/
def leastF (E f now : Int) (zs : List Int) : Int := if E = 0 then (if f + 1 ≤ (cntL 0 zs : Int) then 0 else if f + 1 ≤ (cntL 1 zs : Int) then 1 else if f + 1 ≤ (cntL 2 zs : Int) then 2 else now) else now
theorem mostF_no {E : Int} (h : ¬ E = 0) (n f : Int) (zs : List Int) : mostF E n f zs = 2 := if_neg h
theorem mostF_1 {E : Int} (h : E = 0) {n f : Int} {zs : List Int} (h1 : n - f ≤ (cntL 1 zs : Int)) : mostF E n f zs = 1 := (if_pos h).trans (if_pos h1)
theorem mostF_0 {E : Int} (h : E = 0) {n f : Int} {zs : List Int} (h1 : ¬ n - f ≤ (cntL 1 zs : Int)) (h2 : n - f ≤ (cntL 0 zs : Int)) : mostF E n f zs = 0 := (if_pos h).trans ((if_neg h1).trans (if_pos h2))
theorem mostF_2 {E : Int} (h : E = 0) {n f : Int} {zs : List Int} (h1 : ¬ n - f ≤ (cntL 1 zs : Int)) (h2 : ¬ n - f ≤ (cntL 0 zs : Int)) : mostF E n f zs = 2 := (if_pos h).trans ((if_neg h1).trans (if_neg h2))
theorem leastF_no {E : Int} (h : ¬ E = 0) (f now : Int) (zs : List Int) : leastF E f now zs = now := if_neg h
theorem leastF_0 {E : Int} (h : E = 0) {f now : Int} {zs : List Int} (h0 : f + 1 ≤ (cntL 0 zs : Int)) : leastF E f now zs = 0 := (if_pos h).trans (if_pos h0)
theorem leastF_1 {E : Int} (h : E = 0) {f now : Int} {zs : List Int} (h0 : ¬ f + 1 ≤ (cntL 0 zs : Int)) (h1 : f + 1 ≤ (cntL 1 zs : Int)) : leastF E f now zs = 1 := (if_pos h).trans ((if_neg h0).trans (if_pos h1))
theorem leastF_2 {E : Int} (h : E = 0) {f now : Int} {zs : List Int} (h0 : ¬ f + 1 ≤ (cntL 0 zs : Int)) (h1 : ¬ f + 1 ≤ (cntL 1 zs : Int)) (h2 : f + 1 ≤ (cntL 2 zs : Int)) : leastF E f now zs = 2 := (if_pos h).trans ((if_neg h0).trans ((if_neg h1).trans (if_pos h2)))
theorem leastF_n {E : Int} (h : E = 0) {f now : Int} {zs : List Int} (h0 : ¬ f + 1 ≤ (cntL 0 zs : Int)) (h1 : ¬ f + 1 ≤ (cntL 1 zs : Int)) (h2 : ¬ f + 1 ≤ (cntL 2 zs : Int)) : leastF E f now zs = now := (if_pos h).trans ((if_neg h0).trans ((if_neg h1).trans (if_neg h2)))
/-- A vote. -/
def voteB (v : Int) : Bool := decide (0 ≤ v ∧ v < 3)
theorem voteB_yes {v : Int} (h1 : 0 ≤ v) (h2 : v < 3) : voteB v = true := decide_eq_true ⟨h1, h2⟩
theorem voteB_no {v : Int} (h : ¬ (0 ≤ v ∧ v < 3)) : voteB v = false := decide_eq_false h
end Go.Proofs.Ytohgmliafidalaa
