/- The calls eachOwns of package conf and owned of the document's answer tell whether each owner is a node and each node owns a slot; conditions: 4 to 13 nodes. -/
import Derived.Test.YtoemloggbljikabConfS
namespace Go.Proofs.Ytoemloggbljikab
open Go.ChangeShapes Go.WideShapes Go.ChangeAt Go.RowKit
set_option linter.unusedVariables false
attribute [local go_sem] cell_rg

def ownsB (n : Int) (zs : List Int) : Bool := zs.all (fun z => decide (0 ≤ z ∧ z ≤ n - 1)) && (List.range n.toNat).all (fun j => decide ((j : Int) ∈ zs))
theorem ownsB_iff {n : Int} {zs : List Int} : ownsB n zs = true ↔ (∀ z ∈ zs, 0 ≤ z ∧ z ≤ n - 1) ∧ ∀ j : Nat, (j : Int) < n → (j : Int) ∈ zs := by
  unfold ownsB
  simp only [Bool.and_eq_true, List.all_eq_true, decide_eq_true_eq, List.mem_range]
  constructor
  · rintro ⟨h1, h2⟩
    exact ⟨h1, fun j hj => h2 j (by omega)⟩
  · rintro ⟨h1, h2⟩
    exact ⟨h1, fun j hj => h2 j (by omega)⟩
theorem ownsB_bad {n : Int} {zs : List Int} (k : Nat) (hk : k < zs.length) (h : ¬ (0 ≤ zs.getD k 0 ∧ zs.getD k 0 ≤ n - 1)) : ownsB n zs = false := by
  rw [← Bool.not_eq_true, ownsB_iff]
  rintro ⟨h1, _⟩
  refine h (h1 _ ?_)
  rw [List.getD_eq_getElem?_getD, List.getElem?_eq_getElem hk]
  exact List.getElem_mem hk
theorem ownsB_miss {n : Int} {zs : List Int} (j : Nat) (hj : (j : Int) < n) (h : ¬ (j : Int) ∈ zs) : ownsB n zs = false := by
  rw [← Bool.not_eq_true, ownsB_iff]
  rintro ⟨_, h2⟩
  exact h (h2 j hj)
theorem ownsB_yes {n : Int} {zs : List Int} (h1 : ∀ z ∈ zs, 0 ≤ z ∧ z ≤ n - 1) (h2 : ∀ j : Nat, (j : Int) < n → (j : Int) ∈ zs) : ownsB n zs = true := ownsB_iff.2 ⟨h1, h2⟩
theorem take_succ_getD {zs : List Int} (k : Nat) (hk : k < zs.length) : zs.take (k + 1) = zs.take k ++ [zs.getD k 0] := by
  rw [List.take_succ_eq_append_getElem hk, List.getD_eq_getElem?_getD, List.getElem?_eq_getElem hk]; rfl

/-- The owners up to k hold node j. -/
def hasTo (zs : List Int) (k : Nat) (j : Nat) : Bool := decide ((j : Int) ∈ zs.take k)
theorem hasTo_zero (zs : List Int) (j : Nat) : hasTo zs 0 j = false := by simp [hasTo]
theorem hasTo_succ {zs : List Int} (k : Nat) (hk : k < zs.length) (j : Nat) : hasTo zs (k + 1) j = (hasTo zs k j || decide (zs.getD k 0 = (j : Int))) := by
  unfold hasTo
  rw [take_succ_getD k hk]
  by_cases h : (j : Int) ∈ zs.take k <;> simp only [List.mem_append, List.mem_singleton, h, decide_true, decide_false, Bool.true_or, Bool.false_or, true_or, false_or]
  exact decide_eq_decide.2 ⟨fun h => h.symm, fun h => h.symm⟩
theorem hasTo_all {zs : List Int} {j : Nat} : hasTo zs zs.length j = true ↔ (j : Int) ∈ zs := by simp [hasTo]

theorem all_succ {zs : List Int} {n : Int} (k : Nat) (hk : k < zs.length) (h : ∀ z ∈ zs.take k, 0 ≤ z ∧ z ≤ n - 1) (h1 : 0 ≤ zs.getD k 0) (h2 : zs.getD k 0 ≤ n - 1) : ∀ z ∈ zs.take (k + 1), 0 ≤ z ∧ z ≤ n - 1 := by
  intro z hz
  rw [take_succ_getD k hk, List.mem_append, List.mem_singleton] at hz
  rcases hz with hz | rfl
  · exact h z hz
  · exact ⟨h1, h2⟩
theorem bdrew {w W : World} (h : Below w.heap.size w W) (m : Nat) : Below w.heap.size w (W.drewN m) := bthen h (Joins.below_draws _ _ _)

end Go.Proofs.Ytoemloggbljikab
