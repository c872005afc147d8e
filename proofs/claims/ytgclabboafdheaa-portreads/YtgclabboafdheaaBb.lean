/- Several texts of one's own in one: what each proves, and its conditions, is said ahead of it. -/
import Derived.Test.YtgclabboafdheaaBa
import Derived.Laws.AppendOwn

/- Plain words on worlds that are made of another one by laying new blocks: what lay there stays, and new blocks are where they were laid; no conditions. -/
namespace Go.Proofs.Ytgclabboafdheaa
open Go.ChangeShapes Go.WideShapes Go.ChangeAt Go.RowKit
set_option linter.unusedVariables false

/-- A world that is another one with new blocks at its end. -/
def Chn (n : Nat) (w w' : World) : Prop := Below n w w' ∧ n ≤ w'.heap.size
theorem Chn.refl {n : Nat} {w : World} (h : n ≤ w.heap.size) : Chn n w w := ⟨Below.refl _ _, h⟩
theorem Chn.alloc {n : Nat} {w w' : World} (h : Chn n w w') (o : Obj) : Chn n w (w'.alloc o) := ⟨h.1.alloc h.2 o, by rw [World.size_alloc]; exact Nat.le_succ_of_le h.2⟩
theorem Chn.drew {n : Nat} {w w' : World} (h : Chn n w w') : Chn n w w'.drew := ⟨h.1.drew, h.2⟩
theorem Chn.below {n : Nat} {w w' w'' : World} (h : Chn n w w') (k : Below w'.heap.size w' w'') : Chn n w w'' := ⟨h.1.trans (k.mono h.2), Nat.le_trans h.2 k.size⟩
theorem Chn.out {w w' : World} (h : Chn w.heap.size w w') : Below w.heap.size w w' := h.1
theorem Chn.set {n : Nat} {w w' : World} (h : Chn n w w') (g i : Nat) (hg : n ≤ g) (v : Value) : Chn n w (w'.setCell ⟨g, i, none⟩ v) := ⟨h.1.setCell (p := ⟨g, i, none⟩) hg v, by simpa using h.2⟩
theorem Chn.le {n : Nat} {w w' : World} (h : Chn n w w') : n ≤ w'.heap.size := h.2
theorem Chn.grown {n g : Nat} {w w' w'' : World} (h : Chn n w w') (k : w'.grownBy w'' (some g)) (hg : n ≤ g) : Chn n w w'' := ⟨h.1.trans ⟨k.os, k.tape, k.output, k.size, fun i hi => k.block i (Nat.lt_of_lt_of_le hi h.2) (by simp; omega)⟩, Nat.le_trans h.2 k.size⟩
end Go.Proofs.Ytgclabboafdheaa
