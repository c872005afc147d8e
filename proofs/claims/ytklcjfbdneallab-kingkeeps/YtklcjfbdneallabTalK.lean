/- The fixed calls of the statements on package tally come out as they must, and make at most new memory; no conditions. -/
import Derived.Test.YtklcjfbdneallabConfK
import Derived.Test.YtklcjfbdneallabTalB
namespace Go.Proofs.Ytklcjfbdneallab
open Go.ChangeShapes Go.WideShapes Go.ChangeAt Go.RowKit
set_option linter.unusedVariables false

theorem row_new (w : World) (t : TypeId) (vs : List Int) (A : Array Value) (hA : A = (kInt.flat vs).toArray) (hl : vs.length ≤ maxLen) (g : Nat) (hg : g = w.heap.size) (m : Nat) (hm : m = vs.length) : kInt.Lies (w.alloc (.cells A t)).heap.size (w.alloc (.cells A t)) (.slice (some ⟨g, 0, none⟩) m m) vs := by
  subst hA hg hm
  exact Kind.Lies.of_block (t := t) (heap_alloc_new w _) hl
theorem val_b {a b : Bool} (h : a = b) : Value.bool a = .bool b := by rw [h]
end Go.Proofs.Ytklcjfbdneallab
