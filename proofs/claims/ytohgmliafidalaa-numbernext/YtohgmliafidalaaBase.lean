/- Plain words on worlds that grow: what lay there stays, and the box of a call's own; no conditions. -/
import Derived.Test.YtohgmliafidalaaRows
import Derived.WalkKit
import Derived.ProofKit
import Derived.OpenShut
import Derived.ShutString
import Derived.WalkLawsBesides
import Derived.Lib.QuietBelow
import Derived.BigQuiet
import Derived.Lib.SmallJoins
namespace Go.Proofs.Ytohgmliafidalaa
open Go.ChangeShapes Go.WideShapes Go.ChangeAt Go.RowKit
set_option linter.unusedVariables false

/-- An integer of a value. -/
def intV : Value → Int | .int _ q => q | _ => 0
theorem bd64 {x : Int} (h : (Lit.int .i64 x).wf = true) : -9223372036854775808 ≤ x ∧ x ≤ 9223372036854775807 := by
  have := bounds_i64 h
  omega
theorem ret_i {a b : Int} (h : a = b) : Ending.returned (.int .i64 a) = .returned (.int .i64 b) := by rw [h]
theorem ret_b {a b : Bool} (h : a = b) : Ending.returned (.bool a) = .returned (.bool b) := by rw [h]
/-- Below from a world that has grown behind another one. -/
theorem bthen {w w1 w2 : World} (h : Below w.heap.size w w1) (k : Below w1.heap.size w1 w2) : Below w.heap.size w w2 :=
  h.trans (k.mono h.size)
theorem ballc (w : World) (ob : Obj) : Below w.heap.size w (w.alloc ob) := (Below.refl _ _).alloc (Nat.le_refl _) _
/-- A region's world, grown by calls: what lay there reads as it did. -/
theorem cell_rg (w : World) (dq : Nat) (os : Array Obj) (a : Addr) (h : a.block < w.heap.size) : (Sort.grow (redrawn w dq) os).cell? a = w.cell? a := (below_regrown w dq os).cell h
theorem rg_below {W w' : World} (h : ∃ q : Regrown, w' = Sort.grow (redrawn W q.d) q.os) : Below W.heap.size W w' := by
  obtain ⟨⟨dq, os⟩, rfl⟩ := h
  exact below_regrown W dq os
/-- A box of the call's own, in a later world. -/
theorem box_at {w wl : World} {C : Array Value} {t : TypeId} (hb : Below (w.alloc (.cells C t)).heap.size (w.alloc (.cells C t)) wl) : (∀ i, wl.cell? ⟨w.heap.size, i, none⟩ = C[i]?) ∧ w.heap.size < wl.heap.size := by
  have hs := hb.size
  simp at hs
  refine ⟨fun i => ?_, by omega⟩
  rw [hb.cell (p := ⟨w.heap.size, i, none⟩) (by simp)]
  exact World.cell?_alloc_mark w C t _ i
theorem Calls.to_below {P : Program} {F : FuncId} {args : Array Value} {w : World} {v : Value} (h : Calls P F args w fun e w' => e = .returned v ∧ w = w') : Calls P F args w fun e w' => e = .returned v ∧ Below w.heap.size w w' :=
  h.mono fun _ _ ⟨he, hw⟩ => ⟨he, by rw [← hw]; exact Below.refl _ _⟩
theorem hidden {q : Prop} (h : q) : Hid q := h
theorem Hid.out {q : Prop} (h : Hid q) : q := h
end Go.Proofs.Ytohgmliafidalaa
