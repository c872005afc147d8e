/- Plain words on boxes of six numbers in memory: what is read of them, and what stays; no conditions. -/
import Derived.Test.YtjkliandhcegeaaDiaB
import Derived.Test.YtjkliandhcegeaaChain
namespace Go.Proofs.Ytjkliandhcegeaa
open Go.ChangeShapes Go.WideShapes Go.ChangeAt Go.RowKit
set_option linter.unusedVariables false
attribute [local go_sem] idx6_0 idx6_1 idx6_2 idx6_3 idx6_4 idx6_5

/-- A box of six numbers. -/
def Box (w : World) (b : Nat) (x : Nat → Int) : Prop := w.heap[b]? = some (.cells #[.int .i64 (x 0), .int .i64 (x 1), .int .i64 (x 2), .int .i64 (x 3), .int .i64 (x 4), .int .i64 (x 5)] 22 (0, 0))
theorem Box.at {w : World} {b : Nat} {x : Nat → Int} (h : Box w b x) (j : Nat) (hj : j < 6) : w.cell? ⟨b, j, none⟩ = some (.int .i64 (x j)) := by
  unfold Box at h
  have : j = 0 ∨ j = 1 ∨ j = 2 ∨ j = 3 ∨ j = 4 ∨ j = 5 := by omega
  rcases this with rfl | rfl | rfl | rfl | rfl | rfl <;> simp [World.cell?, h]
theorem Box.open {w : World} {b : Nat} {x : Nat → Int} (h : Box w b x) (i : Nat) : w.frozen? ⟨b, i, none⟩ = false := by
  unfold Box at h
  simp [World.frozen?, h]
theorem Box.lt {w : World} {b : Nat} {x : Nat → Int} (h : Box w b x) : b < w.heap.size := (Array.getElem?_eq_some_iff.1 h).1
theorem Box.below {w w' : World} {b : Nat} {x : Nat → Int} (h : Box w b x) (hb : Below w.heap.size w w') : Box w' b x := (hb.block b h.lt).trans h
theorem Box.new (w : World) (x : Nat → Int) : Box (w.alloc (.cells #[.int .i64 (x 0), .int .i64 (x 1), .int .i64 (x 2), .int .i64 (x 3), .int .i64 (x 4), .int .i64 (x 5)] 22)) w.heap.size x := heap_alloc_new w _
theorem Box.newAt {w : World} {C : Array Value} {x : Nat → Int} {g : Nat} (h : w.heap.size = g) (e : C = #[.int .i64 (x 0), .int .i64 (x 1), .int .i64 (x 2), .int .i64 (x 3), .int .i64 (x 4), .int .i64 (x 5)]) : Box (w.alloc (.cells C 22)) g x := by subst h; subst e; exact Box.new w x
theorem Box.drew1 {w : World} {b : Nat} {x : Nat → Int} (h : Box w b x) : Box w.drew b x := h
theorem Box.old {w : World} {b : Nat} {x : Nat → Int} (h : Box w b x) (o : Obj) : Box (w.alloc o) b x := h.below (ballc _ _)
theorem Box.drew {w : World} {b : Nat} {x : Nat → Int} (h : Box w b x) (m : Nat) : Box (w.drewN m) b x := h
theorem Box.set {w : World} {b : Nat} {x : Nat → Int} (h : Box w b x) (j : Nat) (hj : j < 6) (v : Int) : Box (w.setCell ⟨b, j, none⟩ (.int .i64 v)) b (fun i => if i = j then v else x i) := by
  have h1 := heap_setCell_same w b j _ _ (.int .i64 v) h
  unfold Box
  rw [h1]
  have : j = 0 ∨ j = 1 ∨ j = 2 ∨ j = 3 ∨ j = 4 ∨ j = 5 := by omega
  rcases this with rfl | rfl | rfl | rfl | rfl | rfl <;> rfl
theorem Box.other {w : World} {b c : Nat} {x : Nat → Int} (h : Box w b x) (hc : b ≠ c) (j : Nat) (v : Value) : Box (w.setCell ⟨c, j, none⟩ v) b x := (heap_setCell_other w ⟨c, j, none⟩ b v hc).trans h
theorem Box.congr {w : World} {b : Nat} {x y : Nat → Int} (h : Box w b x) (e : ∀ i, i < 6 → x i = y i) : Box w b y := by
  unfold Box at *
  rw [← six_congr e]
  exact h
theorem six_set {w : World} {b : Nat} {z : Nat → Int} (h : Box w b z) (v0 v1 v2 v3 v4 v5 : Value) :
    ((((((w.setCell ⟨b, 0, none⟩ v0).setCell ⟨b, 1, none⟩ v1).setCell ⟨b, 2, none⟩ v2).setCell ⟨b, 3, none⟩ v3).setCell ⟨b, 4, none⟩ v4).setCell ⟨b, 5, none⟩ v5).heap[b]? = some (.cells #[v0, v1, v2, v3, v4, v5] 22 (0, 0)) := by
  have h1 := heap_setCell_same _ b 0 _ _ v0 h
  have h2 := heap_setCell_same _ b 1 _ _ v1 h1
  have h3 := heap_setCell_same _ b 2 _ _ v2 h2
  have h4 := heap_setCell_same _ b 3 _ _ v3 h3
  have h5 := heap_setCell_same _ b 4 _ _ v4 h4
  have h6 := heap_setCell_same _ b 5 _ _ v5 h5
  simpa using h6
theorem six_read {w : World} {b : Nat} {z : Nat → Int} (h : Box w b z) (v0 v1 v2 v3 v4 v5 : Value) :
    ((((((w.setCell ⟨b, 0, none⟩ v0).setCell ⟨b, 1, none⟩ v1).setCell ⟨b, 2, none⟩ v2).setCell ⟨b, 3, none⟩ v3).setCell ⟨b, 4, none⟩ v4).setCell ⟨b, 5, none⟩ v5).cell? ⟨b, 0, none⟩ = some v0 ∧ ((((((w.setCell ⟨b, 0, none⟩ v0).setCell ⟨b, 1, none⟩ v1).setCell ⟨b, 2, none⟩ v2).setCell ⟨b, 3, none⟩ v3).setCell ⟨b, 4, none⟩ v4).setCell ⟨b, 5, none⟩ v5).cell? ⟨b, 1, none⟩ = some v1 ∧ ((((((w.setCell ⟨b, 0, none⟩ v0).setCell ⟨b, 1, none⟩ v1).setCell ⟨b, 2, none⟩ v2).setCell ⟨b, 3, none⟩ v3).setCell ⟨b, 4, none⟩ v4).setCell ⟨b, 5, none⟩ v5).cell? ⟨b, 2, none⟩ = some v2 ∧ ((((((w.setCell ⟨b, 0, none⟩ v0).setCell ⟨b, 1, none⟩ v1).setCell ⟨b, 2, none⟩ v2).setCell ⟨b, 3, none⟩ v3).setCell ⟨b, 4, none⟩ v4).setCell ⟨b, 5, none⟩ v5).cell? ⟨b, 3, none⟩ = some v3 ∧ ((((((w.setCell ⟨b, 0, none⟩ v0).setCell ⟨b, 1, none⟩ v1).setCell ⟨b, 2, none⟩ v2).setCell ⟨b, 3, none⟩ v3).setCell ⟨b, 4, none⟩ v4).setCell ⟨b, 5, none⟩ v5).cell? ⟨b, 4, none⟩ = some v4 ∧ ((((((w.setCell ⟨b, 0, none⟩ v0).setCell ⟨b, 1, none⟩ v1).setCell ⟨b, 2, none⟩ v2).setCell ⟨b, 3, none⟩ v3).setCell ⟨b, 4, none⟩ v4).setCell ⟨b, 5, none⟩ v5).cell? ⟨b, 5, none⟩ = some v5 := by
  have h6 := six_set h v0 v1 v2 v3 v4 v5
  refine ⟨?_, ?_, ?_, ?_, ?_, ?_⟩ <;> simp only [World.cell?, h6] <;> rfl
/-- Three boxes of six: two that are read, and a third one. -/
theorem three_boxes (x y : Nat → Int) (w : World) : (∀ W, Chn (w.heap.size + 3) (((w.alloc (.cells #[.int .i64 (x 0), .int .i64 (x 1), .int .i64 (x 2), .int .i64 (x 3), .int .i64 (x 4), .int .i64 (x 5)] 22)).alloc (.cells #[.int .i64 (y 0), .int .i64 (y 1), .int .i64 (y 2), .int .i64 (y 3), .int .i64 (y 4), .int .i64 (y 5)] 22)).alloc (.cells #[.int .i64 0, .int .i64 0, .int .i64 0, .int .i64 0, .int .i64 0, .int .i64 0] 22)) W →
    (W.cell? ⟨w.heap.size, 0, none⟩ = some (.int .i64 (x 0)) ∧ W.cell? ⟨w.heap.size, 1, none⟩ = some (.int .i64 (x 1)) ∧ W.cell? ⟨w.heap.size, 2, none⟩ = some (.int .i64 (x 2)) ∧ W.cell? ⟨w.heap.size, 3, none⟩ = some (.int .i64 (x 3)) ∧ W.cell? ⟨w.heap.size, 4, none⟩ = some (.int .i64 (x 4)) ∧ W.cell? ⟨w.heap.size, 5, none⟩ = some (.int .i64 (x 5)) ∧ W.cell? ⟨w.heap.size + 1, 0, none⟩ = some (.int .i64 (y 0)) ∧ W.cell? ⟨w.heap.size + 1, 1, none⟩ = some (.int .i64 (y 1)) ∧ W.cell? ⟨w.heap.size + 1, 2, none⟩ = some (.int .i64 (y 2)) ∧ W.cell? ⟨w.heap.size + 1, 3, none⟩ = some (.int .i64 (y 3)) ∧ W.cell? ⟨w.heap.size + 1, 4, none⟩ = some (.int .i64 (y 4)) ∧ W.cell? ⟨w.heap.size + 1, 5, none⟩ = some (.int .i64 (y 5))) ∧ Box W (w.heap.size + 1 + 1) (fun _ => 0)) := by
  intro W hb0
  have hb := hb0.1
  have b0 : Box (((w.alloc (.cells #[.int .i64 (x 0), .int .i64 (x 1), .int .i64 (x 2), .int .i64 (x 3), .int .i64 (x 4), .int .i64 (x 5)] 22)).alloc (.cells #[.int .i64 (y 0), .int .i64 (y 1), .int .i64 (y 2), .int .i64 (y 3), .int .i64 (y 4), .int .i64 (y 5)] 22)).alloc (.cells #[.int .i64 0, .int .i64 0, .int .i64 0, .int .i64 0, .int .i64 0, .int .i64 0] 22)) w.heap.size x := ((Box.new w x).old _).old _
  have b1 : Box (((w.alloc (.cells #[.int .i64 (x 0), .int .i64 (x 1), .int .i64 (x 2), .int .i64 (x 3), .int .i64 (x 4), .int .i64 (x 5)] 22)).alloc (.cells #[.int .i64 (y 0), .int .i64 (y 1), .int .i64 (y 2), .int .i64 (y 3), .int .i64 (y 4), .int .i64 (y 5)] 22)).alloc (.cells #[.int .i64 0, .int .i64 0, .int .i64 0, .int .i64 0, .int .i64 0, .int .i64 0] 22)) (w.heap.size + 1) y := by
    have := (Box.new (w.alloc (.cells #[.int .i64 (x 0), .int .i64 (x 1), .int .i64 (x 2), .int .i64 (x 3), .int .i64 (x 4), .int .i64 (x 5)] 22)) y).old (.cells #[.int .i64 0, .int .i64 0, .int .i64 0, .int .i64 0, .int .i64 0, .int .i64 0] 22)
    simp only [World.size_alloc] at this
    exact this
  have b2 : Box (((w.alloc (.cells #[.int .i64 (x 0), .int .i64 (x 1), .int .i64 (x 2), .int .i64 (x 3), .int .i64 (x 4), .int .i64 (x 5)] 22)).alloc (.cells #[.int .i64 (y 0), .int .i64 (y 1), .int .i64 (y 2), .int .i64 (y 3), .int .i64 (y 4), .int .i64 (y 5)] 22)).alloc (.cells #[.int .i64 0, .int .i64 0, .int .i64 0, .int .i64 0, .int .i64 0, .int .i64 0] 22)) (w.heap.size + 1 + 1) (fun _ => 0) := by
    have := Box.new ((w.alloc (.cells #[.int .i64 (x 0), .int .i64 (x 1), .int .i64 (x 2), .int .i64 (x 3), .int .i64 (x 4), .int .i64 (x 5)] 22)).alloc (.cells #[.int .i64 (y 0), .int .i64 (y 1), .int .i64 (y 2), .int .i64 (y 3), .int .i64 (y 4), .int .i64 (y 5)] 22)) (fun _ => 0)
    simp only [World.size_alloc] at this
    exact this
  have e0 : Box W w.heap.size x := (hb.block _ (by omega)).trans b0
  have e1 : Box W (w.heap.size + 1) y := (hb.block _ (by omega)).trans b1
  have e2 : Box W (w.heap.size + 1 + 1) (fun _ => 0) := (hb.block _ (by omega)).trans b2
  exact ⟨⟨e0.at 0 (by decide), e0.at 1 (by decide), e0.at 2 (by decide), e0.at 3 (by decide), e0.at 4 (by decide), e0.at 5 (by decide), e1.at 0 (by decide), e1.at 1 (by decide), e1.at 2 (by decide), e1.at 3 (by decide), e1.at 4 (by decide), e1.at 5 (by decide)⟩, e2⟩
end Go.Proofs.Ytjkliandhcegeaa
