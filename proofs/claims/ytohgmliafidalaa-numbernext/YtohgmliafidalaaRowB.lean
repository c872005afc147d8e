/- Rows of numbers as blocks of memory: how they are made, read and written; no conditions. -/
import Derived.Test.YtohgmliafidalaaRowI
import Derived.Test.YtohgmliafidalaaSix
import Derived.Deep.OwnRows
namespace Go.Proofs.Ytohgmliafidalaa
open Go.ChangeShapes Go.WideShapes Go.ChangeAt Go.RowKit
set_option linter.unusedVariables false

theorem kInt_set (l : List Int) (i : Nat) (v : Int) : (kInt.flat l).set i (.int .i64 v) = kInt.flat (l.set i v) := by
  rw [kInt_flat, kInt_flat, List.map_set]
theorem kInt_get (l : List Int) (i : Nat) (hi : i < l.length) : (kInt.flat l)[i]? = some (.int .i64 (l.getD i 0)) := by
  rw [kInt_flat]; simp [hi]
/-- A row of numbers that is a block of its own. -/
def IBlk (W : World) (g : Nat) (l : List Int) : Prop := W.heap[g]? = some (.cells (kInt.flat l).toArray 3 (0, 0))
theorem IBlk.lt {W : World} {g : Nat} {l : List Int} (h : IBlk W g l) : g < W.heap.size := blk_lt h
theorem IBlk.later {W W' : World} {g : Nat} {l : List Int} (h : IBlk W g l) (hb : Below W.heap.size W W') : IBlk W' g l := blk_later h hb
theorem IBlk.open {W : World} {g : Nat} {l : List Int} (h : IBlk W g l) (i : Nat) : W.frozen? ⟨g, i, none⟩ = false := blk_frozen h i
theorem IBlk.cell {W : World} {g : Nat} {l : List Int} (h : IBlk W g l) (i : Nat) (hi : i < l.length) : W.cell? ⟨g, i, none⟩ = some (.int .i64 (l.getD i 0)) := by
  rw [blk_cell h i, List.getElem?_toArray, kInt_get l i hi]
theorem IBlk.set {W : World} {g : Nat} {l : List Int} (h : IBlk W g l) (i : Nat) (v : Int) : IBlk (W.setCell ⟨g, i, none⟩ (.int .i64 v)) g (l.set i v) := by
  have := heap_setCell_same W g i _ _ (.int .i64 v) h
  rw [List.setIfInBounds_toArray, kInt_set] at this
  exact this
theorem blk_other {W : World} {g : Nat} {o : Obj} (h : W.heap[g]? = some o) (a : Addr) (v : Value) (ha : g ≠ a.block) : (W.setCell a v).heap[g]? = some o := (heap_setCell_other W a g v ha).trans h
theorem IBlk.lies {W : World} {g : Nat} {l : List Int} (h : IBlk W g l) (hl : l.length ≤ maxLen) : kInt.Lies W.heap.size W (.slice (some ⟨g, 0, none⟩) l.length l.length) l := Kind.Lies.of_block h hl
theorem made_ints (n : Nat) : madeCells #[.int .i64 0] n = (kInt.flat (List.replicate n 0)).toArray := by
  apply Array.ext'
  rw [toList_madeCells_one, kInt_flat]
  simp
theorem make_ints {n : Int} (N : Nat) (e : n = (N : Int)) (hn : N ≤ 100000) (w : World) : (Instr.makeSlice 22 (.int .i64 n) (.int .i64 n)).run Try.prog w = .ok (.slice (some ⟨w.heap.size, 0, none⟩) N N) (w.alloc (.cells (kInt.flat (List.replicate N 0)).toArray 3)) := by
  subst e
  rw [← made_ints]
  exact run_make_row' 22 3 (.int .i64 0) 8 Try.underlying22 infoInt rfl .i64 .i64 N (by omega) (by omega) w
end Go.Proofs.Ytohgmliafidalaa
