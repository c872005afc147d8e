/- Plain words on rows of bytes that a call has made: their cells, one byte set, the text that they are; no conditions. -/
import Derived.Test.YtohgmliafidalaaTxt
import Derived.Test.YtohgmliafidalaaSix
import Derived.Test.YtohgmliafidalaaNStr
import Derived.Deep.OwnRows
import Derived.Laws.IdiomStrings
namespace Go.Proofs.Ytohgmliafidalaa
open Go.ChangeShapes Go.WideShapes Go.ChangeAt Go.RowKit
set_option linter.unusedVariables false

/-- The cells of a row of bytes. -/
def bvals (l : List UInt8) : Array Value := (l.map fun x => Value.int .u8 (x.toNat : Int)).toArray
theorem bvals_size (l : List UInt8) : (bvals l).size = l.length := by simp [bvals]
theorem bvals_at (l : List UInt8) (i : Nat) (h : i < l.length) : (bvals l)[i]? = some (.int .u8 (l[i].toNat : Int)) := by simp [bvals, h]
theorem bvals_set (l : List UInt8) (i : Nat) (x : Nat) (hx : x < 256) : (bvals l).setIfInBounds i (.int .u8 (x : Int)) = bvals (l.set i (UInt8.ofNat x)) := by
  apply Array.ext'
  simp only [bvals, Array.toList_setIfInBounds, List.map_set]
  rw [UInt8.toNat_ofNat_of_lt' hx]
theorem bvals_made (n : Nat) : madeCells #[Value.int .u8 0] n = bvals (List.replicate n 0) := by
  have h := toList_madeCells_one (Value.int .u8 0) n
  apply Array.ext'
  rw [h]
  simp [bvals]
theorem infoByte : (Try.prog.info? 5).map (fun i => (i.zero, i.size, i.bytes)) = some (some (.int .u8 0), 1, 1) := by kernel_rfl
/-- make of so many bytes. -/
theorem make_bytes (n : Nat) (hn : n ≤ 100000) (w : World) : (Instr.makeSlice 88 (.int .i64 (n : Int)) (.int .i64 (n : Int))).run Try.prog w = .ok (.slice (some ⟨w.heap.size, 0, none⟩) n n) (w.alloc (.cells (bvals (List.replicate n 0)) 5)) := by
  rw [← bvals_made]
  exact run_make_row' 88 5 (.int .u8 0) 1 Try.underlying88 infoByte rfl .i64 .i64 n (by omega) (by omega) w
theorem conv_blk {W : World} {g : Nat} {l : List UInt8} {t : TypeId} (h : W.heap[g]? = some (.cells (bvals l) t (0, 0))) :
    (convert 88 9 (.slice (some ⟨g, 0, none⟩) l.length l.length)).run Try.prog W = .ok (.string (ba l)) W := by
  refine run_convert_bytes_back W 88 9 5 _ _ l Try.underlying88 Try.underlying5 Try.underlying9 ?_
  intro j hj
  rw [add_plain, Nat.zero_add, blk_cell h j, bvals_at l j hj]
theorem numStr_one (n : Int) : numStr [n] = ba [UInt8.ofNat n.toNat] := rfl
end Go.Proofs.Ytohgmliafidalaa
