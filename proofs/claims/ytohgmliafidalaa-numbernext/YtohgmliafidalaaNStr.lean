/- Texts as lists of numbers: what a row of bytes is as a text; no conditions. -/
import Derived.Test.YtohgmliafidalaaBase
import Derived.WalkSpells
import Derived.Laws.BytesString
namespace Go.Proofs.Ytohgmliafidalaa
open Go.ChangeShapes Go.WideShapes Go.ChangeAt Go.RowKit
set_option linter.unusedVariables false

def numStr (zs : List Int) : ByteArray := ⟨(zs.map fun z => UInt8.ofNat z.toNat).toArray⟩
def leInts : Int → Nat → List Int
  | _, 0 => []
  | n, k + 1 => n % 256 :: leInts (n / 256) k

theorem cons2 {a b : Int} {l m : List Int} (h : a = b) (g : l = m) : a :: l = b :: m := by rw [h, g]

theorem foldl_push_nums : ∀ (zs : List Int) (r : ByteArray), zs.foldl (fun r n => r.push (UInt8.ofNat n.toNat)) r = ⟨r.data ++ (zs.map fun z => UInt8.ofNat z.toNat).toArray⟩
  | [], r => by simp
  | z :: zs, r => by
    simp only [List.foldl_cons]
    rw [foldl_push_nums zs]
    simp [ByteArray.push]

theorem conv_cells (w : World) (zs : List Int) (cap : Nat) :
    (convert 88 9 (.slice (some ⟨w.heap.size, 0, none⟩) zs.length cap)).run Try.prog (w.alloc (.cells (zs.map (Value.int .u8)).toArray 5)) = .ok (.string (numStr zs)) (w.alloc (.cells (zs.map (Value.int .u8)).toArray 5)) := by
  rw [run_convert_bytes_string _ 88 9 5 _ _ _ Try.underlying88 Try.underlying5 Try.underlying9]
  have hl := run_loadCells_list (P := Try.prog) (w.alloc (.cells (zs.map (Value.int .u8)).toArray 5)) ⟨w.heap.size, 0, none⟩ (zs.map (Value.int .u8)) (fun j v hj => by
    have ha : (Addr.mk w.heap.size 0 none).add j = ⟨w.heap.size, j, none⟩ := by
      by_cases h : j = 0
      · subst h; rfl
      · simp [Addr.add, h]
    rw [ha, World.cell?_alloc_at _ _ _ _ rfl]
    simpa using hj)
  simp only [List.length_map] at hl
  rw [run_bytesToString _ _ zs.length cap _ hl, foldl_push_nums]
  have he0 : ByteArray.empty.data = #[] := rfl
  rw [he0]
  simp [numStr]

end Go.Proofs.Ytohgmliafidalaa
