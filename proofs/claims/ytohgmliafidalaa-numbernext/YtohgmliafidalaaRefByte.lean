/- The document's own Byte returns a text of one byte, and makes at most new memory; no conditions. -/
import Derived.Test.YtohgmliafidalaaNStr
namespace Go.Proofs.Ytohgmliafidalaa
open Go.ChangeShapes Go.WideShapes Go.ChangeAt Go.RowKit
set_option linter.unusedVariables false

theorem rbyte_any (n : Int) (w : World) :
    Calls Try.prog 89 #[.int .i64 n] w fun e w' => e = .returned (.string (numStr [n % 256])) ∧ Below w.heap.size w w' := by
  have hcv := conv_cells w [n % 256] 1
  simp only [List.map_cons, List.map_nil, List.length_cons, List.length_nil, Nat.zero_add] at hcv
  go_enter Try.func89, Try.ntmps89
  go_wp2
  go_ret
  exact ⟨rfl, (Below.refl _ _).alloc (Nat.le_refl _) _⟩
theorem numStr_size (zs : List Int) : (numStr zs).size = zs.length := by simp [numStr, ByteArray.size]
theorem numStr_append (a b : List Int) : numStr a ++ numStr b = numStr (a ++ b) := by
  apply ByteArray.ext
  simp [numStr, ByteArray.data_append]
theorem numStr_nil : (ByteArray.mk #[]) = numStr [] := rfl
end Go.Proofs.Ytohgmliafidalaa
