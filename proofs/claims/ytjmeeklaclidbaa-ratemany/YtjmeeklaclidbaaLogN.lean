/- The fixed calls of the statements on package log come out as they must, and make at most new memory; no conditions. -/
import Derived.Test.YtjmeeklaclidbaaLogD
import Derived.Test.YtjmeeklaclidbaaLogS
namespace Go.Proofs.Ytjmeeklaclidbaa
open Go.ChangeShapes Go.WideShapes Go.ChangeAt Go.RowKit Go.Shelf
set_option linter.unusedVariables false
attribute [local go_sem ↓] Go.wp_at_zero Go.wp_at_succ



def kn1 : Note := ⟨(1, 10), by decide⟩
def kn2 : Note := ⟨(2, 12), by decide⟩
def kn3 : Note := ⟨(1, 13), by decide⟩
theorem klive4 : live 14 4 [kn1, kn2, kn3] = [kn2, kn3] := by decide
theorem klive9 : live 14 9 [kn1, kn2, kn3] = [kn1, kn2, kn3] := by decide
/-- A row that lay there lies there. -/
theorem Ents.later {A B : World} {sv : Value} {es : List Note} (h : Ents A.heap.size A sv es) (hb : Below A.heap.size A B) : Ents B.heap.size B sv es := (h.below hb).mono hb.size
theorem Nums.later {A B : World} {sv : Value} {zs : List Int} (h : Nums A.heap.size A sv zs) (hb : Below A.heap.size A B) : Nums B.heap.size B sv zs := (h.below hb).mono hb.size
theorem Nums.of_block {W : World} {g : Nat} {zs : List Int} {t : TypeId} (h : W.heap[g]? = some (.cells (zs.map encZ).toArray t (0, 0))) (hl : zs.length ≤ maxLen) : Nums W.heap.size W (.slice (some ⟨g, 0, none⟩) zs.length zs.length) zs := by
  refine ⟨_, _, rfl, Nat.le_refl _, hl, fun j hj => ?_⟩
  exact ⟨g, 0, rfl, (Array.getElem?_eq_some_iff.1 h).1, by simp [World.cell?, h, hj]⟩

end Go.Proofs.Ytjmeeklaclidbaa
