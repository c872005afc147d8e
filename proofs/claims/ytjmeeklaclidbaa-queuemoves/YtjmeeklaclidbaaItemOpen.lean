/- A row of items that came in as an argument, opened: where its cells lie; no conditions. -/
import Derived.Test.YtjmeeklaclidbaaRowOpen
import Derived.Test.YtjmeeklaclidbaaQueM
namespace Go.Proofs.Ytjmeeklaclidbaa
open Go.ChangeShapes Go.WideShapes Go.ChangeAt Go.RowKit
set_option linter.unusedVariables false

section
variable {H : Type} {enc : TypeId × Value → H} {w : World} {base : Nat} {spare : Nat → Bool} {held : Bool}
theorem dec_item (n : Nat) (cs : List Value) (y : DataW H × List MemPlace) (hl : cs.length = kItem.k) (h : DataW.trod enc Try.prog w base spare held n 52 cs = some y) : ∃ a, cs = kItem.enc a := by
  have hs := Try.underlying52
  obtain ⟨xs, m, _, _, _, hxl, hfs⟩ := DataW.trod_struct hs h
  have k3 : Try.prog.cellsOf 3 = 1 := by kernel_rfl
  have k9 : Try.prog.cellsOf 9 = 1 := by kernel_rfl
  obtain ⟨c0, c1, c2, rfl⟩ : ∃ c0 c1 c2, cs = [c0, c1, c2] := by
    have h2 : cs.length = 3 := hl
    match cs, h2 with
    | [c0, c1, c2], _ => exact ⟨c0, c1, c2, rfl⟩
  have so : ∀ {i : Nat} {x : Option (DataW H × List MemPlace)}, i < 3 → x = xs[i]? → ∃ y, x = some y := fun {i x} hi e => ⟨xs[i]'(by rw [hxl]; exact hi), e.trans (List.getElem?_eq_getElem _)⟩
  obtain ⟨y0, q0⟩ := so (by decide : 0 < 3) (hfs 0 _ rfl)
  have z0 : DataW.trod enc Try.prog w base spare held m 3 [c0] = some y0 := by simpa [k3] using q0
  obtain ⟨x0, h0, _, w0⟩ := DataW.trod_int Try.underlying3 z0
  obtain ⟨y1, q1⟩ := so (by decide : 1 < 3) (hfs 1 _ rfl)
  have z1 : DataW.trod enc Try.prog w base spare held m 3 [c1] = some y1 := by simpa [k3] using q1
  obtain ⟨x1, h1, _, w1⟩ := DataW.trod_int Try.underlying3 z1
  obtain ⟨y2, q2⟩ := so (by decide : 2 < 3) (hfs 2 _ rfl)
  have z2 : DataW.trod enc Try.prog w base spare held m 9 [c2] = some y2 := by simpa [k9] using q2
  obtain ⟨x2, h2, _, w2⟩ := DataW.trod_string Try.underlying9 z2
  simp only [List.cons.injEq, and_true] at h0 h1 h2
  subst h0 h1 h2
  exact ⟨⟨(x0, x1, x2), w0, w1, w2⟩, rfl⟩
theorem open_items {r : Reach} {b0 : Nat} {v : Value} {dt : DataW H} {ps : List MemPlace} (hv : Value.okWide Try.prog w r b0 42 v) (h : DataW.Trod enc Try.prog w base spare held 42 v dt ps) :
    ∃ (ad : Option Addr) (cap : Nat) (es : List Item), v = .slice ad es.length cap ∧ es.length ≤ 9223372036854775807 ∧ kItem.Lies w.heap.size w (.slice ad es.length cap) es :=
  kItem.open_arg Try.underlying42 (by kernel_rfl) dec_item hv h
end
end Go.Proofs.Ytjmeeklaclidbaa
