/- Several texts of one's own in one: what each proves, and its conditions, is said ahead of it. -/
import Derived.Test.YtkolhbacgoafcaaBa

/- A place of a pipe that came in as an argument, opened: a number and a byte; no conditions. -/
namespace Go.Proofs.Ytkolhbacgoafcaa
open Go.ChangeShapes Go.WideShapes Go.ChangeAt Go.RowKit
set_option linter.unusedVariables false
section
variable {H : Type} {enc : TypeId × Value → H} {w : World} {base : Nat} {spare : Nat → Bool} {held : Bool}
set_option maxRecDepth 100000 in
theorem open_plc {r : Reach} {b0 : Nat} {v : Value} {dt : DataW H} {ps : List MemPlace} (hv : Value.okWide Try.prog w r b0 47 v) (h : DataW.Trod enc Try.prog w base spare held 47 v dt ps) :
    ∃ (a c : Int), v = .agg #[.int .i64 a, .int .u8 c] ∧ (Lit.int .i64 a).wf = true ∧ (Lit.int .u8 c).wf = true := by
  have hs := Try.underlying47
  obtain ⟨cs, rfl, hsz⟩ := okWide_struct hs hv
  obtain ⟨c0, c1, rfl⟩ : ∃ c0 c1, cs = #[c0, c1] := by
    obtain ⟨l⟩ := cs
    have h2 : l.length = 2 := hsz.trans (by kernel_rfl)
    match l, h2 with
    | [c0, c1], _ => exact ⟨c0, c1, rfl⟩
  obtain ⟨fuel, hf⟩ := h
  obtain ⟨xs, m, _, _, _, hxl, hfs⟩ := DataW.trod_struct hs hf
  have k3 : Try.prog.cellsOf 3 = 1 := by kernel_rfl
  have k4 : Try.prog.cellsOf 5 = 1 := by kernel_rfl
  have so : ∀ {i : Nat} {x : Option (DataW H × List MemPlace)}, i < 2 → x = xs[i]? → ∃ y, x = some y := fun {i x} hi e => ⟨xs[i]'(by rw [hxl]; exact hi), e.trans (List.getElem?_eq_getElem _)⟩
  obtain ⟨y0, q0⟩ := so (by decide : 0 < 2) (hfs 0 _ rfl)
  have z0 : DataW.trod enc Try.prog w base spare held m 3 [c0] = some y0 := by simpa [Value.cells, k3] using q0
  obtain ⟨x0, h0, _, w0⟩ := DataW.trod_int Try.underlying3 z0
  obtain ⟨y1, q1⟩ := so (by decide : 1 < 2) (hfs 1 _ rfl)
  have z1 : DataW.trod enc Try.prog w base spare held m 5 [c1] = some y1 := by simpa [Value.cells, k3, k4] using q1
  obtain ⟨x1, h1, _, w1⟩ := DataW.trod_int Try.underlying5 z1
  simp only [List.cons.injEq, and_true] at h0 h1
  subst h0 h1
  exact ⟨x0, x1, rfl, w0, w1⟩
end
end Go.Proofs.Ytkolhbacgoafcaa
