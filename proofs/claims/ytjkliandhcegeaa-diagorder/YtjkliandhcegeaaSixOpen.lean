/- Six numbers that came in as an argument, opened; no conditions. -/
import Derived.Test.YtjkliandhcegeaaDiaM
namespace Go.Proofs.Ytjkliandhcegeaa
open Go.ChangeShapes Go.WideShapes Go.ChangeAt Go.RowKit
set_option linter.unusedVariables false

section
variable {H : Type} {enc : TypeId × Value → H} {w : World} {base : Nat} {spare : Nat → Bool} {held : Bool}
theorem okWide_arr {P : Program} {t : TypeId} {r : Reach} {b0 : Nat} {v : Value} {n : Nat} {e : TypeId} (ht : P.underlying t = some (.array n e)) (h : Value.okWide P w r b0 t v) : ∃ cs, v = .agg cs ∧ cs.size = P.cellsOf t := by
  simp only [Value.okWide, ht] at h
  obtain ⟨cs, h1, h2, _⟩ := h
  exact ⟨cs, h1, h2⟩
theorem open_six {r : Reach} {b0 : Nat} {v : Value} {dt : DataW H} {ps : List MemPlace} (hv : Value.okWide Try.prog w r b0 22 v) (h : DataW.Trod enc Try.prog w base spare held 22 v dt ps) :
    ∃ x : Nat → Int, v = .agg #[.int .i64 (x 0), .int .i64 (x 1), .int .i64 (x 2), .int .i64 (x 3), .int .i64 (x 4), .int .i64 (x 5)] ∧ ∀ i, (Lit.int .i64 (x i)).wf = true := by
  obtain ⟨cs, rfl, hsz⟩ := okWide_arr under6 hv
  obtain ⟨c0, c1, c2, c3, c4, c5, rfl⟩ : ∃ c0 c1 c2 c3 c4 c5, cs = #[c0, c1, c2, c3, c4, c5] := by
    obtain ⟨l⟩ := cs
    have h2 : l.length = 6 := hsz.trans (by kernel_rfl)
    match l, h2 with
    | [c0, c1, c2, c3, c4, c5], _ => exact ⟨c0, c1, c2, c3, c4, c5, rfl⟩
  obtain ⟨fuel, hf⟩ := h
  obtain ⟨xs, m, _, _, _, hxl, hfs⟩ := DataW.trod_array under6 hf
  have k3 : Try.prog.cellsOf 3 = 1 := by kernel_rfl
  have so : ∀ {i : Nat} {x : Option (DataW H × List MemPlace)}, i < 6 → x = xs[i]? → ∃ y, x = some y := fun {i x} hi e => ⟨xs[i]'(by rw [hxl]; exact hi), e.trans (List.getElem?_eq_getElem _)⟩
  obtain ⟨y0, q0⟩ := so (by decide : 0 < 6) (hfs 0 (by decide))
  obtain ⟨x0, h0, _, w0⟩ := DataW.trod_int Try.underlying3 (show DataW.trod enc Try.prog w base spare held m 3 [c0] = some y0 from by simpa [Value.cells, k3] using q0)
  obtain ⟨y1, q1⟩ := so (by decide : 1 < 6) (hfs 1 (by decide))
  obtain ⟨x1, h1, _, w1⟩ := DataW.trod_int Try.underlying3 (show DataW.trod enc Try.prog w base spare held m 3 [c1] = some y1 from by simpa [Value.cells, k3] using q1)
  obtain ⟨y2, q2⟩ := so (by decide : 2 < 6) (hfs 2 (by decide))
  obtain ⟨x2, h2, _, w2⟩ := DataW.trod_int Try.underlying3 (show DataW.trod enc Try.prog w base spare held m 3 [c2] = some y2 from by simpa [Value.cells, k3] using q2)
  obtain ⟨y3, q3⟩ := so (by decide : 3 < 6) (hfs 3 (by decide))
  obtain ⟨x3, h3, _, w3⟩ := DataW.trod_int Try.underlying3 (show DataW.trod enc Try.prog w base spare held m 3 [c3] = some y3 from by simpa [Value.cells, k3] using q3)
  obtain ⟨y4, q4⟩ := so (by decide : 4 < 6) (hfs 4 (by decide))
  obtain ⟨x4, h4, _, w4⟩ := DataW.trod_int Try.underlying3 (show DataW.trod enc Try.prog w base spare held m 3 [c4] = some y4 from by simpa [Value.cells, k3] using q4)
  obtain ⟨y5, q5⟩ := so (by decide : 5 < 6) (hfs 5 (by decide))
  obtain ⟨x5, h5, _, w5⟩ := DataW.trod_int Try.underlying3 (show DataW.trod enc Try.prog w base spare held m 3 [c5] = some y5 from by simpa [Value.cells, k3] using q5)
  simp only [List.cons.injEq, and_true] at h0 h1 h2 h3 h4 h5
  subst h0 h1 h2 h3 h4 h5
  refine ⟨fun i => if i = 0 then x0 else if i = 1 then x1 else if i = 2 then x2 else if i = 3 then x3 else if i = 4 then x4 else if i = 5 then x5 else 0, rfl, fun i => ?_⟩
  dsimp only
  split
  · exact w0
  split
  · exact w1
  split
  · exact w2
  split
  · exact w3
  split
  · exact w4
  split
  · exact w5
  · decide
end
end Go.Proofs.Ytjkliandhcegeaa
