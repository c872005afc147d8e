/- A packet that came in as an argument, opened: its texts and numbers; no conditions. -/
import Derived.Test.YtcnmbpgjgjncdaaConfOpen
namespace Go.Proofs.Ytcnmbpgjgjncdaa
open Go.ChangeShapes Go.WideShapes Go.ChangeAt Go.RowKit
set_option linter.unusedVariables false

section
variable {H : Type} {enc : TypeId × Value → H} {w : World} {base : Nat} {spare : Nat → Bool} {held : Bool}
theorem open_packet {r : Reach} {b0 : Nat} {v : Value} {dt : DataW H} {pl : List MemPlace} (hv : Value.okWide Try.prog w r b0 26 v) (h : DataW.Trod enc Try.prog w base spare held 26 v dt pl) :
    ∃ (vo : ByteArray) (ex : Int) (ve : ByteArray) (ps cy : Int) (te : ByteArray), v = .agg #[.string vo, .int .i64 ex, .string ve, .int .i64 ps, .int .i64 cy, .string te] ∧ vo.size ≤ 9223372036854775807 ∧ (Lit.int .i64 ex).wf = true ∧ ve.size ≤ 9223372036854775807 ∧ (Lit.int .i64 ps).wf = true ∧ (Lit.int .i64 cy).wf = true ∧ te.size ≤ 9223372036854775807 := by
  have hs := Try.underlying26
  obtain ⟨cs, rfl, hsz⟩ := okWide_struct hs hv
  obtain ⟨c0, c1, c2, c3, c4, c5, rfl⟩ : ∃ c0 c1 c2 c3 c4 c5, cs = #[c0, c1, c2, c3, c4, c5] := by
    obtain ⟨l⟩ := cs
    have h2 : l.length = 6 := hsz.trans (by kernel_rfl)
    match l, h2 with
    | [c0, c1, c2, c3, c4, c5], _ => exact ⟨c0, c1, c2, c3, c4, c5, rfl⟩
  obtain ⟨fuel, hf⟩ := h
  obtain ⟨xs, m, _, _, _, hxl, hfs⟩ := DataW.trod_struct hs hf
  have k3 : Try.prog.cellsOf 3 = 1 := by kernel_rfl
  have k9 : Try.prog.cellsOf 9 = 1 := by kernel_rfl
  obtain ⟨y0, q0⟩ := some_of_lt hxl (by decide : 0 < 6) (hfs 0 _ rfl)
  obtain ⟨x0, h0, _, w0⟩ := DataW.trod_string Try.underlying9 (show DataW.trod enc Try.prog w base spare held m 9 [c0] = some y0 by simpa [Value.cells, k9] using q0)
  obtain ⟨y1, q1⟩ := some_of_lt hxl (by decide : 1 < 6) (hfs 1 _ rfl)
  obtain ⟨x1, h1, _, w1⟩ := DataW.trod_int Try.underlying3 (show DataW.trod enc Try.prog w base spare held m 3 [c1] = some y1 by simpa [Value.cells, k3] using q1)
  obtain ⟨y2, q2⟩ := some_of_lt hxl (by decide : 2 < 6) (hfs 2 _ rfl)
  obtain ⟨x2, h2, _, w2⟩ := DataW.trod_string Try.underlying9 (show DataW.trod enc Try.prog w base spare held m 9 [c2] = some y2 by simpa [Value.cells, k9] using q2)
  obtain ⟨y3, q3⟩ := some_of_lt hxl (by decide : 3 < 6) (hfs 3 _ rfl)
  obtain ⟨x3, h3, _, w3⟩ := DataW.trod_int Try.underlying3 (show DataW.trod enc Try.prog w base spare held m 3 [c3] = some y3 by simpa [Value.cells, k3] using q3)
  obtain ⟨y4, q4⟩ := some_of_lt hxl (by decide : 4 < 6) (hfs 4 _ rfl)
  obtain ⟨x4, h4, _, w4⟩ := DataW.trod_int Try.underlying3 (show DataW.trod enc Try.prog w base spare held m 3 [c4] = some y4 by simpa [Value.cells, k3] using q4)
  obtain ⟨y5, q5⟩ := some_of_lt hxl (by decide : 5 < 6) (hfs 5 _ rfl)
  obtain ⟨x5, h5, _, w5⟩ := DataW.trod_string Try.underlying9 (show DataW.trod enc Try.prog w base spare held m 9 [c5] = some y5 by simpa [Value.cells, k9] using q5)
  simp only [List.cons.injEq, and_true] at h0 h1 h2 h3 h4 h5
  subst h0 h1 h2 h3 h4 h5
  unfold maxLen at w0 w2 w5
  exact ⟨x0, x1, x2, x3, x4, x5, rfl, w0, w1, w2, w3, w4, w5⟩
end
end Go.Proofs.Ytcnmbpgjgjncdaa
