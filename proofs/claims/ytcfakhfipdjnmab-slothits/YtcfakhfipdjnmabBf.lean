/- Several texts of one's own in one: what each proves, and its conditions, is said ahead of it. -/
import Derived.Test.YtcfakhfipdjnmabBa

/- Two clocks of layer 22 that came in as an argument, opened: where they stood, the rows of units, where they lie, and that they fit int; no conditions. -/
namespace Go.Proofs.Ytcfakhfipdjnmab
open Go.ChangeShapes Go.WideShapes Go.ChangeAt Go.RowKit
set_option linter.unusedVariables false

section
variable {H : Type} {enc : TypeId × Value → H} {w : World} {base : Nat} {spare : Nat → Bool} {held : Bool}
set_option maxRecDepth 100000 in
theorem open_pair {r : Reach} {b0 : Nat} {v : Value} {dt : DataW H} {ps : List MemPlace} (hv : Value.okWide Try.prog w r b0 35 v) (h : DataW.Trod enc Try.prog w base spare held 35 v dt ps) :
    ∃ (a b : Int) (a1 : Option Addr) (c1 : Nat) (l1 : List Int) (a2 : Option Addr) (c2 : Nat) (l2 : List Int),
      v = .agg #[.int .i64 a, .int .i64 b, .slice a1 l1.length c1, .slice a2 l2.length c2] ∧ (-9223372036854775808 ≤ a ∧ a ≤ 9223372036854775807) ∧ (-9223372036854775808 ≤ b ∧ b ≤ 9223372036854775807) ∧
      (l1.length ≤ 9223372036854775807 ∧ Tab w a1 l1) ∧ (l2.length ≤ 9223372036854775807 ∧ Tab w a2 l2) := by
  have hs := Try.underlying35
  obtain ⟨cs, rfl, hsz⟩ := okWide_struct hs hv
  obtain ⟨c0, c1, c2, c3, rfl⟩ : ∃ c0 c1 c2 c3, cs = #[c0, c1, c2, c3] := by
    obtain ⟨l⟩ := cs
    have h2 : l.length = 4 := hsz.trans (by kernel_rfl)
    match l, h2 with
    | [c0, c1, c2, c3], _ => exact ⟨c0, c1, c2, c3, rfl⟩
  obtain ⟨fuel, hf⟩ := h
  obtain ⟨xs, m, _, _, _, hxl, hfs⟩ := DataW.trod_struct hs hf
  have k3 : Try.prog.cellsOf 3 = 1 := by kernel_rfl
  have k22 : Try.prog.cellsOf 22 = 1 := by kernel_rfl
  obtain ⟨y0, q0⟩ := some_of_lt hxl (by decide : 0 < 4) (hfs 0 _ rfl)
  have z0 : DataW.trod enc Try.prog w base spare held m 3 [c0] = some y0 := by simpa [Value.cells, k3] using q0
  obtain ⟨x0, h0, _, w0⟩ := DataW.trod_int Try.underlying3 z0
  obtain ⟨y1, q1⟩ := some_of_lt hxl (by decide : 1 < 4) (hfs 1 _ rfl)
  have z1 : DataW.trod enc Try.prog w base spare held m 3 [c1] = some y1 := by simpa [Value.cells, k3] using q1
  obtain ⟨x1, h1, _, w1⟩ := DataW.trod_int Try.underlying3 z1
  obtain ⟨y2, q2⟩ := some_of_lt hxl (by decide : 2 < 4) (hfs 2 _ rfl)
  have z2 : DataW.trod enc Try.prog w base spare held m 22 [c2] = some y2 := by simpa [Value.cells, k3, k22] using q2
  obtain ⟨a1, d1, l1, h2, hl1, hT1, _⟩ := open_row z2
  obtain ⟨y3, q3⟩ := some_of_lt hxl (by decide : 3 < 4) (hfs 3 _ rfl)
  have z3 : DataW.trod enc Try.prog w base spare held m 22 [c3] = some y3 := by simpa [Value.cells, k3, k22] using q3
  obtain ⟨a2, d2, l2, h3, hl2, hT2, _⟩ := open_row z3
  simp only [List.cons.injEq, and_true] at h0 h1 h2 h3
  subst h0 h1 h2 h3
  exact ⟨x0, x1, a1, d1, l1, a2, d2, l2, rfl, bd64 w0, bd64 w1, ⟨hl1, hT1⟩, ⟨hl2, hT2⟩⟩
end
end Go.Proofs.Ytcfakhfipdjnmab
