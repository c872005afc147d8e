/- A row of texts and a frame that came in as arguments, opened: where their texts lie, and their numbers; no conditions. -/
import Derived.Test.YtcnmbpgjgjncdaaRowOpen
import Derived.Test.YtcnmbpgjgjncdaaHoldS
import Derived.Test.YtcnmbpgjgjncdaaConfOpen
namespace Go.Proofs.Ytcnmbpgjgjncdaa
open Go.ChangeShapes Go.WideShapes Go.ChangeAt Go.RowKit
set_option linter.unusedVariables false

section
variable {H : Type} {enc : TypeId × Value → H} {w : World} {base : Nat} {spare : Nat → Bool} {held : Bool}
theorem dec_str (n : Nat) (cs : List Value) (y : DataW H × List MemPlace) (hl : cs.length = kStr.k) (h : DataW.trod enc Try.prog w base spare held n 9 cs = some y) : ∃ a, cs = kStr.enc a := by
  obtain ⟨c0, rfl⟩ : ∃ c0, cs = [c0] := by
    have h2 : cs.length = 1 := hl
    match cs, h2 with
    | [c0], _ => exact ⟨c0, rfl⟩
  obtain ⟨x0, h0, _, w0⟩ := DataW.trod_string Try.underlying9 h
  exact ⟨x0, h0⟩
theorem open_strs {r : Reach} {b0 : Nat} {v : Value} {dt : DataW H} {ps : List MemPlace} (hv : Value.okWide Try.prog w r b0 39 v) (h : DataW.Trod enc Try.prog w base spare held 39 v dt ps) :
    ∃ (ad : Option Addr) (cap : Nat) (es : List ByteArray), v = .slice ad es.length cap ∧ es.length ≤ 9223372036854775807 ∧ kStr.Lies w.heap.size w (.slice ad es.length cap) es :=
  kStr.open_arg Try.underlying39 (by kernel_rfl) dec_str hv h
theorem open_frame {r : Reach} {b0 : Nat} {v : Value} {dt : DataW H} {pl : List MemPlace} (hv : Value.okWide Try.prog w r b0 41 v) (h : DataW.Trod enc Try.prog w base spare held 41 v dt pl) :
    ∃ (fm ag : Int) (s : ByteArray), v = .agg #[.int .i64 fm, .int .i64 ag, .string s] ∧ (Lit.int .i64 fm).wf = true ∧ (Lit.int .i64 ag).wf = true ∧ s.size ≤ 9223372036854775807 := by
  have hs := Try.underlying41
  obtain ⟨cs, rfl, hsz⟩ := okWide_struct hs hv
  obtain ⟨c0, c1, c2, rfl⟩ : ∃ c0 c1 c2, cs = #[c0, c1, c2] := by
    obtain ⟨l⟩ := cs
    have h2 : l.length = 3 := hsz.trans (by kernel_rfl)
    match l, h2 with
    | [c0, c1, c2], _ => exact ⟨c0, c1, c2, rfl⟩
  obtain ⟨fuel, hf⟩ := h
  obtain ⟨xs, m, _, _, _, hxl, hfs⟩ := DataW.trod_struct hs hf
  have k3 : Try.prog.cellsOf 3 = 1 := by kernel_rfl
  have k9 : Try.prog.cellsOf 9 = 1 := by kernel_rfl
  obtain ⟨y0, q0⟩ := some_of_lt hxl (by decide : 0 < 3) (hfs 0 _ rfl)
  obtain ⟨x0, h0, _, w0⟩ := DataW.trod_int Try.underlying3 (show DataW.trod enc Try.prog w base spare held m 3 [c0] = some y0 by simpa [Value.cells, k3] using q0)
  obtain ⟨y1, q1⟩ := some_of_lt hxl (by decide : 1 < 3) (hfs 1 _ rfl)
  obtain ⟨x1, h1, _, w1⟩ := DataW.trod_int Try.underlying3 (show DataW.trod enc Try.prog w base spare held m 3 [c1] = some y1 by simpa [Value.cells, k3] using q1)
  obtain ⟨y2, q2⟩ := some_of_lt hxl (by decide : 2 < 3) (hfs 2 _ rfl)
  obtain ⟨x2, h2, _, w2⟩ := DataW.trod_string Try.underlying9 (show DataW.trod enc Try.prog w base spare held m 9 [c2] = some y2 by simpa [Value.cells, k9] using q2)
  simp only [List.cons.injEq, and_true] at h0 h1 h2
  subst h0 h1 h2
  unfold maxLen at w2
  exact ⟨x0, x1, x2, rfl, w0, w1, w2⟩
end
end Go.Proofs.Ytcnmbpgjgjncdaa
