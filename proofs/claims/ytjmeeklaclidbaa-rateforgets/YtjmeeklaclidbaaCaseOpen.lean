/- A case of layer 7 and a row of numbers that came in as arguments, opened: where their numbers lie; no conditions. -/
import Derived.Test.YtjmeeklaclidbaaEntOpen
import Derived.Test.YtjmeeklaclidbaaLogC
namespace Go.Proofs.Ytjmeeklaclidbaa
open Go.ChangeShapes Go.WideShapes Go.ChangeAt Go.RowKit
set_option linter.unusedVariables false

theorem spot_of_cell {w : World} {a : Addr} {u : Value} (h : w.cell? a = some u) : a.spot = none := by
  cases hs : a.spot with
  | none => rfl
  | some q =>
    simp only [World.cell?] at h
    split at h <;> simp_all
section
variable {H : Type} {enc : TypeId × Value → H} {w : World} {base : Nat} {spare : Nat → Bool} {held : Bool}
theorem open_nums {r : Reach} {b0 : Nat} {v : Value} {dt : DataW H} {ps : List MemPlace} (hv : Value.okWide Try.prog w r b0 32 v) (h : DataW.Trod enc Try.prog w base spare held 32 v dt ps) :
    ∃ (ad : Option Addr) (cap : Nat) (zs : List Int), v = .slice ad zs.length cap ∧ zs.length ≤ 9223372036854775807 ∧ Nums w.heap.size w (.slice ad zs.length cap) zs ∧ (∀ z ∈ zs, (Lit.int .i64 z).wf = true) := by
  obtain ⟨x, y, c, rfl⟩ := okWide_slice Try.underlying32 hv
  obtain ⟨fu, hf⟩ := h
  rcases open_ints Try.underlying32 Try.underlying3 (by kernel_rfl) (by simpa [Value.cells] using hf) with ⟨hcs, _⟩ | ⟨a, len, cap, zs, hcs, _, hl, hm, hz, _, hcell, hw⟩
  · exact ⟨none, 0, [], by simpa using hcs, by simp, ⟨none, 0, rfl, Nat.le_refl _, Nat.zero_le _, fun j hj => absurd hj (Nat.not_lt_zero _)⟩, fun z hz => by cases hz⟩
  · have hle : len ≤ zs.length := by rw [hz]; split <;> omega
    have hlen : (zs.take len).length = len := by rw [List.length_take]; omega
    have hm' := hm
    unfold maxLen at hm'
    have hcc : Value.slice x y c = .slice (some a) len cap := by simpa using hcs
    refine ⟨some a, cap, zs.take len, by rw [hlen]; exact hcc, by omega, ⟨some a, cap, rfl, by omega, hm, fun i hi => ?_⟩, fun z hz => hw z (List.mem_of_mem_take hz)⟩
    rw [hlen] at hi
    have hi1 := hcell i (by omega)
    have hg : (zs.take len).getD i 0 = zs.getD i 0 := by simp [List.getD_eq_getElem?_getD, hi]
    have hsp : a.spot = none := spot_of_cell ((congrArg _ (show a.add 0 = a by simp [Addr.add])).symm.trans (hcell 0 (by omega)))
    obtain ⟨b, off, sp⟩ := a
    simp only at hsp
    subst hsp
    rw [add_plain] at hi1
    rw [hg]
    exact ⟨b, off, rfl, block_lt_of_cell hi1, hi1⟩
theorem open_case {r : Reach} {b0 : Nat} {v : Value} {dt : DataW H} {ps : List MemPlace} (hv : Value.okWide Try.prog w r b0 24 v) (h : DataW.Trod enc Try.prog w base spare held 24 v dt ps) :
    ∃ (ad : Option Addr) (cap : Nat) (es : List Note) (now width limit : Int), v = .agg #[.slice ad es.length cap, .int .i64 now, .int .i64 width, .int .i64 limit] ∧ es.length ≤ 9223372036854775807 ∧ Ents w.heap.size w (.slice ad es.length cap) es ∧
      (Lit.int .i64 now).wf = true ∧ (Lit.int .i64 width).wf = true ∧ (Lit.int .i64 limit).wf = true := by
  have hs := Try.underlying24
  obtain ⟨cs, rfl, hsz⟩ := okWide_struct hs hv
  obtain ⟨c0, c1, c2, c3, rfl⟩ : ∃ c0 c1 c2 c3, cs = #[c0, c1, c2, c3] := by
    obtain ⟨l⟩ := cs
    have h2 : l.length = 4 := hsz.trans (by kernel_rfl)
    match l, h2 with
    | [c0, c1, c2, c3], _ => exact ⟨c0, c1, c2, c3, rfl⟩
  obtain ⟨fuel, hf⟩ := h
  obtain ⟨xs, m, _, _, _, hxl, hfs⟩ := DataW.trod_struct hs hf
  have k3 : Try.prog.cellsOf 3 = 1 := by kernel_rfl
  have k22 : Try.prog.cellsOf 22 = 1 := by kernel_rfl
  have so : ∀ {i : Nat} {x : Option (DataW H × List MemPlace)}, i < 4 → x = xs[i]? → ∃ y, x = some y := fun {i x} hi e => ⟨xs[i]'(by rw [hxl]; exact hi), e.trans (List.getElem?_eq_getElem _)⟩
  obtain ⟨y0, q0⟩ := so (by decide : 0 < 4) (hfs 0 _ rfl)
  have z0 : DataW.trod enc Try.prog w base spare held m 22 [c0] = some y0 := by simpa [Value.cells, k22] using q0
  obtain ⟨ad, cap, es, h0, hl, hE⟩ := open_ents0 z0
  obtain ⟨y1, q1⟩ := so (by decide : 1 < 4) (hfs 1 _ rfl)
  have z1 : DataW.trod enc Try.prog w base spare held m 3 [c1] = some y1 := by simpa [Value.cells, k3] using q1
  obtain ⟨x1, h1, _, w1⟩ := DataW.trod_int Try.underlying3 z1
  obtain ⟨y2, q2⟩ := so (by decide : 2 < 4) (hfs 2 _ rfl)
  have z2 : DataW.trod enc Try.prog w base spare held m 3 [c2] = some y2 := by simpa [Value.cells, k3] using q2
  obtain ⟨x2, h2, _, w2⟩ := DataW.trod_int Try.underlying3 z2
  obtain ⟨y3, q3⟩ := so (by decide : 3 < 4) (hfs 3 _ rfl)
  have z3 : DataW.trod enc Try.prog w base spare held m 3 [c3] = some y3 := by simpa [Value.cells, k3] using q3
  obtain ⟨x3, h3, _, w3⟩ := DataW.trod_int Try.underlying3 z3
  simp only [List.cons.injEq, and_true] at h1 h2 h3
  subst h0 h1 h2 h3
  exact ⟨ad, cap, es, x1, x2, x3, rfl, hl, hE, w1, w2, w3⟩
end
end Go.Proofs.Ytjmeeklaclidbaa
