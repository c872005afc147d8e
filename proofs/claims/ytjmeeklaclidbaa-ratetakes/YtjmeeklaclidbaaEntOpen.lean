/- A row of notes and a note that came in as arguments, opened: where their numbers lie; no conditions. -/
import Derived.Test.YtjmeeklaclidbaaLogM
import Derived.Deep.SlicePairs
namespace Go.Proofs.Ytjmeeklaclidbaa
open Go.ChangeShapes Go.WideShapes Go.ChangeAt Go.RowKit
set_option linter.unusedVariables false

section
variable {H : Type} {enc : TypeId × Value → H} {w : World} {base : Nat} {spare : Nat → Bool} {held : Bool}
theorem open_ents0 {fuel : Nat} {v : Value} {x : DataW H × List MemPlace} (hf : DataW.trod enc Try.prog w base spare held fuel 22 [v] = some x) :
    ∃ (ad : Option Addr) (cap : Nat) (es : List Note), v = .slice ad es.length cap ∧ es.length ≤ 9223372036854775807 ∧ Ents w.heap.size w (.slice ad es.length cap) es := by
  rcases Deep.open_slice_pairs Try.underlying22 Try.underlying54 (by kernel_rfl) rfl rfl (by kernel_rfl) (by kernel_rfl) hf with ⟨hcs, _⟩ | ⟨a, len, cap, m, n, V0, V1, D0, D1, P0, P1, hcs, _, hl, hm, hmm, _, hcell⟩
  · exact ⟨none, 0, [], by simpa using hcs, by simp, Ents.nil _ _⟩
  · have hlm : len ≤ m := by rw [hmm]; split <;> omega
    have each : ∀ i, i < len → ∃ e : Note, V0 i = .int .i64 e.1.1 ∧ V1 i = .int .i64 e.1.2 := by
      intro i hi
      obtain ⟨_, _, t0, t1⟩ := hcell i (by omega)
      obtain ⟨x0, h0, _, w0⟩ := DataW.trod_int Try.underlying3 t0
      obtain ⟨x1, h1, _, w1⟩ := DataW.trod_int Try.underlying3 t1
      exact ⟨⟨(x0, x1), w0, w1⟩, by simpa using h0, by simpa using h1⟩
    have pick : ∀ i, ∃ e : Note, i < len → V0 i = .int .i64 e.1.1 ∧ V1 i = .int .i64 e.1.2 := fun i => by
      by_cases hi : i < len
      · obtain ⟨e, he⟩ := each i hi; exact ⟨e, fun _ => he⟩
      · exact ⟨note0, fun h => absurd h hi⟩
    obtain ⟨f, hf⟩ := Classical.axiomOfChoice pick
    have hlen : ((List.range len).map f).length = len := by simp
    have hv' : v = .slice (some a) len cap := by simpa using hcs
    refine ⟨some a, cap, (List.range len).map f, by rw [hlen]; exact hv', by rw [hlen]; unfold maxLen at hm; omega, some a, cap, rfl, by rw [hlen]; exact hl, hm, fun h => (by cases h), fun j hj => ?_⟩
    rw [hlen] at hj
    obtain ⟨c0, c1, _, _⟩ := hcell j (by omega)
    obtain ⟨e0, e1⟩ := hf j hj
    have hg : ((List.range len).map f).getD j note0 = f j := by simp [hj]
    have hsp : a.spot = none := by
      obtain ⟨d0, _⟩ := hcell 0 (by omega)
      have d0' : w.cell? a = some (V0 0) := by simpa [Addr.add] using d0
      cases hs : a.spot with
      | none => rfl
      | some q =>
        simp only [World.cell?] at d0'
        split at d0' <;> simp_all
    obtain ⟨b, off, sp⟩ := a
    simp only at hsp
    subst hsp
    rw [add_plain] at c0 c1
    rw [hg]
    exact ⟨b, off, rfl, block_lt_of_cell c0, by rw [c0, e0], by rw [← e1, ← c1, Nat.add_assoc]⟩
theorem open_ents {r : Reach} {b0 : Nat} {v : Value} {dt : DataW H} {ps : List MemPlace} (hv : Value.okWide Try.prog w r b0 22 v) (h : DataW.Trod enc Try.prog w base spare held 22 v dt ps) :
    ∃ (ad : Option Addr) (cap : Nat) (es : List Note), v = .slice ad es.length cap ∧ es.length ≤ 9223372036854775807 ∧ Ents w.heap.size w (.slice ad es.length cap) es := by
  obtain ⟨x, y, c, rfl⟩ := okWide_slice Try.underlying22 hv
  obtain ⟨fu, hf⟩ := h
  exact open_ents0 (by simpa [Value.cells] using hf)
theorem open_ent {r : Reach} {b0 : Nat} {v : Value} {dt : DataW H} {ps : List MemPlace} (hv : Value.okWide Try.prog w r b0 54 v) (h : DataW.Trod enc Try.prog w base spare held 54 v dt ps) :
    ∃ e : Note, v = agg2 e := by
  have hs := Try.underlying54
  obtain ⟨cs, rfl, hsz⟩ := okWide_struct hs hv
  obtain ⟨c0, c1, rfl⟩ : ∃ c0 c1, cs = #[c0, c1] := by
    obtain ⟨l⟩ := cs
    have h2 : l.length = 2 := hsz.trans (by kernel_rfl)
    match l, h2 with
    | [c0, c1], _ => exact ⟨c0, c1, rfl⟩
  obtain ⟨fuel, hf⟩ := h
  obtain ⟨xs, m, _, _, _, hxl, hfs⟩ := DataW.trod_struct hs hf
  have k3 : Try.prog.cellsOf 3 = 1 := by kernel_rfl
  have so : ∀ {i : Nat} {x : Option (DataW H × List MemPlace)}, i < 2 → x = xs[i]? → ∃ y, x = some y := fun {i x} hi e => ⟨xs[i]'(by rw [hxl]; exact hi), e.trans (List.getElem?_eq_getElem _)⟩
  obtain ⟨y0, q0⟩ := so (by decide : 0 < 2) (hfs 0 _ rfl)
  have z0 : DataW.trod enc Try.prog w base spare held m 3 [c0] = some y0 := by simpa [Value.cells, k3] using q0
  obtain ⟨x0, h0, _, w0⟩ := DataW.trod_int Try.underlying3 z0
  obtain ⟨y1, q1⟩ := so (by decide : 1 < 2) (hfs 1 _ rfl)
  have z1 : DataW.trod enc Try.prog w base spare held m 3 [c1] = some y1 := by simpa [Value.cells, k3] using q1
  obtain ⟨x1, h1, _, w1⟩ := DataW.trod_int Try.underlying3 z1
  simp only [List.cons.injEq, and_true] at h0 h1
  subst h0 h1
  exact ⟨⟨(x0, x1), w0, w1⟩, rfl⟩
end
end Go.Proofs.Ytjmeeklaclidbaa
