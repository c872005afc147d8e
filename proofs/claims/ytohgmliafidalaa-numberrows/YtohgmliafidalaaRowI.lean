/- Rows of int that lie in memory: their cells, and such a row that came in as an argument; no conditions. -/
import Derived.Test.YtohgmliafidalaaRowOpen
namespace Go.Proofs.Ytohgmliafidalaa
open Go.ChangeShapes Go.WideShapes Go.ChangeAt Go.RowKit
set_option linter.unusedVariables false

/-- Rows of int. -/
def kInt : Kind Int := ⟨1, fun z => [.int .i64 z], fun _ => rfl, by intro a u hu; simp at hu; subst hu; rfl, by decide⟩
theorem kInt_flat (zs : List Int) : kInt.flat zs = zs.map (Value.int .i64) := by
  induction zs with
  | nil => rfl
  | cons a l ih => simp only [Kind.flat, List.flatMap_cons, List.map_cons] at ih ⊢; rw [ih]; rfl
theorem infoInt : (Try.prog.info? 3).map (fun i => (i.zero, i.size, i.bytes)) = some (some (.int .i64 0), 1, 8) := by kernel_rfl
theorem info_of {T : TypeId} {z : Value} {m b : Nat} (h : (Try.prog.info? T).map (fun i => (i.zero, i.size, i.bytes)) = some (some z, m, b)) : ∃ i, Try.prog.info? T = some i ∧ i.zero = some z ∧ i.size = m ∧ i.bytes = b := by
  cases hi : Try.prog.info? T with
  | none => rw [hi] at h; cases h
  | some i =>
    rw [hi] at h
    simp only [Option.map_some, Option.some.injEq, Prod.mk.injEq] at h
    exact ⟨i, rfl, h.1, h.2.1, h.2.2⟩
theorem kInt_at {n₀ : Nat} {W : World} {ad : Option Addr} {len cap : Nat} {zs : List Int} (h : kInt.Lies n₀ W (.slice ad len cap) zs) (j : Nat) (hj : j < zs.length) : ∃ b off : Nat, ad = some ⟨b, off, none⟩ ∧ b < n₀ ∧ W.cell? ⟨b, off + j, none⟩ = some (.int .i64 zs[j]) := by
  obtain ⟨b, off, he, hb, hc⟩ := h.at j hj
  refine ⟨b, off, he, hb, ?_⟩
  have := hc 0 (by decide)
  simpa [kInt] using this
section
variable {H : Type} {enc : TypeId × Value → H} {w : World} {base : Nat} {spare : Nat → Bool} {held : Bool}
theorem dec_int (n : Nat) (cs : List Value) (y : DataW H × List MemPlace) (hl : cs.length = kInt.k) (h : DataW.trod enc Try.prog w base spare held n 3 cs = some y) : ∃ a, cs = kInt.enc a := by
  obtain ⟨c0, rfl⟩ : ∃ c0, cs = [c0] := by
    have h2 : cs.length = 1 := hl
    match cs, h2 with
    | [c0], _ => exact ⟨c0, rfl⟩
  obtain ⟨x0, h0, _, w0⟩ := DataW.trod_int Try.underlying3 h
  exact ⟨x0, h0⟩
set_option maxRecDepth 100000 in
theorem open_kints {r : Reach} {b0 : Nat} {v : Value} {dt : DataW H} {ps : List MemPlace} (hv : Value.okWide Try.prog w r b0 22 v) (h : DataW.Trod enc Try.prog w base spare held 22 v dt ps) :
    ∃ (ad : Option Addr) (cap : Nat) (es : List Int), v = .slice ad es.length cap ∧ es.length ≤ 9223372036854775807 ∧ kInt.Lies w.heap.size w (.slice ad es.length cap) es :=
  kInt.open_arg Try.underlying22 (by kernel_rfl) dec_int hv h
end
end Go.Proofs.Ytohgmliafidalaa
