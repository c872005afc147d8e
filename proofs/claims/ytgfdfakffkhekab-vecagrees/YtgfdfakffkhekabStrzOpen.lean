/- A row of texts that came in as an argument, opened: where its texts lie, and that their lengths fit int; no conditions. -/
import Derived.Test.YtgfdfakffkhekabRowOpen
import Derived.Test.YtgfdfakffkhekabHoldS
import Derived.Test.YtgfdfakffkhekabConfOpen
namespace Go.Proofs.Ytgfdfakffkhekab
open Go.ChangeShapes Go.WideShapes Go.ChangeAt Go.RowKit
set_option linter.unusedVariables false

/-- Rows of texts whose lengths fit int. -/
def kStrz : Kind { s : ByteArray // s.size ≤ 9223372036854775807 } := ⟨1, fun s => [.string s.1], fun _ => rfl, by intro a u hu; simp at hu; subst hu; rfl, by decide⟩
theorem kStrz_flat (l : List { s : ByteArray // s.size ≤ 9223372036854775807 }) : kStrz.flat l = kStr.flat (l.map Subtype.val) := by
  induction l with
  | nil => rfl
  | cons a l ih => simp only [Kind.flat, List.flatMap_cons, List.map_cons] at ih ⊢; rw [ih]; rfl
section
variable {H : Type} {enc : TypeId × Value → H} {w : World} {base : Nat} {spare : Nat → Bool} {held : Bool}
theorem dec_strz (n : Nat) (cs : List Value) (y : DataW H × List MemPlace) (hl : cs.length = kStrz.k) (h : DataW.trod enc Try.prog w base spare held n 9 cs = some y) : ∃ a, cs = kStrz.enc a := by
  obtain ⟨c0, rfl⟩ : ∃ c0, cs = [c0] := by
    have h2 : cs.length = 1 := hl
    match cs, h2 with
    | [c0], _ => exact ⟨c0, rfl⟩
  obtain ⟨x0, h0, _, w0⟩ := DataW.trod_string Try.underlying9 h
  unfold maxLen at w0
  exact ⟨⟨x0, w0⟩, h0⟩
theorem open_strz {r : Reach} {b0 : Nat} {v : Value} {dt : DataW H} {ps : List MemPlace} (hv : Value.okWide Try.prog w r b0 25 v) (h : DataW.Trod enc Try.prog w base spare held 25 v dt ps) :
    ∃ (ad : Option Addr) (cap : Nat) (es : List ByteArray), v = .slice ad es.length cap ∧ es.length ≤ 9223372036854775807 ∧ kStr.Lies w.heap.size w (.slice ad es.length cap) es ∧ ∀ t ∈ es, t.size ≤ 9223372036854775807 := by
  obtain ⟨ad, cap, es, rfl, hl, hE⟩ := kStrz.open_arg Try.underlying25 (by kernel_rfl) dec_strz hv h
  refine ⟨ad, cap, es.map Subtype.val, by rw [List.length_map], by rw [List.length_map]; exact hl, ?_, ?_⟩
  · obtain ⟨ad', c, hv, h1, h2, h3, hc⟩ := hE
    refine ⟨ad', c, by rw [List.length_map]; exact hv, by rw [List.length_map]; exact h1, h2, h3, fun hj => ?_⟩
    rw [← kStrz_flat]
    exact hc (by simpa using hj)
  · intro t ht
    obtain ⟨q, _, rfl⟩ := List.mem_map.1 ht
    exact q.2
end
end Go.Proofs.Ytgfdfakffkhekab
