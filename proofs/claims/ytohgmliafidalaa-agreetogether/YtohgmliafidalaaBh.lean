/- Several texts of one's own in one: what each proves, and its conditions, is said ahead of it. -/
import Derived.Test.YtohgmliafidalaaBc
import Derived.Test.YtohgmliafidalaaBa
import Derived.Test.YtohgmliafidalaaBe

/- A row of packets that came in as an argument, opened: where its packets lie, and that their texts' lengths fit int; no conditions. -/
namespace Go.Proofs.Ytohgmliafidalaa
open Go.ChangeShapes Go.WideShapes Go.ChangeAt Go.RowKit
set_option linter.unusedVariables false

/-- Rows of packets whose Vec fits int. -/
def kPktz : Kind { q : Pkt // q.ve.size ≤ 9223372036854775807 } := ⟨6, fun q => pktC q.1, fun _ => rfl, by intro a u hu; simp [pktC] at hu; rcases hu with rfl | rfl | rfl | rfl | rfl | rfl <;> rfl, by decide⟩
theorem kPktz_flat (l : List { q : Pkt // q.ve.size ≤ 9223372036854775807 }) : kPktz.flat l = kPkt.flat (l.map Subtype.val) := by
  induction l with
  | nil => rfl
  | cons a l ih => simp only [Kind.flat, List.flatMap_cons, List.map_cons] at ih ⊢; rw [ih]; rfl
section
variable {H : Type} {enc : TypeId × Value → H} {w : World} {base : Nat} {spare : Nat → Bool} {held : Bool}
set_option maxRecDepth 100000 in
theorem dec_pktz (n : Nat) (cs : List Value) (y : DataW H × List MemPlace) (hl : cs.length = kPktz.k) (h : DataW.trod enc Try.prog w base spare held n 74 cs = some y) : ∃ a, cs = kPktz.enc a := by
  obtain ⟨c0, c1, c2, c3, c4, c5, rfl⟩ : ∃ c0 c1 c2 c3 c4 c5, cs = [c0, c1, c2, c3, c4, c5] := by
    have h2 : cs.length = 6 := hl
    match cs, h2 with
    | [c0, c1, c2, c3, c4, c5], _ => exact ⟨c0, c1, c2, c3, c4, c5, rfl⟩
  obtain ⟨xs, m, _, _, _, hxl, hfs⟩ := DataW.trod_struct Try.underlying74 h
  have k3 : Try.prog.cellsOf 3 = 1 := by kernel_rfl
  have k9 : Try.prog.cellsOf 9 = 1 := by kernel_rfl
  obtain ⟨y0, q0⟩ := some_of_lt hxl (by decide : 0 < 6) (hfs 0 _ rfl)
  obtain ⟨x0, h0, _, w0⟩ := DataW.trod_string Try.underlying9 (show DataW.trod enc Try.prog w base spare held m 9 [c0] = some y0 by simpa [Value.cells, k9] using q0)
  obtain ⟨y1, q1⟩ := some_of_lt hxl (by decide : 1 < 6) (hfs 1 _ rfl)
  obtain ⟨x1, h1, _, w1⟩ := DataW.trod_int Try.underlying3 (show DataW.trod enc Try.prog w base spare held m 3 [c1] = some y1 by simpa [Value.cells, k3] using q1)
  obtain ⟨y2, q2⟩ := some_of_lt hxl (by decide : 2 < 6) (hfs 2 _ rfl)
  obtain ⟨x2, h2, _, w2⟩ := DataW.trod_string Try.underlying9 (show DataW.trod enc Try.prog w base spare held m 9 [c2] = some y2 by simpa [Value.cells, k9] using q2)
  obtain ⟨y3, q3⟩ := some_of_lt hxl (by decide : 3 < 6) (hfs 3 _ rfl)
  obtain ⟨x3, h3, _, w3⟩ := DataW.trod_int Try.underlying3 (show DataW.trod enc Try.prog w base spare held m 3 [c3] = some y3 by simpa [Value.cells, k3] using q3)
  obtain ⟨y4, q4⟩ := some_of_lt hxl (by decide : 4 < 6) (hfs 4 _ rfl)
  obtain ⟨x4, h4, _, w4⟩ := DataW.trod_int Try.underlying3 (show DataW.trod enc Try.prog w base spare held m 3 [c4] = some y4 by simpa [Value.cells, k3] using q4)
  obtain ⟨y5, q5⟩ := some_of_lt hxl (by decide : 5 < 6) (hfs 5 _ rfl)
  obtain ⟨x5, h5, _, w5⟩ := DataW.trod_string Try.underlying9 (show DataW.trod enc Try.prog w base spare held m 9 [c5] = some y5 by simpa [Value.cells, k9] using q5)
  simp only [List.cons.injEq, and_true] at h0 h1 h2 h3 h4 h5
  subst h0 h1 h2 h3 h4 h5
  unfold maxLen at w0 w2 w5
  exact ⟨⟨⟨x0, x1, x2, x3, x4, x5⟩, w2⟩, rfl⟩
theorem pktz_out {ad : Option Addr} {cap : Nat} {es : List { q : Pkt // q.ve.size ≤ 9223372036854775807 }} (hl : es.length ≤ 9223372036854775807) (hE : kPktz.Lies w.heap.size w (.slice ad es.length cap) es) :
    (es.map Subtype.val).length ≤ 9223372036854775807 ∧ kPkt.Lies w.heap.size w (.slice ad (es.map Subtype.val).length cap) (es.map Subtype.val) ∧ ∀ q ∈ es.map Subtype.val, q.ve.size ≤ 9223372036854775807 := by
  refine ⟨by rw [List.length_map]; exact hl, ?_, ?_⟩
  · obtain ⟨ad', c, hv, h1, h2, h3, hc⟩ := hE
    refine ⟨ad', c, by rw [List.length_map]; exact hv, by rw [List.length_map]; exact h1, h2, h3, fun hj => ?_⟩
    rw [← kPktz_flat]
    exact hc (by simpa using hj)
  · intro t ht
    obtain ⟨q, _, rfl⟩ := List.mem_map.1 ht
    exact q.2
set_option maxRecDepth 100000 in
theorem open_pks {r : Reach} {b0 : Nat} {v : Value} {dt : DataW H} {ps : List MemPlace} (hv : Value.okWide Try.prog w r b0 42 v) (h : DataW.Trod enc Try.prog w base spare held 42 v dt ps) :
    ∃ (ad : Option Addr) (cap : Nat) (es : List Pkt), v = .slice ad es.length cap ∧ es.length ≤ 9223372036854775807 ∧ kPkt.Lies w.heap.size w (.slice ad es.length cap) es ∧ ∀ q ∈ es, q.ve.size ≤ 9223372036854775807 := by
  obtain ⟨ad, cap, es, rfl, hl, hE⟩ := kPktz.open_arg Try.underlying42 (by kernel_rfl) dec_pktz hv h
  obtain ⟨h1, h2, h3⟩ := pktz_out hl hE
  exact ⟨ad, cap, es.map Subtype.val, by rw [List.length_map], h1, h2, h3⟩
theorem rows_pks {c : Value} {fuel : Nat} {y : DataW H × List MemPlace} (h : DataW.trod enc Try.prog w base spare held fuel 42 [c] = some y) :
    ∃ (ad : Option Addr) (cap : Nat) (es : List Pkt), c = .slice ad es.length cap ∧ es.length ≤ 9223372036854775807 ∧ kPkt.Lies w.heap.size w (.slice ad es.length cap) es ∧ ∀ q ∈ es, q.ve.size ≤ 9223372036854775807 := by
  obtain ⟨ad, cap, es, rfl, hl, hE⟩ := kPktz.open_rows Try.underlying42 (by kernel_rfl) dec_pktz h
  obtain ⟨h1, h2, h3⟩ := pktz_out hl hE
  exact ⟨ad, cap, es.map Subtype.val, by rw [List.length_map], h1, h2, h3⟩
end
end Go.Proofs.Ytohgmliafidalaa
