/- Several texts of one's own in one: what each proves, and its conditions, is said ahead of it. -/
import Derived.Test.YtohgmliafidalaaBc
import Derived.Test.YtohgmliafidalaaBd
import Derived.Test.YtohgmliafidalaaBa
import Derived.Lib.LazyBuf
import Derived.Lib.BufferMore
import Derived.Laws.IdiomCopy
import Derived.Test.YtohgmliafidalaaRep
import Derived.Test.YtohgmliafidalaaBe
import Derived.Test.YtohgmliafidalaaBg
import Derived.Test.YtohgmliafidalaaBf
import Derived.RangeFuncNested
import Derived.RangeFuncBound
import Derived.RangeFuncCalls
import Derived.RangeFuncLeaves
import Derived.Shelf.Abstract
import Derived.Shelf.RegionOpen
import Derived.OwnWalkIn
import Derived.TacticsInMore
import Derived.LoopNIn
import Derived.LoopIn
import Derived.Deep.RegionHeld3

/- A row of texts that came in as an argument, opened: where its texts lie, and that their lengths fit int; no conditions. -/
namespace Go.Proofs.Ytohgmliafidalaa
open Go.ChangeShapes Go.WideShapes Go.ChangeAt Go.RowKit
set_option linter.unusedVariables false

/-- Rows of texts whose lengths fit int. -/
def kStrz : Kind { s : ByteArray // s.size ≤ 9223372036854775807 } := ⟨1, fun s => [.string s.1], fun _ => rfl, by intro a u hu; simp at hu; subst hu; rfl, by decide⟩
theorem kStrz_flat (l : List { s : ByteArray // s.size ≤ 9223372036854775807 }) : kStrz.flat l = kStr.flat (l.map Subtype.val) := by
  induction l with
  | nil => rfl
  | cons a l ih => simp only [Kind.flat, List.flatMap_cons, List.map_cons] at ih ⊢; rw [ih]; rfl
section
variable {H : Type} {enc : TypeId × Value → H} {w : World} {base : Nat} {spare : Nat → Bool} {held : Bool}
theorem dec_strz (n : Nat) (cs : List Value) (y : DataW H × List MemPlace) (hl : cs.length = kStrz.k) (h : DataW.trod enc Try.prog w base spare held n 9 cs = some y) : ∃ a, cs = kStrz.enc a := by
  obtain ⟨c0, rfl⟩ : ∃ c0, cs = [c0] := by
    have h2 : cs.length = 1 := hl
    match cs, h2 with
    | [c0], _ => exact ⟨c0, rfl⟩
  obtain ⟨x0, h0, _, w0⟩ := DataW.trod_string Try.underlying9 h
  unfold maxLen at w0
  exact ⟨⟨x0, w0⟩, h0⟩
set_option maxRecDepth 100000 in
theorem open_strz {r : Reach} {b0 : Nat} {v : Value} {dt : DataW H} {ps : List MemPlace} (hv : Value.okWide Try.prog w r b0 25 v) (h : DataW.Trod enc Try.prog w base spare held 25 v dt ps) :
    ∃ (ad : Option Addr) (cap : Nat) (es : List ByteArray), v = .slice ad es.length cap ∧ es.length ≤ 9223372036854775807 ∧ kStr.Lies w.heap.size w (.slice ad es.length cap) es ∧ ∀ t ∈ es, t.size ≤ 9223372036854775807 := by
  obtain ⟨ad, cap, es, rfl, hl, hE⟩ := kStrz.open_arg Try.underlying25 (by kernel_rfl) dec_strz hv h
  refine ⟨ad, cap, es.map Subtype.val, by rw [List.length_map], by rw [List.length_map]; exact hl, ?_, ?_⟩
  · obtain ⟨ad', c, hv, h1, h2, h3, hc⟩ := hE
    refine ⟨ad', c, by rw [List.length_map]; exact hv, by rw [List.length_map]; exact h1, h2, h3, fun hj => ?_⟩
    rw [← kStrz_flat]
    exact hc (by simpa using hj)
  · intro t ht
    obtain ⟨q, _, rfl⟩ := List.mem_map.1 ht
    exact q.2
end
end Go.Proofs.Ytohgmliafidalaa

/- A cluster that came in as an argument, opened: a configuration, rows of texts and of numbers, where they lie, and that they fit int; no conditions. -/
namespace Go.Proofs.Ytohgmliafidalaa
open Go.ChangeShapes Go.WideShapes Go.ChangeAt Go.RowKit
set_option linter.unusedVariables false

/-- Rows of numbers that fit int. -/
def kIntz : Kind { z : Int // -9223372036854775808 ≤ z ∧ z ≤ 9223372036854775807 } := ⟨1, fun z => [.int .i64 z.1], fun _ => rfl, by intro a u hu; simp at hu; subst hu; rfl, by decide⟩
theorem kIntz_flat (l : List { z : Int // -9223372036854775808 ≤ z ∧ z ≤ 9223372036854775807 }) : kIntz.flat l = kInt.flat (l.map Subtype.val) := by
  induction l with
  | nil => rfl
  | cons a l ih => simp only [Kind.flat, List.flatMap_cons, List.map_cons] at ih ⊢; rw [ih]; rfl
section
variable {H : Type} {enc : TypeId × Value → H} {w : World} {base : Nat} {spare : Nat → Bool} {held : Bool}
theorem dec_intz (n : Nat) (cs : List Value) (y : DataW H × List MemPlace) (hl : cs.length = kIntz.k) (h : DataW.trod enc Try.prog w base spare held n 3 cs = some y) : ∃ a, cs = kIntz.enc a := by
  obtain ⟨c0, rfl⟩ : ∃ c0, cs = [c0] := by
    have h2 : cs.length = 1 := hl
    match cs, h2 with
    | [c0], _ => exact ⟨c0, rfl⟩
  obtain ⟨x0, h0, _, w0⟩ := DataW.trod_int Try.underlying3 h
  exact ⟨⟨x0, bd64 w0⟩, h0⟩
theorem rows_strz {c : Value} {fuel : Nat} {y : DataW H × List MemPlace} (h : DataW.trod enc Try.prog w base spare held fuel 25 [c] = some y) :
    ∃ (ad : Option Addr) (cap : Nat) (es : List ByteArray), c = .slice ad es.length cap ∧ es.length ≤ 9223372036854775807 ∧ kStr.Lies w.heap.size w (.slice ad es.length cap) es ∧ ∀ t ∈ es, t.size ≤ 9223372036854775807 := by
  obtain ⟨ad, cap, es, rfl, hl, hE⟩ := kStrz.open_rows Try.underlying25 (by kernel_rfl) dec_strz h
  refine ⟨ad, cap, es.map Subtype.val, by rw [List.length_map], by rw [List.length_map]; exact hl, ?_, ?_⟩
  · obtain ⟨ad', c, hv, h1, h2, h3, hc⟩ := hE
    refine ⟨ad', c, by rw [List.length_map]; exact hv, by rw [List.length_map]; exact h1, h2, h3, fun hj => ?_⟩
    rw [← kStrz_flat]
    exact hc (by simpa using hj)
  · intro t ht
    obtain ⟨q, _, rfl⟩ := List.mem_map.1 ht
    exact q.2
theorem rows_intz {c : Value} {fuel : Nat} {y : DataW H × List MemPlace} (h : DataW.trod enc Try.prog w base spare held fuel 22 [c] = some y) :
    ∃ (ad : Option Addr) (cap : Nat) (es : List Int), c = .slice ad es.length cap ∧ es.length ≤ 9223372036854775807 ∧ kInt.Lies w.heap.size w (.slice ad es.length cap) es ∧ ∀ z ∈ es, -9223372036854775808 ≤ z ∧ z ≤ 9223372036854775807 := by
  obtain ⟨ad, cap, es, rfl, hl, hE⟩ := kIntz.open_rows Try.underlying22 (by kernel_rfl) dec_intz h
  refine ⟨ad, cap, es.map Subtype.val, by rw [List.length_map], by rw [List.length_map]; exact hl, ?_, ?_⟩
  · obtain ⟨ad', c, hv, h1, h2, h3, hc⟩ := hE
    refine ⟨ad', c, by rw [List.length_map]; exact hv, by rw [List.length_map]; exact h1, h2, h3, fun hj => ?_⟩
    rw [← kIntz_flat]
    exact hc (by simpa using hj)
  · intro t ht
    obtain ⟨q, _, rfl⟩ := List.mem_map.1 ht
    exact q.2
theorem array15 {α : Type} {cs : Array α} (h : cs.size = 15) : ∃ c0 c1 c2 c3 c4 c5 c6 c7 c8 c9 c10 c11 c12 c13 c14, cs = #[c0, c1, c2, c3, c4, c5, c6, c7, c8, c9, c10, c11, c12, c13, c14] := by
  obtain ⟨l⟩ := cs
  match l, h with
  | [c0, c1, c2, c3, c4, c5, c6, c7, c8, c9, c10, c11, c12, c13, c14], _ => exact ⟨c0, c1, c2, c3, c4, c5, c6, c7, c8, c9, c10, c11, c12, c13, c14, rfl⟩
set_option maxRecDepth 100000 in
/-- A configuration among the cells of a struct. -/
theorem conf_cells {fuel : Nat} {c0 c1 c2 c3 c4 c5 c6 c7 c8 c9 c10 : Value} {y : DataW H × List MemPlace} (h : DataW.trod enc Try.prog w base spare held fuel 24 [c0, c1, c2, c3, c4, c5, c6, c7, c8, c9, c10] = some y) :
    ∃ (n f d p r dr o sl md fr : Int) (ad : Option Addr) (cap : Nat) (zs : List Int), [c0, c1, c2, c3, c4, c5, c6, c7, c8, c9, c10] = [.int .i64 n, .int .i64 f, .int .i64 d, .int .i64 p, .int .i64 r, .int .i64 dr, .int .i64 o, .int .i64 sl, .int .i64 md, .int .i64 fr, .slice ad zs.length cap] ∧ zs.length ≤ 9223372036854775807 ∧ Tab w ad zs := by
  have hs := Try.underlying24
  obtain ⟨xs, m, _, _, _, hxl, hfs⟩ := DataW.trod_struct hs h
  have k3 : Try.prog.cellsOf 3 = 1 := by kernel_rfl
  have k22 : Try.prog.cellsOf 22 = 1 := by kernel_rfl
  obtain ⟨y0, q0⟩ := some_of_lt hxl (by decide : 0 < 11) (hfs 0 _ rfl)
  have z0 : DataW.trod enc Try.prog w base spare held m 3 [c0] = some y0 := by simpa [Value.cells, k3] using q0
  obtain ⟨x0, h0, _⟩ := DataW.trod_int Try.underlying3 z0
  simp only [List.cons.injEq, and_true] at h0
  subst h0
  obtain ⟨y1, q1⟩ := some_of_lt hxl (by decide : 1 < 11) (hfs 1 _ rfl)
  have z1 : DataW.trod enc Try.prog w base spare held m 3 [c1] = some y1 := by simpa [Value.cells, k3] using q1
  obtain ⟨x1, h1, _⟩ := DataW.trod_int Try.underlying3 z1
  simp only [List.cons.injEq, and_true] at h1
  subst h1
  obtain ⟨y2, q2⟩ := some_of_lt hxl (by decide : 2 < 11) (hfs 2 _ rfl)
  have z2 : DataW.trod enc Try.prog w base spare held m 3 [c2] = some y2 := by simpa [Value.cells, k3] using q2
  obtain ⟨x2, h2, _⟩ := DataW.trod_int Try.underlying3 z2
  simp only [List.cons.injEq, and_true] at h2
  subst h2
  obtain ⟨y3, q3⟩ := some_of_lt hxl (by decide : 3 < 11) (hfs 3 _ rfl)
  have z3 : DataW.trod enc Try.prog w base spare held m 3 [c3] = some y3 := by simpa [Value.cells, k3] using q3
  obtain ⟨x3, h3, _⟩ := DataW.trod_int Try.underlying3 z3
  simp only [List.cons.injEq, and_true] at h3
  subst h3
  obtain ⟨y4, q4⟩ := some_of_lt hxl (by decide : 4 < 11) (hfs 4 _ rfl)
  have z4 : DataW.trod enc Try.prog w base spare held m 3 [c4] = some y4 := by simpa [Value.cells, k3] using q4
  obtain ⟨x4, h4, _⟩ := DataW.trod_int Try.underlying3 z4
  simp only [List.cons.injEq, and_true] at h4
  subst h4
  obtain ⟨y5, q5⟩ := some_of_lt hxl (by decide : 5 < 11) (hfs 5 _ rfl)
  have z5 : DataW.trod enc Try.prog w base spare held m 3 [c5] = some y5 := by simpa [Value.cells, k3] using q5
  obtain ⟨x5, h5, _⟩ := DataW.trod_int Try.underlying3 z5
  simp only [List.cons.injEq, and_true] at h5
  subst h5
  obtain ⟨y6, q6⟩ := some_of_lt hxl (by decide : 6 < 11) (hfs 6 _ rfl)
  have z6 : DataW.trod enc Try.prog w base spare held m 3 [c6] = some y6 := by simpa [Value.cells, k3] using q6
  obtain ⟨x6, h6, _⟩ := DataW.trod_int Try.underlying3 z6
  simp only [List.cons.injEq, and_true] at h6
  subst h6
  obtain ⟨y7, q7⟩ := some_of_lt hxl (by decide : 7 < 11) (hfs 7 _ rfl)
  have z7 : DataW.trod enc Try.prog w base spare held m 3 [c7] = some y7 := by simpa [Value.cells, k3] using q7
  obtain ⟨x7, h7, _⟩ := DataW.trod_int Try.underlying3 z7
  simp only [List.cons.injEq, and_true] at h7
  subst h7
  obtain ⟨y8, q8⟩ := some_of_lt hxl (by decide : 8 < 11) (hfs 8 _ rfl)
  have z8 : DataW.trod enc Try.prog w base spare held m 3 [c8] = some y8 := by simpa [Value.cells, k3] using q8
  obtain ⟨x8, h8, _⟩ := DataW.trod_int Try.underlying3 z8
  simp only [List.cons.injEq, and_true] at h8
  subst h8
  obtain ⟨y9, q9⟩ := some_of_lt hxl (by decide : 9 < 11) (hfs 9 _ rfl)
  have z9 : DataW.trod enc Try.prog w base spare held m 3 [c9] = some y9 := by simpa [Value.cells, k3] using q9
  obtain ⟨x9, h9, _⟩ := DataW.trod_int Try.underlying3 z9
  simp only [List.cons.injEq, and_true] at h9
  subst h9
  obtain ⟨y10, q10⟩ := some_of_lt hxl (by decide : 10 < 11) (hfs 10 _ rfl)
  have z10 : DataW.trod enc Try.prog w base spare held m 22 [c10] = some y10 := by simpa [Value.cells, k3, k22] using q10
  obtain ⟨ad, cap, zs, rfl, hl, hT, _⟩ := open_row z10
  exact ⟨x0, x1, x2, x3, x4, x5, x6, x7, x8, x9, ad, cap, zs, rfl, hl, hT⟩
set_option maxRecDepth 100000 in
theorem open_cluster {r : Reach} {b0 : Nat} {v : Value} {dt : DataW H} {ps : List MemPlace} (hv : Value.okWide Try.prog w r b0 27 v) (h : DataW.Trod enc Try.prog w base spare held 27 v dt ps) :
    ∃ (n f d p r dr o sl md fr : Int) (ad : Option Addr) (cap : Nat) (zs : List Int) (a1 : Option Addr) (c1 : Nat) (pipes : List ByteArray) (a2 : Option Addr) (c2 : Nat) (since : List Int) (a3 : Option Addr) (c3 : Nat) (faulty : List Int) (a4 : Option Addr) (c4 : Nat) (lies : List ByteArray),
      v = .agg #[.int .i64 n, .int .i64 f, .int .i64 d, .int .i64 p, .int .i64 r, .int .i64 dr, .int .i64 o, .int .i64 sl, .int .i64 md, .int .i64 fr, .slice ad zs.length cap, .slice a1 pipes.length c1, .slice a2 since.length c2, .slice a3 faulty.length c3, .slice a4 lies.length c4] ∧ zs.length ≤ 9223372036854775807 ∧ Tab w ad zs ∧
      (pipes.length ≤ 9223372036854775807 ∧ kStr.Lies w.heap.size w (.slice a1 pipes.length c1) pipes ∧ ∀ t ∈ pipes, t.size ≤ 9223372036854775807) ∧
      (since.length ≤ 9223372036854775807 ∧ kInt.Lies w.heap.size w (.slice a2 since.length c2) since ∧ ∀ z ∈ since, -9223372036854775808 ≤ z ∧ z ≤ 9223372036854775807) ∧
      (faulty.length ≤ 9223372036854775807 ∧ kInt.Lies w.heap.size w (.slice a3 faulty.length c3) faulty ∧ ∀ z ∈ faulty, -9223372036854775808 ≤ z ∧ z ≤ 9223372036854775807) ∧
      (lies.length ≤ 9223372036854775807 ∧ kStr.Lies w.heap.size w (.slice a4 lies.length c4) lies ∧ ∀ t ∈ lies, t.size ≤ 9223372036854775807) := by
  have hs := Try.underlying27
  obtain ⟨cs, rfl, hsz⟩ := okWide_struct hs hv
  obtain ⟨c0, c1, c2, c3, c4, c5, c6, c7, c8, c9, c10, c11, c12, c13, c14, rfl⟩ := array15 (hsz.trans (by kernel_rfl))
  obtain ⟨fuel, hf⟩ := h
  obtain ⟨xs, m, _, _, _, hxl, hfs⟩ := DataW.trod_struct hs hf
  have k24 : Try.prog.cellsOf 24 = 11 := by kernel_rfl
  have k22 : Try.prog.cellsOf 22 = 1 := by kernel_rfl
  have k30 : Try.prog.cellsOf 25 = 1 := by kernel_rfl
  obtain ⟨y0, q0⟩ := some_of_lt hxl (by decide : 0 < 5) (hfs 0 _ rfl)
  have z0 : DataW.trod enc Try.prog w base spare held m 24 [c0, c1, c2, c3, c4, c5, c6, c7, c8, c9, c10] = some y0 := by simpa [Value.cells, k24] using q0
  obtain ⟨n, f, d, p, r, dr, o, sl, md, fr, ad, cap, zs, he, hl, hT⟩ := conf_cells z0
  obtain ⟨y1, q1⟩ := some_of_lt hxl (by decide : 1 < 5) (hfs 1 _ rfl)
  have z1 : DataW.trod enc Try.prog w base spare held m 25 [c11] = some y1 := by simpa [Value.cells, k24, k30] using q1
  obtain ⟨a1, d1, pipes, rfl, hp⟩ := rows_strz z1
  obtain ⟨y2, q2⟩ := some_of_lt hxl (by decide : 2 < 5) (hfs 2 _ rfl)
  have z2 : DataW.trod enc Try.prog w base spare held m 22 [c12] = some y2 := by simpa [Value.cells, k24, k30, k22] using q2
  obtain ⟨a2, d2, since, rfl, hsn⟩ := rows_intz z2
  obtain ⟨y3, q3⟩ := some_of_lt hxl (by decide : 3 < 5) (hfs 3 _ rfl)
  have z3 : DataW.trod enc Try.prog w base spare held m 22 [c13] = some y3 := by simpa [Value.cells, k24, k30, k22] using q3
  obtain ⟨a3, d3, faulty, rfl, hfa⟩ := rows_intz z3
  obtain ⟨y4, q4⟩ := some_of_lt hxl (by decide : 4 < 5) (hfs 4 _ rfl)
  have z4 : DataW.trod enc Try.prog w base spare held m 25 [c14] = some y4 := by simpa [Value.cells, k24, k30, k22] using q4
  obtain ⟨a4, d4, lies, rfl, hli⟩ := rows_strz z4
  simp only [List.cons.injEq, and_true] at he
  obtain ⟨rfl, rfl, rfl, rfl, rfl, rfl, rfl, rfl, rfl, rfl, rfl⟩ := he
  exact ⟨n, f, d, p, r, dr, o, sl, md, fr, ad, cap, zs, a1, d1, pipes, a2, d2, since, a3, d3, faulty, a4, d4, lies, rfl, hl, hT, hp, hsn, hfa, hli⟩
end
end Go.Proofs.Ytohgmliafidalaa

/- The statements' own method lie of a cluster returns a plain function's text, and makes at most new memory; conditions: the lies lie where they say, numbers are small. -/
namespace Go.Proofs.Ytohgmliafidalaa
open Go.ChangeShapes Go.WideShapes Go.ChangeAt Go.RowKit
set_option linter.unusedVariables false
attribute [local go_sem] cell_rg

/-- What is told ahead of all, or by a faulty node. -/
def lieQ (lies : List ByteArray) (N tt fm tz : Nat) : ByteArray := if lies.length = 0 then noB else lies.getD ((tt * N * N + fm * N + tz) % lies.length) noB
set_option maxRecDepth 100000 in
set_option maxHeartbeats 1000000 in
theorem lie_any (N : Nat) (f d p r dr o sl md fr : Int) (ad : Option Addr) (cap : Nat) (zs : List Int) (a1 : Option Addr) (k1 c1 : Nat) (a2 : Option Addr) (k2 c2 : Nat) (a3 : Option Addr) (k3 c3 : Nat) (a4 : Option Addr) (c4 : Nat) (lies : List ByteArray) (ti : Int) (tt fm to' : Nat) (ht : ti + d = (tt : Int)) (htt : tt ≤ 10000) (hN : N ≤ 13) (hfr : fm ≤ 13) (hto : to' ≤ 13) (hll : lies.length ≤ 9223372036854775807) (w : World) (hV : kStr.Lies w.heap.size w (.slice a4 lies.length c4) lies) :
    Calls Try.prog 44 #[.agg #[.int .i64 (N : Int), .int .i64 f, .int .i64 d, .int .i64 p, .int .i64 r, .int .i64 dr, .int .i64 o, .int .i64 sl, .int .i64 md, .int .i64 fr, .slice ad zs.length cap, .slice a1 k1 c1, .slice a2 k2 c2, .slice a3 k3 c3, .slice a4 lies.length c4], .int .i64 ti, .int .i64 (fm : Int), .int .i64 (to' : Int)] w fun e w' => e = .returned (.string (lieQ lies N tt fm to')) ∧ Below w.heap.size w w' := by
  have HB0 := hidden (ballc w (.cells #[.int .i64 (N : Int), .int .i64 f, .int .i64 d, .int .i64 p, .int .i64 r, .int .i64 dr, .int .i64 o, .int .i64 sl, .int .i64 md, .int .i64 fr, .slice ad zs.length cap, .slice a1 k1 c1, .slice a2 k2 c2, .slice a3 k3 c3, .slice a4 lies.length c4] 27))
  have HV := hidden (hV.later HB0.out)
  by_cases h0 : lies.length = 0
  · have hr : Hid (lieQ lies N tt fm to' = noB) := if_pos h0
    have j0 : ((lies.length : Int) == 0) = true := by simp [h0]
    rw [hr.out]
    clear hV h0
    generalize lies.length = M at *
    go_enter Try.func44, Try.ntmps44
    go_wp2
    go_ret
    exact ⟨rfl, HB0.out⟩
  · have hr : Hid (lieQ lies N tt fm to' = lies.getD ((tt * N * N + fm * N + to') % lies.length) noB) := if_neg h0
    have j0 : ((lies.length : Int) == 0) = false := beq_eq_false_iff_ne.2 (by omega)
    have j1 : ¬ (lies.length : Int) = 0 := by omega
    have j2 : (0 : Int) < (lies.length : Int) := by omega
    have hq := Nat.mod_lt (tt * N * N + fm * N + to') (show 0 < lies.length by omega)
    obtain ⟨bb, off, hea, hbb, e0⟩ := kStr_at hV ((tt * N * N + fm * N + to') % lies.length) hq
    subst hea
    rw [hr.out]
    have b1 : tt * N ≤ 10000 * 13 := Nat.mul_le_mul htt hN
    have b2 : tt * N * N ≤ 10000 * 13 * 13 := Nat.mul_le_mul b1 hN
    have b3 : fm * N ≤ 13 * 13 := Nat.mul_le_mul hfr hN
    have e1 : (tt : Int) * (N : Int) = ((tt * N : Nat) : Int) := by simp
    have e2 : ((tt * N : Nat) : Int) * (N : Int) = ((tt * N * N : Nat) : Int) := by simp
    have e3 : (fm : Int) * (N : Int) = ((fm * N : Nat) : Int) := by simp
    have e4 : (((tt * N * N + fm * N + to' : Nat) : Int)).tmod (lies.length : Int) = (((tt * N * N + fm * N + to') % lies.length : Nat) : Int) := by
      rw [Int.tmod_eq_emod_of_nonneg (by omega)]
      rfl
    generalize (tt * N * N + fm * N + to') % lies.length = q at *
    obtain ⟨m5, hm5⟩ : ∃ m5 : Nat, m5 = tt * N * N + fm * N + to' := ⟨_, rfl⟩
    rw [← hm5] at e4
    generalize tt * N * N = m2 at *
    generalize tt * N = m1 at *
    generalize fm * N = m3 at *
    obtain ⟨m4, hm4⟩ : ∃ m4 : Nat, m4 = m2 + m3 := ⟨_, rfl⟩
    have e5 : (m2 : Int) + (m3 : Int) = (m4 : Int) := by omega
    have e6 : (m4 : Int) + (to' : Int) = (m5 : Int) := by omega
    have w0 : IntKind.i64.wrap (tt : Int) = (tt : Int) := IntWalk.i64_in _ (by omega)
    have w1 : IntKind.i64.wrap (m1 : Int) = (m1 : Int) := IntWalk.i64_in _ (by omega)
    have w2 : IntKind.i64.wrap (m2 : Int) = (m2 : Int) := IntWalk.i64_in _ (by omega)
    have w3 : IntKind.i64.wrap (m3 : Int) = (m3 : Int) := IntWalk.i64_in _ (by omega)
    have w4 : IntKind.i64.wrap (m4 : Int) = (m4 : Int) := IntWalk.i64_in _ (by omega)
    have w5 : IntKind.i64.wrap (m5 : Int) = (m5 : Int) := IntWalk.i64_in _ (by omega)
    have w6 : IntKind.i64.wrap (q : Int) = (q : Int) := IntWalk.i64_in _ (by omega)
    have q0 : (0 : Int) ≤ (q : Int) := by omega
    have q1 : (q : Int) < (lies.length : Int) := by omega
    generalize lies.getD q noB = tx at *
    clear hV h0 hq hm5 hm4 b1 b2 b3 hr
    generalize lies.length = M at *
    go_enter Try.func44, Try.ntmps44
    go_wp2
    refine wp_region_quiet_below (by kernel_rfl) (by kernel_rfl) ?_
    repeat (go_big_quiet_step (fail))
    refine wpQuiet_nil ?_
    intro w5 hw5
    have HB5 := hidden (bthen HB0.out (rg_below hw5))
    clear hw5
    go_wp2
    go_ret
    exact ⟨rfl, HB5.out⟩
end Go.Proofs.Ytohgmliafidalaa

/- Plain mathematics: with few faulty nodes all others agree in the end of an instance, and keep what they share; no conditions but those in the theorems. -/
namespace Go.Proofs.Ytohgmliafidalaa
open Go.ChangeShapes Go.WideShapes Go.ChangeAt Go.RowKit
set_option linter.unusedVariables false

section
variable {fa : Nat → Bool} {lies : List Int} {N : Nat} {F : Nat}
/-- How many are faulty. -/
def facL (fa : Nat → Bool) (N : Nat) : Nat := (List.range N).countP fa
/-- A node's value. -/
def vlF (bs : List (Int × Bool)) (a : Nat) : Int := valF (bs.getD a (0, false))
/-- How many honest nodes have a value. -/
def hvL (fa : Nat → Bool) (N : Nat) (bs : List (Int × Bool)) (v : Int) : Nat := (List.range N).countP fun a => !fa a && decide (vlF bs a = v)
theorem countP_or {α : Type} (P R Q : α → Bool) (l : List α) (h : ∀ a ∈ l, Q a = true → P a = true ∨ R a = true) : l.countP Q ≤ l.countP P + l.countP R := by
  induction l with
  | nil => simp
  | cons a l ih =>
    have ih := ih fun b hb => h b (List.mem_cons_of_mem _ hb)
    have ha := h a List.mem_cons_self
    simp only [List.countP_cons]
    cases hQ : Q a <;> cases hP : P a <;> cases hR : R a <;> simp_all <;> omega
theorem cnt_votes (v : Int) (x t : Nat) (bs : List (Int × Bool)) : cntL v (votesL fa lies N x t bs) = (List.range N).countP fun a => decide (sayF fa lies N x t bs a = v) := by
  unfold cntL votesL
  rw [List.countP_map]
  rfl
theorem say_h {x t a : Nat} {bs : List (Int × Bool)} (h : fa a = false) : sayF fa lies N x t bs a = vlF bs a := if_neg (by rw [h]; decide)
theorem votes_lo (v : Int) (x t : Nat) (bs : List (Int × Bool)) : hvL fa N bs v ≤ cntL v (votesL fa lies N x t bs) := by
  rw [cnt_votes]
  apply List.countP_mono_left
  intro a _ h
  simp at h
  rw [say_h h.1]
  simp [h.2]
theorem votes_hi (v : Int) (x t : Nat) (bs : List (Int × Bool)) : cntL v (votesL fa lies N x t bs) ≤ hvL fa N bs v + facL fa N := by
  rw [cnt_votes]
  apply countP_or
  intro a _ h
  cases hf : fa a
  · rw [say_h hf] at h
    left; simpa using h
  · right; rfl
theorem hv_sum (bs : List (Int × Bool)) : hvL fa N bs 0 + hvL fa N bs 1 + hvL fa N bs 2 + facL fa N = N := by
  have key : ∀ l : List Nat, l.countP (fun a => !fa a && decide (vlF bs a = 0)) + l.countP (fun a => !fa a && decide (vlF bs a = 1)) + l.countP (fun a => !fa a && decide (vlF bs a = 2)) + l.countP fa = l.length := by
    intro l
    induction l with
    | nil => rfl
    | cons a l ih =>
      have hb := valF_bd (bs.getD a (0, false))
      have h3 : vlF bs a = 0 ∨ vlF bs a = 1 ∨ vlF bs a = 2 := by unfold vlF; omega
      simp only [List.countP_cons, List.length_cons]
      cases hf : fa a <;> rcases h3 with h | h | h <;> simp [h] <;> omega
  have := key (List.range N)
  rw [List.length_range] at this
  exact this
theorem hv_zero {bs : List (Int × Bool)} {v : Int} (h : ∀ a, a < N → fa a = false → vlF bs a ≠ v) : hvL fa N bs v = 0 := by
  unfold hvL
  rw [List.countP_eq_zero]
  intro a ha
  have := h a (List.mem_range.1 ha)
  cases hf : fa a <;> simp [hf] at this ⊢
  exact this
/-- All honest nodes have a value. -/
def ComV (fa : Nat → Bool) (N : Nat) (v : Int) (bs : List (Int × Bool)) : Prop := ∀ a, a < N → fa a = false → vlF bs a = v
theorem exch_at (x : Nat) (bs : List (Int × Bool)) (a : Nat) (ha : a < N) : (exchL fa lies N F x bs).getD a (0, false) = stepN fa lies N F x bs a := range_getD _ _ _ _ ha
theorem most_bd (n f : Int) (vs : List Int) : 0 ≤ mostF 0 n f vs ∧ mostF 0 n f vs ≤ 2 := by unfold mostF; repeat' split <;> omega
theorem least_bd (f now : Int) (vs : List Int) (h : 0 ≤ now ∧ now ≤ 2) : 0 ≤ leastF 0 f now vs ∧ leastF 0 f now vs ≤ 2 := by unfold leastF; repeat' split <;> omega
theorem ex0 {x : Nat} (hx : x % 3 = 0) (bs : List (Int × Bool)) (a : Nat) (ha : a < N) : vlF (exchL fa lies N F x bs) a = mostF 0 N F (votesL fa lies N x a bs) := by
  unfold vlF
  rw [exch_at x bs a ha]
  unfold stepN
  rw [stepF_0 (by rw [modF3_nat, hx]; rfl)]
  exact valF_same (most_bd _ _ _)
theorem ex1' {x : Nat} (hx : x % 3 = 1) (bs : List (Int × Bool)) (a : Nat) (ha : a < N) : (exchL fa lies N F x bs).getD a (0, false) = (leastF 0 F (vlF bs a) (votesL fa lies N x a bs), enoughB 0 N F (leastF 0 F (vlF bs a) (votesL fa lies N x a bs)) (votesL fa lies N x a bs)) := by
  rw [exch_at x bs a ha]
  unfold stepN
  rw [stepF_1 (by rw [modF3_nat, hx]; rfl)]
  rfl
theorem ex1 {x : Nat} (hx : x % 3 = 1) (bs : List (Int × Bool)) (a : Nat) (ha : a < N) : vlF (exchL fa lies N F x bs) a = leastF 0 F (vlF bs a) (votesL fa lies N x a bs) := by
  show valF _ = _
  rw [ex1' hx bs a ha]
  exact valF_same (least_bd _ _ _ (valF_bd _))
theorem ex2 {x : Nat} (hx : x % 3 = 2) (bs : List (Int × Bool)) (a : Nat) (ha : a < N) : (exchL fa lies N F x bs).getD a (0, false) = obeyF (bs.getD a (0, false)) ((votesL fa lies N x a bs).getD (x / 3) 0) := by
  rw [exch_at x bs a ha]
  unfold stepN
  rw [stepF_2 (by rw [modF3_nat, hx]; rfl)]
theorem com_hv {v : Int} {bs : List (Int × Bool)} (h : ComV fa N v bs) {u : Int} (hu : u ≠ v) : hvL fa N bs u = 0 := hv_zero fun a ha hf e => hu ((e.symm.trans (h a ha hf)))
/-- Exchange 0 keeps what all share. -/
theorem keep0 {v : Int} (hv : v = 0 ∨ v = 1) (hF : facL fa N ≤ F) (hN : 3 * F < N) {x : Nat} (hx : x % 3 = 0) {bs : List (Int × Bool)} (h : ComV fa N v bs) : ComV fa N v (exchL fa lies N F x bs) := by
  intro a ha hf
  rw [ex0 hx bs a ha]
  have s := hv_sum (fa := fa) (N := N) bs
  have l0 := votes_lo (fa := fa) (lies := lies) (N := N) 0 x a bs
  have l1 := votes_lo (fa := fa) (lies := lies) (N := N) 1 x a bs
  have u1 := votes_hi (fa := fa) (lies := lies) (N := N) 1 x a bs
  rcases hv with rfl | rfl
  · have z1 := com_hv h (u := 1) (by decide)
    have z2 := com_hv h (u := 2) (by decide)
    exact mostF_0 rfl (by omega) (by omega)
  · have z1 := com_hv h (u := 0) (by decide)
    have z2 := com_hv h (u := 2) (by decide)
    exact mostF_1 rfl (by omega)
theorem keep1 {v : Int} (hv : v = 0 ∨ v = 1) (hF : facL fa N ≤ F) (hN : 3 * F < N) {x : Nat} (hx : x % 3 = 1) {bs : List (Int × Bool)} (h : ComV fa N v bs) (a : Nat) (ha : a < N) : (exchL fa lies N F x bs).getD a (0, false) = (v, true) := by
  rw [ex1' hx bs a ha]
  have s := hv_sum (fa := fa) (N := N) bs
  have l0 := votes_lo (fa := fa) (lies := lies) (N := N) 0 x a bs
  have l1 := votes_lo (fa := fa) (lies := lies) (N := N) 1 x a bs
  have u0 := votes_hi (fa := fa) (lies := lies) (N := N) 0 x a bs
  rcases hv with rfl | rfl
  · have z1 := com_hv h (u := 1) (by decide)
    have z2 := com_hv h (u := 2) (by decide)
    rw [leastF_0 rfl (by omega)]
    rw [enoughB_ok rfl, cntF_in (by decide) (by decide)]
    exact Prod.ext rfl (decide_eq_true (by omega))
  · have z1 := com_hv h (u := 0) (by decide)
    have z2 := com_hv h (u := 2) (by decide)
    rw [leastF_1 rfl (by omega) (by omega)]
    rw [enoughB_ok rfl, cntF_in (by decide) (by decide)]
    exact Prod.ext rfl (decide_eq_true (by omega))
theorem keep2 {v : Int} (hv : v = 0 ∨ v = 1) {x : Nat} (hx : x % 3 = 2) {bs : List (Int × Bool)} (h : ∀ a, a < N → fa a = false → bs.getD a (0, false) = (v, true)) : ComV fa N v (exchL fa lies N F x bs) := by
  intro a ha hf
  unfold vlF
  rw [ex2 hx bs a ha, h a ha hf]
  have e : valF (v, true) = v := valF_same (by simp; omega)
  rw [obeyF_s (by rw [e]; omega) rfl, e]
  exact valF_same (by simp; omega)
/-- Behind exchange 0 honest nodes have one value, or do not know. -/
theorem ag0 (hF : facL fa N ≤ F) (hN : 3 * F < N) {x : Nat} (hx : x % 3 = 0) (bs : List (Int × Bool)) : ∃ v : Int, (v = 0 ∨ v = 1) ∧ ∀ a, a < N → fa a = false → vlF (exchL fa lies N F x bs) a = v ∨ vlF (exchL fa lies N F x bs) a = 2 := by
  have s := hv_sum (fa := fa) (N := N) bs
  by_cases h : ∃ a, a < N ∧ fa a = false ∧ vlF (exchL fa lies N F x bs) a = 1
  · obtain ⟨b, hb, hfb, h1⟩ := h
    rw [ex0 hx bs b hb] at h1
    have u1 := votes_hi (fa := fa) (lies := lies) (N := N) 1 x b bs
    have q1 : (N : Int) - F ≤ (cntL 1 (votesL fa lies N x b bs) : Int) := by
      by_cases k : (N : Int) - F ≤ (cntL 1 (votesL fa lies N x b bs) : Int)
      · exact k
      · by_cases k2 : (N : Int) - F ≤ (cntL 0 (votesL fa lies N x b bs) : Int)
        · rw [mostF_0 rfl k k2] at h1; cases h1
        · rw [mostF_2 rfl k k2] at h1; cases h1
    refine ⟨1, .inr rfl, fun a ha hf => ?_⟩
    rw [ex0 hx bs a ha]
    have u0 := votes_hi (fa := fa) (lies := lies) (N := N) 0 x a bs
    by_cases k : (N : Int) - F ≤ (cntL 1 (votesL fa lies N x a bs) : Int)
    · exact .inl (mostF_1 rfl k)
    · exact .inr (mostF_2 rfl k (by omega))
  · refine ⟨0, .inl rfl, fun a ha hf => ?_⟩
    have hb := valF_bd ((exchL fa lies N F x bs).getD a (0, false))
    have h1 : vlF (exchL fa lies N F x bs) a ≠ 1 := fun e => h ⟨a, ha, hf, e⟩
    unfold vlF at h1 ⊢
    omega
theorem ag1 {v : Int} (hv : v = 0 ∨ v = 1) (hF : facL fa N ≤ F) (hN : 3 * F < N) {x : Nat} (hx : x % 3 = 1) {bs : List (Int × Bool)} (h : ∀ a, a < N → fa a = false → vlF bs a = v ∨ vlF bs a = 2) :
    (∃ b, b < N ∧ fa b = false ∧ ((exchL fa lies N F x bs).getD b (0, false)).2 = true ∧ vlF (exchL fa lies N F x bs) b ≠ 2) → ComV fa N v (exchL fa lies N F x bs) := by
  have s := hv_sum (fa := fa) (N := N) bs
  rintro ⟨b, hb, hfb, hs, hn2⟩
  rw [ex1 hx bs b hb] at hn2
  rw [ex1' hx bs b hb] at hs
  simp only at hs
  have hbv := h b hb hfb
  have u0 := votes_hi (fa := fa) (lies := lies) (N := N) 0 x b bs
  have u1 := votes_hi (fa := fa) (lies := lies) (N := N) 1 x b bs
  rw [enoughB_ok rfl] at hs
  have hs := of_decide_eq_true hs
  rcases hv with rfl | rfl
  · have z1 : hvL fa N bs 1 = 0 := hv_zero fun a ha hf => by rcases h a ha hf with e | e <;> omega
    have e0 : leastF 0 F (vlF bs b) (votesL fa lies N x b bs) = 0 := by
      by_cases k : (F : Int) + 1 ≤ (cntL 0 (votesL fa lies N x b bs) : Int)
      · exact leastF_0 rfl k
      · by_cases k2 : (F : Int) + 1 ≤ (cntL 2 (votesL fa lies N x b bs) : Int)
        · exact absurd (leastF_2 rfl k (by omega) k2) hn2
        · have e := leastF_n (now := vlF bs b) rfl k (by omega) k2
          rw [e] at hn2 ⊢
          omega
    rw [e0, cntF_in (by decide) (by decide)] at hs
    intro a ha hf
    rw [ex1 hx bs a ha]
    have l0 := votes_lo (fa := fa) (lies := lies) (N := N) 0 x a bs
    exact leastF_0 rfl (by omega)
  · have z1 : hvL fa N bs 0 = 0 := hv_zero fun a ha hf => by rcases h a ha hf with e | e <;> omega
    have e0 : leastF 0 F (vlF bs b) (votesL fa lies N x b bs) = 1 := by
      by_cases k : (F : Int) + 1 ≤ (cntL 1 (votesL fa lies N x b bs) : Int)
      · exact leastF_1 rfl (by omega) k
      · by_cases k2 : (F : Int) + 1 ≤ (cntL 2 (votesL fa lies N x b bs) : Int)
        · exact absurd (leastF_2 rfl (by omega) k k2) hn2
        · have e := leastF_n (now := vlF bs b) rfl (by omega) k k2
          rw [e] at hn2 ⊢
          omega
    rw [e0, cntF_in (by decide) (by decide)] at hs
    intro a ha hf
    rw [ex1 hx bs a ha]
    have l1 := votes_lo (fa := fa) (lies := lies) (N := N) 1 x a bs
    have u0' := votes_hi (fa := fa) (lies := lies) (N := N) 0 x a bs
    exact leastF_1 rfl (by omega) (by omega)
theorem king_vote {x : Nat} (hk : x / 3 < N) (hfk : fa (x / 3) = false) (bs : List (Int × Bool)) (a : Nat) : (votesL fa lies N x a bs).getD (x / 3) 0 = vlF bs (x / 3) := by
  unfold votesL
  rw [range_getD _ _ _ _ hk, say_h hfk]
theorem ag2 {v : Int} (hv : v = 0 ∨ v = 1) {x : Nat} (hx : x % 3 = 2) (hk : x / 3 < N) (hfk : fa (x / 3) = false) {bs : List (Int × Bool)} (hs : (∃ b, b < N ∧ fa b = false ∧ (bs.getD b (0, false)).2 = true ∧ vlF bs b ≠ 2) → ComV fa N v bs) : ∃ u : Int, (u = 0 ∨ u = 1) ∧ ComV fa N u (exchL fa lies N F x bs) := by
  by_cases h : ∃ b, b < N ∧ fa b = false ∧ (bs.getD b (0, false)).2 = true ∧ vlF bs b ≠ 2
  · have hc := hs h
    refine ⟨v, hv, fun a ha hf => ?_⟩
    unfold vlF
    rw [ex2 hx bs a ha, king_vote hk hfk, hc _ hk hfk]
    have e := hc a ha hf
    unfold vlF at e
    by_cases k : valF (bs.getD a (0, false)) ≠ 2 ∧ (bs.getD a (0, false)).2 = true
    · rw [obeyF_s k.1 k.2, e]
      exact valF_same (by simp; omega)
    · rcases hv with rfl | rfl
      · rw [obeyF_0 k (by decide)]; rfl
      · rw [obeyF_1 k (by decide)]; rfl
  · by_cases hq : vlF bs (x / 3) = 1 ∨ vlF bs (x / 3) = 2
    · refine ⟨1, .inr rfl, fun a ha hf => ?_⟩
      unfold vlF
      rw [ex2 hx bs a ha, king_vote hk hfk, obeyF_1 (fun k => h ⟨a, ha, hf, k.2, k.1⟩) hq]
      rfl
    · refine ⟨0, .inl rfl, fun a ha hf => ?_⟩
      unfold vlF
      rw [ex2 hx bs a ha, king_vote hk hfk, obeyF_0 (fun k => h ⟨a, ha, hf, k.2, k.1⟩) hq]
      rfl
variable {bits : List Int}
theorem play_step (x : Nat) : playL fa lies N F bits (x + 1) = exchL fa lies N F x (playL fa lies N F bits x) := rfl
theorem keep_phase {v : Int} (hv : v = 0 ∨ v = 1) (hF : facL fa N ≤ F) (hN : 3 * F < N) (m : Nat) (h : ComV fa N v (playL fa lies N F bits (3 * m))) : ComV fa N v (playL fa lies N F bits (3 * (m + 1))) := by
  rw [show 3 * (m + 1) = 3 * m + 1 + 1 + 1 by omega, play_step, play_step, play_step]
  exact keep2 hv (by omega) fun a ha hf => keep1 hv hF hN (by omega) (keep0 hv hF hN (by omega) h) a ha
theorem agree_phase (hF : facL fa N ≤ F) (hN : 3 * F < N) (m : Nat) (hm : m < N) (hfm : fa m = false) : ∃ u : Int, (u = 0 ∨ u = 1) ∧ ComV fa N u (playL fa lies N F bits (3 * (m + 1))) := by
  rw [show 3 * (m + 1) = 3 * m + 1 + 1 + 1 by omega, play_step, play_step, play_step]
  obtain ⟨v, hv, h0⟩ := ag0 (lies := lies) hF hN (x := 3 * m) (by omega) (playL fa lies N F bits (3 * m))
  have e : (3 * m + 1 + 1) / 3 = m := by omega
  exact ag2 hv (by omega) (by rw [e]; exact hm) (by rw [e]; exact hfm) (ag1 hv hF hN (by omega) h0)
theorem keep_all {v : Int} (hv : v = 0 ∨ v = 1) (hF : facL fa N ≤ F) (hN : 3 * F < N) {m : Nat} (h : ComV fa N v (playL fa lies N F bits (3 * m))) (k : Nat) : ComV fa N v (playL fa lies N F bits (3 * (m + k))) := by
  induction k with
  | zero => exact h
  | succ k ih => exact keep_phase hv hF hN (m + k) ih
theorem one_honest (hF : facL fa N ≤ F) (hN : 3 * F < N) : ∃ m, m ≤ F ∧ fa m = false := by
  by_cases h : ∃ m, m ≤ F ∧ fa m = false
  · exact h
  · exfalso
    have hall : ∀ a ∈ List.range (F + 1), fa a = true := fun a ha => by
      have := List.mem_range.1 ha
      cases e : fa a
      · exact absurd ⟨a, by omega, e⟩ h
      · rfl
    have h1 : (List.range (F + 1)).countP fa = (List.range (F + 1)).length := List.countP_eq_length.2 hall
    rw [List.length_range] at h1
    have h2 : (List.range (F + 1)).countP fa ≤ (List.range N).countP fa := by
      apply List.Sublist.countP_le
      exact List.range_sublist.2 (by omega)
    unfold facL at hF
    omega
/-- All honest nodes agree in the end. -/
theorem agree_all (hF : facL fa N ≤ F) (hN : 3 * F < N) : ∃ u : Int, (u = 0 ∨ u = 1) ∧ ComV fa N u (playL fa lies N F bits (3 * (F + 1))) := by
  obtain ⟨m, hm, hfm⟩ := one_honest hF hN
  obtain ⟨u, hu, h⟩ := agree_phase (lies := lies) (bits := bits) hF hN m (by omega) hfm
  refine ⟨u, hu, ?_⟩
  have := keep_all hu hF hN h (F - m)
  rwa [show m + 1 + (F - m) = F + 1 by omega] at this
/-- What all honest nodes begin with, they have in the end. -/
theorem keep_end {v : Int} (hv : v = 0 ∨ v = 1) (hF : facL fa N ≤ F) (hN : 3 * F < N) (h : ∀ a, a < N → fa a = false → bits.getD a 0 = v) : ComV fa N v (playL fa lies N F bits (3 * (F + 1))) := by
  have h0 : ComV fa N v (playL fa lies N F bits (3 * 0)) := by
    intro a ha hf
    show valF ((startL N bits).getD a (0, false)) = v
    unfold startL
    rw [range_getD _ _ _ _ ha, h a ha hf]
    rcases hv with rfl | rfl <;> rfl
  have := keep_all hv hF hN h0 (F + 1)
  rwa [Nat.zero_add] at this
end
end Go.Proofs.Ytohgmliafidalaa

/- Plain mathematics: with few faulty nodes all others agree in the end of an instance, whatever faulty ones tell (any function), and keep what they share; no conditions but those in the theorems. -/
namespace Go.Proofs.Ytohgmliafidalaa
open Go.ChangeShapes Go.WideShapes Go.ChangeAt Go.RowKit
set_option linter.unusedVariables false

/-- What a node tells another one, faulty ones whatever they like. -/
def sayG (fa : Nat → Bool) (lie : Nat → Nat → Nat → Int) (x t : Nat) (bs : List (Int × Bool)) (a : Nat) : Int := if fa a = true then lie x a t else valF (bs.getD a (0, false))
def votesG (fa : Nat → Bool) (lie : Nat → Nat → Nat → Int) (N x t : Nat) (bs : List (Int × Bool)) : List Int := (List.range N).map (sayG fa lie x t bs)
def stepG (fa : Nat → Bool) (lie : Nat → Nat → Nat → Int) (N : Nat) (f : Int) (x : Nat) (bs : List (Int × Bool)) (t : Nat) : Int × Bool := stepF 0 N f x (bs.getD t (0, false)) ((votesG fa lie N x t bs).getD (x / 3) 0) (votesG fa lie N x t bs)
def exchG (fa : Nat → Bool) (lie : Nat → Nat → Nat → Int) (N : Nat) (f : Int) (x : Nat) (bs : List (Int × Bool)) : List (Int × Bool) := (List.range N).map (stepG fa lie N f x bs)
def playG (fa : Nat → Bool) (lie : Nat → Nat → Nat → Int) (N : Nat) (f : Int) (bs0 : List (Int × Bool)) : Nat → List (Int × Bool)
  | 0 => bs0
  | x + 1 => exchG fa lie N f x (playG fa lie N f bs0 x)
section
variable {fa : Nat → Bool} {lie : Nat → Nat → Nat → Int} {N : Nat} {F : Nat}
theorem cnt_votesG (v : Int) (x t : Nat) (bs : List (Int × Bool)) : cntL v (votesG fa lie N x t bs) = (List.range N).countP fun a => decide (sayG fa lie x t bs a = v) := by
  unfold cntL votesG
  rw [List.countP_map]
  rfl
theorem say_hG {x t a : Nat} {bs : List (Int × Bool)} (h : fa a = false) : sayG fa lie x t bs a = vlF bs a := if_neg (by rw [h]; decide)
theorem votes_loG (v : Int) (x t : Nat) (bs : List (Int × Bool)) : hvL fa N bs v ≤ cntL v (votesG fa lie N x t bs) := by
  rw [cnt_votesG]
  apply List.countP_mono_left
  intro a _ h
  simp at h
  rw [say_hG h.1]
  simp [h.2]
theorem votes_hiG (v : Int) (x t : Nat) (bs : List (Int × Bool)) : cntL v (votesG fa lie N x t bs) ≤ hvL fa N bs v + facL fa N := by
  rw [cnt_votesG]
  apply countP_or
  intro a _ h
  cases hf : fa a
  · rw [say_hG hf] at h
    left; simpa using h
  · right; rfl
theorem exch_atG (x : Nat) (bs : List (Int × Bool)) (a : Nat) (ha : a < N) : (exchG fa lie N F x bs).getD a (0, false) = stepG fa lie N F x bs a := range_getD _ _ _ _ ha
theorem ex0G {x : Nat} (hx : x % 3 = 0) (bs : List (Int × Bool)) (a : Nat) (ha : a < N) : vlF (exchG fa lie N F x bs) a = mostF 0 N F (votesG fa lie N x a bs) := by
  unfold vlF
  rw [exch_atG x bs a ha]
  unfold stepG
  rw [stepF_0 (by rw [modF3_nat, hx]; rfl)]
  exact valF_same (most_bd _ _ _)
theorem ex1G' {x : Nat} (hx : x % 3 = 1) (bs : List (Int × Bool)) (a : Nat) (ha : a < N) : (exchG fa lie N F x bs).getD a (0, false) = (leastF 0 F (vlF bs a) (votesG fa lie N x a bs), enoughB 0 N F (leastF 0 F (vlF bs a) (votesG fa lie N x a bs)) (votesG fa lie N x a bs)) := by
  rw [exch_atG x bs a ha]
  unfold stepG
  rw [stepF_1 (by rw [modF3_nat, hx]; rfl)]
  rfl
theorem ex1G {x : Nat} (hx : x % 3 = 1) (bs : List (Int × Bool)) (a : Nat) (ha : a < N) : vlF (exchG fa lie N F x bs) a = leastF 0 F (vlF bs a) (votesG fa lie N x a bs) := by
  show valF _ = _
  rw [ex1G' hx bs a ha]
  exact valF_same (least_bd _ _ _ (valF_bd _))
theorem ex2G {x : Nat} (hx : x % 3 = 2) (bs : List (Int × Bool)) (a : Nat) (ha : a < N) : (exchG fa lie N F x bs).getD a (0, false) = obeyF (bs.getD a (0, false)) ((votesG fa lie N x a bs).getD (x / 3) 0) := by
  rw [exch_atG x bs a ha]
  unfold stepG
  rw [stepF_2 (by rw [modF3_nat, hx]; rfl)]
/-- Exchange 0 keeps what all share. -/
theorem keep0G {v : Int} (hv : v = 0 ∨ v = 1) (hF : facL fa N ≤ F) (hN : 3 * F < N) {x : Nat} (hx : x % 3 = 0) {bs : List (Int × Bool)} (h : ComV fa N v bs) : ComV fa N v (exchG fa lie N F x bs) := by
  intro a ha hf
  rw [ex0G hx bs a ha]
  have s := hv_sum (fa := fa) (N := N) bs
  have l0 := votes_loG (fa := fa) (lie := lie) (N := N) 0 x a bs
  have l1 := votes_loG (fa := fa) (lie := lie) (N := N) 1 x a bs
  have u1 := votes_hiG (fa := fa) (lie := lie) (N := N) 1 x a bs
  rcases hv with rfl | rfl
  · have z1 := com_hv h (u := 1) (by decide)
    have z2 := com_hv h (u := 2) (by decide)
    exact mostF_0 rfl (by omega) (by omega)
  · have z1 := com_hv h (u := 0) (by decide)
    have z2 := com_hv h (u := 2) (by decide)
    exact mostF_1 rfl (by omega)
theorem keep1G {v : Int} (hv : v = 0 ∨ v = 1) (hF : facL fa N ≤ F) (hN : 3 * F < N) {x : Nat} (hx : x % 3 = 1) {bs : List (Int × Bool)} (h : ComV fa N v bs) (a : Nat) (ha : a < N) : (exchG fa lie N F x bs).getD a (0, false) = (v, true) := by
  rw [ex1G' hx bs a ha]
  have s := hv_sum (fa := fa) (N := N) bs
  have l0 := votes_loG (fa := fa) (lie := lie) (N := N) 0 x a bs
  have l1 := votes_loG (fa := fa) (lie := lie) (N := N) 1 x a bs
  have u0 := votes_hiG (fa := fa) (lie := lie) (N := N) 0 x a bs
  rcases hv with rfl | rfl
  · have z1 := com_hv h (u := 1) (by decide)
    have z2 := com_hv h (u := 2) (by decide)
    rw [leastF_0 rfl (by omega)]
    rw [enoughB_ok rfl, cntF_in (by decide) (by decide)]
    exact Prod.ext rfl (decide_eq_true (by omega))
  · have z1 := com_hv h (u := 0) (by decide)
    have z2 := com_hv h (u := 2) (by decide)
    rw [leastF_1 rfl (by omega) (by omega)]
    rw [enoughB_ok rfl, cntF_in (by decide) (by decide)]
    exact Prod.ext rfl (decide_eq_true (by omega))
theorem keep2G {v : Int} (hv : v = 0 ∨ v = 1) {x : Nat} (hx : x % 3 = 2) {bs : List (Int × Bool)} (h : ∀ a, a < N → fa a = false → bs.getD a (0, false) = (v, true)) : ComV fa N v (exchG fa lie N F x bs) := by
  intro a ha hf
  unfold vlF
  rw [ex2G hx bs a ha, h a ha hf]
  have e : valF (v, true) = v := valF_same (by simp; omega)
  rw [obeyF_s (by rw [e]; omega) rfl, e]
  exact valF_same (by simp; omega)
/-- Behind exchange 0 honest nodes have one value, or do not know. -/
theorem ag0G (hF : facL fa N ≤ F) (hN : 3 * F < N) {x : Nat} (hx : x % 3 = 0) (bs : List (Int × Bool)) : ∃ v : Int, (v = 0 ∨ v = 1) ∧ ∀ a, a < N → fa a = false → vlF (exchG fa lie N F x bs) a = v ∨ vlF (exchG fa lie N F x bs) a = 2 := by
  have s := hv_sum (fa := fa) (N := N) bs
  by_cases h : ∃ a, a < N ∧ fa a = false ∧ vlF (exchG fa lie N F x bs) a = 1
  · obtain ⟨b, hb, hfb, h1⟩ := h
    rw [ex0G hx bs b hb] at h1
    have u1 := votes_hiG (fa := fa) (lie := lie) (N := N) 1 x b bs
    have q1 : (N : Int) - F ≤ (cntL 1 (votesG fa lie N x b bs) : Int) := by
      by_cases k : (N : Int) - F ≤ (cntL 1 (votesG fa lie N x b bs) : Int)
      · exact k
      · by_cases k2 : (N : Int) - F ≤ (cntL 0 (votesG fa lie N x b bs) : Int)
        · rw [mostF_0 rfl k k2] at h1; cases h1
        · rw [mostF_2 rfl k k2] at h1; cases h1
    refine ⟨1, .inr rfl, fun a ha hf => ?_⟩
    rw [ex0G hx bs a ha]
    have u0 := votes_hiG (fa := fa) (lie := lie) (N := N) 0 x a bs
    by_cases k : (N : Int) - F ≤ (cntL 1 (votesG fa lie N x a bs) : Int)
    · exact .inl (mostF_1 rfl k)
    · exact .inr (mostF_2 rfl k (by omega))
  · refine ⟨0, .inl rfl, fun a ha hf => ?_⟩
    have hb := valF_bd ((exchG fa lie N F x bs).getD a (0, false))
    have h1 : vlF (exchG fa lie N F x bs) a ≠ 1 := fun e => h ⟨a, ha, hf, e⟩
    unfold vlF at h1 ⊢
    omega
theorem ag1G {v : Int} (hv : v = 0 ∨ v = 1) (hF : facL fa N ≤ F) (hN : 3 * F < N) {x : Nat} (hx : x % 3 = 1) {bs : List (Int × Bool)} (h : ∀ a, a < N → fa a = false → vlF bs a = v ∨ vlF bs a = 2) :
    (∃ b, b < N ∧ fa b = false ∧ ((exchG fa lie N F x bs).getD b (0, false)).2 = true ∧ vlF (exchG fa lie N F x bs) b ≠ 2) → ComV fa N v (exchG fa lie N F x bs) := by
  have s := hv_sum (fa := fa) (N := N) bs
  rintro ⟨b, hb, hfb, hs, hn2⟩
  rw [ex1G hx bs b hb] at hn2
  rw [ex1G' hx bs b hb] at hs
  simp only at hs
  have hbv := h b hb hfb
  have u0 := votes_hiG (fa := fa) (lie := lie) (N := N) 0 x b bs
  have u1 := votes_hiG (fa := fa) (lie := lie) (N := N) 1 x b bs
  rw [enoughB_ok rfl] at hs
  have hs := of_decide_eq_true hs
  rcases hv with rfl | rfl
  · have z1 : hvL fa N bs 1 = 0 := hv_zero fun a ha hf => by rcases h a ha hf with e | e <;> omega
    have e0 : leastF 0 F (vlF bs b) (votesG fa lie N x b bs) = 0 := by
      by_cases k : (F : Int) + 1 ≤ (cntL 0 (votesG fa lie N x b bs) : Int)
      · exact leastF_0 rfl k
      · by_cases k2 : (F : Int) + 1 ≤ (cntL 2 (votesG fa lie N x b bs) : Int)
        · exact absurd (leastF_2 rfl k (by omega) k2) hn2
        · have e := leastF_n (now := vlF bs b) rfl k (by omega) k2
          rw [e] at hn2 ⊢
          omega
    rw [e0, cntF_in (by decide) (by decide)] at hs
    intro a ha hf
    rw [ex1G hx bs a ha]
    have l0 := votes_loG (fa := fa) (lie := lie) (N := N) 0 x a bs
    exact leastF_0 rfl (by omega)
  · have z1 : hvL fa N bs 0 = 0 := hv_zero fun a ha hf => by rcases h a ha hf with e | e <;> omega
    have e0 : leastF 0 F (vlF bs b) (votesG fa lie N x b bs) = 1 := by
      by_cases k : (F : Int) + 1 ≤ (cntL 1 (votesG fa lie N x b bs) : Int)
      · exact leastF_1 rfl (by omega) k
      · by_cases k2 : (F : Int) + 1 ≤ (cntL 2 (votesG fa lie N x b bs) : Int)
        · exact absurd (leastF_2 rfl (by omega) k k2) hn2
        · have e := leastF_n (now := vlF bs b) rfl (by omega) k k2
          rw [e] at hn2 ⊢
          omega
    rw [e0, cntF_in (by decide) (by decide)] at hs
    intro a ha hf
    rw [ex1G hx bs a ha]
    have l1 := votes_loG (fa := fa) (lie := lie) (N := N) 1 x a bs
    have u0' := votes_hiG (fa := fa) (lie := lie) (N := N) 0 x a bs
    exact leastF_1 rfl (by omega) (by omega)
theorem king_voteG {x : Nat} (hk : x / 3 < N) (hfk : fa (x / 3) = false) (bs : List (Int × Bool)) (a : Nat) : (votesG fa lie N x a bs).getD (x / 3) 0 = vlF bs (x / 3) := by
  unfold votesG
  rw [range_getD _ _ _ _ hk, say_hG hfk]
theorem ag2G {v : Int} (hv : v = 0 ∨ v = 1) {x : Nat} (hx : x % 3 = 2) (hk : x / 3 < N) (hfk : fa (x / 3) = false) {bs : List (Int × Bool)} (hs : (∃ b, b < N ∧ fa b = false ∧ (bs.getD b (0, false)).2 = true ∧ vlF bs b ≠ 2) → ComV fa N v bs) : ∃ u : Int, (u = 0 ∨ u = 1) ∧ ComV fa N u (exchG fa lie N F x bs) := by
  by_cases h : ∃ b, b < N ∧ fa b = false ∧ (bs.getD b (0, false)).2 = true ∧ vlF bs b ≠ 2
  · have hc := hs h
    refine ⟨v, hv, fun a ha hf => ?_⟩
    unfold vlF
    rw [ex2G hx bs a ha, king_voteG hk hfk, hc _ hk hfk]
    have e := hc a ha hf
    unfold vlF at e
    by_cases k : valF (bs.getD a (0, false)) ≠ 2 ∧ (bs.getD a (0, false)).2 = true
    · rw [obeyF_s k.1 k.2, e]
      exact valF_same (by simp; omega)
    · rcases hv with rfl | rfl
      · rw [obeyF_0 k (by decide)]; rfl
      · rw [obeyF_1 k (by decide)]; rfl
  · by_cases hq : vlF bs (x / 3) = 1 ∨ vlF bs (x / 3) = 2
    · refine ⟨1, .inr rfl, fun a ha hf => ?_⟩
      unfold vlF
      rw [ex2G hx bs a ha, king_voteG hk hfk, obeyF_1 (fun k => h ⟨a, ha, hf, k.2, k.1⟩) hq]
      rfl
    · refine ⟨0, .inl rfl, fun a ha hf => ?_⟩
      unfold vlF
      rw [ex2G hx bs a ha, king_voteG hk hfk, obeyF_0 (fun k => h ⟨a, ha, hf, k.2, k.1⟩) hq]
      rfl
variable {bs0 : List (Int × Bool)}
theorem play_stepG (x : Nat) : playG fa lie N F bs0 (x + 1) = exchG fa lie N F x (playG fa lie N F bs0 x) := rfl
theorem keep_phaseG {v : Int} (hv : v = 0 ∨ v = 1) (hF : facL fa N ≤ F) (hN : 3 * F < N) (m : Nat) (h : ComV fa N v (playG fa lie N F bs0 (3 * m))) : ComV fa N v (playG fa lie N F bs0 (3 * (m + 1))) := by
  rw [show 3 * (m + 1) = 3 * m + 1 + 1 + 1 by omega, play_stepG, play_stepG, play_stepG]
  exact keep2G hv (by omega) fun a ha hf => keep1G hv hF hN (by omega) (keep0G hv hF hN (by omega) h) a ha
theorem agree_phaseG (hF : facL fa N ≤ F) (hN : 3 * F < N) (m : Nat) (hm : m < N) (hfm : fa m = false) : ∃ u : Int, (u = 0 ∨ u = 1) ∧ ComV fa N u (playG fa lie N F bs0 (3 * (m + 1))) := by
  rw [show 3 * (m + 1) = 3 * m + 1 + 1 + 1 by omega, play_stepG, play_stepG, play_stepG]
  obtain ⟨v, hv, h0⟩ := ag0G (lie := lie) hF hN (x := 3 * m) (by omega) (playG fa lie N F bs0 (3 * m))
  have e : (3 * m + 1 + 1) / 3 = m := by omega
  exact ag2G hv (by omega) (by rw [e]; exact hm) (by rw [e]; exact hfm) (ag1G hv hF hN (by omega) h0)
theorem keep_allG {v : Int} (hv : v = 0 ∨ v = 1) (hF : facL fa N ≤ F) (hN : 3 * F < N) {m : Nat} (h : ComV fa N v (playG fa lie N F bs0 (3 * m))) (k : Nat) : ComV fa N v (playG fa lie N F bs0 (3 * (m + k))) := by
  induction k with
  | zero => exact h
  | succ k ih => exact keep_phaseG hv hF hN (m + k) ih
theorem one_honestG (hF : facL fa N ≤ F) (hN : 3 * F < N) : ∃ m, m ≤ F ∧ fa m = false := by
  by_cases h : ∃ m, m ≤ F ∧ fa m = false
  · exact h
  · exfalso
    have hall : ∀ a ∈ List.range (F + 1), fa a = true := fun a ha => by
      have := List.mem_range.1 ha
      cases e : fa a
      · exact absurd ⟨a, by omega, e⟩ h
      · rfl
    have h1 : (List.range (F + 1)).countP fa = (List.range (F + 1)).length := List.countP_eq_length.2 hall
    rw [List.length_range] at h1
    have h2 : (List.range (F + 1)).countP fa ≤ (List.range N).countP fa := by
      apply List.Sublist.countP_le
      exact List.range_sublist.2 (by omega)
    unfold facL at hF
    omega
/-- All honest nodes agree in the end. -/
theorem agree_allG (hF : facL fa N ≤ F) (hN : 3 * F < N) : ∃ u : Int, (u = 0 ∨ u = 1) ∧ ComV fa N u (playG fa lie N F bs0 (3 * (F + 1))) := by
  obtain ⟨m, hm, hfm⟩ := one_honestG hF hN
  obtain ⟨u, hu, h⟩ := agree_phaseG (lie := lie) (bs0 := bs0) hF hN m (by omega) hfm
  refine ⟨u, hu, ?_⟩
  have := keep_allG hu hF hN h (F - m)
  rwa [show m + 1 + (F - m) = F + 1 by omega] at this
/-- What all honest nodes begin with, they have in the end. -/
theorem keep_endG {v : Int} (hv : v = 0 ∨ v = 1) (hF : facL fa N ≤ F) (hN : 3 * F < N) (h : ComV fa N v bs0) : ComV fa N v (playG fa lie N F bs0 (3 * (F + 1))) := by
  have := keep_allG (lie := lie) (bs0 := bs0) hv hF hN (m := 0) h (F + 1)
  rwa [Nat.zero_add] at this
end
end Go.Proofs.Ytohgmliafidalaa

/- Plain mathematics: pulses of which each is begun by the one ahead of it become regular, from whatever is on its way; no conditions but those in the theorems. -/
namespace Go.Proofs.Ytohgmliafidalaa
set_option linter.unusedVariables false

/-- Since, a tick later; an instance's bit at first. -/
def nxF (P : Int) (s : Int) (pulse : Bool) : Int := if pulse = true then 0 else satF s P
def bgF (P L : Int) (s : Int) : Bool := decide (s = P - L ∨ P ≤ s)
theorem satF_in {s P : Int} (h0 : 0 ≤ s) (h1 : s ≤ P) : satF s P = if s = P then P else s + 1 := by
  unfold satF
  rw [if_neg (by omega)]
  by_cases h : s = P
  · rw [if_pos (by omega), if_pos h]
  · rw [if_neg (by omega), if_neg h]
theorem nxF_bd {P s : Int} (hP : 0 ≤ P) (b : Bool) : 0 ≤ nxF P s b ∧ nxF P s b ≤ P := by
  unfold nxF satF
  split
  · omega
  · split
    · omega
    · split <;> omega
/-- Pulses that come of themselves. -/
structure Alo (P L : Nat) (e : Nat → Bool) (s : Nat → Int) : Prop where
  l1 : 1 ≤ L
  l2 : 2 * L < P
  s0 : 0 ≤ s 0 ∧ s 0 ≤ P
  hs : ∀ t, s (t + 1) = nxF P (s t) (e (t + 1))
  he : ∀ t, e (t + L) = bgF P L (s t)
section
variable {P L : Nat} {e : Nat → Bool} {s : Nat → Int}
theorem Alo.bd (h : Alo P L e s) : ∀ t, 0 ≤ s t ∧ s t ≤ P
  | 0 => h.s0
  | t + 1 => by rw [h.hs t]; exact nxF_bd (by omega) _
/-- Without pulses Since goes up. -/
theorem Alo.up (h : Alo P L e s) (a : Nat) : ∀ k, (∀ j, 1 ≤ j → j ≤ k → e (a + j) = false) → s (a + k) = if s a + k ≤ P then s a + k else (P : Int)
  | 0, _ => by
    have := h.bd a
    rw [if_pos (by omega)]; simp
  | k + 1, hn => by
    have hb := h.bd (a + k)
    have ih := h.up a k (fun j h1 h2 => hn j h1 (by omega))
    have hs := h.hs (a + k)
    rw [show a + k + 1 = a + (k + 1) by omega, hn (k + 1) (by omega) (Nat.le_refl _)] at hs
    unfold nxF at hs
    rw [if_neg (by decide), satF_in hb.1 hb.2, ih] at hs
    rw [hs]
    by_cases h1 : s a + k ≤ P
    · rw [if_pos h1]
      by_cases h2 : s a + k = P
      · rw [if_pos h2, if_neg (by omega)]
      · rw [if_neg h2, if_pos (by omega)]; omega
    · rw [if_neg h1, if_pos rfl, if_neg (by omega)]
/-- Whatever comes, Since goes up by one a tick at most. -/
theorem Alo.slow (h : Alo P L e s) (a : Nat) : ∀ k, s (a + k) ≤ s a + k
  | 0 => by simp
  | k + 1 => by
    have hb := h.bd (a + k)
    have ha := h.bd a
    have ih := h.slow a k
    have hs := h.hs (a + k)
    rw [show a + (k + 1) = a + k + 1 by omega, hs]
    unfold nxF
    split
    · omega
    · rw [satF_in hb.1 hb.2]; split <;> omega
theorem Alo.zero (h : Alo P L e s) {u : Nat} (hu : 1 ≤ u) (hp : e u = true) : s u = 0 := by
  obtain ⟨t, rfl⟩ : ∃ t, u = t + 1 := ⟨u - 1, by omega⟩
  rw [h.hs t, hp]
  rfl
theorem bgF_lo {P L : Nat} {s : Int} (h1 : s < (P : Int) - L) : bgF P L s = false := decide_eq_false (by omega)
theorem bgF_mid {P L : Nat} {s : Int} (h1 : (P : Int) - L < s) (h2 : s < P) : bgF P L s = false := decide_eq_false (by omega)
theorem bgF_at {P L : Nat} : bgF P L ((P : Int) - L) = true := decide_eq_true (.inl rfl)
theorem bgF_hi {P L : Nat} : bgF P L (P : Int) = true := decide_eq_true (.inr (Int.le_refl _))
/-- Behind a pulse nothing is begun for a while. -/
theorem Alo.quiet (h : Alo P L e s) {u : Nat} (hu : 1 ≤ u) (hp : e u = true) (k : Nat) (hk : k + L < P) : e (u + k + L) = false := by
  rw [h.he (u + k)]
  refine bgF_lo ?_
  have h1 := h.slow u k
  rw [h.zero hu hp] at h1
  omega
/-- There is a pulse. -/
theorem Alo.some (h : Alo P L e s) : ∃ u, L ≤ u ∧ u < P + L ∧ e u = true := by
  by_cases hx : ∃ u, L ≤ u ∧ u < P + L ∧ e u = true
  · exact hx
  · exfalso
    have hl := h.l1
    have hl2 := h.l2
    have hn : ∀ u, L ≤ u → u < P + L → e u = false := fun u h1 h2 => by
      cases hu : e u
      · rfl
      · exact absurd ⟨u, h1, h2, hu⟩ hx
    obtain ⟨a, ha⟩ : ∃ a, L = a + 1 := ⟨L - 1, by omega⟩
    have hb := h.bd a
    obtain ⟨q, hq⟩ : ∃ q : Nat, s a = q := ⟨(s a).toNat, by omega⟩
    have hup := fun k (hk : k < P) => h.up a k (fun j h1 h2 => hn (a + j) (by omega) (by omega))
    by_cases hc : q + L ≤ P
    · have h1 := hup (P - L - q) (by omega)
      rw [hq, if_pos (by omega)] at h1
      have h2 := h.he (a + (P - L - q))
      rw [h1, show (q : Int) + ((P - L - q : Nat) : Int) = (P : Int) - L by omega, bgF_at, hn _ (by omega) (by omega)] at h2
      cases h2
    · have h1 := hup (P - q) (by omega)
      rw [hq, if_pos (by omega)] at h1
      have h2 := h.he (a + (P - q))
      rw [h1, show (q : Int) + ((P - q : Nat) : Int) = (P : Int) by omega, bgF_hi, hn _ (by omega) (by omega)] at h2
      cases h2
/-- A last one in a stretch. -/
theorem last_one (e : Nat → Bool) (u : Nat) (hu : e u = true) : ∀ n, ∃ v, u ≤ v ∧ v ≤ u + n ∧ e v = true ∧ ∀ t, v < t → t ≤ u + n → e t = false
  | 0 => ⟨u, Nat.le_refl _, Nat.le_refl _, hu, fun t h1 h2 => by omega⟩
  | n + 1 => by
    obtain ⟨v, h1, h2, h3, h4⟩ := last_one e u hu n
    by_cases h : e (u + (n + 1)) = true
    · exact ⟨u + (n + 1), by omega, Nat.le_refl _, h, fun t h1 h2 => by omega⟩
    · refine ⟨v, h1, by omega, h3, fun t q1 q2 => ?_⟩
      by_cases e2 : t = u + (n + 1)
      · subst e2; simpa using h
      · exact h4 t q1 (by omega)
/-- A pulse with none behind it for a period. -/
def Lone (P : Nat) (e : Nat → Bool) (v : Nat) : Prop := e v = true ∧ ∀ t, v < t → t < v + P → e t = false
theorem Alo.step (h : Alo P L e s) {v : Nat} (hv : 1 ≤ v) (hl : Lone P e v) : Lone P e (v + P) := by
  have l1 := h.l1
  have l2 := h.l2
  have hz := h.zero hv hl.1
  have hup := fun k (hk : k < P) => h.up v k (fun j h1 h2 => hl.2 (v + j) (by omega) (by omega))
  have hat : ∀ k, k < P → s (v + k) = k := fun k hk => by rw [hup k hk, hz, if_pos (by omega)]; omega
  have hp : e (v + P) = true := by
    have h2 := h.he (v + (P - L))
    rw [hat (P - L) (by omega), show ((P - L : Nat) : Int) = (P : Int) - L by omega, bgF_at, show v + (P - L) + L = v + P by omega] at h2
    exact h2
  refine ⟨hp, fun t h1 h2 => ?_⟩
  by_cases hc : t < v + P + L
  · obtain ⟨j, rfl⟩ : ∃ j, t = v + (P - L + j) + L := ⟨t - (v + P), by omega⟩
    rw [h.he (v + (P - L + j)), hat (P - L + j) (by omega)]
    exact bgF_mid (by omega) (by omega)
  · obtain ⟨k, rfl⟩ : ∃ k, t = v + P + k + L := ⟨t - (v + P + L), by omega⟩
    exact h.quiet (by omega) hp k (by omega)
theorem Alo.lone (h : Alo P L e s) : ∃ v, 1 ≤ v ∧ v < P + 2 * L ∧ Lone P e v := by
  have l1 := h.l1
  have l2 := h.l2
  obtain ⟨u, h1, h2, h3⟩ := h.some
  obtain ⟨v, q1, q2, q3, q4⟩ := last_one e u h3 (L - 1)
  refine ⟨v, by omega, by omega, q3, fun t r1 r2 => ?_⟩
  by_cases c1 : t < u + L
  · exact q4 t r1 (by omega)
  · by_cases c2 : t < u + P
    · obtain ⟨k, rfl⟩ : ∃ k, t = u + k + L := ⟨t - (u + L), by omega⟩
      exact h.quiet (by omega) h3 k (by omega)
    · obtain ⟨k, rfl⟩ : ∃ k, t = v + k + L := ⟨t - (v + L), by omega⟩
      exact h.quiet (by omega) q3 k (by omega)
theorem Alo.many (h : Alo P L e s) {v : Nat} (hv : 1 ≤ v) (hl : Lone P e v) : ∀ n, Lone P e (v + n * P)
  | 0 => by simpa using hl
  | n + 1 => by
    have := h.step (v := v + n * P) (by omega) (h.many hv hl n)
    rw [show v + (n + 1) * P = v + n * P + P by rw [Nat.add_mul]; omega]
    exact this
/-- From a period and two lengths on there is a pulse each period, and no other. -/
theorem Alo.regular (h : Alo P L e s) : ∃ v, 1 ≤ v ∧ v < P + 2 * L ∧ ∀ t, v ≤ t → (e t = true ↔ (t - v) % P = 0) := by
  obtain ⟨v, h1, h2, h3⟩ := h.lone
  have l2 := h.l2
  refine ⟨v, h1, h2, fun t ht => ?_⟩
  have hm := h.many h1 h3 ((t - v) / P)
  have hdm := Nat.div_add_mod (t - v) P
  have hlt := Nat.mod_lt (t - v) (show 0 < P by omega)
  rw [Nat.mul_comm] at hdm
  constructor
  · intro he
    by_cases c : (t - v) % P = 0
    · exact c
    · have := hm.2 t (by omega) (by omega)
      rw [he] at this
      cases this
  · intro c
    have : t = v + (t - v) / P * P := by omega
    rw [this]
    exact hm.1
end
/-- In each stretch of a period one place is a pulse's. -/
theorem one_place {P u i : Nat} (hP : 0 < P) (hi : u ≤ i) : ∃ r, r < P ∧ ∀ j, j < P → ((i + j - u) % P = 0 ↔ j = r) := by
  have hlt := Nat.mod_lt (i - u) hP
  have hdm := Nat.div_add_mod (i - u) P
  refine ⟨(P - (i - u) % P) % P, Nat.mod_lt _ hP, fun j hj => ?_⟩
  have e : (i + j - u) % P = ((i - u) % P + j) % P := by rw [show i + j - u = (i - u) + j by omega, Nat.add_mod, Nat.mod_eq_of_lt hj]
  rw [e]
  generalize (i - u) % P = q at *
  by_cases h0 : q = 0
  · subst h0
    rw [Nat.zero_add, Nat.mod_eq_of_lt hj, Nat.sub_zero, Nat.mod_self]
  · rw [Nat.mod_eq_of_lt (show P - q < P by omega)]
    by_cases c : q + j < P
    · rw [Nat.mod_eq_of_lt c]; omega
    · rw [Nat.mod_eq_sub_mod (by omega), Nat.mod_eq_of_lt (by omega)]; omega
end Go.Proofs.Ytohgmliafidalaa

/- Plain mathematics: nodes whose instances of agreement run side by side, each begun by the bit of Since, pulse together in the end, whatever they begin with and whatever faulty ones tell; no conditions but those in the theorems. -/
namespace Go.Proofs.Ytohgmliafidalaa
open Go.ChangeShapes Go.WideShapes Go.ChangeAt Go.RowKit
set_option linter.unusedVariables false

/-- The votes that node i hears for exchange x at step t. -/
def heardL (V : Nat → Nat → Nat → Nat → Int) (N t i x : Nat) : List Int := (List.range N).map fun k => V t k i x
/-- A bit of node i that hears exchange x at step t. -/
def hearB1 (V : Nat → Nat → Nat → Nat → Int) (N F t i x : Nat) (b : Int × Bool) : Int × Bool := stepF 0 N F x b ((heardL V N t i x).getD (x / 3) 0) (heardL V N t i x)
/-- A cluster, step by step: B i t a: node i's bit of the instance that is a ticks old behind step t; S i t: its Since; E i t: its pulse at step t; V t k i x: what it hears of node k for exchange x at step t. -/
structure Clu (N F D P : Nat) (fa : Nat → Bool) (B : Nat → Nat → Nat → Int × Bool) (S : Nat → Nat → Int) (E : Nat → Nat → Bool) (V : Nat → Nat → Nat → Nat → Int) : Prop where
  d1 : 1 ≤ D
  fac : facL fa N ≤ F
  big : 3 * F < N
  per : 2 * (3 * (F + 1) * D) < P
  hV : ∀ t k i x, 1 ≤ t → k < N → fa k = false → i < N → x < 3 * (F + 1) → V (t + D) k i x = valF (B k t (x * D))
  hM : ∀ t i a, i < N → a + 1 < 3 * (F + 1) * D → B i (t + 1) (a + 1) = if (a + 1) % D = 0 then hearB1 V N F (t + 1) i ((a + 1) / D - 1) (B i t a) else B i t a
  hB : ∀ t i, i < N → B i (t + 1) 0 = startF (if bgF P (3 * (F + 1) * D : Nat) (S i (t + 1)) = true then 1 else 0)
  hE : ∀ t i, i < N → E i (t + 1) = decide (valF (hearB1 V N F (t + 1) i (3 * F + 2) (B i t (3 * (F + 1) * D - 1))) = 1)
  hS : ∀ t i, i < N → S i (t + 1) = nxF P (S i t) (E i (t + 1))
section
variable {N F D P : Nat} {fa : Nat → Bool} {B : Nat → Nat → Nat → Int × Bool} {S : Nat → Nat → Int} {E : Nat → Nat → Bool} {V : Nat → Nat → Nat → Nat → Int}
/-- What a faulty node tells for an instance that began behind step t0. -/
def lieC (V : Nat → Nat → Nat → Nat → Int) (D t0 : Nat) (x k i : Nat) : Int := V (t0 + (x + 1) * D) k i x
def begC (N P L : Nat) (S : Nat → Nat → Int) (t0 : Nat) : List (Int × Bool) := (List.range N).map fun i => startF (if bgF P (L : Int) (S i t0) = true then 1 else 0)
theorem Clu.hears (h : Clu N F D P fa B S E V) (t0 : Nat) (ht : 1 ≤ t0) (x : Nat) (hx : x < 3 * (F + 1)) (bs : List (Int × Bool)) (ih : ∀ k, k < N → B k (t0 + x * D) (x * D) = bs.getD k (0, false)) (i : Nat) (hi : i < N) (b : Int × Bool) (hb : b = bs.getD i (0, false)) :
    hearB1 V N F (t0 + (x + 1) * D) i x b = stepG fa (lieC V D t0) N F x bs i := by
  have e : heardL V N (t0 + (x + 1) * D) i x = votesG fa (lieC V D t0) N x i bs := by
    unfold heardL votesG
    apply List.map_congr_left
    intro k hk
    have hk := List.mem_range.1 hk
    unfold sayG
    by_cases hf : fa k = true
    · rw [if_pos hf]; rfl
    · rw [if_neg hf, ← ih k hk]
      have := h.hV (t0 + x * D) k i x (by omega) hk (by simpa using hf) hi hx
      rw [show t0 + (x + 1) * D = t0 + x * D + D by rw [Nat.add_mul]; omega]
      exact this
  unfold hearB1 stepG
  rw [e, hb]
/-- An instance goes on as it would alone. -/
theorem Clu.track (h : Clu N F D P fa B S E V) (t0 : Nat) (ht : 1 ≤ t0) : ∀ a, a < 3 * (F + 1) * D → ∀ i, i < N → B i (t0 + a) a = (playG fa (lieC V D t0) N F (begC N P (3 * (F + 1) * D) S t0) (a / D)).getD i (0, false) := by
  intro a
  induction a using Nat.strongRecOn with
  | _ a ih =>
    intro ha i hi
    have hd := h.d1
    cases a with
    | zero =>
      obtain ⟨t, rfl⟩ : ∃ t, t0 = t + 1 := ⟨t0 - 1, by omega⟩
      rw [Nat.zero_div, Nat.add_zero, h.hB t i hi]
      have e := range_getD (0, false) N (fun i => startF (if bgF P (3 * (F + 1) * D : Nat) (S i (t + 1)) = true then 1 else 0)) i hi
      exact e.symm
    | succ a =>
      have hi1 := ih a (Nat.lt_succ_self a) (by omega) i hi
      have hm := h.hM (t0 + a) i a hi ha
      rw [show t0 + (a + 1) = t0 + a + 1 by omega, hm]
      by_cases c : (a + 1) % D = 0
      · rw [if_pos c]
        obtain ⟨x, hx⟩ : ∃ x, (a + 1) / D = x + 1 := by
          have : 0 < (a + 1) / D := Nat.div_pos (Nat.le_of_dvd (by omega) (Nat.dvd_of_mod_eq_zero c)) (by omega)
          exact ⟨(a + 1) / D - 1, by omega⟩
        have hax : a + 1 = (x + 1) * D := by
          have := Nat.div_add_mod (a + 1) D
          rw [c, hx, Nat.mul_comm] at this
          omega
        have hax2 : (x + 1) * D = x * D + D := by rw [Nat.add_mul]; omega
        have hxR : x < 3 * (F + 1) := by
          have : (x + 1) * D < 3 * (F + 1) * D := by omega
          have := Nat.lt_of_mul_lt_mul_right this
          omega
        have hada : a / D = x := by
          rw [Nat.div_eq_iff (by omega)]
          omega
        rw [hada] at hi1
        rw [hx, Nat.add_sub_cancel]
        have e := h.hears t0 ht x hxR (playG fa (lieC V D t0) N F (begC N P (3 * (F + 1) * D) S t0) x) (fun k hk => by
          have := ih (x * D) (by omega) (by omega) k hk
          rwa [Nat.mul_div_cancel _ (by omega)] at this) i hi (B i (t0 + a) a) hi1
        rw [show t0 + a + 1 = t0 + (x + 1) * D by omega, e]
        exact (exch_atG x _ i hi).symm
      · rw [if_neg c, hi1]
        have : (a + 1) / D = a / D := by
          have h1 := Nat.div_add_mod (a + 1) D
          have h2 := Nat.mod_lt (a + 1) (show 0 < D by omega)
          symm
          rw [Nat.div_eq_iff (by omega)]
          rw [Nat.mul_comm] at h1
          constructor <;> omega
        rw [this]
/-- What an instance ends with. -/
theorem Clu.ends (h : Clu N F D P fa B S E V) (t0 : Nat) (ht : 1 ≤ t0) (i : Nat) (hi : i < N) : E i (t0 + 3 * (F + 1) * D) = decide (vlF (playG fa (lieC V D t0) N F (begC N P (3 * (F + 1) * D) S t0) (3 * (F + 1))) i = 1) := by
  have hd := h.d1
  have hL : 3 * (F + 1) * D = (3 * F + 2) * D + D := by rw [show 3 * (F + 1) = (3 * F + 2) + 1 by omega, Nat.add_mul]; omega
  obtain ⟨t, he⟩ : ∃ t, t0 + 3 * (F + 1) * D = t + 1 := ⟨t0 + 3 * (F + 1) * D - 1, by omega⟩
  have hE := h.hE t i hi
  rw [← he] at hE
  have htr := h.track t0 ht (3 * (F + 1) * D - 1) (by omega) i hi
  rw [show t0 + (3 * (F + 1) * D - 1) = t by omega] at htr
  have hdv : (3 * (F + 1) * D - 1) / D = 3 * F + 2 := by
    rw [Nat.div_eq_iff (by omega)]
    constructor <;> omega
  rw [hdv] at htr
  have e := h.hears t0 ht (3 * F + 2) (by omega) (playG fa (lieC V D t0) N F (begC N P (3 * (F + 1) * D) S t0) (3 * F + 2)) (fun k hk => by
    have := h.track t0 ht ((3 * F + 2) * D) (by omega) k hk
    rwa [Nat.mul_div_cancel _ (by omega)] at this) i hi _ htr
  rw [show t0 + (3 * F + 2 + 1) * D = t0 + 3 * (F + 1) * D by rw [show 3 * F + 2 + 1 = 3 * (F + 1) by omega]] at e
  rw [hE, e]
  have e2 : (playG fa (lieC V D t0) N F (begC N P (3 * (F + 1) * D) S t0) (3 * (F + 1))).getD i (0, false) = stepG fa (lieC V D t0) N F (3 * F + 2) (playG fa (lieC V D t0) N F (begC N P (3 * (F + 1) * D) S t0) (3 * F + 2)) i := by
    rw [show 3 * (F + 1) = (3 * F + 2) + 1 by omega]
    exact exch_atG _ _ i hi
  unfold vlF
  rw [e2]
/-- Ends are common. -/
theorem Clu.common (h : Clu N F D P fa B S E V) (t0 : Nat) (ht : 1 ≤ t0) : ∃ b : Bool, ∀ i, i < N → fa i = false → E i (t0 + 3 * (F + 1) * D) = b := by
  obtain ⟨u, hu, hc⟩ := agree_allG (lie := lieC V D t0) (bs0 := begC N P (3 * (F + 1) * D) S t0) h.fac h.big
  exact ⟨decide (u = 1), fun i hi hf => by rw [h.ends t0 ht i hi, hc i hi hf]⟩
/-- A bit that all began with is what all end with. -/
theorem Clu.kept (h : Clu N F D P fa B S E V) (t0 : Nat) (ht : 1 ≤ t0) (b : Bool) (hb : ∀ i, i < N → fa i = false → bgF P (3 * (F + 1) * D : Nat) (S i t0) = b) (i : Nat) (hi : i < N) (hf : fa i = false) : E i (t0 + 3 * (F + 1) * D) = b := by
  have hk := keep_endG (lie := lieC V D t0) (bs0 := begC N P (3 * (F + 1) * D) S t0) (v := if b = true then 1 else 0) (by cases b <;> decide) h.fac h.big (fun a ha hfa => by
    unfold vlF begC
    rw [range_getD (0, false) _ _ _ ha, hb a ha hfa]
    cases b <;> rfl)
  rw [h.ends t0 ht i hi, hk i hi hf]
  cases b <;> rfl
theorem Clu.bd (h : Clu N F D P fa B S E V) (i : Nat) (hi : i < N) (t : Nat) (ht : 1 ≤ t) : 0 ≤ S i t ∧ S i t ≤ P := by
  obtain ⟨t, rfl⟩ : ∃ q, t = q + 1 := ⟨t - 1, by omega⟩
  rw [h.hS t i hi]
  exact nxF_bd (by omega) _
/-- Since is common, a period behind the first common end. -/
theorem Clu.since (h : Clu N F D P fa B S E V) (i j : Nat) (hi : i < N) (hj : j < N) (fi : fa i = false) (fj : fa j = false) :
    ∀ k, S i (3 * (F + 1) * D + k) = S j (3 * (F + 1) * D + k) ∨ (k ≤ P ∧ (k : Int) ≤ S i (3 * (F + 1) * D + k) ∧ (k : Int) ≤ S j (3 * (F + 1) * D + k)) := by
  have hd := h.d1
  have hL : 1 ≤ 3 * (F + 1) * D := Nat.mul_pos (by omega) hd
  intro k
  induction k with
  | zero =>
    right
    have h1 := h.bd i hi (3 * (F + 1) * D) hL
    have h2 := h.bd j hj (3 * (F + 1) * D) hL
    exact ⟨by omega, by simpa using h1.1, by simpa using h2.1⟩
  | succ k ih =>
    obtain ⟨b, hb⟩ := h.common (k + 1) (by omega)
    have ei := hb i hi fi
    have ej := hb j hj fj
    rw [show k + 1 + 3 * (F + 1) * D = 3 * (F + 1) * D + k + 1 by omega] at ei ej
    have s1 := h.hS (3 * (F + 1) * D + k) i hi
    have s2 := h.hS (3 * (F + 1) * D + k) j hj
    rw [ei] at s1
    rw [ej] at s2
    rw [show 3 * (F + 1) * D + (k + 1) = 3 * (F + 1) * D + k + 1 by omega]
    rcases ih with q | ⟨q1, q2, q3⟩
    · left; rw [s1, s2, q]
    · have b1 := h.bd i hi (3 * (F + 1) * D + k) (by omega)
      have b2 := h.bd j hj (3 * (F + 1) * D + k) (by omega)
      cases b
      · unfold nxF at s1 s2
        rw [if_neg (by decide), satF_in b1.1 b1.2] at s1
        rw [if_neg (by decide), satF_in b2.1 b2.2] at s2
        by_cases c : k = P
        · left
          rw [s1, s2, if_pos (by omega), if_pos (by omega)]
        · right
          refine ⟨by omega, ?_, ?_⟩
          · rw [s1]; split <;> omega
          · rw [s2]; split <;> omega
      · left; rw [s1, s2]; rfl
theorem Clu.same (h : Clu N F D P fa B S E V) (i j : Nat) (hi : i < N) (hj : j < N) (fi : fa i = false) (fj : fa j = false) (t : Nat) (ht : 3 * (F + 1) * D + P ≤ t) : S i t = S j t := by
  have hd := h.d1
  have hL : 1 ≤ 3 * (F + 1) * D := Nat.mul_pos (by omega) hd
  obtain ⟨k, rfl⟩ : ∃ k, t = 3 * (F + 1) * D + k := ⟨t - 3 * (F + 1) * D, by omega⟩
  rcases h.since i j hi hj fi fj k with q | ⟨q1, q2, q3⟩
  · exact q
  · have b1 := h.bd i hi (3 * (F + 1) * D + k) (by omega)
    have b2 := h.bd j hj (3 * (F + 1) * D + k) (by omega)
    omega
/-- From then on pulses come of themselves. -/
theorem Clu.alone (h : Clu N F D P fa B S E V) (i : Nat) (hi : i < N) (fi : fa i = false) : Alo P (3 * (F + 1) * D) (fun t => E i (3 * (F + 1) * D + P + t)) (fun t => S i (3 * (F + 1) * D + P + t)) := by
  have hd := h.d1
  have hL : 1 ≤ 3 * (F + 1) * D := Nat.mul_pos (by omega) hd
  refine ⟨hL, h.per, h.bd i hi _ (by omega), fun t => ?_, fun t => ?_⟩
  · have := h.hS (3 * (F + 1) * D + P + t) i hi
    exact this
  · have hk := h.kept (3 * (F + 1) * D + P + t) (by omega) (bgF P (3 * (F + 1) * D : Nat) (S i (3 * (F + 1) * D + P + t))) (fun j hj fj => by rw [h.same j i hj hi fj fi _ (by omega)]) i hi fi
    show E i (3 * (F + 1) * D + P + (t + 3 * (F + 1) * D)) = _
    rw [show 3 * (F + 1) * D + P + (t + 3 * (F + 1) * D) = 3 * (F + 1) * D + P + t + 3 * (F + 1) * D by omega]
    exact hk
/-- Nodes pulse together, each period, and else never. -/
theorem Clu.settles (h : Clu N F D P fa B S E V) : ∃ v, v < 3 * (3 * (F + 1) * D) + 2 * P ∧ ∀ i, i < N → fa i = false → ∀ t, v ≤ t → (E i t = true ↔ (t - v) % P = 0) := by
  obtain ⟨m, hm, hf⟩ := one_honestG h.fac h.big
  have hmN : m < N := by have := h.big; omega
  have hd := h.d1
  have hL : 1 ≤ 3 * (F + 1) * D := Nat.mul_pos (by omega) hd
  obtain ⟨v, h1, h2, h3⟩ := (h.alone m hmN hf).regular
  refine ⟨3 * (F + 1) * D + P + v, by omega, fun i hi fi t ht => ?_⟩
  have hcom : E i t = E m t := by
    obtain ⟨b, hb⟩ := h.common (t - 3 * (F + 1) * D) (by omega)
    rw [show t - 3 * (F + 1) * D + 3 * (F + 1) * D = t by omega] at hb
    rw [hb i hi fi, hb m hmN hf]
  have := h3 (t - (3 * (F + 1) * D + P)) (by omega)
  rw [show 3 * (F + 1) * D + P + (t - (3 * (F + 1) * D + P)) = t by omega, show t - (3 * (F + 1) * D + P) - v = t - (3 * (F + 1) * D + P + v) by omega] at this
  rw [hcom]
  exact this
end
end Go.Proofs.Ytohgmliafidalaa

/- Plain mathematics of rows of bytes that are moved one place on, stretch by stretch: what is laid over a row, what a stretch is when it was shifted, the row when all were; no conditions but those in the theorems. -/
namespace Go.Proofs.Ytohgmliafidalaa
set_option linter.unusedVariables false

/-- The byte at a place, if there is one. -/
def at8 (l : List UInt8) (j : Nat) : UInt8 := l.getD j 0
theorem at8_lt {l : List UInt8} {j : Nat} (h : j < l.length) : at8 l j = l[j] := by
  unfold at8
  rw [List.getD_eq_getElem?_getD, List.getElem?_eq_getElem h, Option.getD_some]
theorem at8_ext {a b : List UInt8} (hl : a.length = b.length) (h : ∀ j, j < a.length → at8 a j = at8 b j) : a = b := by
  apply List.ext_getElem hl
  intro i h1 h2
  have := h i h1
  rwa [at8_lt h1, at8_lt h2] at this
theorem at8_map {n : Nat} (g : Nat → UInt8) {j : Nat} (h : j < n) : at8 ((List.range n).map g) j = g j := by
  rw [at8_lt (by simpa using h)]
  simp
theorem at8_set {l : List UInt8} {o : Nat} (c : UInt8) (h : o < l.length) (j : Nat) : at8 (l.set o c) j = if j = o then c else at8 l j := by
  unfold at8
  rw [List.getD_eq_getElem?_getD, List.getD_eq_getElem?_getD, List.getElem?_set]
  by_cases e : o = j
  · rw [if_pos e, if_pos h, if_pos e.symm]; rfl
  · rw [if_neg e, if_neg (fun k => e k.symm)]
/-- Bytes laid over a row from a place on. -/
def ovr (l : List UInt8) : Nat → List UInt8 → List UInt8
  | _, [] => l
  | o, c :: r => ovr (l.set o c) (o + 1) r
theorem ovr_len : ∀ (r : List UInt8) (l : List UInt8) (o : Nat), (ovr l o r).length = l.length
  | [], _, _ => rfl
  | c :: r, l, o => by
    show (ovr (l.set o c) (o + 1) r).length = _
    rw [ovr_len r]
    simp
theorem at8_ovr : ∀ (r : List UInt8) (l : List UInt8) (o : Nat), o + r.length ≤ l.length → ∀ j, at8 (ovr l o r) j = if o ≤ j ∧ j < o + r.length then at8 r (j - o) else at8 l j
  | [], l, o, _, j => by
    rw [if_neg (by simp only [List.length_nil]; omega)]
    rfl
  | c :: r, l, o, h, j => by
    rw [List.length_cons] at h
    have ih := at8_ovr r (l.set o c) (o + 1) (by simp; omega) j
    show at8 (ovr (l.set o c) (o + 1) r) j = _
    rw [ih, at8_set c (by omega), List.length_cons]
    by_cases e1 : o + 1 ≤ j ∧ j < o + 1 + r.length
    · rw [if_pos e1, if_pos (by omega)]
      obtain ⟨i, rfl⟩ : ∃ i, j = o + 1 + i := ⟨j - (o + 1), by omega⟩
      rw [show o + 1 + i - (o + 1) = i by omega, show o + 1 + i - o = i + 1 by omega]
      rfl
    · rw [if_neg e1]
      by_cases e2 : j = o
      · rw [if_pos e2, if_pos (by omega), e2, Nat.sub_self]
        rfl
      · rw [if_neg e2, if_neg (by omega)]
/-- A stretch, one place on, with a byte at its head. -/
def shL (l : List UInt8) (off D : Nat) (c : UInt8) : List UInt8 := (List.range l.length).map fun j => if j = off then c else if off < j ∧ j < off + D then at8 l (j - 1) else at8 l j
theorem shL_len (l : List UInt8) (off D : Nat) (c : UInt8) : (shL l off D c).length = l.length := by simp [shL]
theorem shL_ovr {l : List UInt8} {off D : Nat} (c : UInt8) (hD : 1 ≤ D) (h : off + D ≤ l.length) : ovr (ovr l (off + 1) ((l.drop off).take (D - 1))) off [c] = shL l off D c := by
  have e1 : ((l.drop off).take (D - 1)).length = D - 1 := by rw [List.length_take, List.length_drop]; omega
  apply at8_ext
  · rw [ovr_len, ovr_len, shL_len]
  · intro j hj
    rw [ovr_len, ovr_len] at hj
    rw [at8_ovr _ _ _ (by rw [ovr_len]; simp; omega), at8_ovr _ _ _ (by rw [e1]; omega), e1]
    unfold shL
    rw [at8_map _ hj]
    simp only [List.length_singleton]
    by_cases c1 : j = off
    · subst c1
      rw [if_pos (by omega), if_pos rfl, Nat.sub_self]
      rfl
    · rw [if_neg (by omega), if_neg c1]
      by_cases c2 : off < j ∧ j < off + D
      · rw [if_pos (by omega), if_pos c2]
        unfold at8
        rw [List.getD_eq_getElem?_getD, List.getD_eq_getElem?_getD, List.getElem?_take, if_pos (by omega), List.getElem?_drop]
        congr 2
        omega
      · rw [if_neg (by omega), if_neg c2]
/-- A byte at an age, a tick later, and all of them; h: what a byte is when an exchange was heard. -/
def oldB (h : Nat → UInt8 → UInt8) (D a : Nat) (b : UInt8) : UInt8 := if a % D = 0 then h (a / D - 1) b else b
def newB (h : Nat → UInt8 → UInt8) (D : Nat) (l : List UInt8) (a : Nat) : UInt8 := if a = 0 then 48 else oldB h D a (at8 l (a - 1))
def newL (h : Nat → UInt8 → UInt8) (D : Nat) (l : List UInt8) : List UInt8 := (List.range l.length).map (newB h D l)
/-- .. of which so many stretches are done. -/
def mixL (h : Nat → UInt8 → UInt8) (D : Nat) (l : List UInt8) (x : Nat) : List UInt8 := (List.range l.length).map fun j => if j < x * D then newB h D l j else at8 l j
theorem newL_len (h : Nat → UInt8 → UInt8) (D : Nat) (l : List UInt8) : (newL h D l).length = l.length := by simp [newL]
theorem mixL_len (h : Nat → UInt8 → UInt8) (D : Nat) (l : List UInt8) (x : Nat) : (mixL h D l x).length = l.length := by simp [mixL]
theorem newB_0 (h : Nat → UInt8 → UInt8) (D : Nat) (l : List UInt8) : newB h D l 0 = 48 := if_pos rfl
theorem newB_s (h : Nat → UInt8 → UInt8) (D : Nat) (l : List UInt8) (a : Nat) : newB h D l (a + 1) = oldB h D (a + 1) (at8 l a) := if_neg (by omega)
theorem mix_0 (h : Nat → UInt8 → UInt8) (D : Nat) (l : List UInt8) : mixL h D l 0 = l := by
  apply at8_ext
  · rw [mixL_len]
  · intro j hj
    rw [mixL_len] at hj
    unfold mixL
    rw [at8_map _ hj, if_neg (by omega)]
theorem mix_all (h : Nat → UInt8 → UInt8) (D : Nat) (l : List UInt8) {R : Nat} (hl : l.length = R * D) : mixL h D l R = newL h D l := by
  apply at8_ext
  · rw [mixL_len, newL_len]
  · intro j hj
    rw [mixL_len] at hj
    unfold mixL newL
    rw [at8_map _ hj, at8_map _ hj, if_pos (by omega)]
theorem mod_place {D x i : Nat} (h : i < D) : (x * D + i) % D = i := by rw [Nat.add_comm, Nat.add_mul_mod_self_right, Nat.mod_eq_of_lt h]
theorem mix_last (h : Nat → UInt8 → UInt8) {D : Nat} (l : List UInt8) {x : Nat} (hD : 1 ≤ D) (hx : x * D + D ≤ l.length) : at8 (mixL h D l x) (x * D + D - 1) = at8 l (x * D + D - 1) := by
  unfold mixL
  rw [at8_map _ (by omega), if_neg (by omega)]
theorem mix_come (h : Nat → UInt8 → UInt8) {D : Nat} (l : List UInt8) (x : Nat) (hD : 1 ≤ D) : newB h D l (x * D + D) = h x (at8 l (x * D + D - 1)) := by
  have e1 : (x * D + D) % D = 0 := by rw [Nat.add_mod_right, Nat.mul_mod_left]
  have e2 : (x * D + D) / D = x + 1 := by rw [Nat.add_div_right _ (by omega), Nat.mul_div_cancel _ (by omega)]
  unfold newB oldB
  rw [if_neg (by omega), if_pos e1, e2, Nat.add_sub_cancel]
theorem mixL_at (h : Nat → UInt8 → UInt8) (D : Nat) (l : List UInt8) (x : Nat) {j : Nat} (hj : j < l.length) : at8 (mixL h D l x) j = if j < x * D then newB h D l j else at8 l j := at8_map _ hj
theorem shL_at (l : List UInt8) (off D : Nat) (c : UInt8) {j : Nat} (hj : j < l.length) : at8 (shL l off D c) j = if j = off then c else if off < j ∧ j < off + D then at8 l (j - 1) else at8 l j := at8_map _ hj
theorem mix_step (h : Nat → UInt8 → UInt8) {D : Nat} (l : List UInt8) {x : Nat} (hD : 1 ≤ D) (hx : x * D + D ≤ l.length) : shL (mixL h D l x) (x * D) D (newB h D l (x * D)) = mixL h D l (x + 1) := by
  have e : (x + 1) * D = x * D + D := by rw [Nat.add_mul, Nat.one_mul]
  apply at8_ext
  · rw [shL_len, mixL_len, mixL_len]
  · intro j hj
    rw [shL_len, mixL_len] at hj
    rw [shL_at _ _ _ _ (by rw [mixL_len]; exact hj), mixL_at h D l (x + 1) hj, e]
    by_cases c1 : j = x * D
    · rw [if_pos c1, if_pos (by omega), c1]
    · rw [if_neg c1]
      by_cases c2 : x * D < j ∧ j < x * D + D
      · rw [if_pos c2, if_pos (by omega), mixL_at h D l x (by omega), if_neg (by omega)]
        obtain ⟨i, rfl⟩ : ∃ i, j = x * D + i := ⟨j - x * D, by omega⟩
        unfold newB oldB
        rw [if_neg (by omega), mod_place (by omega), if_neg (by omega)]
      · rw [if_neg c2, mixL_at h D l x hj]
        by_cases c3 : j < x * D
        · rw [if_pos c3, if_pos (by omega)]
        · rw [if_neg c3, if_neg (by omega)]
/-- A pipe that may be, or the blank one. -/
def wellL (L : Nat) (s : ByteArray) : List UInt8 := if s.size = L then bl s else List.replicate L 48
theorem wellL_len (L : Nat) (s : ByteArray) : (wellL L s).length = L := by
  unfold wellL
  by_cases h : s.size = L
  · rw [if_pos h, bl_length, h]
  · rw [if_neg h, List.length_replicate]
end Go.Proofs.Ytohgmliafidalaa

/- Rows of bytes that a text was turned into lie in memory: their cells, what is stored and laid over, the text that they are; and copy of bytes and of a text into one's own row; no conditions but those in the theorems. -/
namespace Go.Proofs.Ytohgmliafidalaa
open Go.ChangeShapes Go.WideShapes Go.ChangeAt Go.RowKit
set_option linter.unusedVariables false

/-- A block whose first cells are these bytes; the mark of a conversion lies behind its last cell. -/
def FBlk (W : World) (g : Nat) (l : List UInt8) : Prop := ∃ C : Array Value, W.heap[g]? = some (.cells C 5 (C.size, C.size + 1)) ∧ l.length ≤ C.size ∧ ∀ j, j < l.length → C[j]? = some (.int .u8 ((at8 l j).toNat : Int))
theorem FBlk.lt {W : World} {g : Nat} {l : List UInt8} (h : FBlk W g l) : g < W.heap.size := by
  obtain ⟨C, h1, _⟩ := h
  exact blk_lt h1
theorem FBlk.cell {W : World} {g : Nat} {l : List UInt8} (h : FBlk W g l) (j : Nat) (hj : j < l.length) : W.cell? ⟨g, j, none⟩ = some (.int .u8 ((at8 l j).toNat : Int)) := by
  obtain ⟨C, h1, _, h3⟩ := h
  simp only [World.cell?, h1]
  exact h3 j hj
theorem FBlk.open {W : World} {g : Nat} {l : List UInt8} (h : FBlk W g l) (j : Nat) (hj : j < l.length) : W.frozen? ⟨g, j, none⟩ = false := by
  obtain ⟨C, h1, h2, _⟩ := h
  simp only [World.frozen?, h1]
  simp
  omega
theorem FBlk.kept {W W' : World} {g : Nat} {l : List UInt8} {row : Option Nat} (h : FBlk W g l) (hg : W.grownBy W' row) (hne : some g ≠ row) : FBlk W' g l := by
  obtain ⟨C, h1, h2, h3⟩ := h
  exact ⟨C, (hg.block g (blk_lt h1) hne).trans h1, h2, h3⟩
theorem FBlk.later {W W' : World} {g : Nat} {l : List UInt8} (h : FBlk W g l) (hb : Below W.heap.size W W') : FBlk W' g l := by
  obtain ⟨C, h1, h2, h3⟩ := h
  exact ⟨C, blk_later h1 hb, h2, h3⟩
theorem FBlk.set {W : World} {g : Nat} {l : List UInt8} (h : FBlk W g l) (o : Nat) (ho : o < l.length) (c : UInt8) : FBlk (W.setCell ⟨g, o, none⟩ (.int .u8 (c.toNat : Int))) g (l.set o c) := by
  obtain ⟨C, h1, h2, h3⟩ := h
  refine ⟨C.setIfInBounds o (.int .u8 (c.toNat : Int)), ?_, by simpa using h2, ?_⟩
  · rw [Array.size_setIfInBounds]
    exact Lib.heap_setCell_same h1 _
  · intro j hj
    rw [List.length_set] at hj
    rw [at8_set c ho, Array.getElem?_setIfInBounds]
    by_cases e : o = j
    · rw [if_pos e, if_pos (by omega), if_pos e.symm]
    · rw [if_neg e, if_neg (fun k => e k.symm)]
      exact h3 j hj
def u8s (r : List UInt8) : List Value := r.map fun c => Value.int .u8 (c.toNat : Int)
theorem u8s_len (r : List UInt8) : (u8s r).length = r.length := by simp [u8s]
theorem u8s_one (r : List UInt8) : ∀ v ∈ u8s r, v.oneCell' = true := by
  intro v hv
  obtain ⟨c, _, rfl⟩ := List.mem_map.1 hv
  rfl
theorem FBlk.over {g : Nat} : ∀ (r : List UInt8) {W : World} {l : List UInt8} (o : Nat), FBlk W g l → o + r.length ≤ l.length → FBlk (W.setCells g o (u8s r)) g (ovr l o r)
  | [], _, _, _, h, _ => h
  | c :: r, W, l, o, h, hf => by
    rw [List.length_cons] at hf
    exact FBlk.over r (o + 1) (h.set o (by omega) c) (by simp; omega)
theorem grown_cells (g : Nat) : ∀ (vs : List Value) (o : Nat) (W : World), W.grownBy (W.setCells g o vs) (some g)
  | [], _, W => ⟨rfl, rfl, rfl, Nat.le_refl _, fun _ _ _ => rfl⟩
  | v :: r, o, W => by
    have h2 : W.grownBy (W.setCell ⟨g, o, none⟩ v) (some g) := ⟨rfl, rfl, rfl, by simp, fun k _ hk => heap_setCell_other _ _ _ _ (fun e => hk (by rw [e]))⟩
    have h3 := grown_cells g r (o + 1) (W.setCell ⟨g, o, none⟩ v)
    exact ⟨h3.os.trans h2.os, h3.tape.trans h2.tape, h3.output.trans h2.output, Nat.le_trans h2.size h3.size, fun k hk hne => (h3.block k (Nat.lt_of_lt_of_le hk h2.size) hne).trans (h2.block k hk hne)⟩
/-- The text that they are. -/
theorem FBlk.text {W : World} {g : Nat} {l : List UInt8} (h : FBlk W g l) (cap : Nat) : (convert 88 9 (.slice (some ⟨g, 0, none⟩) l.length cap)).run Try.prog W = .ok (.string (ba l)) W :=
  run_convert_bytes_back W 88 9 5 _ _ l Try.underlying88 Try.underlying5 Try.underlying9 (fun j hj => by rw [add_plain, Nat.zero_add, h.cell j hj, at8_lt hj])
theorem FBlk.one {W : World} {g : Nat} {l : List UInt8} (h : FBlk W g l) (j : Nat) (hj : j < l.length) (cap : Nat) : (convert 88 9 (.slice (some ⟨g, j, none⟩) 1 cap)).run Try.prog W = .ok (.string (ba [at8 l j])) W :=
  run_convert_bytes_back W 88 9 5 ⟨g, j, none⟩ _ [at8 l j] Try.underlying88 Try.underlying5 Try.underlying9 (fun i hi => by
    have : i = 0 := by simp at hi; omega
    subst this
    rw [add_plain, Nat.add_zero, h.cell j hj]
    rfl)
/-- What a text is turned into. -/
theorem FBlk.made (W : World) (s : ByteArray) : FBlk (W.drew.alloc (.cells (bytesRow s (grownCap W s.size 0 5)) 5 ((bytesRow s (grownCap W s.size 0 5)).size, (bytesRow s (grownCap W s.size 0 5)).size + 1))) W.heap.size (bl s) := by
  have hge := grownCap_ge W s.size 0 5
  have hsz : (bytesRow s (grownCap W s.size 0 5)).size = grownCap W s.size 0 5 := by
    unfold bytesRow
    simp
    have : s.data.size = s.size := rfl
    omega
  refine ⟨_, heap_alloc_new W.drew _, by rw [hsz, bl_length]; exact hge, ?_⟩
  intro j hj
  rw [bl_length] at hj
  have hj' : j < s.data.size := hj
  unfold bytesRow
  rw [Array.getElem?_append_left (by simpa using hj')]
  rw [at8_lt (by rw [bl_length]; exact hj)]
  simp [bl]
  exact ⟨_, Array.getElem?_eq_getElem hj', rfl⟩
theorem below_made (W : World) (s : ByteArray) : Below W.heap.size W (W.drew.alloc (.cells (bytesRow s (grownCap W s.size 0 5)) 5 ((bytesRow s (grownCap W s.size 0 5)).size, (bytesRow s (grownCap W s.size 0 5)).size + 1))) := ((Below.refl _ _).drew).alloc (Nat.le_refl _) _
theorem sizeByte : (Try.prog.info? 5).map (·.size) = some 1 := by kernel_rfl
theorem size1Byte : ∀ w : World, (Go.sizeOf 5).run Try.prog w = .ok 1 w := fun w => by kernel_rfl
/-- copy of a row's own bytes one place on. -/
theorem copy_on {W : World} {g off D : Nat} {l : List UInt8} (h : FBlk W g l) (hD : 1 ≤ D) (hf : off + D ≤ l.length) (ty : TypeId) (dp : Option Addr) (c1 c2 : Nat) (hdp : 1 < D → dp = some ⟨g, off + 1, none⟩) :
    ∃ W', (Builtin.copy_ #[88, 88] ty #[.slice dp (D - 1) c1, .slice (some ⟨g, off, none⟩) D c2]).run Try.prog W = .ok (goInt ((D - 1 : Nat) : Int)) W' ∧ FBlk W' g (ovr l (off + 1) ((l.drop off).take (D - 1))) ∧ W.grownBy W' (some g) := by
  have e1 : ((l.drop off).take (D - 1)).length = D - 1 := by rw [List.length_take, List.length_drop]; omega
  by_cases h1 : D = 1
  · subst h1
    refine ⟨W, run_copy_none (P := Try.prog) W 88 88 ty 5 dp (some ⟨g, off, none⟩) 0 c1 1 c2 Try.underlying88 sizeByte (by decide), ?_, ⟨rfl, rfl, rfl, Nat.le_refl _, fun _ _ _ => rfl⟩⟩
    have e : (l.drop off).take (1 - 1) = [] := by simp
    rw [e]
    exact h
  · obtain rfl := hdp (by omega)
    have hr := run_copy_cells (P := Try.prog) W 88 88 ty 5 g (off + 1) (D - 1) c1 ⟨g, off, none⟩ D c2 (u8s ((l.drop off).take (D - 1))) Try.underlying88 sizeByte (by rw [u8s_len, e1]; exact (Nat.min_eq_right (by omega)).symm)
      (fun j v hj => by
        unfold u8s at hj
        rw [List.getElem?_map] at hj
        have hlt : j < D - 1 := by
          rw [← e1]
          cases hq : ((l.drop off).take (D - 1))[j]? with
          | none => rw [hq] at hj; cases hj
          | some c => exact (List.getElem?_eq_some_iff.1 hq).1
        rw [add_plain, h.cell (off + j) (by omega), ← hj, List.getElem?_take, if_pos hlt, List.getElem?_drop, List.getElem?_eq_getElem (by omega), at8_lt (by omega)]
        rfl)
      (fun j hj => by rw [u8s_len, e1] at hj; rw [h.cell _ (by omega)]; rfl) (fun j hj => by rw [u8s_len, e1] at hj; exact h.open _ (by omega)) (u8s_one _)
    rw [u8s_len, e1] at hr
    exact ⟨_, hr, h.over _ _ (by rw [e1]; omega), grown_cells _ _ _ _⟩
/-- copy of a text of one byte. -/
theorem copy_head {W : World} {g off D : Nat} {l : List UInt8} (h : FBlk W g l) (hD : 1 ≤ D) (hf : off + D ≤ l.length) (ty : TypeId) (c2 : Nat) (c : UInt8) :
    ∃ W', (Builtin.copy_ #[88, 9] ty #[.slice (some ⟨g, off, none⟩) D c2, .string (ba [c])]).run Try.prog W = .ok (goInt 1) W' ∧ FBlk W' g (ovr l off [c]) ∧ W.grownBy W' (some g) := by
  have hr := run_copy_string (P := Try.prog) W 88 9 ty 5 g off D c2 (ba [c]) Try.underlying88 size1Byte (by rw [ba_size]; simp; omega) (fun j hj => by rw [ba_size] at hj; simp at hj; rw [h.cell _ (by omega)]; rfl) (fun j hj => by rw [ba_size] at hj; simp at hj; exact h.open _ (by omega))
  exact ⟨_, hr, h.over [c] off (by simp; omega), grown_cells _ _ _ _⟩
end Go.Proofs.Ytohgmliafidalaa

/- The calls shift and endOf of package pipe return what plain functions give, shift with the stretch one place on; conditions: the stretch lies in a row of one's own, and has one place at least. -/
namespace Go.Proofs.Ytohgmliafidalaa
open Go.ChangeShapes Go.WideShapes Go.ChangeAt Go.RowKit
set_option linter.unusedVariables false

theorem cut8 (g off D : Nat) (hD : 1 ≤ D) : ∃ sp, (∀ W : World, (Instr.slice 88 (.slice (some ⟨g, off, none⟩) D D) (some (.int .i64 1)) none none).run Try.prog W = .ok (.slice sp (D - 1) (D - 1)) W) ∧ (1 < D → sp = some ⟨g, off + 1, none⟩) := by
  refine ⟨if D = 1 then some ⟨g, off, none⟩ else some ⟨g, off + 1, none⟩, fun W => ?_, fun h => if_neg (by omega)⟩
  have ht : Try.prog.underlying 88 = some (.slice (Try.prog.elem 88)) := by kernel_rfl
  rw [run_slice_l W 88 _ D D ht .i64 1 (by omega) (by omega)]
  have hz : (sizeOf (Try.prog.elem 88)).run Try.prog W = .ok 1 W := by kernel_rfl
  rw [hz]
  simp only [Result.andThen, sliced]
  by_cases h : D = 1
  · simp [h]
  · simp [h, Addr.add]
theorem cut8_last (g off D : Nat) (hD : 1 ≤ D) (hs : D ≤ 1000) (W : World) : (Instr.slice 88 (.slice (some ⟨g, off, none⟩) D D) (some (.int .i64 ((D : Int) - 1))) none none).run Try.prog W = .ok (.slice (some ⟨g, off + D - 1, none⟩) 1 1) W := by
  have ht : Try.prog.underlying 88 = some (.slice (Try.prog.elem 88)) := by kernel_rfl
  rw [run_slice_l W 88 _ D D ht .i64 ((D : Int) - 1) (by omega) (by omega)]
  have hz : (sizeOf (Try.prog.elem 88)).run Try.prog W = .ok 1 W := by kernel_rfl
  rw [hz]
  obtain ⟨n, rfl⟩ : ∃ n, D = n + 1 := ⟨D - 1, by omega⟩
  have e : (((n + 1 : Nat) : Int) - 1).toNat = n := by omega
  simp only [Result.andThen, sliced, e]
  have h2 : n + 1 - n = 1 := by omega
  have h3 : off + (n + 1) - 1 = off + n := by omega
  rw [h2, h3]
  by_cases h : n = 0
  · subst h
    simp [Addr.add]
  · simp [Addr.add, h]

set_option maxHeartbeats 1000000 in
theorem shift_any (g off D : Nat) (l : List UInt8) (c : UInt8) (hD : 1 ≤ D) (hs : D ≤ 1000) (hf : off + D ≤ l.length) (w : World) (h : FBlk w g l) :
    Calls Try.prog 109 #[.slice (some ⟨g, off, none⟩) D D, .string (ba [c])] w fun e w' => e = .returned (.string (ba [at8 l (off + D - 1)])) ∧ FBlk w' g (shL l off D c) ∧ w.grownBy w' (some g) := by
  have HE := hidden (shL_ovr c hD hf)
  have HC := hidden (fun V => cut8_last g off D hD hs V)
  obtain ⟨sp, hc1, hsp⟩ := cut8 g off D hD
  have HT : Hid ((convert 88 9 (.slice (some ⟨g, off + D - 1, none⟩) 1 1)).run Try.prog w = .ok (.string (ba [at8 l (off + D - 1)])) w) := h.one (off + D - 1) (by omega) 1
  obtain ⟨w1, r1, h1, g1⟩ := copy_on h hD hf 3 sp (D - 1) D hsp
  obtain ⟨w2, r2, h2, g2⟩ := copy_head h1 hD (by rw [ovr_len]; exact hf) 3 D c
  have HB : Hid (FBlk w2 g (shL l off D c)) := by
    show FBlk _ _ _
    rw [← HE.out]
    exact h2
  have HG : Hid (w.grownBy w2 (some g)) := ⟨g2.os.trans g1.os, g2.tape.trans g1.tape, g2.output.trans g1.output, Nat.le_trans g1.size g2.size, fun k hk hne => (g2.block k (Nat.lt_of_lt_of_le hk g1.size) hne).trans (g1.block k hk hne)⟩
  have hcl := HC.out w
  have hct := HT.out
  clear h1 h2 g1 g2 h hsp HC HE hf
  generalize at8 l (off + D - 1) = z at *
  generalize ba [z] = zt at *
  generalize ba [c] = ct at *
  go_enter Try.func109, Try.ntmps109
  go_wp2
  go_ret
  exact ⟨rfl, HB.out, HG.out⟩
theorem endOf_any (b : UInt8) (w : World) :
    Calls Try.prog 111 #[.string (ba [b])] w fun e w' => e = .returned (.int .i64 (if valG (ba [b]) 0 = 1 then 1 else 0)) ∧ Below w.heap.size w w' := by
  have CV := hidden (fun V => Values_any (ba [b]) (by rw [ba_size]; simp) V)
  have e1 : dgB (ba [b]).size (valG (ba [b])) = ba [UInt8.ofNat (48 + valG (ba [b]) 0)] := by
    rw [ba_size]
    rfl
  rw [e1] at CV
  have hv := valG_bd (ba [b]) 0
  generalize valG (ba [b]) 0 = v at *
  generalize ba [b] = s at *
  clear e1
  by_cases h1 : v = 1
  · subst h1
    have e2 : Hid (((ba [UInt8.ofNat (48 + 1)]).toList == [49]) = true) := by
      show _ = _
      rw [ByteArray.toList_eq]
      decide
    rw [if_pos rfl]
    generalize ba [UInt8.ofNat (48 + 1)] = q at *
    have e3 := e2.out
    go_enter Try.func111, Try.ntmps111
    go_wp2_with fail
    refine (CV.out _).mono ?_
    rintro e w2 ⟨rfl, hb⟩
    have HB := hidden hb
    clear hb
    go_wp2
    go_ret
    exact ⟨rfl, HB.out⟩
  · have e2 : Hid (((ba [UInt8.ofNat (48 + v)]).toList == [49]) = false) := by
      show _ = _
      rw [ByteArray.toList_eq]
      have : v = 0 ∨ v = 2 := by omega
      rcases this with rfl | rfl <;> decide
    rw [if_neg h1]
    generalize ba [UInt8.ofNat (48 + v)] = q at *
    have e3 := e2.out
    go_enter Try.func111, Try.ntmps111
    go_wp2_with fail
    refine (CV.out _).mono ?_
    rintro e w2 ⟨rfl, hb⟩
    have HB := hidden hb
    clear hb
    go_wp2
    go_ret
    exact ⟨rfl, HB.out⟩
end Go.Proofs.Ytohgmliafidalaa

/- So many zeros as a text: what strings.Repeat and the document's own repetition of one zero return; they make at most new memory; conditions: at most a thousand. -/
namespace Go.Proofs.Ytohgmliafidalaa
open Go.ChangeShapes Go.WideShapes Go.ChangeAt Go.RowKit Go.Shelf
set_option linter.unusedVariables false

/-- So many zeros. -/
def zerL (n : Nat) : List UInt8 := List.replicate n 48
theorem extraRep : Builder.Extra Try.prog Try.laysRepeat_ren where
  sizeBuilder := by kernel_rfl
  liesBuilder := by kernel_rfl
  t5 := Try.laysRepeat.t5
  a5 := Try.laysRepeat.a5
  z5 := Try.laysRepeat.z5
  v5 := Try.laysRepeat.v5
  infoByte := by kernel_rfl
  cellsByte := by kernel_rfl
  sizeByte := by kernel_rfl
  neB5 := by decide
theorem renRep : Try.laysRepeat_ren.f 105 = 130 := by kernel_rfl
theorem RepZ_any (n : Nat) (w : World) (hn : n ≤ 1000) :
    Calls Try.prog 130 #[.string ⟨#[48]⟩, .int .i64 n] w fun e w' => e = .returned (.string (ba (zerL n))) ∧ Below w.heap.size w w' := by
  have h := Any.strings_Repeat Try.laysRepeat extraRep ⟨#[48]⟩ n w (by omega) (by show 1 * n ≤ _; omega)
  rw [renRep] at h
  refine h.mono fun e w' ⟨he, hw⟩ => ⟨?_, hw⟩
  rw [he]
  have e : Lib.repeatL (ByteArray.mk #[48]).data.toList n = List.replicate n (48 : UInt8) := by
    have := Lib.repeatL_replicate 48 1 n
    rw [Nat.mul_one] at this
    exact this
  rw [e]
  rfl
theorem zerL_s (k : Nat) : ba (zerL k) ++ ⟨#[48]⟩ = ba (zerL (k + 1)) := by
  have : (⟨#[48]⟩ : ByteArray) = ba [48] := rfl
  rw [this, ba_append]
  unfold zerL
  rw [List.replicate_succ']
end Go.Proofs.Ytohgmliafidalaa

/- The call part of the statements on package vec returns the text of one place, and what a step makes of one place is what it makes of the whole there; conditions: lengths fit int. -/
namespace Go.Proofs.Ytohgmliafidalaa
open Go.ChangeShapes Go.WideShapes Go.ChangeAt Go.RowKit
set_option linter.unusedVariables false

/-- The text of one place. -/
def prt (s : ByteArray) (k : Nat) : ByteArray := if k < s.size then s.extract k (k + 1) else noB
theorem prt_in {s : ByteArray} {k : Nat} (h : k < s.size) : prt s k = s.extract k (k + 1) := if_pos h
theorem prt_size (s : ByteArray) (k : Nat) : (prt s k).size ≤ 1 := by
  unfold prt
  split
  · rw [ByteArray.size_extract]; omega
  · decide
theorem prt_one {s : ByteArray} {k : Nat} (h : k < s.size) : (prt s k).size = 1 := by
  rw [prt_in h, ByteArray.size_extract]; omega
theorem vdg_prt (last : Int) (s : ByteArray) (k : Nat) : vdg last (prt s k) 0 = vdg last s k := by
  by_cases h : k < s.size
  · have h1 : 0 < (prt s k).size := by rw [prt_one h]; decide
    have e : (prt s k)[0]'h1 = s[k]'h := by
      have h2 : (prt s k)[0]'h1 = (s.extract k (k + 1))[0]'(by rw [← prt_in h]; exact h1) := by congr 1; exact prt_in h
      rw [h2, ByteArray.getElem_extract]
      rfl
    unfold vdg
    rw [dif_pos h1, dif_pos h, e]
  · have e : prt s k = noB := if_neg h
    rw [e, vdg_out (by decide), vdg_out (by omega)]
theorem dgB_extract {n : Nat} {g : Nat → Nat} {k : Nat} (hk : k < n) : (dgB n g).extract k (k + 1) = dgB 1 (fun _ => g k) := by
  apply ByteArray.ext
  rw [ByteArray.data_extract]
  simp only [dgB, ba, dgL]
  rw [List.extract_toArray]
  congr 1
  rw [List.extract_eq_take_drop]
  apply List.ext_getElem
  · simp; omega
  · intro i h1 h2
    simp at h1 h2 ⊢
    have : i = 0 := by omega
    subst this
    simp
theorem stp_prt (E n f x : Int) (codes told : ByteArray) (votes : List ByteArray) (k : Nat) : stpG E n f x (prt codes k) (prt told k) (votes.map fun t => prt t k) 0 = stpG E n f x codes told votes k := by
  unfold stpG stpB bitK
  rw [vdg_prt, vdg_prt, List.map_map]
  congr 4
  funext t
  exact vdg_prt 2 t k
theorem step_prt (E n f x : Int) (codes told : ByteArray) (votes : List ByteArray) {k : Nat} (hk : k < codes.size) : dgB (prt codes k).size (stpG E n f x (prt codes k) (prt told k) (votes.map fun t => prt t k)) = (dgB codes.size (stpG E n f x codes told votes)).extract k (k + 1) := by
  rw [dgB_extract hk, prt_one hk]
  refine dgB_congr fun j hj => ?_
  have : j = 0 := by omega
  subst this
  exact stp_prt E n f x codes told votes k
end Go.Proofs.Ytohgmliafidalaa

/- The calls Blank, codesOf, digitsAt and hear of package pipe return what plain functions give, and make at most new memory; conditions: rows lie where they say, lengths fit int, at most a hundred thousand votes. -/
namespace Go.Proofs.Ytohgmliafidalaa
open Go.ChangeShapes Go.WideShapes Go.ChangeAt Go.RowKit Go.Shelf
set_option linter.unusedVariables false

theorem PBlank_any (n f d p r dr o sl md fr : Int) (ad : Option Addr) (cap : Nat) (zs : List Int) (L : Nat) (w : World) (hl : zs.length ≤ 9223372036854775807) (hT : Tab w ad zs) (hL : gate (plainE n f d p r dr o sl md fr zs) (3 * (f + 1) * d) = (L : Int)) (hL60 : L ≤ 60) :
    Calls Try.prog 115 #[.agg #[.int .i64 n, .int .i64 f, .int .i64 d, .int .i64 p, .int .i64 r, .int .i64 dr, .int .i64 o, .int .i64 sl, .int .i64 md, .int .i64 fr, .slice ad zs.length cap]] w fun e w' => e = .returned (.string (ba (zerL L))) ∧ Below w.heap.size w w' := by
  have HC := hidden (fun V h => Length_any n f d p r dr o sl md fr ad cap zs V hl h)
  rw [hL] at HC
  have HT := hidden (hT.below (ballc w (.cells #[.int .i64 n, .int .i64 f, .int .i64 d, .int .i64 p, .int .i64 r, .int .i64 dr, .int .i64 o, .int .i64 sl, .int .i64 md, .int .i64 fr, .slice ad zs.length cap] 24)))
  clear hT hL
  go_enter Try.func115, Try.ntmps115
  go_wp2_with fail
  refine (HC.out _ HT.out).mono ?_
  rintro e w2 ⟨rfl, hb⟩
  have HB := hidden (bthen (ballc w _) hb)
  clear hb
  go_wp2_with fail
  refine (RepZ_any L _ (by omega)).mono ?_
  rintro e w3 ⟨rfl, hb⟩
  have HB3 := hidden (bthen HB.out hb)
  clear hb
  go_wp2
  go_ret
  exact ⟨rfl, HB3.out⟩

theorem made_at (W : World) (s : ByteArray) : ∃ g cap W', (convert 9 88 (.string s)).run Try.prog W = .ok (.slice (some ⟨g, 0, none⟩) s.size cap) W' ∧ FBlk W' g (bl s) ∧ W.heap.size ≤ g ∧ s.size ≤ cap ∧ Below W.heap.size W W' :=
  ⟨_, _, _, run_bytes_of_string W 9 88 5 s Try.underlying9 Try.underlying88 Try.underlying5, FBlk.made W s, Nat.le_refl _, grownCap_ge W s.size 0 5, below_made W s⟩

set_option maxHeartbeats 1000000 in
theorem codesOf_any (n f d p r dr o sl md fr : Int) (ad : Option Addr) (cap : Nat) (zs : List Int) (L : Nat) (s : ByteArray) (hs : s.size ≤ 9223372036854775807) (w : World) (hl : zs.length ≤ 9223372036854775807) (hT : Tab w ad zs) (hL : gate (plainE n f d p r dr o sl md fr zs) (3 * (f + 1) * d) = (L : Int)) (hL60 : L ≤ 60) :
    Calls Try.prog 83 #[.agg #[.int .i64 n, .int .i64 f, .int .i64 d, .int .i64 p, .int .i64 r, .int .i64 dr, .int .i64 o, .int .i64 sl, .int .i64 md, .int .i64 fr, .slice ad zs.length cap], .string s] w fun e w' => ∃ g cap', e = .returned (.slice (some ⟨g, 0, none⟩) L cap') ∧ FBlk w' g (wellL L s) ∧ w.heap.size ≤ g ∧ L ≤ cap' ∧ Below w.heap.size w w' := by
  have HC := hidden (fun V h => Length_any n f d p r dr o sl md fr ad cap zs V hl h)
  rw [hL] at HC
  have HBk := hidden (fun V h => PBlank_any n f d p r dr o sl md fr ad cap zs L V hl h hL hL60)
  have HT := hidden (hT.below (ballc w (.cells #[.int .i64 n, .int .i64 f, .int .i64 d, .int .i64 p, .int .i64 r, .int .i64 dr, .int .i64 o, .int .i64 sl, .int .i64 md, .int .i64 fr, .slice ad zs.length cap] 24)))
  clear hT hL
  by_cases he : s.size = L
  · have hw : wellL L s = bl s := if_pos he
    have j : ((s.size : Int) != (L : Int)) = false := by simp [he]
    rw [hw]
    clear hw
    go_enter Try.func83, Try.ntmps83
    go_wp2_with fail
    refine (HC.out _ HT.out).mono ?_
    rintro e w2 ⟨rfl, hb⟩
    have HB := hidden (bthen (ballc w _) hb)
    clear hb HC HBk HT
    obtain ⟨g, cap', w3, hr, hf, hg, hc, hb⟩ := made_at w2 s
    have HF := hidden hf
    have HB3 := hidden (bthen HB.out hb)
    have hws := HB.out.size
    clear hf hb
    go_wp2
    go_ret
    exact ⟨g, cap', by rw [← he]; rfl, HF.out, by omega, by omega, HB3.out⟩
  · have hw : wellL L s = zerL L := if_neg he
    have j : ((s.size : Int) != (L : Int)) = true := by simp; omega
    rw [hw]
    clear hw
    go_enter Try.func83, Try.ntmps83
    go_wp2_with fail
    refine (HC.out _ HT.out).mono ?_
    rintro e w2 ⟨rfl, hb⟩
    have HB := hidden (bthen (ballc w _) hb)
    obtain ⟨hbox, hsz⟩ := box_at hb
    have HT2 := hidden (HT.out.below hb)
    clear hb HC HT
    go_wp2_with fail
    refine (HBk.out _ HT2.out).mono ?_
    rintro e w4 ⟨rfl, hb⟩
    have HB4 := hidden (bthen HB.out hb)
    clear hb hbox hsz
    obtain ⟨g, cap', w3, hr, hf, hg, hc, hb⟩ := made_at w4 (ba (zerL L))
    have hzs : (ba (zerL L)).size = L := by rw [ba_size, zerL, List.length_replicate]
    rw [hzs] at hr hc
    rw [bl_ba] at hf
    have HF := hidden hf
    have HB3 := hidden (bthen HB4.out hb)
    have hws := HB4.out.size
    clear hf hb hzs
    generalize ba (zerL L) = zt at *
    go_wp2
    go_ret
    exact ⟨g, cap', rfl, HF.out, by omega, hc, HB3.out⟩

/-- What each text has at one place. -/
def digsP (votes : List ByteArray) (k : Nat) : List ByteArray := votes.map fun t => prt t k
theorem digsP_len (votes : List ByteArray) (k : Nat) : (digsP votes k).length = votes.length := by simp [digsP]
theorem digsP_fill (votes : List ByteArray) (k : Nat) : (List.range votes.length).map (fun i => prt (votes.getD i noB) k) = digsP votes k := by
  unfold digsP
  apply List.ext_getElem
  · simp
  · intro i h1 h2
    simp at h1 h2
    simp [h1]
theorem cut_one (s : ByteArray) (k : Nat) (h : k < s.size) (W : World) : (Instr.slice 9 (.string s) (some (.int .i64 (k : Int))) (some (.int .i64 ((k : Int) + 1))) none).run Try.prog W = .ok (.string (prt s k)) W := by
  rw [run_slice_string_if W 9 s .i64 .i64 (k : Int) ((k : Int) + 1) Try.underlying9, if_pos ⟨by omega, by omega⟩, if_pos ⟨by omega, by omega⟩, prt_in h]
  rfl
set_option maxHeartbeats 2000000 in
theorem digitsAt_any (a2 : Option Addr) (c2 : Nat) (votes : List ByteArray) (k : Nat) (w : World) (hk64 : k ≤ 100000) (hn : votes.length ≤ 100000) (hV : kStr.Lies w.heap.size w (.slice a2 votes.length c2) votes) (hz : ∀ t ∈ votes, t.size ≤ 9223372036854775807) :
    Calls Try.prog 129 #[.slice a2 votes.length c2, .int .i64 (k : Int)] w fun e w' => ∃ g, e = .returned (.slice (some ⟨g, 0, none⟩) votes.length votes.length) ∧ SBlk w' g (digsP votes k) ∧ Below w.heap.size w w' := by
  obtain ⟨N, hN⟩ : ∃ N, N = votes.length := ⟨_, rfl⟩
  have hN5 : N ≤ 100000 := by omega
  have hmk := fun V => make_strs N (by omega) V
  have HV := hidden hV
  have HZ := hidden hz
  have HK0 : Hid (SBlk (w.alloc (.cells (svals (List.replicate N noB)) 9)) w.heap.size (fillL noB N (fun i => prt (votes.getD i noB) k) 0)) := by
    show SBlk _ _ _
    rw [fillL_0]
    exact blk_nw w _ _
  have HB0 : Hid (Below w.heap.size w (w.alloc (.cells (svals (List.replicate N noB)) 9))) := ballc w _
  have HF : Hid (fillL noB N (fun i => prt (votes.getD i noB) k) N = digsP votes k) := by show _ = _; rw [fillL_all, hN]; exact digsP_fill votes k
  have HN := hidden hN
  rw [← hN] at HV ⊢
  clear hV hz hN
  go_enter Try.func129, Try.ntmps129
  go_wp2
  clear hmk
  generalize w.alloc (.cells (svals (List.replicate N noB)) 9) = W0 at *
  go_loopw [13] (fun i wr => ∃ j : Nat, j ≤ N ∧ i = .int .i64 j ∧ SBlk wr w.heap.size (fillL noB N (fun i => prt (votes.getD i noB) k) j) ∧ Below w.heap.size w wr) (fun i _ => N - (intV i).toNat)
  case atStart => exact ⟨0, Nat.zero_le _, rfl, HK0.out, HB0.out⟩
  case round =>
    obtain ⟨j, hj, rfl, hX, hB⟩ := hrel
    clear HK0 HB0
    have HB := hidden hB
    have HX := hidden hX
    by_cases hlt : j < N
    · have i1 : (0 : Int) ≤ (j : Int) := by omega
      have i2 : (j : Int) < (N : Int) := by omega
      have hjv : j < votes.length := by rw [← HN.out]; exact hlt
      obtain ⟨b, off, rfl, hbl, e0⟩ := kStr_at (HV.out.below hB) j hjv
      have hm : votes.getD j noB ∈ votes := by rw [List.getD_eq_getElem?_getD, List.getElem?_eq_getElem hjv, Option.getD_some]; exact List.getElem_mem hjv
      have hsz := HZ.out _ hm
      have HS : Hid ((fillL noB N (fun i => prt (votes.getD i noB) k) j).set j (prt (votes.getD j noB) k) = fillL noB N (fun i => prt (votes.getD i noB) k) (j + 1)) := fillL_set noB N (fun i => prt (votes.getD i noB) k) j hlt
      have c0 := hX.cell j (by rw [fillL_len]; exact hlt)
      have f0 := hX.open j
      have l0 := hX.lt
      have lb := Nat.lt_of_lt_of_le hbl hB.size
      clear hm hjv
      by_cases hks : k < (votes.getD j noB).size
      · have k1 : (k : Int) < ((votes.getD j noB).size : Int) := by omega
        have s1 := fun V => cut_one (votes.getD j noB) k hks V
        clear hX hB
        generalize hz : prt (votes.getD j noB) k = z at *
        clear hz
        generalize votes.getD j noB = t at *
        generalize (fillL noB N (fun i => prt (votes.getD i noB) k) j).getD j noB = y at *
        go_wp2
        have hset := HX.out.set j z
        rw [HS.out] at hset
        go_roundw
        case rel => exact ⟨j + 1, by omega, by go_num, hset, HB.out.setCell (p := ⟨w.heap.size, j, none⟩) (Nat.le_refl _) _⟩
        case measure => simp [intV]; omega
      · have k1 : ¬ (k : Int) < ((votes.getD j noB).size : Int) := by omega
        have hz0 : prt (votes.getD j noB) k = noB := if_neg hks
        have hy0 : (fillL noB N (fun i => prt (votes.getD i noB) k) j).getD j noB = noB := by
          unfold fillL
          rw [range_getD _ _ _ _ hlt, if_neg (by omega)]
        have hnx : fillL noB N (fun i => prt (votes.getD i noB) k) (j + 1) = fillL noB N (fun i => prt (votes.getD i noB) k) j := by
          rw [← HS.out, hz0]
          refine list_ext _ _ (by simp) fun i hi => ?_
          rw [getD_set _ _ _ _ (by rw [fillL_len]; exact hlt)]
          by_cases e : i = j
          · subst e; rw [if_pos rfl, hy0]
          · rw [if_neg e]
        have HNX := hidden hnx
        clear hX hB hz0 hy0 hnx
        generalize votes.getD j noB = t at *
        go_wp2
        go_roundw
        case rel => exact ⟨j + 1, by omega, by go_num, by rw [HNX.out]; exact HX.out, HB.out⟩
        case measure => simp [intV]; omega
    · obtain rfl : j = N := by omega
      have i2 : ¬ (j : Int) < (j : Int) := by omega
      clear hX hB
      go_wp2
      go_ret
      exact ⟨_, rfl, by rw [← HF.out]; exact HX.out, HB.out⟩
end Go.Proofs.Ytohgmliafidalaa

/- The calls Bit and Next of package beat return what plain functions give, and make at most new memory; conditions: the table lies where it says, numbers fit int. -/
namespace Go.Proofs.Ytohgmliafidalaa
open Go.ChangeShapes Go.WideShapes Go.ChangeAt Go.RowKit
set_option linter.unusedVariables false
attribute [local go_sem] cell_rg

/-- An instance's bit at first; Since and Regular a tick later; of what is not plain 0. -/
def bitI (E P L s : Int) : Int := if E = 0 then (if bgF P L s = true then 1 else 0) else 0
def nxt1 (E P s : Int) (pulse : Bool) : Int := if E = 0 then nxF P s pulse else 0
def nxt2 (E P s r : Int) (pulse : Bool) : Int := if E = 0 then (if pulse = true then (if s = P - 1 then satF r 2 else 0) else if satF s P = P then 0 else clampF r 0 2) else 0
theorem bitI_no {E P L s : Int} (h : ¬ E = 0) : bitI E P L s = 0 := if_neg h
theorem bitI_at {P L s : Int} (h : s = P - L) : bitI 0 P L s = 1 := by
  have : bgF P L s = true := decide_eq_true (.inl h)
  unfold bitI
  rw [if_pos rfl, if_pos this]
theorem bitI_hi {P L s : Int} (h : P ≤ s) : bitI 0 P L s = 1 := by
  have : bgF P L s = true := decide_eq_true (.inr h)
  unfold bitI
  rw [if_pos rfl, if_pos this]
theorem bitI_lo {P L s : Int} (h : ¬ s = P - L) (h2 : ¬ P ≤ s) : bitI 0 P L s = 0 := by
  have : bgF P L s = false := decide_eq_false (by omega)
  unfold bitI
  rw [if_pos rfl, this]
  rfl
theorem wfI {x : Int} (h : -9223372036854775808 ≤ x ∧ x ≤ 9223372036854775807) : (Lit.int .i64 x).wf = true := by
  have := wrap64_wf x
  rwa [IntWalk.wrap64_in x h] at this
theorem satF_bd {s P : Int} (hs : s ≤ 9223372036854775807) (hP : P ≤ 9223372036854775807) : 0 ≤ satF s P ∧ satF s P ≤ 9223372036854775807 := by
  unfold satF
  split
  · omega
  · split <;> omega

set_option maxHeartbeats 1000000 in
theorem BBit_any (n f d p r dr o sl md fr : Int) (ad : Option Addr) (cap : Nat) (zs : List Int) (L : Nat) (s : Int) (w : World) (hl : zs.length ≤ 9223372036854775807) (hT : Tab w ad zs) (hL : gate (plainE n f d p r dr o sl md fr zs) (3 * (f + 1) * d) = (L : Int)) (hL60 : L ≤ 60) (hs : -9223372036854775808 ≤ s ∧ s ≤ 9223372036854775807) :
    Calls Try.prog 41 #[.agg #[.int .i64 n, .int .i64 f, .int .i64 d, .int .i64 p, .int .i64 r, .int .i64 dr, .int .i64 o, .int .i64 sl, .int .i64 md, .int .i64 fr, .slice ad zs.length cap], .int .i64 s] w fun e w' => e = .returned (.int .i64 (bitI (plainE n f d p r dr o sl md fr zs) p L s)) ∧ Below w.heap.size w w' := by
  have HB0 := hidden (ballc w (.cells #[.int .i64 n, .int .i64 f, .int .i64 d, .int .i64 p, .int .i64 r, .int .i64 dr, .int .i64 o, .int .i64 sl, .int .i64 md, .int .i64 fr, .slice ad zs.length cap] 24))
  have HT := hidden (hT.below HB0.out)
  have HK := hidden (blk_nw w #[.int .i64 n, .int .i64 f, .int .i64 d, .int .i64 p, .int .i64 r, .int .i64 dr, .int .i64 o, .int .i64 sl, .int .i64 md, .int .i64 fr, .slice ad zs.length cap] 24)
  have HP := hidden (plain_any n f d p r dr o sl md fr ad cap zs (w.alloc (.cells #[.int .i64 n, .int .i64 f, .int .i64 d, .int .i64 p, .int .i64 r, .int .i64 dr, .int .i64 o, .int .i64 sl, .int .i64 md, .int .i64 fr, .slice ad zs.length cap] 24)) hl HT.out)
  have CL := hidden (fun V h => Length_any n f d p r dr o sl md fr ad cap zs V hl h)
  rw [hL] at CL
  by_cases hE : plainE n f d p r dr o sl md fr zs = 0
  · obtain ⟨_, _, _, _, _, _, _, hp1, hp2, _⟩ := plainE_ok hE
    have hp0 : 0 ≤ p := by
      have := plainE_ok hE
      have : 0 ≤ (f + 1) * d := Int.mul_nonneg (by omega) (by omega)
      omega
    rw [hE] at HP ⊢
    have t1 : IntKind.i64.wrap (p - (L : Int)) = p - (L : Int) := IntWalk.i64_in _ (by omega)
    clear hT hL hE hp1
    go_enter Try.func41, Try.ntmps41
    go_wp2_with fail
    refine HP.out.mono ?_
    rintro e w2 ⟨rfl, hb⟩
    have HB2 := hidden (bthen HB0.out hb)
    have HT2 := hidden (HT.out.below hb)
    have HK2 := hidden (blk_later HK.out hb)
    have c0 := blk_cell HK2.out
    have l0 := blk_lt HK2.out
    clear hb HT HK HP
    by_cases h1 : s = p - (L : Int)
    · have j1 : (s == p - (L : Int)) = true := by simp [h1]
      have hr := hidden (bitI_at h1)
      clear h1
      go_wp2
      refine wp_region_quiet_below (by kernel_rfl) (by kernel_rfl) ?_
      repeat (go_big_quiet_step (first | (go_at_call 59; exact Calls.regrown_of (CL.out _ (HT2.out.below (below_regrown _ _ _))))))
      refine wpQuiet_nil ?_
      intro w5 hw5
      have HB5 := hidden (bthen HB2.out (rg_below hw5))
      clear hw5 c0 l0
      go_wp2
      go_ret
      exact ⟨ret_i hr.out.symm, HB5.out⟩
    · have j1 : (s == p - (L : Int)) = false := by simp [h1]
      by_cases h2 : p ≤ s
      · have j2 : decide (p ≤ s) = true := decide_eq_true h2
        have hr := hidden (bitI_hi (L := (L : Int)) h2)
        clear h1
        go_wp2
        refine wp_region_quiet_below (by kernel_rfl) (by kernel_rfl) ?_
        repeat (go_big_quiet_step (first | (go_at_call 59; exact Calls.regrown_of (CL.out _ (HT2.out.below (below_regrown _ _ _))))))
        refine wpQuiet_nil ?_
        intro w5 hw5
        have HB5 := hidden (bthen HB2.out (rg_below hw5))
        clear hw5 c0 l0
        go_wp2
        go_ret
        exact ⟨ret_i hr.out.symm, HB5.out⟩
      · have j2 : decide (p ≤ s) = false := decide_eq_false h2
        have hr := hidden (bitI_lo h1 h2)
        clear h1
        go_wp2
        refine wp_region_quiet_below (by kernel_rfl) (by kernel_rfl) ?_
        repeat (go_big_quiet_step (first | (go_at_call 59; exact Calls.regrown_of (CL.out _ (HT2.out.below (below_regrown _ _ _))))))
        refine wpQuiet_nil ?_
        intro w5 hw5
        have HB5 := hidden (bthen HB2.out (rg_below hw5))
        clear hw5 c0 l0
        go_wp2
        go_ret
        exact ⟨ret_i hr.out.symm, HB5.out⟩
  · have hr := hidden (bitI_no (P := p) (L := (L : Int)) (s := s) hE)
    have j1 : (plainE n f d p r dr o sl md fr zs != 0) = true := bne_iff_ne.2 hE
    generalize plainE n f d p r dr o sl md fr zs = E at *
    clear hE hT hL CL
    go_enter Try.func41, Try.ntmps41
    go_wp2_with fail
    refine HP.out.mono ?_
    rintro e w2 ⟨rfl, hb⟩
    have HB2 := hidden (bthen HB0.out hb)
    clear hb HP
    go_wp2
    go_ret
    exact ⟨ret_i hr.out.symm, HB2.out⟩

theorem regAt_any (n f d p r dr o sl md fr : Int) (ad : Option Addr) (cap : Nat) (zs : List Int) (s r' : Int) (w : World) (hp : 0 ≤ p ∧ p ≤ 400) (hr' : -9223372036854775808 ≤ r' ∧ r' ≤ 9223372036854775807) :
    Calls Try.prog 77 #[.agg #[.int .i64 n, .int .i64 f, .int .i64 d, .int .i64 p, .int .i64 r, .int .i64 dr, .int .i64 o, .int .i64 sl, .int .i64 md, .int .i64 fr, .slice ad zs.length cap], .int .i64 s, .int .i64 r'] w fun e w' => e = .returned (.int .i64 (if s = p - 1 then satF r' 2 else 0)) ∧ Below w.heap.size w w' := by
  have HB0 := hidden (ballc w (.cells #[.int .i64 n, .int .i64 f, .int .i64 d, .int .i64 p, .int .i64 r, .int .i64 dr, .int .i64 o, .int .i64 sl, .int .i64 md, .int .i64 fr, .slice ad zs.length cap] 24))
  have CS := hidden (fun V => sat_any r' 2 V (wfI hr') (by decide))
  by_cases h : s = p - 1
  · rw [if_pos h]
    have j : (s != p - 1) = false := by simp [h]
    clear h
    generalize satF r' 2 = x at *
    go_enter Try.func77, Try.ntmps77
    go_wp2_with fail
    refine (CS.out _).mono ?_
    rintro e w2 ⟨rfl, rfl⟩
    go_wp2
    go_ret
    exact ⟨rfl, HB0.out⟩
  · rw [if_neg h]
    have j : (s != p - 1) = true := by simp [h]
    clear h
    go_enter Try.func77, Try.ntmps77
    go_wp2
    go_ret
    exact ⟨rfl, HB0.out⟩

set_option maxHeartbeats 1000000 in
theorem BNext_any (n f d p r dr o sl md fr : Int) (ad : Option Addr) (cap : Nat) (zs : List Int) (s r' : Int) (pulse : Bool) (w : World) (hl : zs.length ≤ 9223372036854775807) (hT : Tab w ad zs) (hs : -9223372036854775808 ≤ s ∧ s ≤ 9223372036854775807) (hr' : -9223372036854775808 ≤ r' ∧ r' ≤ 9223372036854775807) :
    Calls Try.prog 39 #[.agg #[.int .i64 n, .int .i64 f, .int .i64 d, .int .i64 p, .int .i64 r, .int .i64 dr, .int .i64 o, .int .i64 sl, .int .i64 md, .int .i64 fr, .slice ad zs.length cap], .int .i64 s, .int .i64 r', .bool pulse] w fun e w' => e = .returned (.tuple #[.int .i64 (nxt1 (plainE n f d p r dr o sl md fr zs) p s pulse), .int .i64 (nxt2 (plainE n f d p r dr o sl md fr zs) p s r' pulse)]) ∧ Below w.heap.size w w' := by
  have HB0 := hidden (ballc w (.cells #[.int .i64 n, .int .i64 f, .int .i64 d, .int .i64 p, .int .i64 r, .int .i64 dr, .int .i64 o, .int .i64 sl, .int .i64 md, .int .i64 fr, .slice ad zs.length cap] 24))
  have HT := hidden (hT.below HB0.out)
  have HK := hidden (blk_nw w #[.int .i64 n, .int .i64 f, .int .i64 d, .int .i64 p, .int .i64 r, .int .i64 dr, .int .i64 o, .int .i64 sl, .int .i64 md, .int .i64 fr, .slice ad zs.length cap] 24)
  have HP := hidden (plain_any n f d p r dr o sl md fr ad cap zs (w.alloc (.cells #[.int .i64 n, .int .i64 f, .int .i64 d, .int .i64 p, .int .i64 r, .int .i64 dr, .int .i64 o, .int .i64 sl, .int .i64 md, .int .i64 fr, .slice ad zs.length cap] 24)) hl HT.out)
  by_cases hE : plainE n f d p r dr o sl md fr zs = 0
  · obtain ⟨_, _, _, _, _, _, _, hp1, hp2, _⟩ := plainE_ok hE
    have hp0 : 0 ≤ p := by
      have := plainE_ok hE
      have : 0 ≤ (f + 1) * d := Int.mul_nonneg (by omega) (by omega)
      omega
    have CR := hidden (fun V => regAt_any n f d p r dr o sl md fr ad cap zs s r' V ⟨hp0, hp2⟩ hr')
    have CS := hidden (fun V => sat_any s p V (wfI hs) (wfI (by omega)))
    have CC := hidden (fun V => clamp_any r' 0 2 V)
    rw [hE] at HP ⊢
    clear hT hE hp1
    cases pulse
    · have h1 : Hid (nxt1 0 p s false = satF s p) := by show _ = _; unfold nxt1 nxF; rw [if_pos rfl, if_neg (by decide)]
      have h2 : Hid (nxt2 0 p s r' false = if satF s p = p then 0 else clampF r' 0 2) := by show _ = _; unfold nxt2; rw [if_pos rfl, if_neg (by decide)]
      rw [h1.out, h2.out]
      clear h1 h2
      generalize satF s p = x at *
      generalize clampF r' 0 2 = y at *
      by_cases hx : x = p
      · have j : (x == p) = true := by simp [hx]
        rw [if_pos hx]
        clear hx
        go_enter Try.func39, Try.ntmps39
        go_wp2_with fail
        refine HP.out.mono ?_
        rintro e w2 ⟨rfl, hb⟩
        have HB2 := hidden (bthen HB0.out hb)
        have HK2 := hidden (blk_later HK.out hb)
        have c0 := blk_cell HK2.out
        have l0 := blk_lt HK2.out
        clear hb HT HK HP
        go_wp2_with fail
        refine (CS.out _).mono ?_
        rintro e w3 ⟨rfl, rfl⟩
        go_wp2
        exact bodyPost_ret (v := .tuple #[.int .i64 x, .int .i64 0]) (by simp [results, Try.results39, go_sem]) rfl ⟨rfl, HB2.out⟩
      · have j : (x == p) = false := by simp [hx]
        rw [if_neg hx]
        clear hx
        go_enter Try.func39, Try.ntmps39
        go_wp2_with fail
        refine HP.out.mono ?_
        rintro e w2 ⟨rfl, hb⟩
        have HB2 := hidden (bthen HB0.out hb)
        have HK2 := hidden (blk_later HK.out hb)
        have c0 := blk_cell HK2.out
        have l0 := blk_lt HK2.out
        clear hb HT HK HP
        go_wp2_with fail
        refine (CS.out _).mono ?_
        rintro e w3 ⟨rfl, rfl⟩
        go_wp2_with fail
        refine (CC.out _).mono ?_
        rintro e w4 ⟨rfl, rfl⟩
        go_wp2
        exact bodyPost_ret (v := .tuple #[.int .i64 x, .int .i64 y]) (by simp [results, Try.results39, go_sem]) rfl ⟨rfl, HB2.out⟩
    · have h1 : Hid (nxt1 0 p s true = 0) := by show _ = _; unfold nxt1 nxF; rw [if_pos rfl, if_pos rfl]
      have h2 : Hid (nxt2 0 p s r' true = if s = p - 1 then satF r' 2 else 0) := by show _ = _; unfold nxt2; rw [if_pos rfl, if_pos rfl]
      rw [h1.out, h2.out]
      clear h1 h2
      generalize (if s = p - 1 then satF r' 2 else 0) = y at *
      go_enter Try.func39, Try.ntmps39
      go_wp2_with fail
      refine HP.out.mono ?_
      rintro e w2 ⟨rfl, hb⟩
      have HB2 := hidden (bthen HB0.out hb)
      have HK2 := hidden (blk_later HK.out hb)
      have c0 := blk_cell HK2.out
      have l0 := blk_lt HK2.out
      clear hb HT HK HP
      go_wp2_with fail
      refine (CR.out _).mono ?_
      rintro e w3 ⟨rfl, hb⟩
      have HB3 := hidden (bthen HB2.out hb)
      clear hb
      go_wp2
      exact bodyPost_ret (v := .tuple #[.int .i64 0, .int .i64 y]) (by simp [results, Try.results39, go_sem]) rfl ⟨rfl, HB3.out⟩
  · have h1 : Hid (nxt1 (plainE n f d p r dr o sl md fr zs) p s pulse = 0) := if_neg hE
    have h2 : Hid (nxt2 (plainE n f d p r dr o sl md fr zs) p s r' pulse = 0) := if_neg hE
    rw [h1.out, h2.out]
    have j1 : (plainE n f d p r dr o sl md fr zs != 0) = true := bne_iff_ne.2 hE
    clear h1 h2
    generalize plainE n f d p r dr o sl md fr zs = E at *
    clear hE hT
    go_enter Try.func39, Try.ntmps39
    go_wp2_with fail
    refine HP.out.mono ?_
    rintro e w2 ⟨rfl, hb⟩
    have HB2 := hidden (bthen HB0.out hb)
    clear hb HP
    go_wp2
    exact bodyPost_ret (v := .tuple #[.int .i64 0, .int .i64 0]) (by simp [results, Try.results39, go_sem]) rfl ⟨rfl, HB2.out⟩
end Go.Proofs.Ytohgmliafidalaa

/- The call hear of package pipe returns the code of an instance that has heard an exchange, and makes at most new memory; conditions: rows lie where they say, lengths fit int, at most a hundred thousand votes. -/
namespace Go.Proofs.Ytohgmliafidalaa
open Go.ChangeShapes Go.WideShapes Go.ChangeAt Go.RowKit Go.Shelf
set_option linter.unusedVariables false

/-- What the king told, of what each text has at one place; the code behind an exchange. -/
def toldP (votes : List ByteArray) (x : Nat) : ByteArray := (digsP votes x).getD (x / 3) noB
def hrdB (E n f : Int) (votes : List ByteArray) (x : Nat) (b : UInt8) : UInt8 := UInt8.ofNat (48 + stpG E n f x (ba [b]) (toldP votes x) (digsP votes x) 0)
theorem dg_one (g : Nat → Nat) : dgB 1 g = ba [UInt8.ofNat (48 + g 0)] := rfl
theorem digs_size (votes : List ByteArray) (x : Nat) : ∀ t ∈ digsP votes x, t.size ≤ 9223372036854775807 := by
  intro t ht
  obtain ⟨s, _, rfl⟩ := List.mem_map.1 ht
  have := prt_size s x
  omega
theorem told_size (votes : List ByteArray) (x : Nat) : (toldP votes x).size ≤ 9223372036854775807 := by
  unfold toldP
  by_cases h : x / 3 < (digsP votes x).length
  · rw [List.getD_eq_getElem?_getD, List.getElem?_eq_getElem h, Option.getD_some]
    exact digs_size votes x _ (List.getElem_mem h)
  · rw [List.getD_eq_getElem?_getD, List.getElem?_eq_none (by omega)]
    decide
theorem wfNat (x : Nat) (hx : x ≤ 100000) : (Lit.int .i64 (x : Int)).wf = true := by
  have := wrap64_wf (x : Int)
  rwa [IntWalk.wrap64_in (x : Int) (by omega)] at this

set_option maxHeartbeats 2000000 in
theorem hear_any (n f d p r dr o sl md fr : Int) (ad : Option Addr) (cap : Nat) (zs : List Int) (R x : Nat) (hx : x < R) (hR15 : R ≤ 15) (b : UInt8) (a2 : Option Addr) (c2 : Nat) (votes : List ByteArray) (w : World) (hl : zs.length ≤ 9223372036854775807) (hT : Tab w ad zs) (hR : gate (plainE n f d p r dr o sl md fr zs) (3 * (f + 1)) = (R : Int))
    (hn : votes.length ≤ 100000) (hV : kStr.Lies w.heap.size w (.slice a2 votes.length c2) votes) (hz : ∀ t ∈ votes, t.size ≤ 9223372036854775807) :
    Calls Try.prog 110 #[.agg #[.int .i64 n, .int .i64 f, .int .i64 d, .int .i64 p, .int .i64 r, .int .i64 dr, .int .i64 o, .int .i64 sl, .int .i64 md, .int .i64 fr, .slice ad zs.length cap], .int .i64 (x : Int), .string (ba [b]), .slice a2 votes.length c2] w fun e w' => e = .returned (.string (ba [hrdB (plainE n f d p r dr o sl md fr zs) n f votes x b])) ∧ Below w.heap.size w w' := by
  have CD := hidden (fun (V : World) (hB : Below w.heap.size w V) => digitsAt_any a2 c2 votes x V (by omega) hn (hV.later hB) hz)
  have HB0 := hidden (ballc w (.cells #[.int .i64 n, .int .i64 f, .int .i64 d, .int .i64 p, .int .i64 r, .int .i64 dr, .int .i64 o, .int .i64 sl, .int .i64 md, .int .i64 fr, .slice ad zs.length cap] 24))
  have HT := hidden (hT.below HB0.out)
  have CK := hidden (fun V h => PKing_any n f d p r dr o sl md fr ad cap zs (x : Int) R (by omega) V hl h hR)
  rw [kingF_in (by omega) (by omega), show (x : Int) / 3 = ((x / 3 : Nat) : Int) by omega] at CK
  have CS := hidden (fun (V : World) (hB : Tab V ad zs) (g : Nat) (hg : SBlk V g (digsP votes x)) => VStep_any n f d p r dr o sl md fr ad cap zs (x : Int) (ba [b]) (toldP votes x) (some ⟨g, 0, none⟩) (digsP votes x).length (digsP votes x) V hl hB (wfNat x (by omega)) (by rw [ba_size]; simp) (told_size votes x) (by rw [digsP_len]; exact hn) (hg.lies (by rw [digsP_len]; simp only [maxLen]; omega)) (digs_size votes x))
  rw [show (ba [b]).size = 1 by rw [ba_size]; rfl, dg_one, digsP_len] at CS
  have HH : Hid (hrdB (plainE n f d p r dr o sl md fr zs) n f votes x b = UInt8.ofNat (48 + stpG (plainE n f d p r dr o sl md fr zs) n f x (ba [b]) (toldP votes x) (digsP votes x) 0)) := rfl
  rw [HH.out]
  clear HH hV hz hT hR
  generalize stpG (plainE n f d p r dr o sl md fr zs) n f x (ba [b]) (toldP votes x) (digsP votes x) 0 = q at *
  generalize ba [UInt8.ofNat (48 + q)] = out at *
  generalize ba [b] = code at *
  have hln := digsP_len votes x
  by_cases hq : x / 3 < votes.length
  · have HTD : Hid (toldP votes x = (digsP votes x).getD (x / 3) noB) := rfl
    have q1 : ((x / 3 : Nat) : Int) < (votes.length : Int) := by omega
    have q0 : (0 : Int) ≤ ((x / 3 : Nat) : Int) := by omega
    generalize toldP votes x = told at *
    generalize digsP votes x = ds at *
    generalize hxq : x / 3 = k at *
    generalize hM : votes.length = M at *
    clear hM hxq
    go_enter Try.func110, Try.ntmps110
    go_wp2_with fail
    refine (CD.out _ HB0.out).mono ?_
    rintro e w2 ⟨g, rfl, hS, hb⟩
    have HB := hidden (bthen HB0.out hb)
    have HT2 := hidden (HT.out.below hb)
    obtain ⟨hbox, hsz⟩ := box_at hb
    have HS := hidden hS
    clear hb HT CD hS
    go_wp2_with fail
    refine (CK.out _ HT2.out).mono ?_
    rintro e w3 ⟨rfl, hb⟩
    have hS3 := HS.out.later hb
    have c0 := hS3.cell k (by omega)
    rw [← HTD.out] at c0
    have l0 := hS3.lt
    have HB3 := hidden (bthen HB.out hb)
    have HT3 := hidden (HT2.out.below hb)
    have hbox3 : ∀ i, w3.cell? ⟨w.heap.size, i, none⟩ = w2.cell? ⟨w.heap.size, i, none⟩ := fun i => hb.cell (p := ⟨w.heap.size, i, none⟩) hsz
    have hsz3 := Nat.lt_of_lt_of_le hsz hb.size
    have hboxx : ∀ i, w3.cell? ⟨w.heap.size, i, none⟩ = (#[.int .i64 n, .int .i64 f, .int .i64 d, .int .i64 p, .int .i64 r, .int .i64 dr, .int .i64 o, .int .i64 sl, .int .i64 md, .int .i64 fr, .slice ad zs.length cap] : Array Value)[i]? := fun i => (hbox3 i).trans (hbox i)
    have CX := hidden (CS.out w3 HT3.out g hS3)
    clear hb hbox hsz HS HT2 CK hS3 hbox3
    go_wp2_with fail
    refine CX.out.mono ?_
    rintro e w4 ⟨rfl, hb⟩
    have HB4 := hidden (bthen HB3.out hb)
    clear hb
    go_wp2
    go_ret
    exact ⟨rfl, HB4.out⟩
  · have HTD : Hid (toldP votes x = noB) := by
      show _ = _
      unfold toldP
      rw [List.getD_eq_getElem?_getD, List.getElem?_eq_none (by omega)]
      rfl
    have HTN : Hid (noB = (⟨#[]⟩ : ByteArray)) := rfl
    rw [HTD.out, HTN.out] at CS
    have q1 : ¬ ((x / 3 : Nat) : Int) < (votes.length : Int) := by omega
    generalize digsP votes x = ds at *
    generalize hxq : x / 3 = k at *
    generalize hM : votes.length = M at *
    clear hM hxq
    go_enter Try.func110, Try.ntmps110
    go_wp2_with fail
    refine (CD.out _ HB0.out).mono ?_
    rintro e w2 ⟨g, rfl, hS, hb⟩
    have HB := hidden (bthen HB0.out hb)
    have HT2 := hidden (HT.out.below hb)
    obtain ⟨hbox, hsz⟩ := box_at hb
    have HS := hidden hS
    clear hb HT CD hS
    go_wp2_with fail
    refine (CK.out _ HT2.out).mono ?_
    rintro e w3 ⟨rfl, hb⟩
    have hS3 := HS.out.later hb
    have HB3 := hidden (bthen HB.out hb)
    have HT3 := hidden (HT2.out.below hb)
    have hbox3 : ∀ i, w3.cell? ⟨w.heap.size, i, none⟩ = w2.cell? ⟨w.heap.size, i, none⟩ := fun i => hb.cell (p := ⟨w.heap.size, i, none⟩) hsz
    have hsz3 := Nat.lt_of_lt_of_le hsz hb.size
    have hboxx : ∀ i, w3.cell? ⟨w.heap.size, i, none⟩ = (#[.int .i64 n, .int .i64 f, .int .i64 d, .int .i64 p, .int .i64 r, .int .i64 dr, .int .i64 o, .int .i64 sl, .int .i64 md, .int .i64 fr, .slice ad zs.length cap] : Array Value)[i]? := fun i => (hbox3 i).trans (hbox i)
    have CX := hidden (CS.out w3 HT3.out g hS3)
    clear hb hbox hsz HS HT2 CK hS3 hbox3
    go_wp2_with fail
    refine CX.out.mono ?_
    rintro e w4 ⟨rfl, hb⟩
    have HB4 := hidden (bthen HB3.out hb)
    clear hb
    go_wp2
    go_ret
    exact ⟨rfl, HB4.out⟩
end Go.Proofs.Ytohgmliafidalaa

/- A law of one's own on ranges over a function whose rounds all go on: the function hands so many rounds what a number gives, and what the rounds keep is counted by their number; conditions: no round leaves the loop. -/
namespace Go.Proofs.Ytohgmliafidalaa
open Go.ChangeShapes Go.WideShapes Go.ChangeAt Go.RowKit Go.Shelf
set_option linter.unusedVariables false

theorem from_up {B C : Nat} {X Y : World} (h : KeepsFrom B X Y) (k : B ≤ C) : KeepsFrom C X Y := ⟨h.size, fun i o hi => h.same i o (Nat.le_trans k hi)⟩
theorem own_up {β : Type} {B C : Nat} {I : β → World → Prop} (h : OwnFrom B I) (k : B ≤ C) : OwnFrom C I := fun s X Y row hs hg hr => h s X Y row hs hg (fun r e => ⟨Nat.le_trans k (hr r e).1, (hr r e).2⟩)
theorem from_put {C l : Nat} {X : World} (o : Obj) (h : l < C) : KeepsFrom C X (X.putObj l o) := KeepsFrom.of_grownBy (grownBy_putObj' X l o) (fun j e => by cases e; exact h)
theorem below_grown {X Y : World} (h : Below X.heap.size X Y) : X.grownBy Y none := ⟨h.os, h.tape, h.output, h.size, fun k hk _ => h.block k hk⟩
theorem own_below' {β : Type} {B : Nat} {I : β → World → Prop} (h : OwnFrom B I) {s : β} {X Y : World} (hs : I s X) (hb : Below X.heap.size X Y) : I s Y := h s X Y none hs (below_grown hb) (fun r e => by cases e)
theorem own_put {β : Type} {B D : Nat} {I : β → World → Prop} (h : OwnFrom B I) {s : β} {X : World} (hs : I s X) (hB : B ≤ D) (hK : X.heap[D]? = some (.deferred (some []))) : I s (X.putObj D (.deferred none)) := h.putObj _ hs hB hK rfl
theorem cells_own {β : Type} (B b : Nat) (C : Array Value) (t : TypeId) : OwnFrom B (fun (_ : β) W => W.heap[b]? = some (.cells C t (0, 0))) := fun s X Y row hs hg hr =>
  (hg.block b (Array.getElem?_eq_some_iff.1 hs).1 (fun e => by obtain ⟨_, o, ho, hc⟩ := hr b e.symm; rw [hs] at ho; cases ho; cases hc)).trans hs
/-- A round is a round at any depth, and within another loop's round. -/
theorem round_any {m m' l l2 : Nat} {f : FuncId} {tmps : Array Value} {assign body : Code} {w : World} {R : Ending → World → Prop} (h : RoundIn Fence.wide m Try.prog l f tmps assign body w R) : RoundIn (Fence.wide.inRound l2) m' Try.prog l f tmps assign body w R := ⟨h.1, fun c cs _ => h.2 c cs (fun d hd => by cases hd)⟩
theorem round_dep {m m' l : Nat} {f : FuncId} {tmps : Array Value} {assign body : Code} {w : World} {R : Ending → World → Prop} (h : RoundIn Fence.wide m Try.prog l f tmps assign body w R) : RoundIn Fence.wide m' Try.prog l f tmps assign body w R := ⟨h.1, fun c cs _ => h.2 c cs (fun d hd => by cases hd)⟩
/-- A region whose order is drawn goes in a loop's round as it goes elsewhere, where nothing in it is deferred. -/
theorem op_round {P : Program} {n l : Nat} {ops : Array Oper} {Q : Exit → Act → World → Prop} {i : Nat} {K : Act → World → Prop} {a : Act} {w : World} (hd : ∀ o, ops[i]? = some o → ∀ c, o.op ≠ .defer c) (h : wpOpIn Fence.wide n P ops Q i K a w) : wpOpIn (Fence.wide.inRound l) n P ops Q i K a w := by
  unfold wpOpIn at h ⊢
  cases ho : ops[i]? with
  | none =>
    rw [ho] at h
    exact h
  | some o =>
    rw [ho] at h
    simp only at h ⊢
    by_cases hw : Region.wanted o (yielded ops a.tmps) = true
    · rw [if_pos hw] at h ⊢
      unfold Oper.wpIn at h ⊢
      refine ⟨fun f hf => trivial, ?_⟩
      have h2 := h.2
      rw [show (Fence.wide.inRound l).round = some l from rfl, Oper.semAt_some l a.eval o (hd o ho)]
      exact h2
    · rw [if_neg hw] at h ⊢
      exact ⟨fun f hf => trivial, h.2⟩
theorem any_round {P : Program} {n l : Nat} {md : Region.Mode} {ops : Array Oper} {Q : Exit → Act → World → Prop} (hd : ∀ (i : Nat) (o : Oper), ops[i]? = some o → ∀ c : Call, o.op ≠ Op.defer c) : ∀ (fuel : Nat) (listed : Array Bool) (a : Act) (w : World), wpAnyIn Fence.wide n P md ops Q fuel listed a w → wpAnyIn (Fence.wide.inRound l) n P md ops Q fuel listed a w
  | 0, _, _, _, h => h
  | fuel + 1, listed, a, w, h => ⟨h.1, fun i hi => wpOpIn_mono (fun a' w' h' => any_round hd fuel _ a' w' h') (op_round (hd i) (h.2 i hi))⟩
theorem no_defer {ops : Array Oper} (h : ops.toList.all (fun o => match o.op with | .defer _ => false | _ => true) = true) (i : Nat) (o : Oper) (ho : ops[i]? = some o) (c : Call) : o.op ≠ Op.defer c := by
  intro e
  have hm : o ∈ ops.toList := by
    rw [← Array.getElem?_toList] at ho
    exact List.mem_of_getElem? ho
  have := List.all_eq_true.1 h o hm
  rw [e] at this
  cases this
/-- A function that hands R values to the rounds of its loop, one after another. -/
def Gives (m gf : Nat) (lb : Array Value) (R : Nat) (encs : Nat → Array Value) (Kp : World → World → Prop) (w : World) : Prop :=
  ∀ (l : Nat) (J : Nat → World → Prop) (W : World), Below w.heap.size w W → OwnFrom W.heap.size J →
    (∀ k V, k < R → J k V → YieldAt Fence.wide (m - 1) Try.prog l (encs k) V fun e V' => e = .returned (.bool true) ∧ J (k + 1) V' ∧ Kp V V' ∧ KeepsFrom W.heap.size V V') →
    J 0 W → CallsIn Fence.wide m Try.prog gf (#[.func (.yield l) #[] #[]] ++ lb) W fun e W' => (∃ v, e = .returned v) ∧ J R W'
/-- A round that goes on. -/
def goesOn (B : Nat) (Kp : World → World → Prop) (J : World → Prop) (W : World) : Exit → Act → World → Prop
  | .normal, _, W' => KeepsFrom B W W' ∧ Kp W W' ∧ J W'
  | .ret, _, _ => False
  | .exit _, _, _ => False
  | .goto _, _, _ => False
  | .panic _, _, _ => False
  | .outgrown, _, _ => False
theorem rf_gives {g : Operand} {ps : Array Tmp} {assign body : Code} {Q : Exit → Act → World → Prop} {a : Act} {w : World} {m gf : Nat} {lb : Array Value} {R : Nat} {encs : Nat → Array Value} {Kp : World → World → Prop} {w0 : World}
    (hg : a.eval g = .func (.func gf) #[] lb) (eg : Enters Try.prog gf) (hseq : Gives (m - 1) gf lb R encs Kp w0) (hb0 : Below w0.heap.size w0 w) (hps : ∀ k, (encs k).size = ps.size)
    (hKt : ∀ {A B C : World}, Kp A B → Kp B C → Kp A C) (hKb : ∀ (W : World) (l : Nat) (o o' : Obj), w.heap.size ≤ l → W.heap[l]? = some o → o.isCells = false → Kp W (W.putObj l o'))
    (I : Nat → World → Prop) (hI : OwnFrom w.heap.size I) (h0 : I 0 w) (a₁ : Nat → Act)
    (hassign : ∀ (l k : Nat) (W : World) (K : Act → World → Prop), K (a₁ k) W → assign.wpIn (Fence.wide.inRound l) (m - 1 - 1) Try.prog (Exit.then K (fun _ _ _ => False)) { tmps := (ps.zip (encs k)).foldl (fun t (p, v) => t.setIfInBounds p v) a.tmps, defers := [] } W)
    (hbody : ∀ (l k : Nat) (W : World), w.heap.size ≤ l → k < R → I k W → body.wpIn (Fence.wide.inRound l) (m - 1 - 1) Try.prog (goesOn w.heap.size Kp (I (k + 1)) W) (a₁ k) W)
    (hdone : ∀ (D : Nat) (W : World), w.heap.size ≤ D → I R W → W.heap[D]? = some (.deferred (some [])) → Q .normal { a with defers := { target := .collected D, args := #[] } :: a.defers } W) :
    (Code.rangeFunc g ps assign body).wpIn Fence.wide m Try.prog Q a w := by
  refine wpIn_rangeFunc fun fn hfn => ?_
  obtain ⟨rec, hrec⟩ : ∃ rec : LoopState → Loop, rec = fun st => { state := st, pending := none, fn, tmps := a.tmps, params := ps, assign, body, defers := w.heap.size } := ⟨_, rfl⟩
  have hst : ∀ st st', { rec st with state := st' } = rec st' := fun st st' => by rw [hrec]
  have hne : ∀ st, (rec st).state = st := fun st => by rw [hrec]
  obtain ⟨V1, hV1⟩ : ∃ V1, (w.alloc (.deferred (some []))).alloc (.loop (rec .ready)) = V1 := ⟨_, rfl⟩
  have s1 : V1.heap.size = w.heap.size + 1 + 1 := by rw [← hV1]; simp
  have kl : V1.heap[w.heap.size + 1]? = some (.loop (rec .ready)) := by
    have h := World.alloc_heap_new (w.alloc (.deferred (some []))) (.loop (rec .ready))
    rw [← hV1]
    rwa [World.size_alloc] at h
  have kd : V1.heap[w.heap.size]? = some (.deferred (some [])) := by
    rw [← hV1]
    exact (Below.heap_alloc _ _ _ (by simp)).trans (World.alloc_heap_new w _)
  have i1 : I 0 V1 := by
    rw [← hV1]
    exact hI.alloc _ (hI.alloc _ h0)
  have bl : Below w0.heap.size w0 V1 := by
    rw [← hV1]
    exact bthen (bthen hb0 (ballc w _)) (ballc _ _)
  refine ⟨w.heap.size + 1, [{ target := .collected w.heap.size, args := #[] }], V1, { target := .fn (.func gf) lb, args := #[.func (.yield (w.heap.size + 1)) #[] #[]] }, V1, gf, #[.func (.yield (w.heap.size + 1)) #[] #[]] ++ lb, V1, ?enter, ?res, fun _ _ => trivial, ?inv, fun h => (by cases h), ?calls⟩
  case enter =>
    rw [← hV1, hrec]
    exact run_enterLoop_outer fn a.tmps ps assign body
  case res =>
    simp only [resolve, hg]
    simp [go_sem]
  case inv =>
    unfold Enters at eg
    simp [invoke, go_sem, eg]
  case calls =>
    have hJ : OwnFrom V1.heap.size (fun k W => I k W ∧ W.heap[w.heap.size + 1]? = some (.loop (rec .ready)) ∧ W.heap[w.heap.size]? = some (.deferred (some []))) := by
      intro k X Y row hs hgr hr
      have hx : ∀ j, j < V1.heap.size → some j ≠ row := fun j hj e => by have := (hr j e.symm).1; omega
      exact ⟨own_up hI (by omega) k X Y row hs.1 hgr hr, (hgr.block _ (Array.getElem?_eq_some_iff.1 hs.2.1).1 (hx _ (by omega))).trans hs.2.1, (hgr.block _ (Array.getElem?_eq_some_iff.1 hs.2.2).1 (hx _ (by omega))).trans hs.2.2⟩
    refine (hseq (w.heap.size + 1) _ V1 bl hJ ?round ⟨i1, kl, kd⟩).mono ?after
    case round =>
      rintro k V hk ⟨hi, hl, hd⟩
      have lt : w.heap.size + 1 < V.heap.size := (Array.getElem?_eq_some_iff.1 hl).1
      have hy := run_yield (P := Try.prog) (args := encs k) hl (by rw [hrec]; exact hps k)
      rw [hrec] at hy
      refine ⟨fn, _, assign, body, hy, roundIn_of_wpIn hfn (hassign _ k V _ ⟨_, run_beginRound hl (hne _), ?_⟩)⟩
      rw [hst]
      have l2 : (V.putObj (w.heap.size + 1) (.loop (rec .busy))).heap[w.heap.size + 1]? = some (.loop (rec .busy)) := World.putObj_heap_same lt
      have d2 : (V.putObj (w.heap.size + 1) (.loop (rec .busy))).heap[w.heap.size]? = some (.deferred (some [])) := (World.putObj_heap_other (by omega)).trans hd
      refine wpIn_mono (hbody _ k _ (by omega) hk (hI.putObj _ hi (by omega) hl rfl)) ?_
      intro e a3 V3 hp
      cases e with
      | normal =>
        obtain ⟨f3, p3, i3⟩ := hp
        have l3 := f3.same _ _ (by omega) l2 rfl
        have d3 := f3.same _ _ (Nat.le_refl _) d2 rfl
        have hend := run_endRound (P := Try.prog) none l3
        refine ⟨_, _, hend, rfl, ⟨hI.putObj _ i3 (by omega) l3 rfl, ?_, (World.putObj_heap_other (by omega)).trans d3⟩, hKt (hKt (hKb _ _ _ _ (by omega) hl rfl) p3) (hKb _ _ _ _ (by omega) l3 rfl), ?_⟩
        · rw [World.putObj_heap_same (Array.getElem?_eq_some_iff.1 l3).1, hrec]
          rfl
        · exact ((from_put _ (by omega)).trans (from_up f3 (by omega))).trans (from_put _ (by omega))
      | ret => exact hp.elim
      | exit id => exact hp.elim
      | goto t => exact hp.elim
      | panic ch => exact hp.elim
      | outgrown => exact hp.elim
    case after =>
      rintro e V2 ⟨⟨v, rfl⟩, hi, hl, hd⟩
      refine ⟨none, _, ?_, hdone w.heap.size _ (Nat.le_refl _) (hI.putObj (.loop (rec .exhausted)) hi (by omega) hl rfl) ((World.putObj_heap_other (by omega)).trans hd)⟩
      have h := run_endLoop (P := Try.prog) hl (by rw [hne]; decide)
      rw [hst] at h
      rw [h, hrec]
end Go.Proofs.Ytohgmliafidalaa

/- The iterators of packages plan and pipe hand their rounds each exchange, with when it is told and with the codes of its stretch; conditions: what they have captured lies where it says, and a round keeps it. -/
namespace Go.Proofs.Ytohgmliafidalaa
open Go.ChangeShapes Go.WideShapes Go.ChangeAt Go.RowKit Go.Shelf
set_option linter.unusedVariables false
attribute [local go_sem] Oper.semAt_some

set_option maxRecDepth 100000 in
set_option maxHeartbeats 2000000 in
theorem ages_gives (n f d p r dr o sl md fr : Int) (ad : Option Addr) (cap : Nat) (zs : List Int) (R : Nat) (hR : R ≤ 15) (hd : R = 0 ∨ 1 ≤ d ∧ d ≤ 4) (m : Nat) (hm : 1 ≤ m) (gr gc : Nat) (Kp : World → World → Prop)
    (hKp : ∀ X Y, Kp X Y → X.heap[gc]? = some (.cells #[.int .i64 n, .int .i64 f, .int .i64 d, .int .i64 p, .int .i64 r, .int .i64 dr, .int .i64 o, .int .i64 sl, .int .i64 md, .int .i64 fr, .slice ad zs.length cap] 24 (0, 0)) → Y.heap[gc]? = some (.cells #[.int .i64 n, .int .i64 f, .int .i64 d, .int .i64 p, .int .i64 r, .int .i64 dr, .int .i64 o, .int .i64 sl, .int .i64 md, .int .i64 fr, .slice ad zs.length cap] 24 (0, 0))) (w : World)
    (b1 : w.heap[gr]? = some (.cells #[.int .i64 (R : Int)] 3 (0, 0))) (b2 : w.heap[gc]? = some (.cells #[.int .i64 n, .int .i64 f, .int .i64 d, .int .i64 p, .int .i64 r, .int .i64 dr, .int .i64 o, .int .i64 sl, .int .i64 md, .int .i64 fr, .slice ad zs.length cap] 24 (0, 0))) :
    Gives m 117 #[.pointer (some ⟨gr, 0, none⟩), .pointer (some ⟨gc, 0, none⟩)] R (fun k => #[.int .i64 (k : Int), .int .i64 ((k : Int) * d)]) Kp w := by
  intro l J W hW _ hY h0
  replace b1 := (hW.block gr (Array.getElem?_eq_some_iff.1 b1).1).trans b1
  replace b2 := (hW.block gc (Array.getElem?_eq_some_iff.1 b2).1).trans b2
  have c1 := blk_cell b1 0
  have HK := hidden b2
  clear b2 hW
  refine callsIn_of_wp Try.func117 rfl trivial ?_ rfl
  simp only [Try.ntmps117, List.size_toArray, List.length_cons, List.length_nil, Nat.reduceAdd, Nat.reduceSub, Array.replicate_succ, Array.replicate_zero, List.push_toArray, List.append_toArray, List.nil_append, List.cons_append]
  gi_wp2
  clear c1 b1
  gi_loopw [6] (fun i wr => ∃ k : Nat, k ≤ R ∧ i = .int .i64 k ∧ J k wr ∧ Hid (wr.heap[gc]? = some (.cells #[.int .i64 n, .int .i64 f, .int .i64 d, .int .i64 p, .int .i64 r, .int .i64 dr, .int .i64 o, .int .i64 sl, .int .i64 md, .int .i64 fr, .slice ad zs.length cap] 24 (0, 0))))
    (fun i _ => R - (intV i).toNat)
  case atStart => exact ⟨0, Nat.zero_le _, rfl, h0, HK⟩
  case round =>
    obtain ⟨k, hk, rfl, hJs, hb2⟩ := hrel
    by_cases hlt : k < R
    · have c2 := fun i => blk_cell hb2.out i
      obtain ⟨q1, q2⟩ := xd_bd hR hd hlt
      obtain ⟨fn, tmps, assign, body, hy, hRd⟩ := hY k wr hlt hJs
      clear hY hJs hd h0
      gi_wp2
      refine hRd.mono ?_
      rintro e W3 ⟨rfl, hJ3, hk3, _⟩
      have hb3 := hidden (hKp _ _ hk3 hb2.out)
      gi_wp2
      go_roundw
      case rel => exact ⟨k + 1, by omega, by simp, hJ3, hb3⟩
      case measure => simp [intV]; omega
    · obtain rfl : k = R := by omega
      gi_wp2
      go_end0
      exact ⟨⟨_, rfl⟩, hJs⟩
end Go.Proofs.Ytohgmliafidalaa

/- The call stretches of package pipe hands back an iterator that hands its rounds each exchange with the codes of its stretch; conditions: the table lies where it says, the codes have a place for each. -/
namespace Go.Proofs.Ytohgmliafidalaa
open Go.ChangeShapes Go.WideShapes Go.ChangeAt Go.RowKit Go.Shelf
set_option linter.unusedVariables false
attribute [local go_sem] Oper.semAt_some

/-- What a round over stretches keeps: configurations, functions, and one more block. -/
def KpT (gs : Nat) (X Y : World) : Prop := ∀ (b : Nat) (C : Array Value) (t : TypeId) (fr : Nat × Nat), X.heap[b]? = some (.cells C t fr) → (t = 24 ∨ t = 130 ∨ b = gs) → Y.heap[b]? = some (.cells C t fr)
theorem KpT.t {gs : Nat} {X Y Z : World} (h : KpT gs X Y) (k : KpT gs Y Z) : KpT gs X Z := fun b C t fr hb ht => k b C t fr (h b C t fr hb ht) ht
theorem KpT.refl (gs : Nat) (X : World) : KpT gs X X := fun _ _ _ _ h _ => h
theorem KpT.put {gs : Nat} (W : World) (l : Nat) (o o' : Obj) (hl : W.heap[l]? = some o) (ho : o.isCells = false) : KpT gs W (W.putObj l o') := fun b C t fr hb _ => by
  refine (World.putObj_heap_other (fun e => ?_)).trans hb
  subst e
  rw [hb] at hl
  cases hl
  cases ho
theorem KpT.below {gs : Nat} {X Y : World} (h : Below X.heap.size X Y) : KpT gs X Y := fun b C t fr hb _ => blk_later hb h
theorem KpT.grown {gs g : Nat} {X Y : World} {C : Array Value} {t : TypeId} {fr : Nat × Nat} (h : X.grownBy Y (some g)) (hg : X.heap[g]? = some (.cells C t fr)) (h1 : t ≠ 24) (h2 : t ≠ 130) (h3 : g ≠ gs) : KpT gs X Y := fun b C' t' fr' hb ht => by
  refine (h.block b (blk_lt hb) (fun e => ?_)).trans hb
  cases e
  rw [hg] at hb
  cases hb
  rcases ht with ht | ht | ht
  · exact h1 ht
  · exact h2 ht
  · exact h3 ht
theorem stretch_cut (g P D L cap : Nat) (hD : 1 ≤ D) (hc : P + D ≤ cap) (W : World) : (Instr.slice 88 (.slice (some ⟨g, 0, none⟩) L cap) (some (.int .i64 (P : Int))) (some (.int .i64 ((P : Int) + (D : Int)))) (some (.int .i64 ((P : Int) + (D : Int))))).run Try.prog W = .ok (.slice (some ⟨g, P, none⟩) D D) W := by
  have ht : Try.prog.underlying 88 = some (.slice (Try.prog.elem 88)) := by kernel_rfl
  rw [run_slice_lhm W 88 _ L cap ht .i64 .i64 .i64 (P : Int) ((P : Int) + (D : Int)) ((P : Int) + (D : Int)) (by omega) (by omega) (by omega) (by omega)]
  have hz : (sizeOf (Try.prog.elem 88)).run Try.prog W = .ok 1 W := by kernel_rfl
  rw [hz]
  have e1 : ((P : Int) + (D : Int)).toNat = P + D := by omega
  simp only [Result.andThen, sliced, e1, Int.toNat_natCast]
  rw [if_neg (by omega), show P + D - P = D by omega]
  simp [Addr.add]
  intro h
  omega

theorem stretches_any (n f d p r dr o sl md fr : Int) (ad : Option Addr) (cap : Nat) (zs : List Int) (a2 : Option Addr) (L c2 : Nat) (w : World) :
    Calls Try.prog 82 #[.agg #[.int .i64 n, .int .i64 f, .int .i64 d, .int .i64 p, .int .i64 r, .int .i64 dr, .int .i64 o, .int .i64 sl, .int .i64 md, .int .i64 fr, .slice ad zs.length cap], .slice a2 L c2] w fun e w' => ∃ gc gs, e = .returned (.func (.func 114) #[] #[.pointer (some ⟨gc, 0, none⟩), .pointer (some ⟨gs, 0, none⟩)]) ∧ w'.heap[gc]? = some (.cells #[.int .i64 n, .int .i64 f, .int .i64 d, .int .i64 p, .int .i64 r, .int .i64 dr, .int .i64 o, .int .i64 sl, .int .i64 md, .int .i64 fr, .slice ad zs.length cap] 24 (0, 0)) ∧ w'.heap[gs]? = some (.cells #[.slice a2 L c2] 88 (0, 0)) ∧ w.heap.size ≤ gs ∧ Below w.heap.size w w' := by
  have hmf : ∀ (fn : Fn) (first cap : Array Value) (w : World), (Instr.makeFunc fn first cap).run Try.prog w = .ok (.func fn first cap) w := fun _ _ _ _ => rfl
  have k1 := blk_nw w #[.int .i64 n, .int .i64 f, .int .i64 d, .int .i64 p, .int .i64 r, .int .i64 dr, .int .i64 o, .int .i64 sl, .int .i64 md, .int .i64 fr, .slice ad zs.length cap] 24
  have k2 := blk_newAt (w.alloc (.cells #[.int .i64 n, .int .i64 f, .int .i64 d, .int .i64 p, .int .i64 r, .int .i64 dr, .int .i64 o, .int .i64 sl, .int .i64 md, .int .i64 fr, .slice ad zs.length cap] 24)) #[.slice a2 L c2] 88 (b := w.heap.size + 1) (by simp)
  have K1 := hidden (blk_later k1 (ballc _ (.cells #[.slice a2 L c2] 88)))
  have K2 := hidden k2
  have HB := hidden (bthen (ballc w (.cells #[.int .i64 n, .int .i64 f, .int .i64 d, .int .i64 p, .int .i64 r, .int .i64 dr, .int .i64 o, .int .i64 sl, .int .i64 md, .int .i64 fr, .slice ad zs.length cap] 24)) (ballc _ (.cells #[.slice a2 L c2] 88)))
  clear k1 k2
  go_enter Try.func82, Try.ntmps82
  go_wp2
  go_ret
  exact ⟨_, _, rfl, K1.out, K2.out, by omega, HB.out⟩

set_option maxRecDepth 100000 in
set_option maxHeartbeats 4000000 in
theorem str_gives (n f d p r dr o sl md fr : Int) (ad : Option Addr) (cap : Nat) (zs : List Int) (R D L cap' : Nat) (hR15 : R ≤ 15) (hd : R = 0 ∨ (d = (D : Int) ∧ 1 ≤ D ∧ D ≤ 4)) (m : Nat) (hm : 4 ≤ m) (gc gs g : Nat) (w : World) (hl : zs.length ≤ 9223372036854775807) (hT : Tab w ad zs) (hR : gate (plainE n f d p r dr o sl md fr zs) (3 * (f + 1)) = (R : Int))
    (b1 : w.heap[gc]? = some (.cells #[.int .i64 n, .int .i64 f, .int .i64 d, .int .i64 p, .int .i64 r, .int .i64 dr, .int .i64 o, .int .i64 sl, .int .i64 md, .int .i64 fr, .slice ad zs.length cap] 24 (0, 0))) (b2 : w.heap[gs]? = some (.cells #[.slice (some ⟨g, 0, none⟩) L cap'] 88 (0, 0))) (hcap : R * D ≤ cap') :
    Gives m 114 #[.pointer (some ⟨gc, 0, none⟩), .pointer (some ⟨gs, 0, none⟩)] R (fun k => #[.int .i64 (k : Int), .slice (some ⟨g, k * D, none⟩) D D]) (KpT gs) w := by
  intro l J W hW hJ hY h0
  have hro : Fence.wide.round = none := rfl
  have h1 : 1 ≤ m := by omega
  have hfa : Fence.wide.fn 84 := trivial
  replace b1 := blk_later b1 hW
  replace b2 := blk_later b2 hW
  replace hT := hT.below hW
  have hJa := hJ.alloc (.cells #[.func (.yield l) #[] #[]] 130) h0
  have HB0 := hidden (ballc W (.cells #[.func (.yield l) #[] #[]] 130))
  have K1 := hidden (blk_later b1 HB0.out)
  have K2 := hidden (blk_later b2 HB0.out)
  have K3 := hidden (blk_nw W #[.func (.yield l) #[] #[]] 130)
  have HA := hidden (fun V h => Ages_any n f d p r dr o sl md fr ad cap zs R V hl h hR)
  have HT := hidden (hT.below HB0.out)
  have HJ := hidden hJa
  have c1 := fun i => blk_cell b1 i
  have l1 := blk_lt b1
  clear hT hW h0 hJa b1 b2
  refine callsIn_of_wp_marks Try.func114 rfl trivial ?_ hro
  simp only [Try.ntmps114, List.size_toArray, List.length_cons, List.length_nil, Nat.reduceAdd, Nat.reduceSub, Array.replicate_succ, Array.replicate_zero, List.push_toArray, List.append_toArray, List.nil_append, List.cons_append]
  gi_wp2_with (gi_at_call 84; refine (callsIn_wide.2 (HA.out _ HT.out)).mono ?_; rintro e w0 ⟨gr, ga, rfl, d1, d2, hb⟩)
  have E1 := hidden (blk_later K1.out hb)
  have E2 := hidden (blk_later K2.out hb)
  have E3 := hidden (blk_later K3.out hb)
  have HB := hidden (bthen HB0.out hb)
  have HJ0 : Hid (J 0 w0) := own_below' hJ HJ.out hb
  clear hb HA HT c1 K1 K2 K3 HJ
  refine rf_gives (gf := 117) (lb := #[.pointer (some ⟨gr, 0, none⟩), .pointer (some ⟨ga, 0, none⟩)]) rfl (enters_of Try.func117 (by kernel_rfl) rfl)
    (ages_gives n f d p r dr o sl md fr ad cap zs R hR15 (by omega) (m - 1) (by omega) gr ga (KpT gs) (fun X Y hk hx => hk ga _ _ _ hx (.inl rfl)) w0 d1 d2) (Below.refl _ _) (fun _ => rfl) KpT.t (fun V l o o' _ h1 h2 => KpT.put V l o o' h1 h2)
    (fun k V => J k V ∧ V.heap[gc]? = some (.cells #[.int .i64 n, .int .i64 f, .int .i64 d, .int .i64 p, .int .i64 r, .int .i64 dr, .int .i64 o, .int .i64 sl, .int .i64 md, .int .i64 fr, .slice ad zs.length cap] 24 (0, 0)) ∧ V.heap[gs]? = some (.cells #[.slice (some ⟨g, 0, none⟩) L cap'] 88 (0, 0)) ∧ V.heap[W.heap.size]? = some (.cells #[.func (.yield l) #[] #[]] 130 (0, 0)))
    ?own ⟨HJ0.out, E1.out, E2.out, E3.out⟩
    (fun k => { tmps := #[.func (.yield l) #[] #[], .pointer (some ⟨gc, 0, none⟩), .pointer (some ⟨gs, 0, none⟩), .pointer (some ⟨W.heap.size, 0, none⟩), .int .i64 (k : Int), .int .i64 ((k : Int) * d), undef, .agg #[.int .i64 n, .int .i64 f, .int .i64 d, .int .i64 p, .int .i64 r, .int .i64 dr, .int .i64 o, .int .i64 sl, .int .i64 md, .int .i64 fr, .slice ad zs.length cap], .func (.func 117) #[] #[.pointer (some ⟨gr, 0, none⟩), .pointer (some ⟨ga, 0, none⟩)], .int .i64 (k : Int), .int .i64 ((k : Int) * d), undef, undef, undef, undef, undef, undef, undef, undef, undef, undef, undef, undef, undef], defers := [] })
    ?assign ?body ?done
  case own => exact OwnFrom.and (own_up hJ (Nat.le_trans (by simp) HB.out.size)) (OwnFrom.and (cells_own _ _ _ _) (OwnFrom.and (cells_own _ _ _ _) (cells_own _ _ _ _)))
  case assign =>
    intro l2 k V K hK
    gi_wp2
    exact hK
  case body =>
    rintro l2 k V hl2 hk ⟨hJk, e1, e2, e3⟩
    obtain ⟨rfl, hD1, hD4⟩ : d = (D : Int) ∧ 1 ≤ D ∧ D ≤ 4 := by rcases hd with h | h; omega; exact h
    have hbd : Below V.heap.size V V.drew := (Below.refl _ V).drew
    obtain ⟨fn, tmps, assign, body, hy, hRd⟩ := hY k V.drew hk (own_below' hJ hJk hbd)
    have hmix : Try.prog.follows .mixedOrders = true := by kernel_rfl
    have hkD : k * D + D ≤ R * D := by rw [← Nat.succ_mul]; exact Nat.mul_le_mul_right D hk
    have hR60 : R * D ≤ 60 := Nat.mul_le_mul hR15 hD4
    have cut := stretch_cut g (k * D) D L cap' hD1 (by omega)
    have hP : (k : Int) * (D : Int) = ((k * D : Nat) : Int) := by simp
    rw [hP]
    have HF : Hid (∀ X : World, KeepsFrom W.heap.size V.drew X → KeepsFrom w0.heap.size V X) := fun X h => from_up (⟨h.size, h.same⟩ : KeepsFrom W.heap.size V X) (show W.heap.size ≤ w0.heap.size from Nat.le_trans (by simp) HB.out.size)
    have c1 : V.cell? ⟨gc, 2, none⟩ = some (.int .i64 (D : Int)) := blk_cell e1 2
    have c2 : V.cell? ⟨gs, 0, none⟩ = some (.slice (some ⟨g, 0, none⟩) L cap') := blk_cell e2 0
    have c3 : V.cell? ⟨W.heap.size, 0, none⟩ = some (.func (.yield l) #[] #[]) := blk_cell e3 0
    have HE1 := hidden e1
    have HE2 := hidden e2
    have HE3 := hidden e3
    generalize hPP : k * D = P at *
    clear hY hJk hd e1 e2 e3 hP hl hJ hR
    have hP60 : P ≤ 60 := by omega
    clear hkD hR60 hcap
    gi_wp2
    refine wpIn_region_any hmix ?_
    change wpAnyIn _ _ _ _ _ _ _ _ _ V.drew
    refine any_round (no_defer (by kernel_rfl)) _ _ _ _ ?_
    refine wpAnyIn_take (i := 1) (v := .int .i64 (k : Int)) rfl rfl (by kernel_rfl) (by kernel_rfl) (by kernel_rfl) (fun _ _ _ h => h) ⟨Or.inl ⟨by rfl, fun X => by go_simp⟩, fun _ => rfl⟩ ?_
    refine wpAnyIn_take (i := 3) (v := .int .i64 (P : Int)) rfl rfl (by kernel_rfl) (by kernel_rfl) (by kernel_rfl) (fun _ _ _ h => h) ⟨Or.inl ⟨by rfl, fun X => by go_simp⟩, fun _ => rfl⟩ ?_
    refine wpAnyIn_take (i := 4) (v := .int .i64 ((P : Int) + (D : Int))) rfl rfl (by kernel_rfl) (by kernel_rfl) (by kernel_rfl) (fun _ _ _ h => h) ⟨Or.inl ⟨by rfl, fun X => by go_simp⟩, fun _ => rfl⟩ ?_
    refine wpAnyIn_take (i := 5) (v := .int .i64 ((P : Int) + (D : Int))) rfl rfl (by kernel_rfl) (by kernel_rfl) (by kernel_rfl) (fun _ _ _ h => h) ⟨Or.inl ⟨by rfl, fun X => by go_simp⟩, fun _ => rfl⟩ ?_
    refine wpAnyIn_ready (rs := [0, 2]) (by kernel_rfl) (by simp) ?_
    refine AllReadyIn.cons rfl (fun K hK => ?_) ?_
    · rw [if_pos (by rfl)]
      go_simp
      refine hK _ _ ?_
      clear hK K
      refine wpAnyIn_ready (rs := [2]) (by kernel_rfl) (by simp) ?_
      refine AllReadyIn.cons rfl (fun K hK => ?_) ?_
      · rw [if_pos (by rfl)]
        go_simp
        refine hK _ _ ?_
        clear hK K
        refine wpAnyIn_take (i := 6) (v := .slice (some ⟨g, P, none⟩) D D) rfl rfl (by kernel_rfl) (by kernel_rfl) (by kernel_rfl) (fun _ _ _ h => h) ⟨Or.inl ⟨by rfl, fun X => by (go_simp)⟩, fun _ => rfl⟩ ?_
        refine wpAnyIn_ready (rs := [7]) (by kernel_rfl) (by simp) ?_
        refine AllReadyIn.cons rfl (fun K hK => ?_) ?_
        · rw [if_pos (by rfl)]
          go_simp
          refine ⟨fun h => (by cases h), RoundIn.mono (round_dep hRd) ?_⟩
          rintro e V' ⟨rfl, hJ', hk', hf'⟩
          refine hK _ _ ?_
          clear hK K
          refine wpAnyIn_take (i := 8) (v := .bool false) rfl rfl (by kernel_rfl) (by kernel_rfl) (by kernel_rfl) (fun _ _ _ h => h) ⟨Or.inl ⟨by rfl, fun X => by go_simp⟩, fun _ => rfl⟩ ?_
          refine wpAnyIn_done (by kernel_rfl) ?_ _
          gi_wp2
          exact ⟨HF.out _ hf', hk', hJ', hk' gc _ _ _ HE1.out (.inl rfl), hk' gs _ _ _ HE2.out (.inr (.inr rfl)), hk' _ _ _ _ HE3.out (.inr (.inl rfl))⟩
        · exact AllReadyIn.nil
      · exact AllReadyIn.nil
    · refine AllReadyIn.cons rfl (fun K hK => ?_) ?_
      · rw [if_pos (by rfl)]
        go_simp
        refine hK _ _ ?_
        clear hK K
        refine wpAnyIn_take (i := 6) (v := .slice (some ⟨g, P, none⟩) D D) rfl rfl (by kernel_rfl) (by kernel_rfl) (by kernel_rfl) (fun _ _ _ h => h) ⟨Or.inl ⟨by rfl, fun X => by (go_simp)⟩, fun _ => rfl⟩ ?_
        refine wpAnyIn_ready (rs := [0]) (by kernel_rfl) (by simp) ?_
        refine AllReadyIn.cons rfl (fun K hK => ?_) ?_
        · rw [if_pos (by rfl)]
          go_simp
          refine hK _ _ ?_
          clear hK K
          refine wpAnyIn_ready (rs := [7]) (by kernel_rfl) (by simp) ?_
          refine AllReadyIn.cons rfl (fun K hK => ?_) ?_
          · rw [if_pos (by rfl)]
            go_simp
            refine ⟨fun h => (by cases h), RoundIn.mono (round_dep hRd) ?_⟩
            rintro e V' ⟨rfl, hJ', hk', hf'⟩
            refine hK _ _ ?_
            clear hK K
            refine wpAnyIn_take (i := 8) (v := .bool false) rfl rfl (by kernel_rfl) (by kernel_rfl) (by kernel_rfl) (fun _ _ _ h => h) ⟨Or.inl ⟨by rfl, fun X => by go_simp⟩, fun _ => rfl⟩ ?_
            refine wpAnyIn_done (by kernel_rfl) ?_ _
            gi_wp2
            exact ⟨HF.out _ hf', hk', hJ', hk' gc _ _ _ HE1.out (.inl rfl), hk' gs _ _ _ HE2.out (.inr (.inr rfl)), hk' _ _ _ _ HE3.out (.inr (.inl rfl))⟩
          · exact AllReadyIn.nil
        · exact AllReadyIn.nil
      · exact AllReadyIn.nil
  case done =>
    rintro D2 V hD2 ⟨hJR, _⟩ hK
    gi_wp2
    refine ⟨by simp, .inl ⟨_, _, rfl, run_takeDeferred hK, ?_⟩⟩
    exact ⟨_, results_none rfl _ _ _, ⟨_, rfl⟩, own_put hJ hJR (Nat.le_trans (Nat.le_trans (by simp) HB.out.size) hD2) hK⟩
end Go.Proofs.Ytohgmliafidalaa

/- The call Tell of package pipe returns what is told of each exchange's code, and makes at most new memory; conditions: the table lies where it says, lengths fit int. -/
namespace Go.Proofs.Ytohgmliafidalaa
open Go.ChangeShapes Go.WideShapes Go.ChangeAt Go.RowKit Go.Shelf
set_option linter.unusedVariables false
attribute [local go_sem] Oper.semAt_some

/-- Rows of bytes. -/
def kU8 : Kind UInt8 := ⟨1, fun c => [.int .u8 (c.toNat : Int)], fun _ => rfl, by intro a u hu; simp at hu; subst hu; rfl, by decide⟩
theorem kU8_flat (l : List UInt8) : kU8.flat l = u8s l := by
  induction l with
  | nil => rfl
  | cons a l ih => simp only [Kind.flat, List.flatMap_cons, u8s, List.map_cons] at ih ⊢; rw [ih]; rfl
/-- What is told at this tick, as codes. -/
def tellL (D : Nat) (l : List UInt8) (R : Nat) : List UInt8 := (List.range R).map fun x => at8 l (x * D)
theorem tellL_s (D : Nat) (l : List UInt8) (k : Nat) : tellL D l (k + 1) = tellL D l k ++ [at8 l (k * D)] := by simp [tellL, List.range_succ]
theorem tellL_len (D : Nat) (l : List UInt8) (R : Nat) : (tellL D l R).length = R := by simp [tellL]
theorem fblk_own {β : Type} (B g : Nat) (l : List UInt8) : OwnFrom B (fun (_ : β) W => FBlk W g l) := fun s X Y row hs hg hr =>
  hs.kept hg (fun e => by
    obtain ⟨_, o, ho, hc⟩ := hr g e.symm
    obtain ⟨C, h1, _⟩ := hs
    rw [h1] at ho
    cases ho
    cases hc)
theorem KpT.set {gs : Nat} {X : World} {B : Nat} {C : Array Value} {t : TypeId} {fr : Nat × Nat} (hg : X.heap[B]? = some (.cells C t fr)) (h1 : t ≠ 24) (h2 : t ≠ 130) (h3 : B ≠ gs) (v : Value) : KpT gs X (X.setCell ⟨B, 0, none⟩ v) := KpT.grown (grownBy_setCell' X B v) hg h1 h2 h3
theorem KpT.row {gs : Nat} {X Y : World} {base n : Nat} {v : Value} {xs : List Value} {H : Array Value} {u : TypeId} {p : Nat × Nat} (hr : X.ownsRow base 5 1 v n xs) (hg : X.grownBy Y v.ownBlock) (hgs : X.heap[gs]? = some (.cells H u p)) (hu : u ≠ 5) : KpT gs X Y := by
  rcases hr.2 with ⟨rfl, _⟩ | ⟨g, cap, cur, rfl, _, hb, _⟩
  · intro b C t fr hx _
    exact (hg.block b (blk_lt hx) (by simp [Value.ownBlock])).trans hx
  · refine KpT.grown (g := g) (by simpa [Value.ownBlock] using hg) hb (by decide) (by decide) (fun e => ?_)
    subst e
    rw [hb] at hgs
    cases hgs
    exact hu rfl
theorem FBlk.row {X Y : World} {g base n : Nat} {l : List UInt8} {v : Value} {xs : List Value} (h : FBlk X g l) (hr : X.ownsRow base 5 1 v n xs) (hg : X.grownBy Y v.ownBlock) : FBlk Y g l := by
  refine h.kept hg (fun e => ?_)
  obtain ⟨C, h1, _⟩ := h
  rcases hr.2 with ⟨rfl, _⟩ | ⟨g2, cap, cur, rfl, _, hb, _⟩
  · cases e
  · have e2 : g = g2 := by simpa [Value.ownBlock] using e
    subst e2
    rw [h1] at hb
    simp at hb
theorem conv_u8 {W : World} {base n : Nat} {v : Value} {l : List UInt8} (h : W.ownsRow base 5 1 v n (kU8.flat l)) (hl : l.length = n) : (convert 88 9 v).run Try.prog W = .ok (.string (ba l)) W := by
  subst hl
  rcases h.2 with ⟨rfl, h0⟩ | ⟨g, cap, cur, rfl, hb, hg, h1, h2, h3, h4⟩
  · have : l = [] := List.length_eq_zero_iff.1 h0
    subst this
    rw [run_convert_bytes_string _ 88 9 5 _ _ _ Try.underlying88 Try.underlying5 Try.underlying9]
    rfl
  · refine run_convert_bytes_back W 88 9 5 ⟨g, 0, none⟩ _ l Try.underlying88 Try.underlying5 Try.underlying9 (fun j hj => ?_)
    rw [add_plain, Nat.zero_add]
    simp only [World.cell?, hg]
    have : (cur.toList.take (l.length * 1))[j]? = (u8s l)[j]? := by rw [h4, kU8_flat]
    rw [List.getElem?_take, if_pos (by omega)] at this
    rw [← Array.getElem?_toList, this]
    simp [u8s, hj]
theorem stepIn_append {P : Program} {n : Nat} {o : Oper} {a : Act} {w w' : World} {K : Act → World → Prop} {Q : Exit → Act → World → Prop} (s x : Operand) (t : TypeId) (ho : o.op = .call { callee := .builtin .append, args := #[s, x], argTypes := #[t, t] }) (vs vx v' : Value) (hs : a.eval s = vs) (hx : a.eval x = vx) (hrun : (Builtin.append_ #[t, t] o.type #[vs, vx]).run P w = .ok v' w') (h : K (a.put o.dst v') w') : Oper.wpIn Fence.wide n P o a w K Q := by
  unfold Oper.wpIn
  refine ⟨fun f hf => trivial, ?_⟩
  rw [show Fence.wide.round = none from rfl, Oper.semAt_none]
  simp [execOp, ho, resolve, invoke, builtin, hs, hx, hrun, Result.andThen]
  exact h
theorem infoU8 : (Try.prog.info? 5).map (fun i => (i.zero, i.size, i.bytes)) = some (some (.int .u8 0), 1, 1) := by kernel_rfl

set_option maxRecDepth 100000 in
set_option maxHeartbeats 4000000 in
theorem Tell_in (n f d p r dr o sl md fr : Int) (ad : Option Addr) (cap : Nat) (zs : List Int) (R D L : Nat) (s : ByteArray) (hs : s.size ≤ 9223372036854775807) (w : World) (hl : zs.length ≤ 9223372036854775807) (hT : Tab w ad zs) (hR : gate (plainE n f d p r dr o sl md fr zs) (3 * (f + 1)) = (R : Int)) (hL : gate (plainE n f d p r dr o sl md fr zs) (3 * (f + 1) * d) = (L : Int))
    (hR15 : R ≤ 15) (hL60 : L ≤ 60) (hLD : L = R * D) (hd : R = 0 ∨ (d = (D : Int) ∧ 1 ≤ D ∧ D ≤ 4)) :
    CallsIn Fence.wide 8 Try.prog 45 #[.agg #[.int .i64 n, .int .i64 f, .int .i64 d, .int .i64 p, .int .i64 r, .int .i64 dr, .int .i64 o, .int .i64 sl, .int .i64 md, .int .i64 fr, .slice ad zs.length cap], .string s] w fun e W' => e = .returned (.string (dgB R (valG (ba (tellL D (wellL L s) R))))) ∧ Below w.heap.size w W' := by
  have hro : Fence.wide.round = none := rfl
  have HB0 := hidden (bthen (ballc w (.cells #[.int .i64 n, .int .i64 f, .int .i64 d, .int .i64 p, .int .i64 r, .int .i64 dr, .int .i64 o, .int .i64 sl, .int .i64 md, .int .i64 fr, .slice ad zs.length cap] 24)) (ballc _ (.cells #[.slice none 0 0] 88)))
  have CC := hidden (fun V h => codesOf_any n f d p r dr o sl md fr ad cap zs L s hs V hl h hL hL60)
  have CS := hidden (fun (a2 : Option Addr) (c2 : Nat) V => stretches_any n f d p r dr o sl md fr ad cap zs a2 L c2 V)
  have k0 := blk_later (blk_nw w #[.int .i64 n, .int .i64 f, .int .i64 d, .int .i64 p, .int .i64 r, .int .i64 dr, .int .i64 o, .int .i64 sl, .int .i64 md, .int .i64 fr, .slice ad zs.length cap] 24) (ballc _ (.cells #[.slice none 0 0] 88))
  have k1 := blk_newAt (w.alloc (.cells #[.int .i64 n, .int .i64 f, .int .i64 d, .int .i64 p, .int .i64 r, .int .i64 dr, .int .i64 o, .int .i64 sl, .int .i64 md, .int .i64 fr, .slice ad zs.length cap] 24)) #[.slice none 0 0] 88 (b := w.heap.size + 1) (by simp)
  have HT := hidden (hT.below HB0.out)
  have HG := hidden (fun (cap' gc gs g : Nat) V (h : Tab V ad zs) b1 b2 hc => str_gives n f d p r dr o sl md fr ad cap zs R D L cap' hR15 hd 7 (by omega) gc gs g V hl h hR b1 b2 hc)
  have HWL := hidden (wellL_len L s)
  have HLD := hidden hLD
  have HBT := hidden hT
  clear hT hR hL hLD
  refine callsIn_of_wp_marks Try.func45 rfl trivial ?_ hro
  simp only [Try.ntmps45, List.size_toArray, List.length_cons, List.length_nil, Nat.reduceAdd, Nat.reduceSub, Array.replicate_succ, Array.replicate_zero, List.push_toArray, List.append_toArray, List.nil_append, List.cons_append]
  refine wpIn_wide.2 ?_
  have hsz0 : Hid (((w.alloc (.cells #[.int .i64 n, .int .i64 f, .int .i64 d, .int .i64 p, .int .i64 r, .int .i64 dr, .int .i64 o, .int .i64 sl, .int .i64 md, .int .i64 fr, .slice ad zs.length cap] 24)).alloc (.cells #[.slice none 0 0] 88)).heap.size = w.heap.size + 1 + 1) := by show _ = _; simp
  have K0 := hidden k0
  have K1 := hidden k1
  have hS : ∀ V, Chn ((w.alloc (.cells #[.int .i64 n, .int .i64 f, .int .i64 d, .int .i64 p, .int .i64 r, .int .i64 dr, .int .i64 o, .int .i64 sl, .int .i64 md, .int .i64 fr, .slice ad zs.length cap] 24)).alloc (.cells #[.slice none 0 0] 88)).heap.size ((w.alloc (.cells #[.int .i64 n, .int .i64 f, .int .i64 d, .int .i64 p, .int .i64 r, .int .i64 dr, .int .i64 o, .int .i64 sl, .int .i64 md, .int .i64 fr, .slice ad zs.length cap] 24)).alloc (.cells #[.slice none 0 0] 88)) V → (V.cell? ⟨w.heap.size, 0, none⟩ = some (.int .i64 n) ∧ V.cell? ⟨w.heap.size, 1, none⟩ = some (.int .i64 f) ∧ V.cell? ⟨w.heap.size, 2, none⟩ = some (.int .i64 d) ∧ V.cell? ⟨w.heap.size, 3, none⟩ = some (.int .i64 p) ∧ V.cell? ⟨w.heap.size, 4, none⟩ = some (.int .i64 r) ∧ V.cell? ⟨w.heap.size, 5, none⟩ = some (.int .i64 dr) ∧ V.cell? ⟨w.heap.size, 6, none⟩ = some (.int .i64 o) ∧ V.cell? ⟨w.heap.size, 7, none⟩ = some (.int .i64 sl) ∧ V.cell? ⟨w.heap.size, 8, none⟩ = some (.int .i64 md) ∧ V.cell? ⟨w.heap.size, 9, none⟩ = some (.int .i64 fr) ∧ V.cell? ⟨w.heap.size, 10, none⟩ = some (.slice ad zs.length cap)) := fun V hV => by
    have l0 := blk_cell (blk_later k0 hV.1)
    exact ⟨l0 0, l0 1, l0 2, l0 3, l0 4, l0 5, l0 6, l0 7, l0 8, l0 9, l0 10⟩
  have hC0 : Chn ((w.alloc (.cells #[.int .i64 n, .int .i64 f, .int .i64 d, .int .i64 p, .int .i64 r, .int .i64 dr, .int .i64 o, .int .i64 sl, .int .i64 md, .int .i64 fr, .slice ad zs.length cap] 24)).alloc (.cells #[.slice none 0 0] 88)).heap.size ((w.alloc (.cells #[.int .i64 n, .int .i64 f, .int .i64 d, .int .i64 p, .int .i64 r, .int .i64 dr, .int .i64 o, .int .i64 sl, .int .i64 md, .int .i64 fr, .slice ad zs.length cap] 24)).alloc (.cells #[.slice none 0 0] 88)) ((w.alloc (.cells #[.int .i64 n, .int .i64 f, .int .i64 d, .int .i64 p, .int .i64 r, .int .i64 dr, .int .i64 o, .int .i64 sl, .int .i64 md, .int .i64 fr, .slice ad zs.length cap] 24)).alloc (.cells #[.slice none 0 0] 88)) := Chn.refl (Nat.le_refl _)
  clear k0 k1
  go_wp2
  generalize (w.alloc (.cells #[.int .i64 n, .int .i64 f, .int .i64 d, .int .i64 p, .int .i64 r, .int .i64 dr, .int .i64 o, .int .i64 sl, .int .i64 md, .int .i64 fr, .slice ad zs.length cap] 24)).alloc (.cells #[.slice none 0 0] 88) = w0 at *
  go_region_held3 (fun V => V.cell? ⟨w.heap.size, 0, none⟩ = some (.int .i64 n) ∧ V.cell? ⟨w.heap.size, 1, none⟩ = some (.int .i64 f) ∧ V.cell? ⟨w.heap.size, 2, none⟩ = some (.int .i64 d) ∧ V.cell? ⟨w.heap.size, 3, none⟩ = some (.int .i64 p) ∧ V.cell? ⟨w.heap.size, 4, none⟩ = some (.int .i64 r) ∧ V.cell? ⟨w.heap.size, 5, none⟩ = some (.int .i64 dr) ∧ V.cell? ⟨w.heap.size, 6, none⟩ = some (.int .i64 o) ∧ V.cell? ⟨w.heap.size, 7, none⟩ = some (.int .i64 sl) ∧ V.cell? ⟨w.heap.size, 8, none⟩ = some (.int .i64 md) ∧ V.cell? ⟨w.heap.size, 9, none⟩ = some (.int .i64 fr) ∧ V.cell? ⟨w.heap.size, 10, none⟩ = some (.slice ad zs.length cap)) (first | exact hS _ (by repeat (first | with_reducible assumption | with_reducible refine Chn.drew ?_)))
    (first
    | (go_at_call 83; refine (CC.out _ (HT.out.below (Chn.out (by repeat (first | with_reducible assumption | with_reducible refine Chn.drew ?_))))).mono ?_; rintro e w4 ⟨g, cap', rfl, hF, hg, hcap, hb4⟩; have hC4 := Chn.below (show Chn w0.heap.size w0 _ from (by repeat (first | with_reducible assumption | with_reducible refine Chn.drew ?_))) hb4; have hgw := Nat.le_trans hC4.2 (Nat.le_refl _); clear hb4)
    | (go_at_call 82; refine (CS.out _ _ _).mono ?_; rintro e w5 ⟨gc, gs, rfl, e1, e2, hgs, hb5⟩; have hF5 := FBlk.later hF hb5; have hC5 := Chn.below hC4 hb5; clear hb5))
  have hs4 := hC4.2
  have hs5 := hC5.2
  have hgs' : w.heap.size + 1 < gs := by have := hsz0.out; omega
  have HB5 := hidden (bthen HB0.out hC5.out)
  have B5 : Boxed w5 (w.heap.size + 1) 88 (.slice none 0 0) := blk_later K1.out hC5.out
  have HF5 := hidden hF5
  have hGI := HG.out cap' gc gs g w5 (HT.out.below hC5.out) e1 e2 (by rw [← HLD.out]; exact hcap)
  have HE2 := hidden e2
  clear hS hC0 hC4 hC5 hF hF5 CC CS HG K0 K1 HBT e1 e2
  go_wp2
  refine (wpIn_wide (n := 8)).1 ?_
  refine rf_gives (gf := 114) (lb := #[.pointer (some ⟨gc, 0, none⟩), .pointer (some ⟨gs, 0, none⟩)]) rfl (enters_of Try.func114 (by kernel_rfl) rfl)
    hGI (Below.refl _ _) (fun _ => rfl) KpT.t (fun V l o o' _ h1 h2 => KpT.put V l o o' h1 h2)
    (fun k V => (∃ v, Boxed V (w.heap.size + 1) 88 v ∧ V.ownsRow w.heap.size 5 1 v k (kU8.flat (tellL D (wellL L s) k)) ∧ True) ∧ FBlk V g (wellL L s) ∧ V.heap[gs]? = some (.cells #[.slice (some ⟨g, 0, none⟩) L cap'] 88 (0, 0)) ∧ Below w.heap.size w V)
    ?own ⟨⟨_, B5, World.ownsRow_nil _ _ _ _, trivial⟩, HF5.out, HE2.out, HB5.out⟩
    (fun k => { tmps := #[.agg #[.int .i64 n, .int .i64 f, .int .i64 d, .int .i64 p, .int .i64 r, .int .i64 dr, .int .i64 o, .int .i64 sl, .int .i64 md, .int .i64 fr, .slice ad zs.length cap], .string s, .pointer (some ⟨w.heap.size, 0, none⟩), undef, .string ⟨#[]⟩, .pointer (some ⟨w.heap.size + 1, 0, none⟩), undef, .slice (some ⟨g, k * D, none⟩) D D, .agg #[.int .i64 n, .int .i64 f, .int .i64 d, .int .i64 p, .int .i64 r, .int .i64 dr, .int .i64 o, .int .i64 sl, .int .i64 md, .int .i64 fr, .slice ad zs.length cap], .agg #[.int .i64 n, .int .i64 f, .int .i64 d, .int .i64 p, .int .i64 r, .int .i64 dr, .int .i64 o, .int .i64 sl, .int .i64 md, .int .i64 fr, .slice ad zs.length cap], .string s, .slice (some ⟨g, 0, none⟩) L cap', .func (.func 114) #[] #[.pointer (some ⟨gc, 0, none⟩), .pointer (some ⟨gs, 0, none⟩)], .int .i64 (k : Int), .slice (some ⟨g, k * D, none⟩) D D, undef, undef, undef, undef, undef, undef, undef, undef, undef], defers := [] })
    ?assign ?body ?done
  case own => exact OwnFrom.and (Own.from (holdsRow_own w.heap.size (w.heap.size + 1) 88 5 1 (fun k => k) (fun k => kU8.flat (tellL D (wellL L s) k)) (fun _ _ => True)) _) (OwnFrom.and (fblk_own _ _ _) (OwnFrom.and (cells_own _ _ _ _) (ownFrom_below (Nat.le_refl _) (by have := hsz0.out; omega))))
  case assign =>
    intro l2 k V K hK
    gi_wp2
    exact hK
  case body =>
    rintro l2 k V hl2 hk ⟨⟨v, hv, hrow, _⟩, hf, he2, hB⟩
    obtain ⟨rfl, hD1, hD4⟩ : d = (D : Int) ∧ 1 ≤ D ∧ D ≤ 4 := by rcases hd with h | h; omega; exact h
    have hkL : k * D < L := by
      rw [HLD.out]
      exact Nat.mul_lt_mul_of_pos_right hk (by omega)
    have cg := hf.cell (k * D) (by rw [HWL.out]; exact hkL)
    have lg := hf.lt
    have cv := hv.cell
    have lv := hv.lt
    have hmix : Try.prog.follows .mixedOrders = true := by kernel_rfl
    have hTL := hidden (tellL_s D (wellL L s) k)
    generalize at8 (wellL L s) (k * D) = c at *
    obtain ⟨i0, hi, hz0, hz1, hz2⟩ := info_parts infoU8
    have hrowd : (V.drew.alloc (.cells #[.int .u8 (c.toNat : Int)] 5)).ownsRow w.heap.size 5 kU8.k v k (kU8.flat (tellL D (wellL L s) k)) := hrow.alloc _
    obtain ⟨v', w1, hrun, hown', hgrow, _⟩ := kU8.run_append (P := Try.prog) (V.drew.alloc (.cells #[.int .u8 (c.toNat : Int)] 5)) w.heap.size 88 88 5 i0 (.int .u8 0) 1 Try.underlying88 hi hz0 hz1 hz2 rfl v k _ hrowd (.slice (some ⟨V.drew.heap.size, 0, none⟩) 1 1) [c] (Kind.Lies.of_block (K := kU8) (es := [c]) (heap_alloc_new V.drew _) (by simp [maxLen])) (by simp only [maxLen, List.length_singleton]; omega) (by simp only [List.length_singleton]; omega) (by have := hB.size; simp; omega)
    rw [List.length_singleton] at hown'
    obtain ⟨g', cap2, rfl⟩ := ownsRow_succ hown'
    obtain ⟨hv1, hv2, hr2, hk2, hb2⟩ := (show Boxed V.drew (w.heap.size + 1) 88 v from hv).appended (by decide) (show V.drew.ownsRow w.heap.size 5 1 v k (kU8.flat (tellL D (wellL L s) k)) from hrow) (show w.heap.size ≤ V.drew.heap.size from hB.size) (Nat.le_succ _) hown' hgrow
    have cv1 := hv1.cell
    have hD0 : ¬ D = 0 := by omega
    have hD00 : (0 : Int) < (D : Int) := by omega
    have fv1 := hv1.frozen
    have lv1 := hv1.lt
    have hfa : FBlk (V.drew.alloc (.cells #[.int .u8 (c.toNat : Int)] 5)) g (wellL L s) := (show FBlk V.drew g (wellL L s) from hf).later (ballc _ _)
    have hea : (V.drew.alloc (.cells #[.int .u8 (c.toNat : Int)] 5)).heap[gs]? = some (.cells #[.slice (some ⟨g, 0, none⟩) L cap'] 88 (0, 0)) := blk_later (show V.drew.heap[gs]? = _ from he2) (ballc _ _)
    have hkp : KpT gs V (w1.setCell ⟨w.heap.size + 1, 0, none⟩ (.slice (some ⟨g', 0, none⟩) (k + 1) cap2)) := ((KpT.below (ballc V.drew (.cells #[.int .u8 (c.toNat : Int)] 5))).t (KpT.row hrowd hgrow hea (by decide))).t (KpT.set hv1 (by decide) (by decide) (by omega) _)
    have hf1 := hfa.row hrowd hgrow
    have HEND : Hid (goesOn w5.heap.size (KpT gs) (fun V => (∃ v, Boxed V (w.heap.size + 1) 88 v ∧ V.ownsRow w.heap.size 5 1 v (k + 1) (kU8.flat (tellL D (wellL L s) (k + 1))) ∧ True) ∧ FBlk V g (wellL L s) ∧ V.heap[gs]? = some (.cells #[.slice (some ⟨g, 0, none⟩) L cap'] 88 (0, 0)) ∧ Below w.heap.size w V) V .normal { tmps := #[], defers := [] } (w1.setCell ⟨w.heap.size + 1, 0, none⟩ (.slice (some ⟨g', 0, none⟩) (k + 1) cap2))) := by
      refine ⟨(⟨hk2.size, hk2.same⟩ : KeepsOthers V _).from _, hkp, ⟨_, hv2, by rw [hTL.out, Kind.flat_append]; exact hr2, trivial⟩, hf1.kept (grownBy_setCell' _ _ _) (fun e => ?_), hkp gs _ _ _ he2 (.inr (.inr rfl)), hB.trans (show Below w.heap.size V _ from ⟨hb2.os, hb2.tape, hb2.output, hb2.size, hb2.block⟩)⟩
      obtain ⟨C, h1, _⟩ := hf1
      cases e
      rw [show w1.heap[w.heap.size + 1]? = _ from hv1] at h1
      cases h1
    clear hkp hf1 hfa hea hk2 hb2 hr2 hv2 hv1 hrowd hown' hgrow hf he2 hB hrow hv hD4 hd hi hz0 hz1 hz2 HE2 HF5 hGI
    generalize hPP : k * D = P at *
    clear hPP
    gi_wp2
    refine wpIn_region_any hmix ?_
    change wpAnyIn _ _ _ _ _ _ _ _ _ V.drew
    refine any_round (no_defer (by kernel_rfl)) _ _ _ _ ?_
    refine wpAnyIn_take (i := 1) (v := .slice (some ⟨g, P, none⟩) D D) rfl rfl (by kernel_rfl) (by kernel_rfl) (by kernel_rfl) (fun _ _ _ h => h) ⟨Or.inl ⟨by rfl, fun X => by go_simp⟩, fun _ => rfl⟩ ?_
    refine wpAnyIn_take (i := 2) (v := .pointer (some ⟨g, P, none⟩)) rfl rfl (by kernel_rfl) (by kernel_rfl) (by kernel_rfl) (fun _ _ _ h => h) ⟨Or.inl ⟨by rfl, fun X => by go_simp⟩, fun _ => rfl⟩ ?_
    refine wpAnyIn_ready (rs := [0, 3]) (by kernel_rfl) (by simp) ?_
    refine AllReadyIn.cons rfl (fun K hK => ?_) ?_
    · rw [if_pos (by rfl)]
      go_simp
      refine hK _ _ ?_
      clear hK K
      refine wpAnyIn_ready (rs := [3]) (by kernel_rfl) (by simp) ?_
      refine AllReadyIn.cons rfl (fun K hK => ?_) ?_
      · rw [if_pos (by rfl)]
        go_simp
        refine hK _ _ ?_
        clear hK K
        refine wpAnyIn_ready (rs := [4]) (by kernel_rfl) (by simp) ?_
        refine AllReadyIn.cons rfl (fun K hK => ?_) ?_
        · rw [if_pos (by rfl)]
          go_simp
          refine hK _ _ ?_
          clear hK K
          refine wpAnyIn_ready (rs := [5]) (by kernel_rfl) (by simp) ?_
          refine AllReadyIn.cons rfl (fun K hK => ?_) ?_
          · rw [if_pos (by rfl)]
            refine stepIn_append (.tmp 15) (.tmp 19) 88 rfl _ _ _ rfl rfl hrun ?_
            refine hK _ _ ?_
            clear hK K
            refine wpAnyIn_ready (rs := [6]) (by kernel_rfl) (by simp) ?_
            refine AllReadyIn.cons rfl (fun K hK => ?_) ?_
            · rw [if_pos (by rfl)]
              go_simp
              refine hK _ _ ?_
              clear hK K
              refine wpAnyIn_done (by kernel_rfl) ?_ _
              gi_wp2
              exact HEND.out
            · exact AllReadyIn.nil
          · exact AllReadyIn.nil
        · exact AllReadyIn.nil
      · exact AllReadyIn.nil
    · refine AllReadyIn.cons rfl (fun K hK => ?_) ?_
      · rw [if_pos (by rfl)]
        go_simp
        refine hK _ _ ?_
        clear hK K
        refine wpAnyIn_ready (rs := [0, 4]) (by kernel_rfl) (by simp) ?_
        refine AllReadyIn.cons rfl (fun K hK => ?_) ?_
        · rw [if_pos (by rfl)]
          go_simp
          refine hK _ _ ?_
          clear hK K
          refine wpAnyIn_ready (rs := [4]) (by kernel_rfl) (by simp) ?_
          refine AllReadyIn.cons rfl (fun K hK => ?_) ?_
          · rw [if_pos (by rfl)]
            go_simp
            refine hK _ _ ?_
            clear hK K
            refine wpAnyIn_ready (rs := [5]) (by kernel_rfl) (by simp) ?_
            refine AllReadyIn.cons rfl (fun K hK => ?_) ?_
            · rw [if_pos (by rfl)]
              refine stepIn_append (.tmp 15) (.tmp 19) 88 rfl _ _ _ rfl rfl hrun ?_
              refine hK _ _ ?_
              clear hK K
              refine wpAnyIn_ready (rs := [6]) (by kernel_rfl) (by simp) ?_
              refine AllReadyIn.cons rfl (fun K hK => ?_) ?_
              · rw [if_pos (by rfl)]
                go_simp
                refine hK _ _ ?_
                clear hK K
                refine wpAnyIn_done (by kernel_rfl) ?_ _
                gi_wp2
                exact HEND.out
              · exact AllReadyIn.nil
            · exact AllReadyIn.nil
          · exact AllReadyIn.nil
        · refine AllReadyIn.cons rfl (fun K hK => ?_) ?_
          · rw [if_pos (by rfl)]
            go_simp
            refine hK _ _ ?_
            clear hK K
            refine wpAnyIn_ready (rs := [0]) (by kernel_rfl) (by simp) ?_
            refine AllReadyIn.cons rfl (fun K hK => ?_) ?_
            · rw [if_pos (by rfl)]
              go_simp
              refine hK _ _ ?_
              clear hK K
              refine wpAnyIn_ready (rs := [5]) (by kernel_rfl) (by simp) ?_
              refine AllReadyIn.cons rfl (fun K hK => ?_) ?_
              · rw [if_pos (by rfl)]
                refine stepIn_append (.tmp 15) (.tmp 19) 88 rfl _ _ _ rfl rfl hrun ?_
                refine hK _ _ ?_
                clear hK K
                refine wpAnyIn_ready (rs := [6]) (by kernel_rfl) (by simp) ?_
                refine AllReadyIn.cons rfl (fun K hK => ?_) ?_
                · rw [if_pos (by rfl)]
                  go_simp
                  refine hK _ _ ?_
                  clear hK K
                  refine wpAnyIn_done (by kernel_rfl) ?_ _
                  gi_wp2
                  exact HEND.out
                · exact AllReadyIn.nil
              · exact AllReadyIn.nil
            · exact AllReadyIn.nil
          · exact AllReadyIn.nil
      · exact AllReadyIn.nil
  case done =>
    rintro D2 V hD2 ⟨⟨v, hv, hrow, _⟩, hf, he2, hB⟩ hK
    have hv0 := hv.cell
    have hlv := hv.lt
    obtain ⟨g', cap2, rfl⟩ := own_slice hrow
    have hlen := tellL_len D (wellL L s) R
    have hconv := conv_u8 hrow hlen
    have HV := hidden (fun X => Values_any (ba (tellL D (wellL L s) R)) (by rw [ba_size, hlen]; omega) X)
    rw [ba_size, hlen] at HV
    have HB := hidden hB
    have HK := hidden hK
    clear hrow hf he2 hB hK hv hlen hGI HE2 HF5
    obtain ⟨tt, htt⟩ : ∃ tt, tt = ba (tellL D (wellL L s) R) := ⟨_, rfl⟩
    rw [← htt] at hconv HV
    have HTT := hidden htt
    clear htt
    go_wp2_with fail
    refine (HV.out _).mono ?_
    rintro e w7 ⟨rfl, hb⟩
    have hK7 := blk_later HK.out hb
    have HB7 := hidden (bthen HB.out hb)
    have hws := hsz0.out
    clear hb
    go_wp2
    refine ⟨by simp, .inl ⟨_, _, rfl, run_takeDeferred hK7, ?_⟩⟩
    exact ⟨_, results_tmp rfl _ _ _, by rw [← HTT.out]; rfl, HB7.out.trans (belowK_b (w := w) (Nat.le_refl _) w7 D2 _ _ (by omega) hK7 rfl rfl)⟩
theorem Tell_any (n f d p r dr o sl md fr : Int) (ad : Option Addr) (cap : Nat) (zs : List Int) (R D L : Nat) (s : ByteArray) (hs : s.size ≤ 9223372036854775807) (w : World) (hl : zs.length ≤ 9223372036854775807) (hT : Tab w ad zs) (hR : gate (plainE n f d p r dr o sl md fr zs) (3 * (f + 1)) = (R : Int)) (hL : gate (plainE n f d p r dr o sl md fr zs) (3 * (f + 1) * d) = (L : Int))
    (hR15 : R ≤ 15) (hL60 : L ≤ 60) (hLD : L = R * D) (hd : R = 0 ∨ (d = (D : Int) ∧ 1 ≤ D ∧ D ≤ 4)) :
    Calls Try.prog 45 #[.agg #[.int .i64 n, .int .i64 f, .int .i64 d, .int .i64 p, .int .i64 r, .int .i64 dr, .int .i64 o, .int .i64 sl, .int .i64 md, .int .i64 fr, .slice ad zs.length cap], .string s] w fun e W' => e = .returned (.string (dgB R (valG (ba (tellL D (wellL L s) R))))) ∧ Below w.heap.size w W' := (callsIn_wide (n := 8)).1 (Tell_in n f d p r dr o sl md fr ad cap zs R D L s hs w hl hT hR hL hR15 hL60 hLD hd)
end Go.Proofs.Ytohgmliafidalaa
