/- Several texts of one's own in one: what each proves, and its conditions, is said ahead of it. -/
import Derived.Test.YtkopmhmbldohdabRows
import Derived.WalkKit
import Derived.ProofKit
import Derived.OpenShut
import Derived.ShutString
import Derived.WalkLawsBesides
import Derived.Lib.QuietBelow
import Derived.BigQuiet
import Derived.Lib.SmallJoins
import Derived.Deep.RegionHeld3
import Derived.Deep.DrawnRows
import Derived.Laws.AppendOwn
import Derived.Laws.OwnMore
import Derived.Laws.AppendOwnNone
import Derived.Maps.AppendAt
import Derived.OwnWalkIn
import Derived.Deep.Slices
import Derived.ChangeSame
import Derived.Laws.Rows
import Derived.Deep.WholeRow

/- Plain words on worlds that grow: what lay there stays, and the box of a call's own; no conditions. -/
namespace Go.Proofs.Ytkopmhmbldohdab
open Go.ChangeShapes Go.WideShapes Go.ChangeAt Go.RowKit
set_option linter.unusedVariables false

/-- An integer of a value. -/
def intV : Value → Int | .int _ q => q | _ => 0
theorem bd64 {x : Int} (h : (Lit.int .i64 x).wf = true) : -9223372036854775808 ≤ x ∧ x ≤ 9223372036854775807 := by
  have := bounds_i64 h
  omega
theorem ret_i {a b : Int} (h : a = b) : Ending.returned (.int .i64 a) = .returned (.int .i64 b) := by rw [h]
theorem ret_b {a b : Bool} (h : a = b) : Ending.returned (.bool a) = .returned (.bool b) := by rw [h]
/-- Below from a world that has grown behind another one. -/
theorem bthen {w w1 w2 : World} (h : Below w.heap.size w w1) (k : Below w1.heap.size w1 w2) : Below w.heap.size w w2 :=
  h.trans (k.mono h.size)
theorem ballc (w : World) (ob : Obj) : Below w.heap.size w (w.alloc ob) := (Below.refl _ _).alloc (Nat.le_refl _) _
/-- A region's world, grown by calls: what lay there reads as it did. -/
theorem cell_rg (w : World) (dq : Nat) (os : Array Obj) (a : Addr) (h : a.block < w.heap.size) : (Sort.grow (redrawn w dq) os).cell? a = w.cell? a := (below_regrown w dq os).cell h
theorem rg_below {W w' : World} (h : ∃ q : Regrown, w' = Sort.grow (redrawn W q.d) q.os) : Below W.heap.size W w' := by
  obtain ⟨⟨dq, os⟩, rfl⟩ := h
  exact below_regrown W dq os
/-- A box of the call's own, in a later world. -/
theorem box_at {w wl : World} {C : Array Value} {t : TypeId} (hb : Below (w.alloc (.cells C t)).heap.size (w.alloc (.cells C t)) wl) : (∀ i, wl.cell? ⟨w.heap.size, i, none⟩ = C[i]?) ∧ w.heap.size < wl.heap.size := by
  have hs := hb.size
  simp at hs
  refine ⟨fun i => ?_, by omega⟩
  rw [hb.cell (p := ⟨w.heap.size, i, none⟩) (by simp)]
  exact World.cell?_alloc_mark w C t _ i
theorem Calls.to_below {P : Program} {F : FuncId} {args : Array Value} {w : World} {v : Value} (h : Calls P F args w fun e w' => e = .returned v ∧ w = w') : Calls P F args w fun e w' => e = .returned v ∧ Below w.heap.size w w' :=
  h.mono fun _ _ ⟨he, hw⟩ => ⟨he, by rw [← hw]; exact Below.refl _ _⟩
theorem hidden {q : Prop} (h : q) : Hid q := h
theorem Hid.out {q : Prop} (h : Hid q) : q := h
end Go.Proofs.Ytkopmhmbldohdab

/- Plain words on configurations: what lies in a table, what stays when memory grows, and the numbers that the rules of a configuration ask for; no conditions. -/
namespace Go.Proofs.Ytkopmhmbldohdab
open Go.ChangeShapes Go.WideShapes Go.ChangeAt Go.RowKit
set_option linter.unusedVariables false

theorem bcell {W w1 : World} (hb : Below W.heap.size W w1) : (∀ b i, b < W.heap.size → w1.cell? ⟨b, i, none⟩ = W.cell? ⟨b, i, none⟩) ∧ (∀ b i, b < W.heap.size → w1.frozen? ⟨b, i, none⟩ = W.frozen? ⟨b, i, none⟩) :=
  ⟨fun b i h => hb.cell (p := ⟨b, i, none⟩) h, fun b i h => hb.frozen (p := ⟨b, i, none⟩) h⟩

/-- A table's numbers lie behind its address. -/
def Tab (w : World) (ad : Option Addr) (zs : List Int) : Prop := ∀ i, i < zs.length → ∃ a : Addr, ad = some a ∧ w.cell? (a.add i) = some (.int .i64 (zs.getD i 0))
theorem Tab.below {w w' : World} {ad : Option Addr} {zs : List Int} (h : Tab w ad zs) (hb : Below w.heap.size w w') : Tab w' ad zs := by
  intro i hi
  obtain ⟨a, ha, hc⟩ := h i hi
  exact ⟨a, ha, by rw [hb.cell (block_lt_of_cell hc)]; exact hc⟩
theorem Tab.at {w : World} {a : Addr} {zs : List Int} (h : Tab w (some a) zs) (i : Nat) (hi : i < zs.length) : w.cell? (a.add i) = some (.int .i64 (zs.getD i 0)) := by
  obtain ⟨a', ha, hc⟩ := h i hi
  cases ha
  exact hc


/-- A table's cell, where it lies, and that it lies there. -/
theorem Tab.lies {w : World} {ad : Option Addr} {zs : List Int} (h : Tab w ad zs) (i : Nat) (hi : i < zs.length) : ∃ a : Addr, ad = some a ∧ w.cell? (a.add i) = some (.int .i64 (zs.getD i 0)) ∧ (a.add i).block < w.heap.size := by
  obtain ⟨a, ha, hc⟩ := h i hi
  exact ⟨a, ha, hc, block_lt_of_cell hc⟩
theorem Calls.to_belowR {P : Program} {F : FuncId} {args : Array Value} {w : World} {v : Value} (h : Calls P F args w fun e w' => e = .returned v ∧ w' = w) : Calls P F args w fun e w' => e = .returned v ∧ Below w.heap.size w w' :=
  h.mono fun _ _ ⟨he, hw⟩ => ⟨he, by rw [hw]; exact Below.refl _ _⟩

def roundsW (f : Int) : Int := wrap64 (3 * wrap64 (f + 1))
def lengthW (f d : Int) : Int := wrap64 (roundsW f * d)
theorem roundsW_eq {f : Int} (h1 : 0 ≤ f) (h2 : f ≤ 4) : roundsW f = 3 * (f + 1) := by
  unfold roundsW wrap64; omega
theorem lengthW_eq {f d : Int} (h1 : 0 ≤ f) (h2 : f ≤ 4) (h3 : 1 ≤ d) (h4 : d ≤ 4) : lengthW f d = 3 * (f + 1) * d := by
  have hp : 0 ≤ (3 * (f + 1)) * d := Int.mul_nonneg (by omega) (by omega)
  have hq : (3 * (f + 1)) * d ≤ 15 * 4 := Int.mul_le_mul (by omega) h4 (by omega) (by omega)
  unfold lengthW
  rw [roundsW_eq h1 h2]
  unfold wrap64; omega
end Go.Proofs.Ytkopmhmbldohdab

/- A configuration that came in as an argument, opened: ten numbers, and a table that lies behind its address; no conditions. -/
namespace Go.Proofs.Ytkopmhmbldohdab
open Go.ChangeShapes Go.WideShapes Go.ChangeAt Go.RowKit
set_option linter.unusedVariables false

theorem array11 {α : Type} {cs : Array α} (h : cs.size = 11) : ∃ c0 c1 c2 c3 c4 c5 c6 c7 c8 c9 c10, cs = #[c0, c1, c2, c3, c4, c5, c6, c7, c8, c9, c10] := by
  obtain ⟨l⟩ := cs
  match l, h with
  | [c0, c1, c2, c3, c4, c5, c6, c7, c8, c9, c10], _ => exact ⟨c0, c1, c2, c3, c4, c5, c6, c7, c8, c9, c10, rfl⟩
theorem some_of_lt {α : Type} {xs : List α} {i m : Nat} {x : Option α} (h : xs.length = m) (hi : i < m) (e : x = xs[i]?) : ∃ y, x = some y := by
  subst h
  exact ⟨_, by rw [e, List.getElem?_eq_getElem hi]⟩

section
variable {H : Type} {enc : TypeId × Value → H} {w : World} {base : Nat} {spare : Nat → Bool} {held : Bool}
set_option maxRecDepth 100000 in
/-- A row of numbers that came in: where its cells lie. -/
theorem open_row {fuel : Nat} {c : Value} {x : DataW H × List MemPlace} (h : DataW.trod enc Try.prog w base spare held fuel 22 [c] = some x) :
    ∃ (ad : Option Addr) (cap : Nat) (zs : List Int), c = .slice ad zs.length cap ∧ zs.length ≤ 9223372036854775807 ∧ Tab w ad zs ∧ (∀ z ∈ zs, (Lit.int .i64 z).wf = true) := by
  rcases open_ints Try.underlying22 Try.underlying3 (by kernel_rfl) h with ⟨hcs, _⟩ | ⟨a, len, cap, zs, hcs, _, hl, hm, hz, _, hcell, hw⟩
  · exact ⟨none, 0, [], by simpa using hcs, by simp, fun i hi => absurd hi (Nat.not_lt_zero _), fun z hz => by cases hz⟩
  · unfold maxLen at hm
    have hle : len ≤ zs.length := by rw [hz]; split <;> omega
    have hlen : (zs.take len).length = len := by rw [List.length_take]; omega
    refine ⟨some a, cap, zs.take len, ?_, by omega, ?_, fun z hz => hw z (List.mem_of_mem_take hz)⟩
    · rw [hlen]; simpa using hcs
    · intro i hi
      rw [hlen] at hi
      refine ⟨a, rfl, ?_⟩
      rw [hcell i (by omega)]
      simp [List.getD_eq_getElem?_getD, hi]
set_option maxRecDepth 100000 in
theorem open_row_arg {r : Reach} {b0 : Nat} {v : Value} {dt : DataW H} {ps : List MemPlace} (hv : Value.okWide Try.prog w r b0 22 v) (h : DataW.Trod enc Try.prog w base spare held 22 v dt ps) :
    ∃ (ad : Option Addr) (cap : Nat) (zs : List Int), v = .slice ad zs.length cap ∧ zs.length ≤ 9223372036854775807 ∧ Tab w ad zs ∧ (∀ z ∈ zs, (Lit.int .i64 z).wf = true) := by
  obtain ⟨x, y, c, rfl⟩ := okWide_slice Try.underlying22 hv
  obtain ⟨fu, hf⟩ := h
  exact open_row (by simpa [Value.cells] using hf)
set_option maxRecDepth 100000 in
theorem open_conf {r : Reach} {b0 : Nat} {v : Value} {dt : DataW H} {ps : List MemPlace} (hv : Value.okWide Try.prog w r b0 24 v) (h : DataW.Trod enc Try.prog w base spare held 24 v dt ps) :
    ∃ (n f d p r dr o sl md fr : Int) (ad : Option Addr) (cap : Nat) (zs : List Int), v = .agg #[.int .i64 n, .int .i64 f, .int .i64 d, .int .i64 p, .int .i64 r, .int .i64 dr, .int .i64 o, .int .i64 sl, .int .i64 md, .int .i64 fr, .slice ad zs.length cap] ∧ zs.length ≤ 9223372036854775807 ∧ Tab w ad zs := by
  have hs := Try.underlying24
  obtain ⟨cs, rfl, hsz⟩ := okWide_struct hs hv
  obtain ⟨c0, c1, c2, c3, c4, c5, c6, c7, c8, c9, c10, rfl⟩ := array11 (hsz.trans (by kernel_rfl))
  obtain ⟨fuel, hf⟩ := h
  obtain ⟨xs, m, _, _, _, hxl, hfs⟩ := DataW.trod_struct hs hf
  have k3 : Try.prog.cellsOf 3 = 1 := by kernel_rfl
  have k22 : Try.prog.cellsOf 22 = 1 := by kernel_rfl
  obtain ⟨y0, q0⟩ := some_of_lt hxl (by decide : 0 < 11) (hfs 0 _ rfl)
  have z0 : DataW.trod enc Try.prog w base spare held m 3 [c0] = some y0 := by simpa [Value.cells, k3] using q0
  obtain ⟨x0, h0, _⟩ := DataW.trod_int Try.underlying3 z0
  simp only [List.cons.injEq, and_true] at h0
  subst h0
  obtain ⟨y1, q1⟩ := some_of_lt hxl (by decide : 1 < 11) (hfs 1 _ rfl)
  have z1 : DataW.trod enc Try.prog w base spare held m 3 [c1] = some y1 := by simpa [Value.cells, k3] using q1
  obtain ⟨x1, h1, _⟩ := DataW.trod_int Try.underlying3 z1
  simp only [List.cons.injEq, and_true] at h1
  subst h1
  obtain ⟨y2, q2⟩ := some_of_lt hxl (by decide : 2 < 11) (hfs 2 _ rfl)
  have z2 : DataW.trod enc Try.prog w base spare held m 3 [c2] = some y2 := by simpa [Value.cells, k3] using q2
  obtain ⟨x2, h2, _⟩ := DataW.trod_int Try.underlying3 z2
  simp only [List.cons.injEq, and_true] at h2
  subst h2
  obtain ⟨y3, q3⟩ := some_of_lt hxl (by decide : 3 < 11) (hfs 3 _ rfl)
  have z3 : DataW.trod enc Try.prog w base spare held m 3 [c3] = some y3 := by simpa [Value.cells, k3] using q3
  obtain ⟨x3, h3, _⟩ := DataW.trod_int Try.underlying3 z3
  simp only [List.cons.injEq, and_true] at h3
  subst h3
  obtain ⟨y4, q4⟩ := some_of_lt hxl (by decide : 4 < 11) (hfs 4 _ rfl)
  have z4 : DataW.trod enc Try.prog w base spare held m 3 [c4] = some y4 := by simpa [Value.cells, k3] using q4
  obtain ⟨x4, h4, _⟩ := DataW.trod_int Try.underlying3 z4
  simp only [List.cons.injEq, and_true] at h4
  subst h4
  obtain ⟨y5, q5⟩ := some_of_lt hxl (by decide : 5 < 11) (hfs 5 _ rfl)
  have z5 : DataW.trod enc Try.prog w base spare held m 3 [c5] = some y5 := by simpa [Value.cells, k3] using q5
  obtain ⟨x5, h5, _⟩ := DataW.trod_int Try.underlying3 z5
  simp only [List.cons.injEq, and_true] at h5
  subst h5
  obtain ⟨y6, q6⟩ := some_of_lt hxl (by decide : 6 < 11) (hfs 6 _ rfl)
  have z6 : DataW.trod enc Try.prog w base spare held m 3 [c6] = some y6 := by simpa [Value.cells, k3] using q6
  obtain ⟨x6, h6, _⟩ := DataW.trod_int Try.underlying3 z6
  simp only [List.cons.injEq, and_true] at h6
  subst h6
  obtain ⟨y7, q7⟩ := some_of_lt hxl (by decide : 7 < 11) (hfs 7 _ rfl)
  have z7 : DataW.trod enc Try.prog w base spare held m 3 [c7] = some y7 := by simpa [Value.cells, k3] using q7
  obtain ⟨x7, h7, _⟩ := DataW.trod_int Try.underlying3 z7
  simp only [List.cons.injEq, and_true] at h7
  subst h7
  obtain ⟨y8, q8⟩ := some_of_lt hxl (by decide : 8 < 11) (hfs 8 _ rfl)
  have z8 : DataW.trod enc Try.prog w base spare held m 3 [c8] = some y8 := by simpa [Value.cells, k3] using q8
  obtain ⟨x8, h8, _⟩ := DataW.trod_int Try.underlying3 z8
  simp only [List.cons.injEq, and_true] at h8
  subst h8
  obtain ⟨y9, q9⟩ := some_of_lt hxl (by decide : 9 < 11) (hfs 9 _ rfl)
  have z9 : DataW.trod enc Try.prog w base spare held m 3 [c9] = some y9 := by simpa [Value.cells, k3] using q9
  obtain ⟨x9, h9, _⟩ := DataW.trod_int Try.underlying3 z9
  simp only [List.cons.injEq, and_true] at h9
  subst h9
  obtain ⟨y10, q10⟩ := some_of_lt hxl (by decide : 10 < 11) (hfs 10 _ rfl)
  have z10 : DataW.trod enc Try.prog w base spare held m 22 [c10] = some y10 := by simpa [Value.cells, k22] using q10
  obtain ⟨ad, cap, zs, h10, hl, hT, _⟩ := open_row z10
  subst h10
  exact ⟨x0, x1, x2, x3, x4, x5, x6, x7, x8, x9, ad, cap, zs, rfl, hl, hT⟩
end
end Go.Proofs.Ytkopmhmbldohdab

/- A packet that came in as an argument, opened: its texts and numbers; no conditions. -/
namespace Go.Proofs.Ytkopmhmbldohdab
open Go.ChangeShapes Go.WideShapes Go.ChangeAt Go.RowKit
set_option linter.unusedVariables false

section
variable {H : Type} {enc : TypeId × Value → H} {w : World} {base : Nat} {spare : Nat → Bool} {held : Bool}
set_option maxRecDepth 100000 in
theorem open_packet {r : Reach} {b0 : Nat} {v : Value} {dt : DataW H} {pl : List MemPlace} (hv : Value.okWide Try.prog w r b0 32 v) (h : DataW.Trod enc Try.prog w base spare held 32 v dt pl) :
    ∃ (vo : ByteArray) (ex : Int) (ve : ByteArray) (ps cy : Int) (te : ByteArray), v = .agg #[.string vo, .int .i64 ex, .string ve, .int .i64 ps, .int .i64 cy, .string te] ∧ vo.size ≤ 9223372036854775807 ∧ (Lit.int .i64 ex).wf = true ∧ ve.size ≤ 9223372036854775807 ∧ (Lit.int .i64 ps).wf = true ∧ (Lit.int .i64 cy).wf = true ∧ te.size ≤ 9223372036854775807 := by
  have hs := Try.underlying32
  obtain ⟨cs, rfl, hsz⟩ := okWide_struct hs hv
  obtain ⟨c0, c1, c2, c3, c4, c5, rfl⟩ : ∃ c0 c1 c2 c3 c4 c5, cs = #[c0, c1, c2, c3, c4, c5] := by
    obtain ⟨l⟩ := cs
    have h2 : l.length = 6 := hsz.trans (by kernel_rfl)
    match l, h2 with
    | [c0, c1, c2, c3, c4, c5], _ => exact ⟨c0, c1, c2, c3, c4, c5, rfl⟩
  obtain ⟨fuel, hf⟩ := h
  obtain ⟨xs, m, _, _, _, hxl, hfs⟩ := DataW.trod_struct hs hf
  have k3 : Try.prog.cellsOf 3 = 1 := by kernel_rfl
  have k9 : Try.prog.cellsOf 9 = 1 := by kernel_rfl
  obtain ⟨y0, q0⟩ := some_of_lt hxl (by decide : 0 < 6) (hfs 0 _ rfl)
  obtain ⟨x0, h0, _, w0⟩ := DataW.trod_string Try.underlying9 (show DataW.trod enc Try.prog w base spare held m 9 [c0] = some y0 by simpa [Value.cells, k9] using q0)
  obtain ⟨y1, q1⟩ := some_of_lt hxl (by decide : 1 < 6) (hfs 1 _ rfl)
  obtain ⟨x1, h1, _, w1⟩ := DataW.trod_int Try.underlying3 (show DataW.trod enc Try.prog w base spare held m 3 [c1] = some y1 by simpa [Value.cells, k3] using q1)
  obtain ⟨y2, q2⟩ := some_of_lt hxl (by decide : 2 < 6) (hfs 2 _ rfl)
  obtain ⟨x2, h2, _, w2⟩ := DataW.trod_string Try.underlying9 (show DataW.trod enc Try.prog w base spare held m 9 [c2] = some y2 by simpa [Value.cells, k9] using q2)
  obtain ⟨y3, q3⟩ := some_of_lt hxl (by decide : 3 < 6) (hfs 3 _ rfl)
  obtain ⟨x3, h3, _, w3⟩ := DataW.trod_int Try.underlying3 (show DataW.trod enc Try.prog w base spare held m 3 [c3] = some y3 by simpa [Value.cells, k3] using q3)
  obtain ⟨y4, q4⟩ := some_of_lt hxl (by decide : 4 < 6) (hfs 4 _ rfl)
  obtain ⟨x4, h4, _, w4⟩ := DataW.trod_int Try.underlying3 (show DataW.trod enc Try.prog w base spare held m 3 [c4] = some y4 by simpa [Value.cells, k3] using q4)
  obtain ⟨y5, q5⟩ := some_of_lt hxl (by decide : 5 < 6) (hfs 5 _ rfl)
  obtain ⟨x5, h5, _, w5⟩ := DataW.trod_string Try.underlying9 (show DataW.trod enc Try.prog w base spare held m 9 [c5] = some y5 by simpa [Value.cells, k9] using q5)
  simp only [List.cons.injEq, and_true] at h0 h1 h2 h3 h4 h5
  subst h0 h1 h2 h3 h4 h5
  unfold maxLen at w0 w2 w5
  exact ⟨x0, x1, x2, x3, x4, x5, rfl, w0, w1, w2, w3, w4, w5⟩
end
end Go.Proofs.Ytkopmhmbldohdab

/- Plain words on a block of six cells that is written anew: what is read of it then; no conditions. -/
namespace Go.Proofs.Ytkopmhmbldohdab
open Go.ChangeShapes Go.WideShapes Go.ChangeAt Go.RowKit
set_option linter.unusedVariables false

theorem blk_frozen {w : World} {b : Nat} {C : Array Value} {t : TypeId} (h : w.heap[b]? = some (.cells C t (0, 0))) (i : Nat) : w.frozen? ⟨b, i, none⟩ = false := by
  simp [World.frozen?, h]
theorem blk_cell {w : World} {b : Nat} {C : Array Value} {t : TypeId} (h : w.heap[b]? = some (.cells C t (0, 0))) (i : Nat) : w.cell? ⟨b, i, none⟩ = C[i]? := by
  simp [World.cell?, h]
theorem blk_second (w : World) (o : Obj) (C : Array Value) (t : TypeId) {w' : World} (hb : Below ((w.alloc o).alloc (.cells C t)).heap.size ((w.alloc o).alloc (.cells C t)) w') : w'.heap[w.heap.size + 1]? = some (.cells C t (0, 0)) := by
  refine (hb.block (w.heap.size + 1) (by simp)).trans ?_
  have := heap_alloc_new (w.alloc o) (.cells C t)
  rw [World.size_alloc] at this
  exact this
theorem set6T {w : World} {b : Nat} {z0 z1 z2 z3 z4 z5 : Value} {t : TypeId} (h : w.heap[b]? = some (.cells #[z0, z1, z2, z3, z4, z5] t (0, 0))) (v0 v1 v2 v3 v4 v5 : Value) :
    ((((((w.setCell ⟨b, 0, none⟩ v0).setCell ⟨b, 1, none⟩ v1).setCell ⟨b, 2, none⟩ v2).setCell ⟨b, 3, none⟩ v3).setCell ⟨b, 4, none⟩ v4).setCell ⟨b, 5, none⟩ v5).heap[b]? = some (.cells #[v0, v1, v2, v3, v4, v5] t (0, 0)) := by
  have h1 := heap_setCell_same _ b 0 _ _ v0 h
  have h2 := heap_setCell_same _ b 1 _ _ v1 h1
  have h3 := heap_setCell_same _ b 2 _ _ v2 h2
  have h4 := heap_setCell_same _ b 3 _ _ v3 h3
  have h5 := heap_setCell_same _ b 4 _ _ v4 h4
  have h6 := heap_setCell_same _ b 5 _ _ v5 h5
  simpa using h6
theorem read6T {w : World} {b : Nat} {z0 z1 z2 z3 z4 z5 : Value} {t : TypeId} (h : w.heap[b]? = some (.cells #[z0, z1, z2, z3, z4, z5] t (0, 0))) (v0 v1 v2 v3 v4 v5 : Value) :
    ((((((w.setCell ⟨b, 0, none⟩ v0).setCell ⟨b, 1, none⟩ v1).setCell ⟨b, 2, none⟩ v2).setCell ⟨b, 3, none⟩ v3).setCell ⟨b, 4, none⟩ v4).setCell ⟨b, 5, none⟩ v5).cell? ⟨b, 0, none⟩ = some v0 ∧ ((((((w.setCell ⟨b, 0, none⟩ v0).setCell ⟨b, 1, none⟩ v1).setCell ⟨b, 2, none⟩ v2).setCell ⟨b, 3, none⟩ v3).setCell ⟨b, 4, none⟩ v4).setCell ⟨b, 5, none⟩ v5).cell? ⟨b, 1, none⟩ = some v1 ∧ ((((((w.setCell ⟨b, 0, none⟩ v0).setCell ⟨b, 1, none⟩ v1).setCell ⟨b, 2, none⟩ v2).setCell ⟨b, 3, none⟩ v3).setCell ⟨b, 4, none⟩ v4).setCell ⟨b, 5, none⟩ v5).cell? ⟨b, 2, none⟩ = some v2 ∧ ((((((w.setCell ⟨b, 0, none⟩ v0).setCell ⟨b, 1, none⟩ v1).setCell ⟨b, 2, none⟩ v2).setCell ⟨b, 3, none⟩ v3).setCell ⟨b, 4, none⟩ v4).setCell ⟨b, 5, none⟩ v5).cell? ⟨b, 3, none⟩ = some v3 ∧ ((((((w.setCell ⟨b, 0, none⟩ v0).setCell ⟨b, 1, none⟩ v1).setCell ⟨b, 2, none⟩ v2).setCell ⟨b, 3, none⟩ v3).setCell ⟨b, 4, none⟩ v4).setCell ⟨b, 5, none⟩ v5).cell? ⟨b, 4, none⟩ = some v4 ∧ ((((((w.setCell ⟨b, 0, none⟩ v0).setCell ⟨b, 1, none⟩ v1).setCell ⟨b, 2, none⟩ v2).setCell ⟨b, 3, none⟩ v3).setCell ⟨b, 4, none⟩ v4).setCell ⟨b, 5, none⟩ v5).cell? ⟨b, 5, none⟩ = some v5 := by
  have h6 := set6T h v0 v1 v2 v3 v4 v5
  refine ⟨?_, ?_, ?_, ?_, ?_, ?_⟩ <;> simp only [World.cell?, h6] <;> rfl
theorem below6T {B : Nat} {a w : World} {b : Nat} (h : Below B a w) (hp : B ≤ b) (v0 v1 v2 v3 v4 v5 : Value) : Below B a ((((((w.setCell ⟨b, 0, none⟩ v0).setCell ⟨b, 1, none⟩ v1).setCell ⟨b, 2, none⟩ v2).setCell ⟨b, 3, none⟩ v3).setCell ⟨b, 4, none⟩ v4).setCell ⟨b, 5, none⟩ v5) :=
  (((((h.setCell (p := ⟨b, 0, none⟩) hp _).setCell (p := ⟨b, 1, none⟩) hp _).setCell (p := ⟨b, 2, none⟩) hp _).setCell (p := ⟨b, 3, none⟩) hp _).setCell (p := ⟨b, 4, none⟩) hp _).setCell (p := ⟨b, 5, none⟩) hp _
theorem read6A {w : World} {b : Nat} {z0 z1 z2 z3 z4 z5 : Value} {t : TypeId} (h : w.heap[b]? = some (.cells #[z0, z1, z2, z3, z4, z5] t (0, 0))) (o : Obj) (v0 v1 v2 v3 v4 v5 : Value) :
    (((((((w.setCell ⟨b, 0, none⟩ v0).setCell ⟨b, 1, none⟩ v1).setCell ⟨b, 2, none⟩ v2).setCell ⟨b, 3, none⟩ v3).setCell ⟨b, 4, none⟩ v4).setCell ⟨b, 5, none⟩ v5).alloc o).cell? ⟨b, 0, none⟩ = some v0 ∧ (((((((w.setCell ⟨b, 0, none⟩ v0).setCell ⟨b, 1, none⟩ v1).setCell ⟨b, 2, none⟩ v2).setCell ⟨b, 3, none⟩ v3).setCell ⟨b, 4, none⟩ v4).setCell ⟨b, 5, none⟩ v5).alloc o).cell? ⟨b, 1, none⟩ = some v1 ∧ (((((((w.setCell ⟨b, 0, none⟩ v0).setCell ⟨b, 1, none⟩ v1).setCell ⟨b, 2, none⟩ v2).setCell ⟨b, 3, none⟩ v3).setCell ⟨b, 4, none⟩ v4).setCell ⟨b, 5, none⟩ v5).alloc o).cell? ⟨b, 2, none⟩ = some v2 ∧ (((((((w.setCell ⟨b, 0, none⟩ v0).setCell ⟨b, 1, none⟩ v1).setCell ⟨b, 2, none⟩ v2).setCell ⟨b, 3, none⟩ v3).setCell ⟨b, 4, none⟩ v4).setCell ⟨b, 5, none⟩ v5).alloc o).cell? ⟨b, 3, none⟩ = some v3 ∧ (((((((w.setCell ⟨b, 0, none⟩ v0).setCell ⟨b, 1, none⟩ v1).setCell ⟨b, 2, none⟩ v2).setCell ⟨b, 3, none⟩ v3).setCell ⟨b, 4, none⟩ v4).setCell ⟨b, 5, none⟩ v5).alloc o).cell? ⟨b, 4, none⟩ = some v4 ∧ (((((((w.setCell ⟨b, 0, none⟩ v0).setCell ⟨b, 1, none⟩ v1).setCell ⟨b, 2, none⟩ v2).setCell ⟨b, 3, none⟩ v3).setCell ⟨b, 4, none⟩ v4).setCell ⟨b, 5, none⟩ v5).alloc o).cell? ⟨b, 5, none⟩ = some v5 := by
  have h6 := set6T h v0 v1 v2 v3 v4 v5
  have h7 := ((ballc _ o).block b (Array.getElem?_eq_some_iff.1 h6).1).trans h6
  refine ⟨?_, ?_, ?_, ?_, ?_, ?_⟩ <;> simp only [World.cell?, h7] <;> rfl
theorem below6A {a w : World} {b : Nat} (h : Below a.heap.size a w) (hp : a.heap.size ≤ b) (o : Obj) (v0 v1 v2 v3 v4 v5 : Value) : Below a.heap.size a (((((((w.setCell ⟨b, 0, none⟩ v0).setCell ⟨b, 1, none⟩ v1).setCell ⟨b, 2, none⟩ v2).setCell ⟨b, 3, none⟩ v3).setCell ⟨b, 4, none⟩ v4).setCell ⟨b, 5, none⟩ v5).alloc o) :=
  (below6T h hp v0 v1 v2 v3 v4 v5).alloc (below6T h hp v0 v1 v2 v3 v4 v5).size o
theorem blk_lt {w : World} {b : Nat} {o : Obj} (h : w.heap[b]? = some o) : b < w.heap.size := (Array.getElem?_eq_some_iff.1 h).1
theorem blk_later {w w' : World} {b : Nat} {o : Obj} (h : w.heap[b]? = some o) (hb : Below w.heap.size w w') : w'.heap[b]? = some o := (hb.block b (blk_lt h)).trans h
theorem blk_nw (w : World) (C : Array Value) (t : TypeId) : (w.alloc (.cells C t)).heap[w.heap.size]? = some (.cells C t (0, 0)) := heap_alloc_new w _
theorem blk_newAt (w : World) (C : Array Value) (t : TypeId) {b : Nat} (hb : b = w.heap.size) : (w.alloc (.cells C t)).heap[b]? = some (.cells C t (0, 0)) := by subst hb; exact heap_alloc_new w _
theorem blkV_new {w w' : World} {C : Array Value} {t : TypeId} (hb : Below (w.alloc (.cells C t)).heap.size (w.alloc (.cells C t)) w') : w'.heap[w.heap.size]? = some (.cells C t (0, 0)) := (hb.block _ (by simp)).trans (heap_alloc_new w _)
theorem blkV_newD {w w' : World} {C : Array Value} {t : TypeId} (hb : Below (w.alloc (.cells C t)).drew.heap.size (w.alloc (.cells C t)).drew w') : w'.heap[w.heap.size]? = some (.cells C t (0, 0)) := (hb.block _ (by simp)).trans (heap_alloc_new w _)
theorem blkV_newE {w w' : World} {C : Array Value} {t : TypeId} (hb : Below (w.alloc (.cells C t)).drew.drew.heap.size (w.alloc (.cells C t)).drew.drew w') : w'.heap[w.heap.size]? = some (.cells C t (0, 0)) := (hb.block _ (by simp)).trans (heap_alloc_new w _)
end Go.Proofs.Ytkopmhmbldohdab

/- Plain words on worlds that are made of another one by laying new blocks: what lay there stays, and new blocks are where they were laid; no conditions. -/
namespace Go.Proofs.Ytkopmhmbldohdab
open Go.ChangeShapes Go.WideShapes Go.ChangeAt Go.RowKit
set_option linter.unusedVariables false

/-- A world that is another one with new blocks at its end. -/
def Chn (n : Nat) (w w' : World) : Prop := Below n w w' ∧ n ≤ w'.heap.size
theorem Chn.refl {n : Nat} {w : World} (h : n ≤ w.heap.size) : Chn n w w := ⟨Below.refl _ _, h⟩
theorem Chn.alloc {n : Nat} {w w' : World} (h : Chn n w w') (o : Obj) : Chn n w (w'.alloc o) := ⟨h.1.alloc h.2 o, by rw [World.size_alloc]; exact Nat.le_succ_of_le h.2⟩
theorem Chn.drew {n : Nat} {w w' : World} (h : Chn n w w') : Chn n w w'.drew := ⟨h.1.drew, h.2⟩
theorem Chn.below {n : Nat} {w w' w'' : World} (h : Chn n w w') (k : Below w'.heap.size w' w'') : Chn n w w'' := ⟨h.1.trans (k.mono h.2), Nat.le_trans h.2 k.size⟩
theorem Chn.out {w w' : World} (h : Chn w.heap.size w w') : Below w.heap.size w w' := h.1
theorem Chn.set {n : Nat} {w w' : World} (h : Chn n w w') (g i : Nat) (hg : n ≤ g) (v : Value) : Chn n w (w'.setCell ⟨g, i, none⟩ v) := ⟨h.1.setCell (p := ⟨g, i, none⟩) hg v, by simpa using h.2⟩
theorem Chn.le {n : Nat} {w w' : World} (h : Chn n w w') : n ≤ w'.heap.size := h.2
theorem Chn.grown {n g : Nat} {w w' w'' : World} (h : Chn n w w') (k : w'.grownBy w'' (some g)) (hg : n ≤ g) : Chn n w w'' := ⟨h.1.trans ⟨k.os, k.tape, k.output, k.size, fun i hi => k.block i (Nat.lt_of_lt_of_le hi h.2) (by simp; omega)⟩, Nat.le_trans h.2 k.size⟩
end Go.Proofs.Ytkopmhmbldohdab

/- Plain words on rows in memory, whatever their elements are: where they lie, their cells, what is cut off, what is appended; no conditions. -/
namespace Go.Proofs.Ytkopmhmbldohdab
open Go.ChangeShapes Go.WideShapes Go.ChangeAt Go.RowKit
set_option linter.unusedVariables false

/-- A kind of elements: how many cells one has, and which. -/
structure Kind (α : Type) where
  k : Nat
  enc : α → List Value
  len : ∀ a, (enc a).length = k
  one : ∀ a, ∀ u ∈ enc a, u.oneCell' = true
  pos : 0 < k
namespace Kind
variable {α : Type} (K : Kind α)
def flat (es : List α) : List Value := es.flatMap K.enc
theorem flat_length (es : List α) : (K.flat es).length = es.length * K.k := by
  induction es with
  | nil => simp [flat]
  | cons a l ih => simp only [flat, List.flatMap_cons, List.length_append, K.len, List.length_cons] at ih ⊢; rw [ih, Nat.add_mul]; omega
theorem flat_append (es fs : List α) : K.flat (es ++ fs) = K.flat es ++ K.flat fs := by simp [flat]
theorem flat_one (es : List α) : ∀ u ∈ K.flat es, u.oneCell' = true := by
  intro u hu
  simp only [flat, List.mem_flatMap] at hu
  obtain ⟨e, _, hu⟩ := hu
  exact K.one e u hu
theorem flat_drop (es : List α) (n : Nat) (hn : n ≤ es.length) : K.flat (es.drop n) = (K.flat es).drop (n * K.k) := by
  have h : K.flat es = K.flat (es.take n) ++ K.flat (es.drop n) := by rw [← flat_append, List.take_append_drop]
  have hl : (K.flat (es.take n)).length = n * K.k := by rw [flat_length, List.length_take, Nat.min_eq_left hn]
  rw [h, ← hl, List.drop_left]
theorem flat_take (es : List α) (n : Nat) (hn : n ≤ es.length) : K.flat (es.take n) = (K.flat es).take (n * K.k) := by
  have h : K.flat es = K.flat (es.take n) ++ K.flat (es.drop n) := by rw [← flat_append, List.take_append_drop]
  have hl : (K.flat (es.take n)).length = n * K.k := by rw [flat_length, List.length_take, Nat.min_eq_left hn]
  rw [h, ← hl, List.take_left]
theorem flat_get (es : List α) (j : Nat) (hj : j < es.length) (i : Nat) (hi : i < K.k) : (K.flat es)[j * K.k + i]? = (K.enc es[j])[i]? := by
  have h1 := K.flat_drop es j (by omega)
  have h2 : (K.flat (es.drop j))[i]? = (K.enc es[j])[i]? := by
    rw [List.drop_eq_getElem_cons hj]
    simp only [flat, List.flatMap_cons]
    rw [List.getElem?_append_left (by rw [K.len]; exact hi)]
  rw [← h2, h1, List.getElem?_drop]

/-- A row lies in memory, below a bound. -/
def Lies (n₀ : Nat) (W : World) (sv : Value) (es : List α) : Prop :=
  ∃ (ad : Option Addr) (cap : Nat), sv = .slice ad es.length cap ∧ es.length ≤ cap ∧ cap ≤ maxLen ∧ (ad = none → cap = 0) ∧
    (0 < es.length → ∃ b off : Nat, ad = some ⟨b, off, none⟩ ∧ b < n₀ ∧ ∀ j u, (K.flat es)[j]? = some u → W.cell? ⟨b, off + j, none⟩ = some u)
variable {K}
theorem Lies.below {n₀ : Nat} {A B : World} {sv : Value} {es : List α} (h : K.Lies n₀ A sv es) (hb : Below n₀ A B) : K.Lies n₀ B sv es := by
  obtain ⟨ad, cap, e, h1, h2, h3, hc⟩ := h
  refine ⟨ad, cap, e, h1, h2, h3, fun hj => ?_⟩
  obtain ⟨b, off, ea, hbl, c⟩ := hc hj
  exact ⟨b, off, ea, hbl, fun j u hu => (hb.cell (p := ⟨b, off + j, none⟩) hbl).trans (c j u hu)⟩
theorem Lies.mono {n₀ n₁ : Nat} {W : World} {sv : Value} {es : List α} (h : K.Lies n₀ W sv es) (hn : n₀ ≤ n₁) : K.Lies n₁ W sv es := by
  obtain ⟨ad, cap, e, h1, h2, h3, hc⟩ := h
  refine ⟨ad, cap, e, h1, h2, h3, fun hj => ?_⟩
  obtain ⟨b, off, ea, hbl, c⟩ := hc hj
  exact ⟨b, off, ea, by omega, c⟩
theorem Lies.later {A B : World} {sv : Value} {es : List α} (h : K.Lies A.heap.size A sv es) (hb : Below A.heap.size A B) : K.Lies B.heap.size B sv es := (h.below hb).mono hb.size
theorem Lies.nil (n₀ : Nat) (W : World) : K.Lies n₀ W (.slice none 0 0) [] := ⟨none, 0, rfl, Nat.le_refl _, Nat.zero_le _, fun _ => rfl, fun hj => absurd hj (Nat.not_lt_zero _)⟩
theorem Lies.of_own {W : World} {base : Nat} {e : TypeId} {v : Value} {es : List α} (h : W.ownsRow base e K.k v es.length (K.flat es)) : K.Lies W.heap.size W v es := by
  obtain ⟨_, ⟨rfl, h0⟩ | ⟨g, cap, cur, rfl, hb, hg, h1, h2, h3, h4⟩⟩ := h
  · have : es = [] := List.length_eq_zero_iff.1 h0
    subst this
    exact Lies.nil _ _
  · refine ⟨_, cap, rfl, h1, h2, fun h => (by cases h), fun hj => ?_⟩
    have hlt : g < W.heap.size := (Array.getElem?_eq_some_iff.1 hg).1
    refine ⟨g, 0, rfl, hlt, fun j u hu => ?_⟩
    rw [← h4, List.getElem?_take] at hu
    split at hu
    · simpa [World.cell?, hg] using hu
    · cases hu
theorem Lies.drop {n₀ : Nat} {W : World} {b off len cap : Nat} {es : List α} (h : K.Lies n₀ W (.slice (some ⟨b, off, none⟩) len cap) es) (n : Nat) (hn : n ≤ es.length) : K.Lies n₀ W (.slice (some ⟨b, off + n * K.k, none⟩) (len - n) (cap - n)) (es.drop n) := by
  obtain ⟨ad, c, hv, h1, h2, h3, hc⟩ := h
  obtain ⟨rfl, rfl, rfl⟩ : some _ = ad ∧ len = _ ∧ cap = _ := by simpa using hv
  refine ⟨some ⟨b, off + n * K.k, none⟩, cap - n, by rw [List.length_drop], by rw [List.length_drop]; omega, by omega, fun h => (by cases h), fun hj => ?_⟩
  obtain ⟨b', off', he, hb, c⟩ := hc (by simp at hj; omega)
  cases he
  refine ⟨_, _, rfl, hb, fun j u hu => ?_⟩
  rw [K.flat_drop es n hn, List.getElem?_drop] at hu
  rw [Nat.add_assoc]
  exact c _ _ hu
theorem Lies.take {n₀ : Nat} {W : World} {ad : Option Addr} {len cap : Nat} {es : List α} (h : K.Lies n₀ W (.slice ad len cap) es) (n : Nat) (hn : n ≤ es.length) : K.Lies n₀ W (.slice ad n cap) (es.take n) := by
  obtain ⟨ad', c, hv, h1, h2, h3, hc⟩ := h
  obtain ⟨rfl, rfl, rfl⟩ : ad = ad' ∧ len = _ ∧ cap = _ := by simpa using hv
  have el : (es.take n).length = n := by rw [List.length_take]; omega
  refine ⟨ad, cap, by rw [el], by omega, h2, h3, fun hj => ?_⟩
  obtain ⟨b', off', he, hb, c⟩ := hc (by omega)
  refine ⟨b', off', he, hb, fun j u hu => ?_⟩
  rw [K.flat_take es n hn, List.getElem?_take] at hu
  split at hu
  · exact c _ _ hu
  · cases hu
theorem Lies.of_block {W : World} {g : Nat} {es : List α} {t : TypeId} (h : W.heap[g]? = some (.cells (K.flat es).toArray t (0, 0))) (hl : es.length ≤ maxLen) : K.Lies W.heap.size W (.slice (some ⟨g, 0, none⟩) es.length es.length) es := by
  refine ⟨_, _, rfl, Nat.le_refl _, hl, fun h => (by cases h), fun hj => ?_⟩
  refine ⟨g, 0, rfl, (Array.getElem?_eq_some_iff.1 h).1, fun j u hu => ?_⟩
  simpa [World.cell?, h] using hu
/-- What is read of a row is its cells. -/
theorem Lies.cells {n₀ : Nat} {W : World} {b off len cap : Nat} {es : List α} (h : K.Lies n₀ W (.slice (some ⟨b, off, none⟩) len cap) es) : ∀ j u, (K.flat es)[j]? = some u → W.cell? ((⟨b, off, none⟩ : Addr).add j) = some u := by
  obtain ⟨ad, c, hv, h1, h2, h3, hc⟩ := h
  obtain ⟨rfl, rfl, rfl⟩ : some _ = ad ∧ len = _ ∧ cap = _ := by simpa using hv
  intro j u hu
  by_cases h0 : 0 < es.length
  · obtain ⟨b', off', he, hb, c⟩ := hc h0
    cases he
    rw [add_plain]
    exact c j u hu
  · have : es = [] := List.length_eq_zero_iff.1 (by omega)
    subst this
    simp [flat] at hu
/-- The cells of one element of a row. -/
theorem Lies.at {n₀ : Nat} {W : World} {ad : Option Addr} {len cap : Nat} {es : List α} (h : K.Lies n₀ W (.slice ad len cap) es) (j : Nat) (hj : j < es.length) : ∃ b off : Nat, ad = some ⟨b, off, none⟩ ∧ b < n₀ ∧ ∀ i, i < K.k → W.cell? ⟨b, off + j * K.k + i, none⟩ = (K.enc es[j])[i]? := by
  obtain ⟨ad', c, hv, h1, h2, h3, hc⟩ := h
  obtain ⟨rfl, rfl, rfl⟩ : ad = ad' ∧ len = _ ∧ cap = _ := by simpa using hv
  obtain ⟨b, off, he, hb, c⟩ := hc (by omega)
  refine ⟨b, off, he, hb, fun i hi => ?_⟩
  have h1 := K.flat_get es j hj i hi
  have hlt : i < (K.enc es[j]).length := by rw [K.len]; exact hi
  obtain ⟨u, hu⟩ : ∃ u, (K.enc es[j])[i]? = some u := ⟨_, List.getElem?_eq_getElem hlt⟩
  rw [hu] at h1
  rw [hu, Nat.add_assoc]
  exact c _ _ h1
theorem Lies.len {n₀ : Nat} {W : World} {ad : Option Addr} {len cap : Nat} {es : List α} (h : K.Lies n₀ W (.slice ad len cap) es) : len = es.length := by
  obtain ⟨_, _, hv, _⟩ := h
  simp at hv
  exact hv.2.1
variable (K)
/-- A row is appended to a row of one's own. -/
theorem run_append {P : Program} (w : World) (base : Nat) (t ty e : TypeId) (i : TypeInfo) (z : Value) (bytes : Nat) (ht : P.underlying t = some (.slice e)) (hi : P.info? e = some i) (hz : i.zero = some z)
    (hsize : i.size = K.k) (hby : i.bytes = bytes) (hzs : z.cells.size = K.k) (v : Value) (n : Nat) (xs : List Value) (hown : w.ownsRow base e K.k v n xs) {n₀ : Nat} (sv : Value) (es : List α) (hE : K.Lies n₀ w sv es)
    (h63 : n + es.length ≤ maxLen) (hbytes : (n + es.length) * bytes ≤ 140737488355328) (hbase : base ≤ w.heap.size) :
    ∃ v' w', (Builtin.append_ #[t, t] ty #[v, sv]).run P w = .ok v' w' ∧ w'.ownsRow base e K.k v' (n + es.length) (xs ++ K.flat es) ∧ w.grownBy w' v.ownBlock ∧ (v'.ownBlock = v.ownBlock ∨ v'.ownBlock = some w.heap.size) := by
  obtain ⟨ad, c, rfl, h1, h2, h3, hc⟩ := id hE
  by_cases h0 : es.length = 0
  · have : es = [] := List.length_eq_zero_iff.1 h0
    subst this
    cases ad with
    | none =>
      obtain rfl := h3 rfl
      exact ⟨v, w, run_append_owned_none w base t ty e i K.k ht hi v n xs hown, by simpa [flat] using hown, ⟨rfl, rfl, rfl, Nat.le_refl _, fun _ _ _ => rfl⟩, .inl rfl⟩
    | some a =>
      obtain ⟨v', w', r1, r2, r3, _, r5⟩ := run_append_own_at (P := P) w base t ty e i z K.k bytes ht hi hz hsize hby hzs K.pos v n xs hown a 0 c [] (by simp) (by simp) (by simp) h63 hbytes hbase
      exact ⟨v', w', r1, by simpa [flat] using r2, r3, r5⟩
  · obtain ⟨b, off, rfl, _⟩ := hc (by omega)
    obtain ⟨v', w', r1, r2, r3, _, r5⟩ := run_append_own_at (P := P) w base t ty e i z K.k bytes ht hi hz hsize hby hzs K.pos v n xs hown ⟨b, off, none⟩ es.length c (K.flat es) (K.flat_length es) hE.cells (K.flat_one es) h63 hbytes hbase
    exact ⟨v', w', r1, r2, r3, r5⟩
theorem wpList_append {P : Program} (w : World) {ops : Array Oper} {rest : List Oper} {o : Oper} {a : Act} {Q : Exit → Act → World → Prop} (hgd : o.guard = none) (s x : Operand) (t : TypeId)
    (ho : o.op = .call { callee := .builtin .append, args := #[s, x], argTypes := #[t, t] })
    (base : Nat) (e : TypeId) (i : TypeInfo) (z : Value) (bytes : Nat) (ht : P.underlying t = some (.slice e)) (hi : P.info? e = some i) (hz : i.zero = some z)
    (hsize : i.size = K.k) (hby : i.bytes = bytes) (hzs : z.cells.size = K.k) (v : Value) (n : Nat) (xs : List Value) (hs : a.eval s = v) (hown : w.ownsRow base e K.k v n xs) {n₀ : Nat} (sv : Value) (es : List α) (hx : a.eval x = sv) (hE : K.Lies n₀ w sv es)
    (h63 : n + es.length ≤ maxLen) (hbytes : (n + es.length) * bytes ≤ 140737488355328) (hbase : base ≤ w.heap.size)
    (hK : ∀ v' w', w'.ownsRow base e K.k v' (n + es.length) (xs ++ K.flat es) → w.grownBy w' v.ownBlock → (v'.ownBlock = v.ownBlock ∨ v'.ownBlock = some w.heap.size) → wpList P ops Q rest (a.put o.dst v') w') : wpList P ops Q (o :: rest) a w := by
  obtain ⟨v', w', hrun, r1, r2, r3⟩ := K.run_append (P := P) w base t o.type e i z bytes ht hi hz hsize hby hzs v n xs hown sv es hE h63 hbytes hbase
  refine wpList_plain hgd fun K hK' => ?_
  unfold Oper.wp
  simp [execOp, ho, resolve, invoke, builtin, hs, hx, hrun, Result.andThen]
  exact hK' _ _ (hK v' w' r1 r2 r3)
end Kind

theorem own_below {A B : World} {base : Nat} {e : TypeId} {size : Nat} {v : Value} {n : Nat} {xs : List Value} (h : A.ownsRow base e size v n xs) (hb : Below A.heap.size A B) : B.ownsRow base e size v n xs := by
  refine ⟨h.1, ?_⟩
  rcases h.2 with h | ⟨g, cap, cur, hv, h1, h2, h3⟩
  · exact .inl h
  · exact .inr ⟨g, cap, cur, hv, h1, (hb.block g (Array.getElem?_eq_some_iff.1 h2).1).trans h2, h3⟩
theorem own_low {W : World} {base b2 : Nat} {e : TypeId} {size : Nat} {v : Value} {n : Nat} {xs : List Value} (h : W.ownsRow base e size v n xs) (hb : b2 ≤ base) : W.ownsRow b2 e size v n xs := by
  refine ⟨h.1, ?_⟩
  rcases h.2 with h | ⟨g, cap, cur, hv, h1, h2, h3⟩
  · exact .inl h
  · exact .inr ⟨g, cap, cur, hv, Nat.le_trans hb h1, h2, h3⟩
theorem own_from {W : World} {base : Nat} {e : TypeId} {size : Nat} {v : Value} {n : Nat} {xs : List Value} (h : W.ownsRow base e size v n xs) : ∀ k, v.ownBlock = some k → base ≤ k := fun k hk => (h.lt k hk).1
theorem own_slice {W : World} {base : Nat} {e : TypeId} {size : Nat} {v : Value} {n : Nat} {xs : List Value} (h : W.ownsRow base e size v n xs) : ∃ ad cap, v = .slice ad n cap := by
  rcases h.2 with ⟨rfl, rfl⟩ | ⟨g, cap, cur, rfl, _⟩
  · exact ⟨_, _, rfl⟩
  · exact ⟨_, _, rfl⟩
end Go.Proofs.Ytkopmhmbldohdab

/- Rows that came in as arguments, whatever their elements are, opened: where their cells lie; no conditions. -/
namespace Go.Proofs.Ytkopmhmbldohdab
open Go.ChangeShapes Go.WideShapes Go.ChangeAt Go.RowKit
set_option linter.unusedVariables false

section
variable {H : Type} {enc : TypeId × Value → H} {w : World} {base : Nat} {spare : Nat → Bool} {held : Bool}
theorem Kind.open_rows {α : Type} (K : Kind α) {t e : TypeId} {fuel : Nat} {c : Value} {x : DataW H × List MemPlace} (ht : Try.prog.underlying t = some (.slice e)) (hk : Try.prog.cellsOf e = K.k)
    (dec : ∀ n cs y, cs.length = K.k → DataW.trod enc Try.prog w base spare held n e cs = some y → ∃ a, cs = K.enc a) (h : DataW.trod enc Try.prog w base spare held fuel t [c] = some x) :
    ∃ (ad : Option Addr) (cap : Nat) (es : List α), c = .slice ad es.length cap ∧ es.length ≤ 9223372036854775807 ∧ K.Lies w.heap.size w (.slice ad es.length cap) es := by
  rcases Deep.open_slice ht h with ⟨h0, _⟩ | ⟨a, len, cap, m, n, D, Pl, hcs, hb, hl, hm, hmm, _, hx⟩
  · exact ⟨none, 0, [], by simpa using h0, by simp, Kind.Lies.nil _ _⟩
  have hlm : len ≤ m := by rw [hmm]; split <;> omega
  rw [hk] at hx
  have each : ∀ i, i < len → ∃ q : α, ∀ j, j < K.k → w.cell? (a.add (i * K.k + j)) = (K.enc q)[j]? := by
    intro i hi
    obtain ⟨cs', h1, h2⟩ := hx i (by omega)
    obtain ⟨_, hlen, hcell⟩ := World.cells?_some h1
    obtain ⟨q, rfl⟩ := dec _ _ _ hlen h2
    exact ⟨q, fun j hj => by rw [← Deep.add_add]; exact hcell j hj⟩
  have hall : ∀ m', m' ≤ len → ∃ es : List α, es.length = m' ∧ ∀ i, ∀ hi : i < es.length, ∀ j, j < K.k → w.cell? (a.add (i * K.k + j)) = (K.enc es[i])[j]? := by
    intro m' hm'
    induction m' with
    | zero => exact ⟨[], rfl, fun i hi => absurd hi (Nat.not_lt_zero _)⟩
    | succ m' ih =>
      obtain ⟨es, hes, hcell⟩ := ih (by omega)
      obtain ⟨q, hq⟩ := each m' (by omega)
      refine ⟨es ++ [q], by simp [hes], fun i hi j hj => ?_⟩
      simp at hi
      by_cases hlt : i < es.length
      · rw [List.getElem_append_left hlt]; exact hcell i hlt j hj
      · obtain rfl : i = es.length := by omega
        rw [List.getElem_append_right (Nat.le_refl _)]
        simp only [Nat.sub_self, List.getElem_cons_zero]
        rw [hes]
        exact hq j hj
  obtain ⟨es, hes, hcell⟩ := hall len (Nat.le_refl _)
  have hc' : c = .slice (some a) len cap := by simpa using hcs
  refine ⟨some a, cap, es, by rw [hes]; exact hc', by rw [hes]; unfold maxLen at hm; omega, some a, cap, rfl, by omega, hm, fun h => (by cases h), fun h0 => ?_⟩
  have hsp : a.spot = none := by
    have d0 := hcell 0 h0 0 K.pos
    have hl0 : 0 < (K.enc es[0]).length := by rw [K.len]; exact K.pos
    rw [List.getElem?_eq_getElem hl0] at d0
    have d0' : w.cell? a = some (K.enc es[0])[0] := by simpa [Addr.add] using d0
    cases hs : a.spot with
    | none => rfl
    | some q =>
      simp only [World.cell?] at d0'
      split at d0' <;> simp_all
  obtain ⟨b, off, sp⟩ := a
  simp only at hsp
  subst hsp
  have hlt : b < w.heap.size := by
    have d0 := hcell 0 h0 0 K.pos
    have hl0 : 0 < (K.enc es[0]).length := by rw [K.len]; exact K.pos
    rw [List.getElem?_eq_getElem hl0, add_plain] at d0
    exact block_lt_of_cell d0
  refine ⟨b, off, rfl, hlt, fun j u hu => ?_⟩
  have hj : j < (K.flat es).length := (List.getElem?_eq_some_iff.1 hu).1
  rw [K.flat_length] at hj
  have hdm : j / K.k * K.k + j % K.k = j := by rw [Nat.mul_comm]; exact Nat.div_add_mod j K.k
  have h1 : j / K.k < es.length := Nat.div_lt_of_lt_mul (by rw [Nat.mul_comm]; exact hj)
  have h2 := hcell (j / K.k) h1 (j % K.k) (Nat.mod_lt _ K.pos)
  have h3 := K.flat_get es (j / K.k) h1 (j % K.k) (Nat.mod_lt _ K.pos)
  rw [hdm] at h2 h3
  rw [add_plain] at h2
  rw [h2, ← h3, hu]
set_option maxRecDepth 100000 in
theorem Kind.open_arg {α : Type} (K : Kind α) {t e : TypeId} {r : Reach} {b0 : Nat} {v : Value} {dt : DataW H} {ps : List MemPlace} (ht : Try.prog.underlying t = some (.slice e)) (hk : Try.prog.cellsOf e = K.k)
    (dec : ∀ n cs y, cs.length = K.k → DataW.trod enc Try.prog w base spare held n e cs = some y → ∃ a, cs = K.enc a) (hv : Value.okWide Try.prog w r b0 t v) (h : DataW.Trod enc Try.prog w base spare held t v dt ps) :
    ∃ (ad : Option Addr) (cap : Nat) (es : List α), v = .slice ad es.length cap ∧ es.length ≤ 9223372036854775807 ∧ K.Lies w.heap.size w (.slice ad es.length cap) es := by
  obtain ⟨x, y, c, rfl⟩ := okWide_slice ht hv
  obtain ⟨fu, hf⟩ := h
  exact K.open_rows ht hk dec (by simpa [Value.cells] using hf)
end
end Go.Proofs.Ytkopmhmbldohdab

/- Rows of int that lie in memory: their cells, and such a row that came in as an argument; no conditions. -/
namespace Go.Proofs.Ytkopmhmbldohdab
open Go.ChangeShapes Go.WideShapes Go.ChangeAt Go.RowKit
set_option linter.unusedVariables false

/-- Rows of int. -/
def kInt : Kind Int := ⟨1, fun z => [.int .i64 z], fun _ => rfl, by intro a u hu; simp at hu; subst hu; rfl, by decide⟩
theorem kInt_flat (zs : List Int) : kInt.flat zs = zs.map (Value.int .i64) := by
  induction zs with
  | nil => rfl
  | cons a l ih => simp only [Kind.flat, List.flatMap_cons, List.map_cons] at ih ⊢; rw [ih]; rfl
theorem infoInt : (Try.prog.info? 3).map (fun i => (i.zero, i.size, i.bytes)) = some (some (.int .i64 0), 1, 8) := by kernel_rfl
theorem info_of {T : TypeId} {z : Value} {m b : Nat} (h : (Try.prog.info? T).map (fun i => (i.zero, i.size, i.bytes)) = some (some z, m, b)) : ∃ i, Try.prog.info? T = some i ∧ i.zero = some z ∧ i.size = m ∧ i.bytes = b := by
  cases hi : Try.prog.info? T with
  | none => rw [hi] at h; cases h
  | some i =>
    rw [hi] at h
    simp only [Option.map_some, Option.some.injEq, Prod.mk.injEq] at h
    exact ⟨i, rfl, h.1, h.2.1, h.2.2⟩
theorem kInt_at {n₀ : Nat} {W : World} {ad : Option Addr} {len cap : Nat} {zs : List Int} (h : kInt.Lies n₀ W (.slice ad len cap) zs) (j : Nat) (hj : j < zs.length) : ∃ b off : Nat, ad = some ⟨b, off, none⟩ ∧ b < n₀ ∧ W.cell? ⟨b, off + j, none⟩ = some (.int .i64 zs[j]) := by
  obtain ⟨b, off, he, hb, hc⟩ := h.at j hj
  refine ⟨b, off, he, hb, ?_⟩
  have := hc 0 (by decide)
  simpa [kInt] using this
section
variable {H : Type} {enc : TypeId × Value → H} {w : World} {base : Nat} {spare : Nat → Bool} {held : Bool}
theorem dec_int (n : Nat) (cs : List Value) (y : DataW H × List MemPlace) (hl : cs.length = kInt.k) (h : DataW.trod enc Try.prog w base spare held n 3 cs = some y) : ∃ a, cs = kInt.enc a := by
  obtain ⟨c0, rfl⟩ : ∃ c0, cs = [c0] := by
    have h2 : cs.length = 1 := hl
    match cs, h2 with
    | [c0], _ => exact ⟨c0, rfl⟩
  obtain ⟨x0, h0, _, w0⟩ := DataW.trod_int Try.underlying3 h
  exact ⟨x0, h0⟩
set_option maxRecDepth 100000 in
theorem open_kints {r : Reach} {b0 : Nat} {v : Value} {dt : DataW H} {ps : List MemPlace} (hv : Value.okWide Try.prog w r b0 22 v) (h : DataW.Trod enc Try.prog w base spare held 22 v dt ps) :
    ∃ (ad : Option Addr) (cap : Nat) (es : List Int), v = .slice ad es.length cap ∧ es.length ≤ 9223372036854775807 ∧ kInt.Lies w.heap.size w (.slice ad es.length cap) es :=
  kInt.open_arg Try.underlying22 (by kernel_rfl) dec_int hv h
end
end Go.Proofs.Ytkopmhmbldohdab

/- A memory as a row of cells of which some are told; one that lies in a block is read whole; no conditions. -/
namespace Go.Proofs.Ytkopmhmbldohdab
open Go.ChangeShapes Go.WideShapes Go.ChangeAt Go.RowKit
set_option linter.unusedVariables false

/-- What a memory's cells tell: clock, anchor, number, regular cycles, who was heard, which slots, which were sent in, the line. -/
structure MemW (mm : Array Value) (mc ma mn mr : Int) (mz mh mt ml : ByteArray) : Prop where
  size : mm.size = 24
  c0 : mm[0]? = some (.int .i64 mc)
  c1 : mm[1]? = some (.int .i64 ma)
  c7 : mm[7]? = some (.int .i64 mn)
  c8 : mm[8]? = some (.int .i64 mr)
  c10 : mm[10]? = some (.string mz)
  c11 : mm[11]? = some (.string mh)
  c12 : mm[12]? = some (.string mt)
  c14 : mm[14]? = some (.string ml)
theorem set_far (mm : Array Value) (i j : Nat) (v u : Value) (h : mm[j]? = some u) (e : i ≠ j) : (mm.setIfInBounds i v)[j]? = some u := by
  rw [Array.getElem?_setIfInBounds_ne e]; exact h
theorem set_near (mm : Array Value) (i : Nat) (v : Value) (h : i < mm.size) : (mm.setIfInBounds i v)[i]? = some v := by
  simp [h]
theorem MemW.heard {mm : Array Value} {mc ma mn mr : Int} {mz mh mt ml : ByteArray} (h : MemW mm mc ma mn mr mz mh mt ml) (s : ByteArray) : MemW (mm.setIfInBounds 11 (.string s)) mc ma mn mr mz s mt ml :=
  ⟨by rw [Array.size_setIfInBounds]; exact h.size, set_far _ _ _ _ _ h.c0 (by decide), set_far _ _ _ _ _ h.c1 (by decide), set_far _ _ _ _ _ h.c7 (by decide), set_far _ _ _ _ _ h.c8 (by decide), set_far _ _ _ _ _ h.c10 (by decide), set_near _ _ _ (by rw [h.size]; decide), set_far _ _ _ _ _ h.c12 (by decide), set_far _ _ _ _ _ h.c14 (by decide)⟩
theorem MemW.seen {mm : Array Value} {mc ma mn mr : Int} {mz mh mt ml : ByteArray} (h : MemW mm mc ma mn mr mz mh mt ml) (s : ByteArray) : MemW (mm.setIfInBounds 10 (.string s)) mc ma mn mr s mh mt ml :=
  ⟨by rw [Array.size_setIfInBounds]; exact h.size, set_far _ _ _ _ _ h.c0 (by decide), set_far _ _ _ _ _ h.c1 (by decide), set_far _ _ _ _ _ h.c7 (by decide), set_far _ _ _ _ _ h.c8 (by decide), set_near _ _ _ (by rw [h.size]; decide), set_far _ _ _ _ _ h.c11 (by decide), set_far _ _ _ _ _ h.c12 (by decide), set_far _ _ _ _ _ h.c14 (by decide)⟩
theorem MemW.sent {mm : Array Value} {mc ma mn mr : Int} {mz mh mt ml : ByteArray} (h : MemW mm mc ma mn mr mz mh mt ml) (s : ByteArray) : MemW (mm.setIfInBounds 12 (.string s)) mc ma mn mr mz mh s ml :=
  ⟨by rw [Array.size_setIfInBounds]; exact h.size, set_far _ _ _ _ _ h.c0 (by decide), set_far _ _ _ _ _ h.c1 (by decide), set_far _ _ _ _ _ h.c7 (by decide), set_far _ _ _ _ _ h.c8 (by decide), set_far _ _ _ _ _ h.c10 (by decide), set_far _ _ _ _ _ h.c11 (by decide), set_near _ _ _ (by rw [h.size]; decide), set_far _ _ _ _ _ h.c14 (by decide)⟩
/-- A memory is read whole. -/
def ldM (v : Value) : Sem Value := Instr.loadAt 30 v
theorem ldM_eq (v : Value) : Instr.loadAt 30 v = ldM v := rfl
theorem ldM_run {W : World} {g : Nat} {t : TypeId} {fr : Nat × Nat} {mm : Array Value} (hs : mm.size = 24) (h : W.heap[g]? = some (.cells mm t fr)) : (ldM (.pointer (some ⟨g, 0, none⟩))).run Try.prog W = .ok (.agg mm) W := by
  unfold ldM Instr.loadAt Instr.sureAddr
  simp only [Sem.run_bind, Sem.run_pure, Result.andThen_ok]
  exact run_loadVar_row W g t 30 mm fr _ h Try.underlying30 rfl (by rw [hs]; kernel_rfl)
theorem ldM_rg {W : World} {g : Nat} {t : TypeId} {mm : Array Value} (hs : mm.size = 24) (h : W.heap[g]? = some (.cells mm t (0, 0))) (dq : Nat) (os : Array Obj) : (ldM (.pointer (some ⟨g, 0, none⟩))).run Try.prog (Sort.grow (redrawn W dq) os) = .ok (.agg mm) (Sort.grow (redrawn W dq) os) :=
  ldM_run hs (blk_later h (below_regrown W dq os))
/-- A memory is written whole. -/
def stM (a v : Value) : Sem Unit := Instr.storeAt 30 a v
theorem stM_eq (a v : Value) : Instr.storeAt 30 a v = stM a v := rfl
theorem stM_new (w : World) (c c' : Array Value) (hi : c'.size = 24) (ho : c.size = 24) (h1 : c'.all (·.oneCell') = true) : (stM (.pointer (some ⟨w.heap.size, 0, none⟩)) (.agg c')).run Try.prog (w.alloc (.cells c 30)) = .ok () (w.alloc (.cells c' 30)) :=
  run_storeAt_new w 30 c c' (by rw [hi]; kernel_rfl) (by rw [hi, ho]) h1
theorem stM_at (w : World) (c c' : Array Value) {b : Nat} (hb : b = w.heap.size) (hi : c'.size = 24) (ho : c.size = 24) (h1 : c'.all (·.oneCell') = true) : (stM (.pointer (some ⟨b, 0, none⟩)) (.agg c')).run Try.prog (w.alloc (.cells c 30)) = .ok () (w.alloc (.cells c' 30)) := by
  subst hb; exact stM_new w c c' hi ho h1
/-- Blocks that were made one after another. -/
theorem blk2 (w : World) (A : Array Value) (tA : TypeId) (B : Array Value) (tB : TypeId) :
    ((w.alloc (.cells A tA)).alloc (.cells B tB)).heap[w.heap.size]? = some (.cells A tA (0, 0)) ∧ ((w.alloc (.cells A tA)).alloc (.cells B tB)).heap[w.heap.size + 1]? = some (.cells B tB (0, 0)) :=
  ⟨blk_later (blk_nw w A tA) (ballc _ _), blk_newAt _ _ _ (by simp)⟩
theorem blk3 (w : World) (A : Array Value) (tA : TypeId) (B : Array Value) (tB : TypeId) (C : Array Value) (tC : TypeId) :
    (((w.alloc (.cells A tA)).alloc (.cells B tB)).alloc (.cells C tC)).heap[w.heap.size]? = some (.cells A tA (0, 0)) ∧ (((w.alloc (.cells A tA)).alloc (.cells B tB)).alloc (.cells C tC)).heap[w.heap.size + 1]? = some (.cells B tB (0, 0)) ∧ (((w.alloc (.cells A tA)).alloc (.cells B tB)).alloc (.cells C tC)).heap[w.heap.size + 1 + 1]? = some (.cells C tC (0, 0)) :=
  ⟨blk_later (blk2 w A tA B tB).1 (ballc _ _), blk_later (blk2 w A tA B tB).2 (ballc _ _), blk_newAt _ _ _ (by simp)⟩
theorem blk4 (w : World) (A : Array Value) (tA : TypeId) (B : Array Value) (tB : TypeId) (C : Array Value) (tC : TypeId) (D : Array Value) (tD : TypeId) :
    ((((w.alloc (.cells A tA)).alloc (.cells B tB)).alloc (.cells C tC)).alloc (.cells D tD)).heap[w.heap.size]? = some (.cells A tA (0, 0)) ∧ ((((w.alloc (.cells A tA)).alloc (.cells B tB)).alloc (.cells C tC)).alloc (.cells D tD)).heap[w.heap.size + 1]? = some (.cells B tB (0, 0)) ∧ ((((w.alloc (.cells A tA)).alloc (.cells B tB)).alloc (.cells C tC)).alloc (.cells D tD)).heap[w.heap.size + 1 + 1]? = some (.cells C tC (0, 0)) ∧ ((((w.alloc (.cells A tA)).alloc (.cells B tB)).alloc (.cells C tC)).alloc (.cells D tD)).heap[w.heap.size + 1 + 1 + 1]? = some (.cells D tD (0, 0)) ∧
    Below w.heap.size w ((((w.alloc (.cells A tA)).alloc (.cells B tB)).alloc (.cells C tC)).alloc (.cells D tD)) :=
  ⟨blk_later (blk3 w A tA B tB C tC).1 (ballc _ _), blk_later (blk3 w A tA B tB C tC).2.1 (ballc _ _), blk_later (blk3 w A tA B tB C tC).2.2 (ballc _ _), blk_newAt _ _ _ (by simp), bthen (bthen (bthen (ballc w _) (ballc _ _)) (ballc _ _)) (ballc _ _)⟩
theorem blk_chn {n : Nat} {w w' : World} {b : Nat} {o : Obj} (h : w.heap[b]? = some o) (hb : b < n) (c : Chn n w w') : w'.heap[b]? = some o := (c.1.block b hb).trans h
theorem one_lies {W : World} {g : Nat} {z : Int} (h : W.heap[g]? = some (.cells #[.int .i64 z] 3 (0, 0))) : kInt.Lies W.heap.size W (.slice (some ⟨g, 0, none⟩) ([z] : List Int).length 1) [z] :=
  Kind.Lies.of_block (K := kInt) (t := 3) (g := g) (es := [z]) h (by simp [maxLen])
end Go.Proofs.Ytkopmhmbldohdab

/- A memory that came in as an argument, opened: its numbers and texts, which fit int; its rows and counters are any values; no conditions. -/
namespace Go.Proofs.Ytkopmhmbldohdab
open Go.ChangeShapes Go.WideShapes Go.ChangeAt Go.RowKit
set_option linter.unusedVariables false

section
variable {H : Type} {enc : TypeId × Value → H} {w : World} {base : Nat} {spare : Nat → Bool} {held : Bool}
theorem array24 {cs : Array Value} (h : cs.size = 24) : ∃ c0 c1 c2 c3 c4 c5 c6 c7 c8 c9 c10 c11 c12 c13 c14 c15 c16 c17 c18 c19 c20 c21 c22 c23, cs = #[c0, c1, c2, c3, c4, c5, c6, c7, c8, c9, c10, c11, c12, c13, c14, c15, c16, c17, c18, c19, c20, c21, c22, c23] := by
  obtain ⟨l⟩ := cs
  have h2 : l.length = 24 := h
  match l, h2 with
  | [c0, c1, c2, c3, c4, c5, c6, c7, c8, c9, c10, c11, c12, c13, c14, c15, c16, c17, c18, c19, c20, c21, c22, c23], _ => exact ⟨c0, c1, c2, c3, c4, c5, c6, c7, c8, c9, c10, c11, c12, c13, c14, c15, c16, c17, c18, c19, c20, c21, c22, c23, rfl⟩
set_option maxRecDepth 100000 in
theorem open_mem {r : Reach} {b0 : Nat} {v : Value} {dt : DataW H} {pl : List MemPlace} (hv : Value.okWide Try.prog w r b0 30 v) (h : DataW.Trod enc Try.prog w base spare held 30 v dt pl) :
    ∃ (mm : Array Value) (mc ma mn mr : Int) (mz mh mt ml : ByteArray), v = .agg mm ∧ MemW mm mc ma mn mr mz mh mt ml ∧ ((Lit.int .i64 mc).wf = true ∧ (Lit.int .i64 ma).wf = true ∧ (Lit.int .i64 mn).wf = true ∧ (Lit.int .i64 mr).wf = true) ∧
      mz.size ≤ 9223372036854775807 ∧ mh.size ≤ 9223372036854775807 ∧ mt.size ≤ 9223372036854775807 ∧ ml.size ≤ 9223372036854775807 := by
  have hs := Try.underlying30
  obtain ⟨cs, rfl, hsz⟩ := okWide_struct hs hv
  obtain ⟨c0, c1, c2, c3, c4, c5, c6, c7, c8, c9, c10, c11, c12, c13, c14, c15, c16, c17, c18, c19, c20, c21, c22, c23, rfl⟩ := array24 (hsz.trans (by kernel_rfl))
  obtain ⟨fuel, hf⟩ := h
  obtain ⟨xs, m, _, _, _, hxl, hfs⟩ := DataW.trod_struct hs hf
  have k3 : Try.prog.cellsOf 3 = 1 := by kernel_rfl
  have k9 : Try.prog.cellsOf 9 = 1 := by kernel_rfl
  obtain ⟨y0, q0⟩ := some_of_lt hxl (by decide : 0 < 19) (hfs 0 _ rfl)
  obtain ⟨x0, h0, _, w0⟩ := DataW.trod_int Try.underlying3 (show DataW.trod enc Try.prog w base spare held m 3 [c0] = some y0 by simpa [Value.cells, k3, k9] using q0)
  obtain ⟨y1, q1⟩ := some_of_lt hxl (by decide : 1 < 19) (hfs 1 _ rfl)
  obtain ⟨x1, h1, _, w1⟩ := DataW.trod_int Try.underlying3 (show DataW.trod enc Try.prog w base spare held m 3 [c1] = some y1 by simpa [Value.cells, k3, k9] using q1)
  obtain ⟨y2, q2⟩ := some_of_lt hxl (by decide : 2 < 19) (hfs 2 _ rfl)
  obtain ⟨x2, h2, _, w2⟩ := DataW.trod_int Try.underlying3 (show DataW.trod enc Try.prog w base spare held m 3 [c2] = some y2 by simpa [Value.cells, k3, k9] using q2)
  obtain ⟨y3, q3⟩ := some_of_lt hxl (by decide : 3 < 19) (hfs 3 _ rfl)
  obtain ⟨x3, h3, _, w3⟩ := DataW.trod_string Try.underlying9 (show DataW.trod enc Try.prog w base spare held m 9 [c3] = some y3 by simpa [Value.cells, k3, k9] using q3)
  obtain ⟨y4, q4⟩ := some_of_lt hxl (by decide : 4 < 19) (hfs 4 _ rfl)
  obtain ⟨x4, h4, _, w4⟩ := DataW.trod_int Try.underlying3 (show DataW.trod enc Try.prog w base spare held m 3 [c4] = some y4 by simpa [Value.cells, k3, k9] using q4)
  obtain ⟨y5, q5⟩ := some_of_lt hxl (by decide : 5 < 19) (hfs 5 _ rfl)
  obtain ⟨x5, h5, _, w5⟩ := DataW.trod_string Try.underlying9 (show DataW.trod enc Try.prog w base spare held m 9 [c5] = some y5 by simpa [Value.cells, k3, k9] using q5)
  obtain ⟨y6, q6⟩ := some_of_lt hxl (by decide : 6 < 19) (hfs 6 _ rfl)
  obtain ⟨x6, h6, _, w6⟩ := DataW.trod_string Try.underlying9 (show DataW.trod enc Try.prog w base spare held m 9 [c6] = some y6 by simpa [Value.cells, k3, k9] using q6)
  obtain ⟨y7, q7⟩ := some_of_lt hxl (by decide : 7 < 19) (hfs 7 _ rfl)
  obtain ⟨x7, h7, _, w7⟩ := DataW.trod_int Try.underlying3 (show DataW.trod enc Try.prog w base spare held m 3 [c7] = some y7 by simpa [Value.cells, k3, k9] using q7)
  obtain ⟨y8, q8⟩ := some_of_lt hxl (by decide : 8 < 19) (hfs 8 _ rfl)
  obtain ⟨x8, h8, _, w8⟩ := DataW.trod_int Try.underlying3 (show DataW.trod enc Try.prog w base spare held m 3 [c8] = some y8 by simpa [Value.cells, k3, k9] using q8)
  obtain ⟨y9, q9⟩ := some_of_lt hxl (by decide : 9 < 19) (hfs 9 _ rfl)
  obtain ⟨x9, h9, _, w9⟩ := DataW.trod_string Try.underlying9 (show DataW.trod enc Try.prog w base spare held m 9 [c9] = some y9 by simpa [Value.cells, k3, k9] using q9)
  obtain ⟨y10, q10⟩ := some_of_lt hxl (by decide : 10 < 19) (hfs 10 _ rfl)
  obtain ⟨x10, h10, _, w10⟩ := DataW.trod_string Try.underlying9 (show DataW.trod enc Try.prog w base spare held m 9 [c10] = some y10 by simpa [Value.cells, k3, k9] using q10)
  obtain ⟨y11, q11⟩ := some_of_lt hxl (by decide : 11 < 19) (hfs 11 _ rfl)
  obtain ⟨x11, h11, _, w11⟩ := DataW.trod_string Try.underlying9 (show DataW.trod enc Try.prog w base spare held m 9 [c11] = some y11 by simpa [Value.cells, k3, k9] using q11)
  obtain ⟨y12, q12⟩ := some_of_lt hxl (by decide : 12 < 19) (hfs 12 _ rfl)
  obtain ⟨x12, h12, _, w12⟩ := DataW.trod_string Try.underlying9 (show DataW.trod enc Try.prog w base spare held m 9 [c12] = some y12 by simpa [Value.cells, k3, k9] using q12)
  obtain ⟨y13, q13⟩ := some_of_lt hxl (by decide : 13 < 19) (hfs 13 _ rfl)
  obtain ⟨x13, h13, _, w13⟩ := DataW.trod_string Try.underlying9 (show DataW.trod enc Try.prog w base spare held m 9 [c13] = some y13 by simpa [Value.cells, k3, k9] using q13)
  obtain ⟨y14, q14⟩ := some_of_lt hxl (by decide : 14 < 19) (hfs 14 _ rfl)
  obtain ⟨x14, h14, _, w14⟩ := DataW.trod_string Try.underlying9 (show DataW.trod enc Try.prog w base spare held m 9 [c14] = some y14 by simpa [Value.cells, k3, k9] using q14)
  simp only [List.cons.injEq, and_true] at h0 h1 h2 h3 h4 h5 h6 h7 h8 h9 h10 h11 h12 h13 h14
  subst h0 h1 h2 h3 h4 h5 h6 h7 h8 h9 h10 h11 h12 h13 h14
  unfold maxLen at w3 w5 w6 w9 w10 w11 w12 w13 w14
  exact ⟨#[.int .i64 x0, .int .i64 x1, .int .i64 x2, .string x3, .int .i64 x4, .string x5, .string x6, .int .i64 x7, .int .i64 x8, .string x9, .string x10, .string x11, .string x12, .string x13, .string x14, c15, c16, c17, c18, c19, c20, c21, c22, c23], x0, x1, x7, x8, x10, x11, x12, x14, rfl, ⟨rfl, rfl, rfl, rfl, rfl, rfl, rfl, rfl, rfl⟩, ⟨w0, w1, w7, w8⟩, w10, w11, w12, w14⟩
end
end Go.Proofs.Ytkopmhmbldohdab

/- The small calls of package conf (rounds, length, hold) return what they say, by numbers that wrap round, and make at most new memory; no conditions. -/
namespace Go.Proofs.Ytkopmhmbldohdab
open Go.ChangeShapes Go.WideShapes Go.ChangeAt Go.RowKit
set_option linter.unusedVariables false
attribute [local go_sem] cell_rg

theorem cRounds_any (n f d p r dr o sl md fr : Int) (ad : Option Addr) (cap : Nat) (zs : List Int) (w : World) :
    Calls Try.prog 46 #[.agg #[.int .i64 n, .int .i64 f, .int .i64 d, .int .i64 p, .int .i64 r, .int .i64 dr, .int .i64 o, .int .i64 sl, .int .i64 md, .int .i64 fr, .slice ad zs.length cap]] w fun e w' => e = .returned (.int .i64 (roundsW f)) ∧ Below w.heap.size w w' := by
  go_enter Try.func46, Try.ntmps46
  go_wp2
  go_ret
  exact ⟨rfl, ballc _ _⟩

theorem cLength_any (n f d p r dr o sl md fr : Int) (ad : Option Addr) (cap : Nat) (zs : List Int) (w : World) :
    Calls Try.prog 39 #[.agg #[.int .i64 n, .int .i64 f, .int .i64 d, .int .i64 p, .int .i64 r, .int .i64 dr, .int .i64 o, .int .i64 sl, .int .i64 md, .int .i64 fr, .slice ad zs.length cap]] w fun e w' => e = .returned (.int .i64 (lengthW f d)) ∧ Below w.heap.size w w' := by
  go_enter Try.func39, Try.ntmps39
  go_wp2
  refine wp_region_quiet_below (by kernel_rfl) (by kernel_rfl) ?_
  repeat (first | (go_big_quiet_step (exact Calls.regrown_of (cRounds_any _ _ _ _ _ _ _ _ _ _ _ _ _ _))) | quiet_step (exact Calls.regrown_of (cRounds_any _ _ _ _ _ _ _ _ _ _ _ _ _ _)))
  refine wpQuiet_nil ?_
  intro _ hw'
  have hb1 := rg_below hw'
  clear hw'
  go_wp2
  go_ret
  exact ⟨rfl, bthen (ballc _ _) hb1⟩

theorem hold_any (a b x : Int) (w : World) :
    Calls Try.prog 33 #[.agg #[.int .i64 a, .int .i64 b], .int .i64 x] w fun e w' => e = .returned (.bool (decide (a ≤ x ∧ x ≤ b))) ∧ Below w.heap.size w w' := by
  by_cases h1 : a ≤ x
  · by_cases h2 : x ≤ b
    all_goals
      go_enter Try.func33, Try.ntmps33
      go_wp2
      go_ret
      exact ⟨ret_b (by simp [h1, h2]), ballc _ _⟩
  · have h1' : decide (a ≤ x) = false := by simp [h1]
    go_enter Try.func33, Try.ntmps33
    go_wp2
    go_ret
    exact ⟨ret_b (by simp), ballc _ _⟩
end Go.Proofs.Ytkopmhmbldohdab
