/- Several texts of one's own in one: what each proves, and its conditions, is said ahead of it. -/
import Derived.Test.YtgclabboafdheabRows
import Derived.WalkKit
import Derived.ProofKit
import Derived.OpenShut
import Derived.ShutString
import Derived.WalkLawsBesides
import Derived.Lib.QuietBelow
import Derived.BigQuiet
import Derived.Lib.SmallJoins
import Derived.Deep.RegionHeld3
import Derived.Deep.DrawnRows
import Derived.Laws.OwnMore
import Derived.Laws.AppendOwnNone
import Derived.Maps.AppendAt
import Derived.OwnWalkIn
import Derived.Deep.Slices
import Derived.ChangeSame
import Derived.Deep.OwnRows
import Derived.Laws.CopyRow

/- Plain words on worlds that grow: what lay there stays, and the box of a call's own; no conditions. -/
namespace Go.Proofs.Ytgclabboafdheab
open Go.ChangeShapes Go.WideShapes Go.ChangeAt Go.RowKit
set_option linter.unusedVariables false

/-- An integer of a value. -/
def intV : Value → Int | .int _ q => q | _ => 0
theorem bd64 {x : Int} (h : (Lit.int .i64 x).wf = true) : -9223372036854775808 ≤ x ∧ x ≤ 9223372036854775807 := by
  have := bounds_i64 h
  omega
theorem ret_i {a b : Int} (h : a = b) : Ending.returned (.int .i64 a) = .returned (.int .i64 b) := by rw [h]
theorem ret_b {a b : Bool} (h : a = b) : Ending.returned (.bool a) = .returned (.bool b) := by rw [h]
/-- Below from a world that has grown behind another one. -/
theorem bthen {w w1 w2 : World} (h : Below w.heap.size w w1) (k : Below w1.heap.size w1 w2) : Below w.heap.size w w2 :=
  h.trans (k.mono h.size)
theorem ballc (w : World) (ob : Obj) : Below w.heap.size w (w.alloc ob) := (Below.refl _ _).alloc (Nat.le_refl _) _
/-- A region's world, grown by calls: what lay there reads as it did. -/
theorem cell_rg (w : World) (dq : Nat) (os : Array Obj) (a : Addr) (h : a.block < w.heap.size) : (Sort.grow (redrawn w dq) os).cell? a = w.cell? a := (below_regrown w dq os).cell h
theorem rg_below {W w' : World} (h : ∃ q : Regrown, w' = Sort.grow (redrawn W q.d) q.os) : Below W.heap.size W w' := by
  obtain ⟨⟨dq, os⟩, rfl⟩ := h
  exact below_regrown W dq os
/-- A box of the call's own, in a later world. -/
theorem box_at {w wl : World} {C : Array Value} {t : TypeId} (hb : Below (w.alloc (.cells C t)).heap.size (w.alloc (.cells C t)) wl) : (∀ i, wl.cell? ⟨w.heap.size, i, none⟩ = C[i]?) ∧ w.heap.size < wl.heap.size := by
  have hs := hb.size
  simp at hs
  refine ⟨fun i => ?_, by omega⟩
  rw [hb.cell (p := ⟨w.heap.size, i, none⟩) (by simp)]
  exact World.cell?_alloc_mark w C t _ i
theorem Calls.to_below {P : Program} {F : FuncId} {args : Array Value} {w : World} {v : Value} (h : Calls P F args w fun e w' => e = .returned v ∧ w = w') : Calls P F args w fun e w' => e = .returned v ∧ Below w.heap.size w w' :=
  h.mono fun _ _ ⟨he, hw⟩ => ⟨he, by rw [← hw]; exact Below.refl _ _⟩
theorem hidden {q : Prop} (h : q) : Hid q := h
theorem Hid.out {q : Prop} (h : Hid q) : q := h
end Go.Proofs.Ytgclabboafdheab

/- Plain words on configurations: what lies in a table, what stays when memory grows, and the numbers that the rules of a configuration ask for; no conditions. -/
namespace Go.Proofs.Ytgclabboafdheab
open Go.ChangeShapes Go.WideShapes Go.ChangeAt Go.RowKit
set_option linter.unusedVariables false

theorem bcell {W w1 : World} (hb : Below W.heap.size W w1) : (∀ b i, b < W.heap.size → w1.cell? ⟨b, i, none⟩ = W.cell? ⟨b, i, none⟩) ∧ (∀ b i, b < W.heap.size → w1.frozen? ⟨b, i, none⟩ = W.frozen? ⟨b, i, none⟩) :=
  ⟨fun b i h => hb.cell (p := ⟨b, i, none⟩) h, fun b i h => hb.frozen (p := ⟨b, i, none⟩) h⟩

/-- A table's numbers lie behind its address. -/
def Tab (w : World) (ad : Option Addr) (zs : List Int) : Prop := ∀ i, i < zs.length → ∃ a : Addr, ad = some a ∧ w.cell? (a.add i) = some (.int .i64 (zs.getD i 0))
theorem Tab.below {w w' : World} {ad : Option Addr} {zs : List Int} (h : Tab w ad zs) (hb : Below w.heap.size w w') : Tab w' ad zs := by
  intro i hi
  obtain ⟨a, ha, hc⟩ := h i hi
  exact ⟨a, ha, by rw [hb.cell (block_lt_of_cell hc)]; exact hc⟩
theorem Tab.at {w : World} {a : Addr} {zs : List Int} (h : Tab w (some a) zs) (i : Nat) (hi : i < zs.length) : w.cell? (a.add i) = some (.int .i64 (zs.getD i 0)) := by
  obtain ⟨a', ha, hc⟩ := h i hi
  cases ha
  exact hc


/-- A table's cell, where it lies, and that it lies there. -/
theorem Tab.lies {w : World} {ad : Option Addr} {zs : List Int} (h : Tab w ad zs) (i : Nat) (hi : i < zs.length) : ∃ a : Addr, ad = some a ∧ w.cell? (a.add i) = some (.int .i64 (zs.getD i 0)) ∧ (a.add i).block < w.heap.size := by
  obtain ⟨a, ha, hc⟩ := h i hi
  exact ⟨a, ha, hc, block_lt_of_cell hc⟩
theorem Calls.to_belowR {P : Program} {F : FuncId} {args : Array Value} {w : World} {v : Value} (h : Calls P F args w fun e w' => e = .returned v ∧ w' = w) : Calls P F args w fun e w' => e = .returned v ∧ Below w.heap.size w w' :=
  h.mono fun _ _ ⟨he, hw⟩ => ⟨he, by rw [hw]; exact Below.refl _ _⟩

def roundsW (f : Int) : Int := wrap64 (3 * wrap64 (f + 1))
def lengthW (f d : Int) : Int := wrap64 (roundsW f * d)
theorem roundsW_eq {f : Int} (h1 : 0 ≤ f) (h2 : f ≤ 4) : roundsW f = 3 * (f + 1) := by
  unfold roundsW wrap64; omega
theorem lengthW_eq {f d : Int} (h1 : 0 ≤ f) (h2 : f ≤ 4) (h3 : 1 ≤ d) (h4 : d ≤ 4) : lengthW f d = 3 * (f + 1) * d := by
  have hp : 0 ≤ (3 * (f + 1)) * d := Int.mul_nonneg (by omega) (by omega)
  have hq : (3 * (f + 1)) * d ≤ 15 * 4 := Int.mul_le_mul (by omega) h4 (by omega) (by omega)
  unfold lengthW
  rw [roundsW_eq h1 h2]
  unfold wrap64; omega
end Go.Proofs.Ytgclabboafdheab

/- A configuration that came in as an argument, opened: ten numbers, and a table that lies behind its address; no conditions. -/
namespace Go.Proofs.Ytgclabboafdheab
open Go.ChangeShapes Go.WideShapes Go.ChangeAt Go.RowKit
set_option linter.unusedVariables false

theorem array11 {α : Type} {cs : Array α} (h : cs.size = 11) : ∃ c0 c1 c2 c3 c4 c5 c6 c7 c8 c9 c10, cs = #[c0, c1, c2, c3, c4, c5, c6, c7, c8, c9, c10] := by
  obtain ⟨l⟩ := cs
  match l, h with
  | [c0, c1, c2, c3, c4, c5, c6, c7, c8, c9, c10], _ => exact ⟨c0, c1, c2, c3, c4, c5, c6, c7, c8, c9, c10, rfl⟩
theorem some_of_lt {α : Type} {xs : List α} {i m : Nat} {x : Option α} (h : xs.length = m) (hi : i < m) (e : x = xs[i]?) : ∃ y, x = some y := by
  subst h
  exact ⟨_, by rw [e, List.getElem?_eq_getElem hi]⟩

section
variable {H : Type} {enc : TypeId × Value → H} {w : World} {base : Nat} {spare : Nat → Bool} {held : Bool}
set_option maxRecDepth 100000 in
/-- A row of numbers that came in: where its cells lie. -/
theorem open_row {fuel : Nat} {c : Value} {x : DataW H × List MemPlace} (h : DataW.trod enc Try.prog w base spare held fuel 22 [c] = some x) :
    ∃ (ad : Option Addr) (cap : Nat) (zs : List Int), c = .slice ad zs.length cap ∧ zs.length ≤ 9223372036854775807 ∧ Tab w ad zs ∧ (∀ z ∈ zs, (Lit.int .i64 z).wf = true) := by
  rcases open_ints Try.underlying22 Try.underlying3 (by kernel_rfl) h with ⟨hcs, _⟩ | ⟨a, len, cap, zs, hcs, _, hl, hm, hz, _, hcell, hw⟩
  · exact ⟨none, 0, [], by simpa using hcs, by simp, fun i hi => absurd hi (Nat.not_lt_zero _), fun z hz => by cases hz⟩
  · unfold maxLen at hm
    have hle : len ≤ zs.length := by rw [hz]; split <;> omega
    have hlen : (zs.take len).length = len := by rw [List.length_take]; omega
    refine ⟨some a, cap, zs.take len, ?_, by omega, ?_, fun z hz => hw z (List.mem_of_mem_take hz)⟩
    · rw [hlen]; simpa using hcs
    · intro i hi
      rw [hlen] at hi
      refine ⟨a, rfl, ?_⟩
      rw [hcell i (by omega)]
      simp [List.getD_eq_getElem?_getD, hi]
set_option maxRecDepth 100000 in
theorem open_row_arg {r : Reach} {b0 : Nat} {v : Value} {dt : DataW H} {ps : List MemPlace} (hv : Value.okWide Try.prog w r b0 22 v) (h : DataW.Trod enc Try.prog w base spare held 22 v dt ps) :
    ∃ (ad : Option Addr) (cap : Nat) (zs : List Int), v = .slice ad zs.length cap ∧ zs.length ≤ 9223372036854775807 ∧ Tab w ad zs ∧ (∀ z ∈ zs, (Lit.int .i64 z).wf = true) := by
  obtain ⟨x, y, c, rfl⟩ := okWide_slice Try.underlying22 hv
  obtain ⟨fu, hf⟩ := h
  exact open_row (by simpa [Value.cells] using hf)
set_option maxRecDepth 100000 in
theorem open_conf {r : Reach} {b0 : Nat} {v : Value} {dt : DataW H} {ps : List MemPlace} (hv : Value.okWide Try.prog w r b0 24 v) (h : DataW.Trod enc Try.prog w base spare held 24 v dt ps) :
    ∃ (n f d p r dr o sl md fr : Int) (ad : Option Addr) (cap : Nat) (zs : List Int), v = .agg #[.int .i64 n, .int .i64 f, .int .i64 d, .int .i64 p, .int .i64 r, .int .i64 dr, .int .i64 o, .int .i64 sl, .int .i64 md, .int .i64 fr, .slice ad zs.length cap] ∧ zs.length ≤ 9223372036854775807 ∧ Tab w ad zs := by
  have hs := Try.underlying24
  obtain ⟨cs, rfl, hsz⟩ := okWide_struct hs hv
  obtain ⟨c0, c1, c2, c3, c4, c5, c6, c7, c8, c9, c10, rfl⟩ := array11 (hsz.trans (by kernel_rfl))
  obtain ⟨fuel, hf⟩ := h
  obtain ⟨xs, m, _, _, _, hxl, hfs⟩ := DataW.trod_struct hs hf
  have k3 : Try.prog.cellsOf 3 = 1 := by kernel_rfl
  have k22 : Try.prog.cellsOf 22 = 1 := by kernel_rfl
  obtain ⟨y0, q0⟩ := some_of_lt hxl (by decide : 0 < 11) (hfs 0 _ rfl)
  have z0 : DataW.trod enc Try.prog w base spare held m 3 [c0] = some y0 := by simpa [Value.cells, k3] using q0
  obtain ⟨x0, h0, _⟩ := DataW.trod_int Try.underlying3 z0
  simp only [List.cons.injEq, and_true] at h0
  subst h0
  obtain ⟨y1, q1⟩ := some_of_lt hxl (by decide : 1 < 11) (hfs 1 _ rfl)
  have z1 : DataW.trod enc Try.prog w base spare held m 3 [c1] = some y1 := by simpa [Value.cells, k3] using q1
  obtain ⟨x1, h1, _⟩ := DataW.trod_int Try.underlying3 z1
  simp only [List.cons.injEq, and_true] at h1
  subst h1
  obtain ⟨y2, q2⟩ := some_of_lt hxl (by decide : 2 < 11) (hfs 2 _ rfl)
  have z2 : DataW.trod enc Try.prog w base spare held m 3 [c2] = some y2 := by simpa [Value.cells, k3] using q2
  obtain ⟨x2, h2, _⟩ := DataW.trod_int Try.underlying3 z2
  simp only [List.cons.injEq, and_true] at h2
  subst h2
  obtain ⟨y3, q3⟩ := some_of_lt hxl (by decide : 3 < 11) (hfs 3 _ rfl)
  have z3 : DataW.trod enc Try.prog w base spare held m 3 [c3] = some y3 := by simpa [Value.cells, k3] using q3
  obtain ⟨x3, h3, _⟩ := DataW.trod_int Try.underlying3 z3
  simp only [List.cons.injEq, and_true] at h3
  subst h3
  obtain ⟨y4, q4⟩ := some_of_lt hxl (by decide : 4 < 11) (hfs 4 _ rfl)
  have z4 : DataW.trod enc Try.prog w base spare held m 3 [c4] = some y4 := by simpa [Value.cells, k3] using q4
  obtain ⟨x4, h4, _⟩ := DataW.trod_int Try.underlying3 z4
  simp only [List.cons.injEq, and_true] at h4
  subst h4
  obtain ⟨y5, q5⟩ := some_of_lt hxl (by decide : 5 < 11) (hfs 5 _ rfl)
  have z5 : DataW.trod enc Try.prog w base spare held m 3 [c5] = some y5 := by simpa [Value.cells, k3] using q5
  obtain ⟨x5, h5, _⟩ := DataW.trod_int Try.underlying3 z5
  simp only [List.cons.injEq, and_true] at h5
  subst h5
  obtain ⟨y6, q6⟩ := some_of_lt hxl (by decide : 6 < 11) (hfs 6 _ rfl)
  have z6 : DataW.trod enc Try.prog w base spare held m 3 [c6] = some y6 := by simpa [Value.cells, k3] using q6
  obtain ⟨x6, h6, _⟩ := DataW.trod_int Try.underlying3 z6
  simp only [List.cons.injEq, and_true] at h6
  subst h6
  obtain ⟨y7, q7⟩ := some_of_lt hxl (by decide : 7 < 11) (hfs 7 _ rfl)
  have z7 : DataW.trod enc Try.prog w base spare held m 3 [c7] = some y7 := by simpa [Value.cells, k3] using q7
  obtain ⟨x7, h7, _⟩ := DataW.trod_int Try.underlying3 z7
  simp only [List.cons.injEq, and_true] at h7
  subst h7
  obtain ⟨y8, q8⟩ := some_of_lt hxl (by decide : 8 < 11) (hfs 8 _ rfl)
  have z8 : DataW.trod enc Try.prog w base spare held m 3 [c8] = some y8 := by simpa [Value.cells, k3] using q8
  obtain ⟨x8, h8, _⟩ := DataW.trod_int Try.underlying3 z8
  simp only [List.cons.injEq, and_true] at h8
  subst h8
  obtain ⟨y9, q9⟩ := some_of_lt hxl (by decide : 9 < 11) (hfs 9 _ rfl)
  have z9 : DataW.trod enc Try.prog w base spare held m 3 [c9] = some y9 := by simpa [Value.cells, k3] using q9
  obtain ⟨x9, h9, _⟩ := DataW.trod_int Try.underlying3 z9
  simp only [List.cons.injEq, and_true] at h9
  subst h9
  obtain ⟨y10, q10⟩ := some_of_lt hxl (by decide : 10 < 11) (hfs 10 _ rfl)
  have z10 : DataW.trod enc Try.prog w base spare held m 22 [c10] = some y10 := by simpa [Value.cells, k22] using q10
  obtain ⟨ad, cap, zs, h10, hl, hT, _⟩ := open_row z10
  subst h10
  exact ⟨x0, x1, x2, x3, x4, x5, x6, x7, x8, x9, ad, cap, zs, rfl, hl, hT⟩
end
end Go.Proofs.Ytgclabboafdheab

/- Plain words on rows in memory, whatever their elements are: where they lie, their cells, what is cut off, what is appended; no conditions. -/
namespace Go.Proofs.Ytgclabboafdheab
open Go.ChangeShapes Go.WideShapes Go.ChangeAt Go.RowKit
set_option linter.unusedVariables false

/-- A kind of elements: how many cells one has, and which. -/
structure Kind (α : Type) where
  k : Nat
  enc : α → List Value
  len : ∀ a, (enc a).length = k
  one : ∀ a, ∀ u ∈ enc a, u.oneCell' = true
  pos : 0 < k
namespace Kind
variable {α : Type} (K : Kind α)
def flat (es : List α) : List Value := es.flatMap K.enc
theorem flat_length (es : List α) : (K.flat es).length = es.length * K.k := by
  induction es with
  | nil => simp [flat]
  | cons a l ih => simp only [flat, List.flatMap_cons, List.length_append, K.len, List.length_cons] at ih ⊢; rw [ih, Nat.add_mul]; omega
theorem flat_append (es fs : List α) : K.flat (es ++ fs) = K.flat es ++ K.flat fs := by simp [flat]
theorem flat_one (es : List α) : ∀ u ∈ K.flat es, u.oneCell' = true := by
  intro u hu
  simp only [flat, List.mem_flatMap] at hu
  obtain ⟨e, _, hu⟩ := hu
  exact K.one e u hu
theorem flat_drop (es : List α) (n : Nat) (hn : n ≤ es.length) : K.flat (es.drop n) = (K.flat es).drop (n * K.k) := by
  have h : K.flat es = K.flat (es.take n) ++ K.flat (es.drop n) := by rw [← flat_append, List.take_append_drop]
  have hl : (K.flat (es.take n)).length = n * K.k := by rw [flat_length, List.length_take, Nat.min_eq_left hn]
  rw [h, ← hl, List.drop_left]
theorem flat_take (es : List α) (n : Nat) (hn : n ≤ es.length) : K.flat (es.take n) = (K.flat es).take (n * K.k) := by
  have h : K.flat es = K.flat (es.take n) ++ K.flat (es.drop n) := by rw [← flat_append, List.take_append_drop]
  have hl : (K.flat (es.take n)).length = n * K.k := by rw [flat_length, List.length_take, Nat.min_eq_left hn]
  rw [h, ← hl, List.take_left]
theorem flat_get (es : List α) (j : Nat) (hj : j < es.length) (i : Nat) (hi : i < K.k) : (K.flat es)[j * K.k + i]? = (K.enc es[j])[i]? := by
  have h1 := K.flat_drop es j (by omega)
  have h2 : (K.flat (es.drop j))[i]? = (K.enc es[j])[i]? := by
    rw [List.drop_eq_getElem_cons hj]
    simp only [flat, List.flatMap_cons]
    rw [List.getElem?_append_left (by rw [K.len]; exact hi)]
  rw [← h2, h1, List.getElem?_drop]

/-- A row lies in memory, below a bound. -/
def Lies (n₀ : Nat) (W : World) (sv : Value) (es : List α) : Prop :=
  ∃ (ad : Option Addr) (cap : Nat), sv = .slice ad es.length cap ∧ es.length ≤ cap ∧ cap ≤ maxLen ∧ (ad = none → cap = 0) ∧
    (0 < es.length → ∃ b off : Nat, ad = some ⟨b, off, none⟩ ∧ b < n₀ ∧ ∀ j u, (K.flat es)[j]? = some u → W.cell? ⟨b, off + j, none⟩ = some u)
variable {K}
theorem Lies.below {n₀ : Nat} {A B : World} {sv : Value} {es : List α} (h : K.Lies n₀ A sv es) (hb : Below n₀ A B) : K.Lies n₀ B sv es := by
  obtain ⟨ad, cap, e, h1, h2, h3, hc⟩ := h
  refine ⟨ad, cap, e, h1, h2, h3, fun hj => ?_⟩
  obtain ⟨b, off, ea, hbl, c⟩ := hc hj
  exact ⟨b, off, ea, hbl, fun j u hu => (hb.cell (p := ⟨b, off + j, none⟩) hbl).trans (c j u hu)⟩
theorem Lies.mono {n₀ n₁ : Nat} {W : World} {sv : Value} {es : List α} (h : K.Lies n₀ W sv es) (hn : n₀ ≤ n₁) : K.Lies n₁ W sv es := by
  obtain ⟨ad, cap, e, h1, h2, h3, hc⟩ := h
  refine ⟨ad, cap, e, h1, h2, h3, fun hj => ?_⟩
  obtain ⟨b, off, ea, hbl, c⟩ := hc hj
  exact ⟨b, off, ea, by omega, c⟩
theorem Lies.later {A B : World} {sv : Value} {es : List α} (h : K.Lies A.heap.size A sv es) (hb : Below A.heap.size A B) : K.Lies B.heap.size B sv es := (h.below hb).mono hb.size
theorem Lies.nil (n₀ : Nat) (W : World) : K.Lies n₀ W (.slice none 0 0) [] := ⟨none, 0, rfl, Nat.le_refl _, Nat.zero_le _, fun _ => rfl, fun hj => absurd hj (Nat.not_lt_zero _)⟩
theorem Lies.of_own {W : World} {base : Nat} {e : TypeId} {v : Value} {es : List α} (h : W.ownsRow base e K.k v es.length (K.flat es)) : K.Lies W.heap.size W v es := by
  obtain ⟨_, ⟨rfl, h0⟩ | ⟨g, cap, cur, rfl, hb, hg, h1, h2, h3, h4⟩⟩ := h
  · have : es = [] := List.length_eq_zero_iff.1 h0
    subst this
    exact Lies.nil _ _
  · refine ⟨_, cap, rfl, h1, h2, fun h => (by cases h), fun hj => ?_⟩
    have hlt : g < W.heap.size := (Array.getElem?_eq_some_iff.1 hg).1
    refine ⟨g, 0, rfl, hlt, fun j u hu => ?_⟩
    rw [← h4, List.getElem?_take] at hu
    split at hu
    · simpa [World.cell?, hg] using hu
    · cases hu
theorem Lies.drop {n₀ : Nat} {W : World} {b off len cap : Nat} {es : List α} (h : K.Lies n₀ W (.slice (some ⟨b, off, none⟩) len cap) es) (n : Nat) (hn : n ≤ es.length) : K.Lies n₀ W (.slice (some ⟨b, off + n * K.k, none⟩) (len - n) (cap - n)) (es.drop n) := by
  obtain ⟨ad, c, hv, h1, h2, h3, hc⟩ := h
  obtain ⟨rfl, rfl, rfl⟩ : some _ = ad ∧ len = _ ∧ cap = _ := by simpa using hv
  refine ⟨some ⟨b, off + n * K.k, none⟩, cap - n, by rw [List.length_drop], by rw [List.length_drop]; omega, by omega, fun h => (by cases h), fun hj => ?_⟩
  obtain ⟨b', off', he, hb, c⟩ := hc (by simp at hj; omega)
  cases he
  refine ⟨_, _, rfl, hb, fun j u hu => ?_⟩
  rw [K.flat_drop es n hn, List.getElem?_drop] at hu
  rw [Nat.add_assoc]
  exact c _ _ hu
theorem Lies.take {n₀ : Nat} {W : World} {ad : Option Addr} {len cap : Nat} {es : List α} (h : K.Lies n₀ W (.slice ad len cap) es) (n : Nat) (hn : n ≤ es.length) : K.Lies n₀ W (.slice ad n cap) (es.take n) := by
  obtain ⟨ad', c, hv, h1, h2, h3, hc⟩ := h
  obtain ⟨rfl, rfl, rfl⟩ : ad = ad' ∧ len = _ ∧ cap = _ := by simpa using hv
  have el : (es.take n).length = n := by rw [List.length_take]; omega
  refine ⟨ad, cap, by rw [el], by omega, h2, h3, fun hj => ?_⟩
  obtain ⟨b', off', he, hb, c⟩ := hc (by omega)
  refine ⟨b', off', he, hb, fun j u hu => ?_⟩
  rw [K.flat_take es n hn, List.getElem?_take] at hu
  split at hu
  · exact c _ _ hu
  · cases hu
theorem Lies.of_block {W : World} {g : Nat} {es : List α} {t : TypeId} (h : W.heap[g]? = some (.cells (K.flat es).toArray t (0, 0))) (hl : es.length ≤ maxLen) : K.Lies W.heap.size W (.slice (some ⟨g, 0, none⟩) es.length es.length) es := by
  refine ⟨_, _, rfl, Nat.le_refl _, hl, fun h => (by cases h), fun hj => ?_⟩
  refine ⟨g, 0, rfl, (Array.getElem?_eq_some_iff.1 h).1, fun j u hu => ?_⟩
  simpa [World.cell?, h] using hu
/-- What is read of a row is its cells. -/
theorem Lies.cells {n₀ : Nat} {W : World} {b off len cap : Nat} {es : List α} (h : K.Lies n₀ W (.slice (some ⟨b, off, none⟩) len cap) es) : ∀ j u, (K.flat es)[j]? = some u → W.cell? ((⟨b, off, none⟩ : Addr).add j) = some u := by
  obtain ⟨ad, c, hv, h1, h2, h3, hc⟩ := h
  obtain ⟨rfl, rfl, rfl⟩ : some _ = ad ∧ len = _ ∧ cap = _ := by simpa using hv
  intro j u hu
  by_cases h0 : 0 < es.length
  · obtain ⟨b', off', he, hb, c⟩ := hc h0
    cases he
    rw [add_plain]
    exact c j u hu
  · have : es = [] := List.length_eq_zero_iff.1 (by omega)
    subst this
    simp [flat] at hu
/-- The cells of one element of a row. -/
theorem Lies.at {n₀ : Nat} {W : World} {ad : Option Addr} {len cap : Nat} {es : List α} (h : K.Lies n₀ W (.slice ad len cap) es) (j : Nat) (hj : j < es.length) : ∃ b off : Nat, ad = some ⟨b, off, none⟩ ∧ b < n₀ ∧ ∀ i, i < K.k → W.cell? ⟨b, off + j * K.k + i, none⟩ = (K.enc es[j])[i]? := by
  obtain ⟨ad', c, hv, h1, h2, h3, hc⟩ := h
  obtain ⟨rfl, rfl, rfl⟩ : ad = ad' ∧ len = _ ∧ cap = _ := by simpa using hv
  obtain ⟨b, off, he, hb, c⟩ := hc (by omega)
  refine ⟨b, off, he, hb, fun i hi => ?_⟩
  have h1 := K.flat_get es j hj i hi
  have hlt : i < (K.enc es[j]).length := by rw [K.len]; exact hi
  obtain ⟨u, hu⟩ : ∃ u, (K.enc es[j])[i]? = some u := ⟨_, List.getElem?_eq_getElem hlt⟩
  rw [hu] at h1
  rw [hu, Nat.add_assoc]
  exact c _ _ h1
theorem Lies.len {n₀ : Nat} {W : World} {ad : Option Addr} {len cap : Nat} {es : List α} (h : K.Lies n₀ W (.slice ad len cap) es) : len = es.length := by
  obtain ⟨_, _, hv, _⟩ := h
  simp at hv
  exact hv.2.1
variable (K)
/-- A row is appended to a row of one's own. -/
theorem run_append {P : Program} (w : World) (base : Nat) (t ty e : TypeId) (i : TypeInfo) (z : Value) (bytes : Nat) (ht : P.underlying t = some (.slice e)) (hi : P.info? e = some i) (hz : i.zero = some z)
    (hsize : i.size = K.k) (hby : i.bytes = bytes) (hzs : z.cells.size = K.k) (v : Value) (n : Nat) (xs : List Value) (hown : w.ownsRow base e K.k v n xs) {n₀ : Nat} (sv : Value) (es : List α) (hE : K.Lies n₀ w sv es)
    (h63 : n + es.length ≤ maxLen) (hbytes : (n + es.length) * bytes ≤ 140737488355328) (hbase : base ≤ w.heap.size) :
    ∃ v' w', (Builtin.append_ #[t, t] ty #[v, sv]).run P w = .ok v' w' ∧ w'.ownsRow base e K.k v' (n + es.length) (xs ++ K.flat es) ∧ w.grownBy w' v.ownBlock ∧ (v'.ownBlock = v.ownBlock ∨ v'.ownBlock = some w.heap.size) := by
  obtain ⟨ad, c, rfl, h1, h2, h3, hc⟩ := id hE
  by_cases h0 : es.length = 0
  · have : es = [] := List.length_eq_zero_iff.1 h0
    subst this
    cases ad with
    | none =>
      obtain rfl := h3 rfl
      exact ⟨v, w, run_append_owned_none w base t ty e i K.k ht hi v n xs hown, by simpa [flat] using hown, ⟨rfl, rfl, rfl, Nat.le_refl _, fun _ _ _ => rfl⟩, .inl rfl⟩
    | some a =>
      obtain ⟨v', w', r1, r2, r3, _, r5⟩ := run_append_own_at (P := P) w base t ty e i z K.k bytes ht hi hz hsize hby hzs K.pos v n xs hown a 0 c [] (by simp) (by simp) (by simp) h63 hbytes hbase
      exact ⟨v', w', r1, by simpa [flat] using r2, r3, r5⟩
  · obtain ⟨b, off, rfl, _⟩ := hc (by omega)
    obtain ⟨v', w', r1, r2, r3, _, r5⟩ := run_append_own_at (P := P) w base t ty e i z K.k bytes ht hi hz hsize hby hzs K.pos v n xs hown ⟨b, off, none⟩ es.length c (K.flat es) (K.flat_length es) hE.cells (K.flat_one es) h63 hbytes hbase
    exact ⟨v', w', r1, r2, r3, r5⟩
theorem wpList_append {P : Program} (w : World) {ops : Array Oper} {rest : List Oper} {o : Oper} {a : Act} {Q : Exit → Act → World → Prop} (hgd : o.guard = none) (s x : Operand) (t : TypeId)
    (ho : o.op = .call { callee := .builtin .append, args := #[s, x], argTypes := #[t, t] })
    (base : Nat) (e : TypeId) (i : TypeInfo) (z : Value) (bytes : Nat) (ht : P.underlying t = some (.slice e)) (hi : P.info? e = some i) (hz : i.zero = some z)
    (hsize : i.size = K.k) (hby : i.bytes = bytes) (hzs : z.cells.size = K.k) (v : Value) (n : Nat) (xs : List Value) (hs : a.eval s = v) (hown : w.ownsRow base e K.k v n xs) {n₀ : Nat} (sv : Value) (es : List α) (hx : a.eval x = sv) (hE : K.Lies n₀ w sv es)
    (h63 : n + es.length ≤ maxLen) (hbytes : (n + es.length) * bytes ≤ 140737488355328) (hbase : base ≤ w.heap.size)
    (hK : ∀ v' w', w'.ownsRow base e K.k v' (n + es.length) (xs ++ K.flat es) → w.grownBy w' v.ownBlock → (v'.ownBlock = v.ownBlock ∨ v'.ownBlock = some w.heap.size) → wpList P ops Q rest (a.put o.dst v') w') : wpList P ops Q (o :: rest) a w := by
  obtain ⟨v', w', hrun, r1, r2, r3⟩ := K.run_append (P := P) w base t o.type e i z bytes ht hi hz hsize hby hzs v n xs hown sv es hE h63 hbytes hbase
  refine wpList_plain hgd fun K hK' => ?_
  unfold Oper.wp
  simp [execOp, ho, resolve, invoke, builtin, hs, hx, hrun, Result.andThen]
  exact hK' _ _ (hK v' w' r1 r2 r3)
end Kind

theorem own_below {A B : World} {base : Nat} {e : TypeId} {size : Nat} {v : Value} {n : Nat} {xs : List Value} (h : A.ownsRow base e size v n xs) (hb : Below A.heap.size A B) : B.ownsRow base e size v n xs := by
  refine ⟨h.1, ?_⟩
  rcases h.2 with h | ⟨g, cap, cur, hv, h1, h2, h3⟩
  · exact .inl h
  · exact .inr ⟨g, cap, cur, hv, h1, (hb.block g (Array.getElem?_eq_some_iff.1 h2).1).trans h2, h3⟩
theorem own_low {W : World} {base b2 : Nat} {e : TypeId} {size : Nat} {v : Value} {n : Nat} {xs : List Value} (h : W.ownsRow base e size v n xs) (hb : b2 ≤ base) : W.ownsRow b2 e size v n xs := by
  refine ⟨h.1, ?_⟩
  rcases h.2 with h | ⟨g, cap, cur, hv, h1, h2, h3⟩
  · exact .inl h
  · exact .inr ⟨g, cap, cur, hv, Nat.le_trans hb h1, h2, h3⟩
theorem own_from {W : World} {base : Nat} {e : TypeId} {size : Nat} {v : Value} {n : Nat} {xs : List Value} (h : W.ownsRow base e size v n xs) : ∀ k, v.ownBlock = some k → base ≤ k := fun k hk => (h.lt k hk).1
theorem own_slice {W : World} {base : Nat} {e : TypeId} {size : Nat} {v : Value} {n : Nat} {xs : List Value} (h : W.ownsRow base e size v n xs) : ∃ ad cap, v = .slice ad n cap := by
  rcases h.2 with ⟨rfl, rfl⟩ | ⟨g, cap, cur, rfl, _⟩
  · exact ⟨_, _, rfl⟩
  · exact ⟨_, _, rfl⟩
end Go.Proofs.Ytgclabboafdheab

/- Rows that came in as arguments, whatever their elements are, opened: where their cells lie; no conditions. -/
namespace Go.Proofs.Ytgclabboafdheab
open Go.ChangeShapes Go.WideShapes Go.ChangeAt Go.RowKit
set_option linter.unusedVariables false

section
variable {H : Type} {enc : TypeId × Value → H} {w : World} {base : Nat} {spare : Nat → Bool} {held : Bool}
theorem Kind.open_rows {α : Type} (K : Kind α) {t e : TypeId} {fuel : Nat} {c : Value} {x : DataW H × List MemPlace} (ht : Try.prog.underlying t = some (.slice e)) (hk : Try.prog.cellsOf e = K.k)
    (dec : ∀ n cs y, cs.length = K.k → DataW.trod enc Try.prog w base spare held n e cs = some y → ∃ a, cs = K.enc a) (h : DataW.trod enc Try.prog w base spare held fuel t [c] = some x) :
    ∃ (ad : Option Addr) (cap : Nat) (es : List α), c = .slice ad es.length cap ∧ es.length ≤ 9223372036854775807 ∧ K.Lies w.heap.size w (.slice ad es.length cap) es := by
  rcases Deep.open_slice ht h with ⟨h0, _⟩ | ⟨a, len, cap, m, n, D, Pl, hcs, hb, hl, hm, hmm, _, hx⟩
  · exact ⟨none, 0, [], by simpa using h0, by simp, Kind.Lies.nil _ _⟩
  have hlm : len ≤ m := by rw [hmm]; split <;> omega
  rw [hk] at hx
  have each : ∀ i, i < len → ∃ q : α, ∀ j, j < K.k → w.cell? (a.add (i * K.k + j)) = (K.enc q)[j]? := by
    intro i hi
    obtain ⟨cs', h1, h2⟩ := hx i (by omega)
    obtain ⟨_, hlen, hcell⟩ := World.cells?_some h1
    obtain ⟨q, rfl⟩ := dec _ _ _ hlen h2
    exact ⟨q, fun j hj => by rw [← Deep.add_add]; exact hcell j hj⟩
  have hall : ∀ m', m' ≤ len → ∃ es : List α, es.length = m' ∧ ∀ i, ∀ hi : i < es.length, ∀ j, j < K.k → w.cell? (a.add (i * K.k + j)) = (K.enc es[i])[j]? := by
    intro m' hm'
    induction m' with
    | zero => exact ⟨[], rfl, fun i hi => absurd hi (Nat.not_lt_zero _)⟩
    | succ m' ih =>
      obtain ⟨es, hes, hcell⟩ := ih (by omega)
      obtain ⟨q, hq⟩ := each m' (by omega)
      refine ⟨es ++ [q], by simp [hes], fun i hi j hj => ?_⟩
      simp at hi
      by_cases hlt : i < es.length
      · rw [List.getElem_append_left hlt]; exact hcell i hlt j hj
      · obtain rfl : i = es.length := by omega
        rw [List.getElem_append_right (Nat.le_refl _)]
        simp only [Nat.sub_self, List.getElem_cons_zero]
        rw [hes]
        exact hq j hj
  obtain ⟨es, hes, hcell⟩ := hall len (Nat.le_refl _)
  have hc' : c = .slice (some a) len cap := by simpa using hcs
  refine ⟨some a, cap, es, by rw [hes]; exact hc', by rw [hes]; unfold maxLen at hm; omega, some a, cap, rfl, by omega, hm, fun h => (by cases h), fun h0 => ?_⟩
  have hsp : a.spot = none := by
    have d0 := hcell 0 h0 0 K.pos
    have hl0 : 0 < (K.enc es[0]).length := by rw [K.len]; exact K.pos
    rw [List.getElem?_eq_getElem hl0] at d0
    have d0' : w.cell? a = some (K.enc es[0])[0] := by simpa [Addr.add] using d0
    cases hs : a.spot with
    | none => rfl
    | some q =>
      simp only [World.cell?] at d0'
      split at d0' <;> simp_all
  obtain ⟨b, off, sp⟩ := a
  simp only at hsp
  subst hsp
  have hlt : b < w.heap.size := by
    have d0 := hcell 0 h0 0 K.pos
    have hl0 : 0 < (K.enc es[0]).length := by rw [K.len]; exact K.pos
    rw [List.getElem?_eq_getElem hl0, add_plain] at d0
    exact block_lt_of_cell d0
  refine ⟨b, off, rfl, hlt, fun j u hu => ?_⟩
  have hj : j < (K.flat es).length := (List.getElem?_eq_some_iff.1 hu).1
  rw [K.flat_length] at hj
  have hdm : j / K.k * K.k + j % K.k = j := by rw [Nat.mul_comm]; exact Nat.div_add_mod j K.k
  have h1 : j / K.k < es.length := Nat.div_lt_of_lt_mul (by rw [Nat.mul_comm]; exact hj)
  have h2 := hcell (j / K.k) h1 (j % K.k) (Nat.mod_lt _ K.pos)
  have h3 := K.flat_get es (j / K.k) h1 (j % K.k) (Nat.mod_lt _ K.pos)
  rw [hdm] at h2 h3
  rw [add_plain] at h2
  rw [h2, ← h3, hu]
set_option maxRecDepth 100000 in
theorem Kind.open_arg {α : Type} (K : Kind α) {t e : TypeId} {r : Reach} {b0 : Nat} {v : Value} {dt : DataW H} {ps : List MemPlace} (ht : Try.prog.underlying t = some (.slice e)) (hk : Try.prog.cellsOf e = K.k)
    (dec : ∀ n cs y, cs.length = K.k → DataW.trod enc Try.prog w base spare held n e cs = some y → ∃ a, cs = K.enc a) (hv : Value.okWide Try.prog w r b0 t v) (h : DataW.Trod enc Try.prog w base spare held t v dt ps) :
    ∃ (ad : Option Addr) (cap : Nat) (es : List α), v = .slice ad es.length cap ∧ es.length ≤ 9223372036854775807 ∧ K.Lies w.heap.size w (.slice ad es.length cap) es := by
  obtain ⟨x, y, c, rfl⟩ := okWide_slice ht hv
  obtain ⟨fu, hf⟩ := h
  exact K.open_rows ht hk dec (by simpa [Value.cells] using hf)
end
end Go.Proofs.Ytgclabboafdheab

/- Plain words on what was delivered: a struct of four cells, and rows of it; no conditions. -/
namespace Go.Proofs.Ytgclabboafdheab
open Go.ChangeShapes Go.WideShapes Go.ChangeAt Go.RowKit
set_option linter.unusedVariables false

/-- What was delivered; rows of it. -/
structure Dlv where
  fm : Int
  sl : Int
  cy : Int
  te : ByteArray
def dlvC (q : Dlv) : List Value := [.int .i64 q.fm, .int .i64 q.sl, .int .i64 q.cy, .string q.te]
def kDlv : Kind Dlv := ⟨4, dlvC, fun _ => rfl, by intro a u hu; simp [dlvC] at hu; rcases hu with rfl | rfl | rfl | rfl <;> rfl, by decide⟩
theorem kDlv_four {n₀ : Nat} {W : World} {ad : Option Addr} {len cap : Nat} {es : List Dlv} (h : kDlv.Lies n₀ W (.slice ad len cap) es) (j : Nat) (hj : j < es.length) : ∃ b off : Nat, ad = some ⟨b, off, none⟩ ∧ b < n₀ ∧
    W.cell? ⟨b, off + j * 4, none⟩ = some (.int .i64 es[j].fm) ∧ W.cell? ⟨b, off + j * 4 + 1, none⟩ = some (.int .i64 es[j].sl) ∧ W.cell? ⟨b, off + j * 4 + 2, none⟩ = some (.int .i64 es[j].cy) ∧ W.cell? ⟨b, off + j * 4 + 3, none⟩ = some (.string es[j].te) := by
  obtain ⟨b, off, he, hb, hc⟩ := h.at j hj
  exact ⟨b, off, he, hb, hc 0 (by decide), hc 1 (by decide), hc 2 (by decide), hc 3 (by decide)⟩
end Go.Proofs.Ytgclabboafdheab

/- The integer calls of package num (Clamp, Mod, Sat, isWidth) and of the document's answer (Clamp, Mod, Sat) return what plain functions on integers give, and leave the world as it was; for integers that fit int. -/
namespace Go.Proofs.Ytgclabboafdheab
open Go.ChangeShapes Go.WideShapes Go.ChangeAt Go.RowKit
open Go.ChangeMaps (open_string shut_string)
set_option linter.unusedVariables false

def clampF (n lo hi : Int) : Int := if n < lo ∨ hi < lo then lo else if n ≤ hi then n else hi
def modF (n by_ : Int) : Int := if by_ < 1 then 0 else if n.tmod by_ < 0 then n.tmod by_ + by_ else n.tmod by_
def satF (n most : Int) : Int := if n < 0 ∨ most < 0 then 0 else if most ≤ n then most else n + 1


theorem sat_any (n m : Int) (w : World) (hn : (Lit.int .i64 n).wf = true) (hm : (Lit.int .i64 m).wf = true) :
    Calls Try.prog 22 #[.int .i64 n, .int .i64 m] w fun e w' => e = .returned (.int .i64 (satF n m)) ∧ w = w' := by
  have bn := bd64 hn
  have bb := bd64 hm
  by_cases h1 : n < 0
  · have e : satF n m = 0 := by unfold satF; rw [if_pos (Or.inl h1)]
    rw [e]; clear e
    go_enter Try.func22, Try.ntmps22
    go_wp2
    go_ret
    exact ⟨rfl, rfl⟩
  · by_cases h2 : m < 0
    · have e : satF n m = 0 := by unfold satF; rw [if_pos (Or.inr h2)]
      rw [e]; clear e
      go_enter Try.func22, Try.ntmps22
      go_wp2
      go_ret
      exact ⟨rfl, rfl⟩
    · by_cases h3 : m ≤ n
      · have e : satF n m = m := by unfold satF; rw [if_neg (by omega), if_pos h3]
        rw [e]; clear e
        go_enter Try.func22, Try.ntmps22
        go_wp2
        go_ret
        exact ⟨rfl, rfl⟩
      · have e : satF n m = n + 1 := by unfold satF; rw [if_neg (by omega), if_neg h3]
        rw [e]; clear e
        go_enter Try.func22, Try.ntmps22
        go_wp2
        go_ret
        exact ⟨rfl, rfl⟩
end Go.Proofs.Ytgclabboafdheab

/- Plain words on ports: a node's last message and how old it is, rows of them, what messages and pulses make of them, what is read; no conditions. -/
namespace Go.Proofs.Ytgclabboafdheab
open Go.ChangeShapes Go.WideShapes Go.ChangeAt Go.RowKit
set_option linter.unusedVariables false

/-- A port: the text of the last message, its cycle, how many pulses were since then. -/
structure Prt where
  te : ByteArray
  cy : Int
  ag : Int
@[ext] theorem Prt.ext' {p q : Prt} (h1 : p.te = q.te) (h2 : p.cy = q.cy) (h3 : p.ag = q.ag) : p = q := by
  cases p; cases q; cases h1; cases h2; cases h3; rfl
def prtC (p : Prt) : List Value := [.string p.te, .int .i64 p.cy, .int .i64 p.ag]
def kPrt : Kind Prt := ⟨3, prtC, fun _ => rfl, by intro a u hu; simp [prtC] at hu; rcases hu with rfl | rfl | rfl <;> rfl, by decide⟩
/-- A port of which nothing came; a row of them. -/
def noP (fr : Int) : Prt := ⟨⟨#[]⟩, 0, fr⟩
def blkP (n : Nat) (fr : Int) : List Prt := List.replicate n (noP fr)
/-- The row that counts. -/
def lstP (E : Int) (n : Nat) (fr : Int) (ps : List Prt) : List Prt := if E = 0 then (if ps.length = n then ps else blkP n fr) else []
theorem lstP_err {E : Int} (h : ¬ E = 0) (n : Nat) (fr : Int) (ps : List Prt) : lstP E n fr ps = [] := if_neg h
theorem lstP_ok {E : Int} (h : E = 0) {n : Nat} (fr : Int) {ps : List Prt} (hl : ps.length = n) : lstP E n fr ps = ps := (if_pos h).trans (if_pos hl)
theorem lstP_no {E : Int} (h : E = 0) {n : Nat} (fr : Int) {ps : List Prt} (hl : ¬ ps.length = n) : lstP E n fr ps = blkP n fr := (if_pos h).trans (if_neg hl)
theorem lstP_len {E : Int} (h : E = 0) (n : Nat) (fr : Int) (ps : List Prt) : (lstP E n fr ps).length = n := by
  by_cases hl : ps.length = n
  · rw [lstP_ok h fr hl, hl]
  · rw [lstP_no h fr hl]; simp [blkP]
/-- A message comes. -/
def put1 (l : List Prt) (d : Dlv) : List Prt := if 0 ≤ d.fm ∧ d.fm < (l.length : Int) then l.set d.fm.toNat ⟨d.te, d.cy, 0⟩ else l
theorem put1_in {l : List Prt} {d : Dlv} {k : Nat} (h : d.fm = (k : Int)) (hk : k < l.length) : put1 l d = l.set k ⟨d.te, d.cy, 0⟩ := by
  unfold put1
  rw [if_pos (by omega), h, Int.toNat_natCast]
theorem put1_out {l : List Prt} {d : Dlv} (h : ¬ (0 ≤ d.fm ∧ d.fm < (l.length : Int))) : put1 l d = l := if_neg h
theorem put1_len (l : List Prt) (d : Dlv) : (put1 l d).length = l.length := by unfold put1; split <;> simp
def putP (l : List Prt) (ds : List Dlv) : List Prt := ds.foldl put1 l
theorem putP_nil (l : List Prt) : putP l [] = l := rfl
theorem putP_snoc (l : List Prt) (ds : List Dlv) (d : Dlv) : putP l (ds ++ [d]) = put1 (putP l ds) d := by unfold putP; rw [List.foldl_append]; rfl
theorem putP_len (l : List Prt) (ds : List Dlv) : (putP l ds).length = l.length := by
  induction ds generalizing l with
  | nil => rfl
  | cons d ds ih => exact (ih (put1 l d)).trans (put1_len l d)
/-- A pulse comes. -/
def old1 (fr : Int) (p : Prt) : Prt := ⟨p.te, p.cy, satF p.ag fr⟩
def oldP (fr : Int) (l : List Prt) : List Prt := l.map (old1 fr)
theorem oldP_len (fr : Int) (l : List Prt) : (oldP fr l).length = l.length := by simp [oldP]
/-- As far as a round has come. -/
def oldK (fr : Int) (l : List Prt) (k : Nat) : List Prt := oldP fr (l.take k) ++ l.drop k
theorem oldK_0 (fr : Int) (l : List Prt) : oldK fr l 0 = l := rfl
theorem oldK_all (fr : Int) (l : List Prt) : oldK fr l l.length = oldP fr l := by unfold oldK; rw [List.take_length, List.drop_length, List.append_nil]
theorem oldK_len (fr : Int) (l : List Prt) (k : Nat) : (oldK fr l k).length = l.length := by unfold oldK oldP; simp; omega
theorem oldK_get (fr : Int) (l : List Prt) (k : Nat) (hk : k < l.length) : (oldK fr l k)[k]'(by rw [oldK_len]; exact hk) = l[k] := by
  unfold oldK
  rw [List.getElem_append_right (by simp [oldP]; omega)]
  have e : k - (oldP fr (l.take k)).length = 0 := by simp [oldP]; omega
  simp [oldP, Nat.min_eq_left (Nat.le_of_lt hk)]
theorem oldK_set (fr : Int) (l : List Prt) (k : Nat) (hk : k < l.length) : (oldK fr l k).set k (old1 fr l[k]) = oldK fr l (k + 1) := by
  have hl : (oldP fr (l.take k)).length = k := by simp [oldP]; omega
  unfold oldK
  rw [List.set_append_right _ _ (by omega), hl, Nat.sub_self, List.drop_eq_getElem_cons hk, List.set_cons_zero, List.take_add_one, List.getElem?_eq_getElem hk]
  unfold oldP
  rw [List.map_append]
  simp
/-- Is a port fresh; what is read of one. -/
def frsB (fr : Int) (p : Prt) : Bool := decide (0 ≤ p.ag) && decide (p.ag < fr)
def rdB (fr : Int) (l : List Prt) (z : Int) : Bool := decide (0 ≤ z) && decide (z < (l.length : Int)) && frsB fr (l.getD z.toNat (noP 0))
def rdT (fr : Int) (l : List Prt) (z : Int) : ByteArray := if rdB fr l z = true then (l.getD z.toNat (noP 0)).te else ⟨#[]⟩
def rdC (fr : Int) (l : List Prt) (z : Int) : Int := if rdB fr l z = true then (l.getD z.toNat (noP 0)).cy else 0
theorem rd_no {fr : Int} {l : List Prt} {z : Int} (h : rdB fr l z = false) : rdT fr l z = ⟨#[]⟩ ∧ rdC fr l z = 0 := ⟨if_neg (by rw [h]; decide), if_neg (by rw [h]; decide)⟩
theorem rd_yes {fr : Int} {l : List Prt} {z : Int} (h : rdB fr l z = true) : rdT fr l z = (l.getD z.toNat (noP 0)).te ∧ rdC fr l z = (l.getD z.toNat (noP 0)).cy := ⟨if_pos h, if_pos h⟩
theorem rdB_out {fr : Int} {l : List Prt} {z : Int} (h : ¬ (0 ≤ z ∧ z < (l.length : Int))) : rdB fr l z = false := by
  unfold rdB
  by_cases h0 : 0 ≤ z
  · rw [decide_eq_false (show ¬ z < (l.length : Int) by omega)]; simp
  · rw [decide_eq_false h0]; simp
theorem rdB_in {fr : Int} {l : List Prt} {k : Nat} (h : k < l.length) : rdB fr l (k : Int) = frsB fr l[k] := by
  unfold rdB
  rw [decide_eq_true (show (0 : Int) ≤ (k : Int) by omega), decide_eq_true (show (k : Int) < (l.length : Int) by omega)]
  simp [h]
/-- All ages fit int. -/
def agesIn (l : List Prt) : Prop := ∀ p ∈ l, (Lit.int .i64 p.ag).wf = true
end Go.Proofs.Ytgclabboafdheab

/- A row that is filled up to a place; no conditions. -/
namespace Go.Proofs.Ytgclabboafdheab
set_option linter.unusedVariables false

/-- A row that is filled up to k. -/
def fillL {α : Type} (z : α) (N : Nat) (g : Nat → α) (k : Nat) : List α := (List.range N).map fun j => if j < k then g j else z
theorem fillL_len {α : Type} (z : α) (N : Nat) (g : Nat → α) (k : Nat) : (fillL z N g k).length = N := by simp [fillL]
theorem fillL_0 {α : Type} (z : α) (N : Nat) (g : Nat → α) : fillL z N g 0 = List.replicate N z := by
  apply List.ext_getElem <;> simp [fillL]
theorem fillL_all {α : Type} (z : α) (N : Nat) (g : Nat → α) : fillL z N g N = (List.range N).map g := by
  apply List.ext_getElem
  · simp [fillL]
  · intro i h1 h2
    simp [fillL] at h1 ⊢
    intro h; omega
theorem fillL_set {α : Type} (z : α) (N : Nat) (g : Nat → α) (k : Nat) (hk : k < N) : (fillL z N g k).set k (g k) = fillL z N g (k + 1) := by
  apply List.ext_getElem
  · simp [fillL]
  · intro i h1 h2
    rw [List.getElem_set]
    simp only [fillL, List.getElem_map, List.getElem_range]
    by_cases e : k = i
    · subst e; rw [if_pos rfl, if_pos (by omega)]
    · rw [if_neg e]
      by_cases h : i < k
      · rw [if_pos h, if_pos (by omega)]
      · rw [if_neg h, if_neg (by omega)]
end Go.Proofs.Ytgclabboafdheab

/- Rows of int that lie in memory: their cells, and such a row that came in as an argument; no conditions. -/
namespace Go.Proofs.Ytgclabboafdheab
open Go.ChangeShapes Go.WideShapes Go.ChangeAt Go.RowKit
set_option linter.unusedVariables false

/-- Rows of int. -/
def kInt : Kind Int := ⟨1, fun z => [.int .i64 z], fun _ => rfl, by intro a u hu; simp at hu; subst hu; rfl, by decide⟩
theorem kInt_flat (zs : List Int) : kInt.flat zs = zs.map (Value.int .i64) := by
  induction zs with
  | nil => rfl
  | cons a l ih => simp only [Kind.flat, List.flatMap_cons, List.map_cons] at ih ⊢; rw [ih]; rfl
theorem infoInt : (Try.prog.info? 3).map (fun i => (i.zero, i.size, i.bytes)) = some (some (.int .i64 0), 1, 8) := by kernel_rfl
theorem info_of {T : TypeId} {z : Value} {m b : Nat} (h : (Try.prog.info? T).map (fun i => (i.zero, i.size, i.bytes)) = some (some z, m, b)) : ∃ i, Try.prog.info? T = some i ∧ i.zero = some z ∧ i.size = m ∧ i.bytes = b := by
  cases hi : Try.prog.info? T with
  | none => rw [hi] at h; cases h
  | some i =>
    rw [hi] at h
    simp only [Option.map_some, Option.some.injEq, Prod.mk.injEq] at h
    exact ⟨i, rfl, h.1, h.2.1, h.2.2⟩
theorem kInt_at {n₀ : Nat} {W : World} {ad : Option Addr} {len cap : Nat} {zs : List Int} (h : kInt.Lies n₀ W (.slice ad len cap) zs) (j : Nat) (hj : j < zs.length) : ∃ b off : Nat, ad = some ⟨b, off, none⟩ ∧ b < n₀ ∧ W.cell? ⟨b, off + j, none⟩ = some (.int .i64 zs[j]) := by
  obtain ⟨b, off, he, hb, hc⟩ := h.at j hj
  refine ⟨b, off, he, hb, ?_⟩
  have := hc 0 (by decide)
  simpa [kInt] using this
section
variable {H : Type} {enc : TypeId × Value → H} {w : World} {base : Nat} {spare : Nat → Bool} {held : Bool}
theorem dec_int (n : Nat) (cs : List Value) (y : DataW H × List MemPlace) (hl : cs.length = kInt.k) (h : DataW.trod enc Try.prog w base spare held n 3 cs = some y) : ∃ a, cs = kInt.enc a := by
  obtain ⟨c0, rfl⟩ : ∃ c0, cs = [c0] := by
    have h2 : cs.length = 1 := hl
    match cs, h2 with
    | [c0], _ => exact ⟨c0, rfl⟩
  obtain ⟨x0, h0, _, w0⟩ := DataW.trod_int Try.underlying3 h
  exact ⟨x0, h0⟩
set_option maxRecDepth 100000 in
theorem open_kints {r : Reach} {b0 : Nat} {v : Value} {dt : DataW H} {ps : List MemPlace} (hv : Value.okWide Try.prog w r b0 22 v) (h : DataW.Trod enc Try.prog w base spare held 22 v dt ps) :
    ∃ (ad : Option Addr) (cap : Nat) (es : List Int), v = .slice ad es.length cap ∧ es.length ≤ 9223372036854775807 ∧ kInt.Lies w.heap.size w (.slice ad es.length cap) es :=
  kInt.open_arg Try.underlying22 (by kernel_rfl) dec_int hv h
end
end Go.Proofs.Ytgclabboafdheab

/- Plain words on a block of six cells that is written anew: what is read of it then; no conditions. -/
namespace Go.Proofs.Ytgclabboafdheab
open Go.ChangeShapes Go.WideShapes Go.ChangeAt Go.RowKit
set_option linter.unusedVariables false

theorem blk_frozen {w : World} {b : Nat} {C : Array Value} {t : TypeId} (h : w.heap[b]? = some (.cells C t (0, 0))) (i : Nat) : w.frozen? ⟨b, i, none⟩ = false := by
  simp [World.frozen?, h]
theorem blk_cell {w : World} {b : Nat} {C : Array Value} {t : TypeId} (h : w.heap[b]? = some (.cells C t (0, 0))) (i : Nat) : w.cell? ⟨b, i, none⟩ = C[i]? := by
  simp [World.cell?, h]
theorem blk_second (w : World) (o : Obj) (C : Array Value) (t : TypeId) {w' : World} (hb : Below ((w.alloc o).alloc (.cells C t)).heap.size ((w.alloc o).alloc (.cells C t)) w') : w'.heap[w.heap.size + 1]? = some (.cells C t (0, 0)) := by
  refine (hb.block (w.heap.size + 1) (by simp)).trans ?_
  have := heap_alloc_new (w.alloc o) (.cells C t)
  rw [World.size_alloc] at this
  exact this
theorem set6T {w : World} {b : Nat} {z0 z1 z2 z3 z4 z5 : Value} {t : TypeId} (h : w.heap[b]? = some (.cells #[z0, z1, z2, z3, z4, z5] t (0, 0))) (v0 v1 v2 v3 v4 v5 : Value) :
    ((((((w.setCell ⟨b, 0, none⟩ v0).setCell ⟨b, 1, none⟩ v1).setCell ⟨b, 2, none⟩ v2).setCell ⟨b, 3, none⟩ v3).setCell ⟨b, 4, none⟩ v4).setCell ⟨b, 5, none⟩ v5).heap[b]? = some (.cells #[v0, v1, v2, v3, v4, v5] t (0, 0)) := by
  have h1 := heap_setCell_same _ b 0 _ _ v0 h
  have h2 := heap_setCell_same _ b 1 _ _ v1 h1
  have h3 := heap_setCell_same _ b 2 _ _ v2 h2
  have h4 := heap_setCell_same _ b 3 _ _ v3 h3
  have h5 := heap_setCell_same _ b 4 _ _ v4 h4
  have h6 := heap_setCell_same _ b 5 _ _ v5 h5
  simpa using h6
theorem read6T {w : World} {b : Nat} {z0 z1 z2 z3 z4 z5 : Value} {t : TypeId} (h : w.heap[b]? = some (.cells #[z0, z1, z2, z3, z4, z5] t (0, 0))) (v0 v1 v2 v3 v4 v5 : Value) :
    ((((((w.setCell ⟨b, 0, none⟩ v0).setCell ⟨b, 1, none⟩ v1).setCell ⟨b, 2, none⟩ v2).setCell ⟨b, 3, none⟩ v3).setCell ⟨b, 4, none⟩ v4).setCell ⟨b, 5, none⟩ v5).cell? ⟨b, 0, none⟩ = some v0 ∧ ((((((w.setCell ⟨b, 0, none⟩ v0).setCell ⟨b, 1, none⟩ v1).setCell ⟨b, 2, none⟩ v2).setCell ⟨b, 3, none⟩ v3).setCell ⟨b, 4, none⟩ v4).setCell ⟨b, 5, none⟩ v5).cell? ⟨b, 1, none⟩ = some v1 ∧ ((((((w.setCell ⟨b, 0, none⟩ v0).setCell ⟨b, 1, none⟩ v1).setCell ⟨b, 2, none⟩ v2).setCell ⟨b, 3, none⟩ v3).setCell ⟨b, 4, none⟩ v4).setCell ⟨b, 5, none⟩ v5).cell? ⟨b, 2, none⟩ = some v2 ∧ ((((((w.setCell ⟨b, 0, none⟩ v0).setCell ⟨b, 1, none⟩ v1).setCell ⟨b, 2, none⟩ v2).setCell ⟨b, 3, none⟩ v3).setCell ⟨b, 4, none⟩ v4).setCell ⟨b, 5, none⟩ v5).cell? ⟨b, 3, none⟩ = some v3 ∧ ((((((w.setCell ⟨b, 0, none⟩ v0).setCell ⟨b, 1, none⟩ v1).setCell ⟨b, 2, none⟩ v2).setCell ⟨b, 3, none⟩ v3).setCell ⟨b, 4, none⟩ v4).setCell ⟨b, 5, none⟩ v5).cell? ⟨b, 4, none⟩ = some v4 ∧ ((((((w.setCell ⟨b, 0, none⟩ v0).setCell ⟨b, 1, none⟩ v1).setCell ⟨b, 2, none⟩ v2).setCell ⟨b, 3, none⟩ v3).setCell ⟨b, 4, none⟩ v4).setCell ⟨b, 5, none⟩ v5).cell? ⟨b, 5, none⟩ = some v5 := by
  have h6 := set6T h v0 v1 v2 v3 v4 v5
  refine ⟨?_, ?_, ?_, ?_, ?_, ?_⟩ <;> simp only [World.cell?, h6] <;> rfl
theorem below6T {B : Nat} {a w : World} {b : Nat} (h : Below B a w) (hp : B ≤ b) (v0 v1 v2 v3 v4 v5 : Value) : Below B a ((((((w.setCell ⟨b, 0, none⟩ v0).setCell ⟨b, 1, none⟩ v1).setCell ⟨b, 2, none⟩ v2).setCell ⟨b, 3, none⟩ v3).setCell ⟨b, 4, none⟩ v4).setCell ⟨b, 5, none⟩ v5) :=
  (((((h.setCell (p := ⟨b, 0, none⟩) hp _).setCell (p := ⟨b, 1, none⟩) hp _).setCell (p := ⟨b, 2, none⟩) hp _).setCell (p := ⟨b, 3, none⟩) hp _).setCell (p := ⟨b, 4, none⟩) hp _).setCell (p := ⟨b, 5, none⟩) hp _
theorem read6A {w : World} {b : Nat} {z0 z1 z2 z3 z4 z5 : Value} {t : TypeId} (h : w.heap[b]? = some (.cells #[z0, z1, z2, z3, z4, z5] t (0, 0))) (o : Obj) (v0 v1 v2 v3 v4 v5 : Value) :
    (((((((w.setCell ⟨b, 0, none⟩ v0).setCell ⟨b, 1, none⟩ v1).setCell ⟨b, 2, none⟩ v2).setCell ⟨b, 3, none⟩ v3).setCell ⟨b, 4, none⟩ v4).setCell ⟨b, 5, none⟩ v5).alloc o).cell? ⟨b, 0, none⟩ = some v0 ∧ (((((((w.setCell ⟨b, 0, none⟩ v0).setCell ⟨b, 1, none⟩ v1).setCell ⟨b, 2, none⟩ v2).setCell ⟨b, 3, none⟩ v3).setCell ⟨b, 4, none⟩ v4).setCell ⟨b, 5, none⟩ v5).alloc o).cell? ⟨b, 1, none⟩ = some v1 ∧ (((((((w.setCell ⟨b, 0, none⟩ v0).setCell ⟨b, 1, none⟩ v1).setCell ⟨b, 2, none⟩ v2).setCell ⟨b, 3, none⟩ v3).setCell ⟨b, 4, none⟩ v4).setCell ⟨b, 5, none⟩ v5).alloc o).cell? ⟨b, 2, none⟩ = some v2 ∧ (((((((w.setCell ⟨b, 0, none⟩ v0).setCell ⟨b, 1, none⟩ v1).setCell ⟨b, 2, none⟩ v2).setCell ⟨b, 3, none⟩ v3).setCell ⟨b, 4, none⟩ v4).setCell ⟨b, 5, none⟩ v5).alloc o).cell? ⟨b, 3, none⟩ = some v3 ∧ (((((((w.setCell ⟨b, 0, none⟩ v0).setCell ⟨b, 1, none⟩ v1).setCell ⟨b, 2, none⟩ v2).setCell ⟨b, 3, none⟩ v3).setCell ⟨b, 4, none⟩ v4).setCell ⟨b, 5, none⟩ v5).alloc o).cell? ⟨b, 4, none⟩ = some v4 ∧ (((((((w.setCell ⟨b, 0, none⟩ v0).setCell ⟨b, 1, none⟩ v1).setCell ⟨b, 2, none⟩ v2).setCell ⟨b, 3, none⟩ v3).setCell ⟨b, 4, none⟩ v4).setCell ⟨b, 5, none⟩ v5).alloc o).cell? ⟨b, 5, none⟩ = some v5 := by
  have h6 := set6T h v0 v1 v2 v3 v4 v5
  have h7 := ((ballc _ o).block b (Array.getElem?_eq_some_iff.1 h6).1).trans h6
  refine ⟨?_, ?_, ?_, ?_, ?_, ?_⟩ <;> simp only [World.cell?, h7] <;> rfl
theorem below6A {a w : World} {b : Nat} (h : Below a.heap.size a w) (hp : a.heap.size ≤ b) (o : Obj) (v0 v1 v2 v3 v4 v5 : Value) : Below a.heap.size a (((((((w.setCell ⟨b, 0, none⟩ v0).setCell ⟨b, 1, none⟩ v1).setCell ⟨b, 2, none⟩ v2).setCell ⟨b, 3, none⟩ v3).setCell ⟨b, 4, none⟩ v4).setCell ⟨b, 5, none⟩ v5).alloc o) :=
  (below6T h hp v0 v1 v2 v3 v4 v5).alloc (below6T h hp v0 v1 v2 v3 v4 v5).size o
theorem blk_lt {w : World} {b : Nat} {o : Obj} (h : w.heap[b]? = some o) : b < w.heap.size := (Array.getElem?_eq_some_iff.1 h).1
theorem blk_later {w w' : World} {b : Nat} {o : Obj} (h : w.heap[b]? = some o) (hb : Below w.heap.size w w') : w'.heap[b]? = some o := (hb.block b (blk_lt h)).trans h
theorem blk_nw (w : World) (C : Array Value) (t : TypeId) : (w.alloc (.cells C t)).heap[w.heap.size]? = some (.cells C t (0, 0)) := heap_alloc_new w _
theorem blk_newAt (w : World) (C : Array Value) (t : TypeId) {b : Nat} (hb : b = w.heap.size) : (w.alloc (.cells C t)).heap[b]? = some (.cells C t (0, 0)) := by subst hb; exact heap_alloc_new w _
theorem blkV_new {w w' : World} {C : Array Value} {t : TypeId} (hb : Below (w.alloc (.cells C t)).heap.size (w.alloc (.cells C t)) w') : w'.heap[w.heap.size]? = some (.cells C t (0, 0)) := (hb.block _ (by simp)).trans (heap_alloc_new w _)
theorem blkV_newD {w w' : World} {C : Array Value} {t : TypeId} (hb : Below (w.alloc (.cells C t)).drew.heap.size (w.alloc (.cells C t)).drew w') : w'.heap[w.heap.size]? = some (.cells C t (0, 0)) := (hb.block _ (by simp)).trans (heap_alloc_new w _)
theorem blkV_newE {w w' : World} {C : Array Value} {t : TypeId} (hb : Below (w.alloc (.cells C t)).drew.drew.heap.size (w.alloc (.cells C t)).drew.drew w') : w'.heap[w.heap.size]? = some (.cells C t (0, 0)) := (hb.block _ (by simp)).trans (heap_alloc_new w _)
end Go.Proofs.Ytgclabboafdheab

/- Rows of ports as blocks of memory: how they are made, read, written and copied; no conditions. -/
namespace Go.Proofs.Ytgclabboafdheab
open Go.ChangeShapes Go.WideShapes Go.ChangeAt Go.RowKit
set_option linter.unusedVariables false

theorem kPrt_flat_cons (p : Prt) (l : List Prt) : kPrt.flat (p :: l) = .string p.te :: .int .i64 p.cy :: .int .i64 p.ag :: kPrt.flat l := by simp [Kind.flat, kPrt, prtC]
theorem kPrt_set (l : List Prt) (i : Nat) (p : Prt) : (((kPrt.flat l).set (i * 3) (.string p.te)).set (i * 3 + 1) (.int .i64 p.cy)).set (i * 3 + 2) (.int .i64 p.ag) = kPrt.flat (l.set i p) := by
  induction l generalizing i with
  | nil => rfl
  | cons a l ih =>
    cases i with
    | zero => rw [kPrt_flat_cons]; simp [kPrt_flat_cons]
    | succ i =>
      have e : (i + 1) * 3 = i * 3 + 1 + 1 + 1 := by omega
      have e1 : (i + 1) * 3 + 1 = i * 3 + 1 + 1 + 1 + 1 := by omega
      have e2 : (i + 1) * 3 + 2 = i * 3 + 2 + 1 + 1 + 1 := by omega
      rw [kPrt_flat_cons, e1, e2, e]
      simp only [List.set_cons_succ]
      rw [ih, kPrt_flat_cons]
theorem kPrt_get (l : List Prt) (i : Nat) (hi : i < l.length) : (kPrt.flat l)[i * 3]? = some (.string l[i].te) ∧ (kPrt.flat l)[i * 3 + 1]? = some (.int .i64 l[i].cy) ∧ (kPrt.flat l)[i * 3 + 2]? = some (.int .i64 l[i].ag) :=
  ⟨kPrt.flat_get l i hi 0 (by decide), kPrt.flat_get l i hi 1 (by decide), kPrt.flat_get l i hi 2 (by decide)⟩
theorem kPrt_three {n₀ : Nat} {W : World} {ad : Option Addr} {len cap : Nat} {es : List Prt} (h : kPrt.Lies n₀ W (.slice ad len cap) es) (j : Nat) (hj : j < es.length) : ∃ b off : Nat, ad = some ⟨b, off, none⟩ ∧ b < n₀ ∧
    W.cell? ⟨b, off + j * 3, none⟩ = some (.string es[j].te) ∧ W.cell? ⟨b, off + j * 3 + 1, none⟩ = some (.int .i64 es[j].cy) ∧ W.cell? ⟨b, off + j * 3 + 2, none⟩ = some (.int .i64 es[j].ag) := by
  obtain ⟨b, off, he, hb, hc⟩ := h.at j hj
  exact ⟨b, off, he, hb, hc 0 (by decide), hc 1 (by decide), hc 2 (by decide)⟩
/-- A row of ports that is a block of its own. -/
def PBlk (W : World) (g : Nat) (l : List Prt) : Prop := W.heap[g]? = some (.cells (kPrt.flat l).toArray 38 (0, 0))
theorem PBlk.lt {W : World} {g : Nat} {l : List Prt} (h : PBlk W g l) : g < W.heap.size := blk_lt h
theorem PBlk.later {W W' : World} {g : Nat} {l : List Prt} (h : PBlk W g l) (hb : Below W.heap.size W W') : PBlk W' g l := blk_later h hb
theorem PBlk.open {W : World} {g : Nat} {l : List Prt} (h : PBlk W g l) (i : Nat) : W.frozen? ⟨g, i, none⟩ = false := blk_frozen h i
theorem PBlk.cells {W : World} {g : Nat} {l : List Prt} (h : PBlk W g l) (i : Nat) (hi : i < l.length) : W.cell? ⟨g, i * 3, none⟩ = some (.string l[i].te) ∧ W.cell? ⟨g, i * 3 + 1, none⟩ = some (.int .i64 l[i].cy) ∧ W.cell? ⟨g, i * 3 + 2, none⟩ = some (.int .i64 l[i].ag) := by
  obtain ⟨h0, h1, h2⟩ := kPrt_get l i hi
  rw [blk_cell h, blk_cell h, blk_cell h, List.getElem?_toArray, List.getElem?_toArray, List.getElem?_toArray]
  exact ⟨h0, h1, h2⟩
theorem PBlk.set {W : World} {g : Nat} {l : List Prt} (h : PBlk W g l) (i : Nat) (p : Prt) : PBlk (((W.setCell ⟨g, i * 3, none⟩ (.string p.te)).setCell ⟨g, i * 3 + 1, none⟩ (.int .i64 p.cy)).setCell ⟨g, i * 3 + 2, none⟩ (.int .i64 p.ag)) g (l.set i p) := by
  have h1 := heap_setCell_same W g (i * 3) _ _ (.string p.te) h
  have h2 := heap_setCell_same _ g (i * 3 + 1) _ _ (.int .i64 p.cy) h1
  have h3 := heap_setCell_same _ g (i * 3 + 2) _ _ (.int .i64 p.ag) h2
  rw [List.setIfInBounds_toArray, List.setIfInBounds_toArray, List.setIfInBounds_toArray, kPrt_set] at h3
  exact h3
theorem PBlk.lies {W : World} {g : Nat} {l : List Prt} (h : PBlk W g l) (hl : l.length ≤ maxLen) : kPrt.Lies W.heap.size W (.slice (some ⟨g, 0, none⟩) l.length l.length) l := Kind.Lies.of_block h hl
theorem below3P {B : Nat} {a w : World} {b : Nat} (h : Below B a w) (hp : B ≤ b) (i : Nat) (v0 v1 v2 : Value) : Below B a (((w.setCell ⟨b, i, none⟩ v0).setCell ⟨b, i + 1, none⟩ v1).setCell ⟨b, i + 2, none⟩ v2) :=
  ((h.setCell (p := ⟨b, i, none⟩) hp _).setCell (p := ⟨b, i + 1, none⟩) hp _).setCell (p := ⟨b, i + 2, none⟩) hp _
theorem other3P {w : World} {b c i : Nat} {o : Obj} (h : w.heap[c]? = some o) (hc : c ≠ b) (v0 v1 v2 : Value) : (((w.setCell ⟨b, i, none⟩ v0).setCell ⟨b, i + 1, none⟩ v1).setCell ⟨b, i + 2, none⟩ v2).heap[c]? = some o := by
  rw [heap_setCell_other _ _ _ _ hc, heap_setCell_other _ _ _ _ hc, heap_setCell_other _ _ _ _ hc]
  exact h
theorem infoPrt : (Try.prog.info? 38).map (fun i => (i.zero, i.size, i.bytes)) = some (some (.agg #[.string ⟨#[]⟩, .int .i64 0, .int .i64 0]), 3, 32) := by kernel_rfl
theorem made_prts (n : Nat) : madeCells #[.string ⟨#[]⟩, .int .i64 0, .int .i64 0] (n * 3) = (kPrt.flat (List.replicate n (noP 0))).toArray := by
  apply Array.ext
  · rw [size_madeCells, List.size_toArray, Kind.flat_length, List.length_replicate]; rfl
  · intro i h1 h2
    rw [size_madeCells] at h1
    have hh : (kPrt.flat (List.replicate n (noP 0)))[i]? = some (madeCells #[.string ⟨#[]⟩, .int .i64 0, .int .i64 0] (n * 3))[i] := by
      have hi : i / 3 < (List.replicate n (noP 0)).length := by rw [List.length_replicate]; omega
      obtain ⟨g0, g1, g2⟩ := kPrt_get _ (i / 3) hi
      rw [List.getElem_replicate] at g0 g1 g2
      have hm : (madeCells #[.string ⟨#[]⟩, .int .i64 0, .int .i64 0] (n * 3))[i] = (#[Value.string ⟨#[]⟩, Value.int .i64 0, Value.int .i64 0] : Array Value)[i % 3]! := by
        unfold madeCells
        simp
      rw [hm]
      by_cases h : i % 3 = 0
      · rw [show i = i / 3 * 3 by omega]; rw [g0]
        rw [show (i / 3 * 3) % 3 = 0 by omega]
        rfl
      · by_cases h' : i % 3 = 1
        · rw [show i = i / 3 * 3 + 1 by omega]; rw [g1]
          rw [show (i / 3 * 3 + 1) % 3 = 1 by omega]
          rfl
        · rw [show i = i / 3 * 3 + 2 by omega]; rw [g2]
          rw [show (i / 3 * 3 + 2) % 3 = 2 by omega]
          rfl
    have h3 : (kPrt.flat (List.replicate n (noP 0)))[i]? = some ((kPrt.flat (List.replicate n (noP 0))).toArray[i]) := by
      rw [List.getElem_toArray]
      exact List.getElem?_eq_getElem _
    rw [h3] at hh
    exact (Option.some.inj hh).symm
theorem make_prts (N : Nat) (hn : N ≤ 100000) (w : World) : (Instr.makeSlice 25 (.int .i64 (N : Int)) (.int .i64 (N : Int))).run Try.prog w = .ok (.slice (some ⟨w.heap.size, 0, none⟩) N N) (w.alloc (.cells (kPrt.flat (List.replicate N (noP 0))).toArray 38)) := by
  rw [← made_prts]
  obtain ⟨i0, hi, hz0, hz1, hz2⟩ := info_of infoPrt
  have h := run_make (P := Try.prog) w 25 38 i0 _ Try.underlying25 hi hz0 .i64 .i64 (N : Int) (N : Int) (by omega) (Int.le_refl _) (by rw [hz2]; omega) (by omega)
  rw [Int.toNat_natCast, hz1] at h
  exact h
/-- A whole row is copied. -/
theorem copy_prts (w : World) (ty : TypeId) (g N c : Nat) (ad : Option Addr) (hN : 0 < N) (cur ps : List Prt) (hg : PBlk w g cur) (hc : cur.length = N) (hp : ps.length = N) {n₀ : Nat} (hP : kPrt.Lies n₀ w (.slice ad N c) ps) :
    (Builtin.copy_ #[25, 25] ty #[.slice (some ⟨g, 0, none⟩) N N, .slice ad N c]).run Try.prog w = .ok (goInt N) (w.setRow g (kPrt.flat ps).toArray) := by
  obtain ⟨b, off, rfl, _, _⟩ := hP.at 0 (by omega)
  have hl := run_loadCells_list (P := Try.prog) w ⟨b, off, none⟩ (kPrt.flat ps) hP.cells
  have hst := run_storeCells_at Try.prog g 0 38 (kPrt.flat ps) 0 (kPrt.flat cur).toArray w hg (by rw [List.size_toArray, Kind.flat_length, Kind.flat_length, hc, hp]; omega) (kPrt.flat_one ps)
  have e : (kPrt.flat ps).length = N * 3 := by rw [Kind.flat_length, hp]; rfl
  have e2 : (kPrt.flat cur).length = N * 3 := by rw [Kind.flat_length, hc]; rfl
  have e3 : ((kPrt.flat cur).toArray.toList.take (0 + 0) ++ kPrt.flat ps ++ (kPrt.flat cur).toArray.toList.drop (0 + 0 + (kPrt.flat ps).length)) = kPrt.flat ps := by
    rw [e, List.drop_of_length_le (by simp [e2])]
    simp
  rw [e3] at hst
  rw [e] at hl
  obtain ⟨i0, hi, hz0, hz1, hz2⟩ := info_of infoPrt
  simp [Builtin.copy_, run_underlying Try.underlying25, Builtin.lenOf, Builtin.firstCells, sizeOf, typeInfo, hi, hz1, hl, hst]
theorem PBlk.row {W : World} {g : Nat} {l : List Prt} (h : PBlk W g l) (m : List Prt) : PBlk (W.setRow g (kPrt.flat m).toArray) g m := setRow_heap W g _ _ 38 (0, 0) h
/-- As far as blank ports were laid. -/
def filP (N : Nat) (fr : Int) (k : Nat) : List Prt := fillL (noP 0) N (fun _ => noP fr) k
theorem filP_len (N : Nat) (fr : Int) (k : Nat) : (filP N fr k).length = N := fillL_len _ _ _ _
theorem filP_0 (N : Nat) (fr : Int) : filP N fr 0 = List.replicate N (noP 0) := fillL_0 _ _ _
theorem filP_set (N : Nat) (fr : Int) (k : Nat) (hk : k < N) : (filP N fr k).set k (noP fr) = filP N fr (k + 1) := fillL_set (noP 0) N (fun _ => noP fr) k hk
theorem filP_all (N : Nat) (fr : Int) : filP N fr N = blkP N fr := by
  unfold filP blkP
  rw [fillL_all]
  apply List.ext_getElem <;> simp
end Go.Proofs.Ytgclabboafdheab

/- Rows of ports and of messages that came in as arguments, and one message, opened: where their parts lie, and that ages and numbers fit int; no conditions. -/
namespace Go.Proofs.Ytgclabboafdheab
open Go.ChangeShapes Go.WideShapes Go.ChangeAt Go.RowKit
set_option linter.unusedVariables false

/-- Rows of ports whose ages fit int. -/
def kPrtz : Kind { q : Prt // (Lit.int .i64 q.ag).wf = true } := ⟨3, fun q => prtC q.1, fun _ => rfl, by intro a u hu; simp [prtC] at hu; rcases hu with rfl | rfl | rfl <;> rfl, by decide⟩
theorem kPrtz_flat (l : List { q : Prt // (Lit.int .i64 q.ag).wf = true }) : kPrtz.flat l = kPrt.flat (l.map Subtype.val) := by
  induction l with
  | nil => rfl
  | cons a l ih => simp only [Kind.flat, List.flatMap_cons, List.map_cons] at ih ⊢; rw [ih]; rfl
section
variable {H : Type} {enc : TypeId × Value → H} {w : World} {base : Nat} {spare : Nat → Bool} {held : Bool}
set_option maxRecDepth 100000 in
theorem dec_prtz (n : Nat) (cs : List Value) (y : DataW H × List MemPlace) (hl : cs.length = kPrtz.k) (h : DataW.trod enc Try.prog w base spare held n 38 cs = some y) : ∃ a, cs = kPrtz.enc a := by
  obtain ⟨c0, c1, c2, rfl⟩ : ∃ c0 c1 c2, cs = [c0, c1, c2] := by
    have h2 : cs.length = 3 := hl
    match cs, h2 with
    | [c0, c1, c2], _ => exact ⟨c0, c1, c2, rfl⟩
  obtain ⟨xs, m, _, _, _, hxl, hfs⟩ := DataW.trod_struct Try.underlying38 h
  have k3 : Try.prog.cellsOf 3 = 1 := by kernel_rfl
  have k9 : Try.prog.cellsOf 9 = 1 := by kernel_rfl
  obtain ⟨y0, q0⟩ := some_of_lt hxl (by decide : 0 < 3) (hfs 0 _ rfl)
  obtain ⟨x0, h0, _, w0⟩ := DataW.trod_string Try.underlying9 (show DataW.trod enc Try.prog w base spare held m 9 [c0] = some y0 by simpa [Value.cells, k9] using q0)
  obtain ⟨y1, q1⟩ := some_of_lt hxl (by decide : 1 < 3) (hfs 1 _ rfl)
  obtain ⟨x1, h1, _, w1⟩ := DataW.trod_int Try.underlying3 (show DataW.trod enc Try.prog w base spare held m 3 [c1] = some y1 by simpa [Value.cells, k3] using q1)
  obtain ⟨y2, q2⟩ := some_of_lt hxl (by decide : 2 < 3) (hfs 2 _ rfl)
  obtain ⟨x2, h2, _, w2⟩ := DataW.trod_int Try.underlying3 (show DataW.trod enc Try.prog w base spare held m 3 [c2] = some y2 by simpa [Value.cells, k3] using q2)
  simp only [List.cons.injEq, and_true] at h0 h1 h2
  subst h0 h1 h2
  exact ⟨⟨⟨x0, x1, x2⟩, w2⟩, rfl⟩
set_option maxRecDepth 100000 in
theorem open_prts {r : Reach} {b0 : Nat} {v : Value} {dt : DataW H} {ps : List MemPlace} (hv : Value.okWide Try.prog w r b0 25 v) (h : DataW.Trod enc Try.prog w base spare held 25 v dt ps) :
    ∃ (ad : Option Addr) (cap : Nat) (es : List Prt), v = .slice ad es.length cap ∧ es.length ≤ 9223372036854775807 ∧ kPrt.Lies w.heap.size w (.slice ad es.length cap) es ∧ agesIn es := by
  obtain ⟨ad, cap, es, rfl, hl, hE⟩ := kPrtz.open_arg Try.underlying25 (by kernel_rfl) dec_prtz hv h
  refine ⟨ad, cap, es.map Subtype.val, by rw [List.length_map], by rw [List.length_map]; exact hl, ?_, ?_⟩
  · obtain ⟨ad', c, hv, h1, h2, h3, hc⟩ := hE
    refine ⟨ad', c, by rw [List.length_map]; exact hv, by rw [List.length_map]; exact h1, h2, h3, fun hj => ?_⟩
    rw [← kPrtz_flat]
    exact hc (by simpa using hj)
  · intro t ht
    obtain ⟨q, _, rfl⟩ := List.mem_map.1 ht
    exact q.2
set_option maxRecDepth 100000 in
theorem dec_dlv (n : Nat) (cs : List Value) (y : DataW H × List MemPlace) (hl : cs.length = kDlv.k) (h : DataW.trod enc Try.prog w base spare held n 27 cs = some y) : ∃ a, cs = kDlv.enc a := by
  obtain ⟨c0, c1, c2, c3, rfl⟩ : ∃ c0 c1 c2 c3, cs = [c0, c1, c2, c3] := by
    have h2 : cs.length = 4 := hl
    match cs, h2 with
    | [c0, c1, c2, c3], _ => exact ⟨c0, c1, c2, c3, rfl⟩
  obtain ⟨xs, m, _, _, _, hxl, hfs⟩ := DataW.trod_struct Try.underlying27 h
  have k3 : Try.prog.cellsOf 3 = 1 := by kernel_rfl
  have k9 : Try.prog.cellsOf 9 = 1 := by kernel_rfl
  obtain ⟨y0, q0⟩ := some_of_lt hxl (by decide : 0 < 4) (hfs 0 _ rfl)
  obtain ⟨x0, h0, _, w0⟩ := DataW.trod_int Try.underlying3 (show DataW.trod enc Try.prog w base spare held m 3 [c0] = some y0 by simpa [Value.cells, k3] using q0)
  obtain ⟨y1, q1⟩ := some_of_lt hxl (by decide : 1 < 4) (hfs 1 _ rfl)
  obtain ⟨x1, h1, _, w1⟩ := DataW.trod_int Try.underlying3 (show DataW.trod enc Try.prog w base spare held m 3 [c1] = some y1 by simpa [Value.cells, k3] using q1)
  obtain ⟨y2, q2⟩ := some_of_lt hxl (by decide : 2 < 4) (hfs 2 _ rfl)
  obtain ⟨x2, h2, _, w2⟩ := DataW.trod_int Try.underlying3 (show DataW.trod enc Try.prog w base spare held m 3 [c2] = some y2 by simpa [Value.cells, k3] using q2)
  obtain ⟨y3, q3⟩ := some_of_lt hxl (by decide : 3 < 4) (hfs 3 _ rfl)
  obtain ⟨x3, h3, _, w3⟩ := DataW.trod_string Try.underlying9 (show DataW.trod enc Try.prog w base spare held m 9 [c3] = some y3 by simpa [Value.cells, k9] using q3)
  simp only [List.cons.injEq, and_true] at h0 h1 h2 h3
  subst h0 h1 h2 h3
  exact ⟨⟨x0, x1, x2, x3⟩, rfl⟩
set_option maxRecDepth 100000 in
theorem open_dlvs {r : Reach} {b0 : Nat} {v : Value} {dt : DataW H} {ps : List MemPlace} (hv : Value.okWide Try.prog w r b0 28 v) (h : DataW.Trod enc Try.prog w base spare held 28 v dt ps) :
    ∃ (ad : Option Addr) (cap : Nat) (es : List Dlv), v = .slice ad es.length cap ∧ es.length ≤ 9223372036854775807 ∧ kDlv.Lies w.heap.size w (.slice ad es.length cap) es :=
  kDlv.open_arg Try.underlying28 (by kernel_rfl) dec_dlv hv h
set_option maxRecDepth 100000 in
theorem open_dlv {r : Reach} {b0 : Nat} {v : Value} {dt : DataW H} {ps : List MemPlace} (hv : Value.okWide Try.prog w r b0 27 v) (h : DataW.Trod enc Try.prog w base spare held 27 v dt ps) :
    ∃ fm sl cy te, v = .agg #[.int .i64 fm, .int .i64 sl, .int .i64 cy, .string te] := by
  have hs := Try.underlying27
  obtain ⟨cs, rfl, hsz⟩ := okWide_struct hs hv
  obtain ⟨l⟩ := cs
  have h2 : l.length = kDlv.k := hsz.trans (by kernel_rfl)
  obtain ⟨fuel, hf⟩ := h
  obtain ⟨a, ha⟩ := dec_dlv fuel l _ h2 (by simpa [Value.cells] using hf)
  obtain ⟨fm, sl, cy, te⟩ := a
  exact ⟨fm, sl, cy, te, by rw [ha]; rfl⟩
end
end Go.Proofs.Ytgclabboafdheab

/- Plain words on a port that fades: what was put stands, and is a pulse older behind each pulse, till it is as old as one that is not fresh any more; no conditions. -/
namespace Go.Proofs.Ytgclabboafdheab
open Go.ChangeShapes Go.WideShapes Go.ChangeAt Go.RowKit
set_option linter.unusedVariables false

/-- How old it is behind k pulses. -/
def agK (fr : Int) (k : Nat) : Int := if (k : Int) < fr then (k : Int) else fr
theorem agK_lt {fr : Int} {k : Nat} (h : (k : Int) < fr) : agK fr k = (k : Int) := if_pos h
theorem agK_ge {fr : Int} {k : Nat} (h : ¬ (k : Int) < fr) : agK fr k = fr := if_neg h
theorem agK_next {fr : Int} (h : 1 ≤ fr) (k : Nat) : satF (agK fr k) fr = agK fr (k + 1) := by
  by_cases h1 : (k : Int) < fr
  · rw [agK_lt h1]
    unfold satF
    rw [if_neg (by omega), if_neg (by omega)]
    by_cases h2 : ((k + 1 : Nat) : Int) < fr
    · rw [agK_lt h2]; omega
    · rw [agK_ge h2]; omega
  · rw [agK_ge h1, agK_ge (by omega)]
    unfold satF
    rw [if_neg (by omega), if_pos (by omega)]
theorem wf_i64b {x : Int} (h : -9223372036854775808 ≤ x ∧ x ≤ 9223372036854775807) : (Lit.int .i64 x).wf = true := by
  simp [Lit.wf, IntKind.min, IntKind.max, IntKind.signed, IntKind.bits]
  omega
theorem satF_bd {x fr : Int} (h : 0 ≤ fr) : 0 ≤ satF x fr ∧ satF x fr ≤ fr := by
  unfold satF
  split
  · omega
  · split <;> omega
/-- N ports that fit int, and the one at f is that text's, as old as k pulses make it. -/
def Fad (N f : Nat) (te : ByteArray) (cy fr : Int) (k : Nat) (M : List Prt) : Prop := M.length = N ∧ agesIn M ∧ M[f]? = some ⟨te, cy, agK fr k⟩
theorem put1_ages {M : List Prt} (h : agesIn M) (q : Dlv) : agesIn (put1 M q) := by
  unfold put1
  split
  · intro p hp
    rcases List.mem_or_eq_of_mem_set hp with h1 | rfl
    · exact h p h1
    · rfl
  · exact h
theorem oldP_ages {fr : Int} (h0 : 0 ≤ fr) (h1 : fr ≤ 1000) (M : List Prt) : agesIn (oldP fr M) := by
  intro p hp
  unfold oldP at hp
  obtain ⟨q, _, rfl⟩ := List.mem_map.1 hp
  have := satF_bd (x := q.ag) h0
  exact wf_i64b (by show -9223372036854775808 ≤ satF q.ag fr ∧ satF q.ag fr ≤ 9223372036854775807; omega)
theorem Fad.first {N f : Nat} {te : ByteArray} {cy fr sl : Int} {L : List Prt} (hf : f < N) (hl : L.length = N) (ha : agesIn L) (hfr : 1 ≤ fr) : Fad N f te cy fr 0 (put1 L ⟨(f : Int), sl, cy, te⟩) := by
  refine ⟨by rw [put1_len, hl], put1_ages ha _, ?_⟩
  rw [put1_in (d := ⟨(f : Int), sl, cy, te⟩) rfl (by omega), List.getElem?_set_self (by omega), agK_lt (by omega)]
  rfl
theorem Fad.other {N f : Nat} {te : ByteArray} {cy fr : Int} {k : Nat} {M : List Prt} (h : Fad N f te cy fr k M) {q : Dlv} (hq : ¬ q.fm = (f : Int)) : Fad N f te cy fr k (put1 M q) := by
  obtain ⟨h1, h2, h3⟩ := h
  refine ⟨by rw [put1_len, h1], put1_ages h2 _, ?_⟩
  by_cases hr : 0 ≤ q.fm ∧ q.fm < (M.length : Int)
  · obtain ⟨z, hz⟩ := Int.eq_ofNat_of_zero_le hr.1
    rw [put1_in hz (by omega), List.getElem?_set_ne (by omega)]
    exact h3
  · rw [put1_out hr]
    exact h3
theorem Fad.old {N f : Nat} {te : ByteArray} {cy fr : Int} {k : Nat} {M : List Prt} (h : Fad N f te cy fr k M) (h0 : 1 ≤ fr) (h1 : fr ≤ 1000) : Fad N f te cy fr (k + 1) (oldP fr M) := by
  obtain ⟨a1, a2, a3⟩ := h
  refine ⟨by rw [oldP_len, a1], oldP_ages (by omega) h1 M, ?_⟩
  unfold oldP
  rw [List.getElem?_map, a3]
  show some (old1 fr ⟨te, cy, agK fr k⟩) = _
  unfold old1
  dsimp only
  rw [agK_next h0]
theorem Fad.read {N f : Nat} {te : ByteArray} {cy fr : Int} {k : Nat} {M : List Prt} (h : Fad N f te cy fr k M) (hf : f < N) : rdB fr M (f : Int) = decide ((k : Int) < fr) ∧ ((k : Int) < fr → rdT fr M (f : Int) = te ∧ rdC fr M (f : Int) = cy) := by
  obtain ⟨a1, a2, a3⟩ := h
  have hlt : f < M.length := by omega
  have hg : M[f] = ⟨te, cy, agK fr k⟩ := by
    rw [List.getElem?_eq_getElem hlt] at a3
    exact Option.some.inj a3
  have hgd : M.getD f (noP 0) = ⟨te, cy, agK fr k⟩ := by rw [List.getD_eq_getElem?_getD, a3]; rfl
  have e : rdB fr M (f : Int) = decide ((k : Int) < fr) := by
    rw [rdB_in hlt, hg]
    unfold frsB
    dsimp only
    by_cases h1 : (k : Int) < fr
    · rw [agK_lt h1, decide_eq_true h1, decide_eq_true (by omega)]; rfl
    · rw [agK_ge h1, decide_eq_false h1, decide_eq_false (show ¬ fr < fr by omega), Bool.and_false]
  refine ⟨e, fun h1 => ?_⟩
  obtain ⟨r1, r2⟩ := rd_yes (fr := fr) (l := M) (z := (f : Int)) (e.trans (decide_eq_true h1))
  rw [Int.toNat_natCast, hgd] at r1 r2
  exact ⟨r1, r2⟩
end Go.Proofs.Ytgclabboafdheab

/- What messages and pulses do with a port in package port: the calls return what plain functions give, and make at most new memory; conditions: numbers fit int. -/
namespace Go.Proofs.Ytgclabboafdheab
open Go.ChangeShapes Go.WideShapes Go.ChangeAt Go.RowKit
set_option linter.unusedVariables false
attribute [local go_sem] cell_rg

theorem lBlank_any (fr : Int) (w : World) :
    Calls Try.prog 21 #[.agg #[.int .i64 fr]] w fun e w' => e = .returned (.agg #[.string ⟨#[]⟩, .int .i64 0, .int .i64 fr]) ∧ Below w.heap.size w w' := by
  have HB := hidden (bthen (ballc w (.cells #[.int .i64 fr] 45)) (ballc _ (.cells #[.string ⟨#[]⟩, .int .i64 0, .int .i64 fr] 38)))
  go_enter Try.func21, Try.ntmps21
  go_wp2
  refine bodyPost_ret (v := .agg #[.string ⟨#[]⟩, .int .i64 0, .int .i64 fr]) (by simp [results, Try.results21, go_sem]) rfl ⟨rfl, ?_⟩
  exact HB.out
theorem lPut_any (fr fm sl cy : Int) (te : ByteArray) (w : World) :
    Calls Try.prog 17 #[.agg #[.int .i64 fr], .agg #[.int .i64 fm, .int .i64 sl, .int .i64 cy, .string te]] w fun e w' => e = .returned (.agg #[.string te, .int .i64 cy, .int .i64 0]) ∧ Below w.heap.size w w' := by
  have HB := hidden (bthen (ballc w (.cells #[.int .i64 fr] 45)) (bthen (ballc _ (.cells #[.int .i64 fm, .int .i64 sl, .int .i64 cy, .string te] 27)) (ballc _ (.cells #[.string te, .int .i64 cy, .int .i64 0] 38))))
  go_enter Try.func17, Try.ntmps17
  go_wp2
  refine bodyPost_ret (v := .agg #[.string te, .int .i64 cy, .int .i64 0]) (by simp [results, Try.results17, go_sem]) rfl ⟨rfl, ?_⟩
  exact HB.out
theorem lOlder_any (fr : Int) (te : ByteArray) (cy ag : Int) (w : World) (hf : (Lit.int .i64 fr).wf = true) (ha : (Lit.int .i64 ag).wf = true) :
    Calls Try.prog 19 #[.agg #[.int .i64 fr], .agg #[.string te, .int .i64 cy, .int .i64 ag]] w fun e w' => e = .returned (.agg #[.string te, .int .i64 cy, .int .i64 (satF ag fr)]) ∧ Below w.heap.size w w' := by
  have CS := hidden (fun V => sat_any ag fr V ha hf)
  generalize satF ag fr = R at *
  go_enter Try.func19, Try.ntmps19
  go_wp2_with fail
  refine (CS.out _).mono ?_
  rintro e w1 ⟨rfl, rfl⟩
  go_wp2
  refine bodyPost_ret (v := .agg #[.string te, .int .i64 cy, .int .i64 R]) (by simp [results, Try.results19, go_sem]) rfl ⟨rfl, ?_⟩
  exact bthen (ballc w _) (bthen (ballc _ _) (ballc _ _))
theorem lHolds_any (fr : Int) (te : ByteArray) (cy ag : Int) (w : World) :
    Calls Try.prog 18 #[.agg #[.int .i64 fr], .agg #[.string te, .int .i64 cy, .int .i64 ag]] w fun e w' => e = .returned (.bool (frsB fr ⟨te, cy, ag⟩)) ∧ Below w.heap.size w w' := by
  have HB := hidden (bthen (ballc w (.cells #[.int .i64 fr] 45)) (ballc _ (.cells #[.string te, .int .i64 cy, .int .i64 ag] 38)))
  have HR : Hid (frsB fr ⟨te, cy, ag⟩ = (decide (0 ≤ ag) && decide (ag < fr))) := rfl
  by_cases h0 : 0 ≤ ag
  · have d0 : decide (0 ≤ ag) = true := decide_eq_true h0
    rw [d0, Bool.true_and] at HR
    go_enter Try.func18, Try.ntmps18
    go_wp2
    go_ret
    exact ⟨ret_b HR.out.symm, HB.out⟩
  · have d0 : decide (0 ≤ ag) = false := decide_eq_false h0
    rw [d0, Bool.false_and] at HR
    go_enter Try.func18, Try.ntmps18
    go_wp2
    go_ret
    exact ⟨ret_b HR.out.symm, HB.out⟩
theorem lHas_any (fr : Int) (a2 : Option Addr) (m c2 : Nat) (z : Int) (w : World) :
    Calls Try.prog 16 #[.agg #[.int .i64 fr, .slice a2 m c2], .int .i64 z] w fun e w' => e = .returned (.bool (decide (0 ≤ z) && decide (z < (m : Int)))) ∧ Below w.heap.size w w' := by
  have HB := hidden (ballc w (.cells #[.int .i64 fr, .slice a2 m c2] 47))
  by_cases h0 : 0 ≤ z
  · have d0 : decide (0 ≤ z) = true := decide_eq_true h0
    rw [d0, Bool.true_and]
    go_enter Try.func16, Try.ntmps16
    go_wp2
    go_ret
    exact ⟨rfl, HB.out⟩
  · have d0 : decide (0 ≤ z) = false := decide_eq_false h0
    rw [d0, Bool.false_and]
    go_enter Try.func16, Try.ntmps16
    go_wp2
    go_ret
    exact ⟨rfl, HB.out⟩
end Go.Proofs.Ytgclabboafdheab

/- The small calls of package conf (rounds, length, hold) return what they say, by numbers that wrap round, and make at most new memory; no conditions. -/
namespace Go.Proofs.Ytgclabboafdheab
open Go.ChangeShapes Go.WideShapes Go.ChangeAt Go.RowKit
set_option linter.unusedVariables false
attribute [local go_sem] cell_rg

theorem cRounds_any (n f d p r dr o sl md fr : Int) (ad : Option Addr) (cap : Nat) (zs : List Int) (w : World) :
    Calls Try.prog 27 #[.agg #[.int .i64 n, .int .i64 f, .int .i64 d, .int .i64 p, .int .i64 r, .int .i64 dr, .int .i64 o, .int .i64 sl, .int .i64 md, .int .i64 fr, .slice ad zs.length cap]] w fun e w' => e = .returned (.int .i64 (roundsW f)) ∧ Below w.heap.size w w' := by
  go_enter Try.func27, Try.ntmps27
  go_wp2
  go_ret
  exact ⟨rfl, ballc _ _⟩

theorem cLength_any (n f d p r dr o sl md fr : Int) (ad : Option Addr) (cap : Nat) (zs : List Int) (w : World) :
    Calls Try.prog 26 #[.agg #[.int .i64 n, .int .i64 f, .int .i64 d, .int .i64 p, .int .i64 r, .int .i64 dr, .int .i64 o, .int .i64 sl, .int .i64 md, .int .i64 fr, .slice ad zs.length cap]] w fun e w' => e = .returned (.int .i64 (lengthW f d)) ∧ Below w.heap.size w w' := by
  go_enter Try.func26, Try.ntmps26
  go_wp2
  refine wp_region_quiet_below (by kernel_rfl) (by kernel_rfl) ?_
  repeat (first | (go_big_quiet_step (exact Calls.regrown_of (cRounds_any _ _ _ _ _ _ _ _ _ _ _ _ _ _))) | quiet_step (exact Calls.regrown_of (cRounds_any _ _ _ _ _ _ _ _ _ _ _ _ _ _)))
  refine wpQuiet_nil ?_
  intro _ hw'
  have hb1 := rg_below hw'
  clear hw'
  go_wp2
  go_ret
  exact ⟨rfl, bthen (ballc _ _) hb1⟩

theorem hold_any (a b x : Int) (w : World) :
    Calls Try.prog 24 #[.agg #[.int .i64 a, .int .i64 b], .int .i64 x] w fun e w' => e = .returned (.bool (decide (a ≤ x ∧ x ≤ b))) ∧ Below w.heap.size w w' := by
  by_cases h1 : a ≤ x
  · by_cases h2 : x ≤ b
    all_goals
      go_enter Try.func24, Try.ntmps24
      go_wp2
      go_ret
      exact ⟨ret_b (by simp [h1, h2]), ballc _ _⟩
  · have h1' : decide (a ≤ x) = false := by simp [h1]
    go_enter Try.func24, Try.ntmps24
    go_wp2
    go_ret
    exact ⟨ret_b (by simp), ballc _ _⟩
end Go.Proofs.Ytgclabboafdheab
