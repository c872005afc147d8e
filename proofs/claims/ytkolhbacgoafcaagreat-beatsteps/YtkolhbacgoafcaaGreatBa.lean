/- Several texts of one's own in one: what each proves, and its conditions, is said ahead of it. -/
import Derived.Test.YtkolhbacgoafcaaGreatRows
import Derived.WalkKit
import Derived.ProofKit
import Derived.OpenShut
import Derived.ShutString
import Derived.WalkLawsBesides
import Derived.Lib.QuietBelow
import Derived.BigQuiet
import Derived.Lib.SmallJoins
import Derived.Deep.RegionHeld3
import Derived.Deep.DrawnRows
import Derived.Laws.OwnMore
import Derived.Laws.AppendOwnNone
import Derived.Maps.AppendAt
import Derived.OwnWalkIn
import Derived.Deep.Slices
import Derived.ChangeSame
import Derived.Deep.OwnRows

/- Plain words on worlds that grow: what lay there stays, and the box of a call's own; no conditions. -/
namespace Go.Proofs.YtkolhbacgoafcaaGreat
open Go.ChangeShapes Go.WideShapes Go.ChangeAt Go.RowKit
set_option linter.unusedVariables false

/-- An integer of a value. -/
def intV : Value → Int | .int _ q => q | _ => 0
theorem bd64 {x : Int} (h : (Lit.int .i64 x).wf = true) : -9223372036854775808 ≤ x ∧ x ≤ 9223372036854775807 := by
  have := bounds_i64 h
  omega
theorem ret_i {a b : Int} (h : a = b) : Ending.returned (.int .i64 a) = .returned (.int .i64 b) := by rw [h]
theorem ret_b {a b : Bool} (h : a = b) : Ending.returned (.bool a) = .returned (.bool b) := by rw [h]
/-- Below from a world that has grown behind another one. -/
theorem bthen {w w1 w2 : World} (h : Below w.heap.size w w1) (k : Below w1.heap.size w1 w2) : Below w.heap.size w w2 :=
  h.trans (k.mono h.size)
theorem ballc (w : World) (ob : Obj) : Below w.heap.size w (w.alloc ob) := (Below.refl _ _).alloc (Nat.le_refl _) _
/-- A region's world, grown by calls: what lay there reads as it did. -/
theorem cell_rg (w : World) (dq : Nat) (os : Array Obj) (a : Addr) (h : a.block < w.heap.size) : (Sort.grow (redrawn w dq) os).cell? a = w.cell? a := (below_regrown w dq os).cell h
theorem rg_below {W w' : World} (h : ∃ q : Regrown, w' = Sort.grow (redrawn W q.d) q.os) : Below W.heap.size W w' := by
  obtain ⟨⟨dq, os⟩, rfl⟩ := h
  exact below_regrown W dq os
/-- A box of the call's own, in a later world. -/
theorem box_at {w wl : World} {C : Array Value} {t : TypeId} (hb : Below (w.alloc (.cells C t)).heap.size (w.alloc (.cells C t)) wl) : (∀ i, wl.cell? ⟨w.heap.size, i, none⟩ = C[i]?) ∧ w.heap.size < wl.heap.size := by
  have hs := hb.size
  simp at hs
  refine ⟨fun i => ?_, by omega⟩
  rw [hb.cell (p := ⟨w.heap.size, i, none⟩) (by simp)]
  exact World.cell?_alloc_mark w C t _ i
theorem Calls.to_below {P : Program} {F : FuncId} {args : Array Value} {w : World} {v : Value} (h : Calls P F args w fun e w' => e = .returned v ∧ w = w') : Calls P F args w fun e w' => e = .returned v ∧ Below w.heap.size w w' :=
  h.mono fun _ _ ⟨he, hw⟩ => ⟨he, by rw [← hw]; exact Below.refl _ _⟩
theorem hidden {q : Prop} (h : q) : Hid q := h
theorem Hid.out {q : Prop} (h : Hid q) : q := h
end Go.Proofs.YtkolhbacgoafcaaGreat

/- Plain words on configurations: what lies in a table, what stays when memory grows, and the numbers that the rules of a configuration ask for; no conditions. -/
namespace Go.Proofs.YtkolhbacgoafcaaGreat
open Go.ChangeShapes Go.WideShapes Go.ChangeAt Go.RowKit
set_option linter.unusedVariables false

theorem bcell {W w1 : World} (hb : Below W.heap.size W w1) : (∀ b i, b < W.heap.size → w1.cell? ⟨b, i, none⟩ = W.cell? ⟨b, i, none⟩) ∧ (∀ b i, b < W.heap.size → w1.frozen? ⟨b, i, none⟩ = W.frozen? ⟨b, i, none⟩) :=
  ⟨fun b i h => hb.cell (p := ⟨b, i, none⟩) h, fun b i h => hb.frozen (p := ⟨b, i, none⟩) h⟩

/-- A table's numbers lie behind its address. -/
def Tab (w : World) (ad : Option Addr) (zs : List Int) : Prop := ∀ i, i < zs.length → ∃ a : Addr, ad = some a ∧ w.cell? (a.add i) = some (.int .i64 (zs.getD i 0))
theorem Tab.below {w w' : World} {ad : Option Addr} {zs : List Int} (h : Tab w ad zs) (hb : Below w.heap.size w w') : Tab w' ad zs := by
  intro i hi
  obtain ⟨a, ha, hc⟩ := h i hi
  exact ⟨a, ha, by rw [hb.cell (block_lt_of_cell hc)]; exact hc⟩
theorem Tab.at {w : World} {a : Addr} {zs : List Int} (h : Tab w (some a) zs) (i : Nat) (hi : i < zs.length) : w.cell? (a.add i) = some (.int .i64 (zs.getD i 0)) := by
  obtain ⟨a', ha, hc⟩ := h i hi
  cases ha
  exact hc


/-- A table's cell, where it lies, and that it lies there. -/
theorem Tab.lies {w : World} {ad : Option Addr} {zs : List Int} (h : Tab w ad zs) (i : Nat) (hi : i < zs.length) : ∃ a : Addr, ad = some a ∧ w.cell? (a.add i) = some (.int .i64 (zs.getD i 0)) ∧ (a.add i).block < w.heap.size := by
  obtain ⟨a, ha, hc⟩ := h i hi
  exact ⟨a, ha, hc, block_lt_of_cell hc⟩
theorem Calls.to_belowR {P : Program} {F : FuncId} {args : Array Value} {w : World} {v : Value} (h : Calls P F args w fun e w' => e = .returned v ∧ w' = w) : Calls P F args w fun e w' => e = .returned v ∧ Below w.heap.size w w' :=
  h.mono fun _ _ ⟨he, hw⟩ => ⟨he, by rw [hw]; exact Below.refl _ _⟩

def roundsW (f : Int) : Int := wrap64 (3 * wrap64 (f + 1))
def lengthW (f d : Int) : Int := wrap64 (roundsW f * d)
theorem roundsW_eq {f : Int} (h1 : 0 ≤ f) (h2 : f ≤ 4) : roundsW f = 3 * (f + 1) := by
  unfold roundsW wrap64; omega
theorem lengthW_eq {f d : Int} (h1 : 0 ≤ f) (h2 : f ≤ 4) (h3 : 1 ≤ d) (h4 : d ≤ 4) : lengthW f d = 3 * (f + 1) * d := by
  have hp : 0 ≤ (3 * (f + 1)) * d := Int.mul_nonneg (by omega) (by omega)
  have hq : (3 * (f + 1)) * d ≤ 15 * 4 := Int.mul_le_mul (by omega) h4 (by omega) (by omega)
  unfold lengthW
  rw [roundsW_eq h1 h2]
  unfold wrap64; omega
end Go.Proofs.YtkolhbacgoafcaaGreat

/- A configuration that came in as an argument, opened: ten numbers, and a table that lies behind its address; no conditions. -/
namespace Go.Proofs.YtkolhbacgoafcaaGreat
open Go.ChangeShapes Go.WideShapes Go.ChangeAt Go.RowKit
set_option linter.unusedVariables false

theorem array11 {α : Type} {cs : Array α} (h : cs.size = 11) : ∃ c0 c1 c2 c3 c4 c5 c6 c7 c8 c9 c10, cs = #[c0, c1, c2, c3, c4, c5, c6, c7, c8, c9, c10] := by
  obtain ⟨l⟩ := cs
  match l, h with
  | [c0, c1, c2, c3, c4, c5, c6, c7, c8, c9, c10], _ => exact ⟨c0, c1, c2, c3, c4, c5, c6, c7, c8, c9, c10, rfl⟩
theorem some_of_lt {α : Type} {xs : List α} {i m : Nat} {x : Option α} (h : xs.length = m) (hi : i < m) (e : x = xs[i]?) : ∃ y, x = some y := by
  subst h
  exact ⟨_, by rw [e, List.getElem?_eq_getElem hi]⟩

section
variable {H : Type} {enc : TypeId × Value → H} {w : World} {base : Nat} {spare : Nat → Bool} {held : Bool}
set_option maxRecDepth 100000 in
/-- A row of numbers that came in: where its cells lie. -/
theorem open_row {fuel : Nat} {c : Value} {x : DataW H × List MemPlace} (h : DataW.trod enc Tryz.prog w base spare held fuel 22 [c] = some x) :
    ∃ (ad : Option Addr) (cap : Nat) (zs : List Int), c = .slice ad zs.length cap ∧ zs.length ≤ 9223372036854775807 ∧ Tab w ad zs ∧ (∀ z ∈ zs, (Lit.int .i64 z).wf = true) := by
  rcases open_ints Tryz.underlying22 Tryz.underlying3 (by kernel_rfl) h with ⟨hcs, _⟩ | ⟨a, len, cap, zs, hcs, _, hl, hm, hz, _, hcell, hw⟩
  · exact ⟨none, 0, [], by simpa using hcs, by simp, fun i hi => absurd hi (Nat.not_lt_zero _), fun z hz => by cases hz⟩
  · unfold maxLen at hm
    have hle : len ≤ zs.length := by rw [hz]; split <;> omega
    have hlen : (zs.take len).length = len := by rw [List.length_take]; omega
    refine ⟨some a, cap, zs.take len, ?_, by omega, ?_, fun z hz => hw z (List.mem_of_mem_take hz)⟩
    · rw [hlen]; simpa using hcs
    · intro i hi
      rw [hlen] at hi
      refine ⟨a, rfl, ?_⟩
      rw [hcell i (by omega)]
      simp [List.getD_eq_getElem?_getD, hi]
set_option maxRecDepth 100000 in
theorem open_row_arg {r : Reach} {b0 : Nat} {v : Value} {dt : DataW H} {ps : List MemPlace} (hv : Value.okWide Tryz.prog w r b0 22 v) (h : DataW.Trod enc Tryz.prog w base spare held 22 v dt ps) :
    ∃ (ad : Option Addr) (cap : Nat) (zs : List Int), v = .slice ad zs.length cap ∧ zs.length ≤ 9223372036854775807 ∧ Tab w ad zs ∧ (∀ z ∈ zs, (Lit.int .i64 z).wf = true) := by
  obtain ⟨x, y, c, rfl⟩ := okWide_slice Tryz.underlying22 hv
  obtain ⟨fu, hf⟩ := h
  exact open_row (by simpa [Value.cells] using hf)
set_option maxRecDepth 100000 in
theorem open_conf {r : Reach} {b0 : Nat} {v : Value} {dt : DataW H} {ps : List MemPlace} (hv : Value.okWide Tryz.prog w r b0 24 v) (h : DataW.Trod enc Tryz.prog w base spare held 24 v dt ps) :
    ∃ (n f d p r dr o sl md fr : Int) (ad : Option Addr) (cap : Nat) (zs : List Int), v = .agg #[.int .i64 n, .int .i64 f, .int .i64 d, .int .i64 p, .int .i64 r, .int .i64 dr, .int .i64 o, .int .i64 sl, .int .i64 md, .int .i64 fr, .slice ad zs.length cap] ∧ zs.length ≤ 9223372036854775807 ∧ Tab w ad zs := by
  have hs := Tryz.underlying24
  obtain ⟨cs, rfl, hsz⟩ := okWide_struct hs hv
  obtain ⟨c0, c1, c2, c3, c4, c5, c6, c7, c8, c9, c10, rfl⟩ := array11 (hsz.trans (by kernel_rfl))
  obtain ⟨fuel, hf⟩ := h
  obtain ⟨xs, m, _, _, _, hxl, hfs⟩ := DataW.trod_struct hs hf
  have k3 : Tryz.prog.cellsOf 3 = 1 := by kernel_rfl
  have k22 : Tryz.prog.cellsOf 22 = 1 := by kernel_rfl
  obtain ⟨y0, q0⟩ := some_of_lt hxl (by decide : 0 < 11) (hfs 0 _ rfl)
  have z0 : DataW.trod enc Tryz.prog w base spare held m 3 [c0] = some y0 := by simpa [Value.cells, k3] using q0
  obtain ⟨x0, h0, _⟩ := DataW.trod_int Tryz.underlying3 z0
  simp only [List.cons.injEq, and_true] at h0
  subst h0
  obtain ⟨y1, q1⟩ := some_of_lt hxl (by decide : 1 < 11) (hfs 1 _ rfl)
  have z1 : DataW.trod enc Tryz.prog w base spare held m 3 [c1] = some y1 := by simpa [Value.cells, k3] using q1
  obtain ⟨x1, h1, _⟩ := DataW.trod_int Tryz.underlying3 z1
  simp only [List.cons.injEq, and_true] at h1
  subst h1
  obtain ⟨y2, q2⟩ := some_of_lt hxl (by decide : 2 < 11) (hfs 2 _ rfl)
  have z2 : DataW.trod enc Tryz.prog w base spare held m 3 [c2] = some y2 := by simpa [Value.cells, k3] using q2
  obtain ⟨x2, h2, _⟩ := DataW.trod_int Tryz.underlying3 z2
  simp only [List.cons.injEq, and_true] at h2
  subst h2
  obtain ⟨y3, q3⟩ := some_of_lt hxl (by decide : 3 < 11) (hfs 3 _ rfl)
  have z3 : DataW.trod enc Tryz.prog w base spare held m 3 [c3] = some y3 := by simpa [Value.cells, k3] using q3
  obtain ⟨x3, h3, _⟩ := DataW.trod_int Tryz.underlying3 z3
  simp only [List.cons.injEq, and_true] at h3
  subst h3
  obtain ⟨y4, q4⟩ := some_of_lt hxl (by decide : 4 < 11) (hfs 4 _ rfl)
  have z4 : DataW.trod enc Tryz.prog w base spare held m 3 [c4] = some y4 := by simpa [Value.cells, k3] using q4
  obtain ⟨x4, h4, _⟩ := DataW.trod_int Tryz.underlying3 z4
  simp only [List.cons.injEq, and_true] at h4
  subst h4
  obtain ⟨y5, q5⟩ := some_of_lt hxl (by decide : 5 < 11) (hfs 5 _ rfl)
  have z5 : DataW.trod enc Tryz.prog w base spare held m 3 [c5] = some y5 := by simpa [Value.cells, k3] using q5
  obtain ⟨x5, h5, _⟩ := DataW.trod_int Tryz.underlying3 z5
  simp only [List.cons.injEq, and_true] at h5
  subst h5
  obtain ⟨y6, q6⟩ := some_of_lt hxl (by decide : 6 < 11) (hfs 6 _ rfl)
  have z6 : DataW.trod enc Tryz.prog w base spare held m 3 [c6] = some y6 := by simpa [Value.cells, k3] using q6
  obtain ⟨x6, h6, _⟩ := DataW.trod_int Tryz.underlying3 z6
  simp only [List.cons.injEq, and_true] at h6
  subst h6
  obtain ⟨y7, q7⟩ := some_of_lt hxl (by decide : 7 < 11) (hfs 7 _ rfl)
  have z7 : DataW.trod enc Tryz.prog w base spare held m 3 [c7] = some y7 := by simpa [Value.cells, k3] using q7
  obtain ⟨x7, h7, _⟩ := DataW.trod_int Tryz.underlying3 z7
  simp only [List.cons.injEq, and_true] at h7
  subst h7
  obtain ⟨y8, q8⟩ := some_of_lt hxl (by decide : 8 < 11) (hfs 8 _ rfl)
  have z8 : DataW.trod enc Tryz.prog w base spare held m 3 [c8] = some y8 := by simpa [Value.cells, k3] using q8
  obtain ⟨x8, h8, _⟩ := DataW.trod_int Tryz.underlying3 z8
  simp only [List.cons.injEq, and_true] at h8
  subst h8
  obtain ⟨y9, q9⟩ := some_of_lt hxl (by decide : 9 < 11) (hfs 9 _ rfl)
  have z9 : DataW.trod enc Tryz.prog w base spare held m 3 [c9] = some y9 := by simpa [Value.cells, k3] using q9
  obtain ⟨x9, h9, _⟩ := DataW.trod_int Tryz.underlying3 z9
  simp only [List.cons.injEq, and_true] at h9
  subst h9
  obtain ⟨y10, q10⟩ := some_of_lt hxl (by decide : 10 < 11) (hfs 10 _ rfl)
  have z10 : DataW.trod enc Tryz.prog w base spare held m 22 [c10] = some y10 := by simpa [Value.cells, k22] using q10
  obtain ⟨ad, cap, zs, h10, hl, hT, _⟩ := open_row z10
  subst h10
  exact ⟨x0, x1, x2, x3, x4, x5, x6, x7, x8, x9, ad, cap, zs, rfl, hl, hT⟩
end
end Go.Proofs.YtkolhbacgoafcaaGreat

/- Plain words on rows in memory, whatever their elements are: where they lie, their cells, what is cut off, what is appended; no conditions. -/
namespace Go.Proofs.YtkolhbacgoafcaaGreat
open Go.ChangeShapes Go.WideShapes Go.ChangeAt Go.RowKit
set_option linter.unusedVariables false

/-- A kind of elements: how many cells one has, and which. -/
structure Kind (α : Type) where
  k : Nat
  enc : α → List Value
  len : ∀ a, (enc a).length = k
  one : ∀ a, ∀ u ∈ enc a, u.oneCell' = true
  pos : 0 < k
namespace Kind
variable {α : Type} (K : Kind α)
def flat (es : List α) : List Value := es.flatMap K.enc
theorem flat_length (es : List α) : (K.flat es).length = es.length * K.k := by
  induction es with
  | nil => simp [flat]
  | cons a l ih => simp only [flat, List.flatMap_cons, List.length_append, K.len, List.length_cons] at ih ⊢; rw [ih, Nat.add_mul]; omega
theorem flat_append (es fs : List α) : K.flat (es ++ fs) = K.flat es ++ K.flat fs := by simp [flat]
theorem flat_one (es : List α) : ∀ u ∈ K.flat es, u.oneCell' = true := by
  intro u hu
  simp only [flat, List.mem_flatMap] at hu
  obtain ⟨e, _, hu⟩ := hu
  exact K.one e u hu
theorem flat_drop (es : List α) (n : Nat) (hn : n ≤ es.length) : K.flat (es.drop n) = (K.flat es).drop (n * K.k) := by
  have h : K.flat es = K.flat (es.take n) ++ K.flat (es.drop n) := by rw [← flat_append, List.take_append_drop]
  have hl : (K.flat (es.take n)).length = n * K.k := by rw [flat_length, List.length_take, Nat.min_eq_left hn]
  rw [h, ← hl, List.drop_left]
theorem flat_take (es : List α) (n : Nat) (hn : n ≤ es.length) : K.flat (es.take n) = (K.flat es).take (n * K.k) := by
  have h : K.flat es = K.flat (es.take n) ++ K.flat (es.drop n) := by rw [← flat_append, List.take_append_drop]
  have hl : (K.flat (es.take n)).length = n * K.k := by rw [flat_length, List.length_take, Nat.min_eq_left hn]
  rw [h, ← hl, List.take_left]
theorem flat_get (es : List α) (j : Nat) (hj : j < es.length) (i : Nat) (hi : i < K.k) : (K.flat es)[j * K.k + i]? = (K.enc es[j])[i]? := by
  have h1 := K.flat_drop es j (by omega)
  have h2 : (K.flat (es.drop j))[i]? = (K.enc es[j])[i]? := by
    rw [List.drop_eq_getElem_cons hj]
    simp only [flat, List.flatMap_cons]
    rw [List.getElem?_append_left (by rw [K.len]; exact hi)]
  rw [← h2, h1, List.getElem?_drop]

/-- A row lies in memory, below a bound. -/
def Lies (n₀ : Nat) (W : World) (sv : Value) (es : List α) : Prop :=
  ∃ (ad : Option Addr) (cap : Nat), sv = .slice ad es.length cap ∧ es.length ≤ cap ∧ cap ≤ maxLen ∧ (ad = none → cap = 0) ∧
    (0 < es.length → ∃ b off : Nat, ad = some ⟨b, off, none⟩ ∧ b < n₀ ∧ ∀ j u, (K.flat es)[j]? = some u → W.cell? ⟨b, off + j, none⟩ = some u)
variable {K}
theorem Lies.below {n₀ : Nat} {A B : World} {sv : Value} {es : List α} (h : K.Lies n₀ A sv es) (hb : Below n₀ A B) : K.Lies n₀ B sv es := by
  obtain ⟨ad, cap, e, h1, h2, h3, hc⟩ := h
  refine ⟨ad, cap, e, h1, h2, h3, fun hj => ?_⟩
  obtain ⟨b, off, ea, hbl, c⟩ := hc hj
  exact ⟨b, off, ea, hbl, fun j u hu => (hb.cell (p := ⟨b, off + j, none⟩) hbl).trans (c j u hu)⟩
theorem Lies.mono {n₀ n₁ : Nat} {W : World} {sv : Value} {es : List α} (h : K.Lies n₀ W sv es) (hn : n₀ ≤ n₁) : K.Lies n₁ W sv es := by
  obtain ⟨ad, cap, e, h1, h2, h3, hc⟩ := h
  refine ⟨ad, cap, e, h1, h2, h3, fun hj => ?_⟩
  obtain ⟨b, off, ea, hbl, c⟩ := hc hj
  exact ⟨b, off, ea, by omega, c⟩
theorem Lies.later {A B : World} {sv : Value} {es : List α} (h : K.Lies A.heap.size A sv es) (hb : Below A.heap.size A B) : K.Lies B.heap.size B sv es := (h.below hb).mono hb.size
theorem Lies.nil (n₀ : Nat) (W : World) : K.Lies n₀ W (.slice none 0 0) [] := ⟨none, 0, rfl, Nat.le_refl _, Nat.zero_le _, fun _ => rfl, fun hj => absurd hj (Nat.not_lt_zero _)⟩
theorem Lies.of_own {W : World} {base : Nat} {e : TypeId} {v : Value} {es : List α} (h : W.ownsRow base e K.k v es.length (K.flat es)) : K.Lies W.heap.size W v es := by
  obtain ⟨_, ⟨rfl, h0⟩ | ⟨g, cap, cur, rfl, hb, hg, h1, h2, h3, h4⟩⟩ := h
  · have : es = [] := List.length_eq_zero_iff.1 h0
    subst this
    exact Lies.nil _ _
  · refine ⟨_, cap, rfl, h1, h2, fun h => (by cases h), fun hj => ?_⟩
    have hlt : g < W.heap.size := (Array.getElem?_eq_some_iff.1 hg).1
    refine ⟨g, 0, rfl, hlt, fun j u hu => ?_⟩
    rw [← h4, List.getElem?_take] at hu
    split at hu
    · simpa [World.cell?, hg] using hu
    · cases hu
theorem Lies.drop {n₀ : Nat} {W : World} {b off len cap : Nat} {es : List α} (h : K.Lies n₀ W (.slice (some ⟨b, off, none⟩) len cap) es) (n : Nat) (hn : n ≤ es.length) : K.Lies n₀ W (.slice (some ⟨b, off + n * K.k, none⟩) (len - n) (cap - n)) (es.drop n) := by
  obtain ⟨ad, c, hv, h1, h2, h3, hc⟩ := h
  obtain ⟨rfl, rfl, rfl⟩ : some _ = ad ∧ len = _ ∧ cap = _ := by simpa using hv
  refine ⟨some ⟨b, off + n * K.k, none⟩, cap - n, by rw [List.length_drop], by rw [List.length_drop]; omega, by omega, fun h => (by cases h), fun hj => ?_⟩
  obtain ⟨b', off', he, hb, c⟩ := hc (by simp at hj; omega)
  cases he
  refine ⟨_, _, rfl, hb, fun j u hu => ?_⟩
  rw [K.flat_drop es n hn, List.getElem?_drop] at hu
  rw [Nat.add_assoc]
  exact c _ _ hu
theorem Lies.take {n₀ : Nat} {W : World} {ad : Option Addr} {len cap : Nat} {es : List α} (h : K.Lies n₀ W (.slice ad len cap) es) (n : Nat) (hn : n ≤ es.length) : K.Lies n₀ W (.slice ad n cap) (es.take n) := by
  obtain ⟨ad', c, hv, h1, h2, h3, hc⟩ := h
  obtain ⟨rfl, rfl, rfl⟩ : ad = ad' ∧ len = _ ∧ cap = _ := by simpa using hv
  have el : (es.take n).length = n := by rw [List.length_take]; omega
  refine ⟨ad, cap, by rw [el], by omega, h2, h3, fun hj => ?_⟩
  obtain ⟨b', off', he, hb, c⟩ := hc (by omega)
  refine ⟨b', off', he, hb, fun j u hu => ?_⟩
  rw [K.flat_take es n hn, List.getElem?_take] at hu
  split at hu
  · exact c _ _ hu
  · cases hu
theorem Lies.of_block {W : World} {g : Nat} {es : List α} {t : TypeId} (h : W.heap[g]? = some (.cells (K.flat es).toArray t (0, 0))) (hl : es.length ≤ maxLen) : K.Lies W.heap.size W (.slice (some ⟨g, 0, none⟩) es.length es.length) es := by
  refine ⟨_, _, rfl, Nat.le_refl _, hl, fun h => (by cases h), fun hj => ?_⟩
  refine ⟨g, 0, rfl, (Array.getElem?_eq_some_iff.1 h).1, fun j u hu => ?_⟩
  simpa [World.cell?, h] using hu
/-- What is read of a row is its cells. -/
theorem Lies.cells {n₀ : Nat} {W : World} {b off len cap : Nat} {es : List α} (h : K.Lies n₀ W (.slice (some ⟨b, off, none⟩) len cap) es) : ∀ j u, (K.flat es)[j]? = some u → W.cell? ((⟨b, off, none⟩ : Addr).add j) = some u := by
  obtain ⟨ad, c, hv, h1, h2, h3, hc⟩ := h
  obtain ⟨rfl, rfl, rfl⟩ : some _ = ad ∧ len = _ ∧ cap = _ := by simpa using hv
  intro j u hu
  by_cases h0 : 0 < es.length
  · obtain ⟨b', off', he, hb, c⟩ := hc h0
    cases he
    rw [add_plain]
    exact c j u hu
  · have : es = [] := List.length_eq_zero_iff.1 (by omega)
    subst this
    simp [flat] at hu
/-- The cells of one element of a row. -/
theorem Lies.at {n₀ : Nat} {W : World} {ad : Option Addr} {len cap : Nat} {es : List α} (h : K.Lies n₀ W (.slice ad len cap) es) (j : Nat) (hj : j < es.length) : ∃ b off : Nat, ad = some ⟨b, off, none⟩ ∧ b < n₀ ∧ ∀ i, i < K.k → W.cell? ⟨b, off + j * K.k + i, none⟩ = (K.enc es[j])[i]? := by
  obtain ⟨ad', c, hv, h1, h2, h3, hc⟩ := h
  obtain ⟨rfl, rfl, rfl⟩ : ad = ad' ∧ len = _ ∧ cap = _ := by simpa using hv
  obtain ⟨b, off, he, hb, c⟩ := hc (by omega)
  refine ⟨b, off, he, hb, fun i hi => ?_⟩
  have h1 := K.flat_get es j hj i hi
  have hlt : i < (K.enc es[j]).length := by rw [K.len]; exact hi
  obtain ⟨u, hu⟩ : ∃ u, (K.enc es[j])[i]? = some u := ⟨_, List.getElem?_eq_getElem hlt⟩
  rw [hu] at h1
  rw [hu, Nat.add_assoc]
  exact c _ _ h1
theorem Lies.len {n₀ : Nat} {W : World} {ad : Option Addr} {len cap : Nat} {es : List α} (h : K.Lies n₀ W (.slice ad len cap) es) : len = es.length := by
  obtain ⟨_, _, hv, _⟩ := h
  simp at hv
  exact hv.2.1
variable (K)
/-- A row is appended to a row of one's own. -/
theorem run_append {P : Program} (w : World) (base : Nat) (t ty e : TypeId) (i : TypeInfo) (z : Value) (bytes : Nat) (ht : P.underlying t = some (.slice e)) (hi : P.info? e = some i) (hz : i.zero = some z)
    (hsize : i.size = K.k) (hby : i.bytes = bytes) (hzs : z.cells.size = K.k) (v : Value) (n : Nat) (xs : List Value) (hown : w.ownsRow base e K.k v n xs) {n₀ : Nat} (sv : Value) (es : List α) (hE : K.Lies n₀ w sv es)
    (h63 : n + es.length ≤ maxLen) (hbytes : (n + es.length) * bytes ≤ 140737488355328) (hbase : base ≤ w.heap.size) :
    ∃ v' w', (Builtin.append_ #[t, t] ty #[v, sv]).run P w = .ok v' w' ∧ w'.ownsRow base e K.k v' (n + es.length) (xs ++ K.flat es) ∧ w.grownBy w' v.ownBlock ∧ (v'.ownBlock = v.ownBlock ∨ v'.ownBlock = some w.heap.size) := by
  obtain ⟨ad, c, rfl, h1, h2, h3, hc⟩ := id hE
  by_cases h0 : es.length = 0
  · have : es = [] := List.length_eq_zero_iff.1 h0
    subst this
    cases ad with
    | none =>
      obtain rfl := h3 rfl
      exact ⟨v, w, run_append_owned_none w base t ty e i K.k ht hi v n xs hown, by simpa [flat] using hown, ⟨rfl, rfl, rfl, Nat.le_refl _, fun _ _ _ => rfl⟩, .inl rfl⟩
    | some a =>
      obtain ⟨v', w', r1, r2, r3, _, r5⟩ := run_append_own_at (P := P) w base t ty e i z K.k bytes ht hi hz hsize hby hzs K.pos v n xs hown a 0 c [] (by simp) (by simp) (by simp) h63 hbytes hbase
      exact ⟨v', w', r1, by simpa [flat] using r2, r3, r5⟩
  · obtain ⟨b, off, rfl, _⟩ := hc (by omega)
    obtain ⟨v', w', r1, r2, r3, _, r5⟩ := run_append_own_at (P := P) w base t ty e i z K.k bytes ht hi hz hsize hby hzs K.pos v n xs hown ⟨b, off, none⟩ es.length c (K.flat es) (K.flat_length es) hE.cells (K.flat_one es) h63 hbytes hbase
    exact ⟨v', w', r1, r2, r3, r5⟩
theorem wpList_append {P : Program} (w : World) {ops : Array Oper} {rest : List Oper} {o : Oper} {a : Act} {Q : Exit → Act → World → Prop} (hgd : o.guard = none) (s x : Operand) (t : TypeId)
    (ho : o.op = .call { callee := .builtin .append, args := #[s, x], argTypes := #[t, t] })
    (base : Nat) (e : TypeId) (i : TypeInfo) (z : Value) (bytes : Nat) (ht : P.underlying t = some (.slice e)) (hi : P.info? e = some i) (hz : i.zero = some z)
    (hsize : i.size = K.k) (hby : i.bytes = bytes) (hzs : z.cells.size = K.k) (v : Value) (n : Nat) (xs : List Value) (hs : a.eval s = v) (hown : w.ownsRow base e K.k v n xs) {n₀ : Nat} (sv : Value) (es : List α) (hx : a.eval x = sv) (hE : K.Lies n₀ w sv es)
    (h63 : n + es.length ≤ maxLen) (hbytes : (n + es.length) * bytes ≤ 140737488355328) (hbase : base ≤ w.heap.size)
    (hK : ∀ v' w', w'.ownsRow base e K.k v' (n + es.length) (xs ++ K.flat es) → w.grownBy w' v.ownBlock → (v'.ownBlock = v.ownBlock ∨ v'.ownBlock = some w.heap.size) → wpList P ops Q rest (a.put o.dst v') w') : wpList P ops Q (o :: rest) a w := by
  obtain ⟨v', w', hrun, r1, r2, r3⟩ := K.run_append (P := P) w base t o.type e i z bytes ht hi hz hsize hby hzs v n xs hown sv es hE h63 hbytes hbase
  refine wpList_plain hgd fun K hK' => ?_
  unfold Oper.wp
  simp [execOp, ho, resolve, invoke, builtin, hs, hx, hrun, Result.andThen]
  exact hK' _ _ (hK v' w' r1 r2 r3)
end Kind

theorem own_below {A B : World} {base : Nat} {e : TypeId} {size : Nat} {v : Value} {n : Nat} {xs : List Value} (h : A.ownsRow base e size v n xs) (hb : Below A.heap.size A B) : B.ownsRow base e size v n xs := by
  refine ⟨h.1, ?_⟩
  rcases h.2 with h | ⟨g, cap, cur, hv, h1, h2, h3⟩
  · exact .inl h
  · exact .inr ⟨g, cap, cur, hv, h1, (hb.block g (Array.getElem?_eq_some_iff.1 h2).1).trans h2, h3⟩
theorem own_low {W : World} {base b2 : Nat} {e : TypeId} {size : Nat} {v : Value} {n : Nat} {xs : List Value} (h : W.ownsRow base e size v n xs) (hb : b2 ≤ base) : W.ownsRow b2 e size v n xs := by
  refine ⟨h.1, ?_⟩
  rcases h.2 with h | ⟨g, cap, cur, hv, h1, h2, h3⟩
  · exact .inl h
  · exact .inr ⟨g, cap, cur, hv, Nat.le_trans hb h1, h2, h3⟩
theorem own_from {W : World} {base : Nat} {e : TypeId} {size : Nat} {v : Value} {n : Nat} {xs : List Value} (h : W.ownsRow base e size v n xs) : ∀ k, v.ownBlock = some k → base ≤ k := fun k hk => (h.lt k hk).1
theorem own_slice {W : World} {base : Nat} {e : TypeId} {size : Nat} {v : Value} {n : Nat} {xs : List Value} (h : W.ownsRow base e size v n xs) : ∃ ad cap, v = .slice ad n cap := by
  rcases h.2 with ⟨rfl, rfl⟩ | ⟨g, cap, cur, rfl, _⟩
  · exact ⟨_, _, rfl⟩
  · exact ⟨_, _, rfl⟩
end Go.Proofs.YtkolhbacgoafcaaGreat

/- Rows that came in as arguments, whatever their elements are, opened: where their cells lie; no conditions. -/
namespace Go.Proofs.YtkolhbacgoafcaaGreat
open Go.ChangeShapes Go.WideShapes Go.ChangeAt Go.RowKit
set_option linter.unusedVariables false

section
variable {H : Type} {enc : TypeId × Value → H} {w : World} {base : Nat} {spare : Nat → Bool} {held : Bool}
theorem Kind.open_rows {α : Type} (K : Kind α) {t e : TypeId} {fuel : Nat} {c : Value} {x : DataW H × List MemPlace} (ht : Tryz.prog.underlying t = some (.slice e)) (hk : Tryz.prog.cellsOf e = K.k)
    (dec : ∀ n cs y, cs.length = K.k → DataW.trod enc Tryz.prog w base spare held n e cs = some y → ∃ a, cs = K.enc a) (h : DataW.trod enc Tryz.prog w base spare held fuel t [c] = some x) :
    ∃ (ad : Option Addr) (cap : Nat) (es : List α), c = .slice ad es.length cap ∧ es.length ≤ 9223372036854775807 ∧ K.Lies w.heap.size w (.slice ad es.length cap) es := by
  rcases Deep.open_slice ht h with ⟨h0, _⟩ | ⟨a, len, cap, m, n, D, Pl, hcs, hb, hl, hm, hmm, _, hx⟩
  · exact ⟨none, 0, [], by simpa using h0, by simp, Kind.Lies.nil _ _⟩
  have hlm : len ≤ m := by rw [hmm]; split <;> omega
  rw [hk] at hx
  have each : ∀ i, i < len → ∃ q : α, ∀ j, j < K.k → w.cell? (a.add (i * K.k + j)) = (K.enc q)[j]? := by
    intro i hi
    obtain ⟨cs', h1, h2⟩ := hx i (by omega)
    obtain ⟨_, hlen, hcell⟩ := World.cells?_some h1
    obtain ⟨q, rfl⟩ := dec _ _ _ hlen h2
    exact ⟨q, fun j hj => by rw [← Deep.add_add]; exact hcell j hj⟩
  have hall : ∀ m', m' ≤ len → ∃ es : List α, es.length = m' ∧ ∀ i, ∀ hi : i < es.length, ∀ j, j < K.k → w.cell? (a.add (i * K.k + j)) = (K.enc es[i])[j]? := by
    intro m' hm'
    induction m' with
    | zero => exact ⟨[], rfl, fun i hi => absurd hi (Nat.not_lt_zero _)⟩
    | succ m' ih =>
      obtain ⟨es, hes, hcell⟩ := ih (by omega)
      obtain ⟨q, hq⟩ := each m' (by omega)
      refine ⟨es ++ [q], by simp [hes], fun i hi j hj => ?_⟩
      simp at hi
      by_cases hlt : i < es.length
      · rw [List.getElem_append_left hlt]; exact hcell i hlt j hj
      · obtain rfl : i = es.length := by omega
        rw [List.getElem_append_right (Nat.le_refl _)]
        simp only [Nat.sub_self, List.getElem_cons_zero]
        rw [hes]
        exact hq j hj
  obtain ⟨es, hes, hcell⟩ := hall len (Nat.le_refl _)
  have hc' : c = .slice (some a) len cap := by simpa using hcs
  refine ⟨some a, cap, es, by rw [hes]; exact hc', by rw [hes]; unfold maxLen at hm; omega, some a, cap, rfl, by omega, hm, fun h => (by cases h), fun h0 => ?_⟩
  have hsp : a.spot = none := by
    have d0 := hcell 0 h0 0 K.pos
    have hl0 : 0 < (K.enc es[0]).length := by rw [K.len]; exact K.pos
    rw [List.getElem?_eq_getElem hl0] at d0
    have d0' : w.cell? a = some (K.enc es[0])[0] := by simpa [Addr.add] using d0
    cases hs : a.spot with
    | none => rfl
    | some q =>
      simp only [World.cell?] at d0'
      split at d0' <;> simp_all
  obtain ⟨b, off, sp⟩ := a
  simp only at hsp
  subst hsp
  have hlt : b < w.heap.size := by
    have d0 := hcell 0 h0 0 K.pos
    have hl0 : 0 < (K.enc es[0]).length := by rw [K.len]; exact K.pos
    rw [List.getElem?_eq_getElem hl0, add_plain] at d0
    exact block_lt_of_cell d0
  refine ⟨b, off, rfl, hlt, fun j u hu => ?_⟩
  have hj : j < (K.flat es).length := (List.getElem?_eq_some_iff.1 hu).1
  rw [K.flat_length] at hj
  have hdm : j / K.k * K.k + j % K.k = j := by rw [Nat.mul_comm]; exact Nat.div_add_mod j K.k
  have h1 : j / K.k < es.length := Nat.div_lt_of_lt_mul (by rw [Nat.mul_comm]; exact hj)
  have h2 := hcell (j / K.k) h1 (j % K.k) (Nat.mod_lt _ K.pos)
  have h3 := K.flat_get es (j / K.k) h1 (j % K.k) (Nat.mod_lt _ K.pos)
  rw [hdm] at h2 h3
  rw [add_plain] at h2
  rw [h2, ← h3, hu]
set_option maxRecDepth 100000 in
theorem Kind.open_arg {α : Type} (K : Kind α) {t e : TypeId} {r : Reach} {b0 : Nat} {v : Value} {dt : DataW H} {ps : List MemPlace} (ht : Tryz.prog.underlying t = some (.slice e)) (hk : Tryz.prog.cellsOf e = K.k)
    (dec : ∀ n cs y, cs.length = K.k → DataW.trod enc Tryz.prog w base spare held n e cs = some y → ∃ a, cs = K.enc a) (hv : Value.okWide Tryz.prog w r b0 t v) (h : DataW.Trod enc Tryz.prog w base spare held t v dt ps) :
    ∃ (ad : Option Addr) (cap : Nat) (es : List α), v = .slice ad es.length cap ∧ es.length ≤ 9223372036854775807 ∧ K.Lies w.heap.size w (.slice ad es.length cap) es := by
  obtain ⟨x, y, c, rfl⟩ := okWide_slice ht hv
  obtain ⟨fu, hf⟩ := h
  exact K.open_rows ht hk dec (by simpa [Value.cells] using hf)
end
end Go.Proofs.YtkolhbacgoafcaaGreat

/- Plain mathematics of frames that wait: what is held behind a frame that comes, what is for this tick and what is left, how many are held; no Go text in sight. -/
namespace Go.Proofs.YtkolhbacgoafcaaGreat
set_option linter.unusedVariables false

/-- A text without a byte. -/
def noB : ByteArray := ⟨#[]⟩
def emt (s : ByteArray) : Bool := s.toList.isEmpty
theorem emt_noB : emt noB = true := by
  unfold emt
  rw [ByteArray.toList_eq]
  rfl
theorem emt_eq {s : ByteArray} (h : emt s = true) : s = noB := by
  unfold emt at h
  rw [ByteArray.toList_eq] at h
  have h2 : s.data.toList = [] := List.isEmpty_iff.1 h
  apply ByteArray.ext
  apply Array.toList_inj.1
  exact h2
/-- What is for this tick, and what is left. -/
def takeN (N D : Nat) (hs : List ByteArray) : List ByteArray := (List.range N).map fun i => hs.getD (i * D) noB
def takeR (n D : Nat) (hs : List ByteArray) : List ByteArray := (List.range n).map fun j => if (j + 1) % D = 0 then noB else hs.getD (j + 1) noB
/-- How many of a node's first places have something. -/
def heldK (D : Nat) (hs : List ByteArray) (i k : Nat) : Nat := ((List.range k).filter fun k => !emt (hs.getD (i * D + k) noB)).length
theorem takeN_length (N D : Nat) (hs : List ByteArray) : (takeN N D hs).length = N := by simp [takeN]
theorem takeR_length (n D : Nat) (hs : List ByteArray) : (takeR n D hs).length = n := by simp [takeR]
theorem takeN_at (N D : Nat) (hs : List ByteArray) (i : Nat) (hi : i < N) : (takeN N D hs).getD i noB = hs.getD (i * D) noB := by
  rw [List.getD_eq_getElem?_getD, takeN, List.getElem?_map, List.getElem?_range hi]; rfl
theorem takeR_at (n D : Nat) (hs : List ByteArray) (j : Nat) (hj : j < n) : (takeR n D hs).getD j noB = if (j + 1) % D = 0 then noB else hs.getD (j + 1) noB := by
  rw [List.getD_eq_getElem?_getD, takeR, List.getElem?_map, List.getElem?_range hj]; rfl
theorem getD_set (hs : List ByteArray) (p j : Nat) (b : ByteArray) (hp : p < hs.length) : (hs.set p b).getD j noB = if j = p then b else hs.getD j noB := by
  rw [List.getD_eq_getElem?_getD, List.getD_eq_getElem?_getD, List.getElem?_set]
  by_cases h : p = j
  · rw [if_pos h, if_pos hp, if_pos h.symm]; rfl
  · rw [if_neg h, if_neg (fun k => h k.symm)]
theorem list_ext (a b : List ByteArray) (hl : a.length = b.length) (h : ∀ j, j < a.length → a.getD j noB = b.getD j noB) : a = b := by
  apply List.ext_getElem hl
  intro i h1 h2
  have := h i h1
  rwa [List.getD_eq_getElem?_getD, List.getD_eq_getElem?_getD, List.getElem?_eq_getElem h1, List.getElem?_eq_getElem h2] at this
theorem mul_lt_place {N D f k : Nat} (hf : f < N) (hk : k < D) : f * D + k < N * D := by
  have h1 : (f + 1) * D ≤ N * D := Nat.mul_le_mul_right D hf
  rw [Nat.add_mul] at h1
  omega
theorem place_mod (D f k : Nat) (hk : k < D) : (f * D + k) % D = k := by rw [Nat.add_comm, Nat.add_mul_mod_self_right, Nat.mod_eq_of_lt hk]
/-- A frame that is set behind a node's first place is not taken now. -/
theorem takeN_set {N D f k : Nat} (hs : List ByteArray) (b : ByteArray) (hl : hs.length = N * D) (hf : f < N) (hk : k < D) (i : Nat) (hi : i < N) :
    (takeN N D (hs.set (f * D + k) b)).getD i noB = if i = f ∧ k = 0 then b else (takeN N D hs).getD i noB := by
  have hp : f * D + k < hs.length := by rw [hl]; exact mul_lt_place hf hk
  rw [takeN_at _ _ _ _ hi, takeN_at _ _ _ _ hi, getD_set _ _ _ _ hp]
  by_cases h : i * D = f * D + k
  · have h1 : (i * D) % D = 0 := Nat.mul_mod_left i D
    rw [h, place_mod D f k hk] at h1
    have h2 : i = f := by
      rw [h1, Nat.add_zero] at h
      exact Nat.eq_of_mul_eq_mul_right (by omega) h
    rw [if_pos h, if_pos ⟨h2, h1⟩]
  · rw [if_neg h, if_neg]
    rintro ⟨rfl, rfl⟩
    exact h (Nat.add_zero _).symm
theorem takeR_set {N D f k : Nat} (hs : List ByteArray) (b : ByteArray) (hl : hs.length = N * D) (hf : f < N) (hk : k < D) :
    takeR (N * D) D (hs.set (f * D + k) b) = if k = 0 then takeR (N * D) D hs else (takeR (N * D) D hs).set (f * D + (k - 1)) b := by
  have hp : f * D + k < hs.length := by rw [hl]; exact mul_lt_place hf hk
  by_cases h0 : k = 0
  · rw [if_pos h0]
    apply list_ext
    · rw [takeR_length, takeR_length]
    · intro j hj
      rw [takeR_length] at hj
      rw [takeR_at _ _ _ _ hj, takeR_at _ _ _ _ hj, getD_set _ _ _ _ hp]
      by_cases hm : (j + 1) % D = 0
      · rw [if_pos hm, if_pos hm]
      · rw [if_neg hm, if_neg hm, if_neg]
        intro e
        rw [e, place_mod D f k hk] at hm
        exact hm h0
  · rw [if_neg h0]
    have hq : f * D + (k - 1) < (takeR (N * D) D hs).length := by rw [takeR_length]; exact mul_lt_place hf (by omega)
    apply list_ext
    · rw [List.length_set, takeR_length, takeR_length]
    · intro j hj
      rw [takeR_length] at hj
      rw [getD_set _ _ _ _ hq, takeR_at _ _ _ _ hj, takeR_at _ _ _ _ hj, getD_set _ _ _ _ hp]
      by_cases e : j = f * D + (k - 1)
      · have e2 : j + 1 = f * D + k := by omega
        have e3 : ¬ (j + 1) % D = 0 := by rw [e2, place_mod D f k hk]; exact h0
        rw [if_neg e3, if_pos e2, if_pos e]
      · rw [if_neg e, if_neg (show ¬ j + 1 = f * D + k by omega)]
/-- What lies one place nearer. -/
theorem takeR_near {N D f k : Nat} (hs : List ByteArray) (hf : f < N) (hk : k < D) (h0 : ¬ k = 0) : (takeR (N * D) D hs).getD (f * D + (k - 1)) noB = hs.getD (f * D + k) noB := by
  rw [takeR_at _ _ _ _ (mul_lt_place hf (by omega))]
  have e2 : f * D + (k - 1) + 1 = f * D + k := by omega
  rw [e2, place_mod D f k hk, if_neg h0]
theorem heldK_zero (D : Nat) (hs : List ByteArray) (i : Nat) : heldK D hs i 0 = 0 := rfl
theorem heldK_succ (D : Nat) (hs : List ByteArray) (i k : Nat) : heldK D hs i (k + 1) = heldK D hs i k + if emt (hs.getD (i * D + k) noB) = true then 0 else 1 := by
  unfold heldK
  rw [List.range_succ, List.filter_append, List.length_append]
  simp only [List.filter_cons, List.filter_nil]
  cases h : emt (hs.getD (i * D + k) noB) <;> rfl
theorem heldK_le (D : Nat) (hs : List ByteArray) (i k : Nat) : heldK D hs i k ≤ k := by
  unfold heldK
  have := List.length_filter_le (fun k => !emt (hs.getD (i * D + k) noB)) (List.range k)
  rw [List.length_range] at this
  exact this
/-- What is taken is held no more. -/
theorem held_step {N D f : Nat} (hs : List ByteArray) (hf : f < N) : ∀ k, k < D → heldK D (takeR (N * D) D hs) f k + (if emt (hs.getD (f * D) noB) = true then 0 else 1) = heldK D hs f (k + 1) := by
  intro k
  induction k with
  | zero => intro _; rw [heldK_zero, heldK_succ, heldK_zero, Nat.add_zero]
  | succ k ih =>
    intro hk
    have := ih (by omega)
    rw [heldK_succ D hs f (k + 1), ← this, heldK_succ]
    have e := takeR_near hs hf hk (by omega)
    rw [Nat.add_sub_cancel] at e
    rw [e]
    omega
theorem held_take {N D f : Nat} (hs : List ByteArray) (hf : f < N) (hD : 0 < D) : heldK D (takeR (N * D) D hs) f D + (if emt (hs.getD (f * D) noB) = true then 0 else 1) = heldK D hs f D := by
  obtain ⟨k, rfl⟩ : ∃ k, D = k + 1 := ⟨D - 1, by omega⟩
  rw [heldK_succ]
  have h := held_step hs hf k (Nat.lt_succ_self k)
  have e : (takeR (N * (k + 1)) (k + 1) hs).getD (f * (k + 1) + k) noB = noB := by
    rw [takeR_at _ _ _ _ (mul_lt_place hf (Nat.lt_succ_self k)), if_pos]
    have e2 : f * (k + 1) + k + 1 = (f + 1) * (k + 1) := by rw [Nat.add_mul]; omega
    rw [e2, Nat.mul_mod_left]
  rw [e, emt_noB, if_pos rfl, Nat.add_zero]
  exact h
/-- So many ticks later the last places are empty. -/
def Gone (D i : Nat) (hs : List ByteArray) : Prop := ∀ j, j < hs.length → D ≤ j % D + i → hs.getD j noB = noB
theorem Gone.zero (D : Nat) (hD : 0 < D) (hs : List ByteArray) : Gone D 0 hs := fun j hj h => by
  have := Nat.mod_lt j hD
  omega
theorem Gone.succ {N D i : Nat} {hs : List ByteArray} (hD : 0 < D) (hl : hs.length = N * D) (h : Gone D i hs) : Gone D (i + 1) (takeR (N * D) D hs) := by
  intro j hj hm
  rw [takeR_length] at hj
  rw [takeR_at _ _ _ _ hj]
  by_cases h0 : (j + 1) % D = 0
  · rw [if_pos h0]
  · rw [if_neg h0]
    have hj1 : j + 1 < N * D := by
      by_cases e : j + 1 = N * D
      · rw [e, Nat.mul_mod_left] at h0; exact absurd rfl h0
      · omega
    have e3 : (j + 1) % D = j % D + 1 := by
      have h1 := Nat.mod_lt j hD
      by_cases e : j % D + 1 = D
      · exfalso
        apply h0
        rw [Nat.add_mod, show (1 : Nat) % D = if D = 1 then 0 else 1 by split <;> rename_i k; (rw [k]); exact Nat.mod_eq_of_lt (by omega)]
        split
        · rename_i k; rw [k]; exact Nat.mod_one _
        · rw [e]; exact Nat.mod_self D
      · rw [Nat.add_mod]
        have h2 : 1 < D := by omega
        rw [Nat.mod_eq_of_lt h2, Nat.mod_eq_of_lt (by omega)]
    refine h (j + 1) (by omega) ?_
    omega
theorem Gone.all {N D : Nat} {hs : List ByteArray} (hl : hs.length = N * D) (h : Gone D D hs) : hs = List.replicate (N * D) noB := by
  apply list_ext
  · rw [hl, List.length_replicate]
  · intro j hj
    rw [h j hj (by omega)]
    rw [List.getD_eq_getElem?_getD, List.getElem?_replicate]
    split <;> rfl
theorem held_none (N D f : Nat) : ∀ k, heldK D (List.replicate (N * D) noB) f k = 0 := by
  intro k
  induction k with
  | zero => rfl
  | succ k ih =>
    rw [heldK_succ, ih]
    have e : (List.replicate (N * D) noB).getD (f * D + k) noB = noB := by
      rw [List.getD_eq_getElem?_getD, List.getElem?_replicate]
      split <;> rfl
    rw [e, emt_noB]
    rfl
end Go.Proofs.YtkolhbacgoafcaaGreat

/- Rows of texts that lie in memory, and the small calls of package hold (fits, ofNode): what they return; they make at most new memory; conditions: as many nodes and ticks as a plain configuration may have. -/
namespace Go.Proofs.YtkolhbacgoafcaaGreat
open Go.ChangeShapes Go.WideShapes Go.ChangeAt Go.RowKit
set_option linter.unusedVariables false

/-- Rows of texts. -/
def kStr : Kind ByteArray := ⟨1, fun s => [.string s], fun _ => rfl, by intro a u hu; simp at hu; subst hu; rfl, by decide⟩
def svals (l : List ByteArray) : Array Value := (l.map Value.string).toArray
theorem kStr_flat (l : List ByteArray) : kStr.flat l = l.map Value.string := by
  induction l with
  | nil => rfl
  | cons a l ih => simp only [Kind.flat, List.flatMap_cons, List.map_cons] at ih ⊢; rw [ih]; rfl
theorem kStr_at {n₀ : Nat} {W : World} {ad : Option Addr} {len cap : Nat} {hs : List ByteArray} (h : kStr.Lies n₀ W (.slice ad len cap) hs) (j : Nat) (hj : j < hs.length) : ∃ b off : Nat, ad = some ⟨b, off, none⟩ ∧ b < n₀ ∧ W.cell? ⟨b, off + j, none⟩ = some (.string (hs.getD j noB)) := by
  obtain ⟨b, off, he, hb, hc⟩ := h.at j hj
  refine ⟨b, off, he, hb, ?_⟩
  have := hc 0 (by decide)
  rw [List.getD_eq_getElem?_getD, List.getElem?_eq_getElem hj, Option.getD_some]
  simpa [kStr] using this
theorem kStr_caps {n₀ : Nat} {W : World} {ad : Option Addr} {len cap : Nat} {hs : List ByteArray} (h : kStr.Lies n₀ W (.slice ad len cap) hs) : hs.length ≤ cap ∧ cap ≤ 9223372036854775807 := by
  obtain ⟨a', c', hv, h1, h2, _⟩ := h
  have e : cap = c' := by
    have := congrArg (fun v => match v with | .slice _ _ c => c | _ => 0) hv
    exact this
  unfold maxLen at h2
  omega
theorem svals_size (l : List ByteArray) : (svals l).size = l.length := by simp [svals]
theorem svals_at (l : List ByteArray) (i : Nat) (h : i < l.length) : (svals l)[i]? = some (.string (l.getD i noB)) := by
  rw [List.getD_eq_getElem?_getD, List.getElem?_eq_getElem h, Option.getD_some]
  simp [svals, h]
theorem svals_set (l : List ByteArray) (i : Nat) (s : ByteArray) : (svals l).setIfInBounds i (.string s) = svals (l.set i s) := by
  apply Array.ext'
  simp only [svals, Array.toList_setIfInBounds, List.map_set]
theorem svals_made (n : Nat) : madeCells #[Value.string noB] n = svals (List.replicate n noB) := by
  have h := toList_madeCells_one (Value.string noB) n
  apply Array.ext'
  rw [h]
  simp [svals]
theorem infoStr : (Tryz.prog.info? 9).map (fun i => (i.zero, i.size, i.bytes)) = some (some (.string noB), 1, 16) := by kernel_rfl
theorem make_strs (n : Nat) (hn : n ≤ 100000) (w : World) : (Instr.makeSlice 25 (.int .i64 (n : Int)) (.int .i64 (n : Int))).run Tryz.prog w = .ok (.slice (some ⟨w.heap.size, 0, none⟩) n n) (w.alloc (.cells (svals (List.replicate n noB)) 9)) := by
  rw [← svals_made]
  exact run_make_row' 25 9 (.string noB) 16 Tryz.underlying25 infoStr rfl .i64 .i64 n (by omega) (by omega) w
/-- A row of texts that is a block of its own. -/
def SBlk (W : World) (g : Nat) (l : List ByteArray) : Prop := W.heap[g]? = some (.cells (svals l) 9 (0, 0))
theorem SBlk.lies {W : World} {g : Nat} {l : List ByteArray} (h : SBlk W g l) (hl : l.length ≤ maxLen) : kStr.Lies W.heap.size W (.slice (some ⟨g, 0, none⟩) l.length l.length) l := by
  refine Kind.Lies.of_block (K := kStr) (t := 9) ?_ hl
  rw [kStr_flat]
  exact h
theorem SBlk.lt {W : World} {g : Nat} {l : List ByteArray} (h : SBlk W g l) : g < W.heap.size := (Array.getElem?_eq_some_iff.1 h).1
theorem SBlk.later {W W' : World} {g : Nat} {l : List ByteArray} (h : SBlk W g l) (hb : Below W.heap.size W W') : SBlk W' g l := (hb.block g h.lt).trans h
theorem SBlk.drew {W : World} {g : Nat} {l : List ByteArray} (h : SBlk W g l) : SBlk W.drew g l := h
theorem SBlk.cell {W : World} {g : Nat} {l : List ByteArray} (h : SBlk W g l) (i : Nat) (hi : i < l.length) : W.cell? ⟨g, i, none⟩ = some (.string (l.getD i noB)) := by
  rw [← svals_at l i hi]
  simp [World.cell?, show W.heap[g]? = _ from h]
theorem SBlk.open {W : World} {g : Nat} {l : List ByteArray} (h : SBlk W g l) (i : Nat) : W.frozen? ⟨g, i, none⟩ = false := by
  simp [World.frozen?, show W.heap[g]? = _ from h]
theorem SBlk.set {W : World} {g : Nat} {l : List ByteArray} (h : SBlk W g l) (i : Nat) (s : ByteArray) : SBlk (W.setCell ⟨g, i, none⟩ (.string s)) g (l.set i s) := by
  have := heap_setCell_same W g i _ _ (.string s) h
  rw [svals_set] at this
  exact this
theorem SBlk.other {W : World} {g : Nat} {l : List ByteArray} (h : SBlk W g l) (a : Addr) (v : Value) (ha : g ≠ a.block) : SBlk (W.setCell a v) g l := (heap_setCell_other W a g v ha).trans h
theorem mul_cast {N D : Nat} (hN : N ≤ 13) (hD : D ≤ 4) : N * D ≤ 52 := Nat.mul_le_mul hN hD
theorem wr64 {x : Int} {m : Nat} (e : x = (m : Int)) (h : m ≤ 1000000) : wrap64 x = (m : Int) := by subst e; unfold wrap64; omega
theorem wrI {x : Int} {m : Nat} (e : x = (m : Int)) (h : m ≤ 1000000) : IntKind.i64.wrap x = (m : Int) := by subst e; exact IntWalk.i64_in _ (by omega)
end Go.Proofs.YtkolhbacgoafcaaGreat

/- A row of texts that came in as an argument, opened: where its texts lie, and that their lengths fit int; no conditions. -/
namespace Go.Proofs.YtkolhbacgoafcaaGreat
open Go.ChangeShapes Go.WideShapes Go.ChangeAt Go.RowKit
set_option linter.unusedVariables false

/-- Rows of texts whose lengths fit int. -/
def kStrz : Kind { s : ByteArray // s.size ≤ 9223372036854775807 } := ⟨1, fun s => [.string s.1], fun _ => rfl, by intro a u hu; simp at hu; subst hu; rfl, by decide⟩
theorem kStrz_flat (l : List { s : ByteArray // s.size ≤ 9223372036854775807 }) : kStrz.flat l = kStr.flat (l.map Subtype.val) := by
  induction l with
  | nil => rfl
  | cons a l ih => simp only [Kind.flat, List.flatMap_cons, List.map_cons] at ih ⊢; rw [ih]; rfl
section
variable {H : Type} {enc : TypeId × Value → H} {w : World} {base : Nat} {spare : Nat → Bool} {held : Bool}
theorem dec_strz (n : Nat) (cs : List Value) (y : DataW H × List MemPlace) (hl : cs.length = kStrz.k) (h : DataW.trod enc Tryz.prog w base spare held n 9 cs = some y) : ∃ a, cs = kStrz.enc a := by
  obtain ⟨c0, rfl⟩ : ∃ c0, cs = [c0] := by
    have h2 : cs.length = 1 := hl
    match cs, h2 with
    | [c0], _ => exact ⟨c0, rfl⟩
  obtain ⟨x0, h0, _, w0⟩ := DataW.trod_string Tryz.underlying9 h
  unfold maxLen at w0
  exact ⟨⟨x0, w0⟩, h0⟩
set_option maxRecDepth 100000 in
theorem open_strz {r : Reach} {b0 : Nat} {v : Value} {dt : DataW H} {ps : List MemPlace} (hv : Value.okWide Tryz.prog w r b0 25 v) (h : DataW.Trod enc Tryz.prog w base spare held 25 v dt ps) :
    ∃ (ad : Option Addr) (cap : Nat) (es : List ByteArray), v = .slice ad es.length cap ∧ es.length ≤ 9223372036854775807 ∧ kStr.Lies w.heap.size w (.slice ad es.length cap) es ∧ ∀ t ∈ es, t.size ≤ 9223372036854775807 := by
  obtain ⟨ad, cap, es, rfl, hl, hE⟩ := kStrz.open_arg Tryz.underlying25 (by kernel_rfl) dec_strz hv h
  refine ⟨ad, cap, es.map Subtype.val, by rw [List.length_map], by rw [List.length_map]; exact hl, ?_, ?_⟩
  · obtain ⟨ad', c, hv, h1, h2, h3, hc⟩ := hE
    refine ⟨ad', c, by rw [List.length_map]; exact hv, by rw [List.length_map]; exact h1, h2, h3, fun hj => ?_⟩
    rw [← kStrz_flat]
    exact hc (by simpa using hj)
  · intro t ht
    obtain ⟨q, _, rfl⟩ := List.mem_map.1 ht
    exact q.2
end
end Go.Proofs.YtkolhbacgoafcaaGreat

/- The integer calls of package num (Clamp, Mod, Sat, isWidth) and of the document's answer (Clamp, Mod, Sat) return what plain functions on integers give, and leave the world as it was; for integers that fit int. -/
namespace Go.Proofs.YtkolhbacgoafcaaGreat
open Go.ChangeShapes Go.WideShapes Go.ChangeAt Go.RowKit
open Go.ChangeMaps (open_string shut_string)
set_option linter.unusedVariables false

def clampF (n lo hi : Int) : Int := if n < lo ∨ hi < lo then lo else if n ≤ hi then n else hi
def modF (n by_ : Int) : Int := if by_ < 1 then 0 else if n.tmod by_ < 0 then n.tmod by_ + by_ else n.tmod by_
def satF (n most : Int) : Int := if n < 0 ∨ most < 0 then 0 else if most ≤ n then most else n + 1


theorem clamp_any (n lo hi : Int) (w : World) :
    Calls Tryz.prog 20 #[.int .i64 n, .int .i64 lo, .int .i64 hi] w fun e w' => e = .returned (.int .i64 (clampF n lo hi)) ∧ w = w' := by
  by_cases h1 : n < lo
  · have e : clampF n lo hi = lo := by unfold clampF; rw [if_pos (Or.inl h1)]
    rw [e]; clear e
    go_enter Tryz.func20, Tryz.ntmps20
    go_wp2
    go_ret
    exact ⟨rfl, rfl⟩
  · by_cases h2 : hi < lo
    · have e : clampF n lo hi = lo := by unfold clampF; rw [if_pos (Or.inr h2)]
      rw [e]; clear e
      go_enter Tryz.func20, Tryz.ntmps20
      go_wp2
      go_ret
      exact ⟨rfl, rfl⟩
    · by_cases h3 : n ≤ hi
      · have e : clampF n lo hi = n := by unfold clampF; rw [if_neg (by omega), if_pos h3]
        rw [e]; clear e
        go_enter Tryz.func20, Tryz.ntmps20
        go_wp2
        go_ret
        exact ⟨rfl, rfl⟩
      · have e : clampF n lo hi = hi := by unfold clampF; rw [if_neg (by omega), if_neg h3]
        rw [e]; clear e
        go_enter Tryz.func20, Tryz.ntmps20
        go_wp2
        go_ret
        exact ⟨rfl, rfl⟩
theorem mod_any (n b : Int) (w : World) (hn : (Lit.int .i64 n).wf = true) (hb : (Lit.int .i64 b).wf = true) :
    Calls Tryz.prog 100 #[.int .i64 n, .int .i64 b] w fun e w' => e = .returned (.int .i64 (modF n b)) ∧ w = w' := by
  have bn := bd64 hn
  have bb := bd64 hb
  by_cases h1 : b < 1
  · have e : modF n b = 0 := by unfold modF; rw [if_pos h1]
    rw [e]; clear e
    go_enter Tryz.func100, Tryz.ntmps100
    go_wp2
    go_ret
    exact ⟨rfl, rfl⟩
  · by_cases h2 : n.tmod b < 0
    · have e : modF n b = n.tmod b + b := by unfold modF; rw [if_neg h1, if_pos h2]
      rw [e]; clear e
      have hr : -b < n.tmod b := by have := Int.lt_tmod_of_pos n (show 0 < b by omega); omega
      go_enter Tryz.func100, Tryz.ntmps100
      go_wp2
      go_ret
      exact ⟨rfl, rfl⟩
    · have e : modF n b = n.tmod b := by unfold modF; rw [if_neg h1, if_neg h2]
      rw [e]; clear e
      go_enter Tryz.func100, Tryz.ntmps100
      go_wp2
      go_ret
      exact ⟨rfl, rfl⟩
theorem sat_any (n m : Int) (w : World) (hn : (Lit.int .i64 n).wf = true) (hm : (Lit.int .i64 m).wf = true) :
    Calls Tryz.prog 19 #[.int .i64 n, .int .i64 m] w fun e w' => e = .returned (.int .i64 (satF n m)) ∧ w = w' := by
  have bn := bd64 hn
  have bb := bd64 hm
  by_cases h1 : n < 0
  · have e : satF n m = 0 := by unfold satF; rw [if_pos (Or.inl h1)]
    rw [e]; clear e
    go_enter Tryz.func19, Tryz.ntmps19
    go_wp2
    go_ret
    exact ⟨rfl, rfl⟩
  · by_cases h2 : m < 0
    · have e : satF n m = 0 := by unfold satF; rw [if_pos (Or.inr h2)]
      rw [e]; clear e
      go_enter Tryz.func19, Tryz.ntmps19
      go_wp2
      go_ret
      exact ⟨rfl, rfl⟩
    · by_cases h3 : m ≤ n
      · have e : satF n m = m := by unfold satF; rw [if_neg (by omega), if_pos h3]
        rw [e]; clear e
        go_enter Tryz.func19, Tryz.ntmps19
        go_wp2
        go_ret
        exact ⟨rfl, rfl⟩
      · have e : satF n m = n + 1 := by unfold satF; rw [if_neg (by omega), if_neg h3]
        rw [e]; clear e
        go_enter Tryz.func19, Tryz.ntmps19
        go_wp2
        go_ret
        exact ⟨rfl, rfl⟩
end Go.Proofs.YtkolhbacgoafcaaGreat

/- Plain mathematics: pulses of which each is begun by the one ahead of it become regular, from whatever is on its way; no conditions but those in the theorems. -/
namespace Go.Proofs.YtkolhbacgoafcaaGreat
set_option linter.unusedVariables false

/-- Since, a tick later; an instance's bit at first. -/
def nxF (P : Int) (s : Int) (pulse : Bool) : Int := if pulse = true then 0 else satF s P
def bgF (P L : Int) (s : Int) : Bool := decide (s = P - L ∨ P ≤ s)
theorem satF_in {s P : Int} (h0 : 0 ≤ s) (h1 : s ≤ P) : satF s P = if s = P then P else s + 1 := by
  unfold satF
  rw [if_neg (by omega)]
  by_cases h : s = P
  · rw [if_pos (by omega), if_pos h]
  · rw [if_neg (by omega), if_neg h]
theorem nxF_bd {P s : Int} (hP : 0 ≤ P) (b : Bool) : 0 ≤ nxF P s b ∧ nxF P s b ≤ P := by
  unfold nxF satF
  split
  · omega
  · split
    · omega
    · split <;> omega
/-- Pulses that come of themselves. -/
structure Alo (P L : Nat) (e : Nat → Bool) (s : Nat → Int) : Prop where
  l1 : 1 ≤ L
  l2 : 2 * L < P
  s0 : 0 ≤ s 0 ∧ s 0 ≤ P
  hs : ∀ t, s (t + 1) = nxF P (s t) (e (t + 1))
  he : ∀ t, e (t + L) = bgF P L (s t)
section
variable {P L : Nat} {e : Nat → Bool} {s : Nat → Int}
theorem Alo.bd (h : Alo P L e s) : ∀ t, 0 ≤ s t ∧ s t ≤ P
  | 0 => h.s0
  | t + 1 => by rw [h.hs t]; exact nxF_bd (by omega) _
/-- Without pulses Since goes up. -/
theorem Alo.up (h : Alo P L e s) (a : Nat) : ∀ k, (∀ j, 1 ≤ j → j ≤ k → e (a + j) = false) → s (a + k) = if s a + k ≤ P then s a + k else (P : Int)
  | 0, _ => by
    have := h.bd a
    rw [if_pos (by omega)]; simp
  | k + 1, hn => by
    have hb := h.bd (a + k)
    have ih := h.up a k (fun j h1 h2 => hn j h1 (by omega))
    have hs := h.hs (a + k)
    rw [show a + k + 1 = a + (k + 1) by omega, hn (k + 1) (by omega) (Nat.le_refl _)] at hs
    unfold nxF at hs
    rw [if_neg (by decide), satF_in hb.1 hb.2, ih] at hs
    rw [hs]
    by_cases h1 : s a + k ≤ P
    · rw [if_pos h1]
      by_cases h2 : s a + k = P
      · rw [if_pos h2, if_neg (by omega)]
      · rw [if_neg h2, if_pos (by omega)]; omega
    · rw [if_neg h1, if_pos rfl, if_neg (by omega)]
/-- Whatever comes, Since goes up by one a tick at most. -/
theorem Alo.slow (h : Alo P L e s) (a : Nat) : ∀ k, s (a + k) ≤ s a + k
  | 0 => by simp
  | k + 1 => by
    have hb := h.bd (a + k)
    have ha := h.bd a
    have ih := h.slow a k
    have hs := h.hs (a + k)
    rw [show a + (k + 1) = a + k + 1 by omega, hs]
    unfold nxF
    split
    · omega
    · rw [satF_in hb.1 hb.2]; split <;> omega
theorem Alo.zero (h : Alo P L e s) {u : Nat} (hu : 1 ≤ u) (hp : e u = true) : s u = 0 := by
  obtain ⟨t, rfl⟩ : ∃ t, u = t + 1 := ⟨u - 1, by omega⟩
  rw [h.hs t, hp]
  rfl
theorem bgF_lo {P L : Nat} {s : Int} (h1 : s < (P : Int) - L) : bgF P L s = false := decide_eq_false (by omega)
theorem bgF_mid {P L : Nat} {s : Int} (h1 : (P : Int) - L < s) (h2 : s < P) : bgF P L s = false := decide_eq_false (by omega)
theorem bgF_at {P L : Nat} : bgF P L ((P : Int) - L) = true := decide_eq_true (.inl rfl)
theorem bgF_hi {P L : Nat} : bgF P L (P : Int) = true := decide_eq_true (.inr (Int.le_refl _))
/-- Behind a pulse nothing is begun for a while. -/
theorem Alo.quiet (h : Alo P L e s) {u : Nat} (hu : 1 ≤ u) (hp : e u = true) (k : Nat) (hk : k + L < P) : e (u + k + L) = false := by
  rw [h.he (u + k)]
  refine bgF_lo ?_
  have h1 := h.slow u k
  rw [h.zero hu hp] at h1
  omega
/-- There is a pulse. -/
theorem Alo.some (h : Alo P L e s) : ∃ u, L ≤ u ∧ u < P + L ∧ e u = true := by
  by_cases hx : ∃ u, L ≤ u ∧ u < P + L ∧ e u = true
  · exact hx
  · exfalso
    have hl := h.l1
    have hl2 := h.l2
    have hn : ∀ u, L ≤ u → u < P + L → e u = false := fun u h1 h2 => by
      cases hu : e u
      · rfl
      · exact absurd ⟨u, h1, h2, hu⟩ hx
    obtain ⟨a, ha⟩ : ∃ a, L = a + 1 := ⟨L - 1, by omega⟩
    have hb := h.bd a
    obtain ⟨q, hq⟩ : ∃ q : Nat, s a = q := ⟨(s a).toNat, by omega⟩
    have hup := fun k (hk : k < P) => h.up a k (fun j h1 h2 => hn (a + j) (by omega) (by omega))
    by_cases hc : q + L ≤ P
    · have h1 := hup (P - L - q) (by omega)
      rw [hq, if_pos (by omega)] at h1
      have h2 := h.he (a + (P - L - q))
      rw [h1, show (q : Int) + ((P - L - q : Nat) : Int) = (P : Int) - L by omega, bgF_at, hn _ (by omega) (by omega)] at h2
      cases h2
    · have h1 := hup (P - q) (by omega)
      rw [hq, if_pos (by omega)] at h1
      have h2 := h.he (a + (P - q))
      rw [h1, show (q : Int) + ((P - q : Nat) : Int) = (P : Int) by omega, bgF_hi, hn _ (by omega) (by omega)] at h2
      cases h2
/-- A last one in a stretch. -/
theorem last_one (e : Nat → Bool) (u : Nat) (hu : e u = true) : ∀ n, ∃ v, u ≤ v ∧ v ≤ u + n ∧ e v = true ∧ ∀ t, v < t → t ≤ u + n → e t = false
  | 0 => ⟨u, Nat.le_refl _, Nat.le_refl _, hu, fun t h1 h2 => by omega⟩
  | n + 1 => by
    obtain ⟨v, h1, h2, h3, h4⟩ := last_one e u hu n
    by_cases h : e (u + (n + 1)) = true
    · exact ⟨u + (n + 1), by omega, Nat.le_refl _, h, fun t h1 h2 => by omega⟩
    · refine ⟨v, h1, by omega, h3, fun t q1 q2 => ?_⟩
      by_cases e2 : t = u + (n + 1)
      · subst e2; simpa using h
      · exact h4 t q1 (by omega)
/-- A pulse with none behind it for a period. -/
def Lone (P : Nat) (e : Nat → Bool) (v : Nat) : Prop := e v = true ∧ ∀ t, v < t → t < v + P → e t = false
theorem Alo.step (h : Alo P L e s) {v : Nat} (hv : 1 ≤ v) (hl : Lone P e v) : Lone P e (v + P) := by
  have l1 := h.l1
  have l2 := h.l2
  have hz := h.zero hv hl.1
  have hup := fun k (hk : k < P) => h.up v k (fun j h1 h2 => hl.2 (v + j) (by omega) (by omega))
  have hat : ∀ k, k < P → s (v + k) = k := fun k hk => by rw [hup k hk, hz, if_pos (by omega)]; omega
  have hp : e (v + P) = true := by
    have h2 := h.he (v + (P - L))
    rw [hat (P - L) (by omega), show ((P - L : Nat) : Int) = (P : Int) - L by omega, bgF_at, show v + (P - L) + L = v + P by omega] at h2
    exact h2
  refine ⟨hp, fun t h1 h2 => ?_⟩
  by_cases hc : t < v + P + L
  · obtain ⟨j, rfl⟩ : ∃ j, t = v + (P - L + j) + L := ⟨t - (v + P), by omega⟩
    rw [h.he (v + (P - L + j)), hat (P - L + j) (by omega)]
    exact bgF_mid (by omega) (by omega)
  · obtain ⟨k, rfl⟩ : ∃ k, t = v + P + k + L := ⟨t - (v + P + L), by omega⟩
    exact h.quiet (by omega) hp k (by omega)
theorem Alo.lone (h : Alo P L e s) : ∃ v, 1 ≤ v ∧ v < P + 2 * L ∧ Lone P e v := by
  have l1 := h.l1
  have l2 := h.l2
  obtain ⟨u, h1, h2, h3⟩ := h.some
  obtain ⟨v, q1, q2, q3, q4⟩ := last_one e u h3 (L - 1)
  refine ⟨v, by omega, by omega, q3, fun t r1 r2 => ?_⟩
  by_cases c1 : t < u + L
  · exact q4 t r1 (by omega)
  · by_cases c2 : t < u + P
    · obtain ⟨k, rfl⟩ : ∃ k, t = u + k + L := ⟨t - (u + L), by omega⟩
      exact h.quiet (by omega) h3 k (by omega)
    · obtain ⟨k, rfl⟩ : ∃ k, t = v + k + L := ⟨t - (v + L), by omega⟩
      exact h.quiet (by omega) q3 k (by omega)
theorem Alo.many (h : Alo P L e s) {v : Nat} (hv : 1 ≤ v) (hl : Lone P e v) : ∀ n, Lone P e (v + n * P)
  | 0 => by simpa using hl
  | n + 1 => by
    have := h.step (v := v + n * P) (by omega) (h.many hv hl n)
    rw [show v + (n + 1) * P = v + n * P + P by rw [Nat.add_mul]; omega]
    exact this
/-- From a period and two lengths on there is a pulse each period, and no other. -/
theorem Alo.regular (h : Alo P L e s) : ∃ v, 1 ≤ v ∧ v < P + 2 * L ∧ ∀ t, v ≤ t → (e t = true ↔ (t - v) % P = 0) := by
  obtain ⟨v, h1, h2, h3⟩ := h.lone
  have l2 := h.l2
  refine ⟨v, h1, h2, fun t ht => ?_⟩
  have hm := h.many h1 h3 ((t - v) / P)
  have hdm := Nat.div_add_mod (t - v) P
  have hlt := Nat.mod_lt (t - v) (show 0 < P by omega)
  rw [Nat.mul_comm] at hdm
  constructor
  · intro he
    by_cases c : (t - v) % P = 0
    · exact c
    · have := hm.2 t (by omega) (by omega)
      rw [he] at this
      cases this
  · intro c
    have : t = v + (t - v) / P * P := by omega
    rw [this]
    exact hm.1
end
/-- In each stretch of a period one place is a pulse's. -/
theorem one_place {P u i : Nat} (hP : 0 < P) (hi : u ≤ i) : ∃ r, r < P ∧ ∀ j, j < P → ((i + j - u) % P = 0 ↔ j = r) := by
  have hlt := Nat.mod_lt (i - u) hP
  have hdm := Nat.div_add_mod (i - u) P
  refine ⟨(P - (i - u) % P) % P, Nat.mod_lt _ hP, fun j hj => ?_⟩
  have e : (i + j - u) % P = ((i - u) % P + j) % P := by rw [show i + j - u = (i - u) + j by omega, Nat.add_mod, Nat.mod_eq_of_lt hj]
  rw [e]
  generalize (i - u) % P = q at *
  by_cases h0 : q = 0
  · subst h0
    rw [Nat.zero_add, Nat.mod_eq_of_lt hj, Nat.sub_zero, Nat.mod_self]
  · rw [Nat.mod_eq_of_lt (show P - q < P by omega)]
    by_cases c : q + j < P
    · rw [Nat.mod_eq_of_lt c]; omega
    · rw [Nat.mod_eq_sub_mod (by omega), Nat.mod_eq_of_lt (by omega)]; omega
end Go.Proofs.YtkolhbacgoafcaaGreat

/- The small calls of package conf (rounds, length, hold) return what they say, by numbers that wrap round, and make at most new memory; no conditions. -/
namespace Go.Proofs.YtkolhbacgoafcaaGreat
open Go.ChangeShapes Go.WideShapes Go.ChangeAt Go.RowKit
set_option linter.unusedVariables false
attribute [local go_sem] cell_rg

theorem cRounds_any (n f d p r dr o sl md fr : Int) (ad : Option Addr) (cap : Nat) (zs : List Int) (w : World) :
    Calls Tryz.prog 65 #[.agg #[.int .i64 n, .int .i64 f, .int .i64 d, .int .i64 p, .int .i64 r, .int .i64 dr, .int .i64 o, .int .i64 sl, .int .i64 md, .int .i64 fr, .slice ad zs.length cap]] w fun e w' => e = .returned (.int .i64 (roundsW f)) ∧ Below w.heap.size w w' := by
  go_enter Tryz.func65, Tryz.ntmps65
  go_wp2
  go_ret
  exact ⟨rfl, ballc _ _⟩

theorem cLength_any (n f d p r dr o sl md fr : Int) (ad : Option Addr) (cap : Nat) (zs : List Int) (w : World) :
    Calls Tryz.prog 45 #[.agg #[.int .i64 n, .int .i64 f, .int .i64 d, .int .i64 p, .int .i64 r, .int .i64 dr, .int .i64 o, .int .i64 sl, .int .i64 md, .int .i64 fr, .slice ad zs.length cap]] w fun e w' => e = .returned (.int .i64 (lengthW f d)) ∧ Below w.heap.size w w' := by
  go_enter Tryz.func45, Tryz.ntmps45
  go_wp2
  refine wp_region_quiet_below (by kernel_rfl) (by kernel_rfl) ?_
  repeat (first | (go_big_quiet_step (exact Calls.regrown_of (cRounds_any _ _ _ _ _ _ _ _ _ _ _ _ _ _))) | quiet_step (exact Calls.regrown_of (cRounds_any _ _ _ _ _ _ _ _ _ _ _ _ _ _)))
  refine wpQuiet_nil ?_
  intro _ hw'
  have hb1 := rg_below hw'
  clear hw'
  go_wp2
  go_ret
  exact ⟨rfl, bthen (ballc _ _) hb1⟩

theorem hold_any (a b x : Int) (w : World) :
    Calls Tryz.prog 42 #[.agg #[.int .i64 a, .int .i64 b], .int .i64 x] w fun e w' => e = .returned (.bool (decide (a ≤ x ∧ x ≤ b))) ∧ Below w.heap.size w w' := by
  by_cases h1 : a ≤ x
  · by_cases h2 : x ≤ b
    all_goals
      go_enter Tryz.func42, Tryz.ntmps42
      go_wp2
      go_ret
      exact ⟨ret_b (by simp [h1, h2]), ballc _ _⟩
  · have h1' : decide (a ≤ x) = false := by simp [h1]
    go_enter Tryz.func42, Tryz.ntmps42
    go_wp2
    go_ret
    exact ⟨ret_b (by simp), ballc _ _⟩
end Go.Proofs.YtkolhbacgoafcaaGreat
