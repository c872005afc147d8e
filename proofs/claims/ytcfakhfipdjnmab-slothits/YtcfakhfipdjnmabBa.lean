/- Several texts of one's own in one: what each proves, and its conditions, is said ahead of it. -/
import Derived.Test.YtcfakhfipdjnmabRows
import Derived.WalkKit
import Derived.ProofKit
import Derived.OpenShut
import Derived.ShutString
import Derived.WalkLawsBesides
import Derived.Lib.QuietBelow
import Derived.BigQuiet
import Derived.Lib.SmallJoins
import Derived.Deep.RegionHeld3
import Derived.Deep.DrawnRows

/- Plain words on worlds that grow: what lay there stays, and the box of a call's own; no conditions. -/
namespace Go.Proofs.Ytcfakhfipdjnmab
open Go.ChangeShapes Go.WideShapes Go.ChangeAt Go.RowKit
set_option linter.unusedVariables false

/-- An integer of a value. -/
def intV : Value → Int | .int _ q => q | _ => 0
theorem bd64 {x : Int} (h : (Lit.int .i64 x).wf = true) : -9223372036854775808 ≤ x ∧ x ≤ 9223372036854775807 := by
  have := bounds_i64 h
  omega
theorem ret_i {a b : Int} (h : a = b) : Ending.returned (.int .i64 a) = .returned (.int .i64 b) := by rw [h]
theorem ret_b {a b : Bool} (h : a = b) : Ending.returned (.bool a) = .returned (.bool b) := by rw [h]
/-- Below from a world that has grown behind another one. -/
theorem bthen {w w1 w2 : World} (h : Below w.heap.size w w1) (k : Below w1.heap.size w1 w2) : Below w.heap.size w w2 :=
  h.trans (k.mono h.size)
theorem ballc (w : World) (ob : Obj) : Below w.heap.size w (w.alloc ob) := (Below.refl _ _).alloc (Nat.le_refl _) _
/-- A region's world, grown by calls: what lay there reads as it did. -/
theorem cell_rg (w : World) (dq : Nat) (os : Array Obj) (a : Addr) (h : a.block < w.heap.size) : (Sort.grow (redrawn w dq) os).cell? a = w.cell? a := (below_regrown w dq os).cell h
theorem rg_below {W w' : World} (h : ∃ q : Regrown, w' = Sort.grow (redrawn W q.d) q.os) : Below W.heap.size W w' := by
  obtain ⟨⟨dq, os⟩, rfl⟩ := h
  exact below_regrown W dq os
/-- A box of the call's own, in a later world. -/
theorem box_at {w wl : World} {C : Array Value} {t : TypeId} (hb : Below (w.alloc (.cells C t)).heap.size (w.alloc (.cells C t)) wl) : (∀ i, wl.cell? ⟨w.heap.size, i, none⟩ = C[i]?) ∧ w.heap.size < wl.heap.size := by
  have hs := hb.size
  simp at hs
  refine ⟨fun i => ?_, by omega⟩
  rw [hb.cell (p := ⟨w.heap.size, i, none⟩) (by simp)]
  exact World.cell?_alloc_mark w C t _ i
theorem Calls.to_below {P : Program} {F : FuncId} {args : Array Value} {w : World} {v : Value} (h : Calls P F args w fun e w' => e = .returned v ∧ w = w') : Calls P F args w fun e w' => e = .returned v ∧ Below w.heap.size w w' :=
  h.mono fun _ _ ⟨he, hw⟩ => ⟨he, by rw [← hw]; exact Below.refl _ _⟩
theorem hidden {q : Prop} (h : q) : Hid q := h
theorem Hid.out {q : Prop} (h : Hid q) : q := h
end Go.Proofs.Ytcfakhfipdjnmab

/- Plain words on configurations: what lies in a table, what stays when memory grows, and the numbers that the rules of a configuration ask for; no conditions. -/
namespace Go.Proofs.Ytcfakhfipdjnmab
open Go.ChangeShapes Go.WideShapes Go.ChangeAt Go.RowKit
set_option linter.unusedVariables false

theorem bcell {W w1 : World} (hb : Below W.heap.size W w1) : (∀ b i, b < W.heap.size → w1.cell? ⟨b, i, none⟩ = W.cell? ⟨b, i, none⟩) ∧ (∀ b i, b < W.heap.size → w1.frozen? ⟨b, i, none⟩ = W.frozen? ⟨b, i, none⟩) :=
  ⟨fun b i h => hb.cell (p := ⟨b, i, none⟩) h, fun b i h => hb.frozen (p := ⟨b, i, none⟩) h⟩

/-- A table's numbers lie behind its address. -/
def Tab (w : World) (ad : Option Addr) (zs : List Int) : Prop := ∀ i, i < zs.length → ∃ a : Addr, ad = some a ∧ w.cell? (a.add i) = some (.int .i64 (zs.getD i 0))
theorem Tab.below {w w' : World} {ad : Option Addr} {zs : List Int} (h : Tab w ad zs) (hb : Below w.heap.size w w') : Tab w' ad zs := by
  intro i hi
  obtain ⟨a, ha, hc⟩ := h i hi
  exact ⟨a, ha, by rw [hb.cell (block_lt_of_cell hc)]; exact hc⟩
theorem Tab.at {w : World} {a : Addr} {zs : List Int} (h : Tab w (some a) zs) (i : Nat) (hi : i < zs.length) : w.cell? (a.add i) = some (.int .i64 (zs.getD i 0)) := by
  obtain ⟨a', ha, hc⟩ := h i hi
  cases ha
  exact hc


/-- A table's cell, where it lies, and that it lies there. -/
theorem Tab.lies {w : World} {ad : Option Addr} {zs : List Int} (h : Tab w ad zs) (i : Nat) (hi : i < zs.length) : ∃ a : Addr, ad = some a ∧ w.cell? (a.add i) = some (.int .i64 (zs.getD i 0)) ∧ (a.add i).block < w.heap.size := by
  obtain ⟨a, ha, hc⟩ := h i hi
  exact ⟨a, ha, hc, block_lt_of_cell hc⟩
theorem Calls.to_belowR {P : Program} {F : FuncId} {args : Array Value} {w : World} {v : Value} (h : Calls P F args w fun e w' => e = .returned v ∧ w' = w) : Calls P F args w fun e w' => e = .returned v ∧ Below w.heap.size w w' :=
  h.mono fun _ _ ⟨he, hw⟩ => ⟨he, by rw [hw]; exact Below.refl _ _⟩

def roundsW (f : Int) : Int := wrap64 (3 * wrap64 (f + 1))
def lengthW (f d : Int) : Int := wrap64 (roundsW f * d)
theorem roundsW_eq {f : Int} (h1 : 0 ≤ f) (h2 : f ≤ 4) : roundsW f = 3 * (f + 1) := by
  unfold roundsW wrap64; omega
theorem lengthW_eq {f d : Int} (h1 : 0 ≤ f) (h2 : f ≤ 4) (h3 : 1 ≤ d) (h4 : d ≤ 4) : lengthW f d = 3 * (f + 1) * d := by
  have hp : 0 ≤ (3 * (f + 1)) * d := Int.mul_nonneg (by omega) (by omega)
  have hq : (3 * (f + 1)) * d ≤ 15 * 4 := Int.mul_le_mul (by omega) h4 (by omega) (by omega)
  unfold lengthW
  rw [roundsW_eq h1 h2]
  unfold wrap64; omega
end Go.Proofs.Ytcfakhfipdjnmab

/- A configuration that came in as an argument, opened: ten numbers, and a table that lies behind its address; no conditions. -/
namespace Go.Proofs.Ytcfakhfipdjnmab
open Go.ChangeShapes Go.WideShapes Go.ChangeAt Go.RowKit
set_option linter.unusedVariables false

theorem array11 {α : Type} {cs : Array α} (h : cs.size = 11) : ∃ c0 c1 c2 c3 c4 c5 c6 c7 c8 c9 c10, cs = #[c0, c1, c2, c3, c4, c5, c6, c7, c8, c9, c10] := by
  obtain ⟨l⟩ := cs
  match l, h with
  | [c0, c1, c2, c3, c4, c5, c6, c7, c8, c9, c10], _ => exact ⟨c0, c1, c2, c3, c4, c5, c6, c7, c8, c9, c10, rfl⟩
theorem some_of_lt {α : Type} {xs : List α} {i m : Nat} {x : Option α} (h : xs.length = m) (hi : i < m) (e : x = xs[i]?) : ∃ y, x = some y := by
  subst h
  exact ⟨_, by rw [e, List.getElem?_eq_getElem hi]⟩

section
variable {H : Type} {enc : TypeId × Value → H} {w : World} {base : Nat} {spare : Nat → Bool} {held : Bool}
set_option maxRecDepth 100000 in
/-- A row of numbers that came in: where its cells lie. -/
theorem open_row {fuel : Nat} {c : Value} {x : DataW H × List MemPlace} (h : DataW.trod enc Try.prog w base spare held fuel 22 [c] = some x) :
    ∃ (ad : Option Addr) (cap : Nat) (zs : List Int), c = .slice ad zs.length cap ∧ zs.length ≤ 9223372036854775807 ∧ Tab w ad zs ∧ (∀ z ∈ zs, (Lit.int .i64 z).wf = true) := by
  rcases open_ints Try.underlying22 Try.underlying3 (by kernel_rfl) h with ⟨hcs, _⟩ | ⟨a, len, cap, zs, hcs, _, hl, hm, hz, _, hcell, hw⟩
  · exact ⟨none, 0, [], by simpa using hcs, by simp, fun i hi => absurd hi (Nat.not_lt_zero _), fun z hz => by cases hz⟩
  · unfold maxLen at hm
    have hle : len ≤ zs.length := by rw [hz]; split <;> omega
    have hlen : (zs.take len).length = len := by rw [List.length_take]; omega
    refine ⟨some a, cap, zs.take len, ?_, by omega, ?_, fun z hz => hw z (List.mem_of_mem_take hz)⟩
    · rw [hlen]; simpa using hcs
    · intro i hi
      rw [hlen] at hi
      refine ⟨a, rfl, ?_⟩
      rw [hcell i (by omega)]
      simp [List.getD_eq_getElem?_getD, hi]
set_option maxRecDepth 100000 in
theorem open_row_arg {r : Reach} {b0 : Nat} {v : Value} {dt : DataW H} {ps : List MemPlace} (hv : Value.okWide Try.prog w r b0 22 v) (h : DataW.Trod enc Try.prog w base spare held 22 v dt ps) :
    ∃ (ad : Option Addr) (cap : Nat) (zs : List Int), v = .slice ad zs.length cap ∧ zs.length ≤ 9223372036854775807 ∧ Tab w ad zs ∧ (∀ z ∈ zs, (Lit.int .i64 z).wf = true) := by
  obtain ⟨x, y, c, rfl⟩ := okWide_slice Try.underlying22 hv
  obtain ⟨fu, hf⟩ := h
  exact open_row (by simpa [Value.cells] using hf)
set_option maxRecDepth 100000 in
theorem open_conf {r : Reach} {b0 : Nat} {v : Value} {dt : DataW H} {ps : List MemPlace} (hv : Value.okWide Try.prog w r b0 24 v) (h : DataW.Trod enc Try.prog w base spare held 24 v dt ps) :
    ∃ (n f d p r dr o sl md fr : Int) (ad : Option Addr) (cap : Nat) (zs : List Int), v = .agg #[.int .i64 n, .int .i64 f, .int .i64 d, .int .i64 p, .int .i64 r, .int .i64 dr, .int .i64 o, .int .i64 sl, .int .i64 md, .int .i64 fr, .slice ad zs.length cap] ∧ zs.length ≤ 9223372036854775807 ∧ Tab w ad zs := by
  have hs := Try.underlying24
  obtain ⟨cs, rfl, hsz⟩ := okWide_struct hs hv
  obtain ⟨c0, c1, c2, c3, c4, c5, c6, c7, c8, c9, c10, rfl⟩ := array11 (hsz.trans (by kernel_rfl))
  obtain ⟨fuel, hf⟩ := h
  obtain ⟨xs, m, _, _, _, hxl, hfs⟩ := DataW.trod_struct hs hf
  have k3 : Try.prog.cellsOf 3 = 1 := by kernel_rfl
  have k22 : Try.prog.cellsOf 22 = 1 := by kernel_rfl
  obtain ⟨y0, q0⟩ := some_of_lt hxl (by decide : 0 < 11) (hfs 0 _ rfl)
  have z0 : DataW.trod enc Try.prog w base spare held m 3 [c0] = some y0 := by simpa [Value.cells, k3] using q0
  obtain ⟨x0, h0, _⟩ := DataW.trod_int Try.underlying3 z0
  simp only [List.cons.injEq, and_true] at h0
  subst h0
  obtain ⟨y1, q1⟩ := some_of_lt hxl (by decide : 1 < 11) (hfs 1 _ rfl)
  have z1 : DataW.trod enc Try.prog w base spare held m 3 [c1] = some y1 := by simpa [Value.cells, k3] using q1
  obtain ⟨x1, h1, _⟩ := DataW.trod_int Try.underlying3 z1
  simp only [List.cons.injEq, and_true] at h1
  subst h1
  obtain ⟨y2, q2⟩ := some_of_lt hxl (by decide : 2 < 11) (hfs 2 _ rfl)
  have z2 : DataW.trod enc Try.prog w base spare held m 3 [c2] = some y2 := by simpa [Value.cells, k3] using q2
  obtain ⟨x2, h2, _⟩ := DataW.trod_int Try.underlying3 z2
  simp only [List.cons.injEq, and_true] at h2
  subst h2
  obtain ⟨y3, q3⟩ := some_of_lt hxl (by decide : 3 < 11) (hfs 3 _ rfl)
  have z3 : DataW.trod enc Try.prog w base spare held m 3 [c3] = some y3 := by simpa [Value.cells, k3] using q3
  obtain ⟨x3, h3, _⟩ := DataW.trod_int Try.underlying3 z3
  simp only [List.cons.injEq, and_true] at h3
  subst h3
  obtain ⟨y4, q4⟩ := some_of_lt hxl (by decide : 4 < 11) (hfs 4 _ rfl)
  have z4 : DataW.trod enc Try.prog w base spare held m 3 [c4] = some y4 := by simpa [Value.cells, k3] using q4
  obtain ⟨x4, h4, _⟩ := DataW.trod_int Try.underlying3 z4
  simp only [List.cons.injEq, and_true] at h4
  subst h4
  obtain ⟨y5, q5⟩ := some_of_lt hxl (by decide : 5 < 11) (hfs 5 _ rfl)
  have z5 : DataW.trod enc Try.prog w base spare held m 3 [c5] = some y5 := by simpa [Value.cells, k3] using q5
  obtain ⟨x5, h5, _⟩ := DataW.trod_int Try.underlying3 z5
  simp only [List.cons.injEq, and_true] at h5
  subst h5
  obtain ⟨y6, q6⟩ := some_of_lt hxl (by decide : 6 < 11) (hfs 6 _ rfl)
  have z6 : DataW.trod enc Try.prog w base spare held m 3 [c6] = some y6 := by simpa [Value.cells, k3] using q6
  obtain ⟨x6, h6, _⟩ := DataW.trod_int Try.underlying3 z6
  simp only [List.cons.injEq, and_true] at h6
  subst h6
  obtain ⟨y7, q7⟩ := some_of_lt hxl (by decide : 7 < 11) (hfs 7 _ rfl)
  have z7 : DataW.trod enc Try.prog w base spare held m 3 [c7] = some y7 := by simpa [Value.cells, k3] using q7
  obtain ⟨x7, h7, _⟩ := DataW.trod_int Try.underlying3 z7
  simp only [List.cons.injEq, and_true] at h7
  subst h7
  obtain ⟨y8, q8⟩ := some_of_lt hxl (by decide : 8 < 11) (hfs 8 _ rfl)
  have z8 : DataW.trod enc Try.prog w base spare held m 3 [c8] = some y8 := by simpa [Value.cells, k3] using q8
  obtain ⟨x8, h8, _⟩ := DataW.trod_int Try.underlying3 z8
  simp only [List.cons.injEq, and_true] at h8
  subst h8
  obtain ⟨y9, q9⟩ := some_of_lt hxl (by decide : 9 < 11) (hfs 9 _ rfl)
  have z9 : DataW.trod enc Try.prog w base spare held m 3 [c9] = some y9 := by simpa [Value.cells, k3] using q9
  obtain ⟨x9, h9, _⟩ := DataW.trod_int Try.underlying3 z9
  simp only [List.cons.injEq, and_true] at h9
  subst h9
  obtain ⟨y10, q10⟩ := some_of_lt hxl (by decide : 10 < 11) (hfs 10 _ rfl)
  have z10 : DataW.trod enc Try.prog w base spare held m 22 [c10] = some y10 := by simpa [Value.cells, k22] using q10
  obtain ⟨ad, cap, zs, h10, hl, hT, _⟩ := open_row z10
  subst h10
  exact ⟨x0, x1, x2, x3, x4, x5, x6, x7, x8, x9, ad, cap, zs, rfl, hl, hT⟩
end
end Go.Proofs.Ytcfakhfipdjnmab

/- The small calls of package conf (rounds, length, hold) return what they say, by numbers that wrap round, and make at most new memory; no conditions. -/
namespace Go.Proofs.Ytcfakhfipdjnmab
open Go.ChangeShapes Go.WideShapes Go.ChangeAt Go.RowKit
set_option linter.unusedVariables false
attribute [local go_sem] cell_rg

theorem cRounds_any (n f d p r dr o sl md fr : Int) (ad : Option Addr) (cap : Nat) (zs : List Int) (w : World) :
    Calls Try.prog 51 #[.agg #[.int .i64 n, .int .i64 f, .int .i64 d, .int .i64 p, .int .i64 r, .int .i64 dr, .int .i64 o, .int .i64 sl, .int .i64 md, .int .i64 fr, .slice ad zs.length cap]] w fun e w' => e = .returned (.int .i64 (roundsW f)) ∧ Below w.heap.size w w' := by
  go_enter Try.func51, Try.ntmps51
  go_wp2
  go_ret
  exact ⟨rfl, ballc _ _⟩

theorem cLength_any (n f d p r dr o sl md fr : Int) (ad : Option Addr) (cap : Nat) (zs : List Int) (w : World) :
    Calls Try.prog 46 #[.agg #[.int .i64 n, .int .i64 f, .int .i64 d, .int .i64 p, .int .i64 r, .int .i64 dr, .int .i64 o, .int .i64 sl, .int .i64 md, .int .i64 fr, .slice ad zs.length cap]] w fun e w' => e = .returned (.int .i64 (lengthW f d)) ∧ Below w.heap.size w w' := by
  go_enter Try.func46, Try.ntmps46
  go_wp2
  refine wp_region_quiet_below (by kernel_rfl) (by kernel_rfl) ?_
  repeat (first | (go_big_quiet_step (exact Calls.regrown_of (cRounds_any _ _ _ _ _ _ _ _ _ _ _ _ _ _))) | quiet_step (exact Calls.regrown_of (cRounds_any _ _ _ _ _ _ _ _ _ _ _ _ _ _)))
  refine wpQuiet_nil ?_
  intro _ hw'
  have hb1 := rg_below hw'
  clear hw'
  go_wp2
  go_ret
  exact ⟨rfl, bthen (ballc _ _) hb1⟩

theorem hold_any (a b x : Int) (w : World) :
    Calls Try.prog 35 #[.agg #[.int .i64 a, .int .i64 b], .int .i64 x] w fun e w' => e = .returned (.bool (decide (a ≤ x ∧ x ≤ b))) ∧ Below w.heap.size w w' := by
  by_cases h1 : a ≤ x
  · by_cases h2 : x ≤ b
    all_goals
      go_enter Try.func35, Try.ntmps35
      go_wp2
      go_ret
      exact ⟨ret_b (by simp [h1, h2]), ballc _ _⟩
  · have h1' : decide (a ≤ x) = false := by simp [h1]
    go_enter Try.func35, Try.ntmps35
    go_wp2
    go_ret
    exact ⟨ret_b (by simp), ballc _ _⟩
end Go.Proofs.Ytcfakhfipdjnmab
