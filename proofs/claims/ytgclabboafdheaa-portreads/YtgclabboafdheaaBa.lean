/- Several texts of one's own in one: what each proves, and its conditions, is said ahead of it. -/
import Derived.Test.YtgclabboafdheaaRows
import Derived.WalkKit
import Derived.ProofKit
import Derived.OpenShut
import Derived.ShutString
import Derived.WalkLawsBesides
import Derived.Lib.QuietBelow
import Derived.BigQuiet
import Derived.Lib.SmallJoins
import Derived.Deep.RegionHeld3
import Derived.Deep.DrawnRows
import Derived.Laws.OwnMore
import Derived.Laws.AppendOwnNone
import Derived.Maps.AppendAt
import Derived.OwnWalkIn
import Derived.Deep.Slices
import Derived.ChangeSame
import Derived.Shelf.Abstract
import Derived.Laws.DeepStrings4
import Derived.WalkSpells
import Derived.Laws.BytesString
import Derived.Deep.OwnRows
import Derived.Laws.IdiomStrings
import Derived.Lib.Bytealg
import Derived.Lib.CountLaws

/- Plain words on worlds that grow: what lay there stays, and the box of a call's own; no conditions. -/
namespace Go.Proofs.Ytgclabboafdheaa
open Go.ChangeShapes Go.WideShapes Go.ChangeAt Go.RowKit
set_option linter.unusedVariables false

/-- An integer of a value. -/
def intV : Value → Int | .int _ q => q | _ => 0
theorem bd64 {x : Int} (h : (Lit.int .i64 x).wf = true) : -9223372036854775808 ≤ x ∧ x ≤ 9223372036854775807 := by
  have := bounds_i64 h
  omega
theorem ret_i {a b : Int} (h : a = b) : Ending.returned (.int .i64 a) = .returned (.int .i64 b) := by rw [h]
theorem ret_b {a b : Bool} (h : a = b) : Ending.returned (.bool a) = .returned (.bool b) := by rw [h]
/-- Below from a world that has grown behind another one. -/
theorem bthen {w w1 w2 : World} (h : Below w.heap.size w w1) (k : Below w1.heap.size w1 w2) : Below w.heap.size w w2 :=
  h.trans (k.mono h.size)
theorem ballc (w : World) (ob : Obj) : Below w.heap.size w (w.alloc ob) := (Below.refl _ _).alloc (Nat.le_refl _) _
/-- A region's world, grown by calls: what lay there reads as it did. -/
theorem cell_rg (w : World) (dq : Nat) (os : Array Obj) (a : Addr) (h : a.block < w.heap.size) : (Sort.grow (redrawn w dq) os).cell? a = w.cell? a := (below_regrown w dq os).cell h
theorem rg_below {W w' : World} (h : ∃ q : Regrown, w' = Sort.grow (redrawn W q.d) q.os) : Below W.heap.size W w' := by
  obtain ⟨⟨dq, os⟩, rfl⟩ := h
  exact below_regrown W dq os
/-- A box of the call's own, in a later world. -/
theorem box_at {w wl : World} {C : Array Value} {t : TypeId} (hb : Below (w.alloc (.cells C t)).heap.size (w.alloc (.cells C t)) wl) : (∀ i, wl.cell? ⟨w.heap.size, i, none⟩ = C[i]?) ∧ w.heap.size < wl.heap.size := by
  have hs := hb.size
  simp at hs
  refine ⟨fun i => ?_, by omega⟩
  rw [hb.cell (p := ⟨w.heap.size, i, none⟩) (by simp)]
  exact World.cell?_alloc_mark w C t _ i
theorem Calls.to_below {P : Program} {F : FuncId} {args : Array Value} {w : World} {v : Value} (h : Calls P F args w fun e w' => e = .returned v ∧ w = w') : Calls P F args w fun e w' => e = .returned v ∧ Below w.heap.size w w' :=
  h.mono fun _ _ ⟨he, hw⟩ => ⟨he, by rw [← hw]; exact Below.refl _ _⟩
theorem hidden {q : Prop} (h : q) : Hid q := h
theorem Hid.out {q : Prop} (h : Hid q) : q := h
end Go.Proofs.Ytgclabboafdheaa

/- Plain words on configurations: what lies in a table, what stays when memory grows, and the numbers that the rules of a configuration ask for; no conditions. -/
namespace Go.Proofs.Ytgclabboafdheaa
open Go.ChangeShapes Go.WideShapes Go.ChangeAt Go.RowKit
set_option linter.unusedVariables false

theorem bcell {W w1 : World} (hb : Below W.heap.size W w1) : (∀ b i, b < W.heap.size → w1.cell? ⟨b, i, none⟩ = W.cell? ⟨b, i, none⟩) ∧ (∀ b i, b < W.heap.size → w1.frozen? ⟨b, i, none⟩ = W.frozen? ⟨b, i, none⟩) :=
  ⟨fun b i h => hb.cell (p := ⟨b, i, none⟩) h, fun b i h => hb.frozen (p := ⟨b, i, none⟩) h⟩

/-- A table's numbers lie behind its address. -/
def Tab (w : World) (ad : Option Addr) (zs : List Int) : Prop := ∀ i, i < zs.length → ∃ a : Addr, ad = some a ∧ w.cell? (a.add i) = some (.int .i64 (zs.getD i 0))
theorem Tab.below {w w' : World} {ad : Option Addr} {zs : List Int} (h : Tab w ad zs) (hb : Below w.heap.size w w') : Tab w' ad zs := by
  intro i hi
  obtain ⟨a, ha, hc⟩ := h i hi
  exact ⟨a, ha, by rw [hb.cell (block_lt_of_cell hc)]; exact hc⟩
theorem Tab.at {w : World} {a : Addr} {zs : List Int} (h : Tab w (some a) zs) (i : Nat) (hi : i < zs.length) : w.cell? (a.add i) = some (.int .i64 (zs.getD i 0)) := by
  obtain ⟨a', ha, hc⟩ := h i hi
  cases ha
  exact hc


/-- A table's cell, where it lies, and that it lies there. -/
theorem Tab.lies {w : World} {ad : Option Addr} {zs : List Int} (h : Tab w ad zs) (i : Nat) (hi : i < zs.length) : ∃ a : Addr, ad = some a ∧ w.cell? (a.add i) = some (.int .i64 (zs.getD i 0)) ∧ (a.add i).block < w.heap.size := by
  obtain ⟨a, ha, hc⟩ := h i hi
  exact ⟨a, ha, hc, block_lt_of_cell hc⟩
theorem Calls.to_belowR {P : Program} {F : FuncId} {args : Array Value} {w : World} {v : Value} (h : Calls P F args w fun e w' => e = .returned v ∧ w' = w) : Calls P F args w fun e w' => e = .returned v ∧ Below w.heap.size w w' :=
  h.mono fun _ _ ⟨he, hw⟩ => ⟨he, by rw [hw]; exact Below.refl _ _⟩

def roundsW (f : Int) : Int := wrap64 (3 * wrap64 (f + 1))
def lengthW (f d : Int) : Int := wrap64 (roundsW f * d)
theorem roundsW_eq {f : Int} (h1 : 0 ≤ f) (h2 : f ≤ 4) : roundsW f = 3 * (f + 1) := by
  unfold roundsW wrap64; omega
theorem lengthW_eq {f d : Int} (h1 : 0 ≤ f) (h2 : f ≤ 4) (h3 : 1 ≤ d) (h4 : d ≤ 4) : lengthW f d = 3 * (f + 1) * d := by
  have hp : 0 ≤ (3 * (f + 1)) * d := Int.mul_nonneg (by omega) (by omega)
  have hq : (3 * (f + 1)) * d ≤ 15 * 4 := Int.mul_le_mul (by omega) h4 (by omega) (by omega)
  unfold lengthW
  rw [roundsW_eq h1 h2]
  unfold wrap64; omega
end Go.Proofs.Ytgclabboafdheaa

/- A configuration that came in as an argument, opened: ten numbers, and a table that lies behind its address; no conditions. -/
namespace Go.Proofs.Ytgclabboafdheaa
open Go.ChangeShapes Go.WideShapes Go.ChangeAt Go.RowKit
set_option linter.unusedVariables false

theorem array11 {α : Type} {cs : Array α} (h : cs.size = 11) : ∃ c0 c1 c2 c3 c4 c5 c6 c7 c8 c9 c10, cs = #[c0, c1, c2, c3, c4, c5, c6, c7, c8, c9, c10] := by
  obtain ⟨l⟩ := cs
  match l, h with
  | [c0, c1, c2, c3, c4, c5, c6, c7, c8, c9, c10], _ => exact ⟨c0, c1, c2, c3, c4, c5, c6, c7, c8, c9, c10, rfl⟩
theorem some_of_lt {α : Type} {xs : List α} {i m : Nat} {x : Option α} (h : xs.length = m) (hi : i < m) (e : x = xs[i]?) : ∃ y, x = some y := by
  subst h
  exact ⟨_, by rw [e, List.getElem?_eq_getElem hi]⟩

section
variable {H : Type} {enc : TypeId × Value → H} {w : World} {base : Nat} {spare : Nat → Bool} {held : Bool}
set_option maxRecDepth 100000 in
/-- A row of numbers that came in: where its cells lie. -/
theorem open_row {fuel : Nat} {c : Value} {x : DataW H × List MemPlace} (h : DataW.trod enc Try.prog w base spare held fuel 22 [c] = some x) :
    ∃ (ad : Option Addr) (cap : Nat) (zs : List Int), c = .slice ad zs.length cap ∧ zs.length ≤ 9223372036854775807 ∧ Tab w ad zs ∧ (∀ z ∈ zs, (Lit.int .i64 z).wf = true) := by
  rcases open_ints Try.underlying22 Try.underlying3 (by kernel_rfl) h with ⟨hcs, _⟩ | ⟨a, len, cap, zs, hcs, _, hl, hm, hz, _, hcell, hw⟩
  · exact ⟨none, 0, [], by simpa using hcs, by simp, fun i hi => absurd hi (Nat.not_lt_zero _), fun z hz => by cases hz⟩
  · unfold maxLen at hm
    have hle : len ≤ zs.length := by rw [hz]; split <;> omega
    have hlen : (zs.take len).length = len := by rw [List.length_take]; omega
    refine ⟨some a, cap, zs.take len, ?_, by omega, ?_, fun z hz => hw z (List.mem_of_mem_take hz)⟩
    · rw [hlen]; simpa using hcs
    · intro i hi
      rw [hlen] at hi
      refine ⟨a, rfl, ?_⟩
      rw [hcell i (by omega)]
      simp [List.getD_eq_getElem?_getD, hi]
set_option maxRecDepth 100000 in
theorem open_row_arg {r : Reach} {b0 : Nat} {v : Value} {dt : DataW H} {ps : List MemPlace} (hv : Value.okWide Try.prog w r b0 22 v) (h : DataW.Trod enc Try.prog w base spare held 22 v dt ps) :
    ∃ (ad : Option Addr) (cap : Nat) (zs : List Int), v = .slice ad zs.length cap ∧ zs.length ≤ 9223372036854775807 ∧ Tab w ad zs ∧ (∀ z ∈ zs, (Lit.int .i64 z).wf = true) := by
  obtain ⟨x, y, c, rfl⟩ := okWide_slice Try.underlying22 hv
  obtain ⟨fu, hf⟩ := h
  exact open_row (by simpa [Value.cells] using hf)
set_option maxRecDepth 100000 in
theorem open_conf {r : Reach} {b0 : Nat} {v : Value} {dt : DataW H} {ps : List MemPlace} (hv : Value.okWide Try.prog w r b0 24 v) (h : DataW.Trod enc Try.prog w base spare held 24 v dt ps) :
    ∃ (n f d p r dr o sl md fr : Int) (ad : Option Addr) (cap : Nat) (zs : List Int), v = .agg #[.int .i64 n, .int .i64 f, .int .i64 d, .int .i64 p, .int .i64 r, .int .i64 dr, .int .i64 o, .int .i64 sl, .int .i64 md, .int .i64 fr, .slice ad zs.length cap] ∧ zs.length ≤ 9223372036854775807 ∧ Tab w ad zs := by
  have hs := Try.underlying24
  obtain ⟨cs, rfl, hsz⟩ := okWide_struct hs hv
  obtain ⟨c0, c1, c2, c3, c4, c5, c6, c7, c8, c9, c10, rfl⟩ := array11 (hsz.trans (by kernel_rfl))
  obtain ⟨fuel, hf⟩ := h
  obtain ⟨xs, m, _, _, _, hxl, hfs⟩ := DataW.trod_struct hs hf
  have k3 : Try.prog.cellsOf 3 = 1 := by kernel_rfl
  have k22 : Try.prog.cellsOf 22 = 1 := by kernel_rfl
  obtain ⟨y0, q0⟩ := some_of_lt hxl (by decide : 0 < 11) (hfs 0 _ rfl)
  have z0 : DataW.trod enc Try.prog w base spare held m 3 [c0] = some y0 := by simpa [Value.cells, k3] using q0
  obtain ⟨x0, h0, _⟩ := DataW.trod_int Try.underlying3 z0
  simp only [List.cons.injEq, and_true] at h0
  subst h0
  obtain ⟨y1, q1⟩ := some_of_lt hxl (by decide : 1 < 11) (hfs 1 _ rfl)
  have z1 : DataW.trod enc Try.prog w base spare held m 3 [c1] = some y1 := by simpa [Value.cells, k3] using q1
  obtain ⟨x1, h1, _⟩ := DataW.trod_int Try.underlying3 z1
  simp only [List.cons.injEq, and_true] at h1
  subst h1
  obtain ⟨y2, q2⟩ := some_of_lt hxl (by decide : 2 < 11) (hfs 2 _ rfl)
  have z2 : DataW.trod enc Try.prog w base spare held m 3 [c2] = some y2 := by simpa [Value.cells, k3] using q2
  obtain ⟨x2, h2, _⟩ := DataW.trod_int Try.underlying3 z2
  simp only [List.cons.injEq, and_true] at h2
  subst h2
  obtain ⟨y3, q3⟩ := some_of_lt hxl (by decide : 3 < 11) (hfs 3 _ rfl)
  have z3 : DataW.trod enc Try.prog w base spare held m 3 [c3] = some y3 := by simpa [Value.cells, k3] using q3
  obtain ⟨x3, h3, _⟩ := DataW.trod_int Try.underlying3 z3
  simp only [List.cons.injEq, and_true] at h3
  subst h3
  obtain ⟨y4, q4⟩ := some_of_lt hxl (by decide : 4 < 11) (hfs 4 _ rfl)
  have z4 : DataW.trod enc Try.prog w base spare held m 3 [c4] = some y4 := by simpa [Value.cells, k3] using q4
  obtain ⟨x4, h4, _⟩ := DataW.trod_int Try.underlying3 z4
  simp only [List.cons.injEq, and_true] at h4
  subst h4
  obtain ⟨y5, q5⟩ := some_of_lt hxl (by decide : 5 < 11) (hfs 5 _ rfl)
  have z5 : DataW.trod enc Try.prog w base spare held m 3 [c5] = some y5 := by simpa [Value.cells, k3] using q5
  obtain ⟨x5, h5, _⟩ := DataW.trod_int Try.underlying3 z5
  simp only [List.cons.injEq, and_true] at h5
  subst h5
  obtain ⟨y6, q6⟩ := some_of_lt hxl (by decide : 6 < 11) (hfs 6 _ rfl)
  have z6 : DataW.trod enc Try.prog w base spare held m 3 [c6] = some y6 := by simpa [Value.cells, k3] using q6
  obtain ⟨x6, h6, _⟩ := DataW.trod_int Try.underlying3 z6
  simp only [List.cons.injEq, and_true] at h6
  subst h6
  obtain ⟨y7, q7⟩ := some_of_lt hxl (by decide : 7 < 11) (hfs 7 _ rfl)
  have z7 : DataW.trod enc Try.prog w base spare held m 3 [c7] = some y7 := by simpa [Value.cells, k3] using q7
  obtain ⟨x7, h7, _⟩ := DataW.trod_int Try.underlying3 z7
  simp only [List.cons.injEq, and_true] at h7
  subst h7
  obtain ⟨y8, q8⟩ := some_of_lt hxl (by decide : 8 < 11) (hfs 8 _ rfl)
  have z8 : DataW.trod enc Try.prog w base spare held m 3 [c8] = some y8 := by simpa [Value.cells, k3] using q8
  obtain ⟨x8, h8, _⟩ := DataW.trod_int Try.underlying3 z8
  simp only [List.cons.injEq, and_true] at h8
  subst h8
  obtain ⟨y9, q9⟩ := some_of_lt hxl (by decide : 9 < 11) (hfs 9 _ rfl)
  have z9 : DataW.trod enc Try.prog w base spare held m 3 [c9] = some y9 := by simpa [Value.cells, k3] using q9
  obtain ⟨x9, h9, _⟩ := DataW.trod_int Try.underlying3 z9
  simp only [List.cons.injEq, and_true] at h9
  subst h9
  obtain ⟨y10, q10⟩ := some_of_lt hxl (by decide : 10 < 11) (hfs 10 _ rfl)
  have z10 : DataW.trod enc Try.prog w base spare held m 22 [c10] = some y10 := by simpa [Value.cells, k22] using q10
  obtain ⟨ad, cap, zs, h10, hl, hT, _⟩ := open_row z10
  subst h10
  exact ⟨x0, x1, x2, x3, x4, x5, x6, x7, x8, x9, ad, cap, zs, rfl, hl, hT⟩
end
end Go.Proofs.Ytgclabboafdheaa

/- Texts as lists of bytes, and back; no conditions. -/
namespace Go.Proofs.Ytgclabboafdheaa
set_option linter.unusedVariables false

/-- A text as a list, and back. -/
def bl (s : ByteArray) : List UInt8 := s.data.toList
def ba (l : List UInt8) : ByteArray := ⟨l.toArray⟩
theorem ba_bl (s : ByteArray) : ba (bl s) = s := by simp [ba, bl]
theorem bl_ba (l : List UInt8) : bl (ba l) = l := by simp [ba, bl]
theorem bl_length (s : ByteArray) : (bl s).length = s.size := by simp [bl]
theorem bl_inj {s t : ByteArray} (h : bl s = bl t) : s = t := by rw [← ba_bl s, ← ba_bl t, h]
theorem ba_size (l : List UInt8) : (ba l).size = l.length := by simp [ba, ByteArray.size]
theorem ba_append (a b : List UInt8) : ba a ++ ba b = ba (a ++ b) := by
  apply ByteArray.ext
  simp [ba, ByteArray.data_append]
theorem bl_append (a b : ByteArray) : bl (a ++ b) = bl a ++ bl b := by simp [bl, ByteArray.data_append]
theorem ba_nil : ba [] = ⟨#[]⟩ := rfl

end Go.Proofs.Ytgclabboafdheaa

/- A row that is filled up to a place; no conditions. -/
namespace Go.Proofs.Ytgclabboafdheaa
set_option linter.unusedVariables false

/-- A row that is filled up to k. -/
def fillL {α : Type} (z : α) (N : Nat) (g : Nat → α) (k : Nat) : List α := (List.range N).map fun j => if j < k then g j else z
theorem fillL_len {α : Type} (z : α) (N : Nat) (g : Nat → α) (k : Nat) : (fillL z N g k).length = N := by simp [fillL]
theorem fillL_0 {α : Type} (z : α) (N : Nat) (g : Nat → α) : fillL z N g 0 = List.replicate N z := by
  apply List.ext_getElem <;> simp [fillL]
theorem fillL_all {α : Type} (z : α) (N : Nat) (g : Nat → α) : fillL z N g N = (List.range N).map g := by
  apply List.ext_getElem
  · simp [fillL]
  · intro i h1 h2
    simp [fillL] at h1 ⊢
    intro h; omega
theorem fillL_set {α : Type} (z : α) (N : Nat) (g : Nat → α) (k : Nat) (hk : k < N) : (fillL z N g k).set k (g k) = fillL z N g (k + 1) := by
  apply List.ext_getElem
  · simp [fillL]
  · intro i h1 h2
    rw [List.getElem_set]
    simp only [fillL, List.getElem_map, List.getElem_range]
    by_cases e : k = i
    · subst e; rw [if_pos rfl, if_pos (by omega)]
    · rw [if_neg e]
      by_cases h : i < k
      · rw [if_pos h, if_pos (by omega)]
      · rw [if_neg h, if_neg (by omega)]
end Go.Proofs.Ytgclabboafdheaa

/- The integer calls of package num (Clamp, Mod, Sat, isWidth) and of the document's answer (Clamp, Mod, Sat) return what plain functions on integers give, and leave the world as it was; for integers that fit int. -/
namespace Go.Proofs.Ytgclabboafdheaa
open Go.ChangeShapes Go.WideShapes Go.ChangeAt Go.RowKit
open Go.ChangeMaps (open_string shut_string)
set_option linter.unusedVariables false

def clampF (n lo hi : Int) : Int := if n < lo ∨ hi < lo then lo else if n ≤ hi then n else hi
def modF (n by_ : Int) : Int := if by_ < 1 then 0 else if n.tmod by_ < 0 then n.tmod by_ + by_ else n.tmod by_
def satF (n most : Int) : Int := if n < 0 ∨ most < 0 then 0 else if most ≤ n then most else n + 1


theorem clamp_any (n lo hi : Int) (w : World) :
    Calls Try.prog 55 #[.int .i64 n, .int .i64 lo, .int .i64 hi] w fun e w' => e = .returned (.int .i64 (clampF n lo hi)) ∧ w = w' := by
  by_cases h1 : n < lo
  · have e : clampF n lo hi = lo := by unfold clampF; rw [if_pos (Or.inl h1)]
    rw [e]; clear e
    go_enter Try.func55, Try.ntmps55
    go_wp2
    go_ret
    exact ⟨rfl, rfl⟩
  · by_cases h2 : hi < lo
    · have e : clampF n lo hi = lo := by unfold clampF; rw [if_pos (Or.inr h2)]
      rw [e]; clear e
      go_enter Try.func55, Try.ntmps55
      go_wp2
      go_ret
      exact ⟨rfl, rfl⟩
    · by_cases h3 : n ≤ hi
      · have e : clampF n lo hi = n := by unfold clampF; rw [if_neg (by omega), if_pos h3]
        rw [e]; clear e
        go_enter Try.func55, Try.ntmps55
        go_wp2
        go_ret
        exact ⟨rfl, rfl⟩
      · have e : clampF n lo hi = hi := by unfold clampF; rw [if_neg (by omega), if_neg h3]
        rw [e]; clear e
        go_enter Try.func55, Try.ntmps55
        go_wp2
        go_ret
        exact ⟨rfl, rfl⟩
theorem sat_any (n m : Int) (w : World) (hn : (Lit.int .i64 n).wf = true) (hm : (Lit.int .i64 m).wf = true) :
    Calls Try.prog 65 #[.int .i64 n, .int .i64 m] w fun e w' => e = .returned (.int .i64 (satF n m)) ∧ w = w' := by
  have bn := bd64 hn
  have bb := bd64 hm
  by_cases h1 : n < 0
  · have e : satF n m = 0 := by unfold satF; rw [if_pos (Or.inl h1)]
    rw [e]; clear e
    go_enter Try.func65, Try.ntmps65
    go_wp2
    go_ret
    exact ⟨rfl, rfl⟩
  · by_cases h2 : m < 0
    · have e : satF n m = 0 := by unfold satF; rw [if_pos (Or.inr h2)]
      rw [e]; clear e
      go_enter Try.func65, Try.ntmps65
      go_wp2
      go_ret
      exact ⟨rfl, rfl⟩
    · by_cases h3 : m ≤ n
      · have e : satF n m = m := by unfold satF; rw [if_neg (by omega), if_pos h3]
        rw [e]; clear e
        go_enter Try.func65, Try.ntmps65
        go_wp2
        go_ret
        exact ⟨rfl, rfl⟩
      · have e : satF n m = n + 1 := by unfold satF; rw [if_neg (by omega), if_neg h3]
        rw [e]; clear e
        go_enter Try.func65, Try.ntmps65
        go_wp2
        go_ret
        exact ⟨rfl, rfl⟩
end Go.Proofs.Ytgclabboafdheaa

/- Plain words on rows of marks: whether a place has one, rows with more of them; no conditions. -/
namespace Go.Proofs.Ytgclabboafdheaa
open Go.ChangeShapes Go.WideShapes Go.ChangeAt Go.RowKit
set_option linter.unusedVariables false

/-- Is there a 1 at that place? -/
def sentB (s : ByteArray) (k : Nat) : Bool := decide (k < s.size) && (s.data.toList.getD k 0 == 49)
/-- Is there a mark at a place that may be none? -/
def hasI (s : ByteArray) (z : Int) : Bool := decide (0 ≤ z) && sentB s z.toNat
theorem hasI_nat (s : ByteArray) (k : Nat) : hasI s (k : Int) = sentB s k := by unfold hasI; rw [decide_eq_true (by omega)]; simp
theorem hasI_neg {s : ByteArray} {z : Int} (h : ¬ 0 ≤ z) : hasI s z = false := by unfold hasI; rw [decide_eq_false h]; rfl
theorem sentB_bl (s : ByteArray) (j : Nat) : sentB s j = ((bl s)[j]? == some 49) := by
  unfold sentB
  by_cases h : j < s.size
  · have h' : j < s.data.toList.length := by simpa using h
    rw [decide_eq_true h, Bool.true_and, List.getD_eq_getElem?_getD]
    unfold bl
    rw [List.getElem?_eq_getElem h']
    rfl
  · have h' : (bl s)[j]? = none := List.getElem?_eq_none (by rw [bl_length]; omega)
    rw [h', decide_eq_false h]
    rfl
/-- So many marks. -/
def mkN (n : Int) : Nat := (clampF n 0 64).toNat
theorem mkN_int (n : Int) : clampF n 0 64 = (mkN n : Int) := by unfold mkN clampF; split <;> (try split) <;> omega
theorem mkN_le (n : Int) : mkN n ≤ 64 := by unfold mkN clampF; split <;> (try split) <;> omega
theorem mkN_of {n : Nat} (h : n ≤ 64) : mkN (n : Int) = n := by unfold mkN clampF; rw [if_neg (by omega), if_pos (by omega)]; rfl
/-- Is there a mark at a place, or is it one of a row's? -/
def markP (s : ByteArray) (at_ : List Int) (i : Nat) : Bool := sentB s i || decide ((i : Int) ∈ at_)
def markU (s : ByteArray) (at_ : List Int) (i : Nat) : UInt8 := if markP s at_ i = true then 49 else 48
def markL (s : ByteArray) (n : Nat) (at_ : List Int) : List UInt8 := (List.range n).map (markU s at_)
def markB (s : ByteArray) (n : Int) (at_ : List Int) : ByteArray := ba (markL s (mkN n) at_)
theorem markL_len (s : ByteArray) (n : Nat) (at_ : List Int) : (markL s n at_).length = n := by simp [markL]
theorem markB_size (s : ByteArray) (n : Int) (at_ : List Int) : (markB s n at_).size = mkN n := by unfold markB; rw [ba_size, markL_len]
theorem sentB_markB (s : ByteArray) (n : Int) (at_ : List Int) (j : Nat) : sentB (markB s n at_) j = (decide (j < mkN n) && markP s at_ j) := by
  rw [sentB_bl]
  unfold markB markL
  rw [bl_ba]
  by_cases h : j < mkN n
  · rw [decide_eq_true h, Bool.true_and, List.getElem?_map, List.getElem?_range h]
    show (some (markU s at_ j) == some 49) = _
    unfold markU
    cases markP s at_ j <;> rfl
  · rw [decide_eq_false h, Bool.false_and, List.getElem?_eq_none (by simp; omega)]
    rfl
/-- The first marks: those of a text. -/
theorem markL_none (s : ByteArray) (n : Nat) : markL s n [] = fillL 0 n (markU s []) n := (fillL_all _ _ _).symm
theorem markU_yes {s : ByteArray} {k : Nat} (h : k < s.size) (e : ((s[k]'h).toNat : Int) = 49) : markU s [] k = UInt8.ofNat 49 := by
  have h1 : s[k]'h = 49 := by
    apply UInt8.toNat_inj.1
    show _ = 49
    omega
  have : markP s [] k = true := by
    unfold markP
    rw [sentB_bl]
    have h' : k < s.data.toList.length := by simpa using h
    unfold bl
    rw [List.getElem?_eq_getElem h']
    have e2 : s.data.toList[k]'h' = s[k]'h := by simp [ByteArray.getElem_eq_getElem_data]
    rw [e2, h1]
    rfl
  unfold markU
  rw [if_pos this]
  rfl
theorem markU_no {s : ByteArray} {k : Nat} (h : k < s.size) (e : ¬ ((s[k]'h).toNat : Int) = 49) : markU s [] k = UInt8.ofNat 48 := by
  have : ¬ markP s [] k = true := by
    unfold markP
    rw [sentB_bl]
    have h' : k < s.data.toList.length := by simpa using h
    unfold bl
    rw [List.getElem?_eq_getElem h']
    have e2 : s.data.toList[k]'h' = s[k]'h := by simp [ByteArray.getElem_eq_getElem_data]
    rw [e2]
    intro c
    simp at c
    apply e
    rw [c]
    rfl
  unfold markU
  rw [if_neg this]
  rfl
theorem markU_out {s : ByteArray} {k : Nat} (h : ¬ k < s.size) : markU s [] k = UInt8.ofNat 48 := by
  have : ¬ markP s [] k = true := by
    unfold markP
    rw [sentB_bl, List.getElem?_eq_none (by rw [bl_length]; omega)]
    intro c
    simp at c
  unfold markU
  rw [if_neg this]
  rfl
/-- One place more. -/
theorem markL_in (s : ByteArray) (n : Nat) (zs : List Int) (k : Nat) : (markL s n zs).set k (UInt8.ofNat 49) = markL s n (zs ++ [(k : Int)]) := by
  apply List.ext_getElem
  · simp [markL]
  · intro i h1 h2
    rw [List.getElem_set]
    simp only [markL, List.getElem_map, List.getElem_range]
    unfold markU markP
    by_cases e : k = i
    · subst e
      rw [if_pos rfl]
      simp
    · rw [if_neg e]
      have : ((i : Int) ∈ zs ++ [(k : Int)]) ↔ ((i : Int) ∈ zs) := by simp; omega
      simp only [this]
theorem markL_out (s : ByteArray) (n : Nat) (zs : List Int) (z : Int) (h : ¬ (0 ≤ z ∧ z < (n : Int))) : markL s n (zs ++ [z]) = markL s n zs := by
  apply List.ext_getElem
  · simp [markL]
  · intro i h1 h2
    simp only [markL, List.getElem_map, List.getElem_range]
    unfold markU markP
    have hi : i < n := by simpa [markL] using h1
    have : ((i : Int) ∈ zs ++ [z]) ↔ ((i : Int) ∈ zs) := by simp; omega
    simp only [this]
/-- A text that grows by digits. -/
theorem markB_grow (s : ByteArray) (zs : List Int) (k : Nat) : ba (markL s (k + 1) zs) = ba (markL s k zs) ++ ba [markU s zs k] := by
  rw [ba_append]
  unfold markL
  rw [List.range_succ, List.map_append]
  rfl
end Go.Proofs.Ytgclabboafdheaa

/- Plain words on rows of marks: the places of which something holds, which a row has, which it lacks, and rows made of them; no conditions. -/
namespace Go.Proofs.Ytgclabboafdheaa
open Go.ChangeShapes Go.WideShapes Go.ChangeAt Go.RowKit
set_option linter.unusedVariables false

/-- The places below a bound of which something holds, rising. -/
def plcL (f : Nat → Bool) (n : Nat) : List Int := ((List.range n).filter f).map fun (k : Nat) => (k : Int)
theorem plcL_zero (f : Nat → Bool) : plcL f 0 = [] := rfl
theorem plcL_yes {f : Nat → Bool} {k : Nat} (h : f k = true) : plcL f (k + 1) = plcL f k ++ [(k : Int)] := by
  unfold plcL
  rw [List.range_succ, List.filter_append, List.filter_cons, h, if_pos rfl, List.filter_nil, List.map_append]
  rfl
theorem plcL_no {f : Nat → Bool} {k : Nat} (h : f k = false) : plcL f (k + 1) = plcL f k := by
  unfold plcL
  rw [List.range_succ, List.filter_append, List.filter_cons, h, if_neg (by decide), List.filter_nil, List.append_nil]
theorem plcL_len (f : Nat → Bool) (n : Nat) : (plcL f n).length ≤ n := by
  unfold plcL
  rw [List.length_map]
  have := List.length_filter_le f (List.range n)
  simpa using this
theorem plcL_mem {f : Nat → Bool} {n : Nat} {z : Int} : z ∈ plcL f n ↔ ∃ k : Nat, z = (k : Int) ∧ k < n ∧ f k = true := by
  unfold plcL
  simp only [List.mem_map, List.mem_filter, List.mem_range]
  constructor
  · rintro ⟨k, ⟨h1, h2⟩, rfl⟩
    exact ⟨k, rfl, h1, h2⟩
  · rintro ⟨k, rfl, h1, h2⟩
    exact ⟨k, ⟨h1, h2⟩, rfl⟩
theorem plcL_memN {f : Nat → Bool} {n k : Nat} : (k : Int) ∈ plcL f n ↔ k < n ∧ f k = true := by
  rw [plcL_mem]
  constructor
  · rintro ⟨j, e, h1, h2⟩
    obtain rfl : k = j := by omega
    exact ⟨h1, h2⟩
  · rintro ⟨h1, h2⟩
    exact ⟨k, rfl, h1, h2⟩
theorem plcL_sorted (f : Nat → Bool) (n : Nat) : (plcL f n).Pairwise (· < ·) := by
  unfold plcL
  rw [List.pairwise_map]
  exact (List.Pairwise.filter f List.pairwise_lt_range).imp (fun h => by omega)
theorem plcL_congr {f g : Nat → Bool} {n : Nat} (h : ∀ k, k < n → f k = g k) : plcL f n = plcL g n := by
  induction n with
  | zero => rfl
  | succ n ih =>
    have e := ih (fun k hk => h k (by omega))
    have e2 := h n (by omega)
    cases hg : g n with
    | true => rw [plcL_yes hg, plcL_yes (e2.trans hg), e]
    | false => rw [plcL_no hg, plcL_no (e2.trans hg), e]
theorem plcL_both (f : Nat → Bool) (n : Nat) : (plcL f n).length + (plcL (fun k => !f k) n).length = n := by
  induction n with
  | zero => rfl
  | succ n ih =>
    cases hf : f n with
    | true =>
      rw [plcL_yes hf, plcL_no (by rw [hf]; rfl), List.length_append]
      simp only [List.length_singleton]
      omega
    | false =>
      rw [plcL_no hf, plcL_yes (by rw [hf]; rfl), List.length_append]
      simp only [List.length_singleton]
      omega
/-- The marks of a text are as many as its bytes 49. -/
theorem plcL_count (s : ByteArray) (k : Nat) (hk : k ≤ s.size) : (plcL (sentB s) k).length = ((s.data.toList.take k).filter (· == 49)).length := by
  induction k with
  | zero => rfl
  | succ k ih =>
    have e := ih (by omega)
    have h' : k < s.data.toList.length := by simpa using (show k < s.size by omega)
    rw [List.take_succ_eq_append_getElem h', List.filter_append, List.length_append, ← e]
    have hs : sentB s k = (s.data.toList[k] == 49) := by
      rw [sentB_bl]
      unfold bl
      rw [List.getElem?_eq_getElem h']
      rfl
    cases hb : (s.data.toList[k] == 49) with
    | true => rw [plcL_yes (hs.trans hb), List.length_append, List.filter_cons, hb, if_pos rfl]; rfl
    | false => rw [plcL_no (hs.trans hb), List.filter_cons, hb, if_neg (by decide)]; rfl
/-- The nodes that a row has, those that it lacks, and those that two have. -/
def nodL (s : ByteArray) : List Int := plcL (sentB s) s.size
def lackL (n : Int) (s : ByteArray) : List Int := plcL (fun k => !sentB s k) (mkN n)
def bothL (n : Int) (a b : ByteArray) : List Int := plcL (fun k => sentB a k && sentB b k) (mkN n)
def bothB (n : Int) (a b : ByteArray) : ByteArray := markB ⟨#[]⟩ n (bothL n a b)
theorem nodL_cnt (s : ByteArray) : (nodL s).length = ((s.data.toList).filter (· == 49)).length := by
  unfold nodL
  rw [plcL_count s s.size (Nat.le_refl _), List.take_of_length_le (by simp)]
theorem sentB_none (k : Nat) : sentB ⟨#[]⟩ k = false := by unfold sentB; rfl
theorem sentB_bothB (n : Int) (a b : ByteArray) (k : Nat) (hk : k < mkN n) : sentB (bothB n a b) k = (sentB a k && sentB b k) := by
  unfold bothB
  rw [sentB_markB, decide_eq_true hk, Bool.true_and]
  unfold markP bothL
  rw [sentB_none, Bool.false_or]
  cases h : (sentB a k && sentB b k) with
  | true => exact decide_eq_true (plcL_memN.2 ⟨hk, h⟩)
  | false => exact decide_eq_false (fun c => by rw [(plcL_memN.1 c).2] at h; cases h)
theorem bothB_comm (n : Int) (a b : ByteArray) : bothB n a b = bothB n b a := by
  unfold bothB bothL
  rw [plcL_congr (g := fun k => sentB b k && sentB a k) (fun k _ => Bool.and_comm _ _)]
/-- Rows of as many digits with the same marks are one. -/
theorem markB_ext {s t : ByteArray} {n : Int} {l m : List Int} (h : ∀ k, k < mkN n → markP s l k = markP t m k) : markB s n l = markB t n m := by
  unfold markB markL
  congr 1
  apply List.map_congr_left
  intro k hk
  unfold markU
  rw [h k (List.mem_range.1 hk)]
theorem bothB_self (n : Int) (a : ByteArray) : bothB n a a = markB a n [] := by
  unfold bothB
  apply markB_ext
  intro k hk
  unfold markP bothL
  rw [sentB_none, Bool.false_or, decide_eq_false (show ¬ (k : Int) ∈ ([] : List Int) by simp), Bool.or_false]
  cases h : sentB a k with
  | true => exact decide_eq_true (plcL_memN.2 ⟨hk, by rw [h]; rfl⟩)
  | false => exact decide_eq_false (fun c => by have := (plcL_memN.1 c).2; rw [h] at this; cases this)
/-- A row made of the nodes that a row of as many digits has is that row. -/
theorem markB_nodL (n : Int) (s : ByteArray) : markB ⟨#[]⟩ n (nodL (markB s n [])) = markB s n [] := by
  apply markB_ext
  intro k hk
  have e : sentB (markB s n []) k = markP s [] k := by rw [sentB_markB, decide_eq_true hk, Bool.true_and]
  unfold markP at e ⊢
  unfold nodL
  rw [sentB_none, Bool.false_or, markB_size]
  rw [decide_eq_false (show ¬ (k : Int) ∈ ([] : List Int) by simp), Bool.or_false] at e ⊢
  rw [← e]
  cases h : sentB (markB s n []) k with
  | true => exact decide_eq_true (plcL_memN.2 ⟨hk, h⟩)
  | false => exact decide_eq_false (fun c => by rw [(plcL_memN.1 c).2] at h; cases h)
/-- What a row of as many digits has, and lacks. -/
theorem lack_markB (n : Int) (s : ByteArray) : (nodL (markB s n [])).length + (lackL n (markB s n [])).length = mkN n := by
  unfold nodL lackL
  rw [markB_size]
  exact plcL_both _ _
theorem hasI_mem {s : ByteArray} {m : Nat} {z : Int} (h : z ∈ plcL (sentB s) m) : hasI s z = true := by
  obtain ⟨k, rfl, _, h2⟩ := plcL_mem.1 h
  rw [hasI_nat]
  exact h2
theorem hasI_lack {s : ByteArray} {m : Nat} {z : Int} (h : z ∈ plcL (fun k => !sentB s k) m) : hasI s z = false := by
  obtain ⟨k, rfl, _, h2⟩ := plcL_mem.1 h
  rw [hasI_nat]
  simpa using h2
theorem plcL_lt {f : Nat → Bool} {n i : Nat} (h : i + 1 < (plcL f n).length) : (plcL f n)[i] < (plcL f n)[i + 1] := List.pairwise_iff_getElem.1 (plcL_sorted f n) i (i + 1) (by omega) h (by omega)
end Go.Proofs.Ytgclabboafdheaa

/- Plain words on rows in memory, whatever their elements are: where they lie, their cells, what is cut off, what is appended; no conditions. -/
namespace Go.Proofs.Ytgclabboafdheaa
open Go.ChangeShapes Go.WideShapes Go.ChangeAt Go.RowKit
set_option linter.unusedVariables false

/-- A kind of elements: how many cells one has, and which. -/
structure Kind (α : Type) where
  k : Nat
  enc : α → List Value
  len : ∀ a, (enc a).length = k
  one : ∀ a, ∀ u ∈ enc a, u.oneCell' = true
  pos : 0 < k
namespace Kind
variable {α : Type} (K : Kind α)
def flat (es : List α) : List Value := es.flatMap K.enc
theorem flat_length (es : List α) : (K.flat es).length = es.length * K.k := by
  induction es with
  | nil => simp [flat]
  | cons a l ih => simp only [flat, List.flatMap_cons, List.length_append, K.len, List.length_cons] at ih ⊢; rw [ih, Nat.add_mul]; omega
theorem flat_append (es fs : List α) : K.flat (es ++ fs) = K.flat es ++ K.flat fs := by simp [flat]
theorem flat_one (es : List α) : ∀ u ∈ K.flat es, u.oneCell' = true := by
  intro u hu
  simp only [flat, List.mem_flatMap] at hu
  obtain ⟨e, _, hu⟩ := hu
  exact K.one e u hu
theorem flat_drop (es : List α) (n : Nat) (hn : n ≤ es.length) : K.flat (es.drop n) = (K.flat es).drop (n * K.k) := by
  have h : K.flat es = K.flat (es.take n) ++ K.flat (es.drop n) := by rw [← flat_append, List.take_append_drop]
  have hl : (K.flat (es.take n)).length = n * K.k := by rw [flat_length, List.length_take, Nat.min_eq_left hn]
  rw [h, ← hl, List.drop_left]
theorem flat_take (es : List α) (n : Nat) (hn : n ≤ es.length) : K.flat (es.take n) = (K.flat es).take (n * K.k) := by
  have h : K.flat es = K.flat (es.take n) ++ K.flat (es.drop n) := by rw [← flat_append, List.take_append_drop]
  have hl : (K.flat (es.take n)).length = n * K.k := by rw [flat_length, List.length_take, Nat.min_eq_left hn]
  rw [h, ← hl, List.take_left]
theorem flat_get (es : List α) (j : Nat) (hj : j < es.length) (i : Nat) (hi : i < K.k) : (K.flat es)[j * K.k + i]? = (K.enc es[j])[i]? := by
  have h1 := K.flat_drop es j (by omega)
  have h2 : (K.flat (es.drop j))[i]? = (K.enc es[j])[i]? := by
    rw [List.drop_eq_getElem_cons hj]
    simp only [flat, List.flatMap_cons]
    rw [List.getElem?_append_left (by rw [K.len]; exact hi)]
  rw [← h2, h1, List.getElem?_drop]

/-- A row lies in memory, below a bound. -/
def Lies (n₀ : Nat) (W : World) (sv : Value) (es : List α) : Prop :=
  ∃ (ad : Option Addr) (cap : Nat), sv = .slice ad es.length cap ∧ es.length ≤ cap ∧ cap ≤ maxLen ∧ (ad = none → cap = 0) ∧
    (0 < es.length → ∃ b off : Nat, ad = some ⟨b, off, none⟩ ∧ b < n₀ ∧ ∀ j u, (K.flat es)[j]? = some u → W.cell? ⟨b, off + j, none⟩ = some u)
variable {K}
theorem Lies.below {n₀ : Nat} {A B : World} {sv : Value} {es : List α} (h : K.Lies n₀ A sv es) (hb : Below n₀ A B) : K.Lies n₀ B sv es := by
  obtain ⟨ad, cap, e, h1, h2, h3, hc⟩ := h
  refine ⟨ad, cap, e, h1, h2, h3, fun hj => ?_⟩
  obtain ⟨b, off, ea, hbl, c⟩ := hc hj
  exact ⟨b, off, ea, hbl, fun j u hu => (hb.cell (p := ⟨b, off + j, none⟩) hbl).trans (c j u hu)⟩
theorem Lies.mono {n₀ n₁ : Nat} {W : World} {sv : Value} {es : List α} (h : K.Lies n₀ W sv es) (hn : n₀ ≤ n₁) : K.Lies n₁ W sv es := by
  obtain ⟨ad, cap, e, h1, h2, h3, hc⟩ := h
  refine ⟨ad, cap, e, h1, h2, h3, fun hj => ?_⟩
  obtain ⟨b, off, ea, hbl, c⟩ := hc hj
  exact ⟨b, off, ea, by omega, c⟩
theorem Lies.later {A B : World} {sv : Value} {es : List α} (h : K.Lies A.heap.size A sv es) (hb : Below A.heap.size A B) : K.Lies B.heap.size B sv es := (h.below hb).mono hb.size
theorem Lies.nil (n₀ : Nat) (W : World) : K.Lies n₀ W (.slice none 0 0) [] := ⟨none, 0, rfl, Nat.le_refl _, Nat.zero_le _, fun _ => rfl, fun hj => absurd hj (Nat.not_lt_zero _)⟩
theorem Lies.of_own {W : World} {base : Nat} {e : TypeId} {v : Value} {es : List α} (h : W.ownsRow base e K.k v es.length (K.flat es)) : K.Lies W.heap.size W v es := by
  obtain ⟨_, ⟨rfl, h0⟩ | ⟨g, cap, cur, rfl, hb, hg, h1, h2, h3, h4⟩⟩ := h
  · have : es = [] := List.length_eq_zero_iff.1 h0
    subst this
    exact Lies.nil _ _
  · refine ⟨_, cap, rfl, h1, h2, fun h => (by cases h), fun hj => ?_⟩
    have hlt : g < W.heap.size := (Array.getElem?_eq_some_iff.1 hg).1
    refine ⟨g, 0, rfl, hlt, fun j u hu => ?_⟩
    rw [← h4, List.getElem?_take] at hu
    split at hu
    · simpa [World.cell?, hg] using hu
    · cases hu
theorem Lies.drop {n₀ : Nat} {W : World} {b off len cap : Nat} {es : List α} (h : K.Lies n₀ W (.slice (some ⟨b, off, none⟩) len cap) es) (n : Nat) (hn : n ≤ es.length) : K.Lies n₀ W (.slice (some ⟨b, off + n * K.k, none⟩) (len - n) (cap - n)) (es.drop n) := by
  obtain ⟨ad, c, hv, h1, h2, h3, hc⟩ := h
  obtain ⟨rfl, rfl, rfl⟩ : some _ = ad ∧ len = _ ∧ cap = _ := by simpa using hv
  refine ⟨some ⟨b, off + n * K.k, none⟩, cap - n, by rw [List.length_drop], by rw [List.length_drop]; omega, by omega, fun h => (by cases h), fun hj => ?_⟩
  obtain ⟨b', off', he, hb, c⟩ := hc (by simp at hj; omega)
  cases he
  refine ⟨_, _, rfl, hb, fun j u hu => ?_⟩
  rw [K.flat_drop es n hn, List.getElem?_drop] at hu
  rw [Nat.add_assoc]
  exact c _ _ hu
theorem Lies.take {n₀ : Nat} {W : World} {ad : Option Addr} {len cap : Nat} {es : List α} (h : K.Lies n₀ W (.slice ad len cap) es) (n : Nat) (hn : n ≤ es.length) : K.Lies n₀ W (.slice ad n cap) (es.take n) := by
  obtain ⟨ad', c, hv, h1, h2, h3, hc⟩ := h
  obtain ⟨rfl, rfl, rfl⟩ : ad = ad' ∧ len = _ ∧ cap = _ := by simpa using hv
  have el : (es.take n).length = n := by rw [List.length_take]; omega
  refine ⟨ad, cap, by rw [el], by omega, h2, h3, fun hj => ?_⟩
  obtain ⟨b', off', he, hb, c⟩ := hc (by omega)
  refine ⟨b', off', he, hb, fun j u hu => ?_⟩
  rw [K.flat_take es n hn, List.getElem?_take] at hu
  split at hu
  · exact c _ _ hu
  · cases hu
theorem Lies.of_block {W : World} {g : Nat} {es : List α} {t : TypeId} (h : W.heap[g]? = some (.cells (K.flat es).toArray t (0, 0))) (hl : es.length ≤ maxLen) : K.Lies W.heap.size W (.slice (some ⟨g, 0, none⟩) es.length es.length) es := by
  refine ⟨_, _, rfl, Nat.le_refl _, hl, fun h => (by cases h), fun hj => ?_⟩
  refine ⟨g, 0, rfl, (Array.getElem?_eq_some_iff.1 h).1, fun j u hu => ?_⟩
  simpa [World.cell?, h] using hu
/-- What is read of a row is its cells. -/
theorem Lies.cells {n₀ : Nat} {W : World} {b off len cap : Nat} {es : List α} (h : K.Lies n₀ W (.slice (some ⟨b, off, none⟩) len cap) es) : ∀ j u, (K.flat es)[j]? = some u → W.cell? ((⟨b, off, none⟩ : Addr).add j) = some u := by
  obtain ⟨ad, c, hv, h1, h2, h3, hc⟩ := h
  obtain ⟨rfl, rfl, rfl⟩ : some _ = ad ∧ len = _ ∧ cap = _ := by simpa using hv
  intro j u hu
  by_cases h0 : 0 < es.length
  · obtain ⟨b', off', he, hb, c⟩ := hc h0
    cases he
    rw [add_plain]
    exact c j u hu
  · have : es = [] := List.length_eq_zero_iff.1 (by omega)
    subst this
    simp [flat] at hu
/-- The cells of one element of a row. -/
theorem Lies.at {n₀ : Nat} {W : World} {ad : Option Addr} {len cap : Nat} {es : List α} (h : K.Lies n₀ W (.slice ad len cap) es) (j : Nat) (hj : j < es.length) : ∃ b off : Nat, ad = some ⟨b, off, none⟩ ∧ b < n₀ ∧ ∀ i, i < K.k → W.cell? ⟨b, off + j * K.k + i, none⟩ = (K.enc es[j])[i]? := by
  obtain ⟨ad', c, hv, h1, h2, h3, hc⟩ := h
  obtain ⟨rfl, rfl, rfl⟩ : ad = ad' ∧ len = _ ∧ cap = _ := by simpa using hv
  obtain ⟨b, off, he, hb, c⟩ := hc (by omega)
  refine ⟨b, off, he, hb, fun i hi => ?_⟩
  have h1 := K.flat_get es j hj i hi
  have hlt : i < (K.enc es[j]).length := by rw [K.len]; exact hi
  obtain ⟨u, hu⟩ : ∃ u, (K.enc es[j])[i]? = some u := ⟨_, List.getElem?_eq_getElem hlt⟩
  rw [hu] at h1
  rw [hu, Nat.add_assoc]
  exact c _ _ h1
theorem Lies.len {n₀ : Nat} {W : World} {ad : Option Addr} {len cap : Nat} {es : List α} (h : K.Lies n₀ W (.slice ad len cap) es) : len = es.length := by
  obtain ⟨_, _, hv, _⟩ := h
  simp at hv
  exact hv.2.1
variable (K)
/-- A row is appended to a row of one's own. -/
theorem run_append {P : Program} (w : World) (base : Nat) (t ty e : TypeId) (i : TypeInfo) (z : Value) (bytes : Nat) (ht : P.underlying t = some (.slice e)) (hi : P.info? e = some i) (hz : i.zero = some z)
    (hsize : i.size = K.k) (hby : i.bytes = bytes) (hzs : z.cells.size = K.k) (v : Value) (n : Nat) (xs : List Value) (hown : w.ownsRow base e K.k v n xs) {n₀ : Nat} (sv : Value) (es : List α) (hE : K.Lies n₀ w sv es)
    (h63 : n + es.length ≤ maxLen) (hbytes : (n + es.length) * bytes ≤ 140737488355328) (hbase : base ≤ w.heap.size) :
    ∃ v' w', (Builtin.append_ #[t, t] ty #[v, sv]).run P w = .ok v' w' ∧ w'.ownsRow base e K.k v' (n + es.length) (xs ++ K.flat es) ∧ w.grownBy w' v.ownBlock ∧ (v'.ownBlock = v.ownBlock ∨ v'.ownBlock = some w.heap.size) := by
  obtain ⟨ad, c, rfl, h1, h2, h3, hc⟩ := id hE
  by_cases h0 : es.length = 0
  · have : es = [] := List.length_eq_zero_iff.1 h0
    subst this
    cases ad with
    | none =>
      obtain rfl := h3 rfl
      exact ⟨v, w, run_append_owned_none w base t ty e i K.k ht hi v n xs hown, by simpa [flat] using hown, ⟨rfl, rfl, rfl, Nat.le_refl _, fun _ _ _ => rfl⟩, .inl rfl⟩
    | some a =>
      obtain ⟨v', w', r1, r2, r3, _, r5⟩ := run_append_own_at (P := P) w base t ty e i z K.k bytes ht hi hz hsize hby hzs K.pos v n xs hown a 0 c [] (by simp) (by simp) (by simp) h63 hbytes hbase
      exact ⟨v', w', r1, by simpa [flat] using r2, r3, r5⟩
  · obtain ⟨b, off, rfl, _⟩ := hc (by omega)
    obtain ⟨v', w', r1, r2, r3, _, r5⟩ := run_append_own_at (P := P) w base t ty e i z K.k bytes ht hi hz hsize hby hzs K.pos v n xs hown ⟨b, off, none⟩ es.length c (K.flat es) (K.flat_length es) hE.cells (K.flat_one es) h63 hbytes hbase
    exact ⟨v', w', r1, r2, r3, r5⟩
theorem wpList_append {P : Program} (w : World) {ops : Array Oper} {rest : List Oper} {o : Oper} {a : Act} {Q : Exit → Act → World → Prop} (hgd : o.guard = none) (s x : Operand) (t : TypeId)
    (ho : o.op = .call { callee := .builtin .append, args := #[s, x], argTypes := #[t, t] })
    (base : Nat) (e : TypeId) (i : TypeInfo) (z : Value) (bytes : Nat) (ht : P.underlying t = some (.slice e)) (hi : P.info? e = some i) (hz : i.zero = some z)
    (hsize : i.size = K.k) (hby : i.bytes = bytes) (hzs : z.cells.size = K.k) (v : Value) (n : Nat) (xs : List Value) (hs : a.eval s = v) (hown : w.ownsRow base e K.k v n xs) {n₀ : Nat} (sv : Value) (es : List α) (hx : a.eval x = sv) (hE : K.Lies n₀ w sv es)
    (h63 : n + es.length ≤ maxLen) (hbytes : (n + es.length) * bytes ≤ 140737488355328) (hbase : base ≤ w.heap.size)
    (hK : ∀ v' w', w'.ownsRow base e K.k v' (n + es.length) (xs ++ K.flat es) → w.grownBy w' v.ownBlock → (v'.ownBlock = v.ownBlock ∨ v'.ownBlock = some w.heap.size) → wpList P ops Q rest (a.put o.dst v') w') : wpList P ops Q (o :: rest) a w := by
  obtain ⟨v', w', hrun, r1, r2, r3⟩ := K.run_append (P := P) w base t o.type e i z bytes ht hi hz hsize hby hzs v n xs hown sv es hE h63 hbytes hbase
  refine wpList_plain hgd fun K hK' => ?_
  unfold Oper.wp
  simp [execOp, ho, resolve, invoke, builtin, hs, hx, hrun, Result.andThen]
  exact hK' _ _ (hK v' w' r1 r2 r3)
end Kind

theorem own_below {A B : World} {base : Nat} {e : TypeId} {size : Nat} {v : Value} {n : Nat} {xs : List Value} (h : A.ownsRow base e size v n xs) (hb : Below A.heap.size A B) : B.ownsRow base e size v n xs := by
  refine ⟨h.1, ?_⟩
  rcases h.2 with h | ⟨g, cap, cur, hv, h1, h2, h3⟩
  · exact .inl h
  · exact .inr ⟨g, cap, cur, hv, h1, (hb.block g (Array.getElem?_eq_some_iff.1 h2).1).trans h2, h3⟩
theorem own_low {W : World} {base b2 : Nat} {e : TypeId} {size : Nat} {v : Value} {n : Nat} {xs : List Value} (h : W.ownsRow base e size v n xs) (hb : b2 ≤ base) : W.ownsRow b2 e size v n xs := by
  refine ⟨h.1, ?_⟩
  rcases h.2 with h | ⟨g, cap, cur, hv, h1, h2, h3⟩
  · exact .inl h
  · exact .inr ⟨g, cap, cur, hv, Nat.le_trans hb h1, h2, h3⟩
theorem own_from {W : World} {base : Nat} {e : TypeId} {size : Nat} {v : Value} {n : Nat} {xs : List Value} (h : W.ownsRow base e size v n xs) : ∀ k, v.ownBlock = some k → base ≤ k := fun k hk => (h.lt k hk).1
theorem own_slice {W : World} {base : Nat} {e : TypeId} {size : Nat} {v : Value} {n : Nat} {xs : List Value} (h : W.ownsRow base e size v n xs) : ∃ ad cap, v = .slice ad n cap := by
  rcases h.2 with ⟨rfl, rfl⟩ | ⟨g, cap, cur, rfl, _⟩
  · exact ⟨_, _, rfl⟩
  · exact ⟨_, _, rfl⟩
end Go.Proofs.Ytgclabboafdheaa

/- Rows that came in as arguments, whatever their elements are, opened: where their cells lie; no conditions. -/
namespace Go.Proofs.Ytgclabboafdheaa
open Go.ChangeShapes Go.WideShapes Go.ChangeAt Go.RowKit
set_option linter.unusedVariables false

section
variable {H : Type} {enc : TypeId × Value → H} {w : World} {base : Nat} {spare : Nat → Bool} {held : Bool}
theorem Kind.open_rows {α : Type} (K : Kind α) {t e : TypeId} {fuel : Nat} {c : Value} {x : DataW H × List MemPlace} (ht : Try.prog.underlying t = some (.slice e)) (hk : Try.prog.cellsOf e = K.k)
    (dec : ∀ n cs y, cs.length = K.k → DataW.trod enc Try.prog w base spare held n e cs = some y → ∃ a, cs = K.enc a) (h : DataW.trod enc Try.prog w base spare held fuel t [c] = some x) :
    ∃ (ad : Option Addr) (cap : Nat) (es : List α), c = .slice ad es.length cap ∧ es.length ≤ 9223372036854775807 ∧ K.Lies w.heap.size w (.slice ad es.length cap) es := by
  rcases Deep.open_slice ht h with ⟨h0, _⟩ | ⟨a, len, cap, m, n, D, Pl, hcs, hb, hl, hm, hmm, _, hx⟩
  · exact ⟨none, 0, [], by simpa using h0, by simp, Kind.Lies.nil _ _⟩
  have hlm : len ≤ m := by rw [hmm]; split <;> omega
  rw [hk] at hx
  have each : ∀ i, i < len → ∃ q : α, ∀ j, j < K.k → w.cell? (a.add (i * K.k + j)) = (K.enc q)[j]? := by
    intro i hi
    obtain ⟨cs', h1, h2⟩ := hx i (by omega)
    obtain ⟨_, hlen, hcell⟩ := World.cells?_some h1
    obtain ⟨q, rfl⟩ := dec _ _ _ hlen h2
    exact ⟨q, fun j hj => by rw [← Deep.add_add]; exact hcell j hj⟩
  have hall : ∀ m', m' ≤ len → ∃ es : List α, es.length = m' ∧ ∀ i, ∀ hi : i < es.length, ∀ j, j < K.k → w.cell? (a.add (i * K.k + j)) = (K.enc es[i])[j]? := by
    intro m' hm'
    induction m' with
    | zero => exact ⟨[], rfl, fun i hi => absurd hi (Nat.not_lt_zero _)⟩
    | succ m' ih =>
      obtain ⟨es, hes, hcell⟩ := ih (by omega)
      obtain ⟨q, hq⟩ := each m' (by omega)
      refine ⟨es ++ [q], by simp [hes], fun i hi j hj => ?_⟩
      simp at hi
      by_cases hlt : i < es.length
      · rw [List.getElem_append_left hlt]; exact hcell i hlt j hj
      · obtain rfl : i = es.length := by omega
        rw [List.getElem_append_right (Nat.le_refl _)]
        simp only [Nat.sub_self, List.getElem_cons_zero]
        rw [hes]
        exact hq j hj
  obtain ⟨es, hes, hcell⟩ := hall len (Nat.le_refl _)
  have hc' : c = .slice (some a) len cap := by simpa using hcs
  refine ⟨some a, cap, es, by rw [hes]; exact hc', by rw [hes]; unfold maxLen at hm; omega, some a, cap, rfl, by omega, hm, fun h => (by cases h), fun h0 => ?_⟩
  have hsp : a.spot = none := by
    have d0 := hcell 0 h0 0 K.pos
    have hl0 : 0 < (K.enc es[0]).length := by rw [K.len]; exact K.pos
    rw [List.getElem?_eq_getElem hl0] at d0
    have d0' : w.cell? a = some (K.enc es[0])[0] := by simpa [Addr.add] using d0
    cases hs : a.spot with
    | none => rfl
    | some q =>
      simp only [World.cell?] at d0'
      split at d0' <;> simp_all
  obtain ⟨b, off, sp⟩ := a
  simp only at hsp
  subst hsp
  have hlt : b < w.heap.size := by
    have d0 := hcell 0 h0 0 K.pos
    have hl0 : 0 < (K.enc es[0]).length := by rw [K.len]; exact K.pos
    rw [List.getElem?_eq_getElem hl0, add_plain] at d0
    exact block_lt_of_cell d0
  refine ⟨b, off, rfl, hlt, fun j u hu => ?_⟩
  have hj : j < (K.flat es).length := (List.getElem?_eq_some_iff.1 hu).1
  rw [K.flat_length] at hj
  have hdm : j / K.k * K.k + j % K.k = j := by rw [Nat.mul_comm]; exact Nat.div_add_mod j K.k
  have h1 : j / K.k < es.length := Nat.div_lt_of_lt_mul (by rw [Nat.mul_comm]; exact hj)
  have h2 := hcell (j / K.k) h1 (j % K.k) (Nat.mod_lt _ K.pos)
  have h3 := K.flat_get es (j / K.k) h1 (j % K.k) (Nat.mod_lt _ K.pos)
  rw [hdm] at h2 h3
  rw [add_plain] at h2
  rw [h2, ← h3, hu]
set_option maxRecDepth 100000 in
theorem Kind.open_arg {α : Type} (K : Kind α) {t e : TypeId} {r : Reach} {b0 : Nat} {v : Value} {dt : DataW H} {ps : List MemPlace} (ht : Try.prog.underlying t = some (.slice e)) (hk : Try.prog.cellsOf e = K.k)
    (dec : ∀ n cs y, cs.length = K.k → DataW.trod enc Try.prog w base spare held n e cs = some y → ∃ a, cs = K.enc a) (hv : Value.okWide Try.prog w r b0 t v) (h : DataW.Trod enc Try.prog w base spare held t v dt ps) :
    ∃ (ad : Option Addr) (cap : Nat) (es : List α), v = .slice ad es.length cap ∧ es.length ≤ 9223372036854775807 ∧ K.Lies w.heap.size w (.slice ad es.length cap) es := by
  obtain ⟨x, y, c, rfl⟩ := okWide_slice ht hv
  obtain ⟨fu, hf⟩ := h
  exact K.open_rows ht hk dec (by simpa [Value.cells] using hf)
end
end Go.Proofs.Ytgclabboafdheaa

/- Rows of int that lie in memory: their cells, and such a row that came in as an argument; no conditions. -/
namespace Go.Proofs.Ytgclabboafdheaa
open Go.ChangeShapes Go.WideShapes Go.ChangeAt Go.RowKit
set_option linter.unusedVariables false

/-- Rows of int. -/
def kInt : Kind Int := ⟨1, fun z => [.int .i64 z], fun _ => rfl, by intro a u hu; simp at hu; subst hu; rfl, by decide⟩
theorem kInt_flat (zs : List Int) : kInt.flat zs = zs.map (Value.int .i64) := by
  induction zs with
  | nil => rfl
  | cons a l ih => simp only [Kind.flat, List.flatMap_cons, List.map_cons] at ih ⊢; rw [ih]; rfl
theorem infoInt : (Try.prog.info? 3).map (fun i => (i.zero, i.size, i.bytes)) = some (some (.int .i64 0), 1, 8) := by kernel_rfl
theorem info_of {T : TypeId} {z : Value} {m b : Nat} (h : (Try.prog.info? T).map (fun i => (i.zero, i.size, i.bytes)) = some (some z, m, b)) : ∃ i, Try.prog.info? T = some i ∧ i.zero = some z ∧ i.size = m ∧ i.bytes = b := by
  cases hi : Try.prog.info? T with
  | none => rw [hi] at h; cases h
  | some i =>
    rw [hi] at h
    simp only [Option.map_some, Option.some.injEq, Prod.mk.injEq] at h
    exact ⟨i, rfl, h.1, h.2.1, h.2.2⟩
theorem kInt_at {n₀ : Nat} {W : World} {ad : Option Addr} {len cap : Nat} {zs : List Int} (h : kInt.Lies n₀ W (.slice ad len cap) zs) (j : Nat) (hj : j < zs.length) : ∃ b off : Nat, ad = some ⟨b, off, none⟩ ∧ b < n₀ ∧ W.cell? ⟨b, off + j, none⟩ = some (.int .i64 zs[j]) := by
  obtain ⟨b, off, he, hb, hc⟩ := h.at j hj
  refine ⟨b, off, he, hb, ?_⟩
  have := hc 0 (by decide)
  simpa [kInt] using this
section
variable {H : Type} {enc : TypeId × Value → H} {w : World} {base : Nat} {spare : Nat → Bool} {held : Bool}
theorem dec_int (n : Nat) (cs : List Value) (y : DataW H × List MemPlace) (hl : cs.length = kInt.k) (h : DataW.trod enc Try.prog w base spare held n 3 cs = some y) : ∃ a, cs = kInt.enc a := by
  obtain ⟨c0, rfl⟩ : ∃ c0, cs = [c0] := by
    have h2 : cs.length = 1 := hl
    match cs, h2 with
    | [c0], _ => exact ⟨c0, rfl⟩
  obtain ⟨x0, h0, _, w0⟩ := DataW.trod_int Try.underlying3 h
  exact ⟨x0, h0⟩
set_option maxRecDepth 100000 in
theorem open_kints {r : Reach} {b0 : Nat} {v : Value} {dt : DataW H} {ps : List MemPlace} (hv : Value.okWide Try.prog w r b0 22 v) (h : DataW.Trod enc Try.prog w base spare held 22 v dt ps) :
    ∃ (ad : Option Addr) (cap : Nat) (es : List Int), v = .slice ad es.length cap ∧ es.length ≤ 9223372036854775807 ∧ kInt.Lies w.heap.size w (.slice ad es.length cap) es :=
  kInt.open_arg Try.underlying22 (by kernel_rfl) dec_int hv h
end
end Go.Proofs.Ytgclabboafdheaa

/- Plain mathematics of votes: how many there are of each, what both exchanges make of them; no conditions. -/
namespace Go.Proofs.Ytgclabboafdheaa
open Go.ChangeShapes Go.WideShapes Go.ChangeAt Go.RowKit
set_option linter.unusedVariables false

/-- How many of a row are v. -/
def cntL (v : Int) (zs : List Int) : Nat := zs.countP (fun z => decide (z = v))
/-- How many votes are v. -/
def cntF (v : Int) (zs : List Int) : Int := if 0 ≤ v ∧ v < 3 then (cntL v zs : Int) else 0
theorem cntF_in {v : Int} (h1 : 0 ≤ v) (h2 : v < 3) (zs : List Int) : cntF v zs = (cntL v zs : Int) := if_pos ⟨h1, h2⟩
theorem cntF_out {v : Int} (h : ¬ (0 ≤ v ∧ v < 3)) (zs : List Int) : cntF v zs = 0 := if_neg h
theorem cntL_nil (v : Int) : cntL v [] = 0 := rfl
theorem cntL_snoc (v : Int) (zs : List Int) (z : Int) : cntL v (zs ++ [z]) = cntL v zs + if z = v then 1 else 0 := by
  unfold cntL
  rw [List.countP_append, List.countP_singleton]
  by_cases h : z = v
  · rw [if_pos h, if_pos (decide_eq_true h)]
  · rw [if_neg h, if_neg (by simp [h])]
theorem cntL_le (v : Int) (zs : List Int) : cntL v zs ≤ zs.length := List.countP_le_length
theorem cntF_bd (v : Int) (zs : List Int) : 0 ≤ cntF v zs ∧ cntF v zs ≤ (zs.length : Int) := by
  have h := cntL_le v zs
  unfold cntF
  split <;> omega
theorem take_snocV (zs : List Int) {k : Nat} (hk : k < zs.length) : zs.take (k + 1) = zs.take k ++ [zs[k]] := by rw [List.take_add_one]; simp [hk]
/-- Whether there are a quorum. -/
def enoughB (E n f v : Int) (zs : List Int) : Bool := decide (E = 0 ∧ n - f ≤ cntF v zs)
theorem enoughB_no {E : Int} (h : ¬ E = 0) (n f v : Int) (zs : List Int) : enoughB E n f v zs = false := decide_eq_false fun k => h k.1
theorem enoughB_ok {E : Int} (h : E = 0) (n f v : Int) (zs : List Int) : enoughB E n f v zs = decide (n - f ≤ cntF v zs) := by
  unfold enoughB
  simp [h]
/-- What the first exchange makes of votes. -/
def mostF (E n f : Int) (zs : List Int) : Int := if E = 0 then (if n - f ≤ (cntL 1 zs : Int) then 1 else if n - f ≤ (cntL 0 zs : Int) then 0 else 2) else 2
/-- What the second exchange makes of them. -/
def leastF (E f now : Int) (zs : List Int) : Int := if E = 0 then (if f + 1 ≤ (cntL 0 zs : Int) then 0 else if f + 1 ≤ (cntL 1 zs : Int) then 1 else if f + 1 ≤ (cntL 2 zs : Int) then 2 else now) else now
theorem mostF_no {E : Int} (h : ¬ E = 0) (n f : Int) (zs : List Int) : mostF E n f zs = 2 := if_neg h
theorem mostF_1 {E : Int} (h : E = 0) {n f : Int} {zs : List Int} (h1 : n - f ≤ (cntL 1 zs : Int)) : mostF E n f zs = 1 := (if_pos h).trans (if_pos h1)
theorem mostF_0 {E : Int} (h : E = 0) {n f : Int} {zs : List Int} (h1 : ¬ n - f ≤ (cntL 1 zs : Int)) (h2 : n - f ≤ (cntL 0 zs : Int)) : mostF E n f zs = 0 := (if_pos h).trans ((if_neg h1).trans (if_pos h2))
theorem mostF_2 {E : Int} (h : E = 0) {n f : Int} {zs : List Int} (h1 : ¬ n - f ≤ (cntL 1 zs : Int)) (h2 : ¬ n - f ≤ (cntL 0 zs : Int)) : mostF E n f zs = 2 := (if_pos h).trans ((if_neg h1).trans (if_neg h2))
theorem leastF_no {E : Int} (h : ¬ E = 0) (f now : Int) (zs : List Int) : leastF E f now zs = now := if_neg h
theorem leastF_0 {E : Int} (h : E = 0) {f now : Int} {zs : List Int} (h0 : f + 1 ≤ (cntL 0 zs : Int)) : leastF E f now zs = 0 := (if_pos h).trans (if_pos h0)
theorem leastF_1 {E : Int} (h : E = 0) {f now : Int} {zs : List Int} (h0 : ¬ f + 1 ≤ (cntL 0 zs : Int)) (h1 : f + 1 ≤ (cntL 1 zs : Int)) : leastF E f now zs = 1 := (if_pos h).trans ((if_neg h0).trans (if_pos h1))
theorem leastF_2 {E : Int} (h : E = 0) {f now : Int} {zs : List Int} (h0 : ¬ f + 1 ≤ (cntL 0 zs : Int)) (h1 : ¬ f + 1 ≤ (cntL 1 zs : Int)) (h2 : f + 1 ≤ (cntL 2 zs : Int)) : leastF E f now zs = 2 := (if_pos h).trans ((if_neg h0).trans ((if_neg h1).trans (if_pos h2)))
theorem leastF_n {E : Int} (h : E = 0) {f now : Int} {zs : List Int} (h0 : ¬ f + 1 ≤ (cntL 0 zs : Int)) (h1 : ¬ f + 1 ≤ (cntL 1 zs : Int)) (h2 : ¬ f + 1 ≤ (cntL 2 zs : Int)) : leastF E f now zs = now := (if_pos h).trans ((if_neg h0).trans ((if_neg h1).trans (if_neg h2)))
/-- A vote. -/
def voteB (v : Int) : Bool := decide (0 ≤ v ∧ v < 3)
theorem voteB_yes {v : Int} (h1 : 0 ≤ v) (h2 : v < 3) : voteB v = true := decide_eq_true ⟨h1, h2⟩
theorem voteB_no {v : Int} (h : ¬ (0 ≤ v ∧ v < 3)) : voteB v = false := decide_eq_false h
end Go.Proofs.Ytgclabboafdheaa

/- The document's call In of layer 14 tells whether a number is in a row, and leaves all as it was; conditions: the row lies where it says, and lengths fit int. -/
namespace Go.Proofs.Ytgclabboafdheaa
open Go.ChangeShapes Go.WideShapes Go.ChangeAt Go.RowKit
set_option linter.unusedVariables false
attribute [local go_sem] cell_rg

set_option maxHeartbeats 1000000 in
theorem rIn_any (n : Int) (a2 : Option Addr) (c2 : Nat) (vs : List Int) (hlv : vs.length ≤ 9223372036854775807) (w : World) (hV : kInt.Lies w.heap.size w (.slice a2 vs.length c2) vs) :
    Calls Try.prog 56 #[.slice a2 vs.length c2, .int .i64 n] w fun e w' => e = .returned (.bool (decide (n ∈ vs))) ∧ w = w' := by
  go_enter Try.func56, Try.ntmps56
  go_wp2
  go_loop [5] (fun i => ∃ k : Nat, k ≤ vs.length ∧ i = .int .i64 k ∧ n ∉ vs.take k) (fun i => vs.length - (intV i).toNat)
  case atStart => exact ⟨0, Nat.zero_le _, rfl, by simp⟩
  case round =>
    obtain ⟨k, hk, rfl, hn⟩ := hrel
    by_cases hlt : k < vs.length
    · obtain ⟨b, off, rfl, hbl, e0⟩ := kInt_at hV k hlt
      have HS := hidden (take_snocV vs hlt)
      have HM : Hid (vs[k] ∈ vs) := List.getElem_mem hlt
      have HN := hidden hn
      have i1 : (0 : Int) ≤ (k : Int) := by omega
      have i2 : (k : Int) < (vs.length : Int) := by omega
      clear hV hn
      generalize vs[k] = z at *
      by_cases h : z = n
      · subst h
        have j : (z == z) = true := by simp
        have HD : Hid (decide (z ∈ vs) = true) := decide_eq_true HM.out
        go_wp2
        go_ret
        exact ⟨ret_b HD.out.symm, rfl⟩
      · have j : (z == n) = false := by simp [h]
        have HN2 : Hid (n ∉ vs.take (k + 1)) := by
          show ¬ _
          rw [HS.out, List.mem_append, List.mem_singleton]
          exact fun hh => hh.elim HN.out (fun e => h e.symm)
        go_wp2
        go_round
        case rel => exact ⟨k + 1, by omega, by go_num, HN2.out⟩
        case measure => simp [intV]; omega
    · obtain rfl : k = vs.length := by omega
      rw [List.take_length] at hn
      have HD : Hid (decide (n ∈ vs) = false) := decide_eq_false hn
      clear hn
      go_wp2
      go_ret
      exact ⟨ret_b HD.out.symm, rfl⟩
end Go.Proofs.Ytgclabboafdheaa

/- The integer calls Clamp, Mod and Sat of the document's answer for layer 1 return what plain functions on integers give, and leave the world as it was; for integers that fit int. -/
namespace Go.Proofs.Ytgclabboafdheaa
open Go.ChangeShapes Go.WideShapes Go.ChangeAt Go.RowKit
set_option linter.unusedVariables false

theorem rclamp_any (n lo hi : Int) (w : World) :
    Calls Try.prog 41 #[.int .i64 n, .int .i64 lo, .int .i64 hi] w fun e w' => e = .returned (.int .i64 (clampF n lo hi)) ∧ w = w' := by
  by_cases h1 : n < lo
  · have e : clampF n lo hi = lo := by unfold clampF; rw [if_pos (Or.inl h1)]
    rw [e]; clear e
    go_enter Try.func41, Try.ntmps41
    go_wp2
    go_ret
    exact ⟨by first | rfl | exact ret_i (by omega), rfl⟩
  · by_cases h2 : hi < lo
    · have e : clampF n lo hi = lo := by unfold clampF; rw [if_pos (Or.inr h2)]
      rw [e]; clear e
      go_enter Try.func41, Try.ntmps41
      go_wp2
      go_ret
      exact ⟨by first | rfl | exact ret_i (by omega), rfl⟩
    · by_cases h3 : n ≤ hi
      · have e : clampF n lo hi = n := by unfold clampF; rw [if_neg (by omega), if_pos h3]
        rw [e]; clear e
        go_enter Try.func41, Try.ntmps41
        go_wp2
        go_ret
        exact ⟨by first | rfl | exact ret_i (by omega), rfl⟩
      · have e : clampF n lo hi = hi := by unfold clampF; rw [if_neg (by omega), if_neg h3]
        rw [e]; clear e
        go_enter Try.func41, Try.ntmps41
        go_wp2
        go_ret
        exact ⟨by first | rfl | exact ret_i (by omega), rfl⟩
theorem rsat_any (n m : Int) (w : World) (hn : (Lit.int .i64 n).wf = true) (hm : (Lit.int .i64 m).wf = true) :
    Calls Try.prog 53 #[.int .i64 n, .int .i64 m] w fun e w' => e = .returned (.int .i64 (satF n m)) ∧ w = w' := by
  have bn := bd64 hn
  have bb := bd64 hm
  by_cases h1 : n < 0
  · have e : satF n m = 0 := by unfold satF; rw [if_pos (Or.inl h1)]
    rw [e]; clear e
    go_enter Try.func53, Try.ntmps53
    go_wp2
    go_ret
    exact ⟨rfl, rfl⟩
  · by_cases h2 : m < 0
    · have e : satF n m = 0 := by unfold satF; rw [if_pos (Or.inr h2)]
      rw [e]; clear e
      go_enter Try.func53, Try.ntmps53
      go_wp2
      go_ret
      exact ⟨rfl, rfl⟩
    · by_cases h3 : m ≤ n
      · have e : satF n m = m := by unfold satF; rw [if_neg (by omega), if_pos h3]
        rw [e]; clear e
        go_enter Try.func53, Try.ntmps53
        go_wp2
        go_ret
        exact ⟨rfl, rfl⟩
      · have e : satF n m = n + 1 := by unfold satF; rw [if_neg (by omega), if_neg h3]
        rw [e]; clear e
        go_enter Try.func53, Try.ntmps53
        go_wp2
        go_ret
        exact ⟨rfl, rfl⟩
end Go.Proofs.Ytgclabboafdheaa

/- The document's calls Has and Mark of layer 23 return what plain functions give, and make at most new memory; conditions: the row lies where it says, lengths fit int. -/
namespace Go.Proofs.Ytgclabboafdheaa
open Go.ChangeShapes Go.WideShapes Go.ChangeAt Go.RowKit
set_option linter.unusedVariables false
attribute [local go_sem] cell_rg

theorem sentB_at {s : ByteArray} {k : Nat} (h : k < s.size) : sentB s k = (((s[k]'h).toNat : Int) == 49) := by
  by_cases e : ((s[k]'h).toNat : Int) = 49
  · have h1 := markU_yes h e
    rw [beq_iff_eq.2 e]
    unfold markU markP at h1
    cases hs : sentB s k
    · rw [hs] at h1; simp at h1
    · rfl
  · have h1 := markU_no h e
    rw [beq_eq_false_iff_ne.2 e]
    unfold markU markP at h1
    cases hs : sentB s k
    · rfl
    · rw [hs] at h1; simp at h1
theorem sentB_out {s : ByteArray} {k : Nat} (h : ¬ k < s.size) : sentB s k = false := by unfold sentB; rw [decide_eq_false h]; rfl
theorem rHas_any (s : ByteArray) (z : Int) (w : World) (hs : s.size ≤ 9223372036854775807) :
    Calls Try.prog 42 #[.string s, .int .i64 z] w fun e w' => e = .returned (.bool (hasI s z)) ∧ w = w' := by
  by_cases h0 : 0 ≤ z
  · have d0 : decide (0 ≤ z) = true := decide_eq_true h0
    obtain ⟨k, rfl⟩ := Int.eq_ofNat_of_zero_le h0
    rw [hasI_nat]
    by_cases h1 : k < s.size
    · have i3 : (k : Int) < (s.size : Int) := by omega
      have d1 : decide ((k : Int) < (s.size : Int)) = true := decide_eq_true i3
      have d2 : decide (k < s.size) = true := decide_eq_true h1
      have HD := hidden (sentB_at h1)
      generalize sentB s k = R at *
      go_enter Try.func42, Try.ntmps42
      go_wp2
      go_ret
      exact ⟨ret_b HD.out.symm, rfl⟩
    · have i3 : ¬ (k : Int) < (s.size : Int) := by omega
      have d1 : decide ((k : Int) < (s.size : Int)) = false := decide_eq_false i3
      have d2 : decide (k < s.size) = false := decide_eq_false h1
      rw [sentB_out h1]
      go_enter Try.func42, Try.ntmps42
      go_wp2
      go_ret
      exact ⟨rfl, rfl⟩
  · have d0 : decide (0 ≤ z) = false := decide_eq_false h0
    rw [hasI_neg h0]
    go_enter Try.func42, Try.ntmps42
    go_wp2
    go_ret
    exact ⟨rfl, rfl⟩
set_option maxRecDepth 100000 in
set_option maxHeartbeats 2000000 in
theorem rMark_any (s : ByteArray) (n : Int) (a2 : Option Addr) (c2 : Nat) (vs : List Int) (w : World) (hs : s.size ≤ 9223372036854775807) (hlv : vs.length ≤ 9223372036854775807) (hV : kInt.Lies w.heap.size w (.slice a2 vs.length c2) vs) :
    Calls Try.prog 36 #[.string s, .int .i64 n, .slice a2 vs.length c2] w fun e w' => e = .returned (.string (markB s n vs)) ∧ Below w.heap.size w w' := by
  have HC := hidden (fun V => rclamp_any n 0 64 V)
  rw [mkN_int] at HC
  have HH := hidden (fun (k : Nat) V => rHas_any s (k : Int) V hs)
  have HI := hidden (fun (k : Nat) => rIn_any (k : Int) a2 c2 vs hlv w hV)
  have HR : Hid (markB s n vs = ba (markL s (mkN n) vs)) := rfl
  have hN := mkN_le n
  generalize markB s n vs = R at *
  generalize mkN n = N at *
  clear hV
  go_enter Try.func36, Try.ntmps36
  go_wp2
  go_loop [7, 8] (fun t i => ∃ k : Nat, k ≤ N ∧ i = .int .i64 k ∧ t = .string (ba (markL s k vs))) (fun _ i => N - (intV i).toNat)
  case atStart => exact ⟨0, Nat.zero_le _, rfl, rfl⟩
  case round =>
    obtain ⟨k, hk, rfl, rfl⟩ := hrel
    by_cases hlt : k < N
    · have i2 : (k : Int) < (N : Int) := by omega
      have HHk := hidden (HH.out k w)
      rw [hasI_nat] at HHk
      have HIk := hidden (HI.out k)
      have HG := hidden (markB_grow s vs k)
      have HU : Hid (markU s vs k = if (sentB s k || decide ((k : Int) ∈ vs)) = true then 49 else 48) := rfl
      have hsz : (ba (markL s k vs)).size ≤ 64 := by rw [ba_size, markL_len]; omega
      have hgo : Hid ((ba (markL s k vs) ++ ba [markU s vs k]) = ba (markL s (k + 1) vs)) := HG.out.symm
      generalize ba (markL s k vs) = t at *
      generalize decide ((k : Int) ∈ vs) = b2 at *
      generalize sentB s k = b1 at *
      have n1 : ¬ 9223372036854775807 < t.size + 1 := by omega
      clear HG HH HI
      go_wp2_with fail
      refine (HC.out _).mono ?_
      rintro e w2 ⟨rfl, rfl⟩
      go_wp2_with fail
      refine HHk.out.mono ?_
      rintro e w2 ⟨rfl, rfl⟩
      cases b1 with
      | true =>
        rw [HU.out, if_pos (by rfl)] at hgo
        go_wp2
        go_round
        case rel => exact ⟨k + 1, by omega, by go_num, congrArg Value.string hgo.out⟩
        case measure => simp [intV]; omega
      | false =>
        go_wp2_with fail
        refine HIk.out.mono ?_
        rintro e w2 ⟨rfl, rfl⟩
        cases b2 with
        | true =>
          rw [HU.out, if_pos (by rfl)] at hgo
          go_wp2
          go_round
          case rel => exact ⟨k + 1, by omega, by go_num, congrArg Value.string hgo.out⟩
          case measure => simp [intV]; omega
        | false =>
          rw [HU.out, if_neg (by decide)] at hgo
          go_wp2
          go_round
          case rel => exact ⟨k + 1, by omega, by go_num, congrArg Value.string hgo.out⟩
          case measure => simp [intV]; omega
    · obtain rfl : k = N := by omega
      have i2 : ¬ (k : Int) < (k : Int) := by omega
      go_wp2_with fail
      refine (HC.out _).mono ?_
      rintro e w2 ⟨rfl, rfl⟩
      go_wp2
      go_ret
      exact ⟨by rw [HR.out]; rfl, Below.refl _ _⟩
end Go.Proofs.Ytgclabboafdheaa

/- Plain words on a block of six cells that is written anew: what is read of it then; no conditions. -/
namespace Go.Proofs.Ytgclabboafdheaa
open Go.ChangeShapes Go.WideShapes Go.ChangeAt Go.RowKit
set_option linter.unusedVariables false

theorem blk_frozen {w : World} {b : Nat} {C : Array Value} {t : TypeId} (h : w.heap[b]? = some (.cells C t (0, 0))) (i : Nat) : w.frozen? ⟨b, i, none⟩ = false := by
  simp [World.frozen?, h]
theorem blk_cell {w : World} {b : Nat} {C : Array Value} {t : TypeId} (h : w.heap[b]? = some (.cells C t (0, 0))) (i : Nat) : w.cell? ⟨b, i, none⟩ = C[i]? := by
  simp [World.cell?, h]
theorem blk_second (w : World) (o : Obj) (C : Array Value) (t : TypeId) {w' : World} (hb : Below ((w.alloc o).alloc (.cells C t)).heap.size ((w.alloc o).alloc (.cells C t)) w') : w'.heap[w.heap.size + 1]? = some (.cells C t (0, 0)) := by
  refine (hb.block (w.heap.size + 1) (by simp)).trans ?_
  have := heap_alloc_new (w.alloc o) (.cells C t)
  rw [World.size_alloc] at this
  exact this
theorem set6T {w : World} {b : Nat} {z0 z1 z2 z3 z4 z5 : Value} {t : TypeId} (h : w.heap[b]? = some (.cells #[z0, z1, z2, z3, z4, z5] t (0, 0))) (v0 v1 v2 v3 v4 v5 : Value) :
    ((((((w.setCell ⟨b, 0, none⟩ v0).setCell ⟨b, 1, none⟩ v1).setCell ⟨b, 2, none⟩ v2).setCell ⟨b, 3, none⟩ v3).setCell ⟨b, 4, none⟩ v4).setCell ⟨b, 5, none⟩ v5).heap[b]? = some (.cells #[v0, v1, v2, v3, v4, v5] t (0, 0)) := by
  have h1 := heap_setCell_same _ b 0 _ _ v0 h
  have h2 := heap_setCell_same _ b 1 _ _ v1 h1
  have h3 := heap_setCell_same _ b 2 _ _ v2 h2
  have h4 := heap_setCell_same _ b 3 _ _ v3 h3
  have h5 := heap_setCell_same _ b 4 _ _ v4 h4
  have h6 := heap_setCell_same _ b 5 _ _ v5 h5
  simpa using h6
theorem read6T {w : World} {b : Nat} {z0 z1 z2 z3 z4 z5 : Value} {t : TypeId} (h : w.heap[b]? = some (.cells #[z0, z1, z2, z3, z4, z5] t (0, 0))) (v0 v1 v2 v3 v4 v5 : Value) :
    ((((((w.setCell ⟨b, 0, none⟩ v0).setCell ⟨b, 1, none⟩ v1).setCell ⟨b, 2, none⟩ v2).setCell ⟨b, 3, none⟩ v3).setCell ⟨b, 4, none⟩ v4).setCell ⟨b, 5, none⟩ v5).cell? ⟨b, 0, none⟩ = some v0 ∧ ((((((w.setCell ⟨b, 0, none⟩ v0).setCell ⟨b, 1, none⟩ v1).setCell ⟨b, 2, none⟩ v2).setCell ⟨b, 3, none⟩ v3).setCell ⟨b, 4, none⟩ v4).setCell ⟨b, 5, none⟩ v5).cell? ⟨b, 1, none⟩ = some v1 ∧ ((((((w.setCell ⟨b, 0, none⟩ v0).setCell ⟨b, 1, none⟩ v1).setCell ⟨b, 2, none⟩ v2).setCell ⟨b, 3, none⟩ v3).setCell ⟨b, 4, none⟩ v4).setCell ⟨b, 5, none⟩ v5).cell? ⟨b, 2, none⟩ = some v2 ∧ ((((((w.setCell ⟨b, 0, none⟩ v0).setCell ⟨b, 1, none⟩ v1).setCell ⟨b, 2, none⟩ v2).setCell ⟨b, 3, none⟩ v3).setCell ⟨b, 4, none⟩ v4).setCell ⟨b, 5, none⟩ v5).cell? ⟨b, 3, none⟩ = some v3 ∧ ((((((w.setCell ⟨b, 0, none⟩ v0).setCell ⟨b, 1, none⟩ v1).setCell ⟨b, 2, none⟩ v2).setCell ⟨b, 3, none⟩ v3).setCell ⟨b, 4, none⟩ v4).setCell ⟨b, 5, none⟩ v5).cell? ⟨b, 4, none⟩ = some v4 ∧ ((((((w.setCell ⟨b, 0, none⟩ v0).setCell ⟨b, 1, none⟩ v1).setCell ⟨b, 2, none⟩ v2).setCell ⟨b, 3, none⟩ v3).setCell ⟨b, 4, none⟩ v4).setCell ⟨b, 5, none⟩ v5).cell? ⟨b, 5, none⟩ = some v5 := by
  have h6 := set6T h v0 v1 v2 v3 v4 v5
  refine ⟨?_, ?_, ?_, ?_, ?_, ?_⟩ <;> simp only [World.cell?, h6] <;> rfl
theorem below6T {B : Nat} {a w : World} {b : Nat} (h : Below B a w) (hp : B ≤ b) (v0 v1 v2 v3 v4 v5 : Value) : Below B a ((((((w.setCell ⟨b, 0, none⟩ v0).setCell ⟨b, 1, none⟩ v1).setCell ⟨b, 2, none⟩ v2).setCell ⟨b, 3, none⟩ v3).setCell ⟨b, 4, none⟩ v4).setCell ⟨b, 5, none⟩ v5) :=
  (((((h.setCell (p := ⟨b, 0, none⟩) hp _).setCell (p := ⟨b, 1, none⟩) hp _).setCell (p := ⟨b, 2, none⟩) hp _).setCell (p := ⟨b, 3, none⟩) hp _).setCell (p := ⟨b, 4, none⟩) hp _).setCell (p := ⟨b, 5, none⟩) hp _
theorem read6A {w : World} {b : Nat} {z0 z1 z2 z3 z4 z5 : Value} {t : TypeId} (h : w.heap[b]? = some (.cells #[z0, z1, z2, z3, z4, z5] t (0, 0))) (o : Obj) (v0 v1 v2 v3 v4 v5 : Value) :
    (((((((w.setCell ⟨b, 0, none⟩ v0).setCell ⟨b, 1, none⟩ v1).setCell ⟨b, 2, none⟩ v2).setCell ⟨b, 3, none⟩ v3).setCell ⟨b, 4, none⟩ v4).setCell ⟨b, 5, none⟩ v5).alloc o).cell? ⟨b, 0, none⟩ = some v0 ∧ (((((((w.setCell ⟨b, 0, none⟩ v0).setCell ⟨b, 1, none⟩ v1).setCell ⟨b, 2, none⟩ v2).setCell ⟨b, 3, none⟩ v3).setCell ⟨b, 4, none⟩ v4).setCell ⟨b, 5, none⟩ v5).alloc o).cell? ⟨b, 1, none⟩ = some v1 ∧ (((((((w.setCell ⟨b, 0, none⟩ v0).setCell ⟨b, 1, none⟩ v1).setCell ⟨b, 2, none⟩ v2).setCell ⟨b, 3, none⟩ v3).setCell ⟨b, 4, none⟩ v4).setCell ⟨b, 5, none⟩ v5).alloc o).cell? ⟨b, 2, none⟩ = some v2 ∧ (((((((w.setCell ⟨b, 0, none⟩ v0).setCell ⟨b, 1, none⟩ v1).setCell ⟨b, 2, none⟩ v2).setCell ⟨b, 3, none⟩ v3).setCell ⟨b, 4, none⟩ v4).setCell ⟨b, 5, none⟩ v5).alloc o).cell? ⟨b, 3, none⟩ = some v3 ∧ (((((((w.setCell ⟨b, 0, none⟩ v0).setCell ⟨b, 1, none⟩ v1).setCell ⟨b, 2, none⟩ v2).setCell ⟨b, 3, none⟩ v3).setCell ⟨b, 4, none⟩ v4).setCell ⟨b, 5, none⟩ v5).alloc o).cell? ⟨b, 4, none⟩ = some v4 ∧ (((((((w.setCell ⟨b, 0, none⟩ v0).setCell ⟨b, 1, none⟩ v1).setCell ⟨b, 2, none⟩ v2).setCell ⟨b, 3, none⟩ v3).setCell ⟨b, 4, none⟩ v4).setCell ⟨b, 5, none⟩ v5).alloc o).cell? ⟨b, 5, none⟩ = some v5 := by
  have h6 := set6T h v0 v1 v2 v3 v4 v5
  have h7 := ((ballc _ o).block b (Array.getElem?_eq_some_iff.1 h6).1).trans h6
  refine ⟨?_, ?_, ?_, ?_, ?_, ?_⟩ <;> simp only [World.cell?, h7] <;> rfl
theorem below6A {a w : World} {b : Nat} (h : Below a.heap.size a w) (hp : a.heap.size ≤ b) (o : Obj) (v0 v1 v2 v3 v4 v5 : Value) : Below a.heap.size a (((((((w.setCell ⟨b, 0, none⟩ v0).setCell ⟨b, 1, none⟩ v1).setCell ⟨b, 2, none⟩ v2).setCell ⟨b, 3, none⟩ v3).setCell ⟨b, 4, none⟩ v4).setCell ⟨b, 5, none⟩ v5).alloc o) :=
  (below6T h hp v0 v1 v2 v3 v4 v5).alloc (below6T h hp v0 v1 v2 v3 v4 v5).size o
theorem blk_lt {w : World} {b : Nat} {o : Obj} (h : w.heap[b]? = some o) : b < w.heap.size := (Array.getElem?_eq_some_iff.1 h).1
theorem blk_later {w w' : World} {b : Nat} {o : Obj} (h : w.heap[b]? = some o) (hb : Below w.heap.size w w') : w'.heap[b]? = some o := (hb.block b (blk_lt h)).trans h
theorem blk_nw (w : World) (C : Array Value) (t : TypeId) : (w.alloc (.cells C t)).heap[w.heap.size]? = some (.cells C t (0, 0)) := heap_alloc_new w _
theorem blk_newAt (w : World) (C : Array Value) (t : TypeId) {b : Nat} (hb : b = w.heap.size) : (w.alloc (.cells C t)).heap[b]? = some (.cells C t (0, 0)) := by subst hb; exact heap_alloc_new w _
theorem blkV_new {w w' : World} {C : Array Value} {t : TypeId} (hb : Below (w.alloc (.cells C t)).heap.size (w.alloc (.cells C t)) w') : w'.heap[w.heap.size]? = some (.cells C t (0, 0)) := (hb.block _ (by simp)).trans (heap_alloc_new w _)
theorem blkV_newD {w w' : World} {C : Array Value} {t : TypeId} (hb : Below (w.alloc (.cells C t)).drew.heap.size (w.alloc (.cells C t)).drew w') : w'.heap[w.heap.size]? = some (.cells C t (0, 0)) := (hb.block _ (by simp)).trans (heap_alloc_new w _)
theorem blkV_newE {w w' : World} {C : Array Value} {t : TypeId} (hb : Below (w.alloc (.cells C t)).drew.drew.heap.size (w.alloc (.cells C t)).drew.drew w') : w'.heap[w.heap.size]? = some (.cells C t (0, 0)) := (hb.block _ (by simp)).trans (heap_alloc_new w _)
end Go.Proofs.Ytgclabboafdheaa

/- The document's calls of layer 25 return what plain functions give, and make at most new memory; conditions: rows lie where they say, lengths fit int and are at most a million. -/
namespace Go.Proofs.Ytgclabboafdheaa
open Go.ChangeShapes Go.WideShapes Go.ChangeAt Go.RowKit
set_option linter.unusedVariables false
attribute [local go_sem] cell_rg

theorem r25Has_any (s : ByteArray) (z : Int) (w : World) (hs : s.size ≤ 9223372036854775807) :
    Calls Try.prog 17 #[.string s, .int .i64 z] w fun e w' => e = .returned (.bool (hasI s z)) ∧ w = w' := by
  have CH := hidden (fun V => rHas_any s z V hs)
  generalize hasI s z = R at *
  go_enter Try.func17, Try.ntmps17
  go_wp2_with fail
  refine (CH.out _).mono ?_
  rintro e w1 ⟨rfl, rfl⟩
  go_wp2
  go_ret
  exact ⟨rfl, rfl⟩
theorem r25Blank_any (n f d p r dr o sl md fr : Int) (ad : Option Addr) (cap : Nat) (zs : List Int) (w : World) :
    Calls Try.prog 11 #[.agg #[.int .i64 n, .int .i64 f, .int .i64 d, .int .i64 p, .int .i64 r, .int .i64 dr, .int .i64 o, .int .i64 sl, .int .i64 md, .int .i64 fr, .slice ad zs.length cap]] w fun e w' => e = .returned (.string (markB ⟨#[]⟩ n [])) ∧ Below w.heap.size w w' := by
  have HB := hidden (ballc w (.cells #[.int .i64 n, .int .i64 f, .int .i64 d, .int .i64 p, .int .i64 r, .int .i64 dr, .int .i64 o, .int .i64 sl, .int .i64 md, .int .i64 fr, .slice ad zs.length cap] 24))
  have CM := hidden (fun V => rMark_any ⟨#[]⟩ n none 0 [] V (by decide) (by decide) (Kind.Lies.nil _ _))
  generalize markB ⟨#[]⟩ n [] = R at *
  go_enter Try.func11, Try.ntmps11
  go_wp2_with fail
  refine (CM.out _).mono ?_
  rintro e w1 ⟨rfl, hb⟩
  have HB2 := hidden (bthen HB.out hb)
  clear hb
  go_wp2
  go_ret
  exact ⟨rfl, HB2.out⟩
theorem r25Mark_any (n f d p r dr o sl md fr : Int) (ad : Option Addr) (cap : Nat) (zs : List Int) (s : ByteArray) (a2 : Option Addr) (c2 : Nat) (vs : List Int) (w : World) (hs : s.size ≤ 9223372036854775807) (hlv : vs.length ≤ 9223372036854775807) (hV : kInt.Lies w.heap.size w (.slice a2 vs.length c2) vs) :
    Calls Try.prog 13 #[.agg #[.int .i64 n, .int .i64 f, .int .i64 d, .int .i64 p, .int .i64 r, .int .i64 dr, .int .i64 o, .int .i64 sl, .int .i64 md, .int .i64 fr, .slice ad zs.length cap], .string s, .slice a2 vs.length c2] w fun e w' => e = .returned (.string (markB s n vs)) ∧ Below w.heap.size w w' := by
  have HB := hidden (ballc w (.cells #[.int .i64 n, .int .i64 f, .int .i64 d, .int .i64 p, .int .i64 r, .int .i64 dr, .int .i64 o, .int .i64 sl, .int .i64 md, .int .i64 fr, .slice ad zs.length cap] 24))
  have CM := hidden (rMark_any s n a2 c2 vs (w.alloc (.cells #[.int .i64 n, .int .i64 f, .int .i64 d, .int .i64 p, .int .i64 r, .int .i64 dr, .int .i64 o, .int .i64 sl, .int .i64 md, .int .i64 fr, .slice ad zs.length cap] 24)) hs hlv (hV.later (ballc w _)))
  generalize markB s n vs = R at *
  clear hV
  go_enter Try.func13, Try.ntmps13
  go_wp2_with fail
  refine CM.out.mono ?_
  rintro e w1 ⟨rfl, hb⟩
  have HB2 := hidden (bthen HB.out hb)
  clear hb
  go_wp2
  go_ret
  exact ⟨rfl, HB2.out⟩
set_option maxRecDepth 100000 in
set_option maxHeartbeats 2000000 in
theorem r25Nodes_any (s : ByteArray) (hs : s.size ≤ 1000000) (w : World) :
    Calls Try.prog 22 #[.string s] w fun e w' => ∃ r, e = .returned r ∧ w'.ownsRow w.heap.size 3 1 r (nodL s).length (kInt.flat (nodL s)) ∧ Below w.heap.size w w' := by
  obtain ⟨i0, hi, hz0, hz1, hz2⟩ := info_of infoInt
  unfold nodL
  go_enter Try.func22, Try.ntmps22
  go_wp2
  go_loopw [3, 4] (fun a i wr => ∃ k : Nat, k ≤ s.size ∧ i = .int .i64 k ∧ wr.ownsRow w.heap.size 3 1 a (plcL (sentB s) k).length (kInt.flat (plcL (sentB s) k)) ∧ Below w.heap.size w wr) (fun _ i _ => s.size - (intV i).toNat)
  case atStart => exact ⟨0, Nat.zero_le _, rfl, (World.ownsRow_nil _ _ _ _ : w.ownsRow w.heap.size 3 1 (.slice none 0 0) 0 []), Below.refl _ _⟩
  case round =>
    obtain ⟨k, hk, rfl, hown, hB⟩ := hrel
    have HB := hidden hB
    have HO := hidden hown
    clear hown hB
    by_cases hlt : k < s.size
    · have i1 : (0 : Int) ≤ (k : Int) := by omega
      have i2 : (k : Int) < (s.size : Int) := by omega
      have HY := hidden (fun h => plcL_yes (f := sentB s) (k := k) h)
      have HN := hidden (fun h => plcL_no (f := sentB s) (k := k) h)
      have hlen := plcL_len (sentB s) k
      generalize hXd : plcL (sentB s) k = X at *
      have HXd := hidden hXd
      clear hXd
      have hat := sentB_at hlt
      cases hgk : sentB s k with
      | true =>
        have j : ((((s[k]'hlt).toNat : Int)) == 49) = true := hat.symm.trans hgk
        have HX := hidden (HY.out hgk)
        clear HY HN hgk hat
        go_wp2_with (at_builtin; refine kInt.wpList_append _ rfl (.tmp 15) (.tmp 17) 22 rfl w.heap.size 3 i0 (.int .i64 0) 8 Try.underlying22 hi hz0 hz1 hz2 rfl u3 X.length _ rfl (HO.out.alloc _) (.slice (some ⟨wr.heap.size, 0, none⟩) 1 1) [(k : Int)] rfl (Kind.Lies.of_block (K := kInt) (es := [(k : Int)]) (heap_alloc_new wr _) (by simp [maxLen])) (by simp only [maxLen, List.length_singleton]; omega) (by simp only [List.length_singleton]; omega) (by have := HB.out.size; simp; omega) ?_; intro v3 w3 hown3 hgrow3 _)
        have hB3 : Below w.heap.size w w3 := (HB.out.alloc HB.out.size _).grown hgrow3 (by have := HB.out.size; simp; omega) (own_from HO.out)
        have hrow : w3.ownsRow w.heap.size 3 1 v3 (X ++ [(k : Int)]).length (kInt.flat (X ++ [(k : Int)])) := by
          rw [Kind.flat_append, List.length_append]
          exact hown3
        go_roundw
        case rel => exact ⟨k + 1, by omega, by go_num, by rw [HX.out]; exact hrow, hB3⟩
        case measure => simp [intV]; omega
      | false =>
        have j : ((((s[k]'hlt).toNat : Int)) == 49) = false := hat.symm.trans hgk
        have HX := hidden (HN.out hgk)
        clear HY HN hgk hat
        go_wp2
        go_roundw
        case rel => exact ⟨k + 1, by omega, by go_num, by rw [HX.out]; exact HO.out, HB.out⟩
        case measure => simp [intV]; omega
    · obtain rfl : k = s.size := by omega
      have i2 : ¬ (s.size : Int) < (s.size : Int) := by omega
      go_wp2
      go_ret
      exact ⟨_, rfl, HO.out, HB.out⟩
theorem r25Count_any (s : ByteArray) (hs : s.size ≤ 1000000) (w : World) :
    Calls Try.prog 19 #[.string s] w fun e w' => e = .returned (.int .i64 ((nodL s).length : Int)) ∧ Below w.heap.size w w' := by
  have CN := hidden (fun V => r25Nodes_any s hs V)
  generalize nodL s = R at *
  go_enter Try.func19, Try.ntmps19
  go_wp2_with fail
  refine (CN.out _).mono ?_
  rintro e w1 ⟨r, rfl, ho, hb⟩
  obtain ⟨ad4, c4, rfl⟩ := own_slice ho
  have HB := hidden hb
  clear ho hb
  go_wp2
  go_ret
  exact ⟨rfl, HB.out⟩
set_option maxRecDepth 100000 in
set_option maxHeartbeats 4000000 in
theorem r25Lacks_any (n f d p r dr o sl md fr : Int) (ad : Option Addr) (cap : Nat) (zs : List Int) (s : ByteArray) (w : World) (hs : s.size ≤ 9223372036854775807) :
    Calls Try.prog 24 #[.agg #[.int .i64 n, .int .i64 f, .int .i64 d, .int .i64 p, .int .i64 r, .int .i64 dr, .int .i64 o, .int .i64 sl, .int .i64 md, .int .i64 fr, .slice ad zs.length cap], .string s] w fun e w' => ∃ r, e = .returned r ∧ w'.ownsRow w.heap.size 3 1 r (lackL n s).length (kInt.flat (lackL n s)) ∧ Below w.heap.size w w' := by
  have HB0 := hidden (ballc w (.cells #[.int .i64 n, .int .i64 f, .int .i64 d, .int .i64 p, .int .i64 r, .int .i64 dr, .int .i64 o, .int .i64 sl, .int .i64 md, .int .i64 fr, .slice ad zs.length cap] 24))
  have HK := hidden (blk_nw w #[.int .i64 n, .int .i64 f, .int .i64 d, .int .i64 p, .int .i64 r, .int .i64 dr, .int .i64 o, .int .i64 sl, .int .i64 md, .int .i64 fr, .slice ad zs.length cap] 24)
  have HC := hidden (fun V => rclamp_any n 0 64 V)
  rw [mkN_int] at HC
  have hN := mkN_le n
  have HH := hidden (fun (k : Nat) V => by have z := r25Has_any s (k : Int) V hs; rwa [hasI_nat] at z)
  unfold lackL
  obtain ⟨g, hg⟩ : ∃ g, g = (fun k => !sentB s k) := ⟨_, rfl⟩
  rw [← hg]
  replace hg : ∀ k, g k = !sentB s k := fun k => by rw [hg]
  generalize mkN n = N at *
  obtain ⟨i0, hi, hz0, hz1, hz2⟩ := info_of infoInt
  go_enter Try.func24, Try.ntmps24
  go_wp2
  have HBS := hidden HB0.out.size
  generalize hwa : w.alloc (.cells #[.int .i64 n, .int .i64 f, .int .i64 d, .int .i64 p, .int .i64 r, .int .i64 dr, .int .i64 o, .int .i64 sl, .int .i64 md, .int .i64 fr, .slice ad zs.length cap] 24) = wa at *
  have HWA := hidden hwa
  clear hwa
  go_loopw [5, 6] (fun a i wr => ∃ k : Nat, k ≤ N ∧ i = .int .i64 k ∧ wr.ownsRow wa.heap.size 3 1 a (plcL g k).length (kInt.flat (plcL g k)) ∧ Below wa.heap.size wa wr) (fun _ i _ => N - (intV i).toNat)
  case atStart => exact ⟨0, Nat.zero_le _, rfl, (World.ownsRow_nil _ _ _ _ : wa.ownsRow wa.heap.size 3 1 (.slice none 0 0) 0 []), Below.refl _ _⟩
  case round =>
    obtain ⟨k, hk, rfl, hown, hB⟩ := hrel
    have HB := hidden hB
    have HO := hidden hown
    have k0 := blk_later HK.out hB
    have b0 := blk_cell k0
    have l0 := blk_lt k0
    have HK0 := hidden k0
    clear hown hB k0
    by_cases hlt : k < N
    · have i1 : (0 : Int) ≤ (k : Int) := by omega
      have i2 : (k : Int) < (N : Int) := by omega
      have HY := hidden (fun h => plcL_yes (f := g) (k := k) h)
      have HN := hidden (fun h => plcL_no (f := g) (k := k) h)
      have HG := hidden (hg k)
      have hlen := plcL_len g k
      generalize hXd : plcL g k = X at *
      have HXd := hidden hXd
      clear hXd
      go_wp2_with fail
      refine (HC.out _).mono ?_
      rintro e w2 ⟨rfl, rfl⟩
      go_wp2_with fail
      refine (HH.out k _).mono ?_
      rintro e w2 ⟨rfl, rfl⟩
      cases h1 : sentB s k with
      | true =>
        have hgk : g k = false := by rw [HG.out, h1]; rfl
        have HX := hidden (HN.out hgk)
        clear HY HN HG hgk
        go_wp2
        go_roundw
        case rel => exact ⟨k + 1, by omega, by go_num, by rw [HX.out]; exact HO.out, HB.out⟩
        case measure => simp [intV]; omega
      | false =>
        have hgk : g k = true := by rw [HG.out, h1]; rfl
        have HX := hidden (HY.out hgk)
        clear HY HN HG hgk
        go_wp2_with (at_builtin; refine kInt.wpList_append _ rfl (.tmp 18) (.tmp 20) 22 rfl wa.heap.size 3 i0 (.int .i64 0) 8 Try.underlying22 hi hz0 hz1 hz2 rfl u5 X.length _ rfl (HO.out.alloc _) (.slice (some ⟨wr.heap.size, 0, none⟩) 1 1) [(k : Int)] rfl (Kind.Lies.of_block (K := kInt) (es := [(k : Int)]) (heap_alloc_new wr _) (by simp [maxLen])) (by simp only [maxLen, List.length_singleton]; omega) (by simp only [List.length_singleton]; omega) (by have := HB.out.size; simp; omega) ?_; intro v3 w3 hown3 hgrow3 _)
        have hB3 : Below wa.heap.size wa w3 := (HB.out.alloc HB.out.size _).grown hgrow3 (by have := HB.out.size; simp; omega) (own_from HO.out)
        have hrow : w3.ownsRow wa.heap.size 3 1 v3 (X ++ [(k : Int)]).length (kInt.flat (X ++ [(k : Int)])) := by
          rw [Kind.flat_append, List.length_append]
          exact hown3
        go_roundw
        case rel => exact ⟨k + 1, by omega, by go_num, by rw [HX.out]; exact hrow, hB3⟩
        case measure => simp [intV]; omega
    · obtain rfl : k = N := by omega
      have i2 : ¬ (k : Int) < (k : Int) := by omega
      go_wp2_with fail
      refine (HC.out _).mono ?_
      rintro e w2 ⟨rfl, rfl⟩
      go_wp2
      go_ret
      exact ⟨_, rfl, own_low HO.out HBS.out, bthen HB0.out HB.out⟩
set_option maxRecDepth 100000 in
set_option maxHeartbeats 4000000 in
theorem r25Both_any (n f d p r dr o sl md fr : Int) (ad : Option Addr) (cap : Nat) (zs : List Int) (s t : ByteArray) (w : World) (hs : s.size ≤ 9223372036854775807) (ht : t.size ≤ 9223372036854775807) :
    Calls Try.prog 15 #[.agg #[.int .i64 n, .int .i64 f, .int .i64 d, .int .i64 p, .int .i64 r, .int .i64 dr, .int .i64 o, .int .i64 sl, .int .i64 md, .int .i64 fr, .slice ad zs.length cap], .string s, .string t] w fun e w' => e = .returned (.string (bothB n s t)) ∧ Below w.heap.size w w' := by
  have HB0 := hidden (ballc w (.cells #[.int .i64 n, .int .i64 f, .int .i64 d, .int .i64 p, .int .i64 r, .int .i64 dr, .int .i64 o, .int .i64 sl, .int .i64 md, .int .i64 fr, .slice ad zs.length cap] 24))
  have HK := hidden (blk_nw w #[.int .i64 n, .int .i64 f, .int .i64 d, .int .i64 p, .int .i64 r, .int .i64 dr, .int .i64 o, .int .i64 sl, .int .i64 md, .int .i64 fr, .slice ad zs.length cap] 24)
  have HC := hidden (fun V => rclamp_any n 0 64 V)
  rw [mkN_int] at HC
  have hN := mkN_le n
  have HH := hidden (fun (k : Nat) V => by have z := r25Has_any s (k : Int) V hs; rwa [hasI_nat] at z)
  have HI := hidden (fun (k : Nat) V => by have z := r25Has_any t (k : Int) V ht; rwa [hasI_nat] at z)
  have HL : Hid ((bothL n s t).length ≤ 64) := Nat.le_trans (plcL_len _ _) (mkN_le n)
  have CM := hidden (fun V a2 c2 h => rMark_any ⟨#[]⟩ n a2 c2 (bothL n s t) V (by decide) (by have := HL.out; omega) h)
  have HQ : Hid (bothB n s t = markB ⟨#[]⟩ n (bothL n s t)) := rfl
  rw [← HQ.out] at CM
  generalize bothB n s t = Q at *
  unfold bothL at CM
  clear HL HQ
  obtain ⟨g, hg⟩ : ∃ g, g = (fun k => sentB s k && sentB t k) := ⟨_, rfl⟩
  rw [← hg] at CM
  replace hg : ∀ k, g k = (sentB s k && sentB t k) := fun k => by rw [hg]
  generalize mkN n = N at *
  obtain ⟨i0, hi, hz0, hz1, hz2⟩ := info_of infoInt
  go_enter Try.func15, Try.ntmps15
  go_wp2
  have HBS := hidden HB0.out.size
  generalize hwa : w.alloc (.cells #[.int .i64 n, .int .i64 f, .int .i64 d, .int .i64 p, .int .i64 r, .int .i64 dr, .int .i64 o, .int .i64 sl, .int .i64 md, .int .i64 fr, .slice ad zs.length cap] 24) = wa at *
  have HWA := hidden hwa
  clear hwa
  go_loopw [7, 8] (fun a i wr => ∃ k : Nat, k ≤ N ∧ i = .int .i64 k ∧ wr.ownsRow wa.heap.size 3 1 a (plcL g k).length (kInt.flat (plcL g k)) ∧ Below wa.heap.size wa wr) (fun _ i _ => N - (intV i).toNat)
  case atStart => exact ⟨0, Nat.zero_le _, rfl, (World.ownsRow_nil _ _ _ _ : wa.ownsRow wa.heap.size 3 1 (.slice none 0 0) 0 []), Below.refl _ _⟩
  case round =>
    obtain ⟨k, hk, rfl, hown, hB⟩ := hrel
    have HB := hidden hB
    have HO := hidden hown
    have k0 := blk_later HK.out hB
    have b0 := blk_cell k0
    have l0 := blk_lt k0
    have HK0 := hidden k0
    clear hown hB k0
    by_cases hlt : k < N
    · have i1 : (0 : Int) ≤ (k : Int) := by omega
      have i2 : (k : Int) < (N : Int) := by omega
      have HY := hidden (fun h => plcL_yes (f := g) (k := k) h)
      have HN := hidden (fun h => plcL_no (f := g) (k := k) h)
      have HG := hidden (hg k)
      have hlen := plcL_len g k
      generalize hXd : plcL g k = X at *
      have HXd := hidden hXd
      clear hXd
      go_wp2_with fail
      refine (HC.out _).mono ?_
      rintro e w2 ⟨rfl, rfl⟩
      go_wp2_with fail
      refine (HH.out k _).mono ?_
      rintro e w2 ⟨rfl, rfl⟩
      cases h1 : sentB s k with
      | false =>
        have hgk : g k = false := by rw [HG.out, h1]; rfl
        have HX := hidden (HN.out hgk)
        clear HY HN HG hgk
        go_wp2
        go_roundw
        case rel => exact ⟨k + 1, by omega, by go_num, by rw [HX.out]; exact HO.out, HB.out⟩
        case measure => simp [intV]; omega
      | true =>
        go_wp2_with fail
        refine (HI.out k _).mono ?_
        rintro e w2 ⟨rfl, rfl⟩
        cases h2 : sentB t k with
        | false =>
          have hgk : g k = false := by rw [HG.out, h1, h2]; rfl
          have HX := hidden (HN.out hgk)
          clear HY HN HG hgk
          go_wp2
          go_roundw
          case rel => exact ⟨k + 1, by omega, by go_num, by rw [HX.out]; exact HO.out, HB.out⟩
          case measure => simp [intV]; omega
        | true =>
          have hgk : g k = true := by rw [HG.out, h1, h2]; rfl
          have HX := hidden (HY.out hgk)
          clear HY HN HG hgk
          go_wp2_with (at_builtin; refine kInt.wpList_append _ rfl (.tmp 24) (.tmp 26) 22 rfl wa.heap.size 3 i0 (.int .i64 0) 8 Try.underlying22 hi hz0 hz1 hz2 rfl u7 X.length _ rfl (HO.out.alloc _) (.slice (some ⟨wr.heap.size, 0, none⟩) 1 1) [(k : Int)] rfl (Kind.Lies.of_block (K := kInt) (es := [(k : Int)]) (heap_alloc_new wr _) (by simp [maxLen])) (by simp only [maxLen, List.length_singleton]; omega) (by simp only [List.length_singleton]; omega) (by have := HB.out.size; simp; omega) ?_; intro v3 w3 hown3 hgrow3 _)
          have hB3 : Below wa.heap.size wa w3 := (HB.out.alloc HB.out.size _).grown hgrow3 (by have := HB.out.size; simp; omega) (own_from HO.out)
          have hrow : w3.ownsRow wa.heap.size 3 1 v3 (X ++ [(k : Int)]).length (kInt.flat (X ++ [(k : Int)])) := by
            rw [Kind.flat_append, List.length_append]
            exact hown3
          go_roundw
          case rel => exact ⟨k + 1, by omega, by go_num, by rw [HX.out]; exact hrow, hB3⟩
          case measure => simp [intV]; omega
    · obtain rfl : k = N := by omega
      have i2 : ¬ (k : Int) < (k : Int) := by omega
      go_wp2_with fail
      refine (HC.out _).mono ?_
      rintro e w2 ⟨rfl, rfl⟩
      obtain ⟨ad4, c4, hv4⟩ := own_slice HO.out
      subst hv4
      have hm := CM.out wr ad4 c4 (Kind.Lies.of_own HO.out)
      go_wp2_with fail
      refine hm.mono ?_
      rintro e w5 ⟨rfl, hb5⟩
      have HB5 := hidden (bthen HB.out hb5)
      clear hb5 hm b0 l0
      go_wp2
      go_ret
      exact ⟨rfl, bthen HB0.out HB5.out⟩
end Go.Proofs.Ytgclabboafdheaa

/- What is asked of a place in package roster is a kept function that tells whether there is a mark, and leaves all as it was; conditions: the text lies where it says, and its length fits int. -/
namespace Go.Proofs.Ytgclabboafdheaa
open Go.ChangeShapes Go.WideShapes Go.ChangeAt Go.RowKit Go.Shelf
set_option linter.unusedVariables false
attribute [local go_sem] cell_rg

/-- A function that is kept: it tells of any number what f does, wherever memory has grown. -/
def Asks (n₀ : Nat) (W : World) (v : Value) (f : Int → Bool) : Prop :=
  ∃ (F : Nat) (lb : Array Value), v = .func (.func F) #[] lb ∧ Enters Try.prog F ∧ ∀ (z : Int) V, Below n₀ W V → Calls Try.prog F (#[.int .i64 z] ++ lb) V fun e V' => e = .returned (.bool (f z)) ∧ V = V'
theorem Asks.below {n₀ : Nat} {A B : World} {v : Value} {f : Int → Bool} (h : Asks n₀ A v f) (hb : Below n₀ A B) : Asks n₀ B v f := by
  obtain ⟨F, lb, e, he, hc⟩ := h
  exact ⟨F, lb, e, he, fun z V hV => hc z V (hb.trans hV)⟩
theorem Asks.later {A B : World} {v : Value} {f : Int → Bool} (h : Asks A.heap.size A v f) (hb : Below A.heap.size A B) : Asks B.heap.size B v f := by
  obtain ⟨F, lb, e, he, hc⟩ := h
  exact ⟨F, lb, e, he, fun z V hV => hc z V (hb.trans (hV.mono hb.size))⟩
theorem enters_in : Enters Try.prog 57 := enters_of Try.func57 (by kernel_rfl) rfl
theorem one_byte (s : ByteArray) (k : Nat) (h : k < s.size) : ((s.extract k (k + 1)).toList == [49]) = sentB s k := by
  have h' : k < s.data.toList.length := by simpa using h
  have e : s.extract k (k + 1) = ba [s.data.toList[k]] := by
    apply ByteArray.ext
    apply Array.ext'
    simp only [ByteArray.data_extract, ba, Array.toList_extract, List.extract_eq_take_drop]
    rw [show k + 1 - k = 1 by omega, List.drop_eq_getElem_cons h']
    rfl
  have hs : sentB s k = (s.data.toList[k] == 49) := by
    rw [sentB_bl]
    unfold bl
    rw [List.getElem?_eq_getElem h']
    rfl
  rw [e, hs, ByteArray.toList_eq]
  show ([s.data.toList[k]] == [49]) = _
  simp
theorem cut_one (s : ByteArray) (k : Nat) (h : k < s.size) : ∀ W : World, (Instr.slice 9 (.string s) (some (.int .i64 (k : Int))) (some (.int .i64 ((k : Int) + 1))) none).run Try.prog W = .ok (.string (s.extract k (k + 1))) W := fun W => by
  rw [run_slice_string_if W 9 s .i64 .i64 (k : Int) ((k : Int) + 1) Try.underlying9, if_pos ⟨by omega, by omega⟩, if_pos ⟨by omega, by omega⟩]; rfl
set_option maxHeartbeats 1000000 in
theorem inF_any (g : Nat) (s : ByteArray) (z : Int) (w : World) (hs : s.size ≤ 9223372036854775807) (h : w.heap[g]? = some (.cells #[.string s] 9 (0, 0))) :
    Calls Try.prog 57 #[.int .i64 z, .pointer (some ⟨g, 0, none⟩)] w fun e w' => e = .returned (.bool (hasI s z)) ∧ w = w' := by
  have c1 := fun i => blk_cell h i
  have l1 := blk_lt h
  clear h
  by_cases h0 : 0 ≤ z
  · have d0 : decide (0 ≤ z) = true := decide_eq_true h0
    obtain ⟨k, rfl⟩ := Int.eq_ofNat_of_zero_le h0
    rw [hasI_nat]
    by_cases h1 : k < s.size
    · have i3 : (k : Int) < (s.size : Int) := by omega
      have d1 : decide ((k : Int) < (s.size : Int)) = true := decide_eq_true i3
      have HD := hidden (one_byte s k h1)
      have hcut := cut_one s k h1
      generalize s.extract k (k + 1) = x at *
      generalize sentB s k = R at *
      go_enter Try.func57, Try.ntmps57
      go_wp2
      go_ret
      exact ⟨ret_b HD.out, rfl⟩
    · have i3 : ¬ (k : Int) < (s.size : Int) := by omega
      have d1 : decide ((k : Int) < (s.size : Int)) = false := decide_eq_false i3
      rw [sentB_out h1]
      go_enter Try.func57, Try.ntmps57
      go_wp2
      go_ret
      exact ⟨rfl, rfl⟩
  · have d0 : decide (0 ≤ z) = false := decide_eq_false h0
    rw [hasI_neg h0]
    go_enter Try.func57, Try.ntmps57
    go_wp2
    go_ret
    exact ⟨rfl, rfl⟩
theorem in_any (s : ByteArray) (w : World) (hs : s.size ≤ 9223372036854775807) :
    Calls Try.prog 37 #[.string s] w fun e w' => ∃ v, e = .returned v ∧ Asks w'.heap.size w' v (hasI s) ∧ Below w.heap.size w w' := by
  have HK := hidden (blk_nw w #[.string s] 9)
  have HB := hidden (ballc w (.cells #[.string s] 9))
  go_enter Try.func37, Try.ntmps37
  go_wp2
  go_ret
  refine ⟨_, rfl, ⟨57, #[.pointer (some ⟨w.heap.size, 0, none⟩)], rfl, enters_in, fun z V hV => ?_⟩, HB.out⟩
  exact inF_any w.heap.size s z V hs (blk_later HK.out hV)
end Go.Proofs.Ytgclabboafdheaa

/- The calls places and Nodes of package roster return what plain functions give, and make at most new memory; conditions: lengths fit int and are at most a million. -/
namespace Go.Proofs.Ytgclabboafdheaa
open Go.ChangeShapes Go.WideShapes Go.ChangeAt Go.RowKit Go.Shelf
set_option linter.unusedVariables false
attribute [local go_sem] cell_rg

set_option maxRecDepth 100000 in
set_option maxHeartbeats 2000000 in
theorem places_any (n : Nat) (hn : n ≤ 1000000) (v : Value) (f : Int → Bool) (g : Nat → Bool) (hfg : ∀ k : Nat, f (k : Int) = g k) (w : World) (hA : Asks w.heap.size w v f) :
    Calls Try.prog 38 #[.int .i64 (n : Int), v] w fun e w' => ∃ r, e = .returned r ∧ w'.ownsRow w.heap.size 3 1 r (plcL g n).length (kInt.flat (plcL g n)) ∧ Below w.heap.size w w' := by
  obtain ⟨F, lb, rfl, eF, hc⟩ := hA
  have HC := hidden (fun (k : Nat) V h => by have z := hc (k : Int) V h; rwa [hfg k] at z)
  obtain ⟨i0, hi, hz0, hz1, hz2⟩ := info_of infoInt
  have HR : Hid (plcL g n = plcL g n) := rfl
  clear hc hfg
  unfold Enters at eF
  go_enter Try.func38, Try.ntmps38
  go_wp2
  go_loopw [5, 8] (fun a i wr => ∃ k : Nat, k ≤ n ∧ i = .int .i64 k ∧ wr.ownsRow w.heap.size 3 1 a (plcL g k).length (kInt.flat (plcL g k)) ∧ Below w.heap.size w wr) (fun _ i _ => n - (intV i).toNat)
  case atStart => exact ⟨0, Nat.zero_le _, rfl, (World.ownsRow_nil _ _ _ _ : w.ownsRow w.heap.size 3 1 (.slice none 0 0) 0 []), Below.refl _ _⟩
  case round =>
    obtain ⟨k, hk, rfl, hown, hB⟩ := hrel
    have HB := hidden hB
    have HO := hidden hown
    clear hown
    by_cases hlt : k < n
    · have i1 : (0 : Int) ≤ (k : Int) := by omega
      have i2 : (k : Int) < (n : Int) := by omega
      have hcall := HC.out k wr hB
      clear hB
      have HY := hidden (fun h => plcL_yes (f := g) (k := k) h)
      have HN := hidden (fun h => plcL_no (f := g) (k := k) h)
      have hlen := plcL_len g k
      generalize hXd : plcL g k = X at *
      have HXd := hidden hXd
      clear hXd
      cases hgk : g k with
      | true =>
        rw [hgk] at hcall
        have HX := hidden (HY.out hgk)
        clear HY HN hgk
        go_wp2_with (first | (go_at_fn F; refine hcall.mono ?_; rintro e w2 ⟨rfl, rfl⟩) | (at_builtin; refine kInt.wpList_append _ rfl (.tmp 14) (.tmp 16) 22 rfl w.heap.size 3 i0 (.int .i64 0) 8 Try.underlying22 hi hz0 hz1 hz2 rfl u5 X.length _ rfl (HO.out.alloc _) (.slice (some ⟨wr.heap.size, 0, none⟩) 1 1) [(k : Int)] rfl (Kind.Lies.of_block (K := kInt) (es := [(k : Int)]) (heap_alloc_new wr _) (by simp [maxLen])) (by simp only [maxLen, List.length_singleton]; omega) (by simp only [List.length_singleton]; omega) (by have := HB.out.size; simp; omega) ?_; intro v3 w3 hown3 hgrow3 _))
        have hB3 : Below w.heap.size w w3 := (HB.out.alloc HB.out.size _).grown hgrow3 (by have := HB.out.size; simp; omega) (own_from HO.out)
        have hrow : w3.ownsRow w.heap.size 3 1 v3 (X ++ [(k : Int)]).length (kInt.flat (X ++ [(k : Int)])) := by
          rw [Kind.flat_append, List.length_append]
          exact hown3
        go_roundw
        case rel => exact ⟨k + 1, by omega, by go_num, by rw [HX.out]; exact hrow, hB3⟩
        case measure => simp [intV]; omega
      | false =>
        rw [hgk] at hcall
        have HX := hidden (HN.out hgk)
        clear HY HN hgk
        go_wp2_with (go_at_fn F; refine hcall.mono ?_; rintro e w2 ⟨rfl, rfl⟩)
        go_roundw
        case rel => exact ⟨k + 1, by omega, by go_num, by rw [HX.out]; exact HO.out, HB.out⟩
        case measure => simp [intV]; omega
    · obtain rfl : k = n := by omega
      have i2 : ¬ (k : Int) < (k : Int) := by omega
      go_wp2
      go_ret
      exact ⟨_, rfl, HO.out, HB.out⟩
end Go.Proofs.Ytgclabboafdheaa

/- Texts as lists of numbers: what a row of bytes is as a text; no conditions. -/
namespace Go.Proofs.Ytgclabboafdheaa
open Go.ChangeShapes Go.WideShapes Go.ChangeAt Go.RowKit
set_option linter.unusedVariables false

def numStr (zs : List Int) : ByteArray := ⟨(zs.map fun z => UInt8.ofNat z.toNat).toArray⟩
def leInts : Int → Nat → List Int
  | _, 0 => []
  | n, k + 1 => n % 256 :: leInts (n / 256) k

theorem cons2 {a b : Int} {l m : List Int} (h : a = b) (g : l = m) : a :: l = b :: m := by rw [h, g]

theorem foldl_push_nums : ∀ (zs : List Int) (r : ByteArray), zs.foldl (fun r n => r.push (UInt8.ofNat n.toNat)) r = ⟨r.data ++ (zs.map fun z => UInt8.ofNat z.toNat).toArray⟩
  | [], r => by simp
  | z :: zs, r => by
    simp only [List.foldl_cons]
    rw [foldl_push_nums zs]
    simp [ByteArray.push]

theorem conv_cells (w : World) (zs : List Int) (cap : Nat) :
    (convert 74 9 (.slice (some ⟨w.heap.size, 0, none⟩) zs.length cap)).run Try.prog (w.alloc (.cells (zs.map (Value.int .u8)).toArray 5)) = .ok (.string (numStr zs)) (w.alloc (.cells (zs.map (Value.int .u8)).toArray 5)) := by
  rw [run_convert_bytes_string _ 74 9 5 _ _ _ Try.underlying74 Try.underlying5 Try.underlying9]
  have hl := run_loadCells_list (P := Try.prog) (w.alloc (.cells (zs.map (Value.int .u8)).toArray 5)) ⟨w.heap.size, 0, none⟩ (zs.map (Value.int .u8)) (fun j v hj => by
    have ha : (Addr.mk w.heap.size 0 none).add j = ⟨w.heap.size, j, none⟩ := by
      by_cases h : j = 0
      · subst h; rfl
      · simp [Addr.add, h]
    rw [ha, World.cell?_alloc_at _ _ _ _ rfl]
    simpa using hj)
  simp only [List.length_map] at hl
  rw [run_bytesToString _ _ zs.length cap _ hl, foldl_push_nums]
  have he0 : ByteArray.empty.data = #[] := rfl
  rw [he0]
  simp [numStr]

end Go.Proofs.Ytgclabboafdheaa

/- Plain words on rows of bytes that a call has made: their cells, one byte set, the text that they are; no conditions. -/
namespace Go.Proofs.Ytgclabboafdheaa
open Go.ChangeShapes Go.WideShapes Go.ChangeAt Go.RowKit
set_option linter.unusedVariables false

/-- The cells of a row of bytes. -/
def bvals (l : List UInt8) : Array Value := (l.map fun x => Value.int .u8 (x.toNat : Int)).toArray
theorem bvals_size (l : List UInt8) : (bvals l).size = l.length := by simp [bvals]
theorem bvals_at (l : List UInt8) (i : Nat) (h : i < l.length) : (bvals l)[i]? = some (.int .u8 (l[i].toNat : Int)) := by simp [bvals, h]
theorem bvals_set (l : List UInt8) (i : Nat) (x : Nat) (hx : x < 256) : (bvals l).setIfInBounds i (.int .u8 (x : Int)) = bvals (l.set i (UInt8.ofNat x)) := by
  apply Array.ext'
  simp only [bvals, Array.toList_setIfInBounds, List.map_set]
  rw [UInt8.toNat_ofNat_of_lt' hx]
theorem bvals_made (n : Nat) : madeCells #[Value.int .u8 0] n = bvals (List.replicate n 0) := by
  have h := toList_madeCells_one (Value.int .u8 0) n
  apply Array.ext'
  rw [h]
  simp [bvals]
theorem infoByte : (Try.prog.info? 5).map (fun i => (i.zero, i.size, i.bytes)) = some (some (.int .u8 0), 1, 1) := by kernel_rfl
/-- make of so many bytes. -/
theorem make_bytes (n : Nat) (hn : n ≤ 100000) (w : World) : (Instr.makeSlice 74 (.int .i64 (n : Int)) (.int .i64 (n : Int))).run Try.prog w = .ok (.slice (some ⟨w.heap.size, 0, none⟩) n n) (w.alloc (.cells (bvals (List.replicate n 0)) 5)) := by
  rw [← bvals_made]
  exact run_make_row' 74 5 (.int .u8 0) 1 Try.underlying74 infoByte rfl .i64 .i64 n (by omega) (by omega) w
theorem conv_blk {W : World} {g : Nat} {l : List UInt8} {t : TypeId} (h : W.heap[g]? = some (.cells (bvals l) t (0, 0))) :
    (convert 74 9 (.slice (some ⟨g, 0, none⟩) l.length l.length)).run Try.prog W = .ok (.string (ba l)) W := by
  refine run_convert_bytes_back W 74 9 5 _ _ l Try.underlying74 Try.underlying5 Try.underlying9 ?_
  intro j hj
  rw [add_plain, Nat.zero_add, blk_cell h j, bvals_at l j hj]
theorem bset {W : World} {g k : Nat} {l : List UInt8} {t : TypeId} (h : W.heap[g]? = some (.cells (bvals l) t (0, 0))) (x : Nat) (hx : x < 256) (v : Int) (hv : v = (x : Int)) : (W.setCell ⟨g, k, none⟩ (.int .u8 v)).heap[g]? = some (.cells (bvals (l.set k (UInt8.ofNat x))) t (0, 0)) := by
  subst hv
  rw [← bvals_set _ _ _ hx]
  exact heap_setCell_same _ _ _ _ _ _ h
theorem numStr_one (n : Int) : numStr [n] = ba [UInt8.ofNat n.toNat] := rfl
end Go.Proofs.Ytgclabboafdheaa

/- The call Mark of package gate returns what a plain function gives, and makes at most new memory; conditions: the row lies where it says, lengths fit int. -/
namespace Go.Proofs.Ytgclabboafdheaa
open Go.ChangeShapes Go.WideShapes Go.ChangeAt Go.RowKit
set_option linter.unusedVariables false
attribute [local go_sem] cell_rg

set_option maxRecDepth 100000 in
set_option maxHeartbeats 4000000 in
theorem Mark_any (s : ByteArray) (n : Int) (a2 : Option Addr) (c2 : Nat) (vs : List Int) (w : World) (hs : s.size ≤ 9223372036854775807) (hlv : vs.length ≤ 9223372036854775807) (hV : kInt.Lies w.heap.size w (.slice a2 vs.length c2) vs) :
    Calls Try.prog 35 #[.string s, .int .i64 n, .slice a2 vs.length c2] w fun e w' => e = .returned (.string (markB s n vs)) ∧ Below w.heap.size w w' := by
  have HC := hidden (clamp_any n 0 64 w)
  rw [mkN_int] at HC
  have HR : Hid (markB s n vs = ba (markL s (mkN n) vs)) := rfl
  have hN := mkN_le n
  generalize markB s n vs = R at *
  generalize mkN n = N at *
  have hmb := make_bytes N (by omega) w
  have HX0 : Hid ((w.alloc (.cells (bvals (List.replicate N 0)) 5)).heap[w.heap.size]? = some (.cells (bvals (fillL 0 N (markU s []) 0)) 5 (0, 0))) := by
    show _ = _
    rw [fillL_0]
    exact blk_nw w _ _
  have HB3 := hidden (ballc w (.cells (bvals (List.replicate N 0)) 5))
  have HV := hidden hV
  clear hV
  go_enter Try.func35, Try.ntmps35
  go_wp2_with fail
  refine HC.out.mono ?_
  rintro e w2 ⟨rfl, rfl⟩
  go_wp2
  clear hmb
  generalize hw3 : w.alloc (.cells (bvals (List.replicate N 0)) 5) = w3 at *
  have hge : w.heap.size ≤ w.heap.size := Nat.le_refl _
  clear hw3
  go_loopw [16] (fun i wr => ∃ k : Nat, k ≤ N ∧ i = .int .i64 k ∧ wr.heap[w.heap.size]? = some (.cells (bvals (fillL 0 N (markU s []) k)) 5 (0, 0)) ∧ Below w.heap.size w wr) (fun i _ => N - (intV i).toNat)
  case atStart => exact ⟨0, Nat.zero_le _, rfl, HX0.out, HB3.out⟩
  case round =>
    obtain ⟨k, hk, rfl, hX, hB⟩ := hrel
    by_cases hlt : k < N
    · have i1 : (0 : Int) ≤ (k : Int) := by omega
      have i2 : (k : Int) < (N : Int) := by omega
      have HS := hidden (fillL_set (0 : UInt8) N (markU s []) k hlt)
      have c0 := blk_cell hX k
      rw [bvals_at _ k (by rw [fillL_len]; exact hlt)] at c0
      have f0 := blk_frozen hX k
      have l0 := blk_lt hX
      have HB4 := hidden (hB.setCell (p := ⟨w.heap.size, k, none⟩) hge (.int .u8 48))
      have HX4 := hidden (bset (k := k) hX 48 (by decide) 48 rfl)
      clear hX hB
      by_cases hlk : k < s.size
      · have i3 : (k : Int) < (s.size : Int) := by omega
        have i4 : decide ((k : Int) < (s.size : Int)) = true := decide_eq_true i3
        have i5 : decide (k < s.size) = true := decide_eq_true hlk
        by_cases h49 : ((s[k]'hlk).toNat : Int) = 49
        · have HD := hidden (markU_yes hlk h49)
          have d1 : (((s[k]'hlk).toNat : Int) == 49) = true := beq_iff_eq.2 h49
          have c1 := blk_cell HX4.out k
          rw [bvals_at _ k (by rw [List.length_set, fillL_len]; exact hlt)] at c1
          have f1 := blk_frozen HX4.out k
          have l1 := blk_lt HX4.out
          have HB5 := hidden (HB4.out.setCell (p := ⟨w.heap.size, k, none⟩) hge (.int .u8 49))
          have HX5 := hidden (bset (k := k) HX4.out 49 (by decide) 49 rfl)
          rw [List.set_set, ← HD.out, HS.out] at HX5
          go_wp2
          go_roundw
          case rel => exact ⟨k + 1, by omega, by go_num, HX5.out, HB5.out⟩
          case measure => simp [intV]; omega
        · have HD := hidden (markU_no hlk h49)
          have d1 : (((s[k]'hlk).toNat : Int) == 49) = false := beq_eq_false_iff_ne.2 h49
          rw [← HD.out, HS.out] at HX4
          go_wp2
          go_roundw
          case rel => exact ⟨k + 1, by omega, by go_num, HX4.out, HB4.out⟩
          case measure => simp [intV]; omega
      · have i3 : ¬ (k : Int) < (s.size : Int) := by omega
        have i4 : decide ((k : Int) < (s.size : Int)) = false := decide_eq_false i3
        have i5 : decide (k < s.size) = false := decide_eq_false hlk
        have HD := hidden (markU_out hlk)
        rw [← HD.out, HS.out] at HX4
        go_wp2
        go_roundw
        case rel => exact ⟨k + 1, by omega, by go_num, HX4.out, HB4.out⟩
        case measure => simp [intV]; omega
    · obtain rfl : k = N := by omega
      have i2 : ¬ (k : Int) < (k : Int) := by omega
      rw [← markL_none] at hX
      have HX := hidden hX
      have HB := hidden hB
      clear hX hB HX0 HB3
      go_wp2
      go_loopw [38] (fun i wr => ∃ j : Nat, j ≤ vs.length ∧ i = .int .i64 j ∧ wr.heap[w.heap.size]? = some (.cells (bvals (markL s k (vs.take j))) 5 (0, 0)) ∧ Below w.heap.size w wr) (fun i _ => vs.length - (intV i).toNat)
      case atStart => exact ⟨0, Nat.zero_le _, rfl, HX.out, HB.out⟩
      case round =>
        clear HX HB
        obtain ⟨j, hj, rfl, hX, hB⟩ := hrel
        by_cases hlt : j < vs.length
        · obtain ⟨b, off, rfl, hbl, e0⟩ := kInt_at (HV.out.below hB) j hlt
          have HS := hidden (take_snocV vs hlt)
          have i1 : (0 : Int) ≤ (j : Int) := by omega
          have i2 : (j : Int) < (vs.length : Int) := by omega
          generalize vs[j] = z at *
          by_cases h0 : 0 ≤ z
          · have j0 : decide (0 ≤ z) = true := decide_eq_true h0
            by_cases h1 : z < (k : Int)
            · have j1 : decide (z < (k : Int)) = true := decide_eq_true h1
              obtain ⟨q, rfl⟩ := Int.eq_ofNat_of_zero_le h0
              have HS2 := hidden (markL_in s k (vs.take j) q)
              have c0 := blk_cell hX q
              rw [bvals_at _ q (by rw [markL_len]; omega)] at c0
              have f0 := blk_frozen hX q
              have l0 := blk_lt hX
              have HB4 := hidden (hB.setCell (p := ⟨w.heap.size, q, none⟩) hge (.int .u8 49))
              have HX4 := hidden (bset (k := q) hX 49 (by decide) 49 rfl)
              rw [HS2.out, ← HS.out] at HX4
              clear hX hB
              go_wp2
              go_roundw
              case rel => exact ⟨j + 1, by omega, by go_num, HX4.out, HB4.out⟩
              case measure => simp [intV]; omega
            · have j1 : decide (z < (k : Int)) = false := decide_eq_false h1
              have HX4 := hidden hX
              rw [← markL_out s k (vs.take j) z (by omega), ← HS.out] at HX4
              have HB4 := hidden hB
              clear hX hB
              go_wp2
              go_roundw
              case rel => exact ⟨j + 1, by omega, by go_num, HX4.out, HB4.out⟩
              case measure => simp [intV]; omega
          · have j0 : decide (0 ≤ z) = false := decide_eq_false h0
            have HX4 := hidden hX
            rw [← markL_out s k (vs.take j) z (by omega), ← HS.out] at HX4
            have HB4 := hidden hB
            clear hX hB
            go_wp2
            go_roundw
            case rel => exact ⟨j + 1, by omega, by go_num, HX4.out, HB4.out⟩
            case measure => simp [intV]; omega
        · obtain rfl : j = vs.length := by omega
          have i2 : ¬ (vs.length : Int) < (vs.length : Int) := by omega
          rw [List.take_length] at hX
          have hcv := conv_blk hX
          rw [markL_len] at hcv
          have HB := hidden hB
          clear hX hB
          rw [← HR.out] at hcv
          go_wp2
          go_ret
          exact ⟨rfl, HB.out⟩
end Go.Proofs.Ytgclabboafdheaa

/- The calls Has, Count, Nodes, Blank, Mark, Lacks and Both of package roster return what plain functions give, and make at most new memory; conditions: rows lie where they say, lengths fit int and are at most a million. -/
namespace Go.Proofs.Ytgclabboafdheaa
open Go.ChangeShapes Go.WideShapes Go.ChangeAt Go.RowKit Go.Shelf
set_option linter.unusedVariables false
attribute [local go_sem] cell_rg

theorem Has_any (s : ByteArray) (z : Int) (w : World) (hs : s.size ≤ 9223372036854775807) :
    Calls Try.prog 16 #[.string s, .int .i64 z] w fun e w' => e = .returned (.bool (hasI s z)) ∧ Below w.heap.size w w' := by
  have CI := hidden (fun V => in_any s V hs)
  go_enter Try.func16, Try.ntmps16
  go_wp2_with fail
  refine (CI.out _).mono ?_
  rintro e w1 ⟨v, rfl, ⟨F, lb, rfl, eF, hc⟩, hb⟩
  have HB := hidden hb
  have hcall := hc z w1 (Below.refl _ _)
  unfold Enters at eF
  clear hb hc
  go_wp2_with (go_at_fn F; refine hcall.mono ?_; rintro e w2 ⟨rfl, rfl⟩)
  go_ret
  exact ⟨rfl, HB.out⟩
theorem cntB_one (s : ByteArray) : Lib.countByte s.data.toList 49 = (nodL s).length := by
  rw [nodL_cnt]
  exact List.countP_eq_length_filter
theorem SCount_any (s : ByteArray) (w : World) :
    Calls Try.prog 43 #[.string s, .string ⟨#[49]⟩] w fun e w' => e = .returned (.int .i64 ((nodL s).length : Int)) ∧ w = w' := by
  have HC := hidden (cntB_one s)
  go_enter Try.func43, Try.ntmps43
  go_wp2
  rw [run_callFunc_extern Try.func59 (by kernel_rfl) (by kernel_rfl) (by kernel_rfl) (e := Extern.BytealgCount.count) (by kernel_rfl), Lib.run_countString]
  simp only [Result.andThen]
  rw [Oper.upon_value]
  go_wp2
  go_ret
  exact ⟨ret_i (congrArg (fun (k : Nat) => (k : Int)) HC.out), rfl⟩
theorem Count_any (s : ByteArray) (w : World) :
    Calls Try.prog 18 #[.string s] w fun e w' => e = .returned (.int .i64 ((nodL s).length : Int)) ∧ w = w' := by
  have CS := hidden (fun V => SCount_any s V)
  generalize (nodL s).length = R at *
  go_enter Try.func18, Try.ntmps18
  go_wp2_with fail
  refine (CS.out _).mono ?_
  rintro e w1 ⟨rfl, rfl⟩
  go_wp2
  go_ret
  exact ⟨rfl, rfl⟩
theorem Nodes_any (s : ByteArray) (hs : s.size ≤ 1000000) (w : World) :
    Calls Try.prog 21 #[.string s] w fun e w' => ∃ r, e = .returned r ∧ w'.ownsRow w.heap.size 3 1 r (nodL s).length (kInt.flat (nodL s)) ∧ Below w.heap.size w w' := by
  have CI := hidden (fun V => in_any s V (by omega))
  have CP := hidden (fun v V h => places_any s.size hs v (hasI s) (sentB s) (fun k => hasI_nat s k) V h)
  have HR : Hid (nodL s = plcL (sentB s) s.size) := rfl
  rw [← HR.out] at CP
  generalize nodL s = R at *
  go_enter Try.func21, Try.ntmps21
  go_wp2_with fail
  refine (CI.out _).mono ?_
  rintro e w1 ⟨v, rfl, hA, hb⟩
  have HB := hidden hb
  have hcall := CP.out v w1 hA
  clear hb hA
  go_wp2_with fail
  refine hcall.mono ?_
  rintro e w2 ⟨r, rfl, ho, hb2⟩
  have HO := hidden (own_low ho HB.out.size)
  have HB2 := hidden (bthen HB.out hb2)
  clear ho hb2
  go_wp2
  go_ret
  exact ⟨_, rfl, HO.out, HB2.out⟩
theorem RBlank_any (n f d p r dr o sl md fr : Int) (ad : Option Addr) (cap : Nat) (zs : List Int) (w : World) :
    Calls Try.prog 10 #[.agg #[.int .i64 n, .int .i64 f, .int .i64 d, .int .i64 p, .int .i64 r, .int .i64 dr, .int .i64 o, .int .i64 sl, .int .i64 md, .int .i64 fr, .slice ad zs.length cap]] w fun e w' => e = .returned (.string (markB ⟨#[]⟩ n [])) ∧ Below w.heap.size w w' := by
  have HB := hidden (ballc w (.cells #[.int .i64 n, .int .i64 f, .int .i64 d, .int .i64 p, .int .i64 r, .int .i64 dr, .int .i64 o, .int .i64 sl, .int .i64 md, .int .i64 fr, .slice ad zs.length cap] 24))
  have CM := hidden (fun V => Mark_any ⟨#[]⟩ n none 0 [] V (by decide) (by decide) (Kind.Lies.nil _ _))
  generalize markB ⟨#[]⟩ n [] = R at *
  go_enter Try.func10, Try.ntmps10
  go_wp2_with fail
  refine (CM.out _).mono ?_
  rintro e w1 ⟨rfl, hb⟩
  have HB2 := hidden (bthen HB.out hb)
  clear hb
  go_wp2
  go_ret
  exact ⟨rfl, HB2.out⟩
theorem RMark_any (n f d p r dr o sl md fr : Int) (ad : Option Addr) (cap : Nat) (zs : List Int) (s : ByteArray) (a2 : Option Addr) (c2 : Nat) (vs : List Int) (w : World) (hs : s.size ≤ 9223372036854775807) (hlv : vs.length ≤ 9223372036854775807) (hV : kInt.Lies w.heap.size w (.slice a2 vs.length c2) vs) :
    Calls Try.prog 12 #[.agg #[.int .i64 n, .int .i64 f, .int .i64 d, .int .i64 p, .int .i64 r, .int .i64 dr, .int .i64 o, .int .i64 sl, .int .i64 md, .int .i64 fr, .slice ad zs.length cap], .string s, .slice a2 vs.length c2] w fun e w' => e = .returned (.string (markB s n vs)) ∧ Below w.heap.size w w' := by
  have HB := hidden (ballc w (.cells #[.int .i64 n, .int .i64 f, .int .i64 d, .int .i64 p, .int .i64 r, .int .i64 dr, .int .i64 o, .int .i64 sl, .int .i64 md, .int .i64 fr, .slice ad zs.length cap] 24))
  have CM := hidden (Mark_any s n a2 c2 vs (w.alloc (.cells #[.int .i64 n, .int .i64 f, .int .i64 d, .int .i64 p, .int .i64 r, .int .i64 dr, .int .i64 o, .int .i64 sl, .int .i64 md, .int .i64 fr, .slice ad zs.length cap] 24)) hs hlv (hV.later (ballc w _)))
  generalize markB s n vs = R at *
  clear hV
  go_enter Try.func12, Try.ntmps12
  go_wp2_with fail
  refine CM.out.mono ?_
  rintro e w1 ⟨rfl, hb⟩
  have HB2 := hidden (bthen HB.out hb)
  clear hb
  go_wp2
  go_ret
  exact ⟨rfl, HB2.out⟩
theorem width_any (n f d p r dr o sl md fr : Int) (ad : Option Addr) (cap : Nat) (zs : List Int) (w : World) :
    Calls Try.prog 39 #[.agg #[.int .i64 n, .int .i64 f, .int .i64 d, .int .i64 p, .int .i64 r, .int .i64 dr, .int .i64 o, .int .i64 sl, .int .i64 md, .int .i64 fr, .slice ad zs.length cap]] w fun e w' => e = .returned (.int .i64 (mkN n : Int)) ∧ Below w.heap.size w w' := by
  have HB := hidden (ballc w (.cells #[.int .i64 n, .int .i64 f, .int .i64 d, .int .i64 p, .int .i64 r, .int .i64 dr, .int .i64 o, .int .i64 sl, .int .i64 md, .int .i64 fr, .slice ad zs.length cap] 24))
  have CM := hidden (fun V => RBlank_any n f d p r dr o sl md fr ad cap zs V)
  have HS := hidden (markB_size ⟨#[]⟩ n [])
  generalize markB ⟨#[]⟩ n [] = R at *
  go_enter Try.func39, Try.ntmps39
  go_wp2_with fail
  refine (CM.out _).mono ?_
  rintro e w1 ⟨rfl, hb⟩
  have HB2 := hidden (bthen HB.out hb)
  clear hb
  go_wp2
  go_ret
  exact ⟨ret_i (by rw [HS.out]), HB2.out⟩
theorem enters_lacks : Enters Try.prog 44 := enters_of Try.func44 (by kernel_rfl) rfl
theorem lackF_any (g F : Nat) (lb : Array Value) (f : Int → Bool) (z : Int) (w : World) (eF : Enters Try.prog F) (hc : Calls Try.prog F (#[.int .i64 z] ++ lb) w fun e w' => e = .returned (.bool (f z)) ∧ w = w') (h : w.heap[g]? = some (.cells #[.func (.func F) #[] lb] 52 (0, 0))) :
    Calls Try.prog 44 #[.int .i64 z, .pointer (some ⟨g, 0, none⟩)] w fun e w' => e = .returned (.bool (!f z)) ∧ w = w' := by
  have c1 := fun i => blk_cell h i
  have l1 := blk_lt h
  have HC := hidden hc
  clear h hc
  generalize f z = R at *
  unfold Enters at eF
  go_enter Try.func44, Try.ntmps44
  go_wp2_with (go_at_fn F; refine HC.out.mono ?_; rintro e w2 ⟨rfl, rfl⟩)
  go_ret
  exact ⟨rfl, rfl⟩
theorem lack_asks {g : Nat} {v : Value} {f : Int → Bool} {W : World} (h : W.heap[g]? = some (.cells #[v] 52 (0, 0))) (hA : Asks W.heap.size W v f) : Asks W.heap.size W (.func (.func 44) #[] #[.pointer (some ⟨g, 0, none⟩)]) (fun z => !f z) := by
  obtain ⟨F, lb, rfl, eF, hc⟩ := hA
  exact ⟨_, _, rfl, enters_lacks, fun z V hV => lackF_any g F lb f z V eF (hc z V hV) (blk_later h hV)⟩
theorem enters_both : Enters Try.prog 40 := enters_of Try.func40 (by kernel_rfl) rfl
theorem bothF_any (g1 g2 F1 F2 : Nat) (lb1 lb2 : Array Value) (f1 f2 : Int → Bool) (z : Int) (w : World) (e1 : Enters Try.prog F1) (e2 : Enters Try.prog F2) (hc1 : Calls Try.prog F1 (#[.int .i64 z] ++ lb1) w fun e w' => e = .returned (.bool (f1 z)) ∧ w = w') (hc2 : Calls Try.prog F2 (#[.int .i64 z] ++ lb2) w fun e w' => e = .returned (.bool (f2 z)) ∧ w = w')
    (h1 : w.heap[g1]? = some (.cells #[.func (.func F1) #[] lb1] 52 (0, 0))) (h2 : w.heap[g2]? = some (.cells #[.func (.func F2) #[] lb2] 52 (0, 0))) :
    Calls Try.prog 40 #[.int .i64 z, .pointer (some ⟨g1, 0, none⟩), .pointer (some ⟨g2, 0, none⟩)] w fun e w' => e = .returned (.bool (f1 z && f2 z)) ∧ w = w' := by
  have c1 := fun i => blk_cell h1 i
  have l1 := blk_lt h1
  have c2 := fun i => blk_cell h2 i
  have l2 := blk_lt h2
  have HC1 := hidden hc1
  have HC2 := hidden hc2
  clear h1 h2 hc1 hc2
  unfold Enters at e1 e2
  generalize f2 z = R2 at *
  generalize f1 z = R1 at *
  go_enter Try.func40, Try.ntmps40
  go_wp2_with fail
  refine HC1.out.mono ?_
  rintro e w2 ⟨rfl, rfl⟩
  cases R1 with
  | true =>
    go_wp2_with fail
    refine HC2.out.mono ?_
    rintro e w2 ⟨rfl, rfl⟩
    go_wp2
    go_ret
    exact ⟨rfl, rfl⟩
  | false =>
    go_wp2
    go_ret
    exact ⟨rfl, rfl⟩
theorem both_asks {g1 g2 : Nat} {v1 v2 : Value} {f1 f2 : Int → Bool} {W : World} (h1 : W.heap[g1]? = some (.cells #[v1] 52 (0, 0))) (h2 : W.heap[g2]? = some (.cells #[v2] 52 (0, 0))) (hA1 : Asks W.heap.size W v1 f1) (hA2 : Asks W.heap.size W v2 f2) :
    Asks W.heap.size W (.func (.func 40) #[] #[.pointer (some ⟨g1, 0, none⟩), .pointer (some ⟨g2, 0, none⟩)]) (fun z => f1 z && f2 z) := by
  obtain ⟨F1, lb1, rfl, e1, hc1⟩ := hA1
  obtain ⟨F2, lb2, rfl, e2, hc2⟩ := hA2
  exact ⟨_, _, rfl, enters_both, fun z V hV => bothF_any g1 g2 F1 F2 lb1 lb2 f1 f2 z V e1 e2 (hc1 z V hV) (hc2 z V hV) (blk_later h1 hV) (blk_later h2 hV)⟩
theorem st_func {P : Program} (w : World) (a : Addr) (m : Mode) (fn : Fn) (first captured : Array Value) : (store a (.func fn first captured) m).run P w = stored P w a (.func fn first captured) m := run_store P w a _ m rfl
attribute [local go_sem] st_func
set_option maxHeartbeats 1000000 in
theorem Lacks_any (n f d p r dr o sl md fr : Int) (ad : Option Addr) (cap : Nat) (zs : List Int) (s : ByteArray) (w : World) (hs : s.size ≤ 9223372036854775807) :
    Calls Try.prog 23 #[.agg #[.int .i64 n, .int .i64 f, .int .i64 d, .int .i64 p, .int .i64 r, .int .i64 dr, .int .i64 o, .int .i64 sl, .int .i64 md, .int .i64 fr, .slice ad zs.length cap], .string s] w fun e w' => ∃ r, e = .returned r ∧ w'.ownsRow w.heap.size 3 1 r (lackL n s).length (kInt.flat (lackL n s)) ∧ Below w.heap.size w w' := by
  have HB0 := hidden (ballc w (.cells #[.int .i64 n, .int .i64 f, .int .i64 d, .int .i64 p, .int .i64 r, .int .i64 dr, .int .i64 o, .int .i64 sl, .int .i64 md, .int .i64 fr, .slice ad zs.length cap] 24))
  have HK0 := hidden (blk_nw w #[.int .i64 n, .int .i64 f, .int .i64 d, .int .i64 p, .int .i64 r, .int .i64 dr, .int .i64 o, .int .i64 sl, .int .i64 md, .int .i64 fr, .slice ad zs.length cap] 24)
  have CI := hidden (fun V => in_any s V hs)
  have CW := hidden (fun V => width_any n f d p r dr o sl md fr ad cap zs V)
  have CP := hidden (fun v V h => places_any (mkN n) (by have := mkN_le n; omega) v (fun z => !hasI s z) (fun k => !sentB s k) (fun k => by rw [hasI_nat]) V h)
  have HR : Hid (lackL n s = plcL (fun k => !sentB s k) (mkN n)) := rfl
  rw [← HR.out] at CP
  generalize lackL n s = R at *
  generalize mkN n = M at *
  go_enter Try.func23, Try.ntmps23
  go_wp2_with fail
  refine (CI.out _).mono ?_
  rintro e w1 ⟨v, rfl, hA, hb⟩
  obtain ⟨F1, lb1, hv1, eF1, hc1⟩ := id hA
  clear eF1 hc1
  subst hv1
  have hb1 := bthen hb (ballc w1 (.cells #[.func (.func F1) #[] lb1] 52))
  have HAs := hidden (lack_asks (blk_nw w1 #[.func (.func F1) #[] lb1] 52) (hA.later (ballc w1 (.cells #[.func (.func F1) #[] lb1] 52))))
  have k0 := blk_later HK0.out hb1
  have b0 := blk_cell k0
  have l0 := blk_lt k0
  have HB1 := hidden (bthen HB0.out hb1)
  clear hb hA hb1 k0
  go_wp2_with fail
  refine (CW.out _).mono ?_
  rintro e w2 ⟨rfl, hb2⟩
  have hcall := CP.out _ w2 (HAs.out.later hb2)
  have HB2 := hidden (bthen HB1.out hb2)
  clear b0 l0 hb2
  go_wp2_with fail
  refine hcall.mono ?_
  rintro e w3 ⟨r, rfl, ho, hb3⟩
  have HO := hidden (own_low ho HB2.out.size)
  have HB3 := hidden (bthen HB2.out hb3)
  clear ho hb3
  go_wp2
  go_ret
  exact ⟨_, rfl, HO.out, HB3.out⟩
set_option maxHeartbeats 1000000 in
theorem Both_any (n f d p r dr o sl md fr : Int) (ad : Option Addr) (cap : Nat) (zs : List Int) (s t : ByteArray) (w : World) (hs : s.size ≤ 9223372036854775807) (ht : t.size ≤ 9223372036854775807) :
    Calls Try.prog 14 #[.agg #[.int .i64 n, .int .i64 f, .int .i64 d, .int .i64 p, .int .i64 r, .int .i64 dr, .int .i64 o, .int .i64 sl, .int .i64 md, .int .i64 fr, .slice ad zs.length cap], .string s, .string t] w fun e w' => e = .returned (.string (bothB n s t)) ∧ Below w.heap.size w w' := by
  have HB0 := hidden (ballc w (.cells #[.int .i64 n, .int .i64 f, .int .i64 d, .int .i64 p, .int .i64 r, .int .i64 dr, .int .i64 o, .int .i64 sl, .int .i64 md, .int .i64 fr, .slice ad zs.length cap] 24))
  have HK0 := hidden (blk_nw w #[.int .i64 n, .int .i64 f, .int .i64 d, .int .i64 p, .int .i64 r, .int .i64 dr, .int .i64 o, .int .i64 sl, .int .i64 md, .int .i64 fr, .slice ad zs.length cap] 24)
  have CI := hidden (fun V => in_any s V hs)
  have CJ := hidden (fun V => in_any t V ht)
  have CW := hidden (fun V => width_any n f d p r dr o sl md fr ad cap zs V)
  have CP := hidden (fun v V h => places_any (mkN n) (by have := mkN_le n; omega) v (fun z => hasI s z && hasI t z) (fun k => sentB s k && sentB t k) (fun k => by rw [hasI_nat, hasI_nat]) V h)
  have HR : Hid (bothL n s t = plcL (fun k => sentB s k && sentB t k) (mkN n)) := rfl
  have HL : Hid ((bothL n s t).length ≤ 64) := Nat.le_trans (plcL_len _ _) (mkN_le n)
  have CM := hidden (fun V a2 c2 h => RMark_any n f d p r dr o sl md fr ad cap zs ⟨#[]⟩ a2 c2 (bothL n s t) V (by decide) (by have := HL.out; omega) h)
  rw [← HR.out] at CP
  have HQ : Hid (bothB n s t = markB ⟨#[]⟩ n (bothL n s t)) := rfl
  rw [← HQ.out] at CM
  generalize bothB n s t = Q at *
  generalize bothL n s t = R at *
  generalize mkN n = M at *
  go_enter Try.func14, Try.ntmps14
  go_wp2_with fail
  refine (CI.out _).mono ?_
  rintro e w1 ⟨v, rfl, hA, hb⟩
  obtain ⟨F1, lb1, hv1, eF1, hc1⟩ := id hA
  clear eF1 hc1
  subst hv1
  have HA := hidden hA
  have HK1 := hidden (blk_later HK0.out hb)
  have HB1 := hidden (bthen HB0.out hb)
  clear hA hb
  go_wp2_with fail
  refine (CJ.out _).mono ?_
  rintro e w2 ⟨v2, rfl, hA2, hb⟩
  obtain ⟨F2, lb2, hv2, eF2, hc2⟩ := id hA2
  clear eF2 hc2
  subst hv2
  have hb2 := bthen hb (bthen (ballc w2 (.cells #[.func (.func F1) #[] lb1] 52)) (ballc _ (.cells #[.func (.func F2) #[] lb2] 52)))
  have hbA := bthen (ballc w2 (.cells #[.func (.func F1) #[] lb1] 52)) (ballc (w2.alloc (.cells #[.func (.func F1) #[] lb1] 52)) (.cells #[.func (.func F2) #[] lb2] 52))
  have q1 := blk_later (blk_nw w2 #[.func (.func F1) #[] lb1] 52) (ballc (w2.alloc (.cells #[.func (.func F1) #[] lb1] 52)) (.cells #[.func (.func F2) #[] lb2] 52))
  have q2 := blk_newAt (w2.alloc (.cells #[.func (.func F1) #[] lb1] 52)) #[.func (.func F2) #[] lb2] 52 (b := w2.heap.size + 1) (by simp)
  have HAs := hidden (both_asks q1 q2 (HA.out.later hb2) (hA2.later hbA))
  have k0 := blk_later HK1.out hb2
  have b0 := blk_cell k0
  have l0 := blk_lt k0
  have HKa := hidden k0
  have HB2 := hidden (bthen HB1.out hb2)
  clear hb hA2 hb2 hbA k0 q1 q2
  go_wp2_with fail
  refine (CW.out _).mono ?_
  rintro e w3 ⟨rfl, hb3⟩
  have hcall := CP.out _ w3 (HAs.out.later hb3)
  have k0 := blk_later HKa.out hb3
  have HB3 := hidden (bthen HB2.out hb3)
  clear b0 l0 hb3
  go_wp2_with fail
  refine hcall.mono ?_
  rintro e w4 ⟨r, rfl, ho, hb4⟩
  have hL := Kind.Lies.of_own ho
  obtain ⟨ad4, c4, rfl⟩ := own_slice ho
  have hm := CM.out w4 ad4 c4 hL
  have k0 := blk_later k0 hb4
  have b0 := blk_cell k0
  have l0 := blk_lt k0
  have HB4 := hidden (bthen HB3.out hb4)
  clear ho hb4 hL
  go_wp2_with fail
  refine hm.mono ?_
  rintro e w5 ⟨rfl, hb5⟩
  have HB5 := hidden (bthen HB4.out hb5)
  clear hb5 b0 l0
  go_wp2
  go_ret
  exact ⟨rfl, HB5.out⟩
end Go.Proofs.Ytgclabboafdheaa

/- The document's call Ints of layer 6 tells that two rows of the same numbers are the same, and makes at most new memory; conditions: the rows lie where they say, at most a million numbers. -/
namespace Go.Proofs.Ytgclabboafdheaa
open Go.ChangeShapes Go.WideShapes Go.ChangeAt Go.RowKit
set_option linter.unusedVariables false

set_option maxHeartbeats 1000000 in
theorem KInts_any (ad ad' : Option Addr) (len len' cap cap' : Nat) (zs : List Int) (w : World) (hl : zs.length ≤ 1000000) (hE : kInt.Lies w.heap.size w (.slice ad len cap) zs) (hF : kInt.Lies w.heap.size w (.slice ad' len' cap') zs) :
    Calls Try.prog 20 #[.slice ad len cap, .slice ad' len' cap'] w fun e w' => e = .returned (.bool true) ∧ Below w.heap.size w w' := by
  obtain rfl := hE.len
  obtain rfl := hF.len
  go_enter Try.func20, Try.ntmps20
  go_wp2
  go_loopw [5] (fun i wr => ∃ k : Nat, k ≤ zs.length ∧ i = .int .i64 k ∧ Below w.heap.size w wr) (fun i _ => zs.length - (intV i).toNat)
  case atStart => exact ⟨0, Nat.zero_le _, rfl, Below.refl _ _⟩
  case round =>
    obtain ⟨k, hk, rfl, hB⟩ := hrel
    by_cases hlt : k < zs.length
    · obtain ⟨b, off, rfl, hbl, e0⟩ := kInt_at hE k hlt
      obtain ⟨b', off', rfl, hbl', e0'⟩ := kInt_at hF k hlt
      have f0 := (hB.cell (p := ⟨b, off + k, none⟩) hbl).trans e0
      have f0' := (hB.cell (p := ⟨b', off' + k, none⟩) hbl').trans e0'
      clear e0 e0' hE hF
      generalize zs[k] = z at f0 f0'
      have i1 : (0 : Int) ≤ (k : Int) := by omega
      have i2 : (k : Int) < (zs.length : Int) := by omega
      go_wp2
      go_quiet (fail)
      go_wp2
      go_roundw
      case rel => exact ⟨k + 1, by omega, by simp, ⟨hB.os, hB.tape, hB.output, hB.size, hB.block⟩⟩
      case measure => simp [intV]; omega
    · obtain rfl : k = zs.length := by omega
      go_wp2
      go_ret
      exact ⟨rfl, hB⟩
end Go.Proofs.Ytgclabboafdheaa

/- The fixed calls of the statements on package roster come out as they must, and make at most new memory; no conditions. -/
namespace Go.Proofs.Ytgclabboafdheaa
open Go.ChangeShapes Go.WideShapes Go.ChangeAt Go.RowKit
set_option linter.unusedVariables false
attribute [local go_sem] cell_rg

theorem k25_a : markB ⟨#[]⟩ 4 [] = ⟨#[48, 48, 48, 48]⟩ := by rfl
theorem k25_b : markB ⟨#[48, 49]⟩ 4 [3] = ⟨#[48, 49, 48, 49]⟩ := by rfl
theorem k25_c : hasI ⟨#[48, 49]⟩ 1 = true := by rfl
theorem k25_d : hasI ⟨#[48, 49]⟩ 2 = false := by rfl
theorem k25_e : (nodL ⟨#[48, 120, 49, 49]⟩).length = 2 := by rfl
theorem k25_f : nodL ⟨#[48, 49, 48, 49]⟩ = [1, 3] := by rfl
theorem k25_g : lackL 4 ⟨#[48, 49, 48, 49]⟩ = [0, 2] := by rfl
theorem k25_h : bothB 4 ⟨#[48, 49, 49]⟩ ⟨#[49, 49, 48]⟩ = ⟨#[48, 49, 48, 48]⟩ := by rfl
set_option maxRecDepth 100000 in
set_option maxHeartbeats 4000000 in
theorem known25_any (w : World) :
    Calls Try.prog 9 #[] w fun e w' => e = .returned (.bool true) ∧ Below w.heap.size w w' := by
  have HK := hidden (blk_nw w #[.int .i64 4, .int .i64 0, .int .i64 0, .int .i64 0, .int .i64 0, .int .i64 0, .int .i64 0, .int .i64 0, .int .i64 0, .int .i64 0, .slice none 0 0] 24)
  have HB0 := hidden (ballc w (.cells #[.int .i64 4, .int .i64 0, .int .i64 0, .int .i64 0, .int .i64 0, .int .i64 0, .int .i64 0, .int .i64 0, .int .i64 0, .int .i64 0, .slice none 0 0] 24))
  have C1 := hidden (fun V => by have z := RBlank_any 4 0 0 0 0 0 0 0 0 0 none 0 [] V; rwa [k25_a] at z)
  have C2 := hidden (fun V a2 h => by have z := RMark_any 4 0 0 0 0 0 0 0 0 0 none 0 [] ⟨#[48, 49]⟩ a2 1 [3] V (by decide) (by decide) h; rwa [k25_b] at z)
  have C3 := hidden (fun V => by have z := Has_any ⟨#[48, 49]⟩ 1 V (by decide); rwa [k25_c] at z)
  have C4 := hidden (fun V => by have z := Has_any ⟨#[48, 49]⟩ 2 V (by decide); rwa [k25_d] at z)
  have C5 := hidden (fun V => by have z := Count_any ⟨#[48, 120, 49, 49]⟩ V; rwa [k25_e] at z)
  have C6 := hidden (fun V => by have z := Nodes_any ⟨#[48, 49, 48, 49]⟩ (by decide) V; rwa [k25_f] at z)
  have C7 := hidden (fun V => by have z := Lacks_any 4 0 0 0 0 0 0 0 0 0 none 0 [] ⟨#[48, 49, 48, 49]⟩ V (by decide); rwa [k25_g] at z)
  have C8 := hidden (fun V => by have z := Both_any 4 0 0 0 0 0 0 0 0 0 none 0 [] ⟨#[48, 49, 49]⟩ ⟨#[49, 49, 48]⟩ V (by decide) (by decide); rwa [k25_h] at z)
  go_enter Try.func9, Try.ntmps9
  go_wp2_with fail
  refine (C1.out _).mono ?_
  rintro e w1 ⟨rfl, hb⟩
  have HB1 := hidden (bthen HB0.out hb)
  have k0 := blk_later HK.out hb
  have b0 := blk_cell k0
  have l0 := blk_lt k0
  have HK1 := hidden k0
  clear hb k0
  go_wp2_with fail
  refine (C2.out _ _ (Kind.Lies.of_block (K := kInt) (t := 3) (g := w1.heap.size) (es := [3]) (heap_alloc_new w1 _) (by decide))).mono ?_
  rintro e w2 ⟨rfl, hb⟩
  have hb2 := bthen (ballc w1 (.cells #[.int .i64 3] 3)) hb
  have HB2 := hidden (bthen HB1.out hb2)
  have HK2 := hidden (blk_later HK1.out hb2)
  clear hb hb2 b0 l0
  go_wp2_with fail
  refine (C3.out _).mono ?_
  rintro e w3 ⟨rfl, hb⟩
  have HB3 := hidden (bthen HB2.out hb)
  have HK3 := hidden (blk_later HK2.out hb)
  clear hb
  go_wp2_with fail
  refine (C4.out _).mono ?_
  rintro e w4 ⟨rfl, hb⟩
  have HB4 := hidden (bthen HB3.out hb)
  have HK4 := hidden (blk_later HK3.out hb)
  clear hb
  go_wp2_with fail
  refine (C5.out _).mono ?_
  rintro e w5 ⟨rfl, rfl⟩
  go_wp2_with fail
  refine (C6.out _).mono ?_
  rintro e w5 ⟨r, rfl, ho, hb⟩
  obtain ⟨ad5, c5, rfl⟩ := own_slice ho
  have HL5 := hidden (Kind.Lies.of_own ho)
  have HB5 := hidden (bthen HB4.out hb)
  have HK5 := hidden (blk_later HK4.out hb)
  clear hb ho
  go_wp2_with fail
  refine (KInts_any ad5 (some ⟨w5.heap.size, 0, none⟩) 2 2 c5 2 [1, 3] _ (by decide) (HL5.out.later (ballc w5 _)) (Kind.Lies.of_block (K := kInt) (t := 3) (g := w5.heap.size) (es := [1, 3]) (heap_alloc_new w5 _) (by decide))).mono ?_
  rintro e w6 ⟨rfl, hb⟩
  have hb2 := bthen (ballc w5 (.cells #[.int .i64 1, .int .i64 3] 3)) hb
  have HB6 := hidden (bthen HB5.out hb2)
  have k0 := blk_later HK5.out hb2
  have b0 := blk_cell k0
  have l0 := blk_lt k0
  have HK6 := hidden k0
  clear hb hb2 k0
  go_wp2_with fail
  refine (C7.out _).mono ?_
  rintro e w7 ⟨r, rfl, ho, hb⟩
  obtain ⟨ad7, c7, rfl⟩ := own_slice ho
  have HL7 := hidden (Kind.Lies.of_own ho)
  have HB7 := hidden (bthen HB6.out hb)
  have HK7 := hidden (blk_later HK6.out hb)
  clear hb ho b0 l0
  go_wp2_with fail
  refine (KInts_any ad7 (some ⟨w7.heap.size, 0, none⟩) 2 2 c7 2 [0, 2] _ (by decide) (HL7.out.later (ballc w7 _)) (Kind.Lies.of_block (K := kInt) (t := 3) (g := w7.heap.size) (es := [0, 2]) (heap_alloc_new w7 _) (by decide))).mono ?_
  rintro e w8 ⟨rfl, hb⟩
  have hb2 := bthen (ballc w7 (.cells #[.int .i64 0, .int .i64 2] 3)) hb
  have HB8 := hidden (bthen HB7.out hb2)
  have k0 := blk_later HK7.out hb2
  have b0 := blk_cell k0
  have l0 := blk_lt k0
  clear hb hb2 k0
  go_wp2_with fail
  refine (C8.out _).mono ?_
  rintro e w9 ⟨rfl, hb⟩
  have HB9 := hidden (bthen HB8.out hb)
  clear hb b0 l0
  go_wp2
  go_ret
  exact ⟨rfl, HB9.out⟩
end Go.Proofs.Ytgclabboafdheaa
