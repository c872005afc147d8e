/- The calls Count, Of and Who of package log return how many nodes have notes that are alive, how many one has, and which those are, rising; for rows of notes that lie in memory, at most a million. -/
import Derived.Test.YtjmeeklaclidbaaLogW
import Derived.Maps.OwnOps
import Derived.Maps.OwnSet
namespace Go.Proofs.Ytjmeeklaclidbaa
open Go.ChangeShapes Go.WideShapes Go.ChangeAt Go.RowKit Go.Shelf Go.Maps Go.Sort
set_option linter.unusedVariables false

/-- A row of int lies in memory, below a bound. -/
def Nums (n₀ : Nat) (W : World) (sv : Value) (zs : List Int) : Prop :=
  ∃ (ad : Option Addr) (cap : Nat), sv = .slice ad zs.length cap ∧ zs.length ≤ cap ∧ cap ≤ maxLen ∧
    ∀ j, j < zs.length → ∃ b off : Nat, ad = some ⟨b, off, none⟩ ∧ b < n₀ ∧ W.cell? ⟨b, off + j, none⟩ = some (.int .i64 (zs.getD j 0))
theorem Nums.below {n₀ : Nat} {A B : World} {sv : Value} {zs : List Int} (h : Nums n₀ A sv zs) (hb : Below n₀ A B) : Nums n₀ B sv zs := by
  obtain ⟨ad, cap, e, h1, h2, hc⟩ := h
  refine ⟨ad, cap, e, h1, h2, fun j hj => ?_⟩
  obtain ⟨b, off, ea, hbl, c0⟩ := hc j hj
  exact ⟨b, off, ea, hbl, (hb.cell (p := ⟨b, off + j, none⟩) hbl).trans c0⟩
theorem Nums.mono {n₀ n₁ : Nat} {W : World} {sv : Value} {zs : List Int} (h : Nums n₀ W sv zs) (hn : n₀ ≤ n₁) : Nums n₁ W sv zs := by
  obtain ⟨ad, cap, e, h1, h2, hc⟩ := h
  refine ⟨ad, cap, e, h1, h2, fun j hj => ?_⟩
  obtain ⟨b, off, ea, hbl, c0⟩ := hc j hj
  exact ⟨b, off, ea, by omega, c0⟩
theorem Nums.of_own {W : World} {base : Nat} {e : TypeId} {v : Value} {zs : List Int} (h : W.ownsRow base e 1 v zs.length (zs.map encZ)) : Nums W.heap.size W v zs := by
  obtain ⟨_, ⟨rfl, h0⟩ | ⟨g, cap, cur, rfl, hb, hg, h1, h2, h3, h4⟩⟩ := h
  · have : zs = [] := List.length_eq_zero_iff.1 h0
    subst this
    exact ⟨none, 0, rfl, Nat.le_refl _, Nat.zero_le _, fun j hj => absurd hj (Nat.not_lt_zero _)⟩
  · refine ⟨_, cap, rfl, h1, h2, fun j hj => ?_⟩
    have hlt : g < W.heap.size := (Array.getElem?_eq_some_iff.1 hg).1
    have c0 : (zs.map encZ)[j]? = some (.int .i64 (zs.getD j 0)) := by simp [hj]
    rw [← h4, List.getElem?_take, if_pos (by omega)] at c0
    exact ⟨g, 0, rfl, hlt, by simpa [World.cell?, hg] using c0⟩

theorem told_any (ad : Option Addr) (len cap : Nat) (now width : Int) (es : List Note) (hlen : es.length ≤ 1000000) (w : World) (hE : Ents w.heap.size w (.slice ad len cap) es) :
    Calls Try.prog 42 #[.slice ad len cap, .int .i64 now, .int .i64 width] w fun e w' => e = .returned (.map (some w.heap.size)) ∧ w'.ownsMap Try.prog 3 (plainElem (H := Unit) Try.prog 3) w.heap.size (live now width es).length (tallyD (live now width es)) ∧ Below w.heap.size w w' :=
  (callsIn_wide (n := 3)).1 (told_in 3 (Nat.le_refl _) ad len cap now width es hlen w hE)
theorem live_le (now width : Int) (es : List Note) : (live now width es).length ≤ es.length := List.length_filter_le _ _

theorem Of_any (ad : Option Addr) (len cap : Nat) (node now width : Int) (es : List Note) (hnode : (Lit.int .i64 node).wf = true) (hlen : es.length ≤ 1000000) (w : World) (hE : Ents w.heap.size w (.slice ad len cap) es) :
    Calls Try.prog 29 #[.slice ad len cap, .int .i64 node, .int .i64 now, .int .i64 width] w fun e w' => e = .returned (.int .i64 (cntN node (live now width es) : Int)) ∧ Below w.heap.size w w' := by
  have hk := (counts_tally (H := Unit) (live now width es) (Nat.le_trans (live_le _ _ _) hlen)).2.2 node
  have hkey := Maps.keyOf_int_mk Try.underlying3 hnode
  go_enter Try.func29, Try.ntmps29
  go_wp2_with (first
    | (go_at_call 42; refine (told_any _ _ _ _ _ es hlen _ hE).mono ?_; rintro e w1 ⟨rfl, hown, hb⟩)
    | (at_lookup; refine wpList_lookup_own_int _ rfl _ _ 67 rfl 3 3 .i64 (Maps.int_keyed Try.underlying3) Try.underlying67 Try.underlying3 (Try.zeroValue3 _) w.heap.size _ _ rfl hown _ _ rfl hkey ?_; intro c hat hwc))
  rw [hk] at hat
  injection hat with hat
  injection hat with _ hat
  go_ret
  exact ⟨ret_i hat.symm, hb⟩

end Go.Proofs.Ytjmeeklaclidbaa
