/- The calls Count, Of and Who of package log return how many nodes have notes that are alive, how many one has, and which those are, rising; for rows of notes that lie in memory, at most a million. -/
import Derived.Test.YtnllidjbehonkaaLogW
import Derived.Test.YtnllidjbehonkaaShelf
import Derived.Maps.OwnOps
import Derived.Maps.OwnSet
namespace Go.Proofs.Ytnllidjbehonkaa
open Go.ChangeShapes Go.WideShapes Go.ChangeAt Go.RowKit Go.Shelf Go.Maps Go.Sort
set_option linter.unusedVariables false

/-- A row of int lies in memory, below a bound. -/
def Nums (n₀ : Nat) (W : World) (sv : Value) (zs : List Int) : Prop :=
  ∃ (ad : Option Addr) (cap : Nat), sv = .slice ad zs.length cap ∧ zs.length ≤ cap ∧ cap ≤ maxLen ∧
    ∀ j, j < zs.length → ∃ b off : Nat, ad = some ⟨b, off, none⟩ ∧ b < n₀ ∧ W.cell? ⟨b, off + j, none⟩ = some (.int .i64 (zs.getD j 0))
theorem Nums.below {n₀ : Nat} {A B : World} {sv : Value} {zs : List Int} (h : Nums n₀ A sv zs) (hb : Below n₀ A B) : Nums n₀ B sv zs := by
  obtain ⟨ad, cap, e, h1, h2, hc⟩ := h
  refine ⟨ad, cap, e, h1, h2, fun j hj => ?_⟩
  obtain ⟨b, off, ea, hbl, c0⟩ := hc j hj
  exact ⟨b, off, ea, hbl, (hb.cell (p := ⟨b, off + j, none⟩) hbl).trans c0⟩
theorem Nums.mono {n₀ n₁ : Nat} {W : World} {sv : Value} {zs : List Int} (h : Nums n₀ W sv zs) (hn : n₀ ≤ n₁) : Nums n₁ W sv zs := by
  obtain ⟨ad, cap, e, h1, h2, hc⟩ := h
  refine ⟨ad, cap, e, h1, h2, fun j hj => ?_⟩
  obtain ⟨b, off, ea, hbl, c0⟩ := hc j hj
  exact ⟨b, off, ea, by omega, c0⟩
theorem Nums.of_own {W : World} {base : Nat} {e : TypeId} {v : Value} {zs : List Int} (h : W.ownsRow base e 1 v zs.length (zs.map encZ)) : Nums W.heap.size W v zs := by
  obtain ⟨_, ⟨rfl, h0⟩ | ⟨g, cap, cur, rfl, hb, hg, h1, h2, h3, h4⟩⟩ := h
  · have : zs = [] := List.length_eq_zero_iff.1 h0
    subst this
    exact ⟨none, 0, rfl, Nat.le_refl _, Nat.zero_le _, fun j hj => absurd hj (Nat.not_lt_zero _)⟩
  · refine ⟨_, cap, rfl, h1, h2, fun j hj => ?_⟩
    have hlt : g < W.heap.size := (Array.getElem?_eq_some_iff.1 hg).1
    have c0 : (zs.map encZ)[j]? = some (.int .i64 (zs.getD j 0)) := by simp [hj]
    rw [← h4, List.getElem?_take, if_pos (by omega)] at c0
    exact ⟨g, 0, rfl, hlt, by simpa [World.cell?, hg] using c0⟩

theorem told_any (ad : Option Addr) (len cap : Nat) (now width : Int) (es : List Note) (hlen : es.length ≤ 1000000) (w : World) (hE : Ents w.heap.size w (.slice ad len cap) es) :
    Calls Try.prog 41 #[.slice ad len cap, .int .i64 now, .int .i64 width] w fun e w' => e = .returned (.map (some w.heap.size)) ∧ w'.ownsMap Try.prog 3 (plainElem (H := Unit) Try.prog 3) w.heap.size (live now width es).length (tallyD (live now width es)) ∧ Below w.heap.size w w' :=
  (callsIn_wide (n := 3)).1 (told_in 3 (Nat.le_refl _) ad len cap now width es hlen w hE)
theorem live_le (now width : Int) (es : List Note) : (live now width es).length ≤ es.length := List.length_filter_le _ _

theorem Count_any (ad : Option Addr) (len cap : Nat) (now width : Int) (es : List Note) (hlen : es.length ≤ 1000000) (w : World) (hE : Ents w.heap.size w (.slice ad len cap) es) :
    Calls Try.prog 26 #[.slice ad len cap, .int .i64 now, .int .i64 width] w fun e w' => e = .returned (.int .i64 ((nodesOf (live now width es)).length : Int)) ∧ Below w.heap.size w w' := by
  have hk := (counts_tally (H := Unit) (live now width es) (Nat.le_trans (live_le _ _ _) hlen)).keys.2
  rw [← hk]
  clear hk
  go_enter Try.func26, Try.ntmps26
  go_wp2_with (first
    | (go_at_call 41; refine (told_any _ _ _ _ _ es hlen _ hE).mono ?_; rintro e w1 ⟨rfl, hown, hb⟩)
    | (at_len; refine wpList_len_own _ rfl _ 50 rfl 3 3 Try.underlying50 _ w.heap.size _ _ rfl hown ?_))
  go_ret
  exact ⟨rfl, hb⟩
theorem Of_any (ad : Option Addr) (len cap : Nat) (node now width : Int) (es : List Note) (hnode : (Lit.int .i64 node).wf = true) (hlen : es.length ≤ 1000000) (w : World) (hE : Ents w.heap.size w (.slice ad len cap) es) :
    Calls Try.prog 28 #[.slice ad len cap, .int .i64 node, .int .i64 now, .int .i64 width] w fun e w' => e = .returned (.int .i64 (cntN node (live now width es) : Int)) ∧ Below w.heap.size w w' := by
  have hk := (counts_tally (H := Unit) (live now width es) (Nat.le_trans (live_le _ _ _) hlen)).2.2 node
  have hkey := Maps.keyOf_int_mk Try.underlying3 hnode
  go_enter Try.func28, Try.ntmps28
  go_wp2_with (first
    | (go_at_call 41; refine (told_any _ _ _ _ _ es hlen _ hE).mono ?_; rintro e w1 ⟨rfl, hown, hb⟩)
    | (at_lookup; refine wpList_lookup_own_int _ rfl _ _ 50 rfl 3 3 .i64 (Maps.int_keyed Try.underlying3) Try.underlying50 Try.underlying3 (Try.zeroValue3 _) w.heap.size _ _ rfl hown _ _ rfl hkey ?_; intro c hat hwc))
  rw [hk] at hat
  injection hat with hat
  injection hat with _ hat
  go_ret
  exact ⟨ret_i hat.symm, hb⟩

/-- slices.Sort's two contracts, at the fence that asks nothing. -/
theorem sortsA (m : Nat) : AnyZI.SortsIn Try.prog Try.sortedA_ren Fence.wide m :=
  ⟨fun blk off cap ss W hH hblk hsz => callsIn_wide.2 (AnyM.slices_Sort_int Try.sortA blk off cap ss W hH hblk hsz),
   fun p cap W => callsIn_wide.2 (AnyM.slices_Sort_int_none Try.sortA p cap W)⟩

set_option maxHeartbeats 1000000 in
theorem Who_in (ad : Option Addr) (len cap : Nat) (now width : Int) (es : List Note) (hlen : es.length ≤ 1000000) (w : World) (hE : Ents w.heap.size w (.slice ad len cap) es) :
    Calls Try.prog 31 #[.slice ad len cap, .int .i64 now, .int .i64 width] w fun e w' => ∃ v, e = .returned v ∧ w'.ownsRow w.heap.size 3 1 v (nodesOf (live now width es)).length ((nodesOf (live now width es)).map encZ) ∧ Below w.heap.size w w' := by
  have hC := counts_tally (H := Unit) (live now width es) (Nat.le_trans (live_le _ _ _) hlen)
  have hsize : Maps.size (tallyD (H := Unit) (live now width es)) ≤ 1000000 := by
    rw [hC.keys.2]
    exact Nat.le_trans (nodesOf_length _) (Nat.le_trans (live_le _ _ _) hlen)
  refine (callsIn_wide (n := 6)).1 ?_
  have hfT : Fence.wide.fn 41 := trivial
  have hfK : Fence.wide.fn 43 := trivial
  have hfS : Fence.wide.fn 42 := trivial
  refine callsIn_of_wp Try.func31 rfl trivial ?_ rfl
  simp only [Try.ntmps31, List.size_toArray, List.length_cons, List.length_nil, Nat.reduceAdd, Nat.reduceSub, Array.replicate_succ, Array.replicate_zero, List.push_toArray, List.append_toArray, List.nil_append, List.cons_append]
  gi_wp2_with (gi_at_call 41; refine (told_in (H := Unit) 5 (by omega) _ _ _ _ _ es hlen _ hE).mono ?_; rintro e w1 ⟨rfl, hown, hb⟩)
  have cK : ∀ mb W, CallsIn Fence.wide 5 Try.prog 43 #[.map mb] W fun e w' => e = .returned (.func (.func 48) #[] #[.pointer (some ⟨W.heap.size, 0, none⟩)]) ∧ w' = W.alloc (.cells #[.map mb] 50) := fun mb W => AnyZI.keys_in Try.keysA Fence.wide 5 trivial rfl mb W
  have hbl := hown.lt
  have hseq : SeqGives Fence.wide 2 Try.prog 48 #[.pointer (some ⟨w1.heap.size, 0, none⟩)] encZ (fun ss => ss.Perm (intKeys (tallyD (H := Unit) (live now width es)))) (Maps.size (tallyD (H := Unit) (live now width es))) (w1.alloc (.cells #[.map (some w.heap.size)] 50)) :=
    AnyZI.keys_gives (ρ := Try.keysA_ren) { Try.keysA with } Fence.wide _ trivial rfl (by omega) w1.heap.size w.heap.size (live now width es).length _ _ (by simp) (by simp) (by
      obtain ⟨es, clock, hb, Ft, hs, hD⟩ := hown
      exact ⟨es, clock, (Below.heap_alloc _ _ w.heap.size hbl).trans hb, Ft, hs, hD⟩)
  have cS := AnyZI.sorted_in Try.sortedA Fence.wide 5 trivial trivial trivial trivial rfl (by omega) (sortsA _) (enters_of Try.func47 (by kernel_rfl) rfl) 48 #[.pointer (some ⟨w1.heap.size, 0, none⟩)] trivial (enters_of Try.func48 (by kernel_rfl) rfl) _ _ (by simp only [maxLen]; omega) (by omega) _ hseq
  change CallsIn _ _ Try.prog 42 _ _ _ at cS
  gi_wp2_with (first
    | (gi_at_call 43; refine (cK _ _).mono ?_; rintro e w' ⟨rfl, rfl⟩)
    | (gi_at_call 42; refine cS.mono ?_; rintro e w' ⟨v, ss, rfl, hS, hrow, hnil, hb2⟩))
  go_ret
  have hlen2 : ss.length = (nodesOf (live now width es)).length := (hS.trans hC.keys.1.symm).length_eq
  refine ⟨v, rfl, ?_, hb.trans (((Below.refl _ w1).alloc hb.size _).trans (hb2.mono (by have := hb.size; simp; omega)))⟩
  have hr2 : w'.ownsRow w.heap.size 3 1 v ss.length ((ss.mergeSort leI).map encZ) := ownsRow_base_a hrow (by have := hb.size; simp; omega)
  rw [hC.sorted hS, hlen2] at hr2
  exact hr2
theorem Who_any (ad : Option Addr) (len cap : Nat) (now width : Int) (es : List Note) (hlen : es.length ≤ 1000000) (w : World) (hE : Ents w.heap.size w (.slice ad len cap) es) :
    Calls Try.prog 31 #[.slice ad len cap, .int .i64 now, .int .i64 width] w fun e w' => ∃ ad' cap', e = .returned (.slice ad' (nodesOf (live now width es)).length cap') ∧ Nums w'.heap.size w' (.slice ad' (nodesOf (live now width es)).length cap') (nodesOf (live now width es)) ∧ Below w.heap.size w w' :=
  (Who_in ad len cap now width es hlen w hE).mono fun e w' ⟨v, he, hr, hb⟩ => by
    have hE' := Nums.of_own hr
    obtain ⟨ad', cap', rfl, h⟩ := id hE'
    exact ⟨ad', cap', he, hE', hb⟩
end Go.Proofs.Ytnllidjbehonkaa
