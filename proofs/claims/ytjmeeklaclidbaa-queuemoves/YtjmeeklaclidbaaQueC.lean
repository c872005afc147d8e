/- The calls that part items by what comes and what rests return what plain functions give, in memory of their own; for rows of items that lie in memory, at most a million. -/
import Derived.Test.YtjmeeklaclidbaaQueA
import Derived.Deep.AppendLies
namespace Go.Proofs.Ytjmeeklaclidbaa
open Go.ChangeShapes Go.WideShapes Go.ChangeAt Go.RowKit
set_option linter.unusedVariables false

/-- Two boxes, each with a row of one's own. -/
structure Two (n₀ : Nat) (W : World) (cs rs : List Item) (vc vr : Value) : Prop where
  bc : W.heap[n₀]? = some (.cells #[vc] 42 (0, 0))
  br : W.heap[n₀ + 1]? = some (.cells #[vr] 42 (0, 0))
  oc : W.ownsRow (n₀ + 2) 52 3 vc cs.length (kItem.flat cs)
  orr : W.ownsRow (n₀ + 2) 52 3 vr rs.length (kItem.flat rs)
  ne : ∀ k, vc.ownBlock = some k → vr.ownBlock ≠ some k

theorem boxed_facts {W : World} {g : Nat} {v : Value} {t : TypeId} (h : W.heap[g]? = some (.cells #[v] t (0, 0))) : W.cell? ⟨g, 0, none⟩ = some v ∧ W.frozen? ⟨g, 0, none⟩ = false ∧ g < W.heap.size := by
  refine ⟨by simp [World.cell?, h], by simp [World.frozen?, h], (Array.getElem?_eq_some_iff.1 h).1⟩
theorem own_ne {W : World} {base : Nat} {e : TypeId} {size : Nat} {v : Value} {n : Nat} {xs : List Value} (h : W.ownsRow base e size v n xs) {b : Nat} (hb : b < base) : some b ≠ v.ownBlock := fun he => by have := own_from h b he.symm; omega
/-- The boxes, behind an append to the first row. -/
theorem Two.boxC {n₀ : Nat} {W WA w3 : World} {cs rs : List Item} {vc vr : Value} (h : Two n₀ W cs rs vc vr) (hA : Below W.heap.size W WA) (hg : WA.grownBy w3 vc.ownBlock) : w3.heap[n₀]? = some (.cells #[vc] 42 (0, 0)) ∧ w3.heap[n₀ + 1]? = some (.cells #[vr] 42 (0, 0)) := by
  have l0 := (boxed_facts h.bc).2.2
  have l1 := (boxed_facts h.br).2.2
  have hs := hA.size
  exact ⟨(hg.block n₀ (by omega) (own_ne h.oc (by omega))).trans ((hA.block n₀ l0).trans h.bc), (hg.block (n₀ + 1) (by omega) (own_ne h.oc (by omega))).trans ((hA.block (n₀ + 1) l1).trans h.br)⟩
theorem Two.boxR {n₀ : Nat} {W WA w3 : World} {cs rs : List Item} {vc vr : Value} (h : Two n₀ W cs rs vc vr) (hA : Below W.heap.size W WA) (hg : WA.grownBy w3 vr.ownBlock) : w3.heap[n₀]? = some (.cells #[vc] 42 (0, 0)) ∧ w3.heap[n₀ + 1]? = some (.cells #[vr] 42 (0, 0)) := by
  have l0 := (boxed_facts h.bc).2.2
  have l1 := (boxed_facts h.br).2.2
  have hs := hA.size
  exact ⟨(hg.block n₀ (by omega) (own_ne h.orr (by omega))).trans ((hA.block n₀ l0).trans h.bc), (hg.block (n₀ + 1) (by omega) (own_ne h.orr (by omega))).trans ((hA.block (n₀ + 1) l1).trans h.br)⟩
theorem Two.stepC {n₀ : Nat} {W WA w3 : World} {cs rs : List Item} {vc vr v' : Value} {y : Item} (h : Two n₀ W cs rs vc vr) (hA : Below W.heap.size W WA) (hg : WA.grownBy w3 vc.ownBlock)
    (ho : w3.ownsRow (n₀ + 2) 52 3 v' (cs.length + 1) (kItem.flat cs ++ kItem.flat [y])) (hat : v'.ownBlock = vc.ownBlock ∨ v'.ownBlock = some WA.heap.size) : Two n₀ (w3.setCell ⟨n₀, 0, none⟩ v') (cs ++ [y]) rs v' vr ∧ Below n₀ W (w3.setCell ⟨n₀, 0, none⟩ v') := by
  obtain ⟨b0, b1⟩ := h.boxC hA hg
  have l1 := (boxed_facts h.br).2.2
  have hs := hA.size
  have hr : w3.ownsRow (n₀ + 2) 52 3 vr rs.length (kItem.flat rs) := (own_below h.orr hA).kept hg (by
    cases hv : vr.ownBlock with
    | none => exact .inl rfl
    | some k => exact .inr (fun e => h.ne k e.symm hv))
  refine ⟨⟨?_, ?_, ?_, ownsRow_setCell_below hr (by simp) _, ?_⟩, ?_⟩
  · have := heap_setCell_same w3 n₀ 0 _ _ v' b0
    simpa using this
  · rw [heap_setCell_other w3 ⟨n₀, 0, none⟩ (n₀ + 1) v' (by simp)]; exact b1
  · rw [Kind.flat_append, List.length_append]; exact ownsRow_setCell_below ho (by simp) _
  · intro k hk hk2
    rcases hat with e | e
    · exact h.ne k (e.symm.trans hk) hk2
    · have h1 := (h.orr.lt k hk2).2
      rw [hk] at e
      cases e
      omega
  · exact Below.setCell (p := ⟨n₀, 0, none⟩) ((hA.mono (show n₀ ≤ W.heap.size by omega)).grown hg (by omega) (fun k hk => by have := own_from h.oc k hk; omega)) (Nat.le_refl _) _
theorem Two.stepR {n₀ : Nat} {W WA w3 : World} {cs rs : List Item} {vc vr v' : Value} {y : Item} (h : Two n₀ W cs rs vc vr) (hA : Below W.heap.size W WA) (hg : WA.grownBy w3 vr.ownBlock)
    (ho : w3.ownsRow (n₀ + 2) 52 3 v' (rs.length + 1) (kItem.flat rs ++ kItem.flat [y])) (hat : v'.ownBlock = vr.ownBlock ∨ v'.ownBlock = some WA.heap.size) : Two n₀ (w3.setCell ⟨n₀ + 1, 0, none⟩ v') cs (rs ++ [y]) vc v' ∧ Below n₀ W (w3.setCell ⟨n₀ + 1, 0, none⟩ v') := by
  obtain ⟨b0, b1⟩ := h.boxR hA hg
  have l1 := (boxed_facts h.br).2.2
  have hs := hA.size
  have hr : w3.ownsRow (n₀ + 2) 52 3 vc cs.length (kItem.flat cs) := (own_below h.oc hA).kept hg (by
    cases hv : vc.ownBlock with
    | none => exact .inl rfl
    | some k => exact .inr (fun e => h.ne k hv e.symm))
  refine ⟨⟨?_, ?_, ownsRow_setCell_below hr (by simp) _, ?_, ?_⟩, ?_⟩
  · rw [heap_setCell_other w3 ⟨n₀ + 1, 0, none⟩ n₀ v' (by simp)]; exact b0
  · have := heap_setCell_same w3 (n₀ + 1) 0 _ _ v' b1
    simpa using this
  · rw [Kind.flat_append, List.length_append]; exact ownsRow_setCell_below ho (by simp) _
  · intro k hk hk2
    rcases hat with e | e
    · exact h.ne k hk (e.symm.trans hk2)
    · have h1 := (h.oc.lt k hk).2
      rw [hk2] at e
      cases e
      omega
  · exact Below.setCell (p := ⟨n₀ + 1, 0, none⟩) ((hA.mono (show n₀ ≤ W.heap.size by omega)).grown hg (by omega) (fun k hk => by have := own_from h.orr k hk; omega)) (by simp) _

set_option maxHeartbeats 2000000 in
theorem part_any (n₀ : Nat) (x : Item) (cs rs : List Item) (vc vr : Value) (hl : cs.length ≤ 1000000 ∧ rs.length ≤ 1000000) (W : World) (hT : Two n₀ W cs rs vc vr) :
    Calls Try.prog 37 #[.agg #[.int .i64 x.1.1, .int .i64 x.1.2.1, .string x.1.2.2], .pointer (some ⟨n₀, 0, none⟩), .pointer (some ⟨n₀ + 1, 0, none⟩)] W fun e w' => (∃ v, e = .returned v) ∧ (∃ vc' vr', Two n₀ w' (cs ++ comeL [x]) (rs ++ restL [x]) vc' vr') ∧ Below n₀ W w' := by
  have hn0 : n₀ + 1 < W.heap.size := (boxed_facts hT.br).2.2
  obtain ⟨i0, hi, hz0, hz1, hz2⟩ := info_parts infoItem
  have CC := fun V => comes_raw (satF x.1.1) x.1.2.1 x.1.2.2 1 V
  have CS := fun V => sat_any x.1.1 V x.2.1
  by_cases h1 : x.1.2.1 ≤ 1
  · have q1 : (decide ((1 : Int) ≤ 1) && decide (x.1.2.1 ≤ 1)) = true := by simp [h1]
    have e1 : comeL [x] = [comeOf x] := by have := comeL_yes [] h1; simpa [comeL] using this
    have e2 : restL [x] = [] := by have := restL_yes [] h1; simpa [restL] using this
    rw [q1] at CC
    rw [e1, e2, List.append_nil]
    have hA : Below W.heap.size W (((W.alloc (.cells #[.int .i64 (satF x.1.1), .int .i64 0, .string x.1.2.2] 52)).alloc (.cells #[.int .i64 (satF x.1.1), .int .i64 x.1.2.1, .string x.1.2.2] 52))) := (ballc W _).alloc (by simp) _
    have hC0 : (((W.alloc (.cells #[.int .i64 (satF x.1.1), .int .i64 0, .string x.1.2.2] 52)).alloc (.cells #[.int .i64 (satF x.1.1), .int .i64 x.1.2.1, .string x.1.2.2] 52))).cell? ⟨n₀, 0, none⟩ = some vc := (hA.cell (p := ⟨n₀, 0, none⟩) (by simp only; omega)).trans (boxed_facts hT.bc).1
    have hA2 : Below W.heap.size W (((W.alloc (.cells #[.int .i64 (satF x.1.1), .int .i64 0, .string x.1.2.2] 52)).alloc (.cells #[.int .i64 (satF x.1.1), .int .i64 x.1.2.1, .string x.1.2.2] 52)).alloc (.cells #[.int .i64 (satF x.1.1), .int .i64 0, .string x.1.2.2] 52)) := hA.alloc hA.size _
    have hN : (((W.alloc (.cells #[.int .i64 (satF x.1.1), .int .i64 0, .string x.1.2.2] 52)).alloc (.cells #[.int .i64 (satF x.1.1), .int .i64 x.1.2.1, .string x.1.2.2] 52)).alloc (.cells #[.int .i64 (satF x.1.1), .int .i64 0, .string x.1.2.2] 52)).heap[W.heap.size + 1 + 1]? = some (.cells (kItem.flat [comeOf x]).toArray 52 (0, 0)) := by
      have := heap_alloc_new ((W.alloc (.cells #[.int .i64 (satF x.1.1), .int .i64 0, .string x.1.2.2] 52)).alloc (.cells #[.int .i64 (satF x.1.1), .int .i64 x.1.2.1, .string x.1.2.2] 52)) (.cells #[.int .i64 (satF x.1.1), .int .i64 0, .string x.1.2.2] 52)
      simp only [World.size_alloc] at this
      exact this
    go_enter Try.func37, Try.ntmps37
    go_wp2_with fail
    refine (CS _).mono ?_
    rintro r w' ⟨rfl, rfl⟩
    go_wp2_with fail
    refine (CC _).mono ?_
    rintro r w' ⟨rfl, rfl⟩
    go_wp2_with (at_builtin; (refine kItem.wpList_append _ rfl _ _ 42 rfl (n₀ + 2) 52 i0 (.agg #[.int .i64 0, .int .i64 0, .string ByteArray.empty]) 32 Try.underlying42 hi hz0 hz1 hz2 rfl vc _ _ rfl (own_below hT.oc hA2) (.slice (some ⟨W.heap.size + 1 + 1, 0, none⟩) 1 1) [comeOf x] rfl (Kind.Lies.of_block (K := kItem) (es := [comeOf x]) hN (by simp only [maxLen, List.length_singleton]; omega)) (by simp only [maxLen, List.length_singleton]; omega) (by simp only [List.length_singleton]; omega) (by simp; omega) ?_); intro v3 w3 hown3 hgrow3 hat3; obtain ⟨a3, c3, rfl⟩ := own_slice hown3; have hb3 := hT.boxC hA2 hgrow3; have d0 := (boxed_facts hb3.1).1; have d1 := (boxed_facts hb3.1).2.1)
    obtain ⟨hT3, hB3⟩ := hT.stepC hA2 hgrow3 hown3 hat3
    refine bodyPost_ret (results_none rfl _ _ _) rfl ?_
    exact ⟨⟨_, rfl⟩, ⟨_, _, hT3⟩, hB3⟩
  · have q1 : (decide ((1 : Int) ≤ 1) && decide (x.1.2.1 ≤ 1)) = false := by simp; omega
    have e1 : comeL [x] = [] := by have := comeL_no [] h1; simpa [comeL] using this
    have e2 : restL [x] = [restOf x] := by have := restL_no [] h1; simpa [restL] using this
    have hbx := bd64 x.2.2.1
    have t1 : IntKind.i64.wrap (x.1.2.1 - 1) = x.1.2.1 - 1 := IntWalk.i64_in _ (by omega)
    have hro : kItem.flat [restOf x] = [.int .i64 (satF x.1.1), .int .i64 (x.1.2.1 - 1), .string x.1.2.2] := by rw [cells_one_item, restOf_val (by omega)]
    rw [q1] at CC
    rw [e1, e2, List.append_nil]
    have hA : Below W.heap.size W (((W.alloc (.cells #[.int .i64 (satF x.1.1), .int .i64 (x.1.2.1 - 1), .string x.1.2.2] 52)).alloc (.cells #[.int .i64 (satF x.1.1), .int .i64 x.1.2.1, .string x.1.2.2] 52))) := (ballc W _).alloc (by simp) _
    have hC0 : (((W.alloc (.cells #[.int .i64 (satF x.1.1), .int .i64 (x.1.2.1 - 1), .string x.1.2.2] 52)).alloc (.cells #[.int .i64 (satF x.1.1), .int .i64 x.1.2.1, .string x.1.2.2] 52))).cell? ⟨n₀ + 1, 0, none⟩ = some vr := (hA.cell (p := ⟨n₀ + 1, 0, none⟩) (by simp only; omega)).trans (boxed_facts hT.br).1
    have hA2 : Below W.heap.size W (((W.alloc (.cells #[.int .i64 (satF x.1.1), .int .i64 (x.1.2.1 - 1), .string x.1.2.2] 52)).alloc (.cells #[.int .i64 (satF x.1.1), .int .i64 x.1.2.1, .string x.1.2.2] 52)).alloc (.cells #[.int .i64 (satF x.1.1), .int .i64 (x.1.2.1 - 1), .string x.1.2.2] 52)) := hA.alloc hA.size _
    have hN : (((W.alloc (.cells #[.int .i64 (satF x.1.1), .int .i64 (x.1.2.1 - 1), .string x.1.2.2] 52)).alloc (.cells #[.int .i64 (satF x.1.1), .int .i64 x.1.2.1, .string x.1.2.2] 52)).alloc (.cells #[.int .i64 (satF x.1.1), .int .i64 (x.1.2.1 - 1), .string x.1.2.2] 52)).heap[W.heap.size + 1 + 1]? = some (.cells (kItem.flat [restOf x]).toArray 52 (0, 0)) := by
      rw [hro]
      have := heap_alloc_new ((W.alloc (.cells #[.int .i64 (satF x.1.1), .int .i64 (x.1.2.1 - 1), .string x.1.2.2] 52)).alloc (.cells #[.int .i64 (satF x.1.1), .int .i64 x.1.2.1, .string x.1.2.2] 52)) (.cells #[.int .i64 (satF x.1.1), .int .i64 (x.1.2.1 - 1), .string x.1.2.2] 52)
      simp only [World.size_alloc] at this
      exact this
    go_enter Try.func37, Try.ntmps37
    go_wp2_with fail
    refine (CS _).mono ?_
    rintro r w' ⟨rfl, rfl⟩
    go_wp2_with fail
    refine (CC _).mono ?_
    rintro r w' ⟨rfl, rfl⟩
    go_wp2_with (at_builtin; (refine kItem.wpList_append _ rfl _ _ 42 rfl (n₀ + 2) 52 i0 (.agg #[.int .i64 0, .int .i64 0, .string ByteArray.empty]) 32 Try.underlying42 hi hz0 hz1 hz2 rfl vr _ _ rfl (own_below hT.orr hA2) (.slice (some ⟨W.heap.size + 1 + 1, 0, none⟩) 1 1) [restOf x] rfl (Kind.Lies.of_block (K := kItem) (es := [restOf x]) hN (by simp only [maxLen, List.length_singleton]; omega)) (by simp only [maxLen, List.length_singleton]; omega) (by simp only [List.length_singleton]; omega) (by simp; omega) ?_); intro v3 w3 hown3 hgrow3 hat3; obtain ⟨a3, c3, rfl⟩ := own_slice hown3; have hb3 := hT.boxR hA2 hgrow3; have d0 := (boxed_facts hb3.2).1; have d1 := (boxed_facts hb3.2).2.1)
    obtain ⟨hT3, hB3⟩ := hT.stepR hA2 hgrow3 hown3 hat3
    go_end0
    exact ⟨⟨_, rfl⟩, ⟨_, _, hT3⟩, hB3⟩
theorem Two.grow {n₀ : Nat} {W W' : World} {cs rs : List Item} {vc vr : Value} (h : Two n₀ W cs rs vc vr) (hb : Below W.heap.size W W') : Two n₀ W' cs rs vc vr :=
  ⟨(hb.block n₀ (boxed_facts h.bc).2.2).trans h.bc, (hb.block (n₀ + 1) (boxed_facts h.br).2.2).trans h.br, own_below h.oc hb, own_below h.orr hb, h.ne⟩
end Go.Proofs.Ytjmeeklaclidbaa
