/- The walk of LogFades: for rows of notes that lie in memory and integers that fit int it returns true and makes at most new memory. -/
import Derived.Test.YtnllidjbehonkaaLogN
namespace Go.Proofs.Ytnllidjbehonkaa.LawLogFades
open Go.ChangeShapes Go.WideShapes Go.ChangeAt Go.RowKit Go.Shelf
set_option linter.unusedVariables false

theorem wf64 {n : Int} (h : -9223372036854775808 ≤ n ∧ n ≤ 9223372036854775807) : (Lit.int .i64 n).wf = true := by
  have := wrap64_wf n
  rwa [IntWalk.wrap64_in n h] at this
theorem live_live (now width : Int) (es : List Note) : live now width (live now width es) = live now width es := by simp [live, List.filter_filter]
theorem signed_self (a : Int) : signedF a a = 0 := by unfold signedF; rw [if_pos (by omega)]; omega
theorem signed_next (a : Int) : signedF a (a + 1) = -1 := by
  have e : (a - (a + 1)) % 65536 = 65535 := by omega
  unfold signedF; rw [e]; rfl
theorem fresh_yes (e : Note) (node now width : Int) (h1 : e.1.1 = node) (h2 : e.1.2 = now) (hw : 0 < width) : cntN node (live now width [e]) = 1 := by
  have ha : aliveB now width e = true := by unfold aliveB; rw [h2, signed_self]; simp [hw]
  have : live now width [e] = [e] := by simp [live, ha]
  rw [this]; simp [cntN, h1]
theorem fresh_no (e : Note) (node now width : Int) (h2 : e.1.2 = now) (hw : ¬ 0 < width) : cntN node (live now width [e]) = 0 := by
  have ha : aliveB now width e = false := by unfold aliveB; rw [h2, signed_self]; simp; omega
  have : live now width [e] = [] := by simp [live, ha]
  rw [this]; rfl
theorem early_no (e : Note) (node now width : Int) (h2 : e.1.2 = now + 1) : cntN node (live now width [e]) = 0 := by
  have ha : aliveB now width e = false := by unfold aliveB; rw [h2, signed_next]; rfl
  have : live now width [e] = [] := by simp [live, ha]
  rw [this]; rfl
theorem rising_at {zs : List Int} (h : zs.Pairwise (· < ·)) {j : Nat} (hj : j + 1 < zs.length) : zs.getD j 0 < zs.getD (j + 1) 0 := by
  have := List.pairwise_iff_getElem.1 h j (j + 1) (by omega) hj (by omega)
  simpa [hj, show j < zs.length by omega] using this

set_option maxHeartbeats 2000000 in
theorem walk (ad : Option Addr) (cap : Nat) (es : List Note) (node now width : Int) (W : World) (hl : es.length ≤ 9223372036854775807) (hE : Ents W.heap.size W (.slice ad es.length cap) es)
    (hnode : -9223372036854775808 ≤ node ∧ node ≤ 9223372036854775807) (hnow : -9223372036854775808 ≤ now ∧ now ≤ 9223372036854775807) (hwd : -9223372036854775808 ≤ width ∧ width ≤ 9223372036854775807) :
    Calls Try.prog 8 #[.slice ad es.length cap, .int .i64 node, .int .i64 now, .int .i64 width] W fun e w' => e = .returned (.bool true) ∧ Below W.heap.size W w' := by
  by_cases h100 : 100 < es.length
  · go_enter Try.func8, Try.ntmps8
    go_wp2_with (go_at_call 20; refine (known6_any _).mono ?_; rintro e w1 ⟨rfl, hb⟩)
    go_ret
    exact ⟨rfl, hb⟩
  · have n1 : (nodesOf (live now width es)).length ≤ (live now width es).length := nodesOf_length _
    have n2 : (live now width es).length ≤ es.length := live_le _ _ _
    have hrise := (nodes_of (live now width es)).1
    go_enter Try.func8, Try.ntmps8
    go_wp2_with fail
    refine (Purge_any _ _ _ _ _ es (by omega) _ hE).mono ?_
    rintro e w1 ⟨ad1, cap1, rfl, hP, hb1⟩
    go_wp2_with fail
    refine (Who_any _ _ _ _ _ es (by omega) _ (hE.later hb1)).mono ?_
    rintro e w2 ⟨ad2, cap2, rfl, hZ, hb2⟩
    go_wp2_with fail
    refine (Purge_any _ _ _ _ _ (live now width es) (by omega) _ (hP.later hb2)).mono ?_
    rintro e w3 ⟨ad3, cap3, rfl, hQ, hb3⟩
    rw [live_live] at hQ ⊢
    go_wp2_with fail
    refine (Same_any _ _ _ _ _ _ (live now width es) _ (by omega) hQ (hP.later (bthen hb2 hb3))).mono ?_
    rintro e w4 ⟨rfl, hb4⟩
    have hb14 := bthen hb1 (bthen hb2 (bthen hb3 hb4))
    go_wp2_with fail
    refine (Count_any _ _ _ _ _ es (by omega) _ (hE.later hb14)).mono ?_
    rintro e w5 ⟨rfl, hb5⟩
    have hZ5 := hZ.later (bthen hb3 (bthen hb4 hb5))
    have HB := hidden (bthen hb14 hb5)
    clear hb1 hb2 hb3 hb4 hb5 hb14 hP hQ hZ hE
    generalize live now width es = ls at n1 n2 hrise hZ5 ⊢
    generalize nodesOf ls = zs at n1 hrise hZ5 ⊢
    have q1 : decide ((ls.length : Int) < (zs.length : Int)) = false := by simp; omega
    have q2 : decide ((es.length : Int) < (ls.length : Int)) = false := by simp; omega
    have hwn : (Lit.int .i64 node).wf = true := wf64 (by omega)
    have hwo : (Lit.int .i64 now).wf = true := wf64 (by omega)
    obtain ⟨_, _, hv, _, _, hc⟩ := hZ5
    obtain ⟨rfl, rfl⟩ : ad2 = _ ∧ cap2 = _ := by simpa using hv
    clear hv
    go_wp2
    go_loopw [11] (fun i wr => ∃ j : Nat, (j + 1 ≤ zs.length ∨ j = 0) ∧ i = .int .i64 ((j : Int) + 1) ∧ Below w5.heap.size w5 wr) (fun i _ => zs.length - (intOf i).toNat)
    case atStart => exact ⟨0, .inr rfl, rfl, Below.refl _ _⟩
    case round =>
      obtain ⟨j, hj, rfl, hB⟩ := hrel
      by_cases hlt : j + 1 < zs.length
      · obtain ⟨b, off, rfl, hbl, e0⟩ := hc j (by omega)
        obtain ⟨b', off', he, hbl', e1⟩ := hc (j + 1) hlt
        cases he
        have hr := rising_at hrise hlt
        have f0 := (hB.cell (p := ⟨b, off + j, none⟩) hbl).trans e0
        have f1 := (hB.cell (p := ⟨b, off + (j + 1), none⟩) hbl).trans e1
        clear e0 e1 hc
        generalize zs.getD j 0 = x at f0 hr
        generalize zs.getD (j + 1) 0 = y at f1 hr
        have i1 : (0 : Int) ≤ (j : Int) := by omega
        have i2 : (j : Int) < (zs.length : Int) := by omega
        have i3 : (0 : Int) ≤ (j : Int) + 1 := by omega
        have i4 : (j : Int) + 1 < (zs.length : Int) := by omega
        go_wp2
        go_quiet (fail)
        go_wp2
        go_roundw
        case rel => exact ⟨j + 1, by omega, by simp, ⟨hB.os, hB.tape, hB.output, hB.size, hB.block⟩⟩
        case measure => simp [intOf]; omega
      · have i4 : ¬ (j : Int) + 1 < (zs.length : Int) := by omega
        clear hc hrise n1 n2
        have OF : ∀ (at_ : Int) (ha : -9223372036854775808 ≤ at_ ∧ at_ ≤ 9223372036854775807) (T : Nat) (V : World), V.heap[T]? = some (.cells #[.int .i64 node, .int .i64 at_] 29 (0, 0)) →
            Calls Try.prog 28 #[.slice (some ⟨T, 0, none⟩) 1 1, .int .i64 node, .int .i64 now, .int .i64 width] V fun e w' => e = .returned (.int .i64 (cntN node (live now width [⟨(node, at_), hwn, wf64 ha⟩]) : Int)) ∧ Below V.heap.size V w' := fun at_ ha T V hT =>
          Of_any _ _ _ node now width [⟨(node, at_), hwn, wf64 ha⟩] hwn (by simp) V (Ents.of_block (es := [⟨(node, at_), hwn, wf64 ha⟩]) hT (by simp only [maxLen, List.length_singleton]; omega))
        have HBr := hidden (bthen HB.out hB)
        clear HB hB
        go_wp2_with fail
        refine (OF now (by omega) _ _ (World.alloc_heap_new _ _)).mono ?_
        rintro e w6 ⟨rfl, hb6⟩
        have HB6 := hidden (bthen HBr.out (bthen (ballc _ _) hb6))
        clear hb6 HBr
        by_cases hw0 : 0 < width
        · have c1 : (cntN node (live now width [⟨(node, now), hwn, wf64 (by omega)⟩]) : Int) = 1 := by rw [fresh_yes _ node now width rfl rfl hw0]; rfl
          rw [c1]; clear c1
          by_cases u1 : now < 1152921504606846976
          · by_cases u2 : -1152921504606846976 < now
            · have t1 : IntKind.i64.wrap (now + 1) = now + 1 := IntWalk.i64_in _ (by omega)
              go_wp2_with fail
              refine (OF (now + 1) (by omega) _ _ (World.alloc_heap_new _ _)).mono ?_
              rintro e w7 ⟨rfl, hb7⟩
              have c2 : (cntN node (live now width [⟨(node, now + 1), hwn, wf64 (by omega)⟩]) : Int) = 0 := by rw [early_no _ node now width rfl]; rfl
              rw [c2]; clear c2
              go_wp2_with (go_at_call 20; refine (known6_any _).mono ?_; rintro e w8 ⟨rfl, hb8⟩)
              go_ret
              exact ⟨rfl, bthen HB6.out (bthen (ballc _ _) (bthen hb7 hb8))⟩
            · have q3 : decide (-1152921504606846976 < now) = false := by simp; omega
              go_wp2_with (go_at_call 20; refine (known6_any _).mono ?_; rintro e w8 ⟨rfl, hb8⟩)
              go_ret
              exact ⟨rfl, bthen HB6.out hb8⟩
          · have q3 : decide (now < 1152921504606846976) = false := by simp; omega
            go_wp2_with (go_at_call 20; refine (known6_any _).mono ?_; rintro e w8 ⟨rfl, hb8⟩)
            go_ret
            exact ⟨rfl, bthen HB6.out hb8⟩
        · have c1 : (cntN node (live now width [⟨(node, now), hwn, wf64 (by omega)⟩]) : Int) = 0 := by rw [fresh_no _ node now width rfl hw0]; rfl
          rw [c1]; clear c1
          have q4 : decide (0 < width) = false := by simp; omega
          by_cases u1 : now < 1152921504606846976
          · by_cases u2 : -1152921504606846976 < now
            · have t1 : IntKind.i64.wrap (now + 1) = now + 1 := IntWalk.i64_in _ (by omega)
              go_wp2_with fail
              refine (OF (now + 1) (by omega) _ _ (World.alloc_heap_new _ _)).mono ?_
              rintro e w7 ⟨rfl, hb7⟩
              have c2 : (cntN node (live now width [⟨(node, now + 1), hwn, wf64 (by omega)⟩]) : Int) = 0 := by rw [early_no _ node now width rfl]; rfl
              rw [c2]; clear c2
              go_wp2_with (go_at_call 20; refine (known6_any _).mono ?_; rintro e w8 ⟨rfl, hb8⟩)
              go_ret
              exact ⟨rfl, bthen HB6.out (bthen (ballc _ _) (bthen hb7 hb8))⟩
            · have q3 : decide (-1152921504606846976 < now) = false := by simp; omega
              go_wp2_with (go_at_call 20; refine (known6_any _).mono ?_; rintro e w8 ⟨rfl, hb8⟩)
              go_ret
              exact ⟨rfl, bthen HB6.out hb8⟩
          · have q3 : decide (now < 1152921504606846976) = false := by simp; omega
            go_wp2_with (go_at_call 20; refine (known6_any _).mono ?_; rintro e w8 ⟨rfl, hb8⟩)
            go_ret
            exact ⟨rfl, bthen HB6.out hb8⟩
end Go.Proofs.Ytnllidjbehonkaa.LawLogFades
