/- The walk of LogKeeps: for rows of notes that lie in memory and integers that fit int it returns true and makes at most new memory. -/
import Derived.Test.YtnllidjbehonkaaLogY
namespace Go.Proofs.Ytnllidjbehonkaa.LawLogKeeps
open Go.ChangeShapes Go.WideShapes Go.ChangeAt Go.RowKit Go.Shelf
set_option linter.unusedVariables false
attribute [local go_sem ↓] Go.wp_at_zero Go.wp_at_succ

set_option maxHeartbeats 8000000 in
theorem walk (ad : Option Addr) (cap : Nat) (es : List Note) (e : Note) (now width : Int) (W : World) (hl : es.length ≤ 9223372036854775807) (hE : Ents W.heap.size W (.slice ad es.length cap) es)
    (hnow : -9223372036854775808 ≤ now ∧ now ≤ 9223372036854775807) (hwd : -9223372036854775808 ≤ width ∧ width ≤ 9223372036854775807) :
    Calls Try.prog 7 #[.slice ad es.length cap, agg2 e, .int .i64 now, .int .i64 width] W fun e w' => e = .returned (.bool true) ∧ Below W.heap.size W w' := by
  simp only [agg2]
  have hB0 : Below W.heap.size W (W.alloc (.cells #[.int .i64 e.1.1, .int .i64 e.1.2] 29)) := ballc _ _
  by_cases h100 : 100 < es.length
  · go_enter Try.func7, Try.ntmps7
    go_wp2_with (go_at_call 20; refine (known6_any _).mono ?_; rintro e w1 ⟨rfl, hb⟩)
    go_ret
    exact ⟨rfl, bthen hB0 hb⟩
  have hx0 := Boxed2.new W e
  have hE0 := hE.later hB0
  have AD := fun V h => LAdd_any ad es.length cap es e (by omega) V h
  have RD := fun V h => rLAdd_any ad es.length cap es e (by omega) V h
  simp only [agg2] at AD RD
  go_enter Try.func7, Try.ntmps7
  go_wp2_with fail
  refine (AD _ hE0).mono ?_
  rintro r w1 ⟨ad1, cap1, rfl, hA, hb1⟩
  have hx1 : Boxed2 w1 W.heap.size e := (hb1.block _ (by simp)).trans hx0
  have x0 := hx1.cell.1
  have x1 := hx1.cell.2
  go_wp2_with fail
  refine (RD _ (hE0.later hb1)).mono ?_
  rintro r w2 ⟨ad2, cap2, rfl, hR, hb2⟩
  have hs1 : W.heap.size < w1.heap.size := (Array.getElem?_eq_some_iff.1 hx1).1
  have hx2 : Boxed2 w2 W.heap.size e := (hb2.block _ hs1).trans hx1
  have hs2 : W.heap.size < w2.heap.size := (Array.getElem?_eq_some_iff.1 hx2).1
  have z0 := hx2.cell.1
  have hL := hE0.later (bthen hb1 hb2)
  have hA2 := hA.later hb2
  have HB := hidden (bthen hB0 (bthen hb1 hb2))
  clear x0 x1 AD RD hA hb1 hb2 hx0 hx1 hE0 hE hB0 hs1
  have cP : ∀ W, Below w2.heap.size w2 W → Calls Try.prog 24 #[.slice ad es.length cap, .int .i64 now, .int .i64 width] W fun r w' => ∃ ad' cap', r = .returned (.slice ad' (live now width es).length cap') ∧ Ents w'.heap.size w' (.slice ad' (live now width es).length cap') (live now width es) ∧ Below w2.heap.size w2 w' := fun W hW =>
    (Purge_any _ _ _ now width _ (by omega) W (hL.later hW)).mono fun r w' ⟨ad', cap', hr, hE, hb⟩ => ⟨ad', cap', hr, hE, bthen hW hb⟩
  have cRP : ∀ W0 W, Below w2.heap.size w2 W0 → Below W0.heap.size W0 W → Calls Try.prog 25 #[.slice ad es.length cap, .int .i64 now, .int .i64 width] W fun r w' => ∃ ad' cap', r = .returned (.slice ad' (live now width es).length cap') ∧ Ents w'.heap.size w' (.slice ad' (live now width es).length cap') (live now width es) ∧ Below w2.heap.size w2 w' ∧ Below W0.heap.size W0 w' := fun W0 W h0 hW =>
    (rPurge_any _ _ _ now width _ (by omega) W (hL.later (bthen h0 hW))).mono fun r w' ⟨ad', cap', hr, hE, hb⟩ => ⟨ad', cap', hr, hE, bthen h0 (bthen hW hb), bthen hW hb⟩
  have cS : ∀ a c a' c' W0 W, Ents W0.heap.size W0 (.slice a (live now width es).length c) (live now width es) → Ents W0.heap.size W0 (.slice a' (live now width es).length c') (live now width es) → Below w2.heap.size w2 W0 → Below W0.heap.size W0 W → Calls Try.prog 23 #[.slice a (live now width es).length c, .slice a' (live now width es).length c'] W fun r w' => r = .returned (.bool true) ∧ Below w2.heap.size w2 w' := fun a c a' c' W0 W h1 h2 h0 hW =>
    (Same_any _ _ _ _ _ _ _ W (Nat.le_trans (live_le _ _ _) (by omega)) (h1.later hW) (h2.later hW)).mono fun r w' ⟨hr, hb⟩ => ⟨hr, bthen h0 (bthen hW hb)⟩
  have cM : ∀ W, Below w2.heap.size w2 W → Calls Try.prog 23 #[.slice ad1 (addL es e).length cap1, .slice ad2 (addL es e).length cap2] W fun r w' => r = .returned (.bool true) ∧ Below w2.heap.size w2 w' := fun W hW =>
    (Same_any _ _ _ _ _ _ _ W (by rw [addL_length]; omega) (hA2.later hW) (hR.later hW)).mono fun r w' ⟨hr, hb⟩ => ⟨hr, bthen hW hb⟩
  have cC : ∀ W, Below w2.heap.size w2 W → Calls Try.prog 26 #[.slice ad es.length cap, .int .i64 now, .int .i64 width] W fun r w' => r = .returned (.int .i64 ((nodesOf (live now width es)).length : Int)) ∧ Below w2.heap.size w2 w' := fun W hW =>
    (Count_any _ _ _ now width _ (by omega) W (hL.later hW)).mono fun r w' ⟨hr, hb⟩ => ⟨hr, bthen hW hb⟩
  have cRC : ∀ W, Below w2.heap.size w2 W → Calls Try.prog 27 #[.slice ad es.length cap, .int .i64 now, .int .i64 width] W fun r w' => r = .returned (.int .i64 ((nodesOf (live now width es)).length : Int)) ∧ Below w2.heap.size w2 w' := fun W hW =>
    (rCount_any _ _ _ now width _ (by omega) W (hL.later hW)).mono fun r w' ⟨hr, hb⟩ => ⟨hr, bthen hW hb⟩
  have cO : ∀ W, Below w2.heap.size w2 W → Calls Try.prog 28 #[.slice ad es.length cap, .int .i64 e.1.1, .int .i64 now, .int .i64 width] W fun r w' => r = .returned (.int .i64 (cntN e.1.1 (live now width es) : Int)) ∧ Below w2.heap.size w2 w' := fun W hW =>
    (Of_any _ _ _ e.1.1 now width _ e.2.1 (by omega) W (hL.later hW)).mono fun r w' ⟨hr, hb⟩ => ⟨hr, bthen hW hb⟩
  have cRO : ∀ W, Below w2.heap.size w2 W → Calls Try.prog 29 #[.slice ad es.length cap, .int .i64 e.1.1, .int .i64 now, .int .i64 width] W fun r w' => r = .returned (.int .i64 (cntN e.1.1 (live now width es) : Int)) ∧ Below w2.heap.size w2 w' := fun W hW =>
    (rOf_any _ _ _ e.1.1 now width _ (by omega) W (hL.later hW)).mono fun r w' ⟨hr, hb⟩ => ⟨hr, bthen hW hb⟩
  have cW : ∀ W, Below w2.heap.size w2 W → Calls Try.prog 31 #[.slice ad es.length cap, .int .i64 now, .int .i64 width] W fun r w' => ∃ ad' cap', r = .returned (.slice ad' (nodesOf (live now width es)).length cap') ∧ Nums w'.heap.size w' (.slice ad' (nodesOf (live now width es)).length cap') (nodesOf (live now width es)) ∧ Below w2.heap.size w2 w' := fun W hW =>
    (Who_any _ _ _ now width _ (by omega) W (hL.later hW)).mono fun r w' ⟨ad', cap', hr, hE, hb⟩ => ⟨ad', cap', hr, hE, bthen hW hb⟩
  have cRW : ∀ W0 W, Below w2.heap.size w2 W0 → Below W0.heap.size W0 W → Calls Try.prog 32 #[.slice ad es.length cap, .int .i64 now, .int .i64 width] W fun r w' => ∃ ad' cap', r = .returned (.slice ad' (nodesOf (live now width es)).length cap') ∧ Nums w'.heap.size w' (.slice ad' (nodesOf (live now width es)).length cap') (nodesOf (live now width es)) ∧ Below w2.heap.size w2 w' ∧ Below W0.heap.size W0 w' := fun W0 W h0 hW =>
    (rWho_any _ _ _ now width _ (by omega) W (hL.later (bthen h0 hW))).mono fun r w' ⟨ad', cap', hr, hE, hb⟩ => ⟨ad', cap', hr, hE, bthen h0 (bthen hW hb), bthen hW hb⟩
  have cI : ∀ a c a' c' W0 W, Nums W0.heap.size W0 (.slice a (nodesOf (live now width es)).length c) (nodesOf (live now width es)) → Nums W0.heap.size W0 (.slice a' (nodesOf (live now width es)).length c') (nodesOf (live now width es)) → Below w2.heap.size w2 W0 → Below W0.heap.size W0 W → Calls Try.prog 30 #[.slice a (nodesOf (live now width es)).length c, .slice a' (nodesOf (live now width es)).length c'] W fun r w' => r = .returned (.bool true) ∧ Below w2.heap.size w2 w' := fun a c a' c' W0 W h1 h2 h0 hW =>
    (Ints_any _ _ _ _ _ _ _ W (Nat.le_trans (nodesOf_length _) (Nat.le_trans (live_le _ _ _) (by omega))) (h1.later hW) (h2.later hW)).mono fun r w' ⟨hr, hb⟩ => ⟨hr, bthen h0 (bthen hW hb)⟩
  have cK : ∀ W, Below w2.heap.size w2 W → Calls Try.prog 20 #[] W fun r w' => r = .returned (.bool true) ∧ Below w2.heap.size w2 w' := fun W hW =>
    (known6_any W).mono fun r w' ⟨hr, hb⟩ => ⟨hr, bthen hW hb⟩
  clear hL hA2 hR hx2
  generalize live now width es = ls at cP cRP cS cC cRC cO cRO cW cRW cI
  generalize nodesOf ls = zs at cC cRC cW cRW cI
  generalize cntN e.1.1 ls = cn at cO cRO
  generalize addL es e = al at cM ⊢
  generalize decide (64 ≤ es.length) = fb
  go_wp2
  go_region_held3 (fun w' => w'.cell? ⟨W.heap.size, 0, none⟩ = some (.int .i64 e.1.1)) (first | go_keep | assumption)
    (first
      | (go_at_call 24; refine (cP _ (by repeat (first | exact Below.refl _ _ | refine Below.drew ?_))).mono ?_; rintro r w3 ⟨ad3, cap3, rfl, hP3, hb3⟩; have y3 := (hb3.cell (p := ⟨W.heap.size, 0, none⟩) hs2).trans z0)
      | (go_at_call 25; refine (cRP w3 _ hb3 (by repeat (first | exact Below.refl _ _ | refine Below.drew ?_))).mono ?_; rintro r w4 ⟨ad4, cap4, rfl, hP4, hb4, hk4⟩; have hQ4 := hP3.later hk4; have y4 := (hb4.cell (p := ⟨W.heap.size, 0, none⟩) hs2).trans z0)
      | (go_at_call 23; refine (cS _ _ _ _ w4 _ hQ4 hP4 hb4 (by repeat (first | exact Below.refl _ _ | refine Below.drew ?_))).mono ?_; clear cS; rintro r w5 ⟨rfl, hb5⟩; have y5 := (hb5.cell (p := ⟨W.heap.size, 0, none⟩) hs2).trans z0)
      | (go_at_call 23; refine (cM _ (hb5.trans (Below.mono (B := w5.heap.size) (by repeat (first | exact Below.refl _ _ | refine Below.drew ?_)) hb5.size))).mono ?_; rintro r w6 ⟨rfl, hb6⟩; have y6 := (hb6.cell (p := ⟨W.heap.size, 0, none⟩) hs2).trans z0)
      | (go_at_call 26; refine (cC _ (hb6.trans (Below.mono (B := w6.heap.size) (by repeat (first | exact Below.refl _ _ | refine Below.drew ?_)) hb6.size))).mono ?_; rintro r w7 ⟨rfl, hb7⟩; have y7 := (hb7.cell (p := ⟨W.heap.size, 0, none⟩) hs2).trans z0)
      | (go_at_call 27; refine (cRC _ (hb7.trans (Below.mono (B := w7.heap.size) (by repeat (first | exact Below.refl _ _ | refine Below.drew ?_)) hb7.size))).mono ?_; rintro r w8 ⟨rfl, hb8⟩; have y8 := (hb8.cell (p := ⟨W.heap.size, 0, none⟩) hs2).trans z0)
      | (go_at_call 28; refine (cO _ (hb8.trans (Below.mono (B := w8.heap.size) (by repeat (first | exact Below.refl _ _ | refine Below.drew ?_)) hb8.size))).mono ?_; rintro r w9 ⟨rfl, hb9⟩; have y9 := (hb9.cell (p := ⟨W.heap.size, 0, none⟩) hs2).trans z0)
      | (go_at_call 29; refine (cRO _ (hb9.trans (Below.mono (B := w9.heap.size) (by repeat (first | exact Below.refl _ _ | refine Below.drew ?_)) hb9.size))).mono ?_; rintro r w10 ⟨rfl, hb10⟩; have y10 := (hb10.cell (p := ⟨W.heap.size, 0, none⟩) hs2).trans z0)
      | (go_at_call 31; refine (cW _ (hb10.trans (Below.mono (B := w10.heap.size) (by repeat (first | exact Below.refl _ _ | refine Below.drew ?_)) hb10.size))).mono ?_; rintro r w11 ⟨ad11, cap11, rfl, hZ11, hb11⟩; have y11 := (hb11.cell (p := ⟨W.heap.size, 0, none⟩) hs2).trans z0)
      | (go_at_call 32; refine (cRW w11 _ hb11 (by repeat (first | exact Below.refl _ _ | refine Below.drew ?_))).mono ?_; rintro r w12 ⟨ad12, cap12, rfl, hZ12, hb12, hk12⟩; have hY12 := hZ11.later hk12; have y12 := (hb12.cell (p := ⟨W.heap.size, 0, none⟩) hs2).trans z0)
      | (go_at_call 30; refine (cI _ _ _ _ w12 _ hY12 hZ12 hb12 (by repeat (first | exact Below.refl _ _ | refine Below.drew ?_))).mono ?_; rintro r w13 ⟨rfl, hb13⟩; have y13 := (hb13.cell (p := ⟨W.heap.size, 0, none⟩) hs2).trans z0)
      | (go_at_call 20; refine (cK _ (hb13.trans (Below.mono (B := w13.heap.size) (by repeat (first | exact Below.refl _ _ | refine Below.drew ?_)) hb13.size))).mono ?_; rintro r w14 ⟨rfl, hb14⟩; have y14 := (hb14.cell (p := ⟨W.heap.size, 0, none⟩) hs2).trans z0))
  all_goals (go_wp2; go_ret; exact ⟨rfl, bthen HB.out hb14⟩)
end Go.Proofs.Ytnllidjbehonkaa.LawLogKeeps
