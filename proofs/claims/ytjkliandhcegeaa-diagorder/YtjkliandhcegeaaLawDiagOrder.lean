/- The walk of the statement DiagOrder: the call returns true, and makes at most new memory; conditions: the rows lie where they say, and numbers fit int. -/
import Derived.Test.YtjkliandhcegeaaDiaK
namespace Go.Proofs.Ytjkliandhcegeaa.LawDiagOrder
open Go.ChangeShapes Go.WideShapes Go.ChangeAt Go.RowKit
set_option linter.unusedVariables false
attribute [local go_sem] cell_rg eql6 eqIn6

theorem rev_snoc (l : List Int) (k : Nat) (hk : k < l.length) : l.reverse.take (k + 1) = l.reverse.take k ++ [l[l.length - 1 - k]'(by omega)] := by
  have hr : k < l.reverse.length := by simpa using hk
  rw [List.take_add_one, List.getElem?_eq_getElem hr, List.getElem_reverse]
  rfl
theorem Hid.go {q : Prop} (h : Hid q) : q := h
set_option maxHeartbeats 4000000 in
theorem walk (x : Nat → Int) (ad : Option Addr) (cap : Nat) (zs : List Int) (ad2 : Option Addr) (cap2 : Nat) (ys : List Int) (y : Nat → Int) (w : World) (hx : ∀ i, (Lit.int .i64 (x i)).wf = true) (hl : zs.length ≤ 9223372036854775807) (hZ : kInt.Lies w.heap.size w (.slice ad zs.length cap) zs)
    (hl2 : ys.length ≤ 9223372036854775807) (hY : kInt.Lies w.heap.size w (.slice ad2 ys.length cap2) ys) (hy : ∀ i, (Lit.int .i64 (y i)).wf = true) :
    Calls Try.prog 5 #[.agg #[.int .i64 (x 0), .int .i64 (x 1), .int .i64 (x 2), .int .i64 (x 3), .int .i64 (x 4), .int .i64 (x 5)], .slice ad zs.length cap, .slice ad2 ys.length cap2, .agg #[.int .i64 (y 0), .int .i64 (y 1), .int .i64 (y 2), .int .i64 (y 3), .int .i64 (y 4), .int .i64 (y 5)]] w fun e w' => e = .returned (.bool true) ∧ Below w.heap.size w w' := by
  have hb0 : Box ((w.alloc (.cells #[.int .i64 (x 0), .int .i64 (x 1), .int .i64 (x 2), .int .i64 (x 3), .int .i64 (x 4), .int .i64 (x 5)] 22)).alloc (.cells #[.int .i64 (y 0), .int .i64 (y 1), .int .i64 (y 2), .int .i64 (y 3), .int .i64 (y 4), .int .i64 (y 5)] 22)) w.heap.size x := (Box.new w x).old _
  have hb1 : Box ((w.alloc (.cells #[.int .i64 (x 0), .int .i64 (x 1), .int .i64 (x 2), .int .i64 (x 3), .int .i64 (x 4), .int .i64 (x 5)] 22)).alloc (.cells #[.int .i64 (y 0), .int .i64 (y 1), .int .i64 (y 2), .int .i64 (y 3), .int .i64 (y 4), .int .i64 (y 5)] 22)) (w.heap.size + 1) y := Box.newAt (by simp) rfl
  have hB0 : Below w.heap.size w ((w.alloc (.cells #[.int .i64 (x 0), .int .i64 (x 1), .int .i64 (x 2), .int .i64 (x 3), .int .i64 (x 4), .int .i64 (x 5)] 22)).alloc (.cells #[.int .i64 (y 0), .int .i64 (y 1), .int .i64 (y 2), .int .i64 (y 3), .int .i64 (y 4), .int .i64 (y 5)] 22)) := ((Below.refl _ w).alloc (Nat.le_refl _) _).alloc (by simp) _
  have HB := hidden hB0
  have h0 := hb0
  by_cases h40 : 40 < zs.length
  · have h40' : (40 : Int) < zs.length := by omega
    have d1 : decide ((40 : Int) < zs.length) = true := by simp; omega
    clear hZ hY hb0 hb1 h0 hB0
    go_enter Try.func5, Try.ntmps5
    go_wp2_with (go_at_call 9; refine (known9_any _).mono ?_; rintro e w1 ⟨rfl, hb⟩)
    go_ret
    exact ⟨rfl, bthen HB.out hb⟩
  have h40' : ¬ (40 : Int) < zs.length := by omega
  have d1 : decide ((40 : Int) < zs.length) = false := by simp; omega
  by_cases h41 : 40 < ys.length
  · have h41' : (40 : Int) < ys.length := by omega
    clear hZ hY hb0 hb1 h0 hB0
    go_enter Try.func5, Try.ntmps5
    go_wp2_with (go_at_call 9; refine (known9_any _).mono ?_; rintro e w1 ⟨rfl, hb⟩)
    go_ret
    exact ⟨rfl, bthen HB.out hb⟩
  have h41' : ¬ (40 : Int) < ys.length := by omega
  have d2 : decide ((40 : Int) < ys.length) = false := by simp; omega
  obtain ⟨i0, hi, hz0, hz1, hz2⟩ := info_of infoInt
  have hZ0 := hZ.later hB0
  have hY0 := hY.later hB0
  clear hZ hY
  go_enter Try.func5, Try.ntmps5
  have hs0 : ((w.alloc (.cells #[.int .i64 (x 0), .int .i64 (x 1), .int .i64 (x 2), .int .i64 (x 3), .int .i64 (x 4), .int .i64 (x 5)] 22)).alloc (.cells #[.int .i64 (y 0), .int .i64 (y 1), .int .i64 (y 2), .int .i64 (y 3), .int .i64 (y 4), .int .i64 (y 5)] 22)).heap.size = w.heap.size + 2 := by simp
  go_wp2_with (at_builtin; refine kInt.wpList_append _ rfl _ _ 23 rfl (w.heap.size + 2) 3 i0 (.int .i64 0) 8 Try.underlying23 hi hz0 hz1 hz2 rfl (.slice none 0 0) 0 [] rfl (World.ownsRow_nil _ _ _ _) (.slice ad zs.length cap) zs rfl hZ0 (by simp only [maxLen]; omega) (by omega) (by simp) ?_; intro v1 w1 hown1 hgrow1 _; refine Hid.go ?_)
  generalize ((w.alloc (.cells #[.int .i64 (x 0), .int .i64 (x 1), .int .i64 (x 2), .int .i64 (x 3), .int .i64 (x 4), .int .i64 (x 5)] 22)).alloc (.cells #[.int .i64 (y 0), .int .i64 (y 1), .int .i64 (y 2), .int .i64 (y 3), .int .i64 (y 4), .int .i64 (y 5)] 22)) = W0 at *
  have hb01 : Below W0.heap.size W0 w1 := (Below.refl _ _).grown hgrow1 (Nat.le_refl _) (fun k hk => by simp [Value.ownBlock] at hk)
  have hZ1 := hZ0.later hb01
  have hY1 := hY0.later hb01
  obtain ⟨a1, c1, rfl⟩ := own_slice hown1
  have HZ0 := hidden hZ0
  have HY0 := hidden hY0
  clear hZ0 hY0 hgrow1 hZ1
  refine hidden ?_
  go_wp2_with (at_builtin; refine kInt.wpList_append _ rfl _ _ 23 rfl (w.heap.size + 2) 3 i0 (.int .i64 0) 8 Try.underlying23 hi hz0 hz1 hz2 rfl (.slice a1 (0 + zs.length) c1) (0 + zs.length) ([] ++ kInt.flat zs) rfl hown1 (.slice ad2 ys.length cap2) ys rfl hY1 (by simp only [maxLen]; omega) (by omega) (by have := hb01.size; omega) ?_; intro v2 w2 hown2 hgrow2 _; refine Hid.go ?_)
  have hb02 : Below W0.heap.size W0 w2 := hb01.grown hgrow2 hb01.size (fun k hk => by have := own_from hown1 k hk; omega)
  have hall : w2.ownsRow (w.heap.size + 2) 3 1 v2 (zs ++ ys).length (kInt.flat (zs ++ ys)) := by
    rw [Kind.flat_append, List.length_append]
    have h := hown2
    rw [Nat.zero_add, List.nil_append] at h
    exact h
  have hal : (zs ++ ys).length ≤ 80 := by rw [List.length_append]; omega
  have hrb : bumpL x (zs ++ ys).reverse = bumpL x (zs ++ ys) := bumpL_reverse _ _
  have hab : bumpL (bumpL x zs) ys = bumpL x (zs ++ ys) := (bumpL_append _ _ _).symm
  have hwz := bumpL_wf hx zs
  have hZ2 := HZ0.out.later hb02
  have hY2 := HY0.out.later hb02
  have hA2 := Kind.Lies.of_own hall
  have hx0 := hb0.below hb02
  have hy0 := hb1.below hb02
  have hB2 := bthen hB0 hb02
  obtain ⟨a2, c2, rfl⟩ := own_slice hall
  generalize hL : zs ++ ys = L at *
  clear hown1 hown2 hgrow2 hb01 hb02 hY1 HZ0 HY0 hall hb0 hb1 hB0 h0 hL h40 h40' h41 h41' d1 d2 hs0 HB
  refine hidden ?_
  have hn1 : IntKind.i64.wrap ((L.length : Int) - 1) = (L.length : Int) - 1 := IntWalk.i64_in _ (by omega)
  have HA := hidden hA2
  have HX := hidden hx0
  have HY := hidden hy0
  have HB := hidden hB2
  have HZ := hidden hZ2
  have HW := hidden hY2
  clear hA2 hx0 hy0 hB2 hZ2 hY2
  go_wp2
  go_loopw [10, 11] (fun v i wr => ∃ k : Nat, k ≤ L.length ∧ i = .int .i64 ((L.length : Int) - 1 - (k : Int)) ∧ wr.ownsRow w2.heap.size 3 1 v (L.reverse.take k).length (kInt.flat (L.reverse.take k)) ∧ Below w2.heap.size w2 wr) (fun _ i _ => (intV i + 1).toNat)
  case atStart => exact ⟨0, Nat.zero_le _, by simp, World.ownsRow_nil _ _ _ _, Below.refl _ _⟩
  case round =>
    obtain ⟨k, hk, rfl, hown, hb⟩ := hrel
    by_cases hlt : k < L.length
    · have hsn := rev_snoc L k hlt
      obtain ⟨b, off, rfl, hbl, e0⟩ := kInt_at HA.out (L.length - 1 - k) (by omega)
      have f0 : wr.cell? ⟨b, off + (L.length - 1 - k), none⟩ = some (.int .i64 (L[L.length - 1 - k]'(by omega))) := (hb.cell (p := ⟨b, off + (L.length - 1 - k), none⟩) hbl).trans e0
      clear e0
      have hlen : (L.reverse.take k).length = k := by rw [List.length_take, List.length_reverse]; omega
      generalize L[L.length - 1 - k]'(by omega) = z at f0 hsn
      have hj : ((L.length : Int) - 1 - (k : Int)) = ((L.length - 1 - k : Nat) : Int) := by omega
      have hjm : IntKind.i64.wrap (((L.length - 1 - k : Nat) : Int) - 1) = ((L.length - 1 - k : Nat) : Int) - 1 := IntWalk.i64_in _ (by omega)
      have HJ : Hid (((L.length - 1 - k : Nat) : Int) - 1 = (L.length : Int) - 1 - ((k + 1 : Nat) : Int)) := by show _ = _; omega
      have HJ2 : Hid (((L.length - 1 - k : Nat) : Int) = (L.length : Int) - 1 - (k : Int)) := by show _ = _; omega
      have HS := hidden hsn
      rw [hj]
      have j1 : L.length - 1 - k < L.length := by omega
      generalize L.length - 1 - k = j at *
      have i1 : (0 : Int) ≤ (j : Int) := by omega
      have i2 : (j : Int) < (L.length : Int) := by omega
      clear hsn hj
      have hbs := hb.size
      go_wp2_with (at_builtin; refine kInt.wpList_append _ rfl _ _ 23 rfl w2.heap.size 3 i0 (.int .i64 0) 8 Try.underlying23 hi hz0 hz1 hz2 rfl u10 _ _ rfl (hown.alloc _) (.slice (some ⟨wr.heap.size, 0, none⟩) 1 1) [z] rfl (Kind.Lies.of_block (K := kInt) (es := [z]) (heap_alloc_new wr _) (by simp [maxLen])) (by simp only [maxLen, hlen, List.length_singleton]; omega) (by simp only [hlen, List.length_singleton]; omega) (by simp; omega) ?_; intro v3 w3 hown3 hgrow3 _)
      go_roundw
      case rel => exact ⟨k + 1, by omega, by rw [← HJ.out], by rw [HS.out, Kind.flat_append, List.length_append]; exact hown3, (hb.alloc hb.size _).grown hgrow3 (by simp; omega) (own_from hown)⟩
      case measure => first | (simp [intV]; done) | (simp [intV]; omega)
    · obtain rfl : k = L.length := by omega
      have hrl : L.reverse.take L.length = L.reverse := List.take_of_length_le (by simp)
      rw [hrl] at hown
      obtain ⟨a3, c3, rfl⟩ := own_slice hown
      have HR := hidden (Kind.Lies.of_own hown)
      have HA3 := hidden (HA.out.later hb)
      have HZ3 := hidden (HZ.out.later hb)
      have HW3 := hidden (HW.out.later hb)
      have HX3 := hidden (HX.out.below hb)
      have HY3 := hidden (HY.out.below hb)
      have HB3 := hidden (bthen HB.out hb)
      have hlt2 : ¬ ((L.length : Int) - 1 - (L.length : Int) ≥ 0) := by omega
      have hlt3 : ((L.length : Int) - 1 - (L.length : Int)) = -1 := by omega
      rw [hlt3]
      have c0 := HX3.out.at 0 (by decide)
      have c1' := HX3.out.at 1 (by decide)
      have c2' := HX3.out.at 2 (by decide)
      have c3' := HX3.out.at 3 (by decide)
      have c4 := HX3.out.at 4 (by decide)
      have c5 := HX3.out.at 5 (by decide)
      have CZ : ∀ V, kInt.Lies V.heap.size V (.slice a2 L.length c2) L → Calls Try.prog 10 #[.agg #[.int .i64 (x 0), .int .i64 (x 1), .int .i64 (x 2), .int .i64 (x 3), .int .i64 (x 4), .int .i64 (x 5)], .slice a2 L.length c2] V fun e w' => e = .returned (.agg #[.int .i64 ((bumpL x L) 0), .int .i64 ((bumpL x L) 1), .int .i64 ((bumpL x L) 2), .int .i64 ((bumpL x L) 3), .int .i64 ((bumpL x L) 4), .int .i64 ((bumpL x L) 5)]) ∧ Below V.heap.size V w' := fun V h => Bump_any x hx _ _ _ L (by omega) V h
      have C1 : ∀ V, kInt.Lies V.heap.size V (.slice ad zs.length cap) zs → Calls Try.prog 10 #[.agg #[.int .i64 (x 0), .int .i64 (x 1), .int .i64 (x 2), .int .i64 (x 3), .int .i64 (x 4), .int .i64 (x 5)], .slice ad zs.length cap] V fun e w' => e = .returned (.agg #[.int .i64 ((bumpL x zs) 0), .int .i64 ((bumpL x zs) 1), .int .i64 ((bumpL x zs) 2), .int .i64 ((bumpL x zs) 3), .int .i64 ((bumpL x zs) 4), .int .i64 ((bumpL x zs) 5)]) ∧ Below V.heap.size V w' := fun V h => Bump_any x hx _ _ _ zs hl V h
      have C2 : ∀ V, kInt.Lies V.heap.size V (.slice ad2 ys.length cap2) ys → Calls Try.prog 10 #[.agg #[.int .i64 ((bumpL x zs) 0), .int .i64 ((bumpL x zs) 1), .int .i64 ((bumpL x zs) 2), .int .i64 ((bumpL x zs) 3), .int .i64 ((bumpL x zs) 4), .int .i64 ((bumpL x zs) 5)], .slice ad2 ys.length cap2] V fun e w' => e = .returned (.agg #[.int .i64 ((bumpL x L) 0), .int .i64 ((bumpL x L) 1), .int .i64 ((bumpL x L) 2), .int .i64 ((bumpL x L) 3), .int .i64 ((bumpL x L) 4), .int .i64 ((bumpL x L) 5)]) ∧ Below V.heap.size V w' := fun V h => Calls.ret_as (Bump_any (bumpL x zs) hwz _ _ _ ys hl2 V h) (by rw [hab])
      have C3 : ∀ V, kInt.Lies V.heap.size V (.slice a3 L.reverse.length c3) L.reverse → Calls Try.prog 10 #[.agg #[.int .i64 (x 0), .int .i64 (x 1), .int .i64 (x 2), .int .i64 (x 3), .int .i64 (x 4), .int .i64 (x 5)], .slice a3 L.reverse.length c3] V fun e w' => e = .returned (.agg #[.int .i64 ((bumpL x L) 0), .int .i64 ((bumpL x L) 1), .int .i64 ((bumpL x L) 2), .int .i64 ((bumpL x L) 3), .int .i64 ((bumpL x L) 4), .int .i64 ((bumpL x L) 5)]) ∧ Below V.heap.size V w' := fun V h => Calls.ret_as (Bump_any x hx _ _ _ L.reverse (by rw [List.length_reverse]; omega) V h) (by rw [hrb])
      have CA : ∀ V, Calls Try.prog 14 #[.agg #[.int .i64 (x 0), .int .i64 (x 1), .int .i64 (x 2), .int .i64 (x 3), .int .i64 (x 4), .int .i64 (x 5)], .agg #[.int .i64 (y 0), .int .i64 (y 1), .int .i64 (y 2), .int .i64 (y 3), .int .i64 (y 4), .int .i64 (y 5)]] V fun e w' => e = .returned (.agg #[.int .i64 ((addF x y) 0), .int .i64 ((addF x y) 1), .int .i64 ((addF x y) 2), .int .i64 ((addF x y) 3), .int .i64 ((addF x y) 4), .int .i64 ((addF x y) 5)]) ∧ Below V.heap.size V w' := fun V => DAdd_any x y V
      have CB : ∀ V, Calls Try.prog 14 #[.agg #[.int .i64 (y 0), .int .i64 (y 1), .int .i64 (y 2), .int .i64 (y 3), .int .i64 (y 4), .int .i64 (y 5)], .agg #[.int .i64 (x 0), .int .i64 (x 1), .int .i64 (x 2), .int .i64 (x 3), .int .i64 (x 4), .int .i64 (x 5)]] V fun e w' => e = .returned (.agg #[.int .i64 ((addF x y) 0), .int .i64 ((addF x y) 1), .int .i64 ((addF x y) 2), .int .i64 ((addF x y) 3), .int .i64 ((addF x y) 4), .int .i64 ((addF x y) 5)]) ∧ Below V.heap.size V w' := fun V => Calls.ret_as (DAdd_any y x V) (by rw [addF_comm])
      clear hab hrb hwz hlt hk hown hb HA HZ HW HX HY HB hal hn1 hlt2 hlt3 hrl
      generalize bumpL x L = Z at *
      generalize bumpL x zs = Y1 at *
      generalize addF x y = AB at *
      generalize L.reverse = LR at *
      go_wp2_with fail
      refine (CZ _ HA3.out).mono ?_
      rintro e w4 ⟨rfl, hb4⟩
      have HX4 := hidden ((HX3.out.below hb4).old (.cells #[.int .i64 (Z 0), .int .i64 (Z 1), .int .i64 (Z 2), .int .i64 (Z 3), .int .i64 (Z 4), .int .i64 (Z 5)] 22))
      have HY4 := hidden ((HY3.out.below hb4).old (.cells #[.int .i64 (Z 0), .int .i64 (Z 1), .int .i64 (Z 2), .int .i64 (Z 3), .int .i64 (Z 4), .int .i64 (Z 5)] 22))
      have HN4 := hidden (Box.new w4 Z)
      have hb5 := bthen hb4 (ballc w4 (.cells #[.int .i64 (Z 0), .int .i64 (Z 1), .int .i64 (Z 2), .int .i64 (Z 3), .int .i64 (Z 4), .int .i64 (Z 5)] 22))
      have HZ4 := hidden (HZ3.out.later hb5)
      have HW4 := hidden (HW3.out.later hb5)
      have HR4 := hidden (HR.out.later hb5)
      have HB4 := hidden (bthen HB3.out hb5)
      clear hb4 hb5 c0 c1' c2' c3' c4 c5 HX3 HY3 HB3 HZ3 HW3 HR HA3 CZ
      have l1 := HX4.out.lt
      have l2 := HY4.out.lt
      have l3 := HN4.out.lt
      have x0 := HX4.out.at 0 (by decide)
      have x1 := HX4.out.at 1 (by decide)
      have x2 := HX4.out.at 2 (by decide)
      have x3 := HX4.out.at 3 (by decide)
      have x4 := HX4.out.at 4 (by decide)
      have x5 := HX4.out.at 5 (by decide)
      have y0 := HY4.out.at 0 (by decide)
      have y1 := HY4.out.at 1 (by decide)
      have y2 := HY4.out.at 2 (by decide)
      have y3 := HY4.out.at 3 (by decide)
      have y4 := HY4.out.at 4 (by decide)
      have y5 := HY4.out.at 5 (by decide)
      have z0 := HN4.out.at 0 (by decide)
      have z1 := HN4.out.at 1 (by decide)
      have z2 := HN4.out.at 2 (by decide)
      have z3 := HN4.out.at 3 (by decide)
      have z4 := HN4.out.at 4 (by decide)
      have z5 := HN4.out.at 5 (by decide)
      go_wp2
      generalize w4.alloc (.cells #[.int .i64 (Z 0), .int .i64 (Z 1), .int .i64 (Z 2), .int .i64 (Z 3), .int .i64 (Z 4), .int .i64 (Z 5)] 22) = W5 at *
      refine wp_region_quiet_below (by kernel_rfl) (by kernel_rfl) ?_
      repeat (go_big_quiet_step (fail))
      go_big_quiet_step ((go_at_call 10; exact Calls.regrown_of (C1 _ (HZ4.out.later (below_regrown _ _ _)))))
      repeat (go_big_quiet_step (fail))
      go_big_quiet_step ((go_at_call 10; exact Calls.regrown_of (C2 _ (HW4.out.later (below_regrown _ _ _)))))
      repeat (go_big_quiet_step (fail))
      go_big_quiet_step ((go_at_call 10; exact Calls.regrown_of (C3 _ (HR4.out.later (below_regrown _ _ _)))))
      repeat (go_big_quiet_step (fail))
      go_big_quiet_step ((go_at_call 14; exact Calls.regrown_of (CA _)))
      repeat (go_big_quiet_step (fail))
      go_big_quiet_step ((go_at_call 14; exact Calls.regrown_of (CB _)))
      repeat (go_big_quiet_step (fail))
      go_big_quiet_step ((go_at_call 9; exact Calls.regrown_of (known9_any _)))
      repeat (go_big_quiet_step (fail))
      refine wpQuiet_nil ?_
      intro w6 hw6
      have hb6 := rg_below hw6
      clear hw6
      go_wp2
      go_ret
      exact ⟨rfl, bthen HB4.out hb6⟩
end Go.Proofs.Ytjkliandhcegeaa.LawDiagOrder
