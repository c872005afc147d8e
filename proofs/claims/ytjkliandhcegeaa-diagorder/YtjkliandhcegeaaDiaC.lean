/- The calls Add and Total of package diag and of the document's answer return what plain functions give, and make at most new memory; no conditions. -/
import Derived.Test.YtjkliandhcegeaaDiaX
import Derived.Deep.RegionHeld3
import Derived.Deep.DeepCutAuto
namespace Go.Proofs.Ytjkliandhcegeaa
open Go.ChangeShapes Go.WideShapes Go.ChangeAt Go.RowKit
set_option linter.unusedVariables false
attribute [local go_sem] idx6_0 idx6_1 idx6_2 idx6_3 idx6_4 idx6_5

/-- The first k places of two together, the others of the first. -/
def mixF (x y : Nat → Int) (k : Nat) : Nat → Int := fun i => if i < k then x i + y i else x i
set_option maxHeartbeats 4000000 in
theorem DAdd_any (x y : Nat → Int) (w : World) :
    Calls Try.prog 14 #[.agg #[.int .i64 (x 0), .int .i64 (x 1), .int .i64 (x 2), .int .i64 (x 3), .int .i64 (x 4), .int .i64 (x 5)], .agg #[.int .i64 (y 0), .int .i64 (y 1), .int .i64 (y 2), .int .i64 (y 3), .int .i64 (y 4), .int .i64 (y 5)]] w fun e w' => e = .returned (.agg #[.int .i64 ((addF x y) 0), .int .i64 ((addF x y) 1), .int .i64 ((addF x y) 2), .int .i64 ((addF x y) 3), .int .i64 ((addF x y) 4), .int .i64 ((addF x y) 5)]) ∧ Below w.heap.size w w' := by
  go_enter Try.func14, Try.ntmps14
  go_upto_region 1 with fail
  go_cut [5, 6] (fun p q wx => ∃ g5 g6 : Nat, p = .pointer (some ⟨g5, 0, none⟩) ∧ q = .pointer (some ⟨g6, 0, none⟩) ∧ Box wx g5 (cleanF x) ∧ Box wx g6 (cleanF y) ∧ g5 ≠ g6 ∧ w.heap.size + 3 ≤ g5 ∧ w.heap.size + 3 ≤ g6 ∧ Box wx (w.heap.size + 1 + 1) (fun _ => 0) ∧ Below w.heap.size w wx)
  case first =>
    have hS := three_boxes x y w
    have hC0 : Chn (w.heap.size + 3) (((w.alloc (.cells #[.int .i64 (x 0), .int .i64 (x 1), .int .i64 (x 2), .int .i64 (x 3), .int .i64 (x 4), .int .i64 (x 5)] 22)).alloc (.cells #[.int .i64 (y 0), .int .i64 (y 1), .int .i64 (y 2), .int .i64 (y 3), .int .i64 (y 4), .int .i64 (y 5)] 22)).alloc (.cells #[.int .i64 0, .int .i64 0, .int .i64 0, .int .i64 0, .int .i64 0, .int .i64 0] 22)) (((w.alloc (.cells #[.int .i64 (x 0), .int .i64 (x 1), .int .i64 (x 2), .int .i64 (x 3), .int .i64 (x 4), .int .i64 (x 5)] 22)).alloc (.cells #[.int .i64 (y 0), .int .i64 (y 1), .int .i64 (y 2), .int .i64 (y 3), .int .i64 (y 4), .int .i64 (y 5)] 22)).alloc (.cells #[.int .i64 0, .int .i64 0, .int .i64 0, .int .i64 0, .int .i64 0, .int .i64 0] 22)) := Chn.refl (by simp)
    have hC1 : Chn w.heap.size w w := Chn.refl (Nat.le_refl _)
    have cA := fun z W => DClean_eq z W
    go_region_held3 (fun w' => w'.cell? ⟨w.heap.size, 0, none⟩ = some (.int .i64 (x 0)) ∧ w'.cell? ⟨w.heap.size, 1, none⟩ = some (.int .i64 (x 1)) ∧ w'.cell? ⟨w.heap.size, 2, none⟩ = some (.int .i64 (x 2)) ∧ w'.cell? ⟨w.heap.size, 3, none⟩ = some (.int .i64 (x 3)) ∧ w'.cell? ⟨w.heap.size, 4, none⟩ = some (.int .i64 (x 4)) ∧ w'.cell? ⟨w.heap.size, 5, none⟩ = some (.int .i64 (x 5)) ∧ w'.cell? ⟨w.heap.size + 1, 0, none⟩ = some (.int .i64 (y 0)) ∧ w'.cell? ⟨w.heap.size + 1, 1, none⟩ = some (.int .i64 (y 1)) ∧ w'.cell? ⟨w.heap.size + 1, 2, none⟩ = some (.int .i64 (y 2)) ∧ w'.cell? ⟨w.heap.size + 1, 3, none⟩ = some (.int .i64 (y 3)) ∧ w'.cell? ⟨w.heap.size + 1, 4, none⟩ = some (.int .i64 (y 4)) ∧ w'.cell? ⟨w.heap.size + 1, 5, none⟩ = some (.int .i64 (y 5))) (first | exact (hS _ (by repeat (first | with_reducible exact hC0 | with_reducible refine Chn.alloc ?_ _ | with_reducible refine Chn.drew ?_))).1)
      (first
        | (go_at_call 12; refine (cA _ _).mono ?_; rintro e w1 ⟨rfl, rfl⟩))
    all_goals
      go_wp2_with fail
      go_meet
      case rel =>
        exact ⟨_, _, rfl, rfl, by (with_reducible refine Box.drew1 ?_); repeat (first | (refine Box.newAt ?_ rfl; (simp only [World.size_alloc]; done)) | with_reducible refine Box.old ?_ _), by (with_reducible refine Box.drew1 ?_); repeat (first | (refine Box.newAt ?_ rfl; (simp only [World.size_alloc]; done)) | with_reducible refine Box.old ?_ _), by omega, by omega, by omega, (hS _ (by repeat (first | with_reducible exact hC0 | with_reducible refine Chn.alloc ?_ _ | with_reducible refine Chn.drew ?_))).2, (show Chn w.heap.size w _ by repeat (first | with_reducible exact hC1 | with_reducible refine Chn.alloc ?_ _ | with_reducible refine Chn.drew ?_)).1⟩
  case rest =>
    obtain ⟨g5, g6, rfl, rfl, h5, h6, hne, hl5, hl6, h2, hB⟩ := hcut
    have hx0 := clean_bd x
    have hy0 := clean_bd y
    have HA : Hid (∀ i, i < 6 → cleanF (mixF (cleanF x) (cleanF y) 6) i = addF x y i) := fun i hi => by unfold addF; simp only [cleanF, mixF, if_pos hi]
    generalize cleanF x = X at h5 hx0 HA
    generalize cleanF y = Y at h6 hy0 HA
    go_wp2
    go_loopw [12] (fun i wr => ∃ k : Nat, k ≤ 6 ∧ i = .int .i64 k ∧ Box wr g5 (mixF X Y k) ∧ Box wr g6 Y ∧ Box wr (w.heap.size + 1 + 1) (fun _ => 0) ∧ Below w.heap.size w wr) (fun i _ => 6 - (intV i).toNat)
    case atStart => exact ⟨0, by omega, rfl, h5.congr (fun i _ => by simp [mixF]), h6, h2, hB⟩
    case round =>
      obtain ⟨k, hk, rfl, b5, b6, b2, hb⟩ := hrel
      have HB := hidden hb
      clear hb h5 h6 h2 hB
      by_cases hlt : k < 6
      · have c5 := b5.at k hlt
        have c6 := b6.at k hlt
        have f5 := b5.open k
        have B5 := hidden b5
        have B6 := hidden b6
        have B2 := hidden b2
        have hm : mixF X Y k k = X k := by simp [mixF]
        rw [hm] at c5
        have x1 := hx0 k
        have y1 := hy0 k
        have HX : Hid (∀ i, i < 6 → (if i = k then X k + Y k else mixF X Y k i) = mixF X Y (k + 1) i) := fun i hi => by
          unfold mixF
          by_cases e : i = k
          · subst e; simp
          · rw [if_neg e]
            by_cases l : i < k
            · rw [if_pos l, if_pos (by omega)]
            · rw [if_neg l, if_neg (by omega)]
        generalize X k = xk at *
        generalize Y k = yk at *
        have t1 : IntKind.i64.wrap (xk + yk) = xk + yk := IntWalk.i64_in _ (by omega)
        have i1 : (0 : Int) ≤ (k : Int) := by omega
        have i2 : (k : Int) < 6 := by omega
        clear b5 b6 b2 hm hx0 hy0
        go_wp2
        go_region
        go_wp2
        go_roundw
        case rel => exact ⟨k + 1, by omega, by go_num, (B5.out.set k hlt (xk + yk)).congr HX.out, B6.out.other (fun e => hne e.symm) _ _, B2.out.other (by omega) _ _, (HB.out.setCell (p := ⟨g5, k, none⟩) (show w.heap.size ≤ g5 by omega) _).drew⟩
        case measure => simp [intV]; omega
      · obtain rfl : k = 6 := by omega
        have n0 := b5.at 0 (by decide)
        have n1 := b5.at 1 (by decide)
        have n2 := b5.at 2 (by decide)
        have n3 := b5.at 3 (by decide)
        have n4 := b5.at 4 (by decide)
        have n5 := b5.at 5 (by decide)
        have hgl := b2.lt
        have HB2 := hidden b2
        have HM := hidden HA
        clear b5 b6 b2 hne hl5 hl6 hk hlt hx0 hy0 HA
        generalize mixF X Y 6 = M at *
        go_wp2_with fail
        refine (DClean_any _ _).mono ?_
        rintro e w1 ⟨rfl, hb1⟩
        have HB3 := hidden (HB2.out.below hb1)
        have HB4 := hidden (bthen HB.out hb1)
        have z0 : w1.cell? ⟨w.heap.size + 1 + 1, 0, none⟩ = some (.int .i64 0) := HB3.out.at 0 (by decide)
        have z1 : w1.cell? ⟨w.heap.size + 1 + 1, 1, none⟩ = some (.int .i64 0) := HB3.out.at 1 (by decide)
        have z2 : w1.cell? ⟨w.heap.size + 1 + 1, 2, none⟩ = some (.int .i64 0) := HB3.out.at 2 (by decide)
        have z3 : w1.cell? ⟨w.heap.size + 1 + 1, 3, none⟩ = some (.int .i64 0) := HB3.out.at 3 (by decide)
        have z4 : w1.cell? ⟨w.heap.size + 1 + 1, 4, none⟩ = some (.int .i64 0) := HB3.out.at 4 (by decide)
        have z5 : w1.cell? ⟨w.heap.size + 1 + 1, 5, none⟩ = some (.int .i64 0) := HB3.out.at 5 (by decide)
        have zf : ∀ i, w1.frozen? ⟨w.heap.size + 1 + 1, i, none⟩ = false := HB3.out.open
        clear hb1 n0 n1 n2 n3 n4 n5 hgl
        go_wp2
        obtain ⟨r0, r1, r2, r3, r4, r5⟩ := six_read HB3.out (.int .i64 (cleanF M 0)) (.int .i64 (cleanF M 1)) (.int .i64 (cleanF M 2)) (.int .i64 (cleanF M 3)) (.int .i64 (cleanF M 4)) (.int .i64 (cleanF M 5))
        refine bodyPost_ret (v := .agg #[.int .i64 ((cleanF M) 0), .int .i64 ((cleanF M) 1), .int .i64 ((cleanF M) 2), .int .i64 ((cleanF M) 3), .int .i64 ((cleanF M) 4), .int .i64 ((cleanF M) 5)]) (by simp [results, Try.results14, go_sem, r0, r1, r2, r3, r4, r5]) rfl ⟨by rw [six_congr HM.out], ?_⟩
        exact (((((HB4.out.setCell (p := ⟨_, _, none⟩) (by simp only; omega) _).setCell (p := ⟨_, _, none⟩) (by simp only; omega) _).setCell (p := ⟨_, _, none⟩) (by simp only; omega) _).setCell (p := ⟨_, _, none⟩) (by simp only; omega) _).setCell (p := ⟨_, _, none⟩) (by simp only; omega) _).setCell (p := ⟨_, _, none⟩) (by simp only; omega) _
end Go.Proofs.Ytjkliandhcegeaa
