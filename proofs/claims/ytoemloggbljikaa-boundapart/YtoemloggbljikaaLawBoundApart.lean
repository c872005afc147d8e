/- The walk of the statement BoundApart: the call returns true, and makes at most new memory; conditions: the table lies where it says, and its length fits int. -/
import Derived.Test.YtoemloggbljikaaBndN
namespace Go.Proofs.Ytoemloggbljikaa.LawBoundApart
open Go.ChangeShapes Go.WideShapes Go.ChangeAt Go.RowKit
set_option linter.unusedVariables false
attribute [local go_sem] cell_rg

theorem far_bd {o sl a b G r dr : Int} (ha : 0 ≤ a) (hab : a < b) (hg : 2 * G < sl) (hr : r + dr ≤ 2 * G) (sl1 : 1 ≤ sl) : 2 * G < midE o sl b - midE o sl a ∧ r + dr < midE o sl b - midE o sl a := by
  have e : midE o sl b - midE o sl a = (b - a) * sl := by
    unfold midE
    rw [Int.sub_mul]
    omega
  have h : 1 * sl ≤ (b - a) * sl := Int.mul_le_mul_of_nonneg_right (by omega) (by omega)
  rw [e]
  omega
theorem mid_mono {o sl b : Int} {zs : List Int} (hb : b < (zs.length : Int)) (sl1 : 1 ≤ sl) : midE o sl b ≤ lastE o sl zs := by
  unfold lastE midE
  have h : b * sl ≤ ((zs.length : Int) - 1) * sl := Int.mul_le_mul_of_nonneg_right (by omega) (by omega)
  omega

set_option maxHeartbeats 2000000 in
theorem walk (n f d p r dr o sl md fr : Int) (ad : Option Addr) (cap : Nat) (zs : List Int) (a b : Int) (w : World) (hl : zs.length ≤ 9223372036854775807) (hT : Tab w ad zs) (ha : -9223372036854775808 ≤ a ∧ a ≤ 9223372036854775807) (hb : -9223372036854775808 ≤ b ∧ b ≤ 9223372036854775807) :
    Calls Try.prog 8 #[.agg #[.int .i64 n, .int .i64 f, .int .i64 d, .int .i64 p, .int .i64 r, .int .i64 dr, .int .i64 o, .int .i64 sl, .int .i64 md, .int .i64 fr, .slice ad zs.length cap], .int .i64 a, .int .i64 b] w fun e w' => e = .returned (.bool true) ∧ Below w.heap.size w w' := by
  have HT : Hid (Tab (w.alloc (.cells #[.int .i64 n, .int .i64 f, .int .i64 d, .int .i64 p, .int .i64 r, .int .i64 dr, .int .i64 o, .int .i64 sl, .int .i64 md, .int .i64 fr, .slice ad zs.length cap] 24)) ad zs) := hT.below (ballc _ _)
  have HP := hidden (BRight_any n f d p r dr o sl md fr ad cap zs (w.alloc (.cells #[.int .i64 n, .int .i64 f, .int .i64 d, .int .i64 p, .int .i64 r, .int .i64 dr, .int .i64 o, .int .i64 sl, .int .i64 md, .int .i64 fr, .slice ad zs.length cap] 24)) hl HT.out)
  clear hT
  by_cases hR : rightE n f d p r dr o sl md fr zs = 0
  case neg =>
    generalize rightE n f d p r dr o sl md fr zs = E at *
    go_enter Try.func8, Try.ntmps8
    go_wp2_with fail
    refine HP.out.mono ?_
    rintro e w2 ⟨rfl, hb2⟩
    have HB2 := hidden hb2
    clear hb2
    go_wp2_with fail
    refine (known4_any _).mono ?_
    rintro e w3 ⟨rfl, hb3⟩
    have HB3 := hidden (bthen HB2.out hb3)
    clear hb3
    go_wp2
    go_ret
    exact ⟨rfl, bthen (ballc w _) HB3.out⟩
  obtain ⟨hE, hF⟩ := rightE_ok hR
  rw [hR] at HP
  by_cases hab : 0 ≤ a ∧ a < b ∧ b < (zs.length : Int)
  case neg =>
    clear hF hE hR
    by_cases c0 : a < 0
    · clear hab
      go_enter Try.func8, Try.ntmps8
      go_wp2_with fail
      refine HP.out.mono ?_
      rintro e w2 ⟨rfl, hb2⟩
      have HB2 := hidden hb2
      clear hb2
      go_wp2_with fail
      refine (known4_any _).mono ?_
      rintro e w3 ⟨rfl, hb3⟩
      have HB3 := hidden (bthen HB2.out hb3)
      clear hb3
      go_wp2
      go_ret
      exact ⟨rfl, bthen (ballc w _) HB3.out⟩
    by_cases c1 : b ≤ a
    · clear hab
      go_enter Try.func8, Try.ntmps8
      go_wp2_with fail
      refine HP.out.mono ?_
      rintro e w2 ⟨rfl, hb2⟩
      have HB2 := hidden hb2
      clear hb2
      go_wp2_with fail
      refine (known4_any _).mono ?_
      rintro e w3 ⟨rfl, hb3⟩
      have HB3 := hidden (bthen HB2.out hb3)
      clear hb3
      go_wp2
      go_ret
      exact ⟨rfl, bthen (ballc w _) HB3.out⟩
    · have c2 : (zs.length : Int) ≤ b := by omega
      clear hab
      go_enter Try.func8, Try.ntmps8
      go_wp2_with fail
      refine HP.out.mono ?_
      rintro e w2 ⟨rfl, hb2⟩
      have HB2 := hidden hb2
      clear hb2
      obtain ⟨hbox, hsz⟩ := box_at HB2.out
      go_wp2_with fail
      refine (known4_any _).mono ?_
      rintro e w3 ⟨rfl, hb3⟩
      have HB3 := hidden (bthen HB2.out hb3)
      clear hb3
      go_wp2
      go_ret
      exact ⟨rfl, bthen (ballc w _) HB3.out⟩
  obtain ⟨a1, ab, b1⟩ := hab
  obtain ⟨F0, F1, F2⟩ := rightF_ok hF
  obtain ⟨M1, M2⟩ := lastE_bd hE
  obtain ⟨_, _, _, _, _, d1, d2, _, p2, r1, r2, dr1, dr2, o1, o2, sl1, sl2, _, _, _, _, z1, z2, _⟩ := plainE_ok hE
  have p1 := plainE_p hE
  obtain ⟨g1, g2⟩ := guardF_in d1 d2 r1 r2 dr1 dr2 M1 M2
  have g3 : r + dr ≤ 2 * guardF d r dr (lastE o sl zs) := by
    have := guardF_bd d1 d2 r1 r2 dr1 dr2 M1 M2
    unfold guardF; omega
  obtain ⟨far1, far2⟩ := far_bd (o := o) a1 ab F0 g3 sl1
  have bm := mid_mono (o := o) b1 sl1
  obtain ⟨A1, A2⟩ := midE_bd a1 (show a ≤ 31 by omega) o1 o2 sl1 sl2
  obtain ⟨B1, B2⟩ := midE_bd (show 0 ≤ b by omega) (show b ≤ 31 by omega) o1 o2 sl1 sl2
  have HG := hidden (fun v h => BGuard_any n f d p r dr o sl md fr ad cap zs v hl h)
  have HMa := hidden (fun v h => BMiddle_any n f d p r dr o sl md fr ad cap zs a v hl h)
  have HMb := hidden (fun v h => BMiddle_any n f d p r dr o sl md fr ad cap zs b v hl h)
  rw [hE, slotB_yes a1 (by omega)] at HMa
  rw [hE, slotB_yes (by omega) b1] at HMb
  rw [hE] at HG
  simp only [gate_ok, placeE_yes] at HG HMa HMb
  clear hF hE hR
  generalize midE o sl a = A at *
  generalize midE o sl b = B at *
  generalize guardF d r dr (lastE o sl zs) = G at *
  generalize lastE o sl zs = M at *
  have na : ¬ a < 0 := by omega
  have nb : ¬ b ≤ a := by omega
  have nc : ¬ (zs.length : Int) ≤ b := by omega
  obtain ⟨u0, u1⟩ := mul_bd (show 0 ≤ d by omega) d2 (show 0 ≤ r by omega) r2
  obtain ⟨v0, v1⟩ := mul_bd (show 0 ≤ p - 1 by omega) (show p - 1 ≤ 399 by omega) (show 0 ≤ r - dr by omega) (show r - dr ≤ 64 by omega)
  obtain ⟨x0, x1⟩ := mul_bd (show 0 ≤ p by omega) p2 (show 0 ≤ r + dr by omega) (show r + dr ≤ 128 by omega)
  have t1 : IntKind.i64.wrap (B - A) = B - A := IntWalk.i64_in _ (by omega)
  have t2 : IntKind.i64.wrap (2 * G) = 2 * G := IntWalk.i64_in _ (by omega)
  have t3 : IntKind.i64.wrap (r + dr) = r + dr := IntWalk.i64_in _ (by omega)
  have t4 : IntKind.i64.wrap (d * r) = d * r := IntWalk.i64_in _ (by omega)
  have t5 : IntKind.i64.wrap (B + d * r) = B + d * r := IntWalk.i64_in _ (by omega)
  have t6 : IntKind.i64.wrap (B + d * r + G) = B + d * r + G := IntWalk.i64_in _ (by omega)
  have t7 : IntKind.i64.wrap (p - 1) = p - 1 := IntWalk.i64_in _ (by omega)
  have t8 : IntKind.i64.wrap (r - dr) = r - dr := IntWalk.i64_in _ (by omega)
  have t9 : IntKind.i64.wrap ((p - 1) * (r - dr)) = (p - 1) * (r - dr) := IntWalk.i64_in _ (by omega)
  have t10 : IntKind.i64.wrap (p * (r + dr)) = p * (r + dr) := IntWalk.i64_in _ (by omega)
  have k1 : B + d * r + G ≤ (p - 1) * (r - dr) := by omega
  go_enter Try.func8, Try.ntmps8
  go_wp2_with fail
  refine HP.out.mono ?_
  rintro e w2 ⟨rfl, hb2⟩
  have HB2 := hidden hb2
  clear hb2
  obtain ⟨hbox, hsz⟩ := box_at HB2.out
  go_wp2_with fail
  refine (HG.out _ (HT.out.below HB2.out)).mono ?_
  rintro e w3 ⟨rfl, hb3⟩
  have HB3 := hidden (bthen HB2.out hb3)
  clear hb3 hbox hsz
  obtain ⟨hbox, hsz⟩ := box_at HB3.out
  have HT3 := hidden (HT.out.below HB3.out)
  go_wp2
  refine wp_region_quiet_below (by kernel_rfl) (by kernel_rfl) ?_
  repeat (go_big_quiet_step (fail))
  go_big_quiet_step ((go_at_call 20; exact Calls.regrown_of (HMb.out _ (HT3.out.below (below_regrown _ _ _)))))
  repeat (go_big_quiet_step (fail))
  go_big_quiet_step ((go_at_call 20; exact Calls.regrown_of (HMa.out _ (HT3.out.below (below_regrown _ _ _)))))
  repeat (go_big_quiet_step (fail))
  refine wpQuiet_nil ?_
  intro w4 hw4
  have HB4 := hidden (bthen HB3.out (rg_below hw4))
  clear hw4 hbox hsz
  obtain ⟨hbox, hsz⟩ := box_at HB4.out
  have HT4 := hidden (HT.out.below HB4.out)
  go_wp2
  refine wp_region_quiet_below (by kernel_rfl) (by kernel_rfl) ?_
  repeat (go_big_quiet_step (first
    | (go_at_call 20; exact Calls.regrown_of (HMb.out _ (HT4.out.below (below_regrown _ _ _))))
    | (go_at_call 22; exact Calls.regrown_of (known4_any _))))
  refine wpQuiet_nil ?_
  intro w5 hw5
  have HB5 := hidden (bthen HB4.out (rg_below hw5))
  clear hw5 hbox hsz
  go_wp2
  go_ret
  exact ⟨rfl, bthen (ballc w _) HB5.out⟩
end Go.Proofs.Ytoemloggbljikaa.LawBoundApart
