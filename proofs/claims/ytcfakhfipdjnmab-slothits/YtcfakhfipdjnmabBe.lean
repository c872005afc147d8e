/- Several texts of one's own in one: what each proves, and its conditions, is said ahead of it. -/
import Derived.Test.YtcfakhfipdjnmabBd
import Derived.Test.YtcfakhfipdjnmabBc

/- The document's Right returns what it says, and makes at most new memory; conditions: the table lies where it says, and its length fits int. -/
namespace Go.Proofs.Ytcfakhfipdjnmab
open Go.ChangeShapes Go.WideShapes Go.ChangeAt Go.RowKit
set_option linter.unusedVariables false
attribute [local go_sem] cell_rg

set_option maxHeartbeats 2000000 in
theorem RRight_any (n f d p r dr o sl md fr : Int) (ad : Option Addr) (cap : Nat) (zs : List Int) (w : World) (hl : zs.length ≤ 9223372036854775807) (hT : Tab w ad zs) :
    Calls Try.prog 5 #[.agg #[.int .i64 n, .int .i64 f, .int .i64 d, .int .i64 p, .int .i64 r, .int .i64 dr, .int .i64 o, .int .i64 sl, .int .i64 md, .int .i64 fr, .slice ad zs.length cap]] w fun e w' => e = .returned (.int .i64 (rightE n f d p r dr o sl md fr zs)) ∧ Below w.heap.size w w' := by
  have HT := hidden (hT.below (ballc w (.cells #[.int .i64 n, .int .i64 f, .int .i64 d, .int .i64 p, .int .i64 r, .int .i64 dr, .int .i64 o, .int .i64 sl, .int .i64 md, .int .i64 fr, .slice ad zs.length cap] 24)))
  have HP := hidden (refPlain_any n f d p r dr o sl md fr ad cap zs (w.alloc (.cells #[.int .i64 n, .int .i64 f, .int .i64 d, .int .i64 p, .int .i64 r, .int .i64 dr, .int .i64 o, .int .i64 sl, .int .i64 md, .int .i64 fr, .slice ad zs.length cap] 24)) hl HT.out)
  have HPP := hidden (fun v h => refPlain_any n f d p r dr o sl md fr ad cap zs v hl h)
  clear hT
  by_cases hE : plainE n f d p r dr o sl md fr zs = 0
  · have HR := hidden (rightE_plain hE)
    obtain ⟨M1, M2⟩ := lastE_bd hE
    obtain ⟨_, _, _, _, _, d1, d2, _, p2, r1, r2, dr1, dr2, o1, o2, sl1, sl2, _, _, _, _, z1, z2, _⟩ := plainE_ok hE
    have p1 := plainE_p hE
    obtain ⟨g1, g2⟩ := guardF_in d1 d2 r1 r2 dr1 dr2 M1 M2
    have HL := hidden (fun v h => RLast_any n f d p r dr o sl md fr ad cap zs v hl h hE)
    have HG := hidden (fun v h => RGuard_any n f d p r dr o sl md fr ad cap zs v hl h)
    rw [hE] at HP HG
    simp only [gate_ok] at HG
    clear hE HPP
    have HF : Hid (rightF d p r dr sl (lastE o sl zs) = _) := hidden (rfl : rightF d p r dr sl (lastE o sl zs) = if sl ≤ 2 * guardF d r dr (lastE o sl zs) then 8 else if (p - 1) * (r - dr) < lastE o sl zs + d * r + guardF d r dr (lastE o sl zs) then 8 else if 32768 ≤ p * (r + dr) then 8 else 0)
    have HV : Hid (rightE n f d p r dr o sl md fr zs = if sl ≤ 2 * guardF d r dr (lastE o sl zs) then 8 else if (p - 1) * (r - dr) < lastE o sl zs + d * r + guardF d r dr (lastE o sl zs) then 8 else if 32768 ≤ p * (r + dr) then 8 else 0) := HR.out.trans HF.out
    clear HF HR
    have tz : IntKind.i64.wrap ((zs.length : Int) - 1) = (zs.length : Int) - 1 := IntWalk.i64_in _ (by omega)
    generalize guardF d r dr (lastE o sl zs) = G at *
    generalize lastE o sl zs = M at *
    obtain ⟨a0, a1⟩ := mul_bd (show 0 ≤ d by omega) d2 (show 0 ≤ r by omega) r2
    obtain ⟨b0, b1⟩ := mul_bd (show 0 ≤ p - 1 by omega) (show p - 1 ≤ 399 by omega) (show 0 ≤ r - dr by omega) (show r - dr ≤ 64 by omega)
    obtain ⟨e0, e1⟩ := mul_bd (show 0 ≤ p by omega) p2 (show 0 ≤ r + dr by omega) (show r + dr ≤ 128 by omega)
    have t1 : IntKind.i64.wrap (d * r) = d * r := IntWalk.i64_in _ (by omega)
    have t2 : IntKind.i64.wrap (M + d * r) = M + d * r := IntWalk.i64_in _ (by omega)
    have t3 : IntKind.i64.wrap (M + d * r + G) = M + d * r + G := IntWalk.i64_in _ (by omega)
    go_enter Try.func5, Try.ntmps5
    go_wp2_with fail
    refine HP.out.mono ?_
    rintro e w2 ⟨rfl, hb2⟩
    have HB2 := hidden hb2
    clear hb2
    obtain ⟨hbox, hsz⟩ := box_at HB2.out
    go_wp2_with fail
    refine (HG.out _ (HT.out.below HB2.out)).mono ?_
    rintro e w3 ⟨rfl, hb3⟩
    have HB3 := hidden (bthen HB2.out hb3)
    clear hb3 hbox hsz
    obtain ⟨hbox, hsz⟩ := box_at HB3.out
    have HT3 := hidden (HT.out.below HB3.out)
    go_wp2
    refine wp_region_quiet_below (by kernel_rfl) (by kernel_rfl) ?_
    repeat (go_big_quiet_step ((go_at_call 13; exact Calls.regrown_of (HL.out _ (HT3.out.below (below_regrown _ _ _))))))
    refine wpQuiet_nil ?_
    intro w4 hw4
    have HB4 := hidden (bthen HB3.out (rg_below hw4))
    clear hw4 hbox hsz t1 t2 t3 tz
    obtain ⟨hbox, hsz⟩ := box_at HB4.out
    generalize hX : M + d * r + G = X at *
    have hX1 : 0 ≤ X ∧ X ≤ 200000000 := by omega
    clear hX
    by_cases c0 : sl ≤ 2 * G
    · have HW : Hid (rightE n f d p r dr o sl md fr zs = 8) := HV.out.trans (if_pos c0)
      clear HV
      go_wp2
      go_ret
      exact ⟨ret_i HW.out.symm, bthen (ballc w _) HB4.out⟩
    have c0' : decide (sl ≤ 2 * G) = false := decide_eq_false c0
    by_cases c1 : (p - 1) * (r - dr) < X
    · have HW : Hid (rightE n f d p r dr o sl md fr zs = 8) := HV.out.trans ((if_neg c0).trans (if_pos c1))
      clear HV
      go_wp2
      go_ret
      exact ⟨ret_i HW.out.symm, bthen (ballc w _) HB4.out⟩
    have c1' : decide ((p - 1) * (r - dr) < X) = false := decide_eq_false c1
    by_cases c2 : 32768 ≤ p * (r + dr)
    · have HW : Hid (rightE n f d p r dr o sl md fr zs = 8) := HV.out.trans ((if_neg c0).trans ((if_neg c1).trans (if_pos c2)))
      clear HV
      go_wp2
      go_ret
      exact ⟨ret_i HW.out.symm, bthen (ballc w _) HB4.out⟩
    · have HW : Hid (rightE n f d p r dr o sl md fr zs = 0) := HV.out.trans ((if_neg c0).trans ((if_neg c1).trans (if_neg c2)))
      clear HV
      go_wp2
      go_ret
      exact ⟨ret_i HW.out.symm, bthen (ballc w _) HB4.out⟩
  · have HR := hidden (rightE_not hE)
    generalize plainE n f d p r dr o sl md fr zs = E at *
    go_enter Try.func5, Try.ntmps5
    go_wp2_with fail
    refine HP.out.mono ?_
    rintro e w2 ⟨rfl, hb2⟩
    have HB2 := hidden hb2
    clear hb2
    obtain ⟨hbox, hsz⟩ := box_at HB2.out
    go_wp2_with fail
    refine (HPP.out _ (HT.out.below HB2.out)).mono ?_
    rintro e w3 ⟨rfl, hb3⟩
    have HB3 := hidden (bthen HB2.out hb3)
    clear hb3 hbox hsz
    go_wp2
    go_ret
    exact ⟨ret_i HR.out.symm, bthen (ballc w _) HB3.out⟩
end Go.Proofs.Ytcfakhfipdjnmab

/- The calls of the document's answer on clocks return what plain functions on integers give, and leave the world as it was; for integers that fit int. -/
namespace Go.Proofs.Ytcfakhfipdjnmab
open Go.ChangeShapes Go.WideShapes Go.ChangeAt Go.RowKit
set_option linter.unusedVariables false

theorem rmod_any (n : Int) (w : World) :
    Calls Try.prog 33 #[.int .i64 n, .int .i64 65536] w fun e w' => e = .returned (.int .i64 (n % 65536)) ∧ w = w' := by
  have hr : -65536 < n.tmod 65536 := by have := Int.lt_tmod_of_pos n (show (0 : Int) < 65536 by omega); omega
  by_cases h : n.tmod 65536 < 0
  · rw [← tmod_neg n h]
    go_enter Try.func33, Try.ntmps33
    go_wp2
    go_ret
    exact ⟨rfl, rfl⟩
  · rw [← tmod_pos n h]
    go_enter Try.func33, Try.ntmps33
    go_wp2
    go_ret
    exact ⟨rfl, rfl⟩
theorem rPut_any (n : Int) (w : World) :
    Calls Try.prog 19 #[.int .i64 n] w fun e w' => e = .returned (.int .i64 (n % 65536)) ∧ w = w' := by
  go_enter Try.func19, Try.ntmps19
  go_wp2_with (go_at_call 33; refine (rmod_any _ _).mono ?_; rintro e w' ⟨rfl, rfl⟩)
  go_ret
  exact ⟨rfl, rfl⟩
theorem rAdd_any (a b : Int) (w : World) :
    Calls Try.prog 7 #[.int .i64 a, .int .i64 b] w fun e w' => e = .returned (.int .i64 ((a + b) % 65536)) ∧ w = w' := by
  have em : (a % 65536 + b % 65536) % 65536 = (a + b) % 65536 := by omega
  have t1 : IntKind.i64.wrap (a % 65536 + b % 65536) = a % 65536 + b % 65536 := IntWalk.i64_in _ (by omega)
  go_enter Try.func7, Try.ntmps7
  go_wp2_with (go_at_call 19; refine (rPut_any _ _).mono ?_; rintro e w' ⟨rfl, rfl⟩)
  go_ret
  exact ⟨rfl, rfl⟩
end Go.Proofs.Ytcfakhfipdjnmab
