/- The document's Guard, Settle and All return what they say, and make at most new memory; conditions: the table lies where it says, and its length fits int. -/
import Derived.Test.YtoemloggbljikaaBndP
namespace Go.Proofs.Ytoemloggbljikaa
open Go.ChangeShapes Go.WideShapes Go.ChangeAt Go.RowKit
set_option linter.unusedVariables false
attribute [local go_sem] cell_rg

/-- The last slot's middle, as the document's Middle gives it. -/
theorem RLast_any (n f d p r dr o sl md fr : Int) (ad : Option Addr) (cap : Nat) (zs : List Int) (w : World) (hl : zs.length ≤ 9223372036854775807) (hT : Tab w ad zs) (hE : plainE n f d p r dr o sl md fr zs = 0) :
    Calls Try.prog 21 #[.agg #[.int .i64 n, .int .i64 f, .int .i64 d, .int .i64 p, .int .i64 r, .int .i64 dr, .int .i64 o, .int .i64 sl, .int .i64 md, .int .i64 fr, .slice ad zs.length cap], .int .i64 ((zs.length : Int) - 1)] w fun e w' => e = .returned (.int .i64 (lastE o sl zs)) ∧ Below w.heap.size w w' := by
  obtain ⟨_, _, _, _, _, _, _, _, _, _, _, _, _, o1, o2, sl1, sl2, _, _, _, _, z1, z2, _⟩ := plainE_ok hE
  have h := RMiddle_any n f d p r dr o sl md fr ad cap zs ((zs.length : Int) - 1) w hl hT
  rw [hE, slotB_yes (by omega) (by omega), placeE_yes] at h
  exact h

set_option maxHeartbeats 1000000 in
theorem RGuard_any (n f d p r dr o sl md fr : Int) (ad : Option Addr) (cap : Nat) (zs : List Int) (w : World) (hl : zs.length ≤ 9223372036854775807) (hT : Tab w ad zs) :
    Calls Try.prog 26 #[.agg #[.int .i64 n, .int .i64 f, .int .i64 d, .int .i64 p, .int .i64 r, .int .i64 dr, .int .i64 o, .int .i64 sl, .int .i64 md, .int .i64 fr, .slice ad zs.length cap]] w fun e w' => e = .returned (.int .i64 (gate (plainE n f d p r dr o sl md fr zs) (guardF d r dr (lastE o sl zs)))) ∧ Below w.heap.size w w' := by
  have HT := hidden (hT.below (ballc w (.cells #[.int .i64 n, .int .i64 f, .int .i64 d, .int .i64 p, .int .i64 r, .int .i64 dr, .int .i64 o, .int .i64 sl, .int .i64 md, .int .i64 fr, .slice ad zs.length cap] 24)))
  have HP := hidden (refPlain_any n f d p r dr o sl md fr ad cap zs (w.alloc (.cells #[.int .i64 n, .int .i64 f, .int .i64 d, .int .i64 p, .int .i64 r, .int .i64 dr, .int .i64 o, .int .i64 sl, .int .i64 md, .int .i64 fr, .slice ad zs.length cap] 24)) hl HT.out)
  clear hT
  by_cases hE : plainE n f d p r dr o sl md fr zs = 0
  · obtain ⟨M1, M2⟩ := lastE_bd hE
    obtain ⟨_, _, _, _, _, d1, d2, _, _, r1, r2, dr1, dr2, o1, o2, sl1, sl2, _, _, _, _, z1, z2, _⟩ := plainE_ok hE
    have HL := hidden (fun v h => RLast_any n f d p r dr o sl md fr ad cap zs v hl h hE)
    rw [hE] at HP ⊢
    rw [gate_ok]
    clear hE
    have tz : IntKind.i64.wrap ((zs.length : Int) - 1) = (zs.length : Int) - 1 := IntWalk.i64_in _ (by omega)
    generalize lastE o sl zs = M at HL M1 M2 ⊢
    obtain ⟨a0, a1, c0, c1, b0, b1⟩ := guardF_bd d1 d2 r1 r2 dr1 dr2 M1 M2
    have t1 : IntKind.i64.wrap (2 * dr) = 2 * dr := IntWalk.i64_in _ (by omega)
    have t2 : IntKind.i64.wrap (2 * dr * M) = 2 * dr * M := IntWalk.i64_in _ (by omega)
    go_enter Try.func26, Try.ntmps26
    go_wp2_with fail
    refine HP.out.mono ?_
    rintro e w2 ⟨rfl, hb2⟩
    have HB2 := hidden hb2
    clear hb2
    obtain ⟨hbox, hsz⟩ := box_at HB2.out
    have HT2 := hidden (HT.out.below HB2.out)
    go_wp2
    refine wp_region_quiet_below (by kernel_rfl) (by kernel_rfl) ?_
    repeat (go_big_quiet_step ((go_at_call 21; exact Calls.regrown_of (HL.out _ (HT2.out.below (below_regrown _ _ _))))))
    refine wpQuiet_nil ?_
    intro w3 hw3
    have HB3 := hidden (bthen HB2.out (rg_below hw3))
    clear hw3 hbox hsz t1 t2 tz
    obtain ⟨hbox, hsz⟩ := box_at HB3.out
    have HGD : Hid (guardF d r dr M = (2 * dr * M + (r - dr) - 1) / (r - dr) + r + (d + 1) * dr) := rfl
    generalize 2 * dr * M = A at *
    have HZ := hidden (ceil_zero (a := A) (b := r - dr) (by omega))
    have HM := hidden (ceil_more (a := A) (b := r - dr) (by omega))
    have e0 := Int.emod_nonneg A (show r - dr ≠ 0 by omega)
    have q0 : 0 ≤ A / (r - dr) := Int.ediv_nonneg a0 (by omega)
    have q1 : A / (r - dr) ≤ A := Int.ediv_le_self _ a0
    clear c0 c1
    by_cases hm : 0 < A % (r - dr)
    · have HV : Hid (guardF d r dr M = A / (r - dr) + 1 + r + (d + 1) * dr) := hidden (by rw [HGD.out, HM.out hm])
      clear HGD HZ HM
      go_wp2
      go_ret
      exact ⟨ret_i HV.out.symm, bthen (ballc w _) HB3.out⟩
    · have HV : Hid (guardF d r dr M = A / (r - dr) + r + (d + 1) * dr) := hidden (by rw [HGD.out, HZ.out (by omega)])
      clear HGD HZ HM
      go_wp2
      go_ret
      exact ⟨ret_i HV.out.symm, bthen (ballc w _) HB3.out⟩
  · have HG := hidden (gate_no hE (guardF d r dr (lastE o sl zs)))
    generalize plainE n f d p r dr o sl md fr zs = E at *
    go_enter Try.func26, Try.ntmps26
    go_wp2_with fail
    refine HP.out.mono ?_
    rintro e w2 ⟨rfl, hb2⟩
    have HB2 := hidden hb2
    clear hb2
    obtain ⟨hbox, hsz⟩ := box_at HB2.out
    go_wp2
    go_ret
    exact ⟨ret_i HG.out.symm, bthen (ballc w _) HB2.out⟩
set_option maxHeartbeats 1000000 in
theorem RSettle_any (n f d p r dr o sl md fr : Int) (ad : Option Addr) (cap : Nat) (zs : List Int) (w : World) (hl : zs.length ≤ 9223372036854775807) (hT : Tab w ad zs) :
    Calls Try.prog 28 #[.agg #[.int .i64 n, .int .i64 f, .int .i64 d, .int .i64 p, .int .i64 r, .int .i64 dr, .int .i64 o, .int .i64 sl, .int .i64 md, .int .i64 fr, .slice ad zs.length cap]] w fun e w' => e = .returned (.int .i64 (gate (plainE n f d p r dr o sl md fr zs) (1 + 4 * (3 * (f + 1) * d) + 2 * p))) ∧ Below w.heap.size w w' := by
  have HT := hidden (hT.below (ballc w (.cells #[.int .i64 n, .int .i64 f, .int .i64 d, .int .i64 p, .int .i64 r, .int .i64 dr, .int .i64 o, .int .i64 sl, .int .i64 md, .int .i64 fr, .slice ad zs.length cap] 24)))
  have HP := hidden (refPlain_any n f d p r dr o sl md fr ad cap zs (w.alloc (.cells #[.int .i64 n, .int .i64 f, .int .i64 d, .int .i64 p, .int .i64 r, .int .i64 dr, .int .i64 o, .int .i64 sl, .int .i64 md, .int .i64 fr, .slice ad zs.length cap] 24)) hl HT.out)
  have HI := hidden (fun v h => refLength_any n f d p r dr o sl md fr ad cap zs v hl h)
  clear hT
  by_cases hE : plainE n f d p r dr o sl md fr zs = 0
  · obtain ⟨_, _, f1, f2, _, d1, d2, _, p2, _⟩ := plainE_ok hE
    have p1 := plainE_p hE
    rw [hE] at HP HI ⊢
    rw [gate_ok]
    simp only [gate_ok] at HI
    clear hE
    obtain ⟨b0, b1⟩ := mul_bd (show 0 ≤ 3 * (f + 1) by omega) (show 3 * (f + 1) ≤ 15 by omega) (show 0 ≤ d by omega) d2
    generalize 3 * (f + 1) * d = L at *
    have t1 : IntKind.i64.wrap (4 * L) = 4 * L := IntWalk.i64_in _ (by omega)
    have t2 : IntKind.i64.wrap (1 + 4 * L) = 1 + 4 * L := IntWalk.i64_in _ (by omega)
    have t3 : IntKind.i64.wrap (2 * p) = 2 * p := IntWalk.i64_in _ (by omega)
    have t4 : IntKind.i64.wrap (1 + 4 * L + 2 * p) = 1 + 4 * L + 2 * p := IntWalk.i64_in _ (by omega)
    go_enter Try.func28, Try.ntmps28
    go_wp2_with fail
    refine HP.out.mono ?_
    rintro e w2 ⟨rfl, hb2⟩
    have HB2 := hidden hb2
    clear hb2
    obtain ⟨hbox, hsz⟩ := box_at HB2.out
    have HT2 := hidden (HT.out.below HB2.out)
    go_wp2
    refine wp_region_quiet_below (by kernel_rfl) (by kernel_rfl) ?_
    repeat (go_big_quiet_step ((go_at_call 14; exact Calls.regrown_of (HI.out _ (HT2.out.below (below_regrown _ _ _))))))
    refine wpQuiet_nil ?_
    intro w3 hw3
    have HB3 := hidden (bthen HB2.out (rg_below hw3))
    clear hw3
    go_wp2
    go_ret
    exact ⟨rfl, bthen (ballc w _) HB3.out⟩
  · have HG := hidden (gate_no hE (1 + 4 * (3 * (f + 1) * d) + 2 * p))
    clear HI
    generalize plainE n f d p r dr o sl md fr zs = E at *
    go_enter Try.func28, Try.ntmps28
    go_wp2_with fail
    refine HP.out.mono ?_
    rintro e w2 ⟨rfl, hb2⟩
    have HB2 := hidden hb2
    clear hb2
    obtain ⟨hbox, hsz⟩ := box_at HB2.out
    go_wp2
    go_ret
    exact ⟨ret_i HG.out.symm, bthen (ballc w _) HB2.out⟩
set_option maxHeartbeats 1000000 in
theorem RAll_any (n f d p r dr o sl md fr : Int) (ad : Option Addr) (cap : Nat) (zs : List Int) (w : World) (hl : zs.length ≤ 9223372036854775807) (hT : Tab w ad zs) :
    Calls Try.prog 30 #[.agg #[.int .i64 n, .int .i64 f, .int .i64 d, .int .i64 p, .int .i64 r, .int .i64 dr, .int .i64 o, .int .i64 sl, .int .i64 md, .int .i64 fr, .slice ad zs.length cap]] w fun e w' => e = .returned (.int .i64 (gate (plainE n f d p r dr o sl md fr zs) (1 + 4 * (3 * (f + 1) * d) + 2 * p + 4 * p))) ∧ Below w.heap.size w w' := by
  have HT := hidden (hT.below (ballc w (.cells #[.int .i64 n, .int .i64 f, .int .i64 d, .int .i64 p, .int .i64 r, .int .i64 dr, .int .i64 o, .int .i64 sl, .int .i64 md, .int .i64 fr, .slice ad zs.length cap] 24)))
  have HP := hidden (refPlain_any n f d p r dr o sl md fr ad cap zs (w.alloc (.cells #[.int .i64 n, .int .i64 f, .int .i64 d, .int .i64 p, .int .i64 r, .int .i64 dr, .int .i64 o, .int .i64 sl, .int .i64 md, .int .i64 fr, .slice ad zs.length cap] 24)) hl HT.out)
  have HI := hidden (fun v h => RSettle_any n f d p r dr o sl md fr ad cap zs v hl h)
  clear hT
  by_cases hE : plainE n f d p r dr o sl md fr zs = 0
  · obtain ⟨_, _, f1, f2, _, d1, d2, _, p2, _⟩ := plainE_ok hE
    have p1 := plainE_p hE
    rw [hE] at HP HI ⊢
    rw [gate_ok]
    simp only [gate_ok] at HI
    clear hE
    obtain ⟨b0, b1⟩ := mul_bd (show 0 ≤ 3 * (f + 1) by omega) (show 3 * (f + 1) ≤ 15 by omega) (show 0 ≤ d by omega) d2
    generalize hS : 1 + 4 * (3 * (f + 1) * d) + 2 * p = S at *
    have S1 : 0 ≤ S ∧ S ≤ 1100 := by omega
    clear hS
    have t1 : IntKind.i64.wrap (4 * p) = 4 * p := IntWalk.i64_in _ (by omega)
    have t2 : IntKind.i64.wrap (S + 4 * p) = S + 4 * p := IntWalk.i64_in _ (by omega)
    go_enter Try.func30, Try.ntmps30
    go_wp2_with fail
    refine HP.out.mono ?_
    rintro e w2 ⟨rfl, hb2⟩
    have HB2 := hidden hb2
    clear hb2
    obtain ⟨hbox, hsz⟩ := box_at HB2.out
    have HT2 := hidden (HT.out.below HB2.out)
    go_wp2
    refine wp_region_quiet_below (by kernel_rfl) (by kernel_rfl) ?_
    repeat (go_big_quiet_step ((go_at_call 28; exact Calls.regrown_of (HI.out _ (HT2.out.below (below_regrown _ _ _))))))
    refine wpQuiet_nil ?_
    intro w3 hw3
    have HB3 := hidden (bthen HB2.out (rg_below hw3))
    clear hw3
    go_wp2
    go_ret
    exact ⟨rfl, bthen (ballc w _) HB3.out⟩
  · have HG := hidden (gate_no hE (1 + 4 * (3 * (f + 1) * d) + 2 * p + 4 * p))
    clear HI
    generalize plainE n f d p r dr o sl md fr zs = E at *
    go_enter Try.func30, Try.ntmps30
    go_wp2_with fail
    refine HP.out.mono ?_
    rintro e w2 ⟨rfl, hb2⟩
    have HB2 := hidden hb2
    clear hb2
    obtain ⟨hbox, hsz⟩ := box_at HB2.out
    go_wp2
    go_ret
    exact ⟨ret_i HG.out.symm, bthen (ballc w _) HB2.out⟩
end Go.Proofs.Ytoemloggbljikaa
