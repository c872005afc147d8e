/- The calls guard, slotsAreNarrow, periodIsShort, clocksGoRound and settle of package bound return what they say of a configuration that is plain, and make at most new memory; conditions: it is plain, its table lies where it says. -/
import Derived.Test.YtoemloggbljikabBndM
namespace Go.Proofs.Ytoemloggbljikab
open Go.ChangeShapes Go.WideShapes Go.ChangeAt Go.RowKit
set_option linter.unusedVariables false
attribute [local go_sem] cell_rg

theorem lastM_any (n f d p r dr o sl md fr : Int) (ad : Option Addr) (cap : Nat) (zs : List Int) (w : World) (z1 : 1 ≤ zs.length) (z2 : zs.length ≤ 32) (o1 : 0 ≤ o) (o2 : o ≤ 30000) (sl1 : 1 ≤ sl) (sl2 : sl ≤ 30000) :
    Calls Try.prog 24 #[.agg #[.int .i64 n, .int .i64 f, .int .i64 d, .int .i64 p, .int .i64 r, .int .i64 dr, .int .i64 o, .int .i64 sl, .int .i64 md, .int .i64 fr, .slice ad zs.length cap]] w fun e w' => e = .returned (.int .i64 (lastE o sl zs)) ∧ Below w.heap.size w w' :=
  lastMiddle_any n f d p r dr o sl md fr ad cap zs w z1 z2 o1 o2 sl1 sl2

set_option maxHeartbeats 1000000 in
theorem guard_any (n f d p r dr o sl md fr : Int) (ad : Option Addr) (cap : Nat) (zs : List Int) (w : World) (hP : plainE n f d p r dr o sl md fr zs = 0) :
    Calls Try.prog 20 #[.agg #[.int .i64 n, .int .i64 f, .int .i64 d, .int .i64 p, .int .i64 r, .int .i64 dr, .int .i64 o, .int .i64 sl, .int .i64 md, .int .i64 fr, .slice ad zs.length cap]] w fun e w' => e = .returned (.int .i64 (guardF d r dr (lastE o sl zs))) ∧ Below w.heap.size w w' := by
  obtain ⟨M1, M2⟩ := lastE_bd hP
  obtain ⟨_, _, _, _, _, d1, d2, _, _, r1, r2, dr1, dr2, o1, o2, sl1, sl2, _, _, _, _, z1, z2, _⟩ := plainE_ok hP
  have HL := hidden (fun v => lastM_any n f d p r dr o sl md fr ad cap zs v z1 z2 o1 o2 sl1 sl2)
  have HS := hidden (fun v => slowest_any n f d p r dr o sl md fr ad cap zs v r1 r2 dr1 dr2)
  clear hP
  generalize lastE o sl zs = M at HL M1 M2
  obtain ⟨a0, a1, c0, c1, b0, b1⟩ := guardF_bd d1 d2 r1 r2 dr1 dr2 M1 M2
  have t1 : IntKind.i64.wrap (2 * dr) = 2 * dr := IntWalk.i64_in _ (by omega)
  have t2 : IntKind.i64.wrap (2 * dr * M) = 2 * dr * M := IntWalk.i64_in _ (by omega)
  have t3 : IntKind.i64.wrap (2 * dr * M + (r - dr)) = 2 * dr * M + (r - dr) := IntWalk.i64_in _ (by omega)
  have t4 : IntKind.i64.wrap (2 * dr * M + (r - dr) - 1) = 2 * dr * M + (r - dr) - 1 := IntWalk.i64_in _ (by omega)
  have t5 : IntKind.i64.wrap ((2 * dr * M + (r - dr) - 1).tdiv (r - dr)) = (2 * dr * M + (r - dr) - 1) / (r - dr) := IntWalk.i64_quo _ _ ⟨by omega, by omega, by omega⟩
  have t6 : ¬ r - dr = 0 := by omega
  go_enter Try.func20, Try.ntmps20
  go_wp2
  refine wp_region_quiet_below (by kernel_rfl) (by kernel_rfl) ?_
  repeat (go_big_quiet_step ((go_at_call 24; exact Calls.regrown_of (HL.out _))))
  refine wpQuiet_nil ?_
  intro w2 hw2
  have HB2 := hidden (rg_below hw2)
  clear hw2
  obtain ⟨hbox, hsz⟩ := box_at HB2.out
  go_wp2
  refine wp_region_quiet_below (by kernel_rfl) (by kernel_rfl) ?_
  repeat (go_big_quiet_step ((go_at_call 25; exact Calls.regrown_of (HS.out _))))
  refine wpQuiet_nil ?_
  intro w3 hw3
  have HB3 := hidden (bthen HB2.out (rg_below hw3))
  clear hw3 hbox hsz
  obtain ⟨hbox, hsz⟩ := box_at HB3.out
  generalize hq : (2 * dr * M + (r - dr) - 1) / (r - dr) = Q at *
  have HQ := hidden hq
  clear hq t1 t2 t3 t4 t5 t6
  go_wp2
  go_ret
  exact ⟨ret_i (by unfold guardF; rw [HQ.out]), bthen (ballc w _) HB3.out⟩

theorem narrow_any (n f d p r dr o sl md fr : Int) (ad : Option Addr) (cap : Nat) (zs : List Int) (w : World) (hP : plainE n f d p r dr o sl md fr zs = 0) :
    Calls Try.prog 10 #[.agg #[.int .i64 n, .int .i64 f, .int .i64 d, .int .i64 p, .int .i64 r, .int .i64 dr, .int .i64 o, .int .i64 sl, .int .i64 md, .int .i64 fr, .slice ad zs.length cap]] w fun e w' => e = .returned (.bool (decide (sl ≤ 2 * guardF d r dr (lastE o sl zs)))) ∧ Below w.heap.size w w' := by
  obtain ⟨M1, M2⟩ := lastE_bd hP
  obtain ⟨_, _, _, _, _, d1, d2, _, _, r1, r2, dr1, dr2, o1, o2, sl1, sl2, _, _, _, _, z1, z2, _⟩ := plainE_ok hP
  have HG := hidden (fun v => guard_any n f d p r dr o sl md fr ad cap zs v hP)
  obtain ⟨g1, g2⟩ := guardF_in d1 d2 r1 r2 dr1 dr2 M1 M2
  clear hP
  generalize guardF d r dr (lastE o sl zs) = G at *
  have t1 : IntKind.i64.wrap (2 * G) = 2 * G := IntWalk.i64_in _ (by omega)
  go_enter Try.func10, Try.ntmps10
  go_wp2
  refine wp_region_quiet_below (by kernel_rfl) (by kernel_rfl) ?_
  repeat (go_big_quiet_step ((go_at_call 20; exact Calls.regrown_of (HG.out _))))
  refine wpQuiet_nil ?_
  intro w2 hw2
  have HB2 := hidden (rg_below hw2)
  clear hw2
  go_wp2
  go_ret
  exact ⟨rfl, bthen (ballc w _) HB2.out⟩

set_option maxHeartbeats 1000000 in
theorem short_any (n f d p r dr o sl md fr : Int) (ad : Option Addr) (cap : Nat) (zs : List Int) (w : World) (hP : plainE n f d p r dr o sl md fr zs = 0) :
    Calls Try.prog 11 #[.agg #[.int .i64 n, .int .i64 f, .int .i64 d, .int .i64 p, .int .i64 r, .int .i64 dr, .int .i64 o, .int .i64 sl, .int .i64 md, .int .i64 fr, .slice ad zs.length cap]] w fun e w' => e = .returned (.bool (decide ((p - 1) * (r - dr) < lastE o sl zs + d * r + guardF d r dr (lastE o sl zs)))) ∧ Below w.heap.size w w' := by
  obtain ⟨M1, M2⟩ := lastE_bd hP
  obtain ⟨_, _, _, _, _, d1, d2, _, p2, r1, r2, dr1, dr2, o1, o2, sl1, sl2, _, _, _, _, z1, z2, _⟩ := plainE_ok hP
  have p1 : 1 ≤ p := plainE_p hP
  have HL := hidden (fun v => lastM_any n f d p r dr o sl md fr ad cap zs v z1 z2 o1 o2 sl1 sl2)
  have HS := hidden (fun v => slowest_any n f d p r dr o sl md fr ad cap zs v r1 r2 dr1 dr2)
  have HG := hidden (fun v => guard_any n f d p r dr o sl md fr ad cap zs v hP)
  obtain ⟨g1, g2⟩ := guardF_in d1 d2 r1 r2 dr1 dr2 M1 M2
  clear hP
  generalize guardF d r dr (lastE o sl zs) = G at *
  generalize lastE o sl zs = M at *
  obtain ⟨a0, a1⟩ := mul_bd (show 0 ≤ d by omega) d2 (show 0 ≤ r by omega) r2
  obtain ⟨b0, b1⟩ := mul_bd (show 0 ≤ p - 1 by omega) (show p - 1 ≤ 399 by omega) (show 0 ≤ r - dr by omega) (show r - dr ≤ 64 by omega)
  have t1 : IntKind.i64.wrap (d * r) = d * r := IntWalk.i64_in _ (by omega)
  have t2 : IntKind.i64.wrap (M + d * r) = M + d * r := IntWalk.i64_in _ (by omega)
  have t3 : IntKind.i64.wrap (M + d * r + G) = M + d * r + G := IntWalk.i64_in _ (by omega)
  have t4 : IntKind.i64.wrap (p - 1) = p - 1 := IntWalk.i64_in _ (by omega)
  have t5 : IntKind.i64.wrap ((p - 1) * (r - dr)) = (p - 1) * (r - dr) := IntWalk.i64_in _ (by omega)
  go_enter Try.func11, Try.ntmps11
  go_wp2
  refine wp_region_quiet_below (by kernel_rfl) (by kernel_rfl) ?_
  repeat (go_big_quiet_step (first | (go_at_call 24; exact Calls.regrown_of (HL.out _)) | (go_at_call 20; exact Calls.regrown_of (HG.out _)) | (go_at_call 25; exact Calls.regrown_of (HS.out _))))
  refine wpQuiet_nil ?_
  intro w2 hw2
  have HB2 := hidden (rg_below hw2)
  clear hw2
  go_wp2
  go_ret
  exact ⟨rfl, bthen (ballc w _) HB2.out⟩

theorem round_any (n f d p r dr o sl md fr : Int) (ad : Option Addr) (cap : Nat) (zs : List Int) (w : World) (hP : plainE n f d p r dr o sl md fr zs = 0) :
    Calls Try.prog 12 #[.agg #[.int .i64 n, .int .i64 f, .int .i64 d, .int .i64 p, .int .i64 r, .int .i64 dr, .int .i64 o, .int .i64 sl, .int .i64 md, .int .i64 fr, .slice ad zs.length cap]] w fun e w' => e = .returned (.bool (decide (32768 ≤ p * (r + dr)))) ∧ Below w.heap.size w w' := by
  obtain ⟨_, _, _, _, _, d1, d2, _, p2, r1, r2, dr1, dr2, o1, o2, sl1, sl2, _, _, _, _, z1, z2, _⟩ := plainE_ok hP
  have p1 : 1 ≤ p := plainE_p hP
  clear hP
  obtain ⟨b0, b1⟩ := mul_bd (show 0 ≤ p by omega) p2 (show 0 ≤ r + dr by omega) (show r + dr ≤ 128 by omega)
  go_enter Try.func12, Try.ntmps12
  go_wp2
  go_ret
  exact ⟨rfl, ballc _ _⟩

set_option maxHeartbeats 1000000 in
theorem settle_any (n f d p r dr o sl md fr : Int) (ad : Option Addr) (cap : Nat) (zs : List Int) (w : World) (hl : zs.length ≤ 9223372036854775807) (hT : Tab w ad zs) (hP : plainE n f d p r dr o sl md fr zs = 0) :
    Calls Try.prog 27 #[.agg #[.int .i64 n, .int .i64 f, .int .i64 d, .int .i64 p, .int .i64 r, .int .i64 dr, .int .i64 o, .int .i64 sl, .int .i64 md, .int .i64 fr, .slice ad zs.length cap]] w fun e w' => e = .returned (.int .i64 (1 + 4 * (3 * (f + 1) * d) + 2 * p)) ∧ Below w.heap.size w w' := by
  obtain ⟨_, _, f1, f2, _, d1, d2, _, p2, r1, r2, dr1, dr2, o1, o2, sl1, sl2, _, _, _, _, z1, z2, _⟩ := plainE_ok hP
  have p1 : 1 ≤ p := plainE_p hP
  have HT := hidden (hT.below (ballc w (.cells #[.int .i64 n, .int .i64 f, .int .i64 d, .int .i64 p, .int .i64 r, .int .i64 dr, .int .i64 o, .int .i64 sl, .int .i64 md, .int .i64 fr, .slice ad zs.length cap] 33)))
  have HL := hidden (fun v h => Length_any n f d p r dr o sl md fr ad cap zs v hl h)
  rw [hP] at HL
  simp only [gate_ok] at HL
  clear hP hT
  obtain ⟨b0, b1⟩ := mul_bd (show 0 ≤ 3 * (f + 1) by omega) (show 3 * (f + 1) ≤ 15 by omega) (show 0 ≤ d by omega) d2
  generalize 3 * (f + 1) * d = L at *
  have t1 : IntKind.i64.wrap (4 * L) = 4 * L := IntWalk.i64_in _ (by omega)
  have t2 : IntKind.i64.wrap (1 + 4 * L) = 1 + 4 * L := IntWalk.i64_in _ (by omega)
  have t3 : IntKind.i64.wrap (2 * p) = 2 * p := IntWalk.i64_in _ (by omega)
  have t4 : IntKind.i64.wrap (1 + 4 * L + 2 * p) = 1 + 4 * L + 2 * p := IntWalk.i64_in _ (by omega)
  go_enter Try.func27, Try.ntmps27
  go_wp2
  refine wp_region_quiet_below (by kernel_rfl) (by kernel_rfl) ?_
  repeat (go_big_quiet_step ((go_at_call 29; exact Calls.regrown_of (HL.out _ (HT.out.below (below_regrown _ _ _))))))
  refine wpQuiet_nil ?_
  intro w2 hw2
  have HB2 := hidden (rg_below hw2)
  clear hw2
  go_wp2
  go_ret
  exact ⟨rfl, bthen (ballc w _) HB2.out⟩
end Go.Proofs.Ytoemloggbljikab
