/- The calls Guard, Settle and All of package bound return what the document says, and make at most new memory; conditions: the table lies where it says, and its length fits int. -/
import Derived.Test.YtoemloggbljikabBndF
namespace Go.Proofs.Ytoemloggbljikab
open Go.ChangeShapes Go.WideShapes Go.ChangeAt Go.RowKit
set_option linter.unusedVariables false
attribute [local go_sem] cell_rg

set_option maxHeartbeats 1000000 in
theorem BGuard_any (n f d p r dr o sl md fr : Int) (ad : Option Addr) (cap : Nat) (zs : List Int) (w : World) (hl : zs.length ≤ 9223372036854775807) (hT : Tab w ad zs) :
    Calls Try.prog 8 #[.agg #[.int .i64 n, .int .i64 f, .int .i64 d, .int .i64 p, .int .i64 r, .int .i64 dr, .int .i64 o, .int .i64 sl, .int .i64 md, .int .i64 fr, .slice ad zs.length cap]] w fun e w' => e = .returned (.int .i64 (gate (plainE n f d p r dr o sl md fr zs) (guardF d r dr (lastE o sl zs)))) ∧ Below w.heap.size w w' := by
  have HT := hidden (hT.below (Joins.below_alloc2 w (.cells #[.int .i64 n, .int .i64 f, .int .i64 d, .int .i64 p, .int .i64 r, .int .i64 dr, .int .i64 o, .int .i64 sl, .int .i64 md, .int .i64 fr, .slice ad zs.length cap] 24) (.cells #[.int .i64 n, .int .i64 f, .int .i64 d, .int .i64 p, .int .i64 r, .int .i64 dr, .int .i64 o, .int .i64 sl, .int .i64 md, .int .i64 fr, .slice ad zs.length cap] 33)))
  have HP := hidden (cPlain_any n f d p r dr o sl md fr ad cap zs ((w.alloc (.cells #[.int .i64 n, .int .i64 f, .int .i64 d, .int .i64 p, .int .i64 r, .int .i64 dr, .int .i64 o, .int .i64 sl, .int .i64 md, .int .i64 fr, .slice ad zs.length cap] 24)).alloc (.cells #[.int .i64 n, .int .i64 f, .int .i64 d, .int .i64 p, .int .i64 r, .int .i64 dr, .int .i64 o, .int .i64 sl, .int .i64 md, .int .i64 fr, .slice ad zs.length cap] 33)) hl HT.out)
  clear hT
  by_cases hE : plainE n f d p r dr o sl md fr zs = 0
  · have HI := hidden (fun (v : World) (h : Tab v ad zs) => guard_any n f d p r dr o sl md fr ad cap zs v hE)
    have HG : Hid (gate (plainE n f d p r dr o sl md fr zs) (guardF d r dr (lastE o sl zs)) = guardF d r dr (lastE o sl zs)) := by rw [hE]; exact gate_ok _
    obtain ⟨_, _, f1, f2, _, d1, d2, _, p2, _⟩ := plainE_ok hE
    have p1 := plainE_p hE
    have hd : decide (plainE n f d p r dr o sl md fr zs = 0) = true := decide_eq_true hE
    rw [hd] at HP
    clear hd hE
    go_enter Try.func8, Try.ntmps8
    go_wp2_with fail
    refine HP.out.mono ?_
    rintro e w2 ⟨rfl, hb2⟩
    have HB2 := hidden hb2
    clear hb2
    obtain ⟨hbox, hbox1, hsz⟩ := box_at2 HB2.out
    go_wp2_with fail
    refine (HI.out _ (HT.out.below HB2.out)).mono ?_
    rintro e w3 ⟨rfl, hb3⟩
    have HB3 := hidden (bthen HB2.out hb3)
    clear hb3 hbox hbox1 hsz
    go_wp2
    go_ret
    exact ⟨ret_i HG.out.symm, bthen (Joins.below_alloc2 _ _ _) HB3.out⟩
  · have HG := hidden (gate_no hE (guardF d r dr (lastE o sl zs)))
    have hd : decide (plainE n f d p r dr o sl md fr zs = 0) = false := decide_eq_false hE
    rw [hd] at HP
    clear hd hE
    go_enter Try.func8, Try.ntmps8
    go_wp2_with fail
    refine HP.out.mono ?_
    rintro e w2 ⟨rfl, hb2⟩
    have HB2 := hidden hb2
    clear hb2
    go_wp2
    go_ret
    exact ⟨ret_i HG.out.symm, bthen (Joins.below_alloc2 _ _ _) HB2.out⟩
set_option maxHeartbeats 1000000 in
theorem BSettle_any (n f d p r dr o sl md fr : Int) (ad : Option Addr) (cap : Nat) (zs : List Int) (w : World) (hl : zs.length ≤ 9223372036854775807) (hT : Tab w ad zs) :
    Calls Try.prog 15 #[.agg #[.int .i64 n, .int .i64 f, .int .i64 d, .int .i64 p, .int .i64 r, .int .i64 dr, .int .i64 o, .int .i64 sl, .int .i64 md, .int .i64 fr, .slice ad zs.length cap]] w fun e w' => e = .returned (.int .i64 (gate (plainE n f d p r dr o sl md fr zs) (1 + 4 * (3 * (f + 1) * d) + 2 * p))) ∧ Below w.heap.size w w' := by
  have HT := hidden (hT.below (Joins.below_alloc2 w (.cells #[.int .i64 n, .int .i64 f, .int .i64 d, .int .i64 p, .int .i64 r, .int .i64 dr, .int .i64 o, .int .i64 sl, .int .i64 md, .int .i64 fr, .slice ad zs.length cap] 24) (.cells #[.int .i64 n, .int .i64 f, .int .i64 d, .int .i64 p, .int .i64 r, .int .i64 dr, .int .i64 o, .int .i64 sl, .int .i64 md, .int .i64 fr, .slice ad zs.length cap] 33)))
  have HP := hidden (cPlain_any n f d p r dr o sl md fr ad cap zs ((w.alloc (.cells #[.int .i64 n, .int .i64 f, .int .i64 d, .int .i64 p, .int .i64 r, .int .i64 dr, .int .i64 o, .int .i64 sl, .int .i64 md, .int .i64 fr, .slice ad zs.length cap] 24)).alloc (.cells #[.int .i64 n, .int .i64 f, .int .i64 d, .int .i64 p, .int .i64 r, .int .i64 dr, .int .i64 o, .int .i64 sl, .int .i64 md, .int .i64 fr, .slice ad zs.length cap] 33)) hl HT.out)
  clear hT
  by_cases hE : plainE n f d p r dr o sl md fr zs = 0
  · have HI := hidden (fun (v : World) (h : Tab v ad zs) => settle_any n f d p r dr o sl md fr ad cap zs v hl h hE)
    have HG : Hid (gate (plainE n f d p r dr o sl md fr zs) (1 + 4 * (3 * (f + 1) * d) + 2 * p) = 1 + 4 * (3 * (f + 1) * d) + 2 * p) := by rw [hE]; exact gate_ok _
    obtain ⟨_, _, f1, f2, _, d1, d2, _, p2, _⟩ := plainE_ok hE
    have p1 := plainE_p hE
    have hd : decide (plainE n f d p r dr o sl md fr zs = 0) = true := decide_eq_true hE
    rw [hd] at HP
    clear hd hE
    go_enter Try.func15, Try.ntmps15
    go_wp2_with fail
    refine HP.out.mono ?_
    rintro e w2 ⟨rfl, hb2⟩
    have HB2 := hidden hb2
    clear hb2
    obtain ⟨hbox, hbox1, hsz⟩ := box_at2 HB2.out
    go_wp2_with fail
    refine (HI.out _ (HT.out.below HB2.out)).mono ?_
    rintro e w3 ⟨rfl, hb3⟩
    have HB3 := hidden (bthen HB2.out hb3)
    clear hb3 hbox hbox1 hsz
    go_wp2
    go_ret
    exact ⟨ret_i HG.out.symm, bthen (Joins.below_alloc2 _ _ _) HB3.out⟩
  · have HG := hidden (gate_no hE (1 + 4 * (3 * (f + 1) * d) + 2 * p))
    have hd : decide (plainE n f d p r dr o sl md fr zs = 0) = false := decide_eq_false hE
    rw [hd] at HP
    clear hd hE
    go_enter Try.func15, Try.ntmps15
    go_wp2_with fail
    refine HP.out.mono ?_
    rintro e w2 ⟨rfl, hb2⟩
    have HB2 := hidden hb2
    clear hb2
    go_wp2
    go_ret
    exact ⟨ret_i HG.out.symm, bthen (Joins.below_alloc2 _ _ _) HB2.out⟩
set_option maxHeartbeats 1000000 in
theorem BAll_any (n f d p r dr o sl md fr : Int) (ad : Option Addr) (cap : Nat) (zs : List Int) (w : World) (hl : zs.length ≤ 9223372036854775807) (hT : Tab w ad zs) :
    Calls Try.prog 16 #[.agg #[.int .i64 n, .int .i64 f, .int .i64 d, .int .i64 p, .int .i64 r, .int .i64 dr, .int .i64 o, .int .i64 sl, .int .i64 md, .int .i64 fr, .slice ad zs.length cap]] w fun e w' => e = .returned (.int .i64 (gate (plainE n f d p r dr o sl md fr zs) (1 + 4 * (3 * (f + 1) * d) + 2 * p + 4 * p))) ∧ Below w.heap.size w w' := by
  have HT := hidden (hT.below (Joins.below_alloc2 w (.cells #[.int .i64 n, .int .i64 f, .int .i64 d, .int .i64 p, .int .i64 r, .int .i64 dr, .int .i64 o, .int .i64 sl, .int .i64 md, .int .i64 fr, .slice ad zs.length cap] 24) (.cells #[.int .i64 n, .int .i64 f, .int .i64 d, .int .i64 p, .int .i64 r, .int .i64 dr, .int .i64 o, .int .i64 sl, .int .i64 md, .int .i64 fr, .slice ad zs.length cap] 33)))
  have HP := hidden (cPlain_any n f d p r dr o sl md fr ad cap zs ((w.alloc (.cells #[.int .i64 n, .int .i64 f, .int .i64 d, .int .i64 p, .int .i64 r, .int .i64 dr, .int .i64 o, .int .i64 sl, .int .i64 md, .int .i64 fr, .slice ad zs.length cap] 24)).alloc (.cells #[.int .i64 n, .int .i64 f, .int .i64 d, .int .i64 p, .int .i64 r, .int .i64 dr, .int .i64 o, .int .i64 sl, .int .i64 md, .int .i64 fr, .slice ad zs.length cap] 33)) hl HT.out)
  clear hT
  by_cases hE : plainE n f d p r dr o sl md fr zs = 0
  · have HI := hidden (fun (v : World) (h : Tab v ad zs) => settle_any n f d p r dr o sl md fr ad cap zs v hl h hE)
    have HG : Hid (gate (plainE n f d p r dr o sl md fr zs) (1 + 4 * (3 * (f + 1) * d) + 2 * p + 4 * p) = 1 + 4 * (3 * (f + 1) * d) + 2 * p + 4 * p) := by rw [hE]; exact gate_ok _
    obtain ⟨_, _, f1, f2, _, d1, d2, _, p2, _⟩ := plainE_ok hE
    have p1 := plainE_p hE
    have hd : decide (plainE n f d p r dr o sl md fr zs = 0) = true := decide_eq_true hE
    rw [hd] at HP
    clear hd hE
    obtain ⟨b0, b1⟩ := mul_bd (show 0 ≤ 3 * (f + 1) by omega) (show 3 * (f + 1) ≤ 15 by omega) (show 0 ≤ d by omega) d2
    generalize hS : 1 + 4 * (3 * (f + 1) * d) + 2 * p = S at *
    have S1 : 0 ≤ S ∧ S ≤ 1100 := by omega
    clear hS
    have t1 : IntKind.i64.wrap (4 * p) = 4 * p := IntWalk.i64_in _ (by omega)
    have t2 : IntKind.i64.wrap (S + 4 * p) = S + 4 * p := IntWalk.i64_in _ (by omega)
    go_enter Try.func16, Try.ntmps16
    go_wp2_with fail
    refine HP.out.mono ?_
    rintro e w2 ⟨rfl, hb2⟩
    have HB2 := hidden hb2
    clear hb2
    obtain ⟨hbox, hbox1, hsz⟩ := box_at2 HB2.out
    have HT2 := hidden (HT.out.below HB2.out)
    go_wp2
    refine wp_region_quiet_below (by kernel_rfl) (by kernel_rfl) ?_
    repeat (go_big_quiet_step ((go_at_call 27; exact Calls.regrown_of (HI.out _ (HT2.out.below (below_regrown _ _ _))))))
    refine wpQuiet_nil ?_
    intro w3 hw3
    have HB3 := hidden (bthen HB2.out (rg_below hw3))
    clear hw3 hbox hbox1 hsz
    go_wp2
    go_ret
    exact ⟨ret_i HG.out.symm, bthen (Joins.below_alloc2 _ _ _) HB3.out⟩
  · have HG := hidden (gate_no hE (1 + 4 * (3 * (f + 1) * d) + 2 * p + 4 * p))
    have hd : decide (plainE n f d p r dr o sl md fr zs = 0) = false := decide_eq_false hE
    rw [hd] at HP
    clear hd hE
    go_enter Try.func16, Try.ntmps16
    go_wp2_with fail
    refine HP.out.mono ?_
    rintro e w2 ⟨rfl, hb2⟩
    have HB2 := hidden hb2
    clear hb2
    go_wp2
    go_ret
    exact ⟨ret_i HG.out.symm, bthen (Joins.below_alloc2 _ _ _) HB2.out⟩
end Go.Proofs.Ytoemloggbljikab
