/- The walk of the statement AcceptChecks: the call returns true, and makes at most new memory; conditions: the table lies where it says, lengths and numbers fit int. -/
import Derived.Test.YtkopmhmbldohdaaBh
namespace Go.Proofs.Ytkopmhmbldohdaa.LawAcceptChecks
open Go.ChangeShapes Go.WideShapes Go.ChangeAt Go.RowKit
set_option linter.unusedVariables false
attribute [local go_sem] cell_rg
attribute [local go_sem ↓] ldM_eq eqIn_dl
attribute [local go_sem] guard_dl dlQ_same

set_option maxRecDepth 100000 in
set_option maxHeartbeats 4000000 in
theorem walk (n f d p r dr o sl md fr : Int) (ad : Option Addr) (cap : Nat) (zs : List Int) (mm : Array Value) (mc ma mn mr : Int) (mz mh mt ml : ByteArray) (hM : MemW mm mc ma mn mr mz mh mt ml) (fm : Int) (vo : ByteArray) (ex : Int) (ve : ByteArray) (ps cy : Int) (te : ByteArray) (w : World) (hl : zs.length ≤ 9223372036854775807) (hT : Tab w ad zs)
    (hI : (Lit.int .i64 mc).wf = true ∧ (Lit.int .i64 ma).wf = true ∧ (Lit.int .i64 mn).wf = true ∧ (Lit.int .i64 mr).wf = true) (hZ : mz.size ≤ 9223372036854775807 ∧ mh.size ≤ 9223372036854775807 ∧ mt.size ≤ 9223372036854775807 ∧ ml.size ≤ 9223372036854775807)
    (hme : -9223372036854775808 ≤ fm ∧ fm ≤ 9223372036854775807) (sv : vo.size ≤ 9223372036854775807) (kx : (Lit.int .i64 ex).wf = true) (se : ve.size ≤ 9223372036854775807) (kp : (Lit.int .i64 ps).wf = true) (kc : (Lit.int .i64 cy).wf = true) (st : te.size ≤ 9223372036854775807) :
    Calls Try.prog 7 #[.agg #[.int .i64 n, .int .i64 f, .int .i64 d, .int .i64 p, .int .i64 r, .int .i64 dr, .int .i64 o, .int .i64 sl, .int .i64 md, .int .i64 fr, .slice ad zs.length cap], .agg mm, .int .i64 fm, .agg #[.string vo, .int .i64 ex, .string ve, .int .i64 ps, .int .i64 cy, .string te]] w fun e w' => e = .returned (.bool true) ∧ Below w.heap.size w w' := by
  obtain ⟨k0, k1, k2⟩ := blk3 w #[.int .i64 n, .int .i64 f, .int .i64 d, .int .i64 p, .int .i64 r, .int .i64 dr, .int .i64 o, .int .i64 sl, .int .i64 md, .int .i64 fr, .slice ad zs.length cap] 24 mm 30 #[.string vo, .int .i64 ex, .string ve, .int .i64 ps, .int .i64 cy, .string te] 38
  have HB0 := hidden (bthen (bthen (ballc w (.cells #[.int .i64 n, .int .i64 f, .int .i64 d, .int .i64 p, .int .i64 r, .int .i64 dr, .int .i64 o, .int .i64 sl, .int .i64 md, .int .i64 fr, .slice ad zs.length cap] 24)) (ballc _ (.cells mm 30))) (ballc _ (.cells #[.string vo, .int .i64 ex, .string ve, .int .i64 ps, .int .i64 cy, .string te] 38)))
  have HT := hidden (hT.below HB0.out)
  have hm2 := hZ.1
  have hm := hZ.2.1
  obtain ⟨C, hC⟩ : ∃ C, C = chkC n f d p r dr o sl md fr zs mc ma mn mr fm ps cy te mh := ⟨_, rfl⟩
  have CS := hidden (fun V h => Take_any n f d p r dr o sl md fr ad cap zs mm mc ma mn mr mz mh mt ml hM fm vo ex ve ps cy te C V hl h hm hm2 hC)
  have CR := hidden (fun V h => rTake_any n f d p r dr o sl md fr ad cap zs mm mc ma mn mr mz mh mt ml hM fm vo ex ve ps cy te C V hl h hm hm2 hC)
  have CG := hidden (fun V h => Check_any n f d p r dr o sl md fr ad cap zs mm mc ma mn mr mz mh mt ml hM fm vo ex ve ps cy te V hl h hm)
  have CH := hidden (fun V h => rCheck_any n f d p r dr o sl md fr ad cap zs mm mc ma mn mr mz mh mt ml hM fm vo ex ve ps cy te V hl h hm)
  rw [← hC] at CG CH
  have CK := hidden (fun V => known24_any V)
  have HM := hidden hM
  have hld := ldM_run hM.size k1
  have c10 := hM.c10
  have c11 := hM.c11
  have HK0 := hidden k0
  have HK1 := hidden k1
  have HK2 := hidden k2
  generalize tkM C mh zs.length (ps - 1) = x1 at *
  generalize tkM C mz n fm = x2 at *
  generalize tkI C fm = x3 at *
  generalize tkI C (ps - 1) = x4 at *
  generalize tkI C cy = x5 at *
  generalize tkT C te = x6 at *
  have b0 := blk_cell k0
  have b1 := blk_cell k1
  have b2 := blk_cell k2
  have l0 := blk_lt k0
  have l1 := blk_lt k1
  have l2 := blk_lt k2
  clear hT hM k0 k1 k2 hI sv kx se kp kc st hZ hme hC
  by_cases h1 : 100 < mh.size
  · have d1 : decide ((100 : Int) < (mh.size : Int)) = true := decide_eq_true (by omega)
    have d2 : decide (100 < mh.size) = true := decide_eq_true h1
    clear CS CR CG CH
    go_enter Try.func7, Try.ntmps7
    go_wp2_with fail
    refine (CK.out _).mono ?_
    rintro e w2 ⟨rfl, hb2⟩
    have HB2 := hidden (bthen HB0.out hb2)
    clear hb2 b0 b1 b2 l0 l1 l2 hld
    go_wp2
    go_ret
    exact ⟨rfl, HB2.out⟩
  have d1 : decide ((100 : Int) < (mh.size : Int)) = false := decide_eq_false (by omega)
  have d2 : decide (100 < mh.size) = false := decide_eq_false h1
  by_cases h2 : 100 < mz.size
  · have d3 : decide ((100 : Int) < (mz.size : Int)) = true := decide_eq_true (by omega)
    have d4 : decide (100 < mz.size) = true := decide_eq_true h2
    clear CS CR CG CH
    go_enter Try.func7, Try.ntmps7
    go_wp2_with fail
    refine (CK.out _).mono ?_
    rintro e w2 ⟨rfl, hb2⟩
    have HB2 := hidden (bthen HB0.out hb2)
    clear hb2 b0 b1 b2 l0 l1 l2 hld
    go_wp2
    go_ret
    exact ⟨rfl, HB2.out⟩
  have d3 : decide ((100 : Int) < (mz.size : Int)) = false := decide_eq_false (by omega)
  have d4 : decide (100 < mz.size) = false := decide_eq_false h2
  go_enter Try.func7, Try.ntmps7
  go_wp2_with fail
  generalize ((w.alloc (.cells #[.int .i64 n, .int .i64 f, .int .i64 d, .int .i64 p, .int .i64 r, .int .i64 dr, .int .i64 o, .int .i64 sl, .int .i64 md, .int .i64 fr, .slice ad zs.length cap] 24)).alloc (.cells mm 30)).alloc (.cells #[.string vo, .int .i64 ex, .string ve, .int .i64 ps, .int .i64 cy, .string te] 38) = W0 at *
  refine (CS.out _ HT.out).mono ?_
  rintro e w1 ⟨rfl, hb1⟩
  have HG1 := hidden (bthen hb1 (ballc w1 (.cells #[.int .i64 x3, .int .i64 x4, .int .i64 x5, .string x6] 47)))
  have k3 := blk_nw w1 #[.int .i64 x3, .int .i64 x4, .int .i64 x5, .string x6] 47
  have HK3 := hidden k3
  clear hb1 b0 b1 b2 l0 l1 l2 hld k3 CS
  have k0 := blk_later HK0.out HG1.out
  have k1 := blk_later HK1.out HG1.out
  have k2 := blk_later HK2.out HG1.out
  have b0 := blk_cell k0
  have l0 := blk_lt k0
  have b2 := blk_cell k2
  have l2 := blk_lt k2
  have hld := ldM_run HM.out.size k1
  have HT1 := hidden (HT.out.below HG1.out)
  have HL3 := hidden (blk_lt HK3.out)
  clear k0 k1 k2
  go_wp2_with fail
  generalize w1.alloc (.cells #[.int .i64 x3, .int .i64 x4, .int .i64 x5, .string x6] 47) = W1 at *
  refine (CR.out _ HT1.out).mono ?_
  rintro e w2 ⟨rfl, hb2⟩
  have hb3 := bthen hb2 (ballc w2 (.cells #[.int .i64 x3, .int .i64 x4, .int .i64 x5, .string x6] 47))
  have k4 := blk_nw w2 #[.int .i64 x3, .int .i64 x4, .int .i64 x5, .string x6] 47
  have k3 := blk_later HK3.out hb3
  have HG2 := hidden (bthen HG1.out hb3)
  clear b0 l0 b2 l2 hld CR hb2 hb3 HK3
  have k0 := blk_later HK0.out HG2.out
  have k1 := blk_later HK1.out HG2.out
  have k2 := blk_later HK2.out HG2.out
  have HT2 := hidden (HT.out.below HG2.out)
  have b0 := blk_cell k0
  have l0 := blk_lt k0
  have b2 := blk_cell k2
  have l2 := blk_lt k2
  have b3 := blk_cell k3
  have l3 := blk_lt k3
  have b4 := blk_cell k4
  have l4 := blk_lt k4
  have hld := ldM_rg HM.out.size k1
  have HL := hidden HL3.out
  clear k0 k1 k2 k3 k4
  go_wp2
  generalize w2.alloc (.cells #[.int .i64 x3, .int .i64 x4, .int .i64 x5, .string x6] 47) = W2 at *
  refine wp_region_quiet_below (by kernel_rfl) (by kernel_rfl) ?_
  repeat (go_big_quiet_step (first
    | (go_at_call 26; exact Calls.regrown_of (CG.out _ (HT2.out.below (below_regrown _ _ _))))
    | (go_at_call 27; exact Calls.regrown_of (CH.out _ (HT2.out.below (below_regrown _ _ _))))
    | (go_at_call 23; exact Calls.regrown_of (CK.out _))))
  refine wpQuiet_nil ?_
  intro w3 hw3
  have HB3 := hidden (bthen HB0.out (bthen HG2.out (rg_below hw3)))
  clear hw3 b0 b2 b3 b4 l0 l2 l3 l4 hld
  go_wp2
  go_ret
  exact ⟨rfl, HB3.out⟩
end Go.Proofs.Ytkopmhmbldohdaa.LawAcceptChecks
