/- The walk of the statement GateOpens: the call returns true, and makes at most new memory; conditions: the table and the row lie where they say, lengths and numbers fit int. -/
import Derived.Test.YtkopmhmbldohdaaBf
namespace Go.Proofs.Ytkopmhmbldohdaa.LawGateOpens
open Go.ChangeShapes Go.WideShapes Go.ChangeAt Go.RowKit
set_option linter.unusedVariables false
attribute [local go_sem] cell_rg
attribute [local go_sem ↓] ldM_eq

set_option maxHeartbeats 4000000 in
theorem walk (n f d p r dr o sl md fr : Int) (ad : Option Addr) (cap : Nat) (zs : List Int) (mm : Array Value) (mc ma mn mr : Int) (mz mh mt ml : ByteArray) (hM : MemW mm mc ma mn mr mz mh mt ml) (me : Int) (a2 : Option Addr) (c2 : Nat) (vs : List Int) (w : World) (hl : zs.length ≤ 9223372036854775807) (hT : Tab w ad zs)
    (hI : (Lit.int .i64 mc).wf = true ∧ (Lit.int .i64 ma).wf = true ∧ (Lit.int .i64 mn).wf = true ∧ (Lit.int .i64 mr).wf = true) (hZ : mz.size ≤ 9223372036854775807 ∧ mh.size ≤ 9223372036854775807 ∧ mt.size ≤ 9223372036854775807 ∧ ml.size ≤ 9223372036854775807)
    (hme : -9223372036854775808 ≤ me ∧ me ≤ 9223372036854775807) (hlv : vs.length ≤ 9223372036854775807) (hV : kInt.Lies w.heap.size w (.slice a2 vs.length c2) vs) :
    Calls Try.prog 3 #[.agg #[.int .i64 n, .int .i64 f, .int .i64 d, .int .i64 p, .int .i64 r, .int .i64 dr, .int .i64 o, .int .i64 sl, .int .i64 md, .int .i64 fr, .slice ad zs.length cap], .agg mm, .int .i64 me, .slice a2 vs.length c2] w fun e w' => e = .returned (.bool true) ∧ Below w.heap.size w w' := by
  obtain ⟨k0, k1⟩ := blk2 w #[.int .i64 n, .int .i64 f, .int .i64 d, .int .i64 p, .int .i64 r, .int .i64 dr, .int .i64 o, .int .i64 sl, .int .i64 md, .int .i64 fr, .slice ad zs.length cap] 24 mm 30
  have HB0 := hidden (bthen (ballc w (.cells #[.int .i64 n, .int .i64 f, .int .i64 d, .int .i64 p, .int .i64 r, .int .i64 dr, .int .i64 o, .int .i64 sl, .int .i64 md, .int .i64 fr, .slice ad zs.length cap] 24)) (ballc _ (.cells mm 30)))
  have HT := hidden (hT.below HB0.out)
  have HV := hidden (hV.later HB0.out)
  have hm := hZ.2.2.1
  have CS := hidden (fun V => Sync_any mm mc ma mn mr mz mh mt ml hM V)
  have CR := hidden (fun V => rSync_any mm mc ma mn mr mz mh mt ml hM V)
  have CM := hidden (fun V h => Mark_any mt me a2 c2 vs V hm hlv h)
  have CN := hidden (fun V h => rMark_any mt me a2 c2 vs V hm hlv h)
  have CO := hidden (fun V h => Open_any n f d p r dr o sl md fr ad cap zs mm mc ma mn mr mz mh mt ml hM me V hl h hm)
  have CP := hidden (fun V h => rOpen_any n f d p r dr o sl md fr ad cap zs mm mc ma mn mr mz mh mt ml hM me V hl h hm)
  have CK := hidden (fun V => known23_any V)
  have hld := ldM_rg hM.size k1
  have c12 := hM.c12
  have b0 := blk_cell k0
  have b1 := blk_cell k1
  have l0 := blk_lt k0
  have l1 := blk_lt k1
  generalize markB mt me vs = x at *
  generalize openF (plainE n f d p r dr o sl md fr zs) o sl r dr zs mr ((mc - ma) % 65536) mt me = k at *
  generalize decide (2 ≤ mr) = b at *
  clear hT hV hM k0 k1 hI
  by_cases h1 : 100 < mt.size
  · have d1 : decide ((100 : Int) < (mt.size : Int)) = true := decide_eq_true (by omega)
    have d2 : decide (100 < mt.size) = true := decide_eq_true h1
    clear CS CR CM CN CO CP
    go_enter Try.func3, Try.ntmps3
    go_wp2_with fail
    refine (CK.out _).mono ?_
    rintro e w2 ⟨rfl, hb2⟩
    have HB2 := hidden (bthen HB0.out hb2)
    clear hb2 b0 b1 l0 l1 hld
    go_wp2
    go_ret
    exact ⟨rfl, HB2.out⟩
  have d1 : decide ((100 : Int) < (mt.size : Int)) = false := decide_eq_false (by omega)
  have d2 : decide (100 < mt.size) = false := decide_eq_false h1
  by_cases h2 : 40 < vs.length
  · have d3 : decide ((40 : Int) < (vs.length : Int)) = true := decide_eq_true (by omega)
    have d4 : decide (40 < vs.length) = true := decide_eq_true h2
    clear CS CR CM CN CO CP
    go_enter Try.func3, Try.ntmps3
    go_wp2_with fail
    refine (CK.out _).mono ?_
    rintro e w2 ⟨rfl, hb2⟩
    have HB2 := hidden (bthen HB0.out hb2)
    clear hb2 b0 b1 l0 l1 hld
    go_wp2
    go_ret
    exact ⟨rfl, HB2.out⟩
  have d3 : decide ((40 : Int) < (vs.length : Int)) = false := decide_eq_false (by omega)
  have d4 : decide (40 < vs.length) = false := decide_eq_false h2
  go_enter Try.func3, Try.ntmps3
  go_wp2
  generalize (w.alloc (.cells #[.int .i64 n, .int .i64 f, .int .i64 d, .int .i64 p, .int .i64 r, .int .i64 dr, .int .i64 o, .int .i64 sl, .int .i64 md, .int .i64 fr, .slice ad zs.length cap] 24)).alloc (.cells mm 30) = W0 at *
  refine wp_region_quiet_below (by kernel_rfl) (by kernel_rfl) ?_
  repeat (go_big_quiet_step (first
    | (go_at_call 10; exact Calls.regrown_of (CS.out _))
    | (go_at_call 11; exact Calls.regrown_of (CR.out _))
    | (go_at_call 12; exact Calls.regrown_of (CM.out _ (HV.out.later (below_regrown _ _ _))))
    | (go_at_call 13; exact Calls.regrown_of (CN.out _ (HV.out.later (below_regrown _ _ _))))
    | (go_at_call 14; exact Calls.regrown_of (CO.out _ (HT.out.below (below_regrown _ _ _))))
    | (go_at_call 15; exact Calls.regrown_of (CP.out _ (HT.out.below (below_regrown _ _ _))))
    | (go_at_call 9; exact Calls.regrown_of (CK.out _))))
  refine wpQuiet_nil ?_
  intro w3 hw3
  have HB3 := hidden (bthen HB0.out (rg_below hw3))
  clear hw3 b0 b1 l0 l1 hld
  go_wp2
  go_ret
  exact ⟨rfl, HB3.out⟩
end Go.Proofs.Ytkopmhmbldohdaa.LawGateOpens
