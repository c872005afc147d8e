/- The walk of the statement GateMute: the call returns true, and makes at most new memory; conditions: the table lies where it says, lengths and numbers fit int. -/
import Derived.Test.YtkopmhmbldohdaaBf
namespace Go.Proofs.Ytkopmhmbldohdaa.LawGateMute
open Go.ChangeShapes Go.WideShapes Go.ChangeAt Go.RowKit
set_option linter.unusedVariables false
attribute [local go_sem] cell_rg
attribute [local go_sem ↓] ldM_eq

theorem pass_mute (ps cy mn : Int) (te ml : ByteArray) : gdS (passB (-1) ps cy te mn ml) ps = 0 := by
  unfold gdS passB
  by_cases h : ps = 0
  · subst h; simp
  · rw [if_neg]
    simp [h]
set_option maxRecDepth 100000 in
set_option maxHeartbeats 4000000 in
theorem walk (n f d p r dr o sl md fr : Int) (ad : Option Addr) (cap : Nat) (zs : List Int) (mm : Array Value) (mc ma mn mr : Int) (mz mh mt ml : ByteArray) (hM : MemW mm mc ma mn mr mz mh mt ml) (me : Int) (vo : ByteArray) (ex : Int) (ve : ByteArray) (ps cy : Int) (te : ByteArray) (w : World) (hl : zs.length ≤ 9223372036854775807) (hT : Tab w ad zs)
    (hI : (Lit.int .i64 mc).wf = true ∧ (Lit.int .i64 ma).wf = true ∧ (Lit.int .i64 mn).wf = true ∧ (Lit.int .i64 mr).wf = true) (hZ : mz.size ≤ 9223372036854775807 ∧ mh.size ≤ 9223372036854775807 ∧ mt.size ≤ 9223372036854775807 ∧ ml.size ≤ 9223372036854775807)
    (hme : -9223372036854775808 ≤ me ∧ me ≤ 9223372036854775807) (sv : vo.size ≤ 9223372036854775807) (kx : (Lit.int .i64 ex).wf = true) (se : ve.size ≤ 9223372036854775807) (kp : (Lit.int .i64 ps).wf = true) (kc : (Lit.int .i64 cy).wf = true) (st : te.size ≤ 9223372036854775807) :
    Calls Try.prog 5 #[.agg #[.int .i64 n, .int .i64 f, .int .i64 d, .int .i64 p, .int .i64 r, .int .i64 dr, .int .i64 o, .int .i64 sl, .int .i64 md, .int .i64 fr, .slice ad zs.length cap], .agg mm, .int .i64 me, .agg #[.string vo, .int .i64 ex, .string ve, .int .i64 ps, .int .i64 cy, .string te]] w fun e w' => e = .returned (.bool true) ∧ Below w.heap.size w w' := by
  obtain ⟨k0, k1, k2⟩ := blk3 w #[.int .i64 n, .int .i64 f, .int .i64 d, .int .i64 p, .int .i64 r, .int .i64 dr, .int .i64 o, .int .i64 sl, .int .i64 md, .int .i64 fr, .slice ad zs.length cap] 24 mm 30 #[.string vo, .int .i64 ex, .string ve, .int .i64 ps, .int .i64 cy, .string te] 38
  have HB0 := hidden (bthen (bthen (ballc w (.cells #[.int .i64 n, .int .i64 f, .int .i64 d, .int .i64 p, .int .i64 r, .int .i64 dr, .int .i64 o, .int .i64 sl, .int .i64 md, .int .i64 fr, .slice ad zs.length cap] 24)) (ballc _ (.cells mm 30))) (ballc _ (.cells #[.string vo, .int .i64 ex, .string ve, .int .i64 ps, .int .i64 cy, .string te] 38)))
  have HT := hidden (hT.below HB0.out)
  have hm := hZ.2.2.1
  have CS := hidden (fun V h => Send_any n f d p r dr o sl md fr ad cap zs mm mc ma mn mr mz mh mt ml hM me vo ex ve ps cy te _ V hl h hm rfl)
  have CG := hidden (fun V h => Guard_any n f d p r dr o sl md fr ad cap zs mm mc ma mn mr mz mh mt ml hM me vo ex ve ps cy te V hl h hm)
  have CY := hidden (fun V => Sync_any mm mc ma mn mr mz mh mt ml hM V)
  have CK := hidden (fun V => known23_any V)
  have HM := hidden hM
  have hld := ldM_run hM.size k1
  have c12 := hM.c12
  have c8 := hM.c8
  have HK0 := hidden k0
  have HK1 := hidden k1
  have HK2 := hidden k2
  have b0 := blk_cell k0
  have b1 := blk_cell k1
  have b2 := blk_cell k2
  have l0 := blk_lt k0
  have l1 := blk_lt k1
  have l2 := blk_lt k2
  clear hT hM k0 k1 k2 hI sv kx se kp kc st
  by_cases h1 : 100 < mt.size
  · have d1 : decide ((100 : Int) < (mt.size : Int)) = true := decide_eq_true (by omega)
    have d2 : decide (100 < mt.size) = true := decide_eq_true h1
    clear CS CG CY
    go_enter Try.func5, Try.ntmps5
    go_wp2_with fail
    refine (CK.out _).mono ?_
    rintro e w2 ⟨rfl, hb2⟩
    have HB2 := hidden (bthen HB0.out hb2)
    clear hb2 b0 b1 b2 l0 l1 l2 hld
    go_wp2
    go_ret
    exact ⟨rfl, HB2.out⟩
  have d1 : decide ((100 : Int) < (mt.size : Int)) = false := decide_eq_false (by omega)
  have d2 : decide (100 < mt.size) = false := decide_eq_false h1
  by_cases h2 : 2 ≤ mr
  · have e1 : decide (2 ≤ mr) = true := decide_eq_true h2
    clear CS CG CY
    go_enter Try.func5, Try.ntmps5
    go_wp2_with fail
    refine (CK.out _).mono ?_
    rintro e w2 ⟨rfl, hb2⟩
    have HB2 := hidden (bthen HB0.out hb2)
    clear hb2 b0 b1 b2 l0 l1 l2 hld
    go_wp2
    go_ret
    exact ⟨rfl, HB2.out⟩
  have e1 : decide (2 ≤ mr) = false := decide_eq_false h2
  have hK : openF (plainE n f d p r dr o sl md fr zs) o sl r dr zs mr ((mc - ma) % 65536) mt me = -1 := openF_no h2
  have hx : sndM (-1) mt zs.length = mt := if_pos rfl
  simp only [hK, carS_no, carC_no, carT_no, hx, pass_mute] at CS CG
  generalize gdS (passB (-1) ps cy te mn ml) cy = y2 at *
  generalize gdT (passB (-1) ps cy te mn ml) te = y3 at *
  rw [e1] at CY
  clear hK hx
  go_enter Try.func5, Try.ntmps5
  go_wp2_with fail
  generalize ((w.alloc (.cells #[.int .i64 n, .int .i64 f, .int .i64 d, .int .i64 p, .int .i64 r, .int .i64 dr, .int .i64 o, .int .i64 sl, .int .i64 md, .int .i64 fr, .slice ad zs.length cap] 24)).alloc (.cells mm 30)).alloc (.cells #[.string vo, .int .i64 ex, .string ve, .int .i64 ps, .int .i64 cy, .string te] 38) = W0 at *
  refine (CS.out _ HT.out).mono ?_
  rintro e w1 ⟨rfl, hb1⟩
  have HG1 := hidden (bthen hb1 (ballc w1 (.cells #[.string vo, .int .i64 ex, .string ve, .int .i64 0, .int .i64 0, .string ⟨#[]⟩] 38)))
  have HK3 := hidden (blk_nw w1 #[.string vo, .int .i64 ex, .string ve, .int .i64 0, .int .i64 0, .string ⟨#[]⟩] 38)
  clear hb1 b0 b1 b2 l0 l1 l2 hld CS
  have k0 := blk_later HK0.out HG1.out
  have k1 := blk_later HK1.out HG1.out
  have k2 := blk_later HK2.out HG1.out
  have b0 := blk_cell k0
  have l0 := blk_lt k0
  have b2 := blk_cell k2
  have l2 := blk_lt k2
  have hld := ldM_run HM.out.size k1
  have HT1 := hidden (HT.out.below HG1.out)
  clear k0 k1 k2
  go_wp2_with fail
  generalize w1.alloc (.cells #[.string vo, .int .i64 ex, .string ve, .int .i64 0, .int .i64 0, .string ⟨#[]⟩] 38) = W1 at *
  refine (CG.out _ HT1.out).mono ?_
  rintro e w2 ⟨rfl, hb2⟩
  have hb3 := bthen hb2 (ballc w2 (.cells #[.string vo, .int .i64 ex, .string ve, .int .i64 0, .int .i64 y2, .string y3] 38))
  have k4 := blk_nw w2 #[.string vo, .int .i64 ex, .string ve, .int .i64 0, .int .i64 y2, .string y3] 38
  have HK3' := hidden (blk_later HK3.out hb3)
  have HK4 := hidden k4
  have HG2 := hidden (bthen HG1.out hb3)
  clear b0 l0 b2 l2 hld CG hb2 hb3 HK3 HT1 HT k4
  have hld := ldM_run HM.out.size (blk_later HK1.out HG2.out)
  go_wp2_with fail
  generalize w2.alloc (.cells #[.string vo, .int .i64 ex, .string ve, .int .i64 0, .int .i64 y2, .string y3] 38) = W2 at *
  refine (CY.out _).mono ?_
  rintro e w3 ⟨rfl, hb4⟩
  have HG3 := hidden (bthen HG2.out hb4)
  have k1 := blk_later HK1.out HG3.out
  have k2 := blk_later HK2.out HG3.out
  have k3 := blk_later HK3'.out hb4
  have k4 := blk_later HK4.out hb4
  clear hb4 hld
  have b1 := blk_cell k1
  have l1 := blk_lt k1
  have b2 := blk_cell k2
  have l2 := blk_lt k2
  have b3 := blk_cell k3
  have l3 := blk_lt k3
  have b4 := blk_cell k4
  have l4 := blk_lt k4
  clear k1 k2 k3 k4
  go_wp2_with fail
  refine (CK.out _).mono ?_
  rintro e w4 ⟨rfl, hb5⟩
  have HB5 := hidden (bthen HB0.out (bthen HG3.out hb5))
  clear hb5 b1 l1 b2 l2 b3 l3 b4 l4
  go_wp2
  go_ret
  exact ⟨rfl, HB5.out⟩
end Go.Proofs.Ytkopmhmbldohdaa.LawGateMute
