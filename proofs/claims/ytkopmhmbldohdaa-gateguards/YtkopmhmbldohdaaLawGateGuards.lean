/- The walk of the statement GateGuards: the call returns true, and makes at most new memory; conditions: the table lies where it says, lengths and numbers fit int. -/
import Derived.Test.YtkopmhmbldohdaaBf
namespace Go.Proofs.Ytkopmhmbldohdaa.LawGateGuards
open Go.ChangeShapes Go.WideShapes Go.ChangeAt Go.RowKit
set_option linter.unusedVariables false
attribute [local go_sem] cell_rg
attribute [local go_sem ↓] ldM_eq eqIn_pk
attribute [local go_sem] guard_pk pkQ_same

section
variable {E o sl r dr : Int} {zs : List Int} {mr el : Int} {mt : ByteArray} {me K : Int}
/-- What is sent is let through. -/
theorem pass_self (hK : K = -1 ∨ (0 ≤ K ∧ K < 32)) (mn : Int) (ml : ByteArray) : passB K (carS K) (carC K mn) (carT K ml) mn ml = true := by
  unfold passB
  rcases hK with rfl | hK
  · simp [carS_no]
  · obtain ⟨e1, e2, e3⟩ := car_yes hK mn ml
    rw [e1, e2, e3]
    exact decide_eq_true (.inr ⟨hK.1, rfl, rfl, rfl⟩)
/-- What an open slot tells. -/
theorem own_open (hK : K = openF E o sl r dr zs mr el mt me) (h32 : E = 0 → (zs.length : Int) ≤ 32) (h : ¬ K + 1 = 0) :
    ownF E zs (K + 1 - 1) = me ∧ hasI mt (K + 1 - 1) = false ∧ hasI (sndM K mt zs.length) (K + 1 - 1) = true ∧ (sndM K mt zs.length).size = zs.length ∧ ¬ openF E o sl r dr zs mr el (sndM K mt zs.length) me = K + 1 - 1 ∧ carS K = K + 1 := by
  have e0 : K + 1 - 1 = K := by omega
  rw [e0]
  rcases openF_bd E o sl r dr zs mr el mt me with h1 | ⟨k, hE, h2, hk, ho, hs, h1⟩
  · omega
  · rw [h1] at hK
    subst hK
    have hz := h32 hE
    subst hE
    have hsn : sndM (k : Int) mt zs.length = markB mt zs.length [(k : Int)] := if_neg (by omega)
    have hmk : mkN (zs.length : Int) = zs.length := mkN_of (by omega)
    have hst : sentB (markB mt zs.length [(k : Int)]) k = true := by
      rw [sentB_markB, hmk, decide_eq_true hk]
      unfold markP
      simp
    rw [hsn, hasI_nat, hasI_nat]
    refine ⟨by rw [ownF_in hk, ho], hs, hst, by rw [markB_size, hmk], ?_, (car_yes (by omega) 0 ⟨#[]⟩).1⟩
    rcases openF_bd 0 o sl r dr zs mr el (markB mt zs.length [(k : Int)]) me with h3 | ⟨j, _, _, _, _, h4, h3⟩
    · omega
    · intro c
      have : j = k := by omega
      subst this
      rw [hst] at h4
      cases h4
/-- What the guard lets through. -/
theorem let_through {ps cy mn : Int} {te ml : ByteArray} (hK : K = -1 ∨ (0 ≤ K ∧ K < 32)) (h : ¬ gdS (passB K ps cy te mn ml) ps = 0) :
    gdS (passB K ps cy te mn ml) ps = K + 1 ∧ gdS (passB K ps cy te mn ml) cy = mn ∧ gdT (passB K ps cy te mn ml) te = ml ∧ ps = K + 1 ∧ cy = mn ∧ te = ml ∧ ¬ K + 1 = 0 := by
  cases hB : passB K ps cy te mn ml with
  | false => rw [hB] at h; exact absurd rfl h
  | true =>
    rw [hB] at h
    have h0 : ¬ ps = 0 := h
    unfold passB at hB
    rcases of_decide_eq_true hB with c | ⟨c1, c2, c3, c4⟩
    · exact absurd c h0
    · subst c2 c3 c4
      exact ⟨rfl, rfl, rfl, rfl, rfl, rfl, by omega⟩
end
set_option maxRecDepth 100000 in
set_option maxHeartbeats 8000000 in
theorem walk (n f d p r dr o sl md fr : Int) (ad : Option Addr) (cap : Nat) (zs : List Int) (mm : Array Value) (mc ma mn mr : Int) (mz mh mt ml : ByteArray) (hM : MemW mm mc ma mn mr mz mh mt ml) (me : Int) (vo : ByteArray) (ex : Int) (ve : ByteArray) (ps cy : Int) (te : ByteArray) (w : World) (hl : zs.length ≤ 9223372036854775807) (hT : Tab w ad zs)
    (hI : (Lit.int .i64 mc).wf = true ∧ (Lit.int .i64 ma).wf = true ∧ (Lit.int .i64 mn).wf = true ∧ (Lit.int .i64 mr).wf = true) (hZ : mz.size ≤ 9223372036854775807 ∧ mh.size ≤ 9223372036854775807 ∧ mt.size ≤ 9223372036854775807 ∧ ml.size ≤ 9223372036854775807)
    (hme : -9223372036854775808 ≤ me ∧ me ≤ 9223372036854775807) (sv : vo.size ≤ 9223372036854775807) (kx : (Lit.int .i64 ex).wf = true) (se : ve.size ≤ 9223372036854775807) (kp : (Lit.int .i64 ps).wf = true) (kc : (Lit.int .i64 cy).wf = true) (st : te.size ≤ 9223372036854775807) :
    Calls Try.prog 6 #[.agg #[.int .i64 n, .int .i64 f, .int .i64 d, .int .i64 p, .int .i64 r, .int .i64 dr, .int .i64 o, .int .i64 sl, .int .i64 md, .int .i64 fr, .slice ad zs.length cap], .agg mm, .int .i64 me, .agg #[.string vo, .int .i64 ex, .string ve, .int .i64 ps, .int .i64 cy, .string te]] w fun e w' => e = .returned (.bool true) ∧ Below w.heap.size w w' := by
  obtain ⟨k0, k1, k2⟩ := blk3 w #[.int .i64 n, .int .i64 f, .int .i64 d, .int .i64 p, .int .i64 r, .int .i64 dr, .int .i64 o, .int .i64 sl, .int .i64 md, .int .i64 fr, .slice ad zs.length cap] 24 mm 30 #[.string vo, .int .i64 ex, .string ve, .int .i64 ps, .int .i64 cy, .string te] 38
  have HB0 := hidden (bthen (bthen (ballc w (.cells #[.int .i64 n, .int .i64 f, .int .i64 d, .int .i64 p, .int .i64 r, .int .i64 dr, .int .i64 o, .int .i64 sl, .int .i64 md, .int .i64 fr, .slice ad zs.length cap] 24)) (ballc _ (.cells mm 30))) (ballc _ (.cells #[.string vo, .int .i64 ex, .string ve, .int .i64 ps, .int .i64 cy, .string te] 38)))
  have HTw := hidden hT
  have HT := hidden (hT.below HB0.out)
  have hm := hZ.2.2.1
  have h32 : plainE n f d p r dr o sl md fr zs = 0 → (zs.length : Int) ≤ 32 := fun h => by have := (plainE_ok h).2.2.2.2.2.2.2.2.2.2.2.2.2.2.2.2.2.2.2.2.2.2.1; omega
  obtain ⟨K, hK⟩ : ∃ K, K = openF (plainE n f d p r dr o sl md fr zs) o sl r dr zs mr ((mc - ma) % 65536) mt me := ⟨_, rfl⟩
  have hKK := open_32 (E := plainE n f d p r dr o sl md fr zs) (o := o) (sl := sl) (r := r) (dr := dr) (zs := zs) (mr := mr) (el := (mc - ma) % 65536) (s := mt) (node := me) h32
  rw [← hK] at hKK
  have hps := pass_self hKK mn ml
  have hlt := fun h => let_through (ps := ps) (cy := cy) (mn := mn) (te := te) (ml := ml) hKK h
  have hop := own_open hK h32
  have hbd : -9223372036854775808 ≤ K + 1 - 1 ∧ K + 1 - 1 ≤ 9223372036854775807 := by omega
  have hn0 : K + 1 = 0 → carS K = 0 := fun h => by have : K = -1 := by omega
                                                   subst this; rfl
  have CS := fun V h => Send_any n f d p r dr o sl md fr ad cap zs mm mc ma mn mr mz mh mt ml hM me vo ex ve ps cy te K V hl h hm hK
  have CQ := fun V h => Guard_any n f d p r dr o sl md fr ad cap zs mm mc ma mn mr mz mh mt ml hM me vo ex ve (carS K) (carC K mn) (carT K ml) V hl h hm
  have CG := fun V h => Guard_any n f d p r dr o sl md fr ad cap zs mm mc ma mn mr mz mh mt ml hM me vo ex ve ps cy te V hl h hm
  have CO := fun V h => rOwner_any n f d p r dr o sl md fr ad cap zs (K + 1 - 1) V hbd hl h
  have CF := fun s V h hs => Open_any n f d p r dr o sl md fr ad cap zs (mm.setIfInBounds 12 (.string s)) mc ma mn mr mz mh s ml (hM.sent s) me V hl h hs
  have CT := fun a b c V => rStrip_any vo ex ve a b c V
  have CH := fun s z V hs => rHas_any s z V hs
  have CK := hidden (fun V => known23_any V)
  have HM := hidden hM
  rw [← hK] at CQ CG
  simp only [hps] at CQ
  simp only [show ∀ x : Int, gdS true x = x from fun _ => rfl, show ∀ x : ByteArray, gdT true x = x from fun _ => rfl] at CQ
  generalize gdS (passB K ps cy te mn ml) ps = y1 at *
  generalize gdS (passB K ps cy te mn ml) cy = y2 at *
  generalize gdT (passB K ps cy te mn ml) te = y3 at *
  generalize sndM K mt zs.length = s at *
  generalize carS K = x1 at *
  generalize carC K mn = x2 at *
  generalize carT K ml = x3 at *
  generalize ownF (plainE n f d p r dr o sl md fr zs) zs (K + 1 - 1) = ow at *
  have CF2 := fun V h hs => CF s V h hs
  generalize openF (plainE n f d p r dr o sl md fr zs) o sl r dr zs mr ((mc - ma) % 65536) s me = k2' at *
  have HLT := hidden hlt
  have HOP := hidden hop
  have HN0 := hidden hn0
  have HCS := hidden CS
  have HCQ := hidden CQ
  have HCG := hidden CG
  have HCO := hidden CO
  have HCF := hidden CF2
  have HCT := hidden CT
  have HCH := hidden CH
  have q1 : IntKind.i64.wrap (K + 1 - 1) = K + 1 - 1 := IntWalk.i64_in _ (by omega)
  have HBD := hidden hbd
  clear CS CQ CG CO CF CF2 CT CH hlt hop hn0 hps hKK hK h32 hbd
  obtain ⟨n', hn'⟩ : ∃ n', n' = K + 1 := ⟨_, rfl⟩
  rw [← hn'] at HCS HCO HLT HOP HN0 HBD q1
  clear hn'
  have hld := ldM_run hM.size k1
  have c12 := hM.c12
  have c7 := hM.c7
  have c14 := hM.c14
  have HK0 := hidden k0
  have HK1 := hidden k1
  have HK2 := hidden k2
  have b0 := blk_cell k0
  have b1 := blk_cell k1
  have b2 := blk_cell k2
  have l0 := blk_lt k0
  have l1 := blk_lt k1
  have l2 := blk_lt k2
  clear hT hM k0 k1 k2 hI sv kx se kp kc st hZ hme
  by_cases h1 : 100 < mt.size
  · have d1 : decide ((100 : Int) < (mt.size : Int)) = true := decide_eq_true (by omega)
    have d2 : decide (100 < mt.size) = true := decide_eq_true h1
    go_enter Try.func6, Try.ntmps6
    go_wp2_with fail
    refine (CK.out _).mono ?_
    rintro e w2 ⟨rfl, hb2⟩
    have HB2 := hidden (bthen HB0.out hb2)
    clear hb2 b0 b1 b2 l0 l1 l2 hld
    go_wp2
    go_ret
    exact ⟨rfl, HB2.out⟩
  have d1 : decide ((100 : Int) < (mt.size : Int)) = false := decide_eq_false (by omega)
  have d2 : decide (100 < mt.size) = false := decide_eq_false h1
  go_enter Try.func6, Try.ntmps6
  go_wp2_with fail
  generalize ((w.alloc (.cells #[.int .i64 n, .int .i64 f, .int .i64 d, .int .i64 p, .int .i64 r, .int .i64 dr, .int .i64 o, .int .i64 sl, .int .i64 md, .int .i64 fr, .slice ad zs.length cap] 24)).alloc (.cells mm 30)).alloc (.cells #[.string vo, .int .i64 ex, .string ve, .int .i64 ps, .int .i64 cy, .string te] 38) = W0 at *
  refine (HCS.out _ HT.out).mono ?_
  rintro e w1 ⟨rfl, hb1⟩
  have HG1 := hidden (bthen hb1 (ballc w1 (.cells #[.string vo, .int .i64 ex, .string ve, .int .i64 x1, .int .i64 x2, .string x3] 38)))
  have k3 := blk_nw w1 #[.string vo, .int .i64 ex, .string ve, .int .i64 x1, .int .i64 x2, .string x3] 38
  have HK3 := hidden k3
  clear hb1 b0 b1 b2 l0 l1 l2 hld HCS
  have k0 := blk_later HK0.out HG1.out
  have k1 := blk_later HK1.out HG1.out
  have k2 := blk_later HK2.out HG1.out
  have b0 := blk_cell k0
  have l0 := blk_lt k0
  have b2 := blk_cell k2
  have l2 := blk_lt k2
  have b3 := blk_cell k3
  have l3 := blk_lt k3
  have hld := ldM_rg HM.out.size k1
  have HT1 := hidden (HT.out.below HG1.out)
  clear k0 k1 k2 k3
  go_wp2
  generalize w1.alloc (.cells #[.string vo, .int .i64 ex, .string ve, .int .i64 x1, .int .i64 x2, .string x3] 38) = W1 at *
  refine wp_region_quiet_below (by kernel_rfl) (by kernel_rfl) ?_
  repeat (go_big_quiet_step (fail))
  go_big_quiet_step ((go_at_call 18; exact Calls.regrown_of (HCQ.out _ (HT1.out.below (below_regrown _ _ _)))))
  repeat (go_big_quiet_step (fail))
  go_big_quiet_step ((go_at_call 20; exact Calls.regrown_of (HCT.out _ _ _ _)))
  repeat (go_big_quiet_step (fail))
  go_big_quiet_step ((go_at_call 20; exact Calls.regrown_of (HCT.out _ _ _ _)))
  repeat (go_big_quiet_step (fail))
  refine wpQuiet_nil ?_
  intro w3 hw3
  have hb3 := rg_below hw3
  have HG2 := hidden (bthen HG1.out hb3)
  have HK3' := hidden (blk_later HK3.out hb3)
  clear hw3 b0 b2 b3 l0 l2 l3 hld hb3 HK3 HT1 HCQ HCT
  have k0 := blk_later HK0.out HG2.out
  have k1 := blk_later HK1.out HG2.out
  have k2 := blk_later HK2.out HG2.out
  have b0 := blk_cell k0
  have l0 := blk_lt k0
  have b2 := blk_cell k2
  have l2 := blk_lt k2
  have hld := ldM_run HM.out.size k1
  have HT2 := hidden (HT.out.below HG2.out)
  clear k0 k1 k2
  go_wp2_with fail
  refine (HCG.out _ HT2.out).mono ?_
  rintro e w4 ⟨rfl, hb4⟩
  have hb5 := bthen hb4 (ballc w4 (.cells #[.string vo, .int .i64 ex, .string ve, .int .i64 y1, .int .i64 y2, .string y3] 38))
  have HK4 := hidden (blk_nw w4 #[.string vo, .int .i64 ex, .string ve, .int .i64 y1, .int .i64 y2, .string y3] 38)
  have HK3 := hidden (blk_later HK3'.out hb5)
  have HG3 := hidden (bthen HG2.out hb5)
  have HLW : Hid (w4.heap.size < (w4.alloc (.cells #[.string vo, .int .i64 ex, .string ve, .int .i64 y1, .int .i64 y2, .string y3] 38)).heap.size) := blk_lt HK4.out
  clear b0 b2 l0 l2 hld hb4 hb5 HCG HT2 HK3'
  have k0 := blk_later HK0.out HG3.out
  have k1 := blk_later HK1.out HG3.out
  have k2 := blk_later HK2.out HG3.out
  have b0 := blk_cell k0
  have l0 := blk_lt k0
  have b1 := blk_cell k1
  have l1 := blk_lt k1
  have f1 := blk_frozen k1
  have b2 := blk_cell k2
  have l2 := blk_lt k2
  have b3 := blk_cell HK3.out
  have l3 := blk_lt HK3.out
  have b4 := blk_cell HK4.out
  have l4 := blk_lt HK4.out
  have HT3 := hidden (HT.out.below HG3.out)
  clear k0 k1 k2
  by_cases hy : y1 = 0
  · have e1 : (y1 != 0) = false := by rw [hy]; rfl
    have HY := hidden hy
    clear hy
    by_cases hn : n' = 0
    · have e2 : (n' == 0) = true := beq_iff_eq.2 hn
      have e3 : (x1 == 0) = true := beq_iff_eq.2 (HN0.out hn)
      clear hn
      go_wp2_with fail
      refine (CK.out _).mono ?_
      rintro e w6 ⟨rfl, hb6⟩
      have HB6 := hidden (bthen HB0.out (bthen HG3.out hb6))
      clear hb6 b0 b1 b2 b3 b4 l0 l1 l2 l3 l4 f1
      go_wp2
      go_ret
      exact ⟨rfl, HB6.out⟩
    · have e2 : (n' == 0) = false := beq_eq_false_iff_ne.2 hn
      have HO5 := HOP.out hn
      obtain ⟨o1, o2, o3, o4, o5, o6⟩ := HO5
      have H1 := hidden o1
      have H2 := hidden o2
      have H3 := hidden o3
      have H5 : Hid ((k2' != n' - 1) = true) := by show _ = _; rw [bne_iff_ne]; exact o5
      have i6 : (x1 != n') = false := by rw [o6]; simp
      have i4 : ((s.size : Int) != (zs.length : Int)) = false := by rw [o4]; simp
      have i4' : (s.size != zs.length) = false := by rw [o4]; simp
      have HSZ : Hid (s.size ≤ 9223372036854775807) := by show _ ≤ _; omega
      clear o1 o2 o3 o4 o5 o6
      go_wp2_with fail
      refine (HCO.out _ (HT.out.below HG3.out)).mono ?_
      rintro e w6 ⟨rfl, hb6⟩
      have HG6 := hidden (bthen HG3.out hb6)
      have hb6x := hb6
      clear b0 b1 b2 b3 b4 l0 l1 l2 l3 l4 f1 hb6
      have k0 := blk_later HK0.out HG6.out
      have k1 := blk_later HK1.out HG6.out
      have b0 := blk_cell k0
      have l0 := blk_lt k0
      have b1 := blk_cell k1
      have l1 := blk_lt k1
      have f1 := blk_frozen k1
      have b3 := blk_cell (blk_later HK3.out (hb6x))
      have l3 := blk_lt (blk_later HK3.out (hb6x))
      have i1 : (ow != me) = false := by rw [H1.out]; simp
      have KS := hidden (heap_setCell_same w6 (w.heap.size + 1) 12 _ _ (.string s) k1)
      have KO := hidden ((heap_setCell_other w6 ⟨w.heap.size + 1, 12, none⟩ w.heap.size (.string s) (show w.heap.size ≠ w.heap.size + 1 by omega)).trans k0)
      have HB7 := hidden ((bthen HB0.out HG6.out).setCell (p := ⟨w.heap.size + 1, 12, none⟩) (show w.heap.size ≤ w.heap.size + 1 by omega) (.string s))
      clear k0 k1
      go_wp2_with fail
      refine (HCH.out mt _ _ hm).mono ?_
      rintro e w7 ⟨rfl, rfl⟩
      rw [H2.out]
      go_wp2_with fail
      refine (HCH.out s _ _ HSZ.out).mono ?_
      rintro e w7 ⟨rfl, rfl⟩
      rw [H3.out]
      have m0 := blk_cell KO.out
      have m1 := blk_lt KO.out
      have hld := ldM_run (HM.out.sent s).size KS.out
      go_wp2_with fail
      refine (HCF.out _ (HTw.out.below HB7.out) HSZ.out).mono ?_
      rintro e w8 ⟨rfl, hb8⟩
      have HB8 := hidden (bthen HB7.out hb8)
      have i5 := H5.out
      clear hb8 hld m0 m1 b0 b1 b3 l0 l1 l3 f1
      go_wp2_with fail
      refine (CK.out _).mono ?_
      rintro e w9 ⟨rfl, hb9⟩
      have HB9 := hidden (bthen HB8.out hb9)
      clear hb9
      go_wp2
      go_ret
      exact ⟨rfl, HB9.out⟩
  · have e1 : (y1 != 0) = true := bne_iff_ne.2 hy
    obtain ⟨g1, g2, g3, g4, g5, g6, hn⟩ := HLT.out hy
    have HQ : Hid (pkQ vo ex ve y1 y2 y3 vo ex ve ps cy te = true) := by
      show _ = _
      rw [g1, g2, g3, g4, g5, g6]
      exact pkQ_same ..
    subst y1
    subst y2
    subst y3
    have e2 : (n' == 0) = false := beq_eq_false_iff_ne.2 hn
    have i1 : (ow != me) = false := by rw [(HOP.out hn).1]; simp
    have HNE := hidden hn
    have hq := HQ.out
    clear g4 g5 g6 hn hy
    go_wp2_with fail
    refine (HCO.out _ (HT.out.below HG3.out)).mono ?_
    rintro e w5 ⟨rfl, hb5⟩
    have HG5 := hidden (bthen HG3.out hb5)
    have hb5x := hidden hb5
    clear hb5 b0 b1 b2 b3 b4 l0 l1 l2 l3 l4 f1
    have k0 := blk_later HK0.out HG5.out
    have k1 := blk_later HK1.out HG5.out
    have b0 := blk_cell k0
    have l0 := blk_lt k0
    have b1 := blk_cell k1
    have l1 := blk_lt k1
    have f1 := blk_frozen k1
    have b2 := blk_cell (blk_later HK2.out HG5.out)
    have l2 := blk_lt (blk_later HK2.out HG5.out)
    have b3 := blk_cell (blk_later HK3.out hb5x.out)
    have l3 := blk_lt (blk_later HK3.out hb5x.out)
    have b4 := blk_cell (blk_later HK4.out hb5x.out)
    have l4 := blk_lt (blk_later HK4.out hb5x.out)
    clear k0 k1
    have HO5 := HOP.out HNE.out
    obtain ⟨o1, o2, o3, o4, o5, o6⟩ := HO5
    have H1 := hidden o1
    have H2 := hidden o2
    have H3 := hidden o3
    have H5 : Hid ((k2' != n' - 1) = true) := by show _ = _; rw [bne_iff_ne]; exact o5
    have i6 : (x1 != n') = false := by rw [o6]; simp
    have i4 : ((s.size : Int) != (zs.length : Int)) = false := by rw [o4]; simp
    have i4' : (s.size != zs.length) = false := by rw [o4]; simp
    have HSZ : Hid (s.size ≤ 9223372036854775807) := by show _ ≤ _; omega
    clear o1 o2 o3 o4 o5 o6
    go_wp2_with fail
    refine (HCO.out _ (HT.out.below HG5.out)).mono ?_
    rintro e w6 ⟨rfl, hb6⟩
    have HG6 := hidden (bthen HG5.out hb6)
    have hb6x := hb6
    clear b0 b1 b2 b3 b4 l0 l1 l2 l3 l4 f1 hb6
    have k0 := blk_later HK0.out HG6.out
    have k1 := blk_later HK1.out HG6.out
    have b0 := blk_cell k0
    have l0 := blk_lt k0
    have b1 := blk_cell k1
    have l1 := blk_lt k1
    have f1 := blk_frozen k1
    have b3 := blk_cell (blk_later HK3.out (bthen hb5x.out hb6x))
    have l3 := blk_lt (blk_later HK3.out (bthen hb5x.out hb6x))
    have i1 : (ow != me) = false := by rw [H1.out]; simp
    have KS := hidden (heap_setCell_same w6 (w.heap.size + 1) 12 _ _ (.string s) k1)
    have KO := hidden ((heap_setCell_other w6 ⟨w.heap.size + 1, 12, none⟩ w.heap.size (.string s) (show w.heap.size ≠ w.heap.size + 1 by omega)).trans k0)
    have HB7 := hidden ((bthen HB0.out HG6.out).setCell (p := ⟨w.heap.size + 1, 12, none⟩) (show w.heap.size ≤ w.heap.size + 1 by omega) (.string s))
    clear k0 k1
    go_wp2_with fail
    refine (HCH.out mt _ _ hm).mono ?_
    rintro e w7 ⟨rfl, rfl⟩
    rw [H2.out]
    go_wp2_with fail
    refine (HCH.out s _ _ HSZ.out).mono ?_
    rintro e w7 ⟨rfl, rfl⟩
    rw [H3.out]
    have m0 := blk_cell KO.out
    have m1 := blk_lt KO.out
    have hld := ldM_run (HM.out.sent s).size KS.out
    go_wp2_with fail
    refine (HCF.out _ (HTw.out.below HB7.out) HSZ.out).mono ?_
    rintro e w8 ⟨rfl, hb8⟩
    have HB8 := hidden (bthen HB7.out hb8)
    have i5 := H5.out
    clear hb8 hld m0 m1 b0 b1 b3 l0 l1 l3 f1
    go_wp2_with fail
    refine (CK.out _).mono ?_
    rintro e w9 ⟨rfl, hb9⟩
    have HB9 := hidden (bthen HB8.out hb9)
    clear hb9
    go_wp2
    go_ret
    exact ⟨rfl, HB9.out⟩
end Go.Proofs.Ytkopmhmbldohdaa.LawGateGuards
