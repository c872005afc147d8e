/- The walk of the statement AcceptOwners: the call returns true, and makes at most new memory; conditions: the table lies where it says, lengths and numbers fit int. -/
import Derived.Test.YtkopmhmbldohdabBd
import Derived.Test.YtkopmhmbldohdabBe
namespace Go.Proofs.Ytkopmhmbldohdab.LawAcceptOwners
open Go.ChangeShapes Go.WideShapes Go.ChangeAt Go.RowKit
set_option linter.unusedVariables false
attribute [local go_sem] cell_rg
attribute [local go_sem ↓] ldM_eq eqIn_dl
attribute [local go_sem] guard_dl dlQ_same

set_option maxRecDepth 100000 in
set_option maxHeartbeats 8000000 in
theorem walk (n f d p r dr o sl md fr : Int) (ad : Option Addr) (cap : Nat) (zs : List Int) (mm : Array Value) (mc ma mn mr : Int) (mz mh mt ml : ByteArray) (hM : MemW mm mc ma mn mr mz mh mt ml) (fm : Int) (vo : ByteArray) (ex : Int) (ve : ByteArray) (ps cy : Int) (te : ByteArray) (w : World) (hl : zs.length ≤ 9223372036854775807) (hT : Tab w ad zs)
    (hI : (Lit.int .i64 mc).wf = true ∧ (Lit.int .i64 ma).wf = true ∧ (Lit.int .i64 mn).wf = true ∧ (Lit.int .i64 mr).wf = true) (hZ : mz.size ≤ 9223372036854775807 ∧ mh.size ≤ 9223372036854775807 ∧ mt.size ≤ 9223372036854775807 ∧ ml.size ≤ 9223372036854775807)
    (hme : -9223372036854775808 ≤ fm ∧ fm ≤ 9223372036854775807) (sv : vo.size ≤ 9223372036854775807) (kx : (Lit.int .i64 ex).wf = true) (se : ve.size ≤ 9223372036854775807) (kp : (Lit.int .i64 ps).wf = true) (kc : (Lit.int .i64 cy).wf = true) (st : te.size ≤ 9223372036854775807) :
    Calls Try.prog 3 #[.agg #[.int .i64 n, .int .i64 f, .int .i64 d, .int .i64 p, .int .i64 r, .int .i64 dr, .int .i64 o, .int .i64 sl, .int .i64 md, .int .i64 fr, .slice ad zs.length cap], .agg mm, .int .i64 fm, .agg #[.string vo, .int .i64 ex, .string ve, .int .i64 ps, .int .i64 cy, .string te]] w fun e w' => e = .returned (.bool true) ∧ Below w.heap.size w w' := by
  obtain ⟨k0, k1, k2⟩ := blk3 w #[.int .i64 n, .int .i64 f, .int .i64 d, .int .i64 p, .int .i64 r, .int .i64 dr, .int .i64 o, .int .i64 sl, .int .i64 md, .int .i64 fr, .slice ad zs.length cap] 24 mm 30 #[.string vo, .int .i64 ex, .string ve, .int .i64 ps, .int .i64 cy, .string te] 32
  have HB0 := hidden (bthen (bthen (ballc w (.cells #[.int .i64 n, .int .i64 f, .int .i64 d, .int .i64 p, .int .i64 r, .int .i64 dr, .int .i64 o, .int .i64 sl, .int .i64 md, .int .i64 fr, .slice ad zs.length cap] 24)) (ballc _ (.cells mm 30))) (ballc _ (.cells #[.string vo, .int .i64 ex, .string ve, .int .i64 ps, .int .i64 cy, .string te] 32)))
  have HTw := hidden hT
  have HT := hidden (hT.below HB0.out)
  have hm2 := hZ.1
  have hm := hZ.2.1
  obtain ⟨C, hC⟩ : ∃ C, C = chkC n f d p r dr o sl md fr zs mc ma mn mr fm ps cy te mh := ⟨_, rfl⟩
  have CT := hidden (fun V h => Take_any n f d p r dr o sl md fr ad cap zs mm mc ma mn mr mz mh mt ml hM fm vo ex ve ps cy te C V hl h hm hm2 hC)
  have CK := hidden (fun V => known24_any V)
  have HM := hidden hM
  have HOK := hidden (fun (h : C = 0) => chk_ok (hC.symm.trans h))
  have HAG := hidden (fun (h : C = 0) (mh' : ByteArray) (k : hasI mh' (ps - 1) = true) => chk_again (hC.symm.trans h) k)
  have hld := ldM_run hM.size k1
  have c0 := hM.c0
  have c1 := hM.c1
  have c7 := hM.c7
  have c8 := hM.c8
  have c10 := hM.c10
  have c11 := hM.c11
  have HK0 := hidden k0
  have HK1 := hidden k1
  have HK2 := hidden k2
  have b0 := blk_cell k0
  have b1 := blk_cell k1
  have b2 := blk_cell k2
  have l0 := blk_lt k0
  have l1 := blk_lt k1
  have l2 := blk_lt k2
  clear hT hM k0 k1 k2 hI sv kx se kp kc st hZ hme hC
  by_cases h1 : 100 < mh.size
  · have d1 : decide ((100 : Int) < (mh.size : Int)) = true := decide_eq_true (by omega)
    have d2 : decide (100 < mh.size) = true := decide_eq_true h1
    clear CT HOK HAG
    go_enter Try.func3, Try.ntmps3
    go_wp2_with fail
    refine (CK.out _).mono ?_
    rintro e w2 ⟨rfl, hb2⟩
    have HB2 := hidden (bthen HB0.out hb2)
    clear hb2 b0 b1 b2 l0 l1 l2 hld
    go_wp2
    go_ret
    exact ⟨rfl, HB2.out⟩
  have d1 : decide ((100 : Int) < (mh.size : Int)) = false := decide_eq_false (by omega)
  have d2 : decide (100 < mh.size) = false := decide_eq_false h1
  by_cases h2 : 100 < mz.size
  · have d3 : decide ((100 : Int) < (mz.size : Int)) = true := decide_eq_true (by omega)
    have d4 : decide (100 < mz.size) = true := decide_eq_true h2
    clear CT HOK HAG
    go_enter Try.func3, Try.ntmps3
    go_wp2_with fail
    refine (CK.out _).mono ?_
    rintro e w2 ⟨rfl, hb2⟩
    have HB2 := hidden (bthen HB0.out hb2)
    clear hb2 b0 b1 b2 l0 l1 l2 hld
    go_wp2
    go_ret
    exact ⟨rfl, HB2.out⟩
  have d3 : decide ((100 : Int) < (mz.size : Int)) = false := decide_eq_false (by omega)
  have d4 : decide (100 < mz.size) = false := decide_eq_false h2
  by_cases hC0 : C = 0
  case neg =>
    have e1 : (C != 0) = true := bne_iff_ne.2 hC0
    have HCT := hidden (fun V h => (CT.out V h))
    simp only [tkM, tkI, tkT, if_neg hC0] at HCT
    clear CT HOK HAG hC0
    go_enter Try.func3, Try.ntmps3
    go_wp2_with fail
    generalize ((w.alloc (.cells #[.int .i64 n, .int .i64 f, .int .i64 d, .int .i64 p, .int .i64 r, .int .i64 dr, .int .i64 o, .int .i64 sl, .int .i64 md, .int .i64 fr, .slice ad zs.length cap] 24)).alloc (.cells mm 30)).alloc (.cells #[.string vo, .int .i64 ex, .string ve, .int .i64 ps, .int .i64 cy, .string te] 32) = W0 at *
    refine (HCT.out _ HT.out).mono ?_
    rintro e w1 ⟨rfl, hb1⟩
    have HG1 := hidden (bthen HB0.out (bthen hb1 (ballc w1 (.cells #[.int .i64 0, .int .i64 0, .int .i64 0, .string ⟨#[]⟩] 35))))
    have k3 := blk_nw w1 #[.int .i64 0, .int .i64 0, .int .i64 0, .string ⟨#[]⟩] 35
    have b3 := blk_cell k3
    have l3 := blk_lt k3
    clear hb1 b0 b1 b2 l0 l1 l2 hld k3
    go_wp2_with fail
    refine (CK.out _).mono ?_
    rintro e w2 ⟨rfl, hb2⟩
    have HB2 := hidden (bthen HG1.out hb2)
    clear hb2 b3 l3
    go_wp2
    go_ret
    exact ⟨rfl, HB2.out⟩
  subst hC0
  have e1 : ((0 : Int) != 0) = false := rfl
  obtain ⟨hE, hps, h3, ho, hw, hcy, hte, hh⟩ := HOK.out rfl
  obtain ⟨k, rfl⟩ : ∃ k : Nat, ps = (k : Int) + 1 := ⟨(ps - 1).toNat, by omega⟩
  have hk : (k : Int) + 1 - 1 = (k : Int) := by omega
  obtain ⟨n1, n2, _, _, _, dl1, dl2, _, _, r1, r2, dr1, dr2, o1, o2, sl1, sl2, _, _, _, _, z1, z2, zo⟩ := plainE_ok hE
  have hkl : k < zs.length := by omega
  have HG := hidden (fun V h => RGuard_any n f d p r dr o sl md fr ad cap zs V hl h)
  have HMd := hidden (fun V h => RMiddle_any n f d p r dr o sl md fr ad cap zs (k : Int) V hl h)
  have HO := hidden (fun V h => rOwner_any n f d p r dr o sl md fr ad cap zs (k : Int) V (by omega) hl h)
  have HDf := hidden (fun V => Calls.to_below (rDiff_any mc ma V))
  have HH := hidden (fun s z V hs => rHas_any s z V hs)
  rw [hk] at ho hw hh HAG CT
  rw [hE] at ho hw HG HMd HO
  obtain ⟨M1, M2⟩ := lastE_bd hE
  obtain ⟨g1, g2⟩ := guardF_in dl1 dl2 r1 r2 dr1 dr2 M1 M2
  obtain ⟨m1, m2⟩ := midE_bd (s := (k : Int)) (by omega) (by omega) o1 o2 sl1 sl2
  obtain ⟨q0, q1⟩ := mul_bd (show 0 ≤ d by omega) dl2 (show 0 ≤ r by omega) r2
  rw [ownF_in hkl] at ho HO
  have hfm : 0 ≤ fm ∧ fm ≤ n - 1 := by rw [← ho]; exact (ownsB_iff.1 zo).1 _ (by simp [hkl])
  rw [ho] at HO
  rw [win1_in hkl, win2_in hkl] at hw
  unfold winLo winHi at hw
  rw [slotB_yes (by omega) (by omega)] at HMd
  simp only [placeE_yes] at HMd
  simp only [gate_ok] at HG
  -- marks
  have hmk : mkN (zs.length : Int) = zs.length := mkN_of (by omega)
  obtain ⟨j, hj⟩ := Int.eq_ofNat_of_zero_le hfm.1
  have hx1 : hasI (markB mh zs.length [(k : Int)]) (k : Int) = true := by
    rw [hasI_nat, sentB_markB, hmk, decide_eq_true hkl]
    unfold markP
    simp
  have hnj : mkN n = n.toNat := by
    obtain ⟨n', rfl⟩ := Int.eq_ofNat_of_zero_le (show 0 ≤ n by omega)
    exact mkN_of (by omega)
  have hx2 : hasI (markB mz n [fm]) fm = true := by
    rw [hj, hasI_nat, sentB_markB, hnj, decide_eq_true (by omega)]
    unfold markP
    simp
  have hx3 : (markB mh zs.length [(k : Int)]).size ≤ 9223372036854775807 := by rw [markB_size]; have := mkN_le (zs.length : Int); omega
  have hx4 : (markB mz n [fm]).size ≤ 9223372036854775807 := by rw [markB_size]; have := mkN_le n; omega
  have HAG2 := HAG.out rfl _ hx1
  have HCK := hidden (fun V h => Check_any n f d p r dr o sl md fr ad cap zs ((mm.setIfInBounds 11 (.string (markB mh zs.length [(k : Int)]))).setIfInBounds 10 (.string (markB mz n [fm]))) mc ma mn mr (markB mz n [fm]) (markB mh zs.length [(k : Int)]) mt ml ((HM.out.heard _).seen _) fm vo ex ve ((k : Int) + 1) cy te V hl h hx3)
  have hchk : chkC n f d p r dr o sl md fr zs mc ma mn mr fm ((k : Int) + 1) cy te (markB mh zs.length [(k : Int)]) = 13 := by
    unfold chkC
    rw [hk]
    exact HAG2
  rw [hchk] at HCK
  have HM6 := hidden ((HM.out.heard (markB mh zs.length [(k : Int)])).seen (markB mz n [fm]))
  simp only [tkM, tkI, tkT, if_true] at CT
  generalize markB mh zs.length [(k : Int)] = S1 at *
  generalize markB mz n [fm] = S2 at *
  generalize midE o sl (k : Int) = Mid at *
  generalize guardF d r dr (lastE o sl zs) = G at *
  have HEL : 0 ≤ (mc - ma) % 65536 ∧ (mc - ma) % 65536 ≤ 65535 := by omega
  generalize (mc - ma) % 65536 = el at *
  generalize hdr : d * r = P at *
  have t1 : IntKind.i64.wrap P = P := IntWalk.i64_in _ (by omega)
  have t2 : IntKind.i64.wrap (el - Mid) = el - Mid := IntWalk.i64_in _ (by omega)
  have t3 : IntKind.i64.wrap (el - Mid - P) = el - Mid - P := IntWalk.i64_in _ (by omega)
  have j1 : decide (mr < 2) = false := decide_eq_false (by omega)
  have hkm : IntKind.i64.wrap ((k : Int) + 1 - 1) = (k : Int) := by rw [hk]; exact IntWalk.i64_in _ (by omega)
  have j4 : decide (G < el - Mid - P) = false := decide_eq_false (by omega)
  have j5 : decide (G < -(el - Mid - P)) = false := decide_eq_false (by omega)
  have hnt : -9223372036854775808 < el - Mid - P ∧ el - Mid - P < 9223372036854775807 := by omega
  have H3 := hidden h3
  have HX4 := hidden hx4
  have HJ := hidden hj
  obtain ⟨off, hoff⟩ : ∃ off, off = el - Mid - P := ⟨_, rfl⟩
  rw [← hoff] at j4 j5 hnt t3
  have HTW : Hid (wrap64 (el - Mid - wrap64 (d * r)) = off) := by
    show _ = _
    rw [hdr, hoff]
    unfold wrap64
    omega
  have hkw : wrap64 ((k : Int) + 1 - 1) = (k : Int) := by rw [hk]; unfold wrap64; omega
  clear HAG HAG2 hchk hw ho hps hte hj hmk hnj hx4 zo hfm h3 HOK n1 n2 dl1 dl2 r1 r2 dr1 dr2 o1 o2 sl1 sl2 z1 z2 M1 M2 g1 g2 q0 q1 hdr hE hoff
  subst hcy
  go_enter Try.func3, Try.ntmps3
  go_wp2_with fail
  generalize ((w.alloc (.cells #[.int .i64 n, .int .i64 f, .int .i64 d, .int .i64 p, .int .i64 r, .int .i64 dr, .int .i64 o, .int .i64 sl, .int .i64 md, .int .i64 fr, .slice ad zs.length cap] 24)).alloc (.cells mm 30)).alloc (.cells #[.string vo, .int .i64 ex, .string ve, .int .i64 ((k : Int) + 1), .int .i64 cy, .string te] 32) = W0 at *
  refine (CT.out _ HT.out).mono ?_
  rintro e w1 ⟨rfl, hb1⟩
  have HG1 := hidden (bthen hb1 (ballc w1 (.cells #[.int .i64 fm, .int .i64 (k : Int), .int .i64 cy, .string te] 35)))
  have HK3 := hidden (blk_nw w1 #[.int .i64 fm, .int .i64 (k : Int), .int .i64 cy, .string te] 35)
  clear hb1 CT
  clear b0 b1 b2 l0 l1 l2 hld
  have k0 := blk_later HK0.out HG1.out
  have k1 := blk_later HK1.out HG1.out
  have k2 := blk_later HK2.out HG1.out
  have b0 := blk_cell k0
  have b1 := blk_cell k1
  have b2 := blk_cell k2
  have l0 := blk_lt k0
  have l1 := blk_lt k1
  have l2 := blk_lt k2
  have hld := ldM_run HM.out.size k1
  have f1 := blk_frozen k1
  have b3 := blk_cell HK3.out
  have l3 := blk_lt HK3.out
  clear k0 k1 k2
  have HT1 := hidden (HT.out.below HG1.out)
  go_wp2
  generalize w1.alloc (.cells #[.int .i64 fm, .int .i64 (k : Int), .int .i64 cy, .string te] 35) = W1 at *
  refine wp_region_quiet_below (by kernel_rfl) (by kernel_rfl) ?_
  repeat (go_big_quiet_step (first
    | (go_at_call 7; exact Calls.regrown_of (HDf.out _))
    | (go_at_call 8; exact Calls.regrown_of (HMd.out _ (HT1.out.below (below_regrown _ _ _))))))
  refine wpQuiet_nil ?_
  intro w2 hw2
  have hb2 := rg_below hw2
  have HK32 := hidden (blk_later HK3.out hb2)
  have HG2 := hidden (bthen HG1.out hb2)
  clear hw2 hb2 HDf HMd HT1
  clear f1 b0 b1 b2 l0 l1 l2 b3 l3 hld
  have k0 := blk_later HK0.out HG2.out
  have k1 := blk_later HK1.out HG2.out
  have k2 := blk_later HK2.out HG2.out
  have b0 := blk_cell k0
  have b1 := blk_cell k1
  have b2 := blk_cell k2
  have l0 := blk_lt k0
  have l1 := blk_lt k1
  have l2 := blk_lt k2
  have hld := ldM_run HM.out.size k1
  have f1 := blk_frozen k1
  have b3 := blk_cell HK32.out
  have l3 := blk_lt HK32.out
  clear k0 k1 k2
  rw [HTW.out]
  go_wp2_with fail
  refine (HO.out _ (HT.out.below HG2.out)).mono ?_
  rintro e w3 ⟨rfl, hb⟩
  have HG3 := hidden (bthen HG2.out hb)
  have HK33 := hidden (blk_later HK32.out hb)
  clear hb
  clear f1 b0 b1 b2 l0 l1 l2 b3 l3 hld
  have k0 := blk_later HK0.out HG3.out
  have k1 := blk_later HK1.out HG3.out
  have k2 := blk_later HK2.out HG3.out
  have b0 := blk_cell k0
  have b1 := blk_cell k1
  have b2 := blk_cell k2
  have l0 := blk_lt k0
  have l1 := blk_lt k1
  have l2 := blk_lt k2
  have hld := ldM_run HM.out.size k1
  have f1 := blk_frozen k1
  have b3 := blk_cell HK33.out
  have l3 := blk_lt HK33.out
  clear k0 k1 k2
  go_wp2_with fail
  refine (HG.out _ (HT.out.below HG3.out)).mono ?_
  rintro e w4 ⟨rfl, hb⟩
  have HG4 := hidden (bthen HG3.out hb)
  have HK34 := hidden (blk_later HK33.out hb)
  clear hb
  clear f1 b0 b1 b2 l0 l1 l2 b3 l3 hld
  have k0 := blk_later HK0.out HG4.out
  have k1 := blk_later HK1.out HG4.out
  have k2 := blk_later HK2.out HG4.out
  have b0 := blk_cell k0
  have b1 := blk_cell k1
  have b2 := blk_cell k2
  have l0 := blk_lt k0
  have l1 := blk_lt k1
  have l2 := blk_lt k2
  have hld := ldM_run HM.out.size k1
  have f1 := blk_frozen k1
  have b3 := blk_cell HK34.out
  have l3 := blk_lt HK34.out
  clear k0 k1 k2
  go_wp2_with fail
  refine (HG.out _ (HT.out.below HG4.out)).mono ?_
  rintro e w5 ⟨rfl, hb⟩
  have HG5 := hidden (bthen HG4.out hb)
  have HK35 := hidden (blk_later HK34.out hb)
  clear hb
  clear f1 b0 b1 b2 l0 l1 l2 b3 l3 hld
  have k0 := blk_later HK0.out HG5.out
  have k1 := blk_later HK1.out HG5.out
  have k2 := blk_later HK2.out HG5.out
  have b0 := blk_cell k0
  have b1 := blk_cell k1
  have b2 := blk_cell k2
  have l0 := blk_lt k0
  have l1 := blk_lt k1
  have l2 := blk_lt k2
  have hld := ldM_run HM.out.size k1
  have f1 := blk_frozen k1
  have b3 := blk_cell HK35.out
  have l3 := blk_lt HK35.out
  clear k0 k1 k2
  go_wp2_with fail
  refine (HH.out mh (k : Int) _ hm).mono ?_
  rintro e w6 ⟨rfl, rfl⟩
  rw [hh]
  go_wp2_with fail
  refine (HH.out S1 (k : Int) _ hx3).mono ?_
  rintro e w6 ⟨rfl, rfl⟩
  rw [hx1]
  go_wp2_with fail
  refine (HH.out S2 fm _ HX4.out).mono ?_
  rintro e w6 ⟨rfl, rfl⟩
  rw [hx2]
  have kb := blk_later HK1.out HG5.out
  have hS1 := heap_setCell_same w5 (w.heap.size + 1) 11 _ _ (.string S1) kb
  have b1' := blk_cell hS1
  have f1' := blk_frozen hS1
  have l1' := blk_lt hS1
  have g10 : (mm.setIfInBounds 11 (.string S1))[10]? = some (.string mz) := (HM.out.heard S1).c10
  have KB := hidden (heap_setCell_same (w5.setCell ⟨w.heap.size + 1, 11, none⟩ (.string S1)) (w.heap.size + 1) 10 _ _ (.string S2) hS1)
  have k0 := (heap_setCell_other (w5.setCell ⟨w.heap.size + 1, 11, none⟩ (.string S1)) ⟨w.heap.size + 1, 10, none⟩ w.heap.size (.string S2) (show w.heap.size ≠ w.heap.size + 1 by omega)).trans ((heap_setCell_other w5 ⟨w.heap.size + 1, 11, none⟩ w.heap.size (.string S1) (show w.heap.size ≠ w.heap.size + 1 by omega)).trans (blk_later HK0.out HG5.out))
  have k2 := (heap_setCell_other (w5.setCell ⟨w.heap.size + 1, 11, none⟩ (.string S1)) ⟨w.heap.size + 1, 10, none⟩ (w.heap.size + 1 + 1) (.string S2) (show w.heap.size + 1 + 1 ≠ w.heap.size + 1 by omega)).trans ((heap_setCell_other w5 ⟨w.heap.size + 1, 11, none⟩ (w.heap.size + 1 + 1) (.string S1) (show w.heap.size + 1 + 1 ≠ w.heap.size + 1 by omega)).trans (blk_later HK2.out HG5.out))
  have x0 := blk_cell k0
  have y0 := blk_lt k0
  have x2 := blk_cell k2
  have y2 := blk_lt k2
  have HB6 := hidden (((bthen HB0.out HG5.out).setCell (p := ⟨w.heap.size + 1, 11, none⟩) (show w.heap.size ≤ w.heap.size + 1 by omega) (.string S1)).setCell (p := ⟨w.heap.size + 1, 10, none⟩) (show w.heap.size ≤ w.heap.size + 1 by omega) (.string S2))
  clear hld kb hS1 k0 k2 b0 l0 b2 l2
  have hld := ldM_run HM6.out.size KB.out
  go_wp2_with fail
  refine (HCK.out _ (HTw.out.below HB6.out)).mono ?_
  rintro e w7 ⟨rfl, hb7⟩
  have HB7 := hidden (bthen HB6.out hb7)
  clear hb7 hld x0 y0 x2 y2 b1 l1 f1 b1' f1' l1' b3 l3
  go_wp2_with fail
  refine (CK.out _).mono ?_
  rintro e w8 ⟨rfl, hb8⟩
  have HB8 := hidden (bthen HB7.out hb8)
  clear hb8
  go_wp2
  go_ret
  exact ⟨rfl, HB8.out⟩
end Go.Proofs.Ytkopmhmbldohdab.LawAcceptOwners
