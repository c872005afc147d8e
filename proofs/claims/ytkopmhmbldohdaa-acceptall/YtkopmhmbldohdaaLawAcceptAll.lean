/- The walk of the statement AcceptAll: the call returns true, and makes at most new memory; conditions: the table and the row lie where they say, lengths and numbers fit int. -/
import Derived.Test.YtkopmhmbldohdaaBi
import Derived.Test.YtkopmhmbldohdaaBh
namespace Go.Proofs.Ytkopmhmbldohdaa.LawAcceptAll
open Go.ChangeShapes Go.WideShapes Go.ChangeAt Go.RowKit
set_option linter.unusedVariables false
attribute [local go_sem ↓] ldM_eq

theorem allF_len (E : Int) (chk : Int → Pkt → ByteArray → Int) (m n : Int) (mh mz : ByteArray) (qs : List Pkt) : (allF E chk m n mh mz qs).got.length ≤ qs.length := by
  unfold allF
  split
  · have := all_bd chk m n mh mz qs qs.length; omega
  · exact Nat.zero_le _
set_option maxRecDepth 100000 in
set_option maxHeartbeats 4000000 in
theorem walk (n f d p r dr o sl md fr : Int) (ad : Option Addr) (cap : Nat) (zs : List Int) (mm : Array Value) (mc ma mn mr : Int) (mz mh mt ml : ByteArray) (hM : MemW mm mc ma mn mr mz mh mt ml) (a2 : Option Addr) (c2 : Nat) (qs : List Pkt) (w : World) (hl : zs.length ≤ 9223372036854775807) (hT : Tab w ad zs)
    (hI : (Lit.int .i64 mc).wf = true ∧ (Lit.int .i64 ma).wf = true ∧ (Lit.int .i64 mn).wf = true ∧ (Lit.int .i64 mr).wf = true) (hZ : mz.size ≤ 9223372036854775807 ∧ mh.size ≤ 9223372036854775807 ∧ mt.size ≤ 9223372036854775807 ∧ ml.size ≤ 9223372036854775807)
    (hlq : qs.length ≤ 9223372036854775807) (hV : kPkt.Lies w.heap.size w (.slice a2 qs.length c2) qs) (hve : ∀ q ∈ qs, q.ve.size ≤ 9223372036854775807) :
    Calls Try.prog 8 #[.agg #[.int .i64 n, .int .i64 f, .int .i64 d, .int .i64 p, .int .i64 r, .int .i64 dr, .int .i64 o, .int .i64 sl, .int .i64 md, .int .i64 fr, .slice ad zs.length cap], .agg mm, .slice a2 qs.length c2] w fun e w' => e = .returned (.bool true) ∧ Below w.heap.size w w' := by
  obtain ⟨k0, k1⟩ := blk2 w #[.int .i64 n, .int .i64 f, .int .i64 d, .int .i64 p, .int .i64 r, .int .i64 dr, .int .i64 o, .int .i64 sl, .int .i64 md, .int .i64 fr, .slice ad zs.length cap] 24 mm 30
  have hb0 := bthen (ballc w (.cells #[.int .i64 n, .int .i64 f, .int .i64 d, .int .i64 p, .int .i64 r, .int .i64 dr, .int .i64 o, .int .i64 sl, .int .i64 md, .int .i64 fr, .slice ad zs.length cap] 24)) (ballc _ (.cells mm 30))
  have HB0 := hidden hb0
  have HT := hidden (hT.below hb0)
  have HV := hidden (hV.later hb0)
  have hm2 := hZ.1
  have hm := hZ.2.1
  obtain ⟨A, hA⟩ : ∃ A, A = allF (plainE n f d p r dr o sl md fr zs) (fun i q h => chkC n f d p r dr o sl md fr zs mc ma mn mr i q.ps q.cy q.te h) zs.length n mh mz qs := ⟨_, rfl⟩
  have hAl : A.got.length ≤ qs.length := by rw [hA]; exact allF_len _ _ _ _ _ _ _
  have CS := hidden (fun V h hq hv => All_any n f d p r dr o sl md fr ad cap zs mm mc ma mn mr mz mh mt ml hM a2 c2 qs V hl h hm hm2 hq hv A hA)
  have CR := hidden (fun V h hq hv => rAll_any n f d p r dr o sl md fr ad cap zs mm mc ma mn mr mz mh mt ml hM a2 c2 qs V hl h hm hm2 hq hv A hA)
  have CK := hidden (fun V => known24_any V)
  have HM := hidden hM
  have hld := ldM_run hM.size k1
  have c10 := hM.c10
  have c11 := hM.c11
  have HK0 := hidden k0
  have HK1 := hidden k1
  have b0 := blk_cell k0
  have b1 := blk_cell k1
  have l0 := blk_lt k0
  have l1 := blk_lt k1
  clear hT hM k0 k1 hI hZ hA hV hve hb0
  obtain ⟨hd, sn, got, no⟩ := A
  dsimp only at *
  by_cases h1 : 100 < mh.size
  · have d1 : decide ((100 : Int) < (mh.size : Int)) = true := decide_eq_true (by omega)
    have d2 : decide (100 < mh.size) = true := decide_eq_true h1
    clear CS CR
    go_enter Try.func8, Try.ntmps8
    go_wp2_with fail
    refine (CK.out _).mono ?_
    rintro e w2 ⟨rfl, hb2⟩
    have HB2 := hidden (bthen HB0.out hb2)
    clear hb2 b0 b1 l0 l1 hld
    go_wp2
    go_ret
    exact ⟨rfl, HB2.out⟩
  have d1 : decide ((100 : Int) < (mh.size : Int)) = false := decide_eq_false (by omega)
  have d2 : decide (100 < mh.size) = false := decide_eq_false h1
  by_cases h2 : 100 < mz.size
  · have d3 : decide ((100 : Int) < (mz.size : Int)) = true := decide_eq_true (by omega)
    have d4 : decide (100 < mz.size) = true := decide_eq_true h2
    clear CS CR
    go_enter Try.func8, Try.ntmps8
    go_wp2_with fail
    refine (CK.out _).mono ?_
    rintro e w2 ⟨rfl, hb2⟩
    have HB2 := hidden (bthen HB0.out hb2)
    clear hb2 b0 b1 l0 l1 hld
    go_wp2
    go_ret
    exact ⟨rfl, HB2.out⟩
  have d3 : decide ((100 : Int) < (mz.size : Int)) = false := decide_eq_false (by omega)
  have d4 : decide (100 < mz.size) = false := decide_eq_false h2
  by_cases h3 : 20 < qs.length
  · have d5 : decide ((20 : Int) < (qs.length : Int)) = true := decide_eq_true (by omega)
    have d6 : decide (20 < qs.length) = true := decide_eq_true h3
    clear CS CR
    go_enter Try.func8, Try.ntmps8
    go_wp2_with fail
    refine (CK.out _).mono ?_
    rintro e w2 ⟨rfl, hb2⟩
    have HB2 := hidden (bthen HB0.out hb2)
    clear hb2 b0 b1 l0 l1 hld
    go_wp2
    go_ret
    exact ⟨rfl, HB2.out⟩
  have d5 : decide ((20 : Int) < (qs.length : Int)) = false := decide_eq_false (by omega)
  have d6 : decide (20 < qs.length) = false := decide_eq_false h3
  go_enter Try.func8, Try.ntmps8
  go_wp2_with fail
  generalize (w.alloc (.cells #[.int .i64 n, .int .i64 f, .int .i64 d, .int .i64 p, .int .i64 r, .int .i64 dr, .int .i64 o, .int .i64 sl, .int .i64 md, .int .i64 fr, .slice ad zs.length cap] 24)).alloc (.cells mm 30) = W0 at *
  refine (CS.out _ HT.out (by omega) HV.out).mono ?_
  rintro e w1 ⟨v1, rfl, hown1, hb1⟩
  obtain ⟨g1, c1, rfl⟩ := own_slice hown1
  have HL1 := hidden (Kind.Lies.of_own (K := kDlv) hown1)
  have HG1 := hidden hb1
  clear hb1 hown1 b0 b1 l0 l1 hld CS
  have k0 := blk_later HK0.out HG1.out
  have k1 := blk_later HK1.out HG1.out
  have b0 := blk_cell k0
  have l0 := blk_lt k0
  have hld := ldM_run HM.out.size k1
  clear k0 k1
  go_wp2_with fail
  refine (CR.out _ (HT.out.below HG1.out) (by omega) (HV.out.later HG1.out)).mono ?_
  rintro e w2 ⟨v2, rfl, hown2, hb2⟩
  obtain ⟨g2, c2', rfl⟩ := own_slice hown2
  have HL2 := hidden (Kind.Lies.of_own (K := kDlv) hown2)
  have HL3 := hidden (HL1.out.later hb2)
  have HG2 := hidden (bthen HG1.out hb2)
  clear hb2 hown2 b0 l0 hld CR HL1
  go_wp2_with fail
  refine (rSame_any g1 c1 g2 c2' got (by omega) _ HL3.out HL2.out).mono ?_
  rintro e w3 ⟨rfl, hb3⟩
  have HG3 := hidden (bthen HG2.out hb3)
  clear hb3
  go_wp2_with fail
  refine (CK.out _).mono ?_
  rintro e w4 ⟨rfl, hb4⟩
  have HB4 := hidden (bthen HB0.out (bthen HG3.out hb4))
  clear hb4
  go_wp2
  go_ret
  exact ⟨rfl, HB4.out⟩
end Go.Proofs.Ytkopmhmbldohdaa.LawAcceptAll
