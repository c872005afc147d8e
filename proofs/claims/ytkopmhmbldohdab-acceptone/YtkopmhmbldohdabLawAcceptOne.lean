/- The walk of the statement AcceptOne: the call returns true, and makes at most new memory; conditions: the table and the row lie where they say, lengths and numbers fit int. -/
import Derived.Test.YtkopmhmbldohdabBf
import Derived.Test.YtkopmhmbldohdabBd
namespace Go.Proofs.Ytkopmhmbldohdab.LawAcceptOne
open Go.ChangeShapes Go.WideShapes Go.ChangeAt Go.RowKit
set_option linter.unusedVariables false
attribute [local go_sem ↓] ldM_eq

set_option maxRecDepth 100000 in
set_option maxHeartbeats 4000000 in
theorem walk (n f d p r dr o sl md fr : Int) (ad : Option Addr) (cap : Nat) (zs : List Int) (mm : Array Value) (mc ma mn mr : Int) (mz mh mt ml : ByteArray) (hM : MemW mm mc ma mn mr mz mh mt ml) (a2 : Option Addr) (c2 : Nat) (qs : List Pkt) (w : World) (hl : zs.length ≤ 9223372036854775807) (hT : Tab w ad zs)
    (hI : (Lit.int .i64 mc).wf = true ∧ (Lit.int .i64 ma).wf = true ∧ (Lit.int .i64 mn).wf = true ∧ (Lit.int .i64 mr).wf = true) (hZ : mz.size ≤ 9223372036854775807 ∧ mh.size ≤ 9223372036854775807 ∧ mt.size ≤ 9223372036854775807 ∧ ml.size ≤ 9223372036854775807)
    (hlq : qs.length ≤ 9223372036854775807) (hV : kPkt.Lies w.heap.size w (.slice a2 qs.length c2) qs) (hve : ∀ q ∈ qs, q.ve.size ≤ 9223372036854775807) :
    Calls Try.prog 4 #[.agg #[.int .i64 n, .int .i64 f, .int .i64 d, .int .i64 p, .int .i64 r, .int .i64 dr, .int .i64 o, .int .i64 sl, .int .i64 md, .int .i64 fr, .slice ad zs.length cap], .agg mm, .slice a2 qs.length c2] w fun e w' => e = .returned (.bool true) ∧ Below w.heap.size w w' := by
  obtain ⟨k0, k1⟩ := blk2 w #[.int .i64 n, .int .i64 f, .int .i64 d, .int .i64 p, .int .i64 r, .int .i64 dr, .int .i64 o, .int .i64 sl, .int .i64 md, .int .i64 fr, .slice ad zs.length cap] 24 mm 30
  have hb0 := bthen (ballc w (.cells #[.int .i64 n, .int .i64 f, .int .i64 d, .int .i64 p, .int .i64 r, .int .i64 dr, .int .i64 o, .int .i64 sl, .int .i64 md, .int .i64 fr, .slice ad zs.length cap] 24)) (ballc _ (.cells mm 30))
  have HB0 := hidden hb0
  have HT := hidden (hT.below hb0)
  have HV := hidden (hV.later hb0)
  have hm2 := hZ.1
  have hm := hZ.2.1
  have CR := hidden (fun V h => RRight_any n f d p r dr o sl md fr ad cap zs V hl h)
  obtain ⟨A, hA⟩ : ∃ A, A = allF (plainE n f d p r dr o sl md fr zs) (fun i q h => chkC n f d p r dr o sl md fr zs mc ma mn mr i q.ps q.cy q.te h) zs.length n mh mz qs := ⟨_, rfl⟩
  have CS := hidden (fun V h hq hv => All_any n f d p r dr o sl md fr ad cap zs mm mc ma mn mr mz mh mt ml hM a2 c2 qs V hl h hm hm2 hq hv A hA)
  have CY := hidden (fun V => rSync_any mm mc ma mn mr mz mh mt ml hM V)
  have CK := hidden (fun V => known24_any V)
  have HF : Hid (rightE n f d p r dr o sl md fr zs = 0 → A.got.length ≤ 1 ∧ A.got.length + A.no = cntQ qs qs.length ∧ (¬ A.got.length = 0 → 2 ≤ mr)) := by
    intro hR
    obtain ⟨hE, hF⟩ := rightE_ok hR
    obtain ⟨F0, _, _⟩ := rightF_ok hF
    obtain ⟨_, _, _, _, _, _, _, _, _, _, _, _, _, _, _, sl1, _⟩ := plainE_ok hE
    rw [hA]
    unfold allF
    rw [if_pos hE]
    have h1 := all_one (n := n) (f := f) (d := d) (p := p) (r := r) (dr := dr) (o := o) (sl := sl) (md := md) (fr := fr) (zs := zs) (mc := mc) (ma := ma) (mn := mn) (mr := mr) (m := zs.length) (n' := n) (mh := mh) (mz := mz) (qs := qs) sl1 F0 qs.length
    exact ⟨h1.1, all_cnt _ _ _ _ _ _ _, fun h => (h1.2 h).1⟩
  have HM := hidden hM
  have c10 := hM.c10
  have c11 := hM.c11
  have HK0 := hidden k0
  have HK1 := hidden k1
  have b0 := blk_cell k0
  have l0 := blk_lt k0
  have hld := ldM_run hM.size k1
  generalize rightE n f d p r dr o sl md fr zs = E at *
  clear hT hM k0 k1 hI hZ hA hV hve hb0
  obtain ⟨hd, sn, got, no⟩ := A
  dsimp only at *
  go_enter Try.func4, Try.ntmps4
  go_wp2_with fail
  generalize (w.alloc (.cells #[.int .i64 n, .int .i64 f, .int .i64 d, .int .i64 p, .int .i64 r, .int .i64 dr, .int .i64 o, .int .i64 sl, .int .i64 md, .int .i64 fr, .slice ad zs.length cap] 24)).alloc (.cells mm 30) = W0 at *
  refine (CR.out _ HT.out).mono ?_
  rintro e w1 ⟨rfl, hb1⟩
  have HG1 := hidden hb1
  have HV1 := hidden (HV.out.later hb1)
  clear hb1 b0 l0 hld CR
  have k0 := blk_later HK0.out HG1.out
  have k1 := blk_later HK1.out HG1.out
  have b0 := blk_cell k0
  have l0 := blk_lt k0
  have b1 := blk_cell k1
  have l1 := blk_lt k1
  have hld := ldM_run HM.out.size k1
  clear k0 k1
  by_cases hE : E = 0
  case neg =>
    have e0 : (E != 0) = true := bne_iff_ne.2 hE
    clear CS HF hE
    go_wp2_with fail
    refine (CK.out _).mono ?_
    rintro e w2 ⟨rfl, hb2⟩
    have HB2 := hidden (bthen HB0.out (bthen HG1.out hb2))
    clear hb2 b0 l0 b1 l1 hld
    go_wp2
    go_ret
    exact ⟨rfl, HB2.out⟩
  have e0 : (E != 0) = false := by rw [hE]; rfl
  have HFF := hidden (HF.out hE)
  clear HF hE
  by_cases h1 : 100 < mh.size
  · have d1 : decide ((100 : Int) < (mh.size : Int)) = true := decide_eq_true (by omega)
    have d2 : decide (100 < mh.size) = true := decide_eq_true h1
    clear CS
    go_wp2_with fail
    refine (CK.out _).mono ?_
    rintro e w2 ⟨rfl, hb2⟩
    have HB2 := hidden (bthen HB0.out (bthen HG1.out hb2))
    clear hb2 b0 l0 b1 l1 hld
    go_wp2
    go_ret
    exact ⟨rfl, HB2.out⟩
  have d1 : decide ((100 : Int) < (mh.size : Int)) = false := decide_eq_false (by omega)
  have d2 : decide (100 < mh.size) = false := decide_eq_false h1
  by_cases h2 : 100 < mz.size
  · have d3 : decide ((100 : Int) < (mz.size : Int)) = true := decide_eq_true (by omega)
    have d4 : decide (100 < mz.size) = true := decide_eq_true h2
    clear CS
    go_wp2_with fail
    refine (CK.out _).mono ?_
    rintro e w2 ⟨rfl, hb2⟩
    have HB2 := hidden (bthen HB0.out (bthen HG1.out hb2))
    clear hb2 b0 l0 b1 l1 hld
    go_wp2
    go_ret
    exact ⟨rfl, HB2.out⟩
  have d3 : decide ((100 : Int) < (mz.size : Int)) = false := decide_eq_false (by omega)
  have d4 : decide (100 < mz.size) = false := decide_eq_false h2
  by_cases h3 : 20 < qs.length
  · have d5 : decide ((20 : Int) < (qs.length : Int)) = true := decide_eq_true (by omega)
    have d6 : decide (20 < qs.length) = true := decide_eq_true h3
    clear CS
    go_wp2_with fail
    refine (CK.out _).mono ?_
    rintro e w2 ⟨rfl, hb2⟩
    have HB2 := hidden (bthen HB0.out (bthen HG1.out hb2))
    clear hb2 b0 l0 b1 l1 hld
    go_wp2
    go_ret
    exact ⟨rfl, HB2.out⟩
  have d5 : decide ((20 : Int) < (qs.length : Int)) = false := decide_eq_false (by omega)
  have d6 : decide (20 < qs.length) = false := decide_eq_false h3
  go_wp2
  go_loop [7, 8] (fun c i => ∃ k : Nat, k ≤ qs.length ∧ i = .int .i64 k ∧ c = .int .i64 (cntQ qs k : Int)) (fun _ i => qs.length - (intV i).toNat)
  case atStart => exact ⟨0, Nat.zero_le _, rfl, rfl⟩
  case round =>
    obtain ⟨k, hk, rfl, rfl⟩ := hrel
    by_cases hlt : k < qs.length
    · obtain ⟨b, off, rfl, hbl, e0, e1, e2, e3, e4, e5⟩ := kPkt_six HV1.out k hlt
      have hcl := cntQ_le qs k
      have HS1 := hidden (fun h => cntQ_no (qs := qs) (k := k) h)
      have HS2 := hidden (fun h => cntQ_yes (qs := qs) (k := k) h)
      generalize cntQ qs k = c at *
      generalize hps : (qs.getD k noQ).ps = ps at *
      have HPS := hidden hps
      have i1 : (0 : Int) ≤ (k : Int) := by omega
      have i2 : (k : Int) < (qs.length : Int) := by omega
      have hcc : (c : Int) ≤ 100 := by omega
      clear hps e0 e1 e2 e4 e5
      by_cases hp : ps = 0
      · have j0 : (ps != 0) = false := by rw [hp]; rfl
        have HX := hidden (HS1.out hp)
        clear hp HS1 HS2
        go_wp2
        go_round
        case rel => exact ⟨k + 1, by omega, by go_num, by rw [HX.out]⟩
        case measure => simp [intV]; omega
      · have j0 : (ps != 0) = true := bne_iff_ne.2 hp
        have HX := hidden (HS2.out hp)
        clear hp HS1 HS2
        go_wp2
        go_round
        case rel => exact ⟨k + 1, by omega, by go_num, by rw [HX.out]; go_num⟩
        case measure => simp [intV]; omega
    · obtain rfl : k = qs.length := by omega
      have i2 : ¬ (qs.length : Int) < (qs.length : Int) := by omega
      go_wp2_with fail
      refine (CS.out _ (HT.out.below HG1.out) (by omega) HV1.out).mono ?_
      rintro e w2 ⟨v, rfl, hown, hb2⟩
      obtain ⟨gd, gc, rfl⟩ := own_slice hown
      have HG2 := hidden (bthen HG1.out hb2)
      clear hown hb2 b0 l0 b1 l1 hld CS
      have hld := ldM_run HM.out.size (blk_later HK1.out HG2.out)
      obtain ⟨f1, f2, f3⟩ := HFF.out
      have hno : no ≤ 20 := by have := cntQ_le qs qs.length; omega
      have HG2' := hidden HG2.out
      clear HFF
      generalize cntQ qs qs.length = c at *
      generalize got.length = L at *
      have hnn : (no : Int) ≤ 20 := by omega
      have hLL : (L : Int) ≤ 1 := by omega
      have s1 : ((L : Int) + (no : Int) == (c : Int)) = true := by rw [beq_iff_eq]; omega
      have r1 : decide ((L : Int) ≤ 1) = true := decide_eq_true hLL
      have r1' : decide (L ≤ 1) = true := decide_eq_true f1
      have F2 := hidden f2
      have F3 := hidden f3
      clear f2 f3
      by_cases hg : L = 0
      · have r3 : ((L : Int) == 0) = true := by rw [hg]; rfl
        have r3' : (L == 0) = true := by rw [hg]; rfl
        clear hg hld
        go_wp2_with fail
        refine (CK.out _).mono ?_
        rintro e w3 ⟨rfl, hb3⟩
        have HB3 := hidden (bthen HB0.out (bthen HG2'.out hb3))
        clear hb3
        go_wp2
        go_ret
        exact ⟨rfl, HB3.out⟩
      · have r3 : ((L : Int) == 0) = false := by rw [beq_eq_false_iff_ne]; omega
        have r3' : (L == 0) = false := by rw [beq_eq_false_iff_ne]; exact hg
        have r4 : decide (2 ≤ mr) = true := decide_eq_true (F3.out hg)
        clear hg
        go_wp2_with fail
        refine (CY.out _).mono ?_
        rintro e w3 ⟨rfl, hb3⟩
        have HG3 := hidden (bthen HG2'.out hb3)
        clear hb3 hld
        rw [r4]
        go_wp2_with fail
        refine (CK.out _).mono ?_
        rintro e w4 ⟨rfl, hb4⟩
        have HB4 := hidden (bthen HB0.out (bthen HG3.out hb4))
        clear hb4
        go_wp2
        go_ret
        exact ⟨rfl, HB4.out⟩
end Go.Proofs.Ytkopmhmbldohdab.LawAcceptOne
