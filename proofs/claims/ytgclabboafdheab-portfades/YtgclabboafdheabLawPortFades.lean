/- The walk of the statement PortFades: the call returns true, and makes at most new memory; conditions: the table and rows lie where they say, lengths, ages and numbers fit int. -/
import Derived.Test.YtgclabboafdheabBa
import Derived.Test.YtgclabboafdheabBc
import Derived.Test.YtgclabboafdheabBd
import Derived.Deep.RegionHeld3
namespace Go.Proofs.Ytgclabboafdheab.LawPortFades
open Go.ChangeShapes Go.WideShapes Go.ChangeAt Go.RowKit
set_option linter.unusedVariables false
attribute [local go_sem] cell_rg

set_option maxRecDepth 100000 in
set_option maxHeartbeats 16000000 in
theorem walk (n f d p r dr o sl md fr : Int) (ad : Option Addr) (cap : Nat) (zs : List Int) (a2 : Option Addr) (c2 : Nat) (ps : List Prt) (fm sx cy : Int) (te : ByteArray) (a3 : Option Addr) (c3 : Nat) (ds : List Dlv) (w : World) (hl : zs.length ≤ 9223372036854775807) (hT : Tab w ad zs) (hpl : ps.length ≤ 9223372036854775807) (hP : kPrt.Lies w.heap.size w (.slice a2 ps.length c2) ps) (hag : agesIn ps) (hdl : ds.length ≤ 9223372036854775807) (hD : kDlv.Lies w.heap.size w (.slice a3 ds.length c3) ds) :
    Calls Try.prog 3 #[.agg #[.int .i64 n, .int .i64 f, .int .i64 d, .int .i64 p, .int .i64 r, .int .i64 dr, .int .i64 o, .int .i64 sl, .int .i64 md, .int .i64 fr, .slice ad zs.length cap], .slice a2 ps.length c2, .agg #[.int .i64 fm, .int .i64 sx, .int .i64 cy, .string te], .slice a3 ds.length c3] w fun e w' => e = .returned (.bool true) ∧ Below w.heap.size w w' := by
  have hb0 := bthen (ballc w (.cells #[.int .i64 n, .int .i64 f, .int .i64 d, .int .i64 p, .int .i64 r, .int .i64 dr, .int .i64 o, .int .i64 sl, .int .i64 md, .int .i64 fr, .slice ad zs.length cap] 24)) (ballc _ (.cells #[.int .i64 fm, .int .i64 sx, .int .i64 cy, .string te] 27))
  have HB0 := hidden hb0
  have HK0 := hidden (blk_later (blk_nw w #[.int .i64 n, .int .i64 f, .int .i64 d, .int .i64 p, .int .i64 r, .int .i64 dr, .int .i64 o, .int .i64 sl, .int .i64 md, .int .i64 fr, .slice ad zs.length cap] 24) (ballc _ (.cells #[.int .i64 fm, .int .i64 sx, .int .i64 cy, .string te] 27)))
  have HK1 := hidden (blk_newAt (w.alloc (.cells #[.int .i64 n, .int .i64 f, .int .i64 d, .int .i64 p, .int .i64 r, .int .i64 dr, .int .i64 o, .int .i64 sl, .int .i64 md, .int .i64 fr, .slice ad zs.length cap] 24)) #[.int .i64 fm, .int .i64 sx, .int .i64 cy, .string te] 27 (b := w.heap.size + 1) (by simp))
  have KN := hidden (fun V => alive_any V)
  have HT := hidden (hT.below hb0)
  have HP := hidden (hP.later hb0)
  have HD := hidden (hD.later hb0)
  have CP := hidden (refPlain_any n f d p r dr o sl md fr ad cap zs ((w.alloc (.cells #[.int .i64 n, .int .i64 f, .int .i64 d, .int .i64 p, .int .i64 r, .int .i64 dr, .int .i64 o, .int .i64 sl, .int .i64 md, .int .i64 fr, .slice ad zs.length cap] 24)).alloc (.cells #[.int .i64 fm, .int .i64 sx, .int .i64 cy, .string te] 27)) hl HT.out)
  have HAG := hidden (lst_ages n f d p r dr o sl md fr ad cap zs hag)
  clear hT hP hD hb0 hag
  by_cases hE : plainE n f d p r dr o sl md fr zs = 0
  case neg =>
    have e0 : (plainE n f d p r dr o sl md fr zs != 0) = true := bne_iff_ne.2 hE
    generalize plainE n f d p r dr o sl md fr zs = E at *
    clear hE HAG
    go_enter Try.func3, Try.ntmps3
    go_wp2_with fail
    refine (CP.out).mono ?_
    rintro e w1 ⟨rfl, hb⟩
    have HB1 := hidden (bthen HB0.out hb)
    clear hb
    go_wp2_with fail
    refine (KN.out _).mono ?_
    rintro e w2 ⟨rfl, hb2⟩
    have HB2 := hidden (bthen HB1.out hb2)
    clear hb2
    go_wp2
    go_ret
    exact ⟨rfl, HB2.out⟩
  have e0 : ((0 : Int) != 0) = false := rfl
  have hbd := plainE_ok hE
  obtain ⟨N, rfl⟩ := Int.eq_ofNat_of_zero_le (show 0 ≤ n by omega)
  have hfr1 : 1 ≤ fr := by omega
  have hfr2 : fr ≤ 100 := by omega
  have hN13 : N ≤ 13 := by omega
  rw [hE] at CP HAG
  rw [Int.toNat_natCast] at HAG
  have CPut := hidden (fun a c m qs hm L hL a3 c3 es h1 h2 V h3 h4 h5 => PPut0_any N f d p r dr o sl md fr ad cap zs hE hl a c m qs hm L hL a3 c3 es h1 h2 V h3 h4 h5)
  have COld := hidden (fun a c M hM h1 V h2 h3 => POld0_any N f d p r dr o sl md fr ad cap zs hE hl a c M hM h1 V h2 h3)
  have CRd := hidden (fun a c M hM z V h2 h3 => PRead0_any N f d p r dr o sl md fr ad cap zs hE hl a c M hM z V h2 h3)
  clear hE hbd
  by_cases h1 : 40 < ps.length
  · have d1 : decide ((40 : Int) < (ps.length : Int)) = true := decide_eq_true (by omega)
    have d2 : decide (40 < ps.length) = true := decide_eq_true h1
    clear CPut COld CRd HAG
    go_enter Try.func3, Try.ntmps3
    go_wp2_with fail
    refine (CP.out).mono ?_
    rintro e w1 ⟨rfl, hb⟩
    have HB1 := hidden (bthen HB0.out hb)
    clear hb
    go_wp2_with fail
    refine (KN.out _).mono ?_
    rintro e w2 ⟨rfl, hb2⟩
    have HB2 := hidden (bthen HB1.out hb2)
    clear hb2
    go_wp2
    go_ret
    exact ⟨rfl, HB2.out⟩
  have d1 : decide ((40 : Int) < (ps.length : Int)) = false := decide_eq_false (by omega)
  have d2 : decide (40 < ps.length) = false := decide_eq_false h1
  by_cases h2 : 40 < ds.length
  · have d3 : decide ((40 : Int) < (ds.length : Int)) = true := decide_eq_true (by omega)
    have d4 : decide (40 < ds.length) = true := decide_eq_true h2
    clear CPut COld CRd HAG
    go_enter Try.func3, Try.ntmps3
    go_wp2_with fail
    refine (CP.out).mono ?_
    rintro e w1 ⟨rfl, hb⟩
    have HB1 := hidden (bthen HB0.out hb)
    clear hb
    go_wp2_with fail
    refine (KN.out _).mono ?_
    rintro e w2 ⟨rfl, hb2⟩
    have HB2 := hidden (bthen HB1.out hb2)
    clear hb2
    go_wp2
    go_ret
    exact ⟨rfl, HB2.out⟩
  have d3 : decide ((40 : Int) < (ds.length : Int)) = false := decide_eq_false (by omega)
  have d4 : decide (40 < ds.length) = false := decide_eq_false h2
  by_cases h3 : fm < 0
  · have d5 : decide (fm < 0) = true := decide_eq_true h3
    clear CPut COld CRd HAG
    go_enter Try.func3, Try.ntmps3
    go_wp2_with fail
    refine (CP.out).mono ?_
    rintro e w1 ⟨rfl, hb⟩
    have HB1 := hidden (bthen HB0.out hb)
    have q0 := blk_cell (blk_later HK0.out hb)
    have p0 := blk_lt (blk_later HK0.out hb)
    have q1 := blk_cell (blk_later HK1.out hb)
    have p1 := blk_lt (blk_later HK1.out hb)
    clear hb
    go_wp2_with fail
    refine (KN.out _).mono ?_
    rintro e w2 ⟨rfl, hb2⟩
    have HB2 := hidden (bthen HB1.out hb2)
    clear hb2
    go_wp2
    go_ret
    exact ⟨rfl, HB2.out⟩
  have d5 : decide (fm < 0) = false := decide_eq_false h3
  by_cases h4 : (N : Int) ≤ fm
  · have d6 : decide ((N : Int) ≤ fm) = true := decide_eq_true h4
    clear CPut COld CRd HAG
    go_enter Try.func3, Try.ntmps3
    go_wp2_with fail
    refine (CP.out).mono ?_
    rintro e w1 ⟨rfl, hb⟩
    have HB1 := hidden (bthen HB0.out hb)
    have q0 := blk_cell (blk_later HK0.out hb)
    have p0 := blk_lt (blk_later HK0.out hb)
    have q1 := blk_cell (blk_later HK1.out hb)
    have p1 := blk_lt (blk_later HK1.out hb)
    clear hb
    go_wp2_with fail
    refine (KN.out _).mono ?_
    rintro e w2 ⟨rfl, hb2⟩
    have HB2 := hidden (bthen HB1.out hb2)
    clear hb2
    go_wp2
    go_ret
    exact ⟨rfl, HB2.out⟩
  have d6 : decide ((N : Int) ≤ fm) = false := decide_eq_false h4
  obtain ⟨fq, rfl⟩ := Int.eq_ofNat_of_zero_le (show 0 ≤ fm by omega)
  have d7 : decide (N ≤ fq) = false := decide_eq_false (by omega)
  have hfq : fq < N := by omega
  go_enter Try.func3, Try.ntmps3
  go_wp2_with fail
  refine (CP.out).mono ?_
  rintro e w1 ⟨rfl, hb⟩
  have HB1 := hidden (bthen HB0.out hb)
  have k0 := blk_later HK0.out hb
  have k1 := blk_later HK1.out hb
  have HK01 := hidden k0
  have HK11 := hidden k1
  have q0 := blk_cell k0
  have p0 := blk_lt k0
  have q1 := blk_cell k1
  have p1 := blk_lt k1
  have HT1 := hidden (HT.out.below hb)
  have HP1 := hidden (HP.out.later hb)
  have HD1 := hidden (HD.out.later hb)
  clear hb k0 k1 HK0 HK1 HT HP HD CP
  go_wp2_with fail
  have hA := ballc w1 (.cells #[.int .i64 (fq : Int), .int .i64 sx, .int .i64 cy, .string te] 27)
  refine (CPut.out a2 c2 ps.length ps rfl _ rfl (some ⟨w1.heap.size, 0, none⟩) 1 [⟨(fq : Int), sx, cy, te⟩] hpl (by simp) _ (HT1.out.below hA) (HP1.out.later hA) (one_dlv (q := ⟨(fq : Int), sx, cy, te⟩) (heap_alloc_new w1 _))).mono ?_
  rintro e w2 ⟨a, rfl, hr, hb⟩
  have hb2 := bthen hA hb
  have HB2 := hidden (bthen HB1.out hb2)
  have HK02 := hidden (blk_later HK01.out hb2)
  have HK12 := hidden (blk_later HK11.out hb2)
  have HT2 := hidden (HT1.out.below hb2)
  have HD2 := hidden (HD1.out.later hb2)
  have HR2 := hidden hr
  have hFd : Fad N fq te cy fr 0 (putP (lstP 0 N fr ps) [⟨(fq : Int), sx, cy, te⟩]) := Fad.first hfq (lstP_len rfl _ _ _) HAG.out hfr1
  have HFd := hidden hFd
  clear hb hb2 hr hA hFd HK01 HK11 HT1 HP1 HD1 q0 p0 q1 p1 HAG
  generalize putP (lstP 0 N fr ps) [⟨(fq : Int), sx, cy, te⟩] = M0 at *
  go_wp2
  go_loopw [9, 10] (fun v i wr => ∃ (k : Nat) (a : Option Addr) (M : List Prt), (k : Int) ≤ fr + 2 ∧ i = .int .i64 k ∧ v = .slice a N N ∧ kPrt.Lies wr.heap.size wr (.slice a N N) M ∧ Fad N fq te cy fr k M ∧ Below w2.heap.size w2 wr) (fun _ i _ => 102 - (intV i).toNat)
  case atStart => exact ⟨0, a, M0, by omega, rfl, rfl, HR2.out, HFd.out, Below.refl _ _⟩
  case round =>
    clear HR2 HFd
    obtain ⟨k, a, M, hk, rfl, rfl, hR, hF, hB⟩ := hrel
    have HB := hidden hB
    have HR := hidden hR
    have HF := hidden hF
    have k0 := blk_later HK02.out hB
    have k1 := blk_later HK12.out hB
    have HKa := hidden k0
    have HKb := hidden k1
    have q0 := blk_cell k0
    have p0 := blk_lt k0
    have q1 := blk_cell k1
    have p1 := blk_lt k1
    have HTr := hidden (HT2.out.below hB)
    have HDr := hidden (HD2.out.later hB)
    clear hB hR hF k0 k1
    by_cases hlt : (k : Int) ≤ fr + 1
    · obtain ⟨r1, r2⟩ := HF.out.read hfq
      have hcr := CRd.out a N M HF.out.1 (fq : Int) wr HTr.out HR.out
      rw [r1] at hcr
      have HR2 := hidden r2
      clear r1 r2
      by_cases hlf : (k : Int) < fr
      · have j1 : decide ((k : Int) < fr) = true := decide_eq_true hlf
        obtain ⟨r3, r4⟩ := HR2.out hlf
        rw [j1, r3, r4] at hcr
        have j2 : (cy != cy) = false := by simp
        clear r3 r4
        go_wp2_with fail
        refine hcr.mono ?_
        rintro e w3 ⟨rfl, hb⟩
        have HB3 := hidden (bthen HB.out hb)
        have k0 := blk_later HKa.out hb
        have k1 := blk_later HKb.out hb
        have HKa3 := hidden k0
        have HKb3 := hidden k1
        have HT3 := hidden (HTr.out.below hb)
        have HD3 := hidden (HDr.out.later hb)
        have HL3 := hidden (HR.out.later hb)
        clear q0 p0 q1 p1 hcr hb HKa HKb HTr HDr HR
        have q0 := blk_cell k0
        have p0 := blk_lt k0
        have q1 := blk_cell k1
        have p1 := blk_lt k1
        clear k0 k1
        by_cases hkd : k < ds.length
        · obtain ⟨b, off, rfl, hbl, e0, e1, e2, e3⟩ := kDlv_four HD3.out k hkd
          have i1 : (0 : Int) ≤ (k : Int) := by omega
          have i2 : (k : Int) < (ds.length : Int) := by omega
          have i3 : decide ((k : Int) < (ds.length : Int)) = true := decide_eq_true i2
          have i4 : decide (k < ds.length) = true := decide_eq_true hkd
          generalize ds[k] = y at *
          obtain ⟨y0, y1, y2, y3⟩ := y
          dsimp only at e0 e1 e2 e3
          have HE := hidden (show w3.cell? ⟨b, off + k * 4, none⟩ = some (.int .i64 y0) ∧ w3.cell? ⟨b, off + k * 4 + 1, none⟩ = some (.int .i64 y1) ∧ w3.cell? ⟨b, off + k * 4 + 2, none⟩ = some (.int .i64 y2) ∧ w3.cell? ⟨b, off + k * 4 + 3, none⟩ = some (.string y3) from ⟨e0, e1, e2, e3⟩)
          by_cases hy : y0 = (fq : Int)
          · have j5 : (y0 != (fq : Int)) = false := by simp [hy]
            go_wp2
            refine wp_region_quiet_below (by kernel_rfl) (by kernel_rfl) ?_
            repeat (go_big_quiet_step (fail))
            refine wpQuiet_nil ?_
            intro w4 hw4
            have hb4 := rg_below hw4
            have HB4 := hidden (bthen HB3.out hb4)
            have HT4 := hidden (HT3.out.below hb4)
            have HL4 := hidden (HL3.out.later hb4)
            have k0 := blk_later HKa3.out hb4
            have k1 := blk_later HKb3.out hb4
            have HKa4 := hidden k0
            clear e0 e1 e2 e3
            clear hw4 q0 p0 q1 p1
            have q0 := blk_cell k0
            have p0 := blk_lt k0
            have q1 := blk_cell k1
            have p1 := blk_lt k1
            clear k0 k1 hb4
            have hco := COld.out a N M HF.out.1 HF.out.2.1 w4 HT4.out HL4.out
            go_wp2_with fail
            refine hco.mono ?_
            rintro e w8 ⟨a8, rfl, hr8, hb8⟩
            have HB8 := hidden (bthen HB4.out hb8)
            have HR8 := hidden hr8
            have HF8 := hidden (HF.out.old hfr1 (by omega))
            clear hr8 hb8 hco q0 p0 q1 p1
            go_wp2
            go_roundw
            case rel => exact ⟨k + 1, a8, _, by omega, by go_num, rfl, HR8.out, HF8.out, HB8.out⟩
            case measure => simp [intV]; omega
          · have j5 : (y0 != (fq : Int)) = true := bne_iff_ne.2 hy
            go_wp2
            refine wp_region_quiet_below (by kernel_rfl) (by kernel_rfl) ?_
            repeat (go_big_quiet_step (fail))
            refine wpQuiet_nil ?_
            intro w4 hw4
            have hb4 := rg_below hw4
            have HB4 := hidden (bthen HB3.out hb4)
            have HT4 := hidden (HT3.out.below hb4)
            have HL4 := hidden (HL3.out.later hb4)
            have k0 := blk_later HKa3.out hb4
            have k1 := blk_later HKb3.out hb4
            have HKa4 := hidden k0
            have g0 := (hb4.cell (p := ⟨b, off + k * 4, none⟩) hbl).trans HE.out.1
            have g1 := (hb4.cell (p := ⟨b, off + k * 4 + 1, none⟩) hbl).trans HE.out.2.1
            have g2 := (hb4.cell (p := ⟨b, off + k * 4 + 2, none⟩) hbl).trans HE.out.2.2.1
            have g3 := (hb4.cell (p := ⟨b, off + k * 4 + 3, none⟩) hbl).trans HE.out.2.2.2
            have hbl4 : b < w4.heap.size := Nat.lt_of_lt_of_le hbl hb4.size
            clear e0 e1 e2 e3
            clear hw4 q0 p0 q1 p1
            have q0 := blk_cell k0
            have p0 := blk_lt k0
            have q1 := blk_cell k1
            have p1 := blk_lt k1
            clear k0 k1 hb4
            have HKb4 := hidden q1
            clear q1 p1
            go_wp2_with fail
            have hC0 : Chn w4.heap.size w4 w4 := Chn.refl (Nat.le_refl _)
            have hS : ∀ V, Chn w4.heap.size w4 V → V.cell? ⟨w.heap.size, 0, none⟩ = some (.int .i64 (N : Int)) ∧ V.cell? ⟨w.heap.size, 1, none⟩ = some (.int .i64 f) ∧ V.cell? ⟨w.heap.size, 2, none⟩ = some (.int .i64 d) ∧ V.cell? ⟨w.heap.size, 3, none⟩ = some (.int .i64 p) ∧ V.cell? ⟨w.heap.size, 4, none⟩ = some (.int .i64 r) ∧ V.cell? ⟨w.heap.size, 5, none⟩ = some (.int .i64 dr) ∧ V.cell? ⟨w.heap.size, 6, none⟩ = some (.int .i64 o) ∧ V.cell? ⟨w.heap.size, 7, none⟩ = some (.int .i64 sl) ∧ V.cell? ⟨w.heap.size, 8, none⟩ = some (.int .i64 md) ∧ V.cell? ⟨w.heap.size, 9, none⟩ = some (.int .i64 fr) ∧ V.cell? ⟨w.heap.size, 10, none⟩ = some (.slice ad zs.length cap) ∧ V.cell? ⟨b, off + k * 4, none⟩ = some (.int .i64 y0) ∧ V.cell? ⟨b, off + k * 4 + 1, none⟩ = some (.int .i64 y1) ∧ V.cell? ⟨b, off + k * 4 + 2, none⟩ = some (.int .i64 y2) ∧ V.cell? ⟨b, off + k * 4 + 3, none⟩ = some (.string y3) := by
              intro V hC
              have l1 := blk_cell (blk_later HKa4.out hC.out)
              exact ⟨l1 0, l1 1, l1 2, l1 3, l1 4, l1 5, l1 6, l1 7, l1 8, l1 9, l1 10, (hC.out.cell (p := ⟨b, off + k * 4, none⟩) hbl4).trans g0, (hC.out.cell (p := ⟨b, off + k * 4 + 1, none⟩) hbl4).trans g1, (hC.out.cell (p := ⟨b, off + k * 4 + 2, none⟩) hbl4).trans g2, (hC.out.cell (p := ⟨b, off + k * 4 + 3, none⟩) hbl4).trans g3⟩
            go_region_held3 (fun V => V.cell? ⟨w.heap.size, 0, none⟩ = some (.int .i64 (N : Int)) ∧ V.cell? ⟨w.heap.size, 1, none⟩ = some (.int .i64 f) ∧ V.cell? ⟨w.heap.size, 2, none⟩ = some (.int .i64 d) ∧ V.cell? ⟨w.heap.size, 3, none⟩ = some (.int .i64 p) ∧ V.cell? ⟨w.heap.size, 4, none⟩ = some (.int .i64 r) ∧ V.cell? ⟨w.heap.size, 5, none⟩ = some (.int .i64 dr) ∧ V.cell? ⟨w.heap.size, 6, none⟩ = some (.int .i64 o) ∧ V.cell? ⟨w.heap.size, 7, none⟩ = some (.int .i64 sl) ∧ V.cell? ⟨w.heap.size, 8, none⟩ = some (.int .i64 md) ∧ V.cell? ⟨w.heap.size, 9, none⟩ = some (.int .i64 fr) ∧ V.cell? ⟨w.heap.size, 10, none⟩ = some (.slice ad zs.length cap) ∧ V.cell? ⟨b, off + k * 4, none⟩ = some (.int .i64 y0) ∧ V.cell? ⟨b, off + k * 4 + 1, none⟩ = some (.int .i64 y1) ∧ V.cell? ⟨b, off + k * 4 + 2, none⟩ = some (.int .i64 y2) ∧ V.cell? ⟨b, off + k * 4 + 3, none⟩ = some (.string y3)) (first | exact hS _ (by repeat (first | with_reducible assumption | with_reducible refine Chn.drew ?_ | with_reducible refine Chn.alloc ?_ _)))
              (first
              | (go_at_call 7; refine (CPut.out a N N M HF.out.1.symm M (lstP_ok rfl fr HF.out.1) (some ⟨w4.heap.size, 0, none⟩) 1 [⟨y0, y1, y2, y3⟩] (by have := HF.out.1; omega) (by simp) _ (HT4.out.below (Chn.out (show Chn w4.heap.size w4 _ from (by repeat (first | with_reducible assumption | with_reducible refine Chn.drew ?_ | with_reducible refine Chn.alloc ?_ _))))) (HL4.out.later (Chn.out (show Chn w4.heap.size w4 _ from (by repeat (first | with_reducible assumption | with_reducible refine Chn.drew ?_ | with_reducible refine Chn.alloc ?_ _))))) (one_dlv (q := ⟨y0, y1, y2, y3⟩) (by first | exact heap_alloc_new w4 _ | exact (heap_alloc_new w4.drew _)))).mono ?_; rintro e w6 ⟨a6, rfl, hr6, hb6⟩; have hC6 := Chn.below (show Chn w4.heap.size w4 _ from (by repeat (first | with_reducible assumption | with_reducible refine Chn.drew ?_ | with_reducible refine Chn.alloc ?_ _))) hb6; have hD6 : Chn w6.heap.size w6 w6 := Chn.refl (Nat.le_refl _); clear hb6))
            all_goals
              have HR6 := hidden hr6
              have HF6 : Hid (Fad N fq te cy fr k (putP M [⟨y0, y1, y2, y3⟩])) := HF.out.other (q := ⟨y0, y1, y2, y3⟩) hy
              have HB6 := hidden (bthen HB4.out hC6.out)
              have HT6 := hidden (HT4.out.below hC6.out)
              have k0 := blk_later HKa4.out hC6.out
              have q0 := blk_cell k0
              have p0 := blk_lt k0
              have q1 := trivial
              have p1 := trivial
              generalize putP M [⟨y0, y1, y2, y3⟩] = M6 at *
              clear k0 hr6 hC6 hD6 hS hC0 g0 g1 g2 g3
              have hco := COld.out a6 N M6 HF6.out.1 HF6.out.2.1 w6 HT6.out HR6.out
              go_wp2_with fail
              refine hco.mono ?_
              rintro e w8 ⟨a8, rfl, hr8, hb8⟩
              have HB8 := hidden (bthen HB6.out hb8)
              have HR8 := hidden hr8
              have HF8 := hidden (HF6.out.old hfr1 (by omega))
              clear hr8 hb8 hco q0 p0 q1 p1
              go_wp2
              go_roundw
              case rel => exact ⟨k + 1, a8, _, by omega, by go_num, rfl, HR8.out, HF8.out, HB8.out⟩
              case measure => simp [intV]; omega
        · have i3 : decide ((k : Int) < (ds.length : Int)) = false := decide_eq_false (by omega)
          have i4 : decide (k < ds.length) = false := decide_eq_false hkd
          go_wp2
          refine wp_region_quiet_below (by kernel_rfl) (by kernel_rfl) ?_
          repeat (go_big_quiet_step (fail))
          refine wpQuiet_nil ?_
          intro w4 hw4
          have hb4 := rg_below hw4
          have HB4 := hidden (bthen HB3.out hb4)
          have HT4 := hidden (HT3.out.below hb4)
          have HL4 := hidden (HL3.out.later hb4)
          have k0 := blk_later HKa3.out hb4
          have k1 := blk_later HKb3.out hb4
          have HKa4 := hidden k0
          clear hw4 q0 p0 q1 p1
          have q0 := blk_cell k0
          have p0 := blk_lt k0
          have q1 := blk_cell k1
          have p1 := blk_lt k1
          clear k0 k1 hb4
          have hco := COld.out a N M HF.out.1 HF.out.2.1 w4 HT4.out HL4.out
          go_wp2_with fail
          refine hco.mono ?_
          rintro e w8 ⟨a8, rfl, hr8, hb8⟩
          have HB8 := hidden (bthen HB4.out hb8)
          have HR8 := hidden hr8
          have HF8 := hidden (HF.out.old hfr1 (by omega))
          clear hr8 hb8 hco q0 p0 q1 p1
          go_wp2
          go_roundw
          case rel => exact ⟨k + 1, a8, _, by omega, by go_num, rfl, HR8.out, HF8.out, HB8.out⟩
          case measure => simp [intV]; omega
      · have j1 : decide ((k : Int) < fr) = false := decide_eq_false hlf
        rw [j1] at hcr
        generalize rdT fr M (fq : Int) = x0 at *
        generalize rdC fr M (fq : Int) = x1 at *
        go_wp2_with fail
        refine hcr.mono ?_
        rintro e w3 ⟨rfl, hb⟩
        have HB3 := hidden (bthen HB.out hb)
        have k0 := blk_later HKa.out hb
        have k1 := blk_later HKb.out hb
        have HKa3 := hidden k0
        have HKb3 := hidden k1
        have HT3 := hidden (HTr.out.below hb)
        have HD3 := hidden (HDr.out.later hb)
        have HL3 := hidden (HR.out.later hb)
        clear q0 p0 q1 p1 hcr hb HKa HKb HTr HDr HR
        have q0 := blk_cell k0
        have p0 := blk_lt k0
        have q1 := blk_cell k1
        have p1 := blk_lt k1
        clear k0 k1
        by_cases hkd : k < ds.length
        · obtain ⟨b, off, rfl, hbl, e0, e1, e2, e3⟩ := kDlv_four HD3.out k hkd
          have i1 : (0 : Int) ≤ (k : Int) := by omega
          have i2 : (k : Int) < (ds.length : Int) := by omega
          have i3 : decide ((k : Int) < (ds.length : Int)) = true := decide_eq_true i2
          have i4 : decide (k < ds.length) = true := decide_eq_true hkd
          generalize ds[k] = y at *
          obtain ⟨y0, y1, y2, y3⟩ := y
          dsimp only at e0 e1 e2 e3
          have HE := hidden (show w3.cell? ⟨b, off + k * 4, none⟩ = some (.int .i64 y0) ∧ w3.cell? ⟨b, off + k * 4 + 1, none⟩ = some (.int .i64 y1) ∧ w3.cell? ⟨b, off + k * 4 + 2, none⟩ = some (.int .i64 y2) ∧ w3.cell? ⟨b, off + k * 4 + 3, none⟩ = some (.string y3) from ⟨e0, e1, e2, e3⟩)
          by_cases hy : y0 = (fq : Int)
          · have j5 : (y0 != (fq : Int)) = false := by simp [hy]
            go_wp2
            refine wp_region_quiet_below (by kernel_rfl) (by kernel_rfl) ?_
            repeat (go_big_quiet_step (fail))
            refine wpQuiet_nil ?_
            intro w4 hw4
            have hb4 := rg_below hw4
            have HB4 := hidden (bthen HB3.out hb4)
            have HT4 := hidden (HT3.out.below hb4)
            have HL4 := hidden (HL3.out.later hb4)
            have k0 := blk_later HKa3.out hb4
            have k1 := blk_later HKb3.out hb4
            have HKa4 := hidden k0
            clear e0 e1 e2 e3
            clear hw4 q0 p0 q1 p1
            have q0 := blk_cell k0
            have p0 := blk_lt k0
            have q1 := blk_cell k1
            have p1 := blk_lt k1
            clear k0 k1 hb4
            have hco := COld.out a N M HF.out.1 HF.out.2.1 w4 HT4.out HL4.out
            go_wp2_with fail
            refine hco.mono ?_
            rintro e w8 ⟨a8, rfl, hr8, hb8⟩
            have HB8 := hidden (bthen HB4.out hb8)
            have HR8 := hidden hr8
            have HF8 := hidden (HF.out.old hfr1 (by omega))
            clear hr8 hb8 hco q0 p0 q1 p1
            go_wp2
            go_roundw
            case rel => exact ⟨k + 1, a8, _, by omega, by go_num, rfl, HR8.out, HF8.out, HB8.out⟩
            case measure => simp [intV]; omega
          · have j5 : (y0 != (fq : Int)) = true := bne_iff_ne.2 hy
            go_wp2
            refine wp_region_quiet_below (by kernel_rfl) (by kernel_rfl) ?_
            repeat (go_big_quiet_step (fail))
            refine wpQuiet_nil ?_
            intro w4 hw4
            have hb4 := rg_below hw4
            have HB4 := hidden (bthen HB3.out hb4)
            have HT4 := hidden (HT3.out.below hb4)
            have HL4 := hidden (HL3.out.later hb4)
            have k0 := blk_later HKa3.out hb4
            have k1 := blk_later HKb3.out hb4
            have HKa4 := hidden k0
            have g0 := (hb4.cell (p := ⟨b, off + k * 4, none⟩) hbl).trans HE.out.1
            have g1 := (hb4.cell (p := ⟨b, off + k * 4 + 1, none⟩) hbl).trans HE.out.2.1
            have g2 := (hb4.cell (p := ⟨b, off + k * 4 + 2, none⟩) hbl).trans HE.out.2.2.1
            have g3 := (hb4.cell (p := ⟨b, off + k * 4 + 3, none⟩) hbl).trans HE.out.2.2.2
            have hbl4 : b < w4.heap.size := Nat.lt_of_lt_of_le hbl hb4.size
            clear e0 e1 e2 e3
            clear hw4 q0 p0 q1 p1
            have q0 := blk_cell k0
            have p0 := blk_lt k0
            have q1 := blk_cell k1
            have p1 := blk_lt k1
            clear k0 k1 hb4
            have HKb4 := hidden q1
            clear q1 p1
            go_wp2_with fail
            have hC0 : Chn w4.heap.size w4 w4 := Chn.refl (Nat.le_refl _)
            have hS : ∀ V, Chn w4.heap.size w4 V → V.cell? ⟨w.heap.size, 0, none⟩ = some (.int .i64 (N : Int)) ∧ V.cell? ⟨w.heap.size, 1, none⟩ = some (.int .i64 f) ∧ V.cell? ⟨w.heap.size, 2, none⟩ = some (.int .i64 d) ∧ V.cell? ⟨w.heap.size, 3, none⟩ = some (.int .i64 p) ∧ V.cell? ⟨w.heap.size, 4, none⟩ = some (.int .i64 r) ∧ V.cell? ⟨w.heap.size, 5, none⟩ = some (.int .i64 dr) ∧ V.cell? ⟨w.heap.size, 6, none⟩ = some (.int .i64 o) ∧ V.cell? ⟨w.heap.size, 7, none⟩ = some (.int .i64 sl) ∧ V.cell? ⟨w.heap.size, 8, none⟩ = some (.int .i64 md) ∧ V.cell? ⟨w.heap.size, 9, none⟩ = some (.int .i64 fr) ∧ V.cell? ⟨w.heap.size, 10, none⟩ = some (.slice ad zs.length cap) ∧ V.cell? ⟨b, off + k * 4, none⟩ = some (.int .i64 y0) ∧ V.cell? ⟨b, off + k * 4 + 1, none⟩ = some (.int .i64 y1) ∧ V.cell? ⟨b, off + k * 4 + 2, none⟩ = some (.int .i64 y2) ∧ V.cell? ⟨b, off + k * 4 + 3, none⟩ = some (.string y3) := by
              intro V hC
              have l1 := blk_cell (blk_later HKa4.out hC.out)
              exact ⟨l1 0, l1 1, l1 2, l1 3, l1 4, l1 5, l1 6, l1 7, l1 8, l1 9, l1 10, (hC.out.cell (p := ⟨b, off + k * 4, none⟩) hbl4).trans g0, (hC.out.cell (p := ⟨b, off + k * 4 + 1, none⟩) hbl4).trans g1, (hC.out.cell (p := ⟨b, off + k * 4 + 2, none⟩) hbl4).trans g2, (hC.out.cell (p := ⟨b, off + k * 4 + 3, none⟩) hbl4).trans g3⟩
            go_region_held3 (fun V => V.cell? ⟨w.heap.size, 0, none⟩ = some (.int .i64 (N : Int)) ∧ V.cell? ⟨w.heap.size, 1, none⟩ = some (.int .i64 f) ∧ V.cell? ⟨w.heap.size, 2, none⟩ = some (.int .i64 d) ∧ V.cell? ⟨w.heap.size, 3, none⟩ = some (.int .i64 p) ∧ V.cell? ⟨w.heap.size, 4, none⟩ = some (.int .i64 r) ∧ V.cell? ⟨w.heap.size, 5, none⟩ = some (.int .i64 dr) ∧ V.cell? ⟨w.heap.size, 6, none⟩ = some (.int .i64 o) ∧ V.cell? ⟨w.heap.size, 7, none⟩ = some (.int .i64 sl) ∧ V.cell? ⟨w.heap.size, 8, none⟩ = some (.int .i64 md) ∧ V.cell? ⟨w.heap.size, 9, none⟩ = some (.int .i64 fr) ∧ V.cell? ⟨w.heap.size, 10, none⟩ = some (.slice ad zs.length cap) ∧ V.cell? ⟨b, off + k * 4, none⟩ = some (.int .i64 y0) ∧ V.cell? ⟨b, off + k * 4 + 1, none⟩ = some (.int .i64 y1) ∧ V.cell? ⟨b, off + k * 4 + 2, none⟩ = some (.int .i64 y2) ∧ V.cell? ⟨b, off + k * 4 + 3, none⟩ = some (.string y3)) (first | exact hS _ (by repeat (first | with_reducible assumption | with_reducible refine Chn.drew ?_ | with_reducible refine Chn.alloc ?_ _)))
              (first
              | (go_at_call 7; refine (CPut.out a N N M HF.out.1.symm M (lstP_ok rfl fr HF.out.1) (some ⟨w4.heap.size, 0, none⟩) 1 [⟨y0, y1, y2, y3⟩] (by have := HF.out.1; omega) (by simp) _ (HT4.out.below (Chn.out (show Chn w4.heap.size w4 _ from (by repeat (first | with_reducible assumption | with_reducible refine Chn.drew ?_ | with_reducible refine Chn.alloc ?_ _))))) (HL4.out.later (Chn.out (show Chn w4.heap.size w4 _ from (by repeat (first | with_reducible assumption | with_reducible refine Chn.drew ?_ | with_reducible refine Chn.alloc ?_ _))))) (one_dlv (q := ⟨y0, y1, y2, y3⟩) (by first | exact heap_alloc_new w4 _ | exact (heap_alloc_new w4.drew _)))).mono ?_; rintro e w6 ⟨a6, rfl, hr6, hb6⟩; have hC6 := Chn.below (show Chn w4.heap.size w4 _ from (by repeat (first | with_reducible assumption | with_reducible refine Chn.drew ?_ | with_reducible refine Chn.alloc ?_ _))) hb6; have hD6 : Chn w6.heap.size w6 w6 := Chn.refl (Nat.le_refl _); clear hb6))
            all_goals
              have HR6 := hidden hr6
              have HF6 : Hid (Fad N fq te cy fr k (putP M [⟨y0, y1, y2, y3⟩])) := HF.out.other (q := ⟨y0, y1, y2, y3⟩) hy
              have HB6 := hidden (bthen HB4.out hC6.out)
              have HT6 := hidden (HT4.out.below hC6.out)
              have k0 := blk_later HKa4.out hC6.out
              have q0 := blk_cell k0
              have p0 := blk_lt k0
              have q1 := trivial
              have p1 := trivial
              generalize putP M [⟨y0, y1, y2, y3⟩] = M6 at *
              clear k0 hr6 hC6 hD6 hS hC0 g0 g1 g2 g3
              have hco := COld.out a6 N M6 HF6.out.1 HF6.out.2.1 w6 HT6.out HR6.out
              go_wp2_with fail
              refine hco.mono ?_
              rintro e w8 ⟨a8, rfl, hr8, hb8⟩
              have HB8 := hidden (bthen HB6.out hb8)
              have HR8 := hidden hr8
              have HF8 := hidden (HF6.out.old hfr1 (by omega))
              clear hr8 hb8 hco q0 p0 q1 p1
              go_wp2
              go_roundw
              case rel => exact ⟨k + 1, a8, _, by omega, by go_num, rfl, HR8.out, HF8.out, HB8.out⟩
              case measure => simp [intV]; omega
        · have i3 : decide ((k : Int) < (ds.length : Int)) = false := decide_eq_false (by omega)
          have i4 : decide (k < ds.length) = false := decide_eq_false hkd
          go_wp2
          refine wp_region_quiet_below (by kernel_rfl) (by kernel_rfl) ?_
          repeat (go_big_quiet_step (fail))
          refine wpQuiet_nil ?_
          intro w4 hw4
          have hb4 := rg_below hw4
          have HB4 := hidden (bthen HB3.out hb4)
          have HT4 := hidden (HT3.out.below hb4)
          have HL4 := hidden (HL3.out.later hb4)
          have k0 := blk_later HKa3.out hb4
          have k1 := blk_later HKb3.out hb4
          have HKa4 := hidden k0
          clear hw4 q0 p0 q1 p1
          have q0 := blk_cell k0
          have p0 := blk_lt k0
          have q1 := blk_cell k1
          have p1 := blk_lt k1
          clear k0 k1 hb4
          have hco := COld.out a N M HF.out.1 HF.out.2.1 w4 HT4.out HL4.out
          go_wp2_with fail
          refine hco.mono ?_
          rintro e w8 ⟨a8, rfl, hr8, hb8⟩
          have HB8 := hidden (bthen HB4.out hb8)
          have HR8 := hidden hr8
          have HF8 := hidden (HF.out.old hfr1 (by omega))
          clear hr8 hb8 hco q0 p0 q1 p1
          go_wp2
          go_roundw
          case rel => exact ⟨k + 1, a8, _, by omega, by go_num, rfl, HR8.out, HF8.out, HB8.out⟩
          case measure => simp [intV]; omega
    · have HFin := HB
      go_wp2_with fail
      refine (KN.out _).mono ?_
      rintro e w3 ⟨rfl, hb⟩
      have HB3 := hidden (bthen HB.out hb)
      clear hb q0 p0 q1 p1
      go_wp2
      go_ret
      exact ⟨rfl, bthen HB2.out HB3.out⟩
end Go.Proofs.Ytgclabboafdheab.LawPortFades
