/- The walk of the statement PortLast: the call returns true, and makes at most new memory; conditions: the table and rows lie where they say, lengths and numbers fit int. -/
import Derived.Test.YtgclabboafdheabBc
import Derived.Test.YtgclabboafdheabBd
import Derived.Deep.RegionHeld3
import Derived.BigRegion
namespace Go.Proofs.Ytgclabboafdheab.LawPortLast
open Go.ChangeShapes Go.WideShapes Go.ChangeAt Go.RowKit
set_option linter.unusedVariables false
attribute [local go_sem] cell_rg

theorem set3T {w : World} {b : Nat} {z0 z1 z2 : Value} {t : TypeId} (h : w.heap[b]? = some (.cells #[z0, z1, z2] t (0, 0))) (v0 v1 v2 : Value) :
    (((w.setCell ⟨b, 0, none⟩ v0).setCell ⟨b, 1, none⟩ v1).setCell ⟨b, 2, none⟩ v2).heap[b]? = some (.cells #[v0, v1, v2] t (0, 0)) := by
  have h1 := heap_setCell_same _ b 0 _ _ v0 h
  have h2 := heap_setCell_same _ b 1 _ _ v1 h1
  have h3 := heap_setCell_same _ b 2 _ _ v2 h2
  simpa using h3
theorem PPut1_any (N : Nat) (f d p r dr o sl md fr : Int) (ad : Option Addr) (cap : Nat) (zs : List Int) (hE : plainE (N : Int) f d p r dr o sl md fr zs = 0) (hl : zs.length ≤ 9223372036854775807) (a : Option Addr) (c : Nat) (ps : List Prt) (hm : ps.length = N) (a3 : Option Addr) (c3 : Nat) (ds : List Dlv) (hdl : ds.length ≤ 9223372036854775807) (V : World) (hT : Tab V ad zs) (hP : kPrt.Lies V.heap.size V (.slice a N c) ps) (hD : kDlv.Lies V.heap.size V (.slice a3 ds.length c3) ds) :
    Calls Try.prog 7 #[.agg #[.int .i64 (N : Int), .int .i64 f, .int .i64 d, .int .i64 p, .int .i64 r, .int .i64 dr, .int .i64 o, .int .i64 sl, .int .i64 md, .int .i64 fr, .slice ad zs.length cap], .slice a N c, .slice a3 ds.length c3] V fun e w' => ∃ g : Nat, e = .returned (.slice (some ⟨g, 0, none⟩) N N) ∧ V.heap.size ≤ g ∧ PBlk w' g (putP ps ds) ∧ Below V.heap.size V w' := by
  subst hm
  have hbd := plainE_ok hE
  have hL : lstP 0 ps.length fr ps = ps := lstP_ok rfl fr rfl
  have z := PPut_any (ps.length : Int) f d p r dr o sl md fr ad cap zs a c ps a3 c3 ds V hl hT (by omega) hP hdl hD
  rw [hE, Int.toNat_natCast, hL] at z
  refine z.mono ?_
  rintro e w' ⟨a', rfl, hr, hb⟩
  obtain ⟨g, rfl, hg, hG⟩ := hr.blk (by rw [putP_len]; omega)
  exact ⟨g, rfl, hg, hG, hb⟩
theorem pblk_lies {W : World} {g N : Nat} {L : List Prt} (h : PBlk W g L) (hl : L.length = N) (hN : N ≤ 64) : kPrt.Lies W.heap.size W (.slice (some ⟨g, 0, none⟩) N N) L := by
  subst hl
  exact h.lies (by unfold maxLen; omega)
/-- What is last of one node. -/
theorem last_in {M : List Prt} {f : Nat} (hf : f < M.length) (sl cy : Int) (te : ByteArray) : (put1 M ⟨(f : Int), sl, cy, te⟩)[f]? = some ⟨te, cy, 0⟩ := by
  rw [put1_in (d := ⟨(f : Int), sl, cy, te⟩) rfl hf, List.getElem?_set_self hf]
theorem last_out {M : List Prt} {f : Nat} {q : Dlv} (hq : ¬ q.fm = (f : Int)) : (put1 M q)[f]? = M[f]? := by
  by_cases hr : 0 ≤ q.fm ∧ q.fm < (M.length : Int)
  · obtain ⟨z, hz⟩ := Int.eq_ofNat_of_zero_le hr.1
    rw [put1_in hz (by omega), List.getElem?_set_ne (by omega)]
  · rw [put1_out hr]
section
attribute [local go_sem ↓] eqIn_pt
attribute [local go_sem] guard_pt ptQ_same
set_option maxRecDepth 100000 in
set_option maxHeartbeats 16000000 in
theorem walk (n f d p r dr o sl md fr : Int) (ad : Option Addr) (cap : Nat) (zs : List Int) (a2 : Option Addr) (c2 : Nat) (ps : List Prt) (a3 : Option Addr) (c3 : Nat) (ds : List Dlv) (z : Int) (w : World) (hl : zs.length ≤ 9223372036854775807) (hT : Tab w ad zs) (hpl : ps.length ≤ 9223372036854775807) (hP : kPrt.Lies w.heap.size w (.slice a2 ps.length c2) ps) (hag : agesIn ps) (hdl : ds.length ≤ 9223372036854775807) (hD : kDlv.Lies w.heap.size w (.slice a3 ds.length c3) ds) (hz : -9223372036854775808 ≤ z ∧ z ≤ 9223372036854775807) :
    Calls Try.prog 4 #[.agg #[.int .i64 n, .int .i64 f, .int .i64 d, .int .i64 p, .int .i64 r, .int .i64 dr, .int .i64 o, .int .i64 sl, .int .i64 md, .int .i64 fr, .slice ad zs.length cap], .slice a2 ps.length c2, .slice a3 ds.length c3, .int .i64 z] w fun e w' => e = .returned (.bool true) ∧ Below w.heap.size w w' := by
  have hb0 := ballc w (.cells #[.int .i64 n, .int .i64 f, .int .i64 d, .int .i64 p, .int .i64 r, .int .i64 dr, .int .i64 o, .int .i64 sl, .int .i64 md, .int .i64 fr, .slice ad zs.length cap] 24)
  have HB0 := hidden hb0
  have HK0 := hidden (blk_nw w #[.int .i64 n, .int .i64 f, .int .i64 d, .int .i64 p, .int .i64 r, .int .i64 dr, .int .i64 o, .int .i64 sl, .int .i64 md, .int .i64 fr, .slice ad zs.length cap] 24)
  have KN := hidden (fun V => alive_any V)
  have HT := hidden (hT.below hb0)
  have HP := hidden (hP.later hb0)
  have HD := hidden (hD.later hb0)
  have CP := hidden (refPlain_any n f d p r dr o sl md fr ad cap zs (w.alloc (.cells #[.int .i64 n, .int .i64 f, .int .i64 d, .int .i64 p, .int .i64 r, .int .i64 dr, .int .i64 o, .int .i64 sl, .int .i64 md, .int .i64 fr, .slice ad zs.length cap] 24)) hl HT.out)
  clear hT hP hD hb0 hag
  by_cases hE : plainE n f d p r dr o sl md fr zs = 0
  case neg =>
    have e0 : (plainE n f d p r dr o sl md fr zs != 0) = true := bne_iff_ne.2 hE
    generalize plainE n f d p r dr o sl md fr zs = E at *
    clear hE
    go_enter Try.func4, Try.ntmps4
    go_wp2_with fail
    refine (CP.out).mono ?_
    rintro e w1 ⟨rfl, hb⟩
    have HB1 := hidden (bthen HB0.out hb)
    have q0 := blk_cell (blk_later HK0.out hb)
    have p0 := blk_lt (blk_later HK0.out hb)
    clear hb
    go_wp2_with fail
    refine (KN.out _).mono ?_
    rintro e w2 ⟨rfl, hb2⟩
    have HB2 := hidden (bthen HB1.out hb2)
    clear hb2
    go_wp2
    go_ret
    exact ⟨rfl, HB2.out⟩
  have e0 : ((0 : Int) != 0) = false := rfl
  have hbd := plainE_ok hE
  obtain ⟨N, rfl⟩ := Int.eq_ofNat_of_zero_le (show 0 ≤ n by omega)
  have hN13 : N ≤ 13 := by omega
  rw [hE] at CP
  have CPut := hidden (fun a c qs hm a3 c3 es h1 V h3 h4 h5 => PPut1_any N f d p r dr o sl md fr ad cap zs hE hl a c qs hm a3 c3 es h1 V h3 h4 h5)
  clear hE hbd
  by_cases h1 : ps.length = N
  case neg =>
    have d1 : ((ps.length : Int) != (N : Int)) = true := bne_iff_ne.2 (by omega)
    clear CPut h1
    go_enter Try.func4, Try.ntmps4
    go_wp2_with fail
    refine (CP.out).mono ?_
    rintro e w1 ⟨rfl, hb⟩
    have HB1 := hidden (bthen HB0.out hb)
    have q0 := blk_cell (blk_later HK0.out hb)
    have p0 := blk_lt (blk_later HK0.out hb)
    clear hb
    go_wp2_with fail
    refine (KN.out _).mono ?_
    rintro e w2 ⟨rfl, hb2⟩
    have HB2 := hidden (bthen HB1.out hb2)
    clear hb2
    go_wp2
    go_ret
    exact ⟨rfl, HB2.out⟩
  have d1 : ((ps.length : Int) != (N : Int)) = false := by rw [h1]; simp
  by_cases h2 : 40 < ds.length
  · have d3 : decide ((40 : Int) < (ds.length : Int)) = true := decide_eq_true (by omega)
    have d4 : decide (40 < ds.length) = true := decide_eq_true h2
    clear CPut h1
    go_enter Try.func4, Try.ntmps4
    go_wp2_with fail
    refine (CP.out).mono ?_
    rintro e w1 ⟨rfl, hb⟩
    have HB1 := hidden (bthen HB0.out hb)
    have q0 := blk_cell (blk_later HK0.out hb)
    have p0 := blk_lt (blk_later HK0.out hb)
    clear hb
    go_wp2_with fail
    refine (KN.out _).mono ?_
    rintro e w2 ⟨rfl, hb2⟩
    have HB2 := hidden (bthen HB1.out hb2)
    clear hb2
    go_wp2
    go_ret
    exact ⟨rfl, HB2.out⟩
  have d3 : decide ((40 : Int) < (ds.length : Int)) = false := decide_eq_false (by omega)
  have d4 : decide (40 < ds.length) = false := decide_eq_false h2
  by_cases h3 : z < 0
  · have d5 : decide (z < 0) = true := decide_eq_true h3
    clear CPut h1
    go_enter Try.func4, Try.ntmps4
    go_wp2_with fail
    refine (CP.out).mono ?_
    rintro e w1 ⟨rfl, hb⟩
    have HB1 := hidden (bthen HB0.out hb)
    have q0 := blk_cell (blk_later HK0.out hb)
    have p0 := blk_lt (blk_later HK0.out hb)
    clear hb
    go_wp2_with fail
    refine (KN.out _).mono ?_
    rintro e w2 ⟨rfl, hb2⟩
    have HB2 := hidden (bthen HB1.out hb2)
    clear hb2
    go_wp2
    go_ret
    exact ⟨rfl, HB2.out⟩
  have d5 : decide (z < 0) = false := decide_eq_false h3
  by_cases h4 : (N : Int) ≤ z
  · have d6 : decide ((N : Int) ≤ z) = true := decide_eq_true h4
    clear CPut h1
    go_enter Try.func4, Try.ntmps4
    go_wp2_with fail
    refine (CP.out).mono ?_
    rintro e w1 ⟨rfl, hb⟩
    have HB1 := hidden (bthen HB0.out hb)
    have q0 := blk_cell (blk_later HK0.out hb)
    have p0 := blk_lt (blk_later HK0.out hb)
    clear hb
    go_wp2_with fail
    refine (KN.out _).mono ?_
    rintro e w2 ⟨rfl, hb2⟩
    have HB2 := hidden (bthen HB1.out hb2)
    clear hb2
    go_wp2
    go_ret
    exact ⟨rfl, HB2.out⟩
  have d6 : decide ((N : Int) ≤ z) = false := decide_eq_false h4
  obtain ⟨fq, rfl⟩ := Int.eq_ofNat_of_zero_le (show 0 ≤ z by omega)
  have d7 : decide (N ≤ fq) = false := decide_eq_false (by omega)
  have hfq : fq < N := by omega
  have HPL := hidden h1
  have HLN : Hid (∀ k, (putP ps (ds.take k)).length = N) := fun k => by rw [putP_len, HPL.out]
  clear hz
  go_enter Try.func4, Try.ntmps4
  go_wp2_with fail
  refine (CP.out).mono ?_
  rintro e w1 ⟨rfl, hb⟩
  have HB1 := hidden (bthen HB0.out hb)
  have k0 := blk_later HK0.out hb
  have HK01 := hidden k0
  have q0 := blk_cell k0
  have p0 := blk_lt k0
  have HT1 := hidden (HT.out.below hb)
  have HP1 := hidden (HP.out.later hb)
  have HD1 := hidden (HD.out.later hb)
  clear hb k0 HK0 HT HP HD CP
  rw [h1] at HP1
  clear h1 d1
  go_wp2_with fail
  refine (CPut.out a2 c2 ps HPL.out a3 c3 ds hdl _ HT1.out HP1.out HD1.out).mono ?_
  rintro e w2 ⟨gA, rfl, hgA, hr, hb⟩
  have HB2 := hidden (bthen HB1.out hb)
  have HK02 := hidden (blk_later HK01.out hb)
  have HT2 := hidden (HT1.out.below hb)
  have HD2 := hidden (HD1.out.later hb)
  have hP2 := HP1.out.later hb
  have HP2 := hidden hP2
  have HA2 := hidden hr
  have hfl : fq < ps.length := by have := HPL.out; omega
  obtain ⟨bp, offp, rfl, hbp, u0, u1, u2⟩ := kPrt_three hP2 fq hfl
  have HLS : Hid (ps[fq]? = some (ps[fq]'hfl)) := List.getElem?_eq_getElem _
  clear hb hr hP2 HK01 HT1 HP1 HD1 q0 p0
  have i8 : (0 : Int) ≤ (fq : Int) := by omega
  have i9 : (fq : Int) < (N : Int) := by omega
  generalize hps : ps[fq]'hfl = lp at *
  obtain ⟨l0, l1, l2⟩ := lp
  dsimp only at u0 u1 u2
  clear hps hfl
  have hA := ballc w2 (.cells #[.string l0, .int .i64 l1, .int .i64 l2] 38)
  have HBX := hidden (blk_nw w2 #[.string l0, .int .i64 l1, .int .i64 l2] 38)
  have HPX := hidden (HP2.out.later hA)
  have HBL := hidden hA
  clear hA
  go_wp2
  clear u0 u1 u2
  go_loopw [10, 12] (fun v i wr => ∃ (k : Nat) (a : Option Addr) (c : Nat) (l0 : ByteArray) (l1 l2 : Int), k ≤ ds.length ∧ i = .int .i64 k ∧ v = .slice a N c ∧ kPrt.Lies wr.heap.size wr (.slice a N c) (putP ps (ds.take k)) ∧ wr.heap[w2.heap.size]? = some (.cells #[.string l0, .int .i64 l1, .int .i64 l2] 38 (0, 0)) ∧ (putP ps (ds.take k))[fq]? = some ⟨l0, l1, l2⟩ ∧ Below w2.heap.size w2 wr) (fun _ i _ => ds.length - (intV i).toNat)
  case atStart => exact ⟨0, _, c2, l0, l1, l2, Nat.zero_le _, rfl, rfl, HPX.out, HBX.out, HLS.out, HBL.out⟩
  case round =>
    clear HPX HBX HLS HBL HP2
    obtain ⟨k, a, c, l0, l1, l2, hk, rfl, rfl, hR, hX, hL, hB⟩ := hrel
    have HB := hidden hB
    have HR := hidden hR
    have HX := hidden hX
    have HL := hidden hL
    have k0 := blk_later HK02.out hB
    have HKa := hidden k0
    have q0 := blk_cell k0
    have p0 := blk_lt k0
    have HTr := hidden (HT2.out.below hB)
    have hDr := HD2.out.later hB
    have HDr := hidden hDr
    clear hB hR hX hL k0
    by_cases hkd : k < ds.length
    · obtain ⟨b, off, rfl, hbl, e0, e1, e2, e3⟩ := kDlv_four hDr k hkd
      have i1 : (0 : Int) ≤ (k : Int) := by omega
      have i2 : (k : Int) < (ds.length : Int) := by omega
      have HS := hidden (putP_snoc ps (ds.take k) ds[k])
      rw [← List.take_succ_eq_append_getElem hkd] at HS
      have HMl := hidden (HLN.out k)
      generalize putP ps (ds.take k) = M at *
      generalize ds[k] = y at *
      obtain ⟨y0, y1, y2, y3⟩ := y
      dsimp only at e0 e1 e2 e3
      clear hDr
      go_wp2_with fail
      have hC0 : Chn wr.heap.size wr wr := Chn.refl (Nat.le_refl _)
      have hS : ∀ V, Chn wr.heap.size wr V → V.cell? ⟨w.heap.size, 0, none⟩ = some (.int .i64 (N : Int)) ∧ V.cell? ⟨w.heap.size, 1, none⟩ = some (.int .i64 f) ∧ V.cell? ⟨w.heap.size, 2, none⟩ = some (.int .i64 d) ∧ V.cell? ⟨w.heap.size, 3, none⟩ = some (.int .i64 p) ∧ V.cell? ⟨w.heap.size, 4, none⟩ = some (.int .i64 r) ∧ V.cell? ⟨w.heap.size, 5, none⟩ = some (.int .i64 dr) ∧ V.cell? ⟨w.heap.size, 6, none⟩ = some (.int .i64 o) ∧ V.cell? ⟨w.heap.size, 7, none⟩ = some (.int .i64 sl) ∧ V.cell? ⟨w.heap.size, 8, none⟩ = some (.int .i64 md) ∧ V.cell? ⟨w.heap.size, 9, none⟩ = some (.int .i64 fr) ∧ V.cell? ⟨w.heap.size, 10, none⟩ = some (.slice ad zs.length cap) ∧ V.cell? ⟨b, off + k * 4, none⟩ = some (.int .i64 y0) ∧ V.cell? ⟨b, off + k * 4 + 1, none⟩ = some (.int .i64 y1) ∧ V.cell? ⟨b, off + k * 4 + 2, none⟩ = some (.int .i64 y2) ∧ V.cell? ⟨b, off + k * 4 + 3, none⟩ = some (.string y3) := by
        intro V hC
        have l1 := blk_cell (blk_later HKa.out hC.out)
        exact ⟨l1 0, l1 1, l1 2, l1 3, l1 4, l1 5, l1 6, l1 7, l1 8, l1 9, l1 10, (hC.out.cell (p := ⟨b, off + k * 4, none⟩) hbl).trans e0, (hC.out.cell (p := ⟨b, off + k * 4 + 1, none⟩) hbl).trans e1, (hC.out.cell (p := ⟨b, off + k * 4 + 2, none⟩) hbl).trans e2, (hC.out.cell (p := ⟨b, off + k * 4 + 3, none⟩) hbl).trans e3⟩
      go_region_held3 (fun V => V.cell? ⟨w.heap.size, 0, none⟩ = some (.int .i64 (N : Int)) ∧ V.cell? ⟨w.heap.size, 1, none⟩ = some (.int .i64 f) ∧ V.cell? ⟨w.heap.size, 2, none⟩ = some (.int .i64 d) ∧ V.cell? ⟨w.heap.size, 3, none⟩ = some (.int .i64 p) ∧ V.cell? ⟨w.heap.size, 4, none⟩ = some (.int .i64 r) ∧ V.cell? ⟨w.heap.size, 5, none⟩ = some (.int .i64 dr) ∧ V.cell? ⟨w.heap.size, 6, none⟩ = some (.int .i64 o) ∧ V.cell? ⟨w.heap.size, 7, none⟩ = some (.int .i64 sl) ∧ V.cell? ⟨w.heap.size, 8, none⟩ = some (.int .i64 md) ∧ V.cell? ⟨w.heap.size, 9, none⟩ = some (.int .i64 fr) ∧ V.cell? ⟨w.heap.size, 10, none⟩ = some (.slice ad zs.length cap) ∧ V.cell? ⟨b, off + k * 4, none⟩ = some (.int .i64 y0) ∧ V.cell? ⟨b, off + k * 4 + 1, none⟩ = some (.int .i64 y1) ∧ V.cell? ⟨b, off + k * 4 + 2, none⟩ = some (.int .i64 y2) ∧ V.cell? ⟨b, off + k * 4 + 3, none⟩ = some (.string y3)) (first | exact hS _ (by repeat (first | with_reducible assumption | with_reducible refine Chn.drew ?_ | with_reducible refine Chn.alloc ?_ _)))
        (first
        | (go_at_call 7; refine (CPut.out a c M HMl.out (some ⟨wr.heap.size, 0, none⟩) 1 [⟨y0, y1, y2, y3⟩] (by simp) _ (HTr.out.below (Chn.out (show Chn wr.heap.size wr _ from (by repeat (first | with_reducible assumption | with_reducible refine Chn.drew ?_ | with_reducible refine Chn.alloc ?_ _))))) (HR.out.later (Chn.out (show Chn wr.heap.size wr _ from (by repeat (first | with_reducible assumption | with_reducible refine Chn.drew ?_ | with_reducible refine Chn.alloc ?_ _))))) (one_dlv (q := ⟨y0, y1, y2, y3⟩) (by first | exact heap_alloc_new wr _ | exact (heap_alloc_new wr.drew _)))).mono ?_; rintro e w6 ⟨g6, rfl, hg6, hr6, hb6⟩; have hg7 : wr.heap.size ≤ g6 := Nat.le_trans (Chn.le (n := wr.heap.size) (w := wr) (by repeat (first | with_reducible assumption | with_reducible refine Chn.drew ?_ | with_reducible refine Chn.alloc ?_ _))) hg6; have hC6 := Chn.below (show Chn wr.heap.size wr _ from (by repeat (first | with_reducible assumption | with_reducible refine Chn.drew ?_ | with_reducible refine Chn.alloc ?_ _))) hb6; have hD6 : Chn w6.heap.size w6 w6 := Chn.refl (Nat.le_refl _); clear hb6))
      all_goals
        have hr6' : PBlk w6 g6 (put1 M ⟨y0, y1, y2, y3⟩) := hr6
        rw [← HS.out] at hr6'
        have HR6 := hidden hr6'
        have HLN1 := hidden (HLN.out (k + 1))
        have hbx : w2.heap.size < wr.heap.size := blk_lt HX.out
        have HG6 : Hid (g6 ≠ w2.heap.size) := by
          show g6 ≠ w2.heap.size
          omega
        have HB6 := hidden (bthen HB.out hC6.out)
        have kx := blk_later HX.out hC6.out
        have HX6 := hidden kx
        have g0 := (hC6.out.cell (p := ⟨b, off + k * 4, none⟩) hbl).trans e0
        have g2 := (hC6.out.cell (p := ⟨b, off + k * 4 + 2, none⟩) hbl).trans e2
        have g3 := (hC6.out.cell (p := ⟨b, off + k * 4 + 3, none⟩) hbl).trans e3
        have HBS := hidden (Nat.lt_of_lt_of_le hbl hC6.out.size)
        have hbw : b < w6.heap.size := HBS.out
        clear e0 e1 e2 e3 hr6 hr6' hC6 hD6 hS hC0 q0 p0 hg6 hg7 hbx
        by_cases hy : y0 = (fq : Int)
        · subst hy
          have j5 : ((fq : Int) == (fq : Int)) = true := by simp
          have qx := blk_cell kx
          have fx := blk_frozen kx
          have lx := blk_lt kx
          have HX7 := hidden (set3T kx (.string y3) (.int .i64 y2) (.int .i64 0))
          have HB7 := hidden (below3P HB6.out (Nat.le_refl w2.heap.size) 0 (.string y3) (.int .i64 y2) (.int .i64 0))
          have HL7 : Hid ((put1 M ⟨(fq : Int), y1, y2, y3⟩)[fq]? = some ⟨y3, y2, 0⟩) := last_in (by have := HMl.out; omega) y1 y2 y3
          rw [← HS.out] at HL7
          have HRX := hidden (other3P (b := w2.heap.size) (i := 0) HR6.out HG6.out (.string y3) (.int .i64 y2) (.int .i64 0))
          clear kx
          go_wp2
          go_region
          all_goals
            go_wp2
            go_roundw
            case rel => exact ⟨k + 1, some ⟨g6, 0, none⟩, N, y3, y2, 0, by omega, by go_num, rfl, pblk_lies HRX.out HLN1.out (by omega), HX7.out, HL7.out, (by first | exact HB7.out | exact HB7.out.drew)⟩
            case measure => simp [intV]; omega
        · have j5 : (y0 == (fq : Int)) = false := by simp [hy]
          have HL6 : Hid ((put1 M ⟨y0, y1, y2, y3⟩)[fq]? = M[fq]?) := last_out (q := ⟨y0, y1, y2, y3⟩) hy
          rw [← HS.out, HL.out] at HL6
          clear kx
          go_wp2
          go_roundw
          case rel => exact ⟨k + 1, some ⟨g6, 0, none⟩, N, l0, l1, l2, by omega, by go_num, rfl, pblk_lies HR6.out HLN1.out (by omega), HX6.out, HL6.out, HB6.out⟩
          case measure => simp [intV]; omega
    · obtain rfl : k = ds.length := by omega
      have i2 : ¬ (ds.length : Int) < (ds.length : Int) := by omega
      have hR := HR.out
      have hL := HL.out
      have hln := HLN.out ds.length
      rw [List.take_length] at hR hL hln
      have hAr := HA2.out.later HB.out
      generalize putP ps ds = L at *
      have hfl : fq < L.length := by omega
      have hcl := hAr.cells fq hfl
      rw [List.getElem?_eq_getElem hfl] at hL
      rw [Option.some.inj hL] at hcl
      obtain ⟨u0, u1, u2⟩ := hcl
      dsimp only at u0 u1 u2
      have lg := hAr.lt
      have HLA := hidden (pblk_lies hAr hln (by omega))
      have HLO := hidden hR
      have HLL := hidden (show L.length ≤ 1000000 by omega)
      have qx := blk_cell HX.out
      have lx := blk_lt HX.out
      have j7 : ((N : Int) == (N : Int)) = true := by simp
      clear hR hL hln hAr hfl hDr
      go_wp2
      refine wp_region_quiet_below (by kernel_rfl) (by kernel_rfl) ?_
      repeat (go_big_quiet_step (first
        | (go_at_call 10; exact Calls.regrown_of (r26Same_any (.slice (some ⟨gA, 0, none⟩) N N) (.slice a N c) L HLL.out _ (HLA.out.later (below_regrown _ _ _)) (HLO.out.later (below_regrown _ _ _))))
        | (go_at_call 6; exact Calls.regrown_of (KN.out _))))
      refine wpQuiet_nil ?_
      intro w7 hw7
      have HB7 := hidden (bthen HB.out (rg_below hw7))
      clear hw7 u0 u1 u2 lg qx lx q0 p0
      go_wp2
      go_ret
      exact ⟨rfl, bthen HB2.out HB7.out⟩
end
end Go.Proofs.Ytgclabboafdheab.LawPortLast
