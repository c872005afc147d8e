/- The walk of the statement SchedOnce: the call returns true, and makes at most new memory; conditions: the table and the row lie where they say, lengths and numbers fit int. -/
import Derived.Test.YtcfakhfipdjnmaaBd
import Derived.Test.YtcfakhfipdjnmaaBe
import Derived.Test.YtcfakhfipdjnmaaBf
namespace Go.Proofs.Ytcfakhfipdjnmaa.LawSchedOnce
open Go.ChangeShapes Go.WideShapes Go.ChangeAt Go.RowKit
set_option linter.unusedVariables false
attribute [local go_sem] cell_rg

set_option maxHeartbeats 4000000 in
theorem asked (n f d p r dr o sl md fr : Int) (ad : Option Addr) (cap : Nat) (zs : List Int) (node : Int) (lad : Option Addr) (lcap : Nat) (ls : List Int) (w : World) (hl : zs.length ≤ 9223372036854775807) (hT : Tab w ad zs) (hll : ls.length ≤ 9223372036854775807) (hTl : Tab w lad ls) (hR : rightE n f d p r dr o sl md fr zs = 0) :
    Calls Try.prog 6 #[.agg #[.int .i64 n, .int .i64 f, .int .i64 d, .int .i64 p, .int .i64 r, .int .i64 dr, .int .i64 o, .int .i64 sl, .int .i64 md, .int .i64 fr, .slice ad zs.length cap], .int .i64 node, .slice lad ls.length lcap] w fun e w' => e = .returned (.bool true) ∧ Below w.heap.size w w' := by
  obtain ⟨hE, hF⟩ := rightE_ok hR
  have HT := hidden (hT.below (ballc w (.cells #[.int .i64 n, .int .i64 f, .int .i64 d, .int .i64 p, .int .i64 r, .int .i64 dr, .int .i64 o, .int .i64 sl, .int .i64 md, .int .i64 fr, .slice ad zs.length cap] 24)))
  have HTl := hidden (hTl.below (ballc w (.cells #[.int .i64 n, .int .i64 f, .int .i64 d, .int .i64 p, .int .i64 r, .int .i64 dr, .int .i64 o, .int .i64 sl, .int .i64 md, .int .i64 fr, .slice ad zs.length cap] 24)))
  have HP := hidden (RRight_any n f d p r dr o sl md fr ad cap zs (w.alloc (.cells #[.int .i64 n, .int .i64 f, .int .i64 d, .int .i64 p, .int .i64 r, .int .i64 dr, .int .i64 o, .int .i64 sl, .int .i64 md, .int .i64 fr, .slice ad zs.length cap] 24)) hl HT.out)
  rw [hR] at HP
  obtain ⟨F0, F1, F2⟩ := rightF_ok hF
  obtain ⟨M1, M2⟩ := lastE_bd hE
  obtain ⟨_, _, _, _, _, d1, d2, _, p2, r1, r2, dr1, dr2, o1, o2, sl1, sl2, _, _, _, _, z1, z2, _⟩ := plainE_ok hE
  have p1 := plainE_p hE
  have g0 : 0 ≤ d * r := Int.mul_nonneg (by omega) (by omega)
  have g3 : r + dr ≤ guardF d r dr (lastE o sl zs) := by
    have h1 := guardF_bd d1 d2 r1 r2 dr1 dr2 M1 M2
    have h2 : 1 * dr ≤ (d + 1) * dr := Int.mul_le_mul_of_nonneg_right (by omega) dr1
    unfold guardF; omega
  have hso := ownL_sorted zs node zs.length
  have hlen := ownL_len zs node zs.length
  have hin : ∀ k ∈ ownL zs node zs.length, k < zs.length := fun k hk => (ownL_mem.1 hk).1
  have hm0 : ∀ k ∈ ownL zs node zs.length, 0 ≤ midE o sl (k : Int) := fun k hk => by
    have := hin k hk
    exact (midE_bd (by omega) (by omega) o1 o2 sl1 sl2).1
  have hmM : ∀ k ∈ ownL zs node zs.length, midE o sl (k : Int) ≤ lastE o sl zs := fun k hk => mid_end (by have := hin k hk; omega) sl1
  have HO := hidden (fun V h => rOwned_any n f d p r dr o sl md fr ad cap zs node V hl h)
  have HDu := hidden (fun x t V hx ht h => Due_any n f d p r dr o sl md fr ad cap zs node x t V hx ht hl h)
  rw [hE] at HO HDu
  rw [ownedF_ok] at HO
  have HDf : Hid (∀ x t, dueF 0 o sl r dr zs node x t = firstF (dueB o sl r dr x t) (ownL zs node zs.length)) := fun x t => by unfold dueF; rw [ownedF_ok]
  have HU := hidden (fun (t : Nat) v (ht : t ≤ 1000) h => units_any n f d p r dr o sl md fr ad cap zs lad lcap ls t v r1 r2 dr1 dr2 ht hll h)
  have HI := hidden (fun t ht => clk_in dr1 (show 0 ≤ r - dr by omega) (show r + dr ≤ 128 by omega) ls t ht)
  have HJ := hidden (fun t => unitE_bd (r := r) dr1 ls t)
  have HQ := hidden (fun t => clockE_bd (r := r) dr1 ls t)
  generalize ownL zs node zs.length = L at *
  have HSt := hidden (Sent.start (o := o) (sl := sl) (r := r) (dr := dr) hm0 (by omega))
  have HAll := hidden (fun n s e (h : Sent o sl r dr L n s e) => h.all (M := lastE o sl zs) (p := p) hmM (by omega))
  have HLa := hidden (fun n s e u (h : Sent o sl r dr L n s e) => h.later (u := u))
  have HGo := hidden (fun n s t e (h : Sent o sl r dr L n s e) hl => h.goes (t := t) hso hl sl1 (by omega) (by omega))
  have HHit := hidden (fun n s e (h : Sent o sl r dr L n s e) hl => h.hit hso hl)
  have HWa := hidden (fun n s e (h : Sent o sl r dr L n s e) => h.wait hso sl1)
  have HIn := hidden hin
  clear hE hF hR hT hTl F0 F1 F2 M1 M2 g3 g0 hso hm0 hmM hin
  generalize lastE o sl zs = MM at *
  go_enter Try.func6, Try.ntmps6
  go_wp2_with fail
  refine HP.out.mono ?_
  rintro e w2 ⟨rfl, hb2⟩
  have HB2 := hidden hb2
  clear hb2
  obtain ⟨hbox, hsz⟩ := box_at HB2.out
  go_wp2_with fail
  refine (HO.out _ (HT.out.below HB2.out)).mono ?_
  rintro e w3 ⟨v, rfl, hown, hb3⟩
  obtain ⟨al, cl, rfl⟩ := own_slice hown
  have HL := hidden (Kind.Lies.of_own (K := kInt) (es := nums L) (by rw [nums_len]; exact hown))
  have HB3 := hidden (bthen HB2.out hb3)
  clear hb3 hbox hsz hown
  go_wp2
  go_loopw [8, 9, 10, 11, 12] (fun sv nv ev tv kv wl => ∃ (T n : Nat) (s : ByteArray), (T : Int) ≤ p ∧ sv = .string s ∧ nv = .int .i64 (n : Int) ∧ ev = .int .i64 (clockE r dr ls T) ∧ tv = .int .i64 (T : Int) ∧ s.size ≤ 60 ∧ Sent o sl r dr L n s (clockE r dr ls T) ∧ (T = 0 ∨ ∀ k ∈ L.drop n, ((T : Int) - 1) * (r - dr) < midE o sl (k : Int)) ∧ Below w3.heap.size w3 wl) (fun _ _ _ tv _ _ => (p - intV tv).toNat)
  case atStart => exact ⟨0, 0, ⟨#[]⟩, by omega, rfl, rfl, rfl, rfl, by decide, HSt.out, .inl rfl, Below.refl _ _⟩
  case round =>
    obtain ⟨T, n9, s, hTp, rfl, rfl, rfl, rfl, hs, hS, hlast, hbl⟩ := hrel
    have HBl := hidden (bthen HB3.out hbl)
    have HBw := hidden hbl
    have HSn := hidden hS
    have HLs := hidden hlast
    clear hbl hS hlast
    obtain ⟨hbox, hsz⟩ := box_at HBl.out
    have hT1 : T ≤ 1000 := by omega
    have hn9 := HSn.out.le
    obtain ⟨a0, a1⟩ := HI.out T hT1
    obtain ⟨b0, b1⟩ := HI.out T hT1
    obtain ⟨v0, v1⟩ := HJ.out T
    have HSl : Hid (clockE r dr ls (T + 1) = clockE r dr ls T + unitE r dr ls T) := rfl
    by_cases hlt : (T : Int) < p
    · have HQl := hidden (fun v h => HU.out T v hT1 h)
      have HBd := hidden ((HQ.out T).1)
      have HGe := hidden (HGo.out n9 s)
      have HHt := hidden (HHit.out n9 s _ HSn.out)
      have HWt := hidden (HWa.out n9 s _ HSn.out)
      generalize clockE r dr ls T = e1 at *
      generalize unitE r dr ls T = u1 at *
      have HD1 := hidden (fun V h => HDu.out e1 s V (by omega) (by omega) h)
      have HNx : Hid (((T + 1 : Nat) : Int) - 1 = (T : Int)) := by show _ = _; omega
      by_cases hit : ∃ h : n9 < L.length, midE o sl ((L[n9] : Nat) : Int) ≤ e1
      · obtain ⟨hn, hm⟩ := hit
        have hD := HHt.out hn hm
        have HD2 := hidden (fun V h => Calls.ret_to (HD1.out V h) (val_i (b := ((L[n9] : Nat) : Int)) ((HDf.out e1 s).trans hD)))
        have hx : L[n9] < zs.length := HIn.out _ (List.getElem_mem hn)
        have HMk := hidden (fun V => marks_any s L[n9] V hs (by omega))
        have HGx := hidden (fun t ht => HGe.out t e1 HSn.out hn ht)
        obtain ⟨b, off, rfl, hbl0, e0⟩ := kInt_at (show kInt.Lies w3.heap.size w3 (.slice al L.length cl) (nums L) from HL.out) n9 (by rw [nums_len]; exact hn)
        rw [nums_get L n9 hn] at e0
        have f0 := (HBw.out.cell (p := ⟨b, off + n9, none⟩) hbl0).trans e0
        have HF0 := hidden f0
        have HBL := hidden hbl0
        generalize L[n9] = x at *
        clear hD HHt HWt HD1 HGe e0 hbl0 f0 hx
        have i0 : decide ((L.length : Int) ≤ (n9 : Int)) = false := decide_eq_false (by omega)
        have i1 : (0 : Int) ≤ (n9 : Int) := by omega
        have i2 : (n9 : Int) < (L.length : Int) := by omega
        have j0 : ((x : Int) != (x : Int)) = false := by simp
        go_wp2_with fail
        refine (HD2.out _ (HT.out.below HBl.out)).mono ?_
        rintro e w4 ⟨rfl, hb4⟩
        have HB4 := hidden (bthen HBl.out hb4)
        have HC4 := hidden (bthen HBw.out hb4)
        clear hb4 hbox hsz
        obtain ⟨hbox, hsz⟩ := box_at HB4.out
        have f0 := (HC4.out.cell (p := ⟨b, off + n9, none⟩) HBL.out).trans ((HBw.out.cell (p := ⟨b, off + n9, none⟩) HBL.out).symm.trans HF0.out)
        go_wp2_with fail
        refine (HMk.out _).mono ?_
        rintro e w5 ⟨t, rfl, htz, htm, hb5⟩
        have HB5 := hidden (bthen HB4.out hb5)
        have HC5 := hidden (bthen HC4.out hb5)
        obtain ⟨hS2, hk2⟩ := HGx.out t htm
        have hD3 := (HDf.out e1 t).trans (hS2.none hk2)
        have HD3 := hidden (fun V h => Calls.ret_to (HDu.out e1 t V (by omega) (by omega) h) (val_i (b := -1) hD3))
        have HS2 := hidden hS2
        have HK2 := hidden hk2
        clear hb5 hbox hsz hS2 hk2 hD3 htm f0
        obtain ⟨hbox, hsz⟩ := box_at HB5.out
        go_wp2_with fail
        refine (HD3.out _ (HT.out.below HB5.out)).mono ?_
        rintro e w6 ⟨rfl, hb6⟩
        have HB6 := hidden (bthen HB5.out hb6)
        have HC6 := hidden (bthen HC5.out hb6)
        clear hb6 hbox hsz
        obtain ⟨hbox, hsz⟩ := box_at HB6.out
        go_wp2_with fail
        refine (HQl.out _ (HTl.out.below HB6.out)).mono ?_
        rintro e w7 ⟨rfl, hb7⟩
        have HC7 := hidden (bthen HC6.out hb7)
        clear hb7 hbox hsz
        go_wp2
        go_roundw
        case rel => exact ⟨T + 1, n9 + 1, t, by omega, rfl, by go_num, by rw [HSl.out], by go_num, htz, by rw [HSl.out]; exact HLa.out _ _ _ _ HS2.out HK2.out v1, .inr (by rw [HNx.out]; intro k hk; have := HK2.out k hk; have := HBd.out; omega), HC7.out⟩
        case measure => simp [intV]; omega
      · have hk2 := HWt.out (fun h => by
          by_cases c : e1 < midE o sl ((L[n9] : Nat) : Int)
          · exact c
          · exact absurd ⟨h, by omega⟩ hit)
        have hD3 := (HDf.out e1 s).trans (HSn.out.none hk2)
        have HD3 := hidden (fun V h => Calls.ret_to (HD1.out V h) (val_i (b := -1) hD3))
        have HK2 := hidden hk2
        clear hk2 hD3 hit HHt HWt HD1 HGe
        go_wp2_with fail
        refine (HD3.out _ (HT.out.below HBl.out)).mono ?_
        rintro e w4 ⟨rfl, hb4⟩
        have HB4 := hidden (bthen HBl.out hb4)
        have HC4 := hidden (bthen HBw.out hb4)
        clear hb4 hbox hsz
        obtain ⟨hbox, hsz⟩ := box_at HB4.out
        go_wp2_with fail
        refine (HQl.out _ (HTl.out.below HB4.out)).mono ?_
        rintro e w7 ⟨rfl, hb7⟩
        have HC7 := hidden (bthen HC4.out hb7)
        clear hb7 hbox hsz
        go_wp2
        go_roundw
        case rel => exact ⟨T + 1, n9, s, by omega, rfl, rfl, by rw [HSl.out], by go_num, hs, by rw [HSl.out]; exact HLa.out _ _ _ _ HSn.out HK2.out v1, .inr (by rw [HNx.out]; intro k hk; have := HK2.out k hk; have := HBd.out; omega), HC7.out⟩
        case measure => simp [intV]; omega
    · have hTe : (T : Int) = p := by omega
      have hn : n9 = L.length := HAll.out n9 s _ HSn.out (by
        rcases HLs.out with h | h
        · omega
        · rw [hTe] at h; exact h)
      have HN := hidden hn
      clear HGo HHit HWa HAll
      subst hn
      go_wp2_with fail
      refine (known21_any _).mono ?_
      rintro e w4 ⟨rfl, hb4⟩
      have HB4 := hidden (bthen HBl.out hb4)
      clear hb4 hbox hsz
      go_wp2
      go_ret
      exact ⟨rfl, bthen (ballc w _) HB4.out⟩

theorem none_asked (n f d p r dr o sl md fr : Int) (ad : Option Addr) (cap : Nat) (zs : List Int) (node : Int) (lad : Option Addr) (lcap : Nat) (ls : List Int) (w : World) (hl : zs.length ≤ 9223372036854775807) (hT : Tab w ad zs) (h : ¬ rightE n f d p r dr o sl md fr zs = 0) :
    Calls Try.prog 6 #[.agg #[.int .i64 n, .int .i64 f, .int .i64 d, .int .i64 p, .int .i64 r, .int .i64 dr, .int .i64 o, .int .i64 sl, .int .i64 md, .int .i64 fr, .slice ad zs.length cap], .int .i64 node, .slice lad ls.length lcap] w fun e w' => e = .returned (.bool true) ∧ Below w.heap.size w w' := by
  have HP := hidden (RRight_any n f d p r dr o sl md fr ad cap zs (w.alloc (.cells #[.int .i64 n, .int .i64 f, .int .i64 d, .int .i64 p, .int .i64 r, .int .i64 dr, .int .i64 o, .int .i64 sl, .int .i64 md, .int .i64 fr, .slice ad zs.length cap] 24)) hl (hT.below (ballc _ _)))
  clear hT
  generalize rightE n f d p r dr o sl md fr zs = E at *
  go_enter Try.func6, Try.ntmps6
  go_wp2_with fail
  refine HP.out.mono ?_
  rintro e w2 ⟨rfl, hb2⟩
  have HB2 := hidden hb2
  clear hb2
  go_wp2_with fail
  refine (known21_any _).mono ?_
  rintro e w3 ⟨rfl, hb3⟩
  have HB3 := hidden (bthen HB2.out hb3)
  clear hb3
  go_wp2
  go_ret
  exact ⟨rfl, bthen (ballc w _) HB3.out⟩
theorem walk (n f d p r dr o sl md fr : Int) (ad : Option Addr) (cap : Nat) (zs : List Int) (node : Int) (lad : Option Addr) (lcap : Nat) (ls : List Int) (w : World) (hl : zs.length ≤ 9223372036854775807) (hT : Tab w ad zs) (hn : -9223372036854775808 ≤ node ∧ node ≤ 9223372036854775807) (hll : ls.length ≤ 9223372036854775807) (hTl : Tab w lad ls) (hwl : ∀ z ∈ ls, (Lit.int .i64 z).wf = true) :
    Calls Try.prog 6 #[.agg #[.int .i64 n, .int .i64 f, .int .i64 d, .int .i64 p, .int .i64 r, .int .i64 dr, .int .i64 o, .int .i64 sl, .int .i64 md, .int .i64 fr, .slice ad zs.length cap], .int .i64 node, .slice lad ls.length lcap] w fun e w' => e = .returned (.bool true) ∧ Below w.heap.size w w' := by
  by_cases h : rightE n f d p r dr o sl md fr zs = 0
  · exact asked n f d p r dr o sl md fr ad cap zs node lad lcap ls w hl hT hll hTl h
  · exact none_asked n f d p r dr o sl md fr ad cap zs node lad lcap ls w hl hT h
end Go.Proofs.Ytcfakhfipdjnmaa.LawSchedOnce
