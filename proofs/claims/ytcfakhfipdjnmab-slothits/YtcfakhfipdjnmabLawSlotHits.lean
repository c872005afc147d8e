/- The walk of the statement SlotHits: the call returns true, and makes at most new memory; conditions: the table and the rows lie where they say, lengths and numbers fit int. -/
import Derived.Test.YtcfakhfipdjnmabBd
import Derived.Test.YtcfakhfipdjnmabBe
namespace Go.Proofs.Ytcfakhfipdjnmab.LawSlotHits
open Go.ChangeShapes Go.WideShapes Go.ChangeAt Go.RowKit
set_option linter.unusedVariables false
attribute [local go_sem] cell_rg

set_option maxHeartbeats 1000000 in
theorem none_asked (n f d p r dr o sl md fr : Int) (ad : Option Addr) (cap : Nat) (zs : List Int) (s : Int) (a b : Int) (ua : Option Addr) (ca : Nat) (us : List Int) (va : Option Addr) (cb : Nat) (vs : List Int) (w : World) (hl : zs.length ≤ 9223372036854775807) (hT : Tab w ad zs) (h : ¬ (rightE n f d p r dr o sl md fr zs = 0 ∧ 0 ≤ s ∧ s < (zs.length : Int))) :
    Calls Try.prog 4 #[.agg #[.int .i64 n, .int .i64 f, .int .i64 d, .int .i64 p, .int .i64 r, .int .i64 dr, .int .i64 o, .int .i64 sl, .int .i64 md, .int .i64 fr, .slice ad zs.length cap], .int .i64 s, .agg #[.int .i64 a, .int .i64 b, .slice ua us.length ca, .slice va vs.length cb]] w fun e w' => e = .returned (.bool true) ∧ Below w.heap.size w w' := by
  have HP := hidden (RRight_any n f d p r dr o sl md fr ad cap zs ((w.alloc (.cells #[.int .i64 n, .int .i64 f, .int .i64 d, .int .i64 p, .int .i64 r, .int .i64 dr, .int .i64 o, .int .i64 sl, .int .i64 md, .int .i64 fr, .slice ad zs.length cap] 24)).alloc (.cells #[.int .i64 a, .int .i64 b, .slice ua us.length ca, .slice va vs.length cb] 35)) hl (hT.below (Joins.below_alloc2 _ _ _)))
  clear hT
  generalize rightE n f d p r dr o sl md fr zs = E at *
  by_cases hE : E = 0
  case neg =>
    have e0 : (E != 0) = true := by simp [hE]
    clear h
    go_enter Try.func4, Try.ntmps4
    go_wp2_with fail
    refine HP.out.mono ?_
    rintro e w2 ⟨rfl, hb2⟩
    have HB2 := hidden hb2
    clear hb2
    go_wp2_with fail
    refine (known22_any _).mono ?_
    rintro e w3 ⟨rfl, hb3⟩
    have HB3 := hidden (bthen HB2.out hb3)
    clear hb3
    go_wp2
    go_ret
    exact ⟨rfl, bthen (Joins.below_alloc2 _ _ _) HB3.out⟩
  subst hE
  by_cases h0 : s < 0
  · have e1 : decide (s < 0) = true := decide_eq_true h0
    clear h
    go_enter Try.func4, Try.ntmps4
    go_wp2_with fail
    refine HP.out.mono ?_
    rintro e w2 ⟨rfl, hb2⟩
    have HB2 := hidden hb2
    clear hb2
    go_wp2_with fail
    refine (known22_any _).mono ?_
    rintro e w3 ⟨rfl, hb3⟩
    have HB3 := hidden (bthen HB2.out hb3)
    clear hb3
    go_wp2
    go_ret
    exact ⟨rfl, bthen (Joins.below_alloc2 _ _ _) HB3.out⟩
  · have e1 : decide (s < 0) = false := decide_eq_false h0
    have e2 : decide ((zs.length : Int) ≤ s) = true := decide_eq_true (by omega)
    clear h
    go_enter Try.func4, Try.ntmps4
    go_wp2_with fail
    refine HP.out.mono ?_
    rintro e w2 ⟨rfl, hb2⟩
    have HB2 := hidden hb2
    clear hb2
    obtain ⟨hbox, hbox1, hsz⟩ := box_at2 HB2.out
    have hsz0 := Nat.lt_of_succ_lt hsz
    go_wp2_with fail
    refine (known22_any _).mono ?_
    rintro e w3 ⟨rfl, hb3⟩
    have HB3 := hidden (bthen HB2.out hb3)
    clear hb3
    go_wp2
    go_ret
    exact ⟨rfl, bthen (Joins.below_alloc2 _ _ _) HB3.out⟩

set_option maxHeartbeats 4000000 in
theorem asked (n f d p r dr o sl md fr : Int) (ad : Option Addr) (cap : Nat) (zs : List Int) (k : Nat) (a b : Int) (ua : Option Addr) (ca : Nat) (us : List Int) (va : Option Addr) (cb : Nat) (vs : List Int) (w : World) (hl : zs.length ≤ 9223372036854775807) (hT : Tab w ad zs) (hlu : us.length ≤ 9223372036854775807) (hTu : Tab w ua us) (hlv : vs.length ≤ 9223372036854775807) (hTv : Tab w va vs)
    (hR : rightE n f d p r dr o sl md fr zs = 0) (hk : k < zs.length) :
    Calls Try.prog 4 #[.agg #[.int .i64 n, .int .i64 f, .int .i64 d, .int .i64 p, .int .i64 r, .int .i64 dr, .int .i64 o, .int .i64 sl, .int .i64 md, .int .i64 fr, .slice ad zs.length cap], .int .i64 (k : Int), .agg #[.int .i64 a, .int .i64 b, .slice ua us.length ca, .slice va vs.length cb]] w fun e w' => e = .returned (.bool true) ∧ Below w.heap.size w w' := by
  obtain ⟨hE, hF⟩ := rightE_ok hR
  have HA2 := hidden (Joins.below_alloc2 w (.cells #[.int .i64 n, .int .i64 f, .int .i64 d, .int .i64 p, .int .i64 r, .int .i64 dr, .int .i64 o, .int .i64 sl, .int .i64 md, .int .i64 fr, .slice ad zs.length cap] 24) (.cells #[.int .i64 a, .int .i64 b, .slice ua us.length ca, .slice va vs.length cb] 35))
  have HT := hidden (hT.below HA2.out)
  have HTu := hidden (hTu.below HA2.out)
  have HTv := hidden (hTv.below HA2.out)
  have HP := hidden (RRight_any n f d p r dr o sl md fr ad cap zs ((w.alloc (.cells #[.int .i64 n, .int .i64 f, .int .i64 d, .int .i64 p, .int .i64 r, .int .i64 dr, .int .i64 o, .int .i64 sl, .int .i64 md, .int .i64 fr, .slice ad zs.length cap] 24)).alloc (.cells #[.int .i64 a, .int .i64 b, .slice ua us.length ca, .slice va vs.length cb] 35)) hl HT.out)
  rw [hR] at HP
  obtain ⟨F0, F1, F2⟩ := rightF_ok hF
  obtain ⟨M1, M2⟩ := lastE_bd hE
  obtain ⟨_, _, _, _, _, d1, d2, _, p2, r1, r2, dr1, dr2, o1, o2, sl1, sl2, _, _, _, _, z1, z2, _⟩ := plainE_ok hE
  have p1 := plainE_p hE
  obtain ⟨D, rfl⟩ : ∃ D : Nat, d = (D : Int) := ⟨d.toNat, by omega⟩
  have eD : ((D : Int)).toNat = D := by omega
  obtain ⟨g1, g2⟩ := guardF_in d1 d2 r1 r2 dr1 dr2 M1 M2
  have g3 : r ≤ guardF (D : Int) r dr (lastE o sl zs) := by
    have := guardF_bd d1 d2 r1 r2 dr1 dr2 M1 M2
    unfold guardF; omega
  have mM := mid_endS (o := o) (b := (k : Int)) (zs := zs) (by omega) sl1
  obtain ⟨A1, A2⟩ := midE_bd (s := (k : Int)) (by omega) (by omega) o1 o2 sl1 sl2
  have HM := hidden (fun v h => RMiddle_any n f (D : Int) p r dr o sl md fr ad cap zs (k : Int) v hl h)
  have HW := hidden (fun v h => Window_any n f (D : Int) p r dr o sl md fr ad cap zs (k : Int) v (by omega) hl h)
  have HH := hidden (fun x v h => Hit_any n f (D : Int) p r dr o sl md fr ad cap zs x v hl h)
  rw [hE, slotB_yes (by omega) (by omega)] at HM
  rw [hE] at HW HH
  simp only [placeE_yes] at HM
  rw [win1_in hk, win2_in hk] at HW
  simp only [hitF_ok] at HH
  have HUu := hidden (fun (t : Nat) v (ht : t ≤ 1000) h => units_any n f (D : Int) p r dr o sl md fr ad cap zs ua ca us t v r1 r2 dr1 dr2 ht hlu h)
  have HUv := hidden (fun (t : Nat) v (ht : t ≤ 1000) h => units_any n f (D : Int) p r dr o sl md fr ad cap zs va cb vs t v r1 r2 dr1 dr2 ht hlv h)
  obtain ⟨G, hGG⟩ : ∃ G, G = guardF (D : Int) r dr (lastE o sl zs) := ⟨_, rfl⟩
  rw [← hGG] at HW HH F0 F1 g1 g2 g3
  have HX := hidden (fun (T : Nat) h3 h4 h5 => clocks_meet (p := p) (mine := us) (other := vs) (T := T) d1 r1 dr1 dr2 A1 mM hGG F1 g3 h3 h4 h5)
  have HY := hidden (fun T hT => clocks_reach (p := p) (mine := us) d1 r1 dr1 dr2 mM F1 g3 T hT)
  have HCu := hidden (fun (t : Nat) ht => clock_half (p := p) (r := r) dr1 (by omega) F2 us (t := t) ht)
  have HCv := hidden (fun (t : Nat) ht => clock_half (p := p) (r := r) dr1 (by omega) F2 vs (t := t) ht)
  have HDu := hidden (fun (t : Nat) h0 h1 => ringC_diff (r := r) (dr := dr) (ls := us) (anchor := a) (t := t) h0 h1)
  have HDv := hidden (fun (t : Nat) h0 h1 => ringC_diff (r := r) (dr := dr) (ls := vs) (anchor := b) (t := t) h0 h1)
  have HRu := hidden (ringC_succ r dr us a)
  have HRv := hidden (ringC_succ r dr vs b)
  have HZu := hidden (ringC_zero r dr us a)
  have HZv := hidden (ringC_zero r dr vs b)
  have HO := hidden (fun e h1 h2 => win_only (d := (D : Int)) (r := r) (G := G) (o := o) (sl := sl) (e := e) (m := zs.length) sl1 F0 hk h1 h2)
  have HLo : Hid (winLo (D : Int) r G o sl k = midE o sl (k : Int) + (D : Int) * r - G) := rfl
  have HHi : Hid (winHi (D : Int) r G o sl k = midE o sl (k : Int) + (D : Int) * r + G) := rfl
  obtain ⟨u0, u1⟩ := mul_bd (show 0 ≤ (D : Int) by omega) d2 (show 0 ≤ r by omega) r2
  rw [eD] at HX
  clear hGG hE hF hR hT hTu hTv mM F0 F1 F2 M1 M2 g3 eD
  generalize winLo (D : Int) r G o sl k = low at *
  generalize winHi (D : Int) r G o sl k = hiw at *
  generalize midE o sl (k : Int) = m at *
  have n1 : decide ((k : Int) < 0) = false := decide_eq_false (by omega)
  have n2 : decide ((zs.length : Int) ≤ (k : Int)) = false := decide_eq_false (by omega)
  go_enter Try.func4, Try.ntmps4
  go_wp2_with fail
  refine HP.out.mono ?_
  rintro e w2 ⟨rfl, hb2⟩
  have HB2 := hidden hb2
  clear hb2
  obtain ⟨hbox, hbox1, hsz⟩ := box_at2 HB2.out
  have hsz0 := Nat.lt_of_succ_lt hsz
  go_wp2
  refine wp_region_quiet_below (by kernel_rfl) (by kernel_rfl) ?_
  repeat (go_big_quiet_step (fail))
  refine wpQuiet_nil ?_
  intro w3 hw3
  have HB3 := hidden (bthen HB2.out (rg_below hw3))
  clear hw3 hbox hbox1 hsz hsz0
  go_wp2
  go_loopw [7, 8, 9] (fun av bv tv wl => ∃ T : Nat, (T : Int) ≤ p ∧ av = .int .i64 (ringC r dr us a T) ∧ bv = .int .i64 (ringC r dr vs b T) ∧ tv = .int .i64 (T : Int) ∧ (∀ t, t < T → clockE r dr us t < m) ∧ Below ((w.alloc (.cells #[.int .i64 n, .int .i64 f, .int .i64 (D : Int), .int .i64 p, .int .i64 r, .int .i64 dr, .int .i64 o, .int .i64 sl, .int .i64 md, .int .i64 fr, .slice ad zs.length cap] 24)).alloc (.cells #[.int .i64 a, .int .i64 b, .slice ua us.length ca, .slice va vs.length cb] 35)).heap.size ((w.alloc (.cells #[.int .i64 n, .int .i64 f, .int .i64 (D : Int), .int .i64 p, .int .i64 r, .int .i64 dr, .int .i64 o, .int .i64 sl, .int .i64 md, .int .i64 fr, .slice ad zs.length cap] 24)).alloc (.cells #[.int .i64 a, .int .i64 b, .slice ua us.length ca, .slice va vs.length cb] 35)) wl) (fun _ _ tv _ => (p - intV tv).toNat)
  case atStart => exact ⟨0, by omega, by rw [HZu.out], by rw [HZv.out], rfl, fun t ht => absurd ht (Nat.not_lt_zero _), HB3.out⟩
  case round =>
    obtain ⟨T, hTp, rfl, rfl, rfl, hbef, hbl⟩ := hrel
    have HBef := hidden hbef
    have HBl := hidden hbl
    have HTk := hidden (HT.out.below hbl)
    have HTuk := hidden (HTu.out.below hbl)
    have HTvk := hidden (HTv.out.below hbl)
    clear hbef hbl
    obtain ⟨hbox, hbox1, hsz⟩ := box_at2 HBl.out
    have hsz0 := Nat.lt_of_succ_lt hsz
    obtain ⟨x0, x1⟩ := HCu.out T hTp
    have HEl := hidden (fun V => Calls.ret_to (Calls.to_below (Elapsed_any (ringC r dr us a T) a V)) (val_i (HDu.out T x0 (by omega))))
    by_cases c0 : clockE r dr us T < m
    · have HBef1 : Hid (∀ t, t < T + 1 → clockE r dr us t < m) := fun t ht => by
        by_cases e : t = T
        · subst e; exact c0
        · exact HBef.out t (by omega)
      have c1 : (T : Int) < p := by
        rcases (by omega : (T : Int) < p ∨ (T : Int) = p) with h | h
        · exact h
        · exact absurd (HY.out T h) (by omega)
      have j1 : decide ((T : Int) < p) = true := decide_eq_true c1
      have j2 : decide (clockE r dr us T < m) = true := decide_eq_true c0
      have hT1 : T ≤ 1000 := by omega
      have HQu := hidden (fun V h => HUu.out T V hT1 h)
      have HQv := hidden (fun V h => HUv.out T V hT1 h)
      have HAu := hidden (fun V => Calls.to_below (rAdd_any (ringC r dr us a T) (unitE r dr us T) V))
      have HAv := hidden (fun V => Calls.to_below (rAdd_any (ringC r dr vs b T) (unitE r dr vs T) V))
      rw [← HRu.out T] at HAu
      rw [← HRv.out T] at HAv
      generalize hc1 : ringC r dr us a (T + 1) = a1 at *
      generalize hc2 : ringC r dr vs b (T + 1) = b1 at *
      generalize ringC r dr us a T = a0 at *
      generalize ringC r dr vs b T = b0 at *
      generalize clockE r dr us T = A at *
      generalize unitE r dr us T = U at *
      generalize unitE r dr vs T = V at *
      have HC1 := hidden hc1
      have HC2 := hidden hc2
      clear hc1 hc2 x0 x1
      go_wp2
      refine wp_region_quiet_below (by kernel_rfl) (by kernel_rfl) ?_
      repeat (go_big_quiet_step (first
        | (go_at_call 12; exact Calls.regrown_of (HEl.out _))
        | (go_at_call 13; exact Calls.regrown_of (HM.out _ (HTk.out.below (below_regrown _ _ _))))))
      refine wpQuiet_nil ?_
      intro w4 hw4
      have HB4 := hidden (bthen HBl.out (rg_below hw4))
      have HTu4 := hidden (HTuk.out.below (rg_below hw4))
      have HTv4 := hidden (HTvk.out.below (rg_below hw4))
      clear hw4 hbox hbox1 hsz hsz0
      obtain ⟨hbox, hbox1, hsz⟩ := box_at2 HB4.out
      have hsz0 := Nat.lt_of_succ_lt hsz
      go_wp2
      refine wp_region_quiet_below (by kernel_rfl) (by kernel_rfl) ?_
      repeat (go_big_quiet_step (fail))
      go_big_quiet_step ((go_at_call 8; exact Calls.regrown_of (HQu.out _ (HTu4.out.below (below_regrown _ _ _)))))
      repeat (go_big_quiet_step (fail))
      go_big_quiet_step ((go_at_call 7; exact Calls.regrown_of (HAu.out _)))
      repeat (go_big_quiet_step (fail))
      go_big_quiet_step ((go_at_call 8; exact Calls.regrown_of (HQv.out _ (HTv4.out.below (below_regrown _ _ _)))))
      repeat (go_big_quiet_step (fail))
      go_big_quiet_step ((go_at_call 7; exact Calls.regrown_of (HAv.out _)))
      repeat (go_big_quiet_step (fail))
      refine wpQuiet_nil ?_
      intro w5 hw5
      have HB5 := hidden (bthen HB4.out (rg_below hw5))
      clear hw5 hbox hbox1 hsz hsz0
      go_wp2
      go_roundw
      case rel => exact ⟨T + 1, by omega, by rw [HC1.out], by rw [HC2.out], by go_num, HBef1.out, HB5.out⟩
      case measure => simp [intV]; omega
    · have hmA : m ≤ clockE r dr us T := by omega
      obtain ⟨y0, y1, y2⟩ := HX.out T HBef.out hmA hTp
      have HY1 := hidden y1
      have HY2 := hidden y2
      have j1 : decide ((T : Int) < p) = true := decide_eq_true (by omega)
      have j2 : decide (clockE r dr us T < m) = false := decide_eq_false c0
      clear y1 y2 HBef HX HY HUu HCu HDu HRu HZu HZv
      generalize clockE r dr us T = A at *
      generalize ringC r dr us a T = a0 at *
      go_wp2
      refine wp_region_quiet_below (by kernel_rfl) (by kernel_rfl) ?_
      repeat (go_big_quiet_step (first
        | (go_at_call 12; exact Calls.regrown_of (HEl.out _))
        | (go_at_call 13; exact Calls.regrown_of (HM.out _ (HTk.out.below (below_regrown _ _ _))))))
      refine wpQuiet_nil ?_
      intro w4 hw4
      have HB4 := hidden (bthen HBl.out (rg_below hw4))
      clear hw4 hbox hbox1 hsz hsz0 HBl HTk HTuk HTvk
      go_wp2
      go_loopw [8, 9, 10] (fun bv tv iv wl => ∃ i : Nat, i ≤ D ∧ bv = .int .i64 (ringC r dr vs b (T + i)) ∧ tv = .int .i64 ((T + i : Nat) : Int) ∧ iv = .int .i64 (i : Int) ∧ Below ((w.alloc (.cells #[.int .i64 n, .int .i64 f, .int .i64 (D : Int), .int .i64 p, .int .i64 r, .int .i64 dr, .int .i64 o, .int .i64 sl, .int .i64 md, .int .i64 fr, .slice ad zs.length cap] 24)).alloc (.cells #[.int .i64 a, .int .i64 b, .slice ua us.length ca, .slice va vs.length cb] 35)).heap.size ((w.alloc (.cells #[.int .i64 n, .int .i64 f, .int .i64 (D : Int), .int .i64 p, .int .i64 r, .int .i64 dr, .int .i64 o, .int .i64 sl, .int .i64 md, .int .i64 fr, .slice ad zs.length cap] 24)).alloc (.cells #[.int .i64 a, .int .i64 b, .slice ua us.length ca, .slice va vs.length cb] 35)) wl) (fun _ _ iv _ => D - (intV iv).toNat)
      case atStart => exact ⟨0, Nat.zero_le _, rfl, rfl, rfl, HB4.out⟩
      case round =>
        obtain ⟨i, hi, rfl, rfl, rfl, hbl⟩ := hrel
        have HBm := hidden hbl
        have HTm := hidden (HT.out.below hbl)
        have HTvm := hidden (HTv.out.below hbl)
        clear hbl
        obtain ⟨hbox, hbox1, hsz⟩ := box_at2 HBm.out
        have hsz0 := Nat.lt_of_succ_lt hsz
        have hT2 : T + i ≤ 1000 := by omega
        by_cases hiD : i < D
        · have HQv := hidden (HUv.out (T + i) _ hT2 HTvm.out)
          have HAv := hidden (fun V => Calls.to_below (rAdd_any (ringC r dr vs b (T + i)) (unitE r dr vs (T + i)) V))
          rw [← HRv.out (T + i)] at HAv
          have i2 : (i : Int) < (D : Int) := by omega
          generalize hc2 : ringC r dr vs b (T + i + 1) = b1 at *
          have HC2 := hidden (show ringC r dr vs b (T + (i + 1)) = b1 from hc2)
          generalize ringC r dr vs b (T + i) = b0 at *
          generalize unitE r dr vs (T + i) = V at *
          generalize hti : T + i = ti at *
          have HTI := hidden hti
          clear hti hc2
          go_wp2_with fail
          refine HQv.out.mono ?_
          rintro e w5 ⟨rfl, hb5⟩
          have HB5 := hidden (bthen HBm.out hb5)
          clear hb5 hbox hbox1 hsz hsz0
          go_wp2_with fail
          refine (HAv.out _).mono ?_
          rintro e w6 ⟨rfl, hb6⟩
          have HB6 := hidden (bthen HB5.out hb6)
          clear hb6
          go_wp2
          go_roundw
          case rel => exact ⟨i + 1, by omega, by rw [HC2.out], by rw [show T + (i + 1) = ti + 1 by have := HTI.out; omega]; go_num, by go_num, HB6.out⟩
          case measure => simp [intV]; omega
        · obtain rfl : i = D := by omega
          have i2 : ¬ (i : Int) < (i : Int) := by omega
          have hTd : ((T + i : Nat) : Int) < p := by omega
          obtain ⟨x2, x3⟩ := HCv.out (T + i) (by omega)
          have HEv := hidden (fun V => Calls.ret_to (Calls.to_below (Elapsed_any (ringC r dr vs b (T + i)) b V)) (val_i (HDv.out (T + i) x2 (by omega))))
          have hy1 := HY1.out
          have hy2 := HY2.out
          have hlo := HLo.out
          have hhi := HHi.out
          generalize clockE r dr vs (T + i) = B at *
          generalize ringC r dr vs b (T + i) = b0 at *
          have g1 : low ≤ B := by rw [hlo]; omega
          have g2' : B ≤ hiw := by rw [hhi]; omega
          have HHt := hidden (fun V h => Calls.ret_to (HH.out B V h) (val_i (HO.out B g1 g2')))
          have k1 : decide (((T + i : Nat) : Int) < p) = true := decide_eq_true hTd
          have k2 : decide (low ≤ B) = true := decide_eq_true g1
          have k3 : decide (B ≤ hiw) = true := decide_eq_true g2'
          have k4 : ((k : Int) == (k : Int)) = true := by simp
          clear HO HH hy1 hy2 hlo hhi HY1 HY2 HLo HHi HUv HCv HDv HRv
          generalize ((T + i : Nat) : Int) = tt at *
          go_wp2_with fail
          refine (HW.out _ HTm.out).mono ?_
          rintro e w5 ⟨rfl, hb5⟩
          have HB5 := hidden (bthen HBm.out hb5)
          have HT5 := hidden (HTm.out.below hb5)
          clear hb5 hbox hbox1 hsz hsz0
          obtain ⟨hbox, hbox1, hsz⟩ := box_at2 HB5.out
          have hsz0 := Nat.lt_of_succ_lt hsz
          go_wp2_with fail
          refine (HEv.out _).mono ?_
          rintro e w6 ⟨rfl, hb6⟩
          have HB6 := hidden (bthen HB5.out hb6)
          have HT6 := hidden (HT5.out.below hb6)
          clear hb6 hbox hbox1 hsz hsz0
          obtain ⟨hbox, hbox1, hsz⟩ := box_at2 HB6.out
          have hsz0 := Nat.lt_of_succ_lt hsz
          go_wp2_with fail
          refine (HHt.out _ HT6.out).mono ?_
          rintro e w7 ⟨rfl, hb7⟩
          have HB7 := hidden (bthen HB6.out hb7)
          clear hb7 hbox hbox1 hsz hsz0
          go_wp2_with fail
          refine (known22_any _).mono ?_
          rintro e w8 ⟨rfl, hb8⟩
          have HB8 := hidden (bthen HB7.out hb8)
          clear hb8
          go_wp2
          go_ret
          exact ⟨rfl, bthen HA2.out HB8.out⟩
theorem walk (n f d p r dr o sl md fr : Int) (ad : Option Addr) (cap : Nat) (zs : List Int) (s : Int) (a b : Int) (ua : Option Addr) (ca : Nat) (us : List Int) (va : Option Addr) (cb : Nat) (vs : List Int) (w : World) (hl : zs.length ≤ 9223372036854775807) (hT : Tab w ad zs) (hs : -9223372036854775808 ≤ s ∧ s ≤ 9223372036854775807) (ha : -9223372036854775808 ≤ a ∧ a ≤ 9223372036854775807) (hb : -9223372036854775808 ≤ b ∧ b ≤ 9223372036854775807) (hu : us.length ≤ 9223372036854775807 ∧ Tab w ua us) (hv : vs.length ≤ 9223372036854775807 ∧ Tab w va vs) :
    Calls Try.prog 4 #[.agg #[.int .i64 n, .int .i64 f, .int .i64 d, .int .i64 p, .int .i64 r, .int .i64 dr, .int .i64 o, .int .i64 sl, .int .i64 md, .int .i64 fr, .slice ad zs.length cap], .int .i64 s, .agg #[.int .i64 a, .int .i64 b, .slice ua us.length ca, .slice va vs.length cb]] w fun e w' => e = .returned (.bool true) ∧ Below w.heap.size w w' := by
  by_cases h : rightE n f d p r dr o sl md fr zs = 0 ∧ 0 ≤ s ∧ s < (zs.length : Int)
  · obtain ⟨k, rfl⟩ := Int.eq_ofNat_of_zero_le h.2.1
    exact asked n f d p r dr o sl md fr ad cap zs k a b ua ca us va cb vs w hl hT hu.1 hu.2 hv.1 hv.2 h.1 (by omega)
  · exact none_asked n f d p r dr o sl md fr ad cap zs s a b ua ca us va cb vs w hl hT h
end Go.Proofs.Ytcfakhfipdjnmab.LawSlotHits
