/- The walk of the statement SlotAgrees: the call returns true, and makes at most new memory; conditions: the table and the row lie where they say, lengths and numbers fit int. -/
import Derived.Test.YtcfakhfipdjnmabBd
import Derived.Test.YtcfakhfipdjnmabBe
namespace Go.Proofs.Ytcfakhfipdjnmab.LawSlotAgrees
open Go.ChangeShapes Go.WideShapes Go.ChangeAt Go.RowKit
set_option linter.unusedVariables false
attribute [local go_sem] cell_rg

set_option maxHeartbeats 1000000 in
theorem none_asked (n f d p r dr o sl md fr : Int) (ad : Option Addr) (cap : Nat) (zs : List Int) (a : Int) (lad : Option Addr) (lcap : Nat) (ls : List Int) (t : Int) (w : World) (hl : zs.length ≤ 9223372036854775807) (hT : Tab w ad zs) (h : ¬ (rightE n f d p r dr o sl md fr zs = 0 ∧ 0 ≤ t ∧ t < p)) :
    Calls Try.prog 3 #[.agg #[.int .i64 n, .int .i64 f, .int .i64 d, .int .i64 p, .int .i64 r, .int .i64 dr, .int .i64 o, .int .i64 sl, .int .i64 md, .int .i64 fr, .slice ad zs.length cap], .int .i64 a, .slice lad ls.length lcap, .int .i64 t] w fun e w' => e = .returned (.bool true) ∧ Below w.heap.size w w' := by
  have HP := hidden (RRight_any n f d p r dr o sl md fr ad cap zs (w.alloc (.cells #[.int .i64 n, .int .i64 f, .int .i64 d, .int .i64 p, .int .i64 r, .int .i64 dr, .int .i64 o, .int .i64 sl, .int .i64 md, .int .i64 fr, .slice ad zs.length cap] 24)) hl (hT.below (ballc _ _)))
  clear hT
  generalize rightE n f d p r dr o sl md fr zs = E at *
  by_cases hE : E = 0
  case neg =>
    have e0 : (E != 0) = true := by simp [hE]
    clear h
    go_enter Try.func3, Try.ntmps3
    go_wp2_with fail
    refine HP.out.mono ?_
    rintro e w2 ⟨rfl, hb2⟩
    have HB2 := hidden hb2
    clear hb2
    go_wp2_with fail
    refine (known22_any _).mono ?_
    rintro e w3 ⟨rfl, hb3⟩
    have HB3 := hidden (bthen HB2.out hb3)
    clear hb3
    go_wp2
    go_ret
    exact ⟨rfl, bthen (ballc w _) HB3.out⟩
  subst hE
  by_cases h0 : t < 0
  · have e1 : decide (t < 0) = true := decide_eq_true h0
    clear h
    go_enter Try.func3, Try.ntmps3
    go_wp2_with fail
    refine HP.out.mono ?_
    rintro e w2 ⟨rfl, hb2⟩
    have HB2 := hidden hb2
    clear hb2
    go_wp2_with fail
    refine (known22_any _).mono ?_
    rintro e w3 ⟨rfl, hb3⟩
    have HB3 := hidden (bthen HB2.out hb3)
    clear hb3
    go_wp2
    go_ret
    exact ⟨rfl, bthen (ballc w _) HB3.out⟩
  · have e1 : decide (t < 0) = false := decide_eq_false h0
    have e2 : decide (p ≤ t) = true := decide_eq_true (by omega)
    clear h
    go_enter Try.func3, Try.ntmps3
    go_wp2_with fail
    refine HP.out.mono ?_
    rintro e w2 ⟨rfl, hb2⟩
    have HB2 := hidden hb2
    clear hb2
    obtain ⟨hbox, hsz⟩ := box_at HB2.out
    go_wp2_with fail
    refine (known22_any _).mono ?_
    rintro e w3 ⟨rfl, hb3⟩
    have HB3 := hidden (bthen HB2.out hb3)
    clear hb3
    go_wp2
    go_ret
    exact ⟨rfl, bthen (ballc w _) HB3.out⟩

set_option maxHeartbeats 4000000 in
theorem asked (n f d p r dr o sl md fr : Int) (ad : Option Addr) (cap : Nat) (zs : List Int) (a : Int) (lad : Option Addr) (lcap : Nat) (ls : List Int) (t : Int) (w : World) (hl : zs.length ≤ 9223372036854775807) (hT : Tab w ad zs) (ha : -9223372036854775808 ≤ a ∧ a ≤ 9223372036854775807) (hll : ls.length ≤ 9223372036854775807) (hTl : Tab w lad ls) (hR : rightE n f d p r dr o sl md fr zs = 0) (t0 : 0 ≤ t) (t1 : t < p) :
    Calls Try.prog 3 #[.agg #[.int .i64 n, .int .i64 f, .int .i64 d, .int .i64 p, .int .i64 r, .int .i64 dr, .int .i64 o, .int .i64 sl, .int .i64 md, .int .i64 fr, .slice ad zs.length cap], .int .i64 a, .slice lad ls.length lcap, .int .i64 t] w fun e w' => e = .returned (.bool true) ∧ Below w.heap.size w w' := by
  obtain ⟨hE, hF⟩ := rightE_ok hR
  have HT := hidden (hT.below (ballc w (.cells #[.int .i64 n, .int .i64 f, .int .i64 d, .int .i64 p, .int .i64 r, .int .i64 dr, .int .i64 o, .int .i64 sl, .int .i64 md, .int .i64 fr, .slice ad zs.length cap] 24)))
  have HTl := hidden (hTl.below (ballc w (.cells #[.int .i64 n, .int .i64 f, .int .i64 d, .int .i64 p, .int .i64 r, .int .i64 dr, .int .i64 o, .int .i64 sl, .int .i64 md, .int .i64 fr, .slice ad zs.length cap] 24)))
  have HP := hidden (RRight_any n f d p r dr o sl md fr ad cap zs (w.alloc (.cells #[.int .i64 n, .int .i64 f, .int .i64 d, .int .i64 p, .int .i64 r, .int .i64 dr, .int .i64 o, .int .i64 sl, .int .i64 md, .int .i64 fr, .slice ad zs.length cap] 24)) hl HT.out)
  rw [hR] at HP
  obtain ⟨F0, F1, F2⟩ := rightF_ok hF
  obtain ⟨_, _, _, _, _, d1, d2, _, p2, r1, r2, dr1, dr2, o1, o2, sl1, sl2, _, _, _, _, z1, z2, _⟩ := plainE_ok hE
  obtain ⟨K, rfl⟩ := Int.eq_ofNat_of_zero_le t0
  have HU := hidden (fun (t : Nat) v (ht : t ≤ 1000) h => units_any n f d p r dr o sl md fr ad cap zs lad lcap ls t v r1 r2 dr1 dr2 ht hll h)
  have HC := hidden (fun V h => Clear_any n f d p r dr o sl md fr ad cap zs (K : Int) V hl h)
  have HN := hidden (fun V h => Now_any n f d p r dr o sl md fr ad cap zs (ringC r dr ls a K) a V hl h)
  have HM := hidden (fun V h => Nominal_any n f d p r dr o sl md fr ad cap zs (K : Int) V hl h)
  rw [hE] at HC HN HM
  obtain ⟨q0, q1⟩ := mul_bd (show 0 ≤ (K : Int) by omega) (show (K : Int) ≤ 2000 by omega) (show 0 ≤ r by omega) r2
  have hw : wrap64 ((K : Int) * r) = (K : Int) * r := by unfold wrap64; omega
  have hcl := clock_half (p := p) (r := r) dr1 (by omega) F2 ls (t := K) (by omega)
  have hcb := clockE_bd (r := r) dr1 ls K
  rw [nomF_in (by omega), hw] at HM
  rw [ringC_diff hcl.1 (by omega)] at HN
  have HS := hidden (fun h => clear_same (r := r) (dr := dr) (o := o) (sl := sl) (t := (K : Int)) (e := clockE r dr ls K) (m := zs.length) sl1 o1 (by omega) h hcb.1 hcb.2)
  have HRs := hidden (ringC_succ r dr ls a)
  have HR0 := hidden (ringC_zero r dr ls a)
  generalize clearB 0 r dr o sl zs.length (K : Int) = cb at *
  generalize slotF 0 o sl zs.length (clockE r dr ls K) = x at *
  generalize slotF 0 o sl zs.length ((K : Int) * r) = y at *
  have e1 : decide ((K : Int) < 0) = false := decide_eq_false (by omega)
  have e2 : decide (p ≤ (K : Int)) = false := decide_eq_false (by omega)
  clear hE hF hR hT hTl F0 F1 F2 hw hcl hcb q0 q1
  go_enter Try.func3, Try.ntmps3
  go_wp2_with fail
  refine HP.out.mono ?_
  rintro e w2 ⟨rfl, hb2⟩
  have HB2 := hidden hb2
  clear hb2
  obtain ⟨hbox, hsz⟩ := box_at HB2.out
  go_wp2
  clear hbox hsz
  go_loopw [9, 10] (fun cv tv wl => ∃ T : Nat, T ≤ K ∧ cv = .int .i64 (ringC r dr ls a T) ∧ tv = .int .i64 (T : Int) ∧ Below (w.alloc (.cells #[.int .i64 n, .int .i64 f, .int .i64 d, .int .i64 p, .int .i64 r, .int .i64 dr, .int .i64 o, .int .i64 sl, .int .i64 md, .int .i64 fr, .slice ad zs.length cap] 24)).heap.size (w.alloc (.cells #[.int .i64 n, .int .i64 f, .int .i64 d, .int .i64 p, .int .i64 r, .int .i64 dr, .int .i64 o, .int .i64 sl, .int .i64 md, .int .i64 fr, .slice ad zs.length cap] 24)) wl) (fun _ tv _ => K - (intV tv).toNat)
  case atStart => exact ⟨0, Nat.zero_le _, by rw [HR0.out], rfl, HB2.out⟩
  case round =>
    obtain ⟨T, hTK, rfl, rfl, hbl⟩ := hrel
    have HBl := hidden hbl
    clear hbl
    obtain ⟨hbox, hsz⟩ := box_at HBl.out
    by_cases hlt : T < K
    · have HQ := hidden (HU.out T _ (by omega) (HTl.out.below HBl.out))
      have HX := hidden (HRs.out T)
      have HA := hidden (fun V => Calls.to_below (rAdd_any (ringC r dr ls a T) (unitE r dr ls T) V))
      generalize unitE r dr ls T = u at *
      generalize ringC r dr ls a T = c0 at *
      rw [← HX.out] at HA
      generalize hc1 : ringC r dr ls a (T + 1) = c1 at *
      have HC1 := hidden hc1
      clear hc1
      have i2 : (T : Int) < (K : Int) := by omega
      go_wp2_with fail
      refine HQ.out.mono ?_
      rintro e w4 ⟨rfl, hb4⟩
      have HB4 := hidden (bthen HBl.out hb4)
      clear hb4 hbox hsz
      go_wp2_with fail
      refine (HA.out _).mono ?_
      rintro e w5 ⟨rfl, hb5⟩
      have HB5 := hidden (bthen HB4.out hb5)
      clear hb5
      go_wp2
      go_roundw
      case rel => exact ⟨T + 1, by omega, by rw [HC1.out], by go_num, HB5.out⟩
      case measure => simp [intV]; omega
    · obtain rfl : T = K := by omega
      have i2 : ¬ (T : Int) < (T : Int) := by omega
      have HTk := hidden (HT.out.below HBl.out)
      generalize ringC r dr ls a T = c0 at *
      cases cb with
      | true =>
        have hxy := HS.out rfl
        have j0 : (x == y) = true := by simp [hxy]
        clear hxy
        go_wp2
        refine wp_region_quiet_below (by kernel_rfl) (by kernel_rfl) ?_
        repeat (go_big_quiet_step (first
          | (go_at_call 9; exact Calls.regrown_of (HC.out _ (HTk.out.below (below_regrown _ _ _))))
          | (go_at_call 10; exact Calls.regrown_of (HN.out _ (HTk.out.below (below_regrown _ _ _))))
          | (go_at_call 11; exact Calls.regrown_of (HM.out _ (HTk.out.below (below_regrown _ _ _))))
          | (go_at_call 6; exact Calls.regrown_of (known22_any _))))
        refine wpQuiet_nil ?_
        intro w4 hw4
        have HB4 := hidden (bthen HBl.out (rg_below hw4))
        clear hw4 hbox hsz
        go_wp2
        go_ret
        exact ⟨rfl, bthen (ballc w _) HB4.out⟩
      | false =>
        go_wp2
        refine wp_region_quiet_below (by kernel_rfl) (by kernel_rfl) ?_
        repeat (go_big_quiet_step (first
          | (go_at_call 9; exact Calls.regrown_of (HC.out _ (HTk.out.below (below_regrown _ _ _))))
          | (go_at_call 10; exact Calls.regrown_of (HN.out _ (HTk.out.below (below_regrown _ _ _))))
          | (go_at_call 11; exact Calls.regrown_of (HM.out _ (HTk.out.below (below_regrown _ _ _))))
          | (go_at_call 6; exact Calls.regrown_of (known22_any _))))
        refine wpQuiet_nil ?_
        intro w4 hw4
        have HB4 := hidden (bthen HBl.out (rg_below hw4))
        clear hw4 hbox hsz
        go_wp2
        go_ret
        exact ⟨rfl, bthen (ballc w _) HB4.out⟩
theorem walk (n f d p r dr o sl md fr : Int) (ad : Option Addr) (cap : Nat) (zs : List Int) (a : Int) (lad : Option Addr) (lcap : Nat) (ls : List Int) (t : Int) (w : World) (hl : zs.length ≤ 9223372036854775807) (hT : Tab w ad zs) (ha : -9223372036854775808 ≤ a ∧ a ≤ 9223372036854775807) (hll : ls.length ≤ 9223372036854775807) (hTl : Tab w lad ls) (hwl : ∀ z ∈ ls, (Lit.int .i64 z).wf = true) (ht : -9223372036854775808 ≤ t ∧ t ≤ 9223372036854775807) :
    Calls Try.prog 3 #[.agg #[.int .i64 n, .int .i64 f, .int .i64 d, .int .i64 p, .int .i64 r, .int .i64 dr, .int .i64 o, .int .i64 sl, .int .i64 md, .int .i64 fr, .slice ad zs.length cap], .int .i64 a, .slice lad ls.length lcap, .int .i64 t] w fun e w' => e = .returned (.bool true) ∧ Below w.heap.size w w' := by
  by_cases h : rightE n f d p r dr o sl md fr zs = 0 ∧ 0 ≤ t ∧ t < p
  · exact asked n f d p r dr o sl md fr ad cap zs a lad lcap ls t w hl hT ha hll hTl h.1 h.2.1 h.2.2
  · exact none_asked n f d p r dr o sl md fr ad cap zs a lad lcap ls t w hl hT h
end Go.Proofs.Ytcfakhfipdjnmab.LawSlotAgrees
