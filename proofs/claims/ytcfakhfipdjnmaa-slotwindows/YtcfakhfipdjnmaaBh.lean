/- Several texts of one's own in one: what each proves, and its conditions, is said ahead of it. -/
import Derived.Test.YtcfakhfipdjnmaaBg
import Derived.Test.YtcfakhfipdjnmaaBd
import Derived.Test.YtcfakhfipdjnmaaBf

/- The document's calls Window and Hit of layer 22 return what plain functions give, and make at most new memory; conditions: the table lies where it says, its length and the numbers fit int. -/
namespace Go.Proofs.Ytcfakhfipdjnmaa
open Go.ChangeShapes Go.WideShapes Go.ChangeAt Go.RowKit Go.Shelf
set_option linter.unusedVariables false
attribute [local go_sem] cell_rg

set_option maxHeartbeats 1000000 in
theorem rWindow_any (n f d p r dr o sl md fr : Int) (ad : Option Addr) (cap : Nat) (zs : List Int) (s : Int) (w : World) (hs : -9223372036854775808 ≤ s ∧ s ≤ 9223372036854775807) (hl : zs.length ≤ 9223372036854775807) (hT : Tab w ad zs) :
    Calls Try.prog 30 #[.agg #[.int .i64 n, .int .i64 f, .int .i64 d, .int .i64 p, .int .i64 r, .int .i64 dr, .int .i64 o, .int .i64 sl, .int .i64 md, .int .i64 fr, .slice ad zs.length cap], .int .i64 s] w fun e w' => e = .returned (.tuple #[.int .i64 (win1 (plainE n f d p r dr o sl md fr zs) d r (guardF d r dr (lastE o sl zs)) o sl zs.length s), .int .i64 (win2 (plainE n f d p r dr o sl md fr zs) d r (guardF d r dr (lastE o sl zs)) o sl zs.length s)]) ∧ Below w.heap.size w w' := by
  have HT := hidden (hT.below (ballc w (.cells #[.int .i64 n, .int .i64 f, .int .i64 d, .int .i64 p, .int .i64 r, .int .i64 dr, .int .i64 o, .int .i64 sl, .int .i64 md, .int .i64 fr, .slice ad zs.length cap] 24)))
  have HO := hidden (rOwner_any n f d p r dr o sl md fr ad cap zs s (w.alloc (.cells #[.int .i64 n, .int .i64 f, .int .i64 d, .int .i64 p, .int .i64 r, .int .i64 dr, .int .i64 o, .int .i64 sl, .int .i64 md, .int .i64 fr, .slice ad zs.length cap] 24)) hs hl HT.out)
  have HM := hidden (fun V h => RMiddle_any n f d p r dr o sl md fr ad cap zs s V hl h)
  have HG := hidden (fun V h => RGuard_any n f d p r dr o sl md fr ad cap zs V hl h)
  clear hT
  by_cases hin : plainE n f d p r dr o sl md fr zs = 0 ∧ 0 ≤ s ∧ s < (zs.length : Int)
  · obtain ⟨hE, s1, s2⟩ := hin
    obtain ⟨k, rfl⟩ := Int.eq_ofNat_of_zero_le s1
    have hk : k < zs.length := by omega
    obtain ⟨M1, M2⟩ := lastE_bd hE
    obtain ⟨_, _, _, _, _, d1, d2, _, _, r1, r2, dr1, dr2, o1, o2, sl1, sl2, _, _, _, _, z1, z2, zo⟩ := plainE_ok hE
    have ho := own_pos zo hk
    obtain ⟨g1, g2⟩ := guardF_in d1 d2 r1 r2 dr1 dr2 M1 M2
    obtain ⟨m1, m2⟩ := midE_bd (s := (k : Int)) s1 (by omega) o1 o2 sl1 sl2
    obtain ⟨q0, q1⟩ := mul_bd (show 0 ≤ d by omega) d2 (show 0 ≤ r by omega) r2
    rw [hE] at HO HM HG ⊢
    rw [ownF_in hk] at HO
    rw [slotB_yes s1 s2] at HM
    simp only [placeE_yes] at HM
    simp only [gate_ok] at HG
    rw [win1_in hk, win2_in hk]
    unfold winLo winHi
    generalize zs.getD k 0 = ow at *
    generalize midE o sl (k : Int) = M at *
    generalize guardF d r dr (lastE o sl zs) = G at *
    generalize hdr : d * r = P at *
    have t1 : IntKind.i64.wrap P = P := IntWalk.i64_in _ (by omega)
    have t2 : IntKind.i64.wrap (M + P) = M + P := IntWalk.i64_in _ (by omega)
    have t3 : IntKind.i64.wrap (M + P - G) = M + P - G := IntWalk.i64_in _ (by omega)
    have t4 : IntKind.i64.wrap (M + P + G) = M + P + G := IntWalk.i64_in _ (by omega)
    have e0 : ¬ ow < 0 := by omega
    clear hE M1 M2 zo ho
    go_enter Try.func30, Try.ntmps30
    go_wp2_with fail
    refine HO.out.mono ?_
    rintro e w2 ⟨rfl, hb2⟩
    have HB2 := hidden hb2
    have HT2 := hidden (HT.out.below hb2)
    clear hb2
    obtain ⟨hbox, hsz⟩ := box_at HB2.out
    go_wp2
    refine wp_region_quiet_below (by kernel_rfl) (by kernel_rfl) ?_
    repeat (go_big_quiet_step ((go_at_call 42; exact Calls.regrown_of (HM.out _ (HT2.out.below (below_regrown _ _ _))))))
    refine wpQuiet_nil ?_
    intro w3 hw3
    have HB3 := hidden (bthen HB2.out (rg_below hw3))
    have HT3 := hidden (HT2.out.below (rg_below hw3))
    clear hw3 hbox hsz t1 t2
    obtain ⟨hbox, hsz⟩ := box_at HB3.out
    go_wp2
    refine wp_region_quiet_below (by kernel_rfl) (by kernel_rfl) ?_
    repeat (go_big_quiet_step ((go_at_call 47; exact Calls.regrown_of (HG.out _ (HT3.out.below (below_regrown _ _ _))))))
    refine wpQuiet_nil ?_
    intro w4 hw4
    have HB4 := hidden (bthen HB3.out (rg_below hw4))
    clear hw4 hbox hsz
    go_wp2
    refine bodyPost_ret (v := .tuple #[.int .i64 (M + P - G), .int .i64 (M + P + G)]) (by simp [results, Try.results30, go_sem]) rfl ⟨rfl, bthen (ballc w _) HB4.out⟩
  · have hO : ownF (plainE n f d p r dr o sl md fr zs) zs s = -1 := by
      by_cases hE : plainE n f d p r dr o sl md fr zs = 0
      · exact ownF_no (fun c => hin ⟨hE, c⟩)
      · exact ownF_err hE
    rw [hO] at HO
    rw [win1_no hin, win2_no hin]
    clear hin hO HM HG
    go_enter Try.func30, Try.ntmps30
    go_wp2_with fail
    refine HO.out.mono ?_
    rintro e w2 ⟨rfl, hb2⟩
    have HB2 := hidden hb2
    clear hb2
    go_wp2
    refine bodyPost_ret (v := .tuple #[.int .i64 0, .int .i64 0]) (by simp [results, Try.results30, go_sem]) rfl ⟨rfl, bthen (ballc w _) HB2.out⟩

set_option maxHeartbeats 2000000 in
theorem rHit_any (n f d p r dr o sl md fr : Int) (ad : Option Addr) (cap : Nat) (zs : List Int) (el : Int) (w : World) (hl : zs.length ≤ 9223372036854775807) (hT : Tab w ad zs) :
    Calls Try.prog 34 #[.agg #[.int .i64 n, .int .i64 f, .int .i64 d, .int .i64 p, .int .i64 r, .int .i64 dr, .int .i64 o, .int .i64 sl, .int .i64 md, .int .i64 fr, .slice ad zs.length cap], .int .i64 el] w fun e w' => e = .returned (.int .i64 (hitF (plainE n f d p r dr o sl md fr zs) d r (guardF d r dr (lastE o sl zs)) o sl zs.length el)) ∧ Below w.heap.size w w' := by
  have HT := hidden (hT.below (ballc w (.cells #[.int .i64 n, .int .i64 f, .int .i64 d, .int .i64 p, .int .i64 r, .int .i64 dr, .int .i64 o, .int .i64 sl, .int .i64 md, .int .i64 fr, .slice ad zs.length cap] 24)))
  have HP := hidden (refPlain_any n f d p r dr o sl md fr ad cap zs (w.alloc (.cells #[.int .i64 n, .int .i64 f, .int .i64 d, .int .i64 p, .int .i64 r, .int .i64 dr, .int .i64 o, .int .i64 sl, .int .i64 md, .int .i64 fr, .slice ad zs.length cap] 24)) hl HT.out)
  clear hT
  by_cases hE : plainE n f d p r dr o sl md fr zs = 0
  case neg =>
    have HV := hidden (hitF_err (d := d) (r := r) (G := guardF d r dr (lastE o sl zs)) (o := o) (sl := sl) (m := zs.length) (e := el) hE)
    generalize plainE n f d p r dr o sl md fr zs = E at *
    go_enter Try.func34, Try.ntmps34
    go_wp2_with fail
    refine HP.out.mono ?_
    rintro e w2 ⟨rfl, hb2⟩
    have HB2 := hidden hb2
    clear hb2
    go_wp2
    go_ret
    exact ⟨ret_i HV.out.symm, bthen (ballc w _) HB2.out⟩
  have hz := (plainE_ok hE).2.2.2.2.2.2.2.2.2.2.2.2.2.2.2.2.2.2.2.2.2
  have HW := hidden (fun (k : Nat) V (h : k < zs.length) hV => rWindow_any n f d p r dr o sl md fr ad cap zs (k : Int) V (by omega) hl hV)
  rw [hE] at HP HW ⊢
  rw [hitF_ok]
  have HI := hidden (fun k => show inWin d r (guardF d r dr (lastE o sl zs)) o sl el k = (decide (winLo d r (guardF d r dr (lastE o sl zs)) o sl k ≤ el) && decide (el ≤ winHi d r (guardF d r dr (lastE o sl zs)) o sl k)) from rfl)
  generalize guardF d r dr (lastE o sl zs) = G at *
  clear hE hz
  go_enter Try.func34, Try.ntmps34
  go_wp2_with fail
  refine HP.out.mono ?_
  rintro e w2 ⟨rfl, hb2⟩
  have HB2 := hidden hb2
  clear hb2
  go_wp2
  go_loopw [5, 6, 7] (fun i lo hi wr => ∃ k : Nat, k ≤ zs.length ∧ i = .int .i64 k ∧ (∀ j : Nat, j < k → inWin d r G o sl el j = false) ∧ Below (w.alloc (.cells #[.int .i64 n, .int .i64 f, .int .i64 d, .int .i64 p, .int .i64 r, .int .i64 dr, .int .i64 o, .int .i64 sl, .int .i64 md, .int .i64 fr, .slice ad zs.length cap] 24)).heap.size (w.alloc (.cells #[.int .i64 n, .int .i64 f, .int .i64 d, .int .i64 p, .int .i64 r, .int .i64 dr, .int .i64 o, .int .i64 sl, .int .i64 md, .int .i64 fr, .slice ad zs.length cap] 24)) wr) (fun i _ _ _ => zs.length - (intV i).toNat)
  case atStart => exact ⟨0, Nat.zero_le _, rfl, fun j hj => absurd hj (Nat.not_lt_zero _), HB2.out⟩
  case round =>
    obtain ⟨k, hk, rfl, hn, hB⟩ := hrel
    have HB := hidden hB
    have HNo := hidden hn
    have HTk := hidden (HT.out.below hB)
    clear hB hn
    obtain ⟨hbox, hsz⟩ := box_at HB.out
    by_cases hlt : k < zs.length
    · have i2 : (k : Int) < (zs.length : Int) := by omega
      have HWk := hidden (HW.out k _ hlt HTk.out)
      rw [win1_in hlt, win2_in hlt] at HWk
      have HIk := hidden (HI.out k)
      have HH := hidden (fun hp => firstF_range_hit (p := inWin d r G o sl el) hlt hp HNo.out)
      have HM := hidden (fun (hp : inWin d r G o sl el k = false) => show ∀ j, j < k + 1 → inWin d r G o sl el j = false from fun j hj => by
        by_cases e : j = k
        · subst e; exact hp
        · exact HNo.out j (by omega))
      generalize inWin d r G o sl el k = hb at *
      generalize winLo d r G o sl k = lo at *
      generalize winHi d r G o sl k = hi at *
      clear HI HW
      by_cases h1 : lo ≤ el
      · have e1 : decide (lo ≤ el) = true := decide_eq_true h1
        by_cases h2 : el ≤ hi
        · have e2 : decide (el ≤ hi) = true := decide_eq_true h2
          have HV := hidden (HH.out (by rw [HIk.out, e1, e2]; rfl))
          clear HH HM HIk
          go_wp2_with fail
          refine HWk.out.mono ?_
          rintro e w3 ⟨rfl, hb3⟩
          have HB3 := hidden (bthen HB.out hb3)
          clear hb3 hbox hsz
          go_wp2
          go_ret
          exact ⟨ret_i HV.out.symm, bthen (ballc w _) HB3.out⟩
        · have e2 : decide (el ≤ hi) = false := decide_eq_false h2
          have HV := hidden (HM.out (by rw [HIk.out, e1, e2]; rfl))
          clear HH HM HIk
          go_wp2_with fail
          refine HWk.out.mono ?_
          rintro e w3 ⟨rfl, hb3⟩
          have HB3 := hidden (bthen HB.out hb3)
          clear hb3 hbox hsz
          go_wp2
          go_roundw
          case rel => exact ⟨k + 1, by omega, by go_num, HV.out, HB3.out⟩
          case measure => simp [intV]; omega
      · have e1 : decide (lo ≤ el) = false := decide_eq_false h1
        have HV := hidden (HM.out (by rw [HIk.out, e1]; rfl))
        clear HH HM HIk
        go_wp2_with fail
        refine HWk.out.mono ?_
        rintro e w3 ⟨rfl, hb3⟩
        have HB3 := hidden (bthen HB.out hb3)
        clear hb3 hbox hsz
        go_wp2
        go_roundw
        case rel => exact ⟨k + 1, by omega, by go_num, HV.out, HB3.out⟩
        case measure => simp [intV]; omega
    · obtain rfl : k = zs.length := by omega
      have i2 : ¬ (zs.length : Int) < (zs.length : Int) := by omega
      have HV := hidden (firstF_range_none (p := inWin d r G o sl el) HNo.out)
      go_wp2
      go_ret
      exact ⟨ret_i HV.out.symm, bthen (ballc w _) HB.out⟩
end Go.Proofs.Ytcfakhfipdjnmaa
