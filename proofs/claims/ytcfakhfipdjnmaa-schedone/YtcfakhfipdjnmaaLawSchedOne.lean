/- The walk of the statement SchedOne: the call returns true, and makes at most new memory; conditions: the table lies where it says, its length and the number fit int. -/
import Derived.Test.YtcfakhfipdjnmaaBd
import Derived.Test.YtcfakhfipdjnmaaBe
namespace Go.Proofs.Ytcfakhfipdjnmaa.LawSchedOne
open Go.ChangeShapes Go.WideShapes Go.ChangeAt Go.RowKit
set_option linter.unusedVariables false
attribute [local go_sem] cell_rg

/-- One unit ahead of a slot is the slot before. -/
theorem slot_ahead {o sl : Int} {m k : Nat} (hsl : 1 ≤ sl) (ho : 0 ≤ o) (hk : k < m) : slotF 0 o sl m (o + (k : Int) * sl - 1) = (k : Int) - 1 := by
  cases k with
  | zero => rw [slotF_lo (by simp; omega)]; rfl
  | succ j =>
    have e : ((j + 1 : Nat) : Int) * sl = (j : Int) * sl + sl := by rw [Int.natCast_add, Int.add_mul]; simp
    rw [e, slotF_is (k := j) hsl ho (by omega) (by omega) (by omega)]
    omega
theorem own_range {n : Int} {zs : List Int} (h : ownsB n zs = true) {k : Nat} (hk : k < zs.length) : 0 ≤ zs.getD k 0 ∧ zs.getD k 0 < n := by
  have h2 := (ownsB_iff.1 h).1 (zs.getD k 0) (by simp [hk])
  omega
theorem val_slot {E o sl : Int} {m : Nat} {e x : Int} (h : slotF E o sl m e = x) : Value.int .i64 (slotF E o sl m e) = .int .i64 x := by rw [h]

set_option maxHeartbeats 4000000 in
theorem walk (n f d p r dr o sl md fr : Int) (ad : Option Addr) (cap : Nat) (zs : List Int) (el : Int) (w : World) (hl : zs.length ≤ 9223372036854775807) (hT : Tab w ad zs) (he : -9223372036854775808 ≤ el ∧ el ≤ 9223372036854775807) :
    Calls Try.prog 5 #[.agg #[.int .i64 n, .int .i64 f, .int .i64 d, .int .i64 p, .int .i64 r, .int .i64 dr, .int .i64 o, .int .i64 sl, .int .i64 md, .int .i64 fr, .slice ad zs.length cap], .int .i64 el] w fun e w' => e = .returned (.bool true) ∧ Below w.heap.size w w' := by
  have HT := hidden (hT.below (ballc w (.cells #[.int .i64 n, .int .i64 f, .int .i64 d, .int .i64 p, .int .i64 r, .int .i64 dr, .int .i64 o, .int .i64 sl, .int .i64 md, .int .i64 fr, .slice ad zs.length cap] 24)))
  have HP := hidden (refPlain_any n f d p r dr o sl md fr ad cap zs (w.alloc (.cells #[.int .i64 n, .int .i64 f, .int .i64 d, .int .i64 p, .int .i64 r, .int .i64 dr, .int .i64 o, .int .i64 sl, .int .i64 md, .int .i64 fr, .slice ad zs.length cap] 24)) hl HT.out)
  have HS := hidden (fun x V hx h => SSlot_any n f d p r dr o sl md fr ad cap zs x V hx hl h)
  have HO := hidden (fun x V hx h => SOwner_any n f d p r dr o sl md fr ad cap zs x V hx hl h)
  have HKn := hidden (fun V => known21_any V)
  clear hT
  by_cases hE : plainE n f d p r dr o sl md fr zs = 0
  case neg =>
    have HV := hidden (slotF_err (o := o) (sl := sl) (m := zs.length) (e := el) hE)
    clear HO
    generalize plainE n f d p r dr o sl md fr zs = E at *
    have HS1 := hidden (fun V h => Calls.ret_to (HS.out el V he h) (val_i HV.out))
    clear HS HV
    go_enter Try.func5, Try.ntmps5
    go_wp2_with fail
    refine HP.out.mono ?_
    rintro e w2 ⟨rfl, hb2⟩
    have HB2 := hidden hb2
    clear hb2
    obtain ⟨hbox, hsz⟩ := box_at HB2.out
    go_wp2_with fail
    refine (HS1.out _ (HT.out.below HB2.out)).mono ?_
    rintro e w3 ⟨rfl, hb3⟩
    have HB3 := hidden (bthen HB2.out hb3)
    clear hb3 hbox hsz
    go_wp2_with fail
    refine (HKn.out _).mono ?_
    rintro e w4 ⟨rfl, hb4⟩
    have HB4 := hidden (bthen HB3.out hb4)
    clear hb4
    go_wp2
    go_ret
    exact ⟨rfl, bthen (ballc w _) HB4.out⟩
  obtain ⟨n1, n2, _, _, _, _, _, _, _, _, _, _, _, o1, o2, sl1, sl2, _, _, _, _, z1, z2, zo⟩ := plainE_ok hE
  rw [hE] at HP HS HO
  obtain ⟨b0, b1⟩ := mul_bd (show 0 ≤ (zs.length : Int) by omega) (show (zs.length : Int) ≤ 32 by omega) (show 0 ≤ sl by omega) sl2
  by_cases hin : o ≤ el ∧ el < o + (zs.length : Int) * sl
  · obtain ⟨k, hk⟩ := Int.eq_ofNat_of_zero_le (show 0 ≤ (el - o) / sl from Int.ediv_nonneg (by omega) (by omega))
    obtain ⟨k1, k2⟩ := div_of (b := sl) (k := (k : Int)) sl1 hk
    have hkm : k < zs.length := by
      by_cases h : k < zs.length
      · exact h
      · exfalso
        have h3 : (zs.length : Int) * sl ≤ (k : Int) * sl := Int.mul_le_mul_of_nonneg_right (by omega) (by omega)
        omega
    obtain ⟨c0, c1⟩ := mul_bd (show 0 ≤ (k : Int) by omega) (show (k : Int) ≤ 31 by omega) (show 0 ≤ sl by omega) sl2
    have HSl := hidden (fun x h1 h2 => slotF_is (o := o) (sl := sl) (m := zs.length) (k := k) (e := x) sl1 o1 hkm h1 h2)
    have HSm := hidden (slot_ahead (o := o) (sl := sl) (m := zs.length) (k := k) sl1 o1 hkm)
    obtain ⟨v1, v2⟩ := own_range zo hkm
    have HOw := hidden (ownF_in (zs := zs) (k := k) hkm)
    generalize zs.getD k 0 = ow at *
    generalize hPP : (k : Int) * sl = P at *
    generalize hTT : (zs.length : Int) * sl = TT at *
    have HS1 := hidden (fun V h => Calls.ret_to (HS.out el V he h) (val_i (HSl.out el (by omega) (by omega))))
    have HS2 := hidden (fun x (hx : x = o + P) V h => Calls.ret_to (HS.out x V (by omega) h) (val_i (HSl.out x (by omega) (by omega))))
    have HS3 := hidden (fun x (hx : x = o + P - 1) V h => Calls.ret_to (HS.out x V (by omega) h) (val_i (b := (k : Int) - 1) ((congrArg (slotF 0 o sl zs.length) hx).trans HSm.out)))
    have HO1 := hidden (fun V h => Calls.ret_to (HO.out (k : Int) V (by omega) h) (val_i HOw.out))
    have kk : (k : Int) < (zs.length : Int) := by omega
    obtain ⟨i1, i2⟩ := hin
    clear HS HO HSl HSm HOw zo hE hk
    go_enter Try.func5, Try.ntmps5
    go_wp2_with fail
    refine HP.out.mono ?_
    rintro e w2 ⟨rfl, hb2⟩
    have HB2 := hidden hb2
    clear hb2
    obtain ⟨hbox, hsz⟩ := box_at HB2.out
    go_wp2_with fail
    refine (HS1.out _ (HT.out.below HB2.out)).mono ?_
    rintro e w3 ⟨rfl, hb3⟩
    have HB3 := hidden (bthen HB2.out hb3)
    clear hb3 hbox hsz
    obtain ⟨hbox, hsz⟩ := box_at HB3.out
    have d1 : decide ((0 : Int) ≤ (k : Int)) = true := decide_eq_true (by omega)
    have d2 : decide (o ≤ el) = true := decide_eq_true i1
    have d3 : decide (el < o + TT) = true := decide_eq_true i2
    have d4 : decide ((k : Int) < -1) = false := decide_eq_false (by omega)
    have d5 : decide ((zs.length : Int) ≤ (k : Int)) = false := decide_eq_false (by omega)
    go_wp2_with fail
    refine (HO1.out _ (HT.out.below HB3.out)).mono ?_
    rintro e w4 ⟨rfl, hb4⟩
    have HB4 := hidden (bthen HB3.out hb4)
    clear hb4 hbox hsz
    obtain ⟨hbox, hsz⟩ := box_at HB4.out
    have g1 : decide ((0 : Int) ≤ el - o - P) = true := decide_eq_true (by omega)
    have g2 : decide (el - o - P < sl) = true := decide_eq_true (by omega)
    have g3 : decide ((0 : Int) ≤ ow) = true := decide_eq_true v1
    have g4 : decide (ow < n) = true := decide_eq_true v2
    go_wp2_with fail
    refine (HS2.out _ (by omega) _ (HT.out.below HB4.out)).mono ?_
    rintro e w5 ⟨rfl, hb5⟩
    have HB5 := hidden (bthen HB4.out hb5)
    clear hb5 hbox hsz
    obtain ⟨hbox, hsz⟩ := box_at HB5.out
    go_wp2_with fail
    refine (HS3.out _ (by omega) _ (HT.out.below HB5.out)).mono ?_
    rintro e w6 ⟨rfl, hb6⟩
    have HB6 := hidden (bthen HB5.out hb6)
    clear hb6 hbox hsz
    go_wp2_with fail
    refine (HKn.out _).mono ?_
    rintro e w7 ⟨rfl, hb7⟩
    have HB7 := hidden (bthen HB6.out hb7)
    clear hb7
    go_wp2
    go_ret
    exact ⟨rfl, bthen (ballc w _) HB7.out⟩
  · have hv : slotF 0 o sl zs.length el = -1 := by
      by_cases h1 : o ≤ el
      · refine slotF_hi ?_
        rw [Int.le_ediv_iff_mul_le (by omega)]
        omega
      · exact slotF_lo (by omega)
    have HS1 := hidden (fun V h => Calls.ret_to (HS.out el V he h) (val_i hv))
    generalize hTT : (zs.length : Int) * sl = TT at *
    clear HS HO hv zo hE
    by_cases h1 : o ≤ el
    · have d2 : decide (o ≤ el) = true := decide_eq_true h1
      have d3 : decide (el < o + TT) = false := decide_eq_false (by omega)
      clear hin
      go_enter Try.func5, Try.ntmps5
      go_wp2_with fail
      refine HP.out.mono ?_
      rintro e w2 ⟨rfl, hb2⟩
      have HB2 := hidden hb2
      clear hb2
      obtain ⟨hbox, hsz⟩ := box_at HB2.out
      go_wp2_with fail
      refine (HS1.out _ (HT.out.below HB2.out)).mono ?_
      rintro e w3 ⟨rfl, hb3⟩
      have HB3 := hidden (bthen HB2.out hb3)
      clear hb3 hbox hsz
      obtain ⟨hbox, hsz⟩ := box_at HB3.out
      go_wp2_with fail
      refine (HKn.out _).mono ?_
      rintro e w7 ⟨rfl, hb7⟩
      have HB7 := hidden (bthen HB3.out hb7)
      clear hb7
      go_wp2
      go_ret
      exact ⟨rfl, bthen (ballc w _) HB7.out⟩
    · have d2 : decide (o ≤ el) = false := decide_eq_false h1
      clear hin
      go_enter Try.func5, Try.ntmps5
      go_wp2_with fail
      refine HP.out.mono ?_
      rintro e w2 ⟨rfl, hb2⟩
      have HB2 := hidden hb2
      clear hb2
      obtain ⟨hbox, hsz⟩ := box_at HB2.out
      go_wp2_with fail
      refine (HS1.out _ (HT.out.below HB2.out)).mono ?_
      rintro e w3 ⟨rfl, hb3⟩
      have HB3 := hidden (bthen HB2.out hb3)
      clear hb3 hbox hsz
      obtain ⟨hbox, hsz⟩ := box_at HB3.out
      go_wp2_with fail
      refine (HKn.out _).mono ?_
      rintro e w7 ⟨rfl, hb7⟩
      have HB7 := hidden (bthen HB3.out hb7)
      clear hb7
      go_wp2
      go_ret
      exact ⟨rfl, bthen (ballc w _) HB7.out⟩
end Go.Proofs.Ytcfakhfipdjnmaa.LawSchedOne
