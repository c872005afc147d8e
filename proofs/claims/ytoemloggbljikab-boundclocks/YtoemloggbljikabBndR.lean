/- The call Right of package bound returns what the document says, and makes at most new memory; conditions: the table lies where it says, and its length fits int. -/
import Derived.Test.YtoemloggbljikabBndH
namespace Go.Proofs.Ytoemloggbljikab
open Go.ChangeShapes Go.WideShapes Go.ChangeAt Go.RowKit
set_option linter.unusedVariables false
attribute [local go_sem] cell_rg

set_option maxHeartbeats 2000000 in
theorem BRight_any (n f d p r dr o sl md fr : Int) (ad : Option Addr) (cap : Nat) (zs : List Int) (w : World) (hl : zs.length ≤ 9223372036854775807) (hT : Tab w ad zs) :
    Calls Try.prog 4 #[.agg #[.int .i64 n, .int .i64 f, .int .i64 d, .int .i64 p, .int .i64 r, .int .i64 dr, .int .i64 o, .int .i64 sl, .int .i64 md, .int .i64 fr, .slice ad zs.length cap]] w fun e w' => e = .returned (.int .i64 (rightE n f d p r dr o sl md fr zs)) ∧ Below w.heap.size w w' := by
  have HP := hidden (plain_any n f d p r dr o sl md fr ad cap zs (w.alloc (.cells #[.int .i64 n, .int .i64 f, .int .i64 d, .int .i64 p, .int .i64 r, .int .i64 dr, .int .i64 o, .int .i64 sl, .int .i64 md, .int .i64 fr, .slice ad zs.length cap] 24)) hl (hT.below (ballc _ _)))
  clear hT
  by_cases hE : plainE n f d p r dr o sl md fr zs = 0
  · have HR := hidden (rightE_plain hE)
    have HN := hidden (fun v => narrow_any n f d p r dr o sl md fr ad cap zs v hE)
    have HS := hidden (fun v => short_any n f d p r dr o sl md fr ad cap zs v hE)
    have HO := hidden (fun v => round_any n f d p r dr o sl md fr ad cap zs v hE)
    rw [hE] at HP
    clear hE
    have HF : Hid (rightF d p r dr sl (lastE o sl zs) = _) := hidden (rfl : rightF d p r dr sl (lastE o sl zs) = if sl ≤ 2 * guardF d r dr (lastE o sl zs) then 8 else if (p - 1) * (r - dr) < lastE o sl zs + d * r + guardF d r dr (lastE o sl zs) then 8 else if 32768 ≤ p * (r + dr) then 8 else 0)
    by_cases c0 : sl ≤ 2 * guardF d r dr (lastE o sl zs)
    · have hd0 : decide (sl ≤ 2 * guardF d r dr (lastE o sl zs)) = true := decide_eq_true c0
      rw [hd0] at HN
      have HV : Hid (rightE n f d p r dr o sl md fr zs = 8) := by rw [HR.out, HF.out]; exact if_pos c0
      clear HF HR c0 hd0 HS HO
      go_enter Try.func4, Try.ntmps4
      go_wp2_with fail
      refine HP.out.mono ?_
      rintro e w2 ⟨rfl, hb2⟩
      have HB2 := hidden hb2
      obtain ⟨hbox, hsz⟩ := box_at HB2.out
      clear hb2
      go_wp2_with fail
      clear hbox hsz
      refine (HN.out _).mono ?_
      rintro e w3 ⟨rfl, hb3⟩
      have HB3 := hidden (bthen HB2.out (bthen (ballc _ _) hb3))
      clear hb3
      go_wp2
      go_ret
      exact ⟨ret_i HV.out.symm, bthen (ballc w _) HB3.out⟩
    have hd0 : decide (sl ≤ 2 * guardF d r dr (lastE o sl zs)) = false := decide_eq_false c0
    rw [hd0] at HN
    by_cases c1 : (p - 1) * (r - dr) < lastE o sl zs + d * r + guardF d r dr (lastE o sl zs)
    · have hd1 : decide ((p - 1) * (r - dr) < lastE o sl zs + d * r + guardF d r dr (lastE o sl zs)) = true := decide_eq_true c1
      rw [hd1] at HS
      have HV : Hid (rightE n f d p r dr o sl md fr zs = 8) := by rw [HR.out, HF.out]; exact (if_neg c0).trans (if_pos c1)
      clear HF HR c0 hd0 c1 hd1 HO
      go_enter Try.func4, Try.ntmps4
      go_wp2_with fail
      refine HP.out.mono ?_
      rintro e w2 ⟨rfl, hb2⟩
      have HB2 := hidden hb2
      obtain ⟨hbox, hsz⟩ := box_at HB2.out
      clear hb2
      go_wp2_with fail
      clear hbox hsz
      refine (HN.out _).mono ?_
      rintro e w3 ⟨rfl, hb3⟩
      have HC3 := hidden hb3
      have HB3 := hidden (bthen HB2.out (bthen (ballc _ _) hb3))
      obtain ⟨hbox, hsz⟩ := box_at HC3.out
      clear hb3
      go_wp2_with fail
      refine (HS.out _).mono ?_
      rintro e w4 ⟨rfl, hb4⟩
      have HB4 := hidden (bthen HB3.out hb4)
      clear hb4 hbox hsz
      go_wp2
      go_ret
      exact ⟨ret_i HV.out.symm, bthen (ballc w _) HB4.out⟩
    have hd1 : decide ((p - 1) * (r - dr) < lastE o sl zs + d * r + guardF d r dr (lastE o sl zs)) = false := decide_eq_false c1
    rw [hd1] at HS
    have HV : Hid (rightE n f d p r dr o sl md fr zs = if 32768 ≤ p * (r + dr) then 8 else 0) := by rw [HR.out, HF.out]; exact (if_neg c0).trans (if_neg c1)
    clear HF HR c0 hd0 c1 hd1
    by_cases c2 : 32768 ≤ p * (r + dr)
    · have hd2 : decide (32768 ≤ p * (r + dr)) = true := decide_eq_true c2
      rw [hd2] at HO
      have HW : Hid (rightE n f d p r dr o sl md fr zs = 8) := HV.out.trans (if_pos c2)
      clear HV c2 hd2
      go_enter Try.func4, Try.ntmps4
      go_wp2_with fail
      refine HP.out.mono ?_
      rintro e w2 ⟨rfl, hb2⟩
      have HB2 := hidden hb2
      obtain ⟨hbox, hsz⟩ := box_at HB2.out
      clear hb2
      go_wp2_with fail
      clear hbox hsz
      refine (HN.out _).mono ?_
      rintro e w3 ⟨rfl, hb3⟩
      have HC3 := hidden hb3
      have HB3 := hidden (bthen HB2.out (bthen (ballc _ _) hb3))
      obtain ⟨hbox, hsz⟩ := box_at HC3.out
      clear hb3
      go_wp2_with fail
      refine (HS.out _).mono ?_
      rintro e w4 ⟨rfl, hb4⟩
      have HC4 := hidden (bthen HC3.out hb4)
      have HB4 := hidden (bthen HB3.out hb4)
      clear hb4 hbox hsz
      obtain ⟨hbox, hsz⟩ := box_at HC4.out
      go_wp2_with fail
      refine (HO.out _).mono ?_
      rintro e w5 ⟨rfl, hb5⟩
      have HB5 := hidden (bthen HB4.out hb5)
      clear hb5 hbox hsz
      go_wp2
      go_ret
      exact ⟨ret_i HW.out.symm, bthen (ballc w _) HB5.out⟩
    · have hd2 : decide (32768 ≤ p * (r + dr)) = false := decide_eq_false c2
      rw [hd2] at HO
      have HW : Hid (rightE n f d p r dr o sl md fr zs = 0) := HV.out.trans (if_neg c2)
      clear HV c2 hd2
      go_enter Try.func4, Try.ntmps4
      go_wp2_with fail
      refine HP.out.mono ?_
      rintro e w2 ⟨rfl, hb2⟩
      have HB2 := hidden hb2
      obtain ⟨hbox, hsz⟩ := box_at HB2.out
      clear hb2
      go_wp2_with fail
      clear hbox hsz
      refine (HN.out _).mono ?_
      rintro e w3 ⟨rfl, hb3⟩
      have HC3 := hidden hb3
      have HB3 := hidden (bthen HB2.out (bthen (ballc _ _) hb3))
      obtain ⟨hbox, hsz⟩ := box_at HC3.out
      clear hb3
      go_wp2_with fail
      refine (HS.out _).mono ?_
      rintro e w4 ⟨rfl, hb4⟩
      have HC4 := hidden (bthen HC3.out hb4)
      have HB4 := hidden (bthen HB3.out hb4)
      clear hb4 hbox hsz
      obtain ⟨hbox, hsz⟩ := box_at HC4.out
      go_wp2_with fail
      refine (HO.out _).mono ?_
      rintro e w5 ⟨rfl, hb5⟩
      have HB5 := hidden (bthen HB4.out hb5)
      clear hb5 hbox hsz
      go_wp2
      go_ret
      exact ⟨ret_i HW.out.symm, bthen (ballc w _) HB5.out⟩
  · have HR := hidden (rightE_not hE)
    generalize plainE n f d p r dr o sl md fr zs = E at *
    go_enter Try.func4, Try.ntmps4
    go_wp2_with fail
    refine HP.out.mono ?_
    rintro e w2 ⟨rfl, hb2⟩
    have HB2 := hidden hb2
    clear hb2
    go_wp2
    go_ret
    exact ⟨ret_i HR.out.symm, bthen (ballc w _) HB2.out⟩
end Go.Proofs.Ytoemloggbljikab
