/- The walk of the statement ConfHalf: the call returns true, and makes at most new memory; conditions: the table lies where it says, and its length fits int. -/
import Derived.Test.YtoemloggbljikaaConfN
namespace Go.Proofs.Ytoemloggbljikaa.LawConfHalf
open Go.ChangeShapes Go.WideShapes Go.ChangeAt Go.RowKit
set_option linter.unusedVariables false
attribute [local go_sem] cell_rg

set_option maxHeartbeats 1000000 in
theorem walk (n f d p r dr o sl md fr : Int) (ad : Option Addr) (cap : Nat) (zs : List Int) (w : World) (hl : zs.length ≤ 9223372036854775807) (hT : Tab w ad zs) :
    Calls Try.prog 4 #[.agg #[.int .i64 n, .int .i64 f, .int .i64 d, .int .i64 p, .int .i64 r, .int .i64 dr, .int .i64 o, .int .i64 sl, .int .i64 md, .int .i64 fr, .slice ad zs.length cap]] w fun e w' => e = .returned (.bool true) ∧ Below w.heap.size w w' := by
  have HT : Hid (Tab (w.alloc (.cells #[.int .i64 n, .int .i64 f, .int .i64 d, .int .i64 p, .int .i64 r, .int .i64 dr, .int .i64 o, .int .i64 sl, .int .i64 md, .int .i64 fr, .slice ad zs.length cap] 24)) ad zs) := hT.below (ballc _ _)
  clear hT
  have HP := hidden (fun v h => plain_any n f d p r dr o sl md fr ad cap zs v hl h)
  have HR := hidden (fun v h => Rounds_any n f d p r dr o sl md fr ad cap zs v hl h)
  have HL := hidden (fun v h => Length_any n f d p r dr o sl md fr ad cap zs v hl h)
  have HI := hidden (fun v h => Bits_any n f d p r dr o sl md fr ad cap zs v hl h)
  have HK := hidden (fun h => plainE_ok (n := n) (f := f) (d := d) (p := p) (r := r) (dr := dr) (o := o) (sl := sl) (md := md) (fr := fr) (zs := zs) h)
  generalize plainE n f d p r dr o sl md fr zs = E at HP HR HL HI HK
  by_cases hE : E = 0
  · subst hE
    obtain ⟨n1, n2, f1, f2, f3, d1, d2, p1, p2, _⟩ := HK.out rfl
    simp only [gate_ok] at HR HL HI
    have hm0 : 0 ≤ 3 * (f + 1) * d := Int.mul_nonneg (by omega) (by omega)
    have hm1 : 3 * (f + 1) * d ≤ 15 * 4 := Int.mul_le_mul (by omega) d2 (by omega) (by omega)
    have hm2 : 2 * (3 * (f + 1) * d) < p := by
      have e : 3 * (f + 1) * d = 3 * ((f + 1) * d) := Int.mul_assoc _ _ _
      omega
    have t1 : IntKind.i64.wrap (2 * (3 * (f + 1) * d)) = 2 * (3 * (f + 1) * d) := IntWalk.i64_in _ (by omega)
    have t2 : IntKind.i64.wrap (f + 1) = f + 1 := IntWalk.i64_in _ (by omega)
    have t3 : IntKind.i64.wrap (3 * (f + 1)) = 3 * (f + 1) := IntWalk.i64_in _ (by omega)
    have t4 : IntKind.i64.wrap (3 * (f + 1) * d) = 3 * (f + 1) * d := IntWalk.i64_in _ (by omega)
    have t5 : IntKind.i64.wrap (n - f) = n - f := IntWalk.i64_in _ (by omega)
    have t6 : IntKind.i64.wrap (3 * (n - f)) = 3 * (n - f) := IntWalk.i64_in _ (by omega)
    have t7 : IntKind.i64.wrap (2 * n) = 2 * n := IntWalk.i64_in _ (by omega)
    have t8 : 2 * n < 3 * (n - f) := by omega
    have t9 : n < 8 + n := by omega
    clear HK p1
    go_enter Try.func4, Try.ntmps4
    go_wp2_with fail
    refine (HP.out _ HT.out).mono ?_
    rintro e w2 ⟨rfl, hb⟩
    have HC := hidden hb
    clear hb
    obtain ⟨hbox, hsz⟩ := box_at HC.out
    go_wp2_with fail
    refine (HL.out _ (HT.out.below HC.out)).mono ?_
    rintro e w3 ⟨rfl, hb⟩
    have HC3 := hidden (bthen HC.out hb)
    clear hb hbox hsz
    obtain ⟨hbox, hsz⟩ := box_at HC3.out
    have HT3 := hidden (HT.out.below HC3.out)
    go_wp2
    refine wp_region_quiet_below (by kernel_rfl) (by kernel_rfl) ?_
    repeat (go_big_quiet_step (first
      | (go_at_call 11; exact Calls.regrown_of (HR.out _ (HT3.out.below (below_regrown _ _ _))))
      | (go_at_call 15; exact Calls.regrown_of (HI.out _ (HT3.out.below (below_regrown _ _ _))))
      | (go_at_call 17; exact Calls.regrown_of (known3_any _))))
    refine wpQuiet_nil ?_
    intro w4 hw4
    have HB4 := hidden (bthen HC3.out (rg_below hw4))
    clear hw4
    go_wp2
    go_ret
    exact ⟨rfl, bthen (ballc w _) HB4.out⟩
  · simp only [gate_no hE] at HR HL HI
    clear HK
    go_enter Try.func4, Try.ntmps4
    go_wp2_with fail
    refine (HP.out _ HT.out).mono ?_
    rintro e w2 ⟨rfl, hb⟩
    have HC := hidden hb
    clear hb
    obtain ⟨hbox, hsz⟩ := box_at HC.out
    go_wp2_with fail
    refine (HL.out _ (HT.out.below HC.out)).mono ?_
    rintro e w3 ⟨rfl, hb⟩
    have HC3 := hidden (bthen HC.out hb)
    clear hb hbox hsz
    obtain ⟨hbox, hsz⟩ := box_at HC3.out
    go_wp2_with fail
    refine (HR.out _ (HT.out.below HC3.out)).mono ?_
    rintro e w4 ⟨rfl, hb⟩
    have HC4 := hidden (bthen HC3.out hb)
    clear hb hbox hsz
    obtain ⟨hbox, hsz⟩ := box_at HC4.out
    go_wp2_with fail
    refine (HI.out _ (HT.out.below HC4.out)).mono ?_
    rintro e w5 ⟨rfl, hb⟩
    have HC5 := hidden (bthen HC4.out hb)
    clear hb hbox hsz
    obtain ⟨hbox, hsz⟩ := box_at HC5.out
    go_wp2_with fail
    refine (known3_any _).mono ?_
    rintro e w6 ⟨rfl, hb⟩
    have HC6 := hidden (bthen HC5.out hb)
    clear hb hbox hsz
    go_wp2
    go_ret
    exact ⟨rfl, bthen (ballc w _) HC6.out⟩
end Go.Proofs.Ytoemloggbljikaa.LawConfHalf
