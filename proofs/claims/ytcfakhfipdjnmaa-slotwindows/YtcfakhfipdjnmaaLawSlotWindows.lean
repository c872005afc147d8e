/- The walk of the statement SlotWindows: the call returns true, and makes at most new memory; conditions: the table lies where it says, its length and the numbers fit int. -/
import Derived.Test.YtcfakhfipdjnmaaBg
import Derived.Test.YtcfakhfipdjnmaaBh
namespace Go.Proofs.Ytcfakhfipdjnmaa.LawSlotWindows
open Go.ChangeShapes Go.WideShapes Go.ChangeAt Go.RowKit
set_option linter.unusedVariables false
attribute [local go_sem] cell_rg

set_option maxHeartbeats 2000000 in
theorem walk (n f d p r dr o sl md fr : Int) (ad : Option Addr) (cap : Nat) (zs : List Int) (t k el : Int) (w : World) (hl : zs.length ≤ 9223372036854775807) (hT : Tab w ad zs) (ht : -9223372036854775808 ≤ t ∧ t ≤ 9223372036854775807) (hk : -9223372036854775808 ≤ k ∧ k ≤ 9223372036854775807) (he : -9223372036854775808 ≤ el ∧ el ≤ 9223372036854775807) :
    Calls Try.prog 8 #[.agg #[.int .i64 n, .int .i64 f, .int .i64 d, .int .i64 p, .int .i64 r, .int .i64 dr, .int .i64 o, .int .i64 sl, .int .i64 md, .int .i64 fr, .slice ad zs.length cap], .int .i64 t, .int .i64 k, .int .i64 el] w fun e w' => e = .returned (.bool true) ∧ Below w.heap.size w w' := by
  have HT : Hid (Tab (w.alloc (.cells #[.int .i64 n, .int .i64 f, .int .i64 d, .int .i64 p, .int .i64 r, .int .i64 dr, .int .i64 o, .int .i64 sl, .int .i64 md, .int .i64 fr, .slice ad zs.length cap] 24)) ad zs) := hT.below (ballc _ _)
  have A1 := hidden (fun V h => Window_any n f d p r dr o sl md fr ad cap zs k V hk hl h)
  have A2 := hidden (fun V h => rWindow_any n f d p r dr o sl md fr ad cap zs k V hk hl h)
  have B1 := hidden (fun V h => Clear_any n f d p r dr o sl md fr ad cap zs t V hl h)
  have B2 := hidden (fun V h => rClear_any n f d p r dr o sl md fr ad cap zs t V hl h)
  have C1 := hidden (fun V h => Hit_any n f d p r dr o sl md fr ad cap zs el V hl h)
  have C2 := hidden (fun V h => rHit_any n f d p r dr o sl md fr ad cap zs el V hl h)
  generalize win1 (plainE n f d p r dr o sl md fr zs) d r (guardF d r dr (lastE o sl zs)) o sl zs.length k = t1 at *
  generalize win2 (plainE n f d p r dr o sl md fr zs) d r (guardF d r dr (lastE o sl zs)) o sl zs.length k = t2 at *
  generalize clearB (plainE n f d p r dr o sl md fr zs) r dr o sl zs.length t = t3 at *
  generalize hitF (plainE n f d p r dr o sl md fr zs) d r (guardF d r dr (lastE o sl zs)) o sl zs.length el = t4 at *
  clear hT
  go_enter Try.func8, Try.ntmps8
  go_wp2_with fail
  refine (A1.out _ HT.out).mono ?_
  rintro e w2 ⟨rfl, hb2⟩
  have HB2 := hidden hb2
  have HT2 := hidden (HT.out.below hb2)
  clear hb2
  obtain ⟨hbox, hsz⟩ := box_at HB2.out
  go_wp2_with fail
  refine (A2.out _ HT2.out).mono ?_
  rintro e w3 ⟨rfl, hb3⟩
  have HB3 := hidden (bthen HB2.out hb3)
  have HT3 := hidden (HT2.out.below hb3)
  clear hb3 hbox hsz
  obtain ⟨hbox, hsz⟩ := box_at HB3.out
  go_wp2
  refine wp_region_quiet_below (by kernel_rfl) (by kernel_rfl) ?_
  repeat (go_big_quiet_step (first
    | (go_at_call 31; exact Calls.regrown_of (B1.out _ (HT3.out.below (below_regrown _ _ _))))
    | (go_at_call 32; exact Calls.regrown_of (B2.out _ (HT3.out.below (below_regrown _ _ _))))
    | (go_at_call 33; exact Calls.regrown_of (C1.out _ (HT3.out.below (below_regrown _ _ _))))
    | (go_at_call 34; exact Calls.regrown_of (C2.out _ (HT3.out.below (below_regrown _ _ _))))
    | (go_at_call 28; exact Calls.regrown_of (known22_any _))))
  refine wpQuiet_nil ?_
  intro w4 hw4
  have HB4 := hidden (bthen HB3.out (rg_below hw4))
  clear hw4 hbox hsz
  go_wp2
  go_ret
  exact ⟨rfl, bthen (ballc w _) HB4.out⟩
end Go.Proofs.Ytcfakhfipdjnmaa.LawSlotWindows
