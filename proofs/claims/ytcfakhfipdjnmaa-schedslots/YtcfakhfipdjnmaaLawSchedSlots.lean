/- The walk of the statement SchedSlots: the call returns true, and makes at most new memory; conditions: the table lies where it says, its length, the text's length and the numbers fit int. -/
import Derived.Test.YtcfakhfipdjnmaaBd
import Derived.Test.YtcfakhfipdjnmaaBe
namespace Go.Proofs.Ytcfakhfipdjnmaa.LawSchedSlots
open Go.ChangeShapes Go.WideShapes Go.ChangeAt Go.RowKit
set_option linter.unusedVariables false
attribute [local go_sem] cell_rg

set_option maxHeartbeats 2000000 in
theorem walk (n f d p r dr o sl md fr : Int) (ad : Option Addr) (cap : Nat) (zs : List Int) (x el : Int) (s : ByteArray) (w : World) (hl : zs.length ≤ 9223372036854775807) (hT : Tab w ad zs) (hx : -9223372036854775808 ≤ x ∧ x ≤ 9223372036854775807) (he : -9223372036854775808 ≤ el ∧ el ≤ 9223372036854775807) (hs : s.size ≤ 9223372036854775807) :
    Calls Try.prog 3 #[.agg #[.int .i64 n, .int .i64 f, .int .i64 d, .int .i64 p, .int .i64 r, .int .i64 dr, .int .i64 o, .int .i64 sl, .int .i64 md, .int .i64 fr, .slice ad zs.length cap], .int .i64 x, .int .i64 el, .string s] w fun e w' => e = .returned (.bool true) ∧ Below w.heap.size w w' := by
  by_cases h60 : 60 < s.size
  · have e1 : (60 : Int) < (s.size : Int) := by omega
    clear hT
    go_enter Try.func3, Try.ntmps3
    go_wp2_with fail
    refine (known21_any _).mono ?_
    rintro e w2 ⟨rfl, hb⟩
    have HB := hidden (bthen (ballc w _) hb)
    clear hb
    go_wp2
    go_ret
    exact ⟨rfl, HB.out⟩
  have e1 : ¬ (60 : Int) < (s.size : Int) := by omega
  have HT : Hid (Tab (w.alloc (.cells #[.int .i64 n, .int .i64 f, .int .i64 d, .int .i64 p, .int .i64 r, .int .i64 dr, .int .i64 o, .int .i64 sl, .int .i64 md, .int .i64 fr, .slice ad zs.length cap] 24)) ad zs) := hT.below (ballc _ _)
  have A1 := hidden (fun V h => SSlot_any n f d p r dr o sl md fr ad cap zs el V he hl h)
  have A2 := hidden (fun V h => rSlot_any n f d p r dr o sl md fr ad cap zs el V he hl h)
  have B1 := hidden (fun V h => SOwner_any n f d p r dr o sl md fr ad cap zs x V hx hl h)
  have B2 := hidden (fun V h => rOwner_any n f d p r dr o sl md fr ad cap zs x V hx hl h)
  have C1 := hidden (fun V h => Due_any n f d p r dr o sl md fr ad cap zs x el s V he hs hl h)
  have C2 := hidden (fun V h => rDue_any n f d p r dr o sl md fr ad cap zs x el s V he hs hl h)
  generalize slotF (plainE n f d p r dr o sl md fr zs) o sl zs.length el = t1 at *
  generalize ownF (plainE n f d p r dr o sl md fr zs) zs x = t2 at *
  generalize dueF (plainE n f d p r dr o sl md fr zs) o sl r dr zs x el s = t3 at *
  clear hT
  go_enter Try.func3, Try.ntmps3
  go_wp2
  refine wp_region_quiet_below (by kernel_rfl) (by kernel_rfl) ?_
  repeat (go_big_quiet_step (first
    | (go_at_call 10; exact Calls.regrown_of (A1.out _ (HT.out.below (below_regrown _ _ _))))
    | (go_at_call 11; exact Calls.regrown_of (A2.out _ (HT.out.below (below_regrown _ _ _))))
    | (go_at_call 12; exact Calls.regrown_of (B1.out _ (HT.out.below (below_regrown _ _ _))))
    | (go_at_call 13; exact Calls.regrown_of (B2.out _ (HT.out.below (below_regrown _ _ _))))
    | (go_at_call 14; exact Calls.regrown_of (C1.out _ (HT.out.below (below_regrown _ _ _))))
    | (go_at_call 15; exact Calls.regrown_of (C2.out _ (HT.out.below (below_regrown _ _ _))))
    | (go_at_call 9; exact Calls.regrown_of (known21_any _))))
  refine wpQuiet_nil ?_
  intro w2 hw2
  have HB2 : Hid (Below w.heap.size w w2) := bthen (ballc w _) (rg_below hw2)
  clear hw2
  go_wp2
  go_ret
  exact ⟨rfl, HB2.out⟩
end Go.Proofs.Ytcfakhfipdjnmaa.LawSchedSlots
