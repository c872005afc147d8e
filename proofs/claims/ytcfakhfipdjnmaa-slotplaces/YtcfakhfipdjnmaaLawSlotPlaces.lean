/- The walk of the statement SlotPlaces: the call returns true, and makes at most new memory; conditions: the table lies where it says, its length and the numbers fit int. -/
import Derived.Test.YtcfakhfipdjnmaaBg
namespace Go.Proofs.Ytcfakhfipdjnmaa.LawSlotPlaces
open Go.ChangeShapes Go.WideShapes Go.ChangeAt Go.RowKit
set_option linter.unusedVariables false
attribute [local go_sem] cell_rg

set_option maxHeartbeats 2000000 in
theorem walk (n f d p r dr o sl md fr : Int) (ad : Option Addr) (cap : Nat) (zs : List Int) (a b t : Int) (w : World) (hl : zs.length ≤ 9223372036854775807) (hT : Tab w ad zs) (ha : -9223372036854775808 ≤ a ∧ a ≤ 9223372036854775807) (hb : -9223372036854775808 ≤ b ∧ b ≤ 9223372036854775807) (ht : -9223372036854775808 ≤ t ∧ t ≤ 9223372036854775807) :
    Calls Try.prog 7 #[.agg #[.int .i64 n, .int .i64 f, .int .i64 d, .int .i64 p, .int .i64 r, .int .i64 dr, .int .i64 o, .int .i64 sl, .int .i64 md, .int .i64 fr, .slice ad zs.length cap], .int .i64 a, .int .i64 b, .int .i64 t] w fun e w' => e = .returned (.bool true) ∧ Below w.heap.size w w' := by
  have HT : Hid (Tab (w.alloc (.cells #[.int .i64 n, .int .i64 f, .int .i64 d, .int .i64 p, .int .i64 r, .int .i64 dr, .int .i64 o, .int .i64 sl, .int .i64 md, .int .i64 fr, .slice ad zs.length cap] 24)) ad zs) := hT.below (ballc _ _)
  have E1 := hidden (fun V => Calls.to_below (Elapsed_any a b V))
  have E2 := hidden (fun V => Calls.to_below (rElapsed_any a b V))
  have A1 := hidden (fun V h => Now_any n f d p r dr o sl md fr ad cap zs a b V hl h)
  have A2 := hidden (fun V h => rNow_any n f d p r dr o sl md fr ad cap zs a b V hl h)
  have B1 := hidden (fun V h => Nominal_any n f d p r dr o sl md fr ad cap zs t V hl h)
  have B2 := hidden (fun V h => rNominal_any n f d p r dr o sl md fr ad cap zs t V hl h)
  generalize slotF (plainE n f d p r dr o sl md fr zs) o sl zs.length ((a - b) % 65536) = t1 at *
  generalize nomF (plainE n f d p r dr o sl md fr zs) r o sl zs.length t = t2 at *
  generalize (a - b) % 65536 = t3 at *
  clear hT
  go_enter Try.func7, Try.ntmps7
  go_wp2
  refine wp_region_quiet_below (by kernel_rfl) (by kernel_rfl) ?_
  repeat (go_big_quiet_step (first
    | (go_at_call 22; exact Calls.regrown_of (E1.out _))
    | (go_at_call 23; exact Calls.regrown_of (E2.out _))
    | (go_at_call 24; exact Calls.regrown_of (A1.out _ (HT.out.below (below_regrown _ _ _))))
    | (go_at_call 25; exact Calls.regrown_of (A2.out _ (HT.out.below (below_regrown _ _ _))))
    | (go_at_call 26; exact Calls.regrown_of (B1.out _ (HT.out.below (below_regrown _ _ _))))
    | (go_at_call 27; exact Calls.regrown_of (B2.out _ (HT.out.below (below_regrown _ _ _))))
    | (go_at_call 28; exact Calls.regrown_of (known22_any _))))
  refine wpQuiet_nil ?_
  intro w2 hw2
  have HB2 : Hid (Below w.heap.size w w2) := bthen (ballc w _) (rg_below hw2)
  clear hw2
  go_wp2
  go_ret
  exact ⟨rfl, HB2.out⟩
end Go.Proofs.Ytcfakhfipdjnmaa.LawSlotPlaces
