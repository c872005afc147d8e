/- The walk of the statement BoundPlaces: the call returns true, and makes at most new memory; conditions: the table lies where it says, and its length fits int. -/
import Derived.Test.YtoemloggbljikaaBndN
import Derived.Test.YtoemloggbljikaaBndP
namespace Go.Proofs.Ytoemloggbljikaa.LawBoundPlaces
open Go.ChangeShapes Go.WideShapes Go.ChangeAt Go.RowKit
set_option linter.unusedVariables false
attribute [local go_sem] cell_rg

set_option maxHeartbeats 1000000 in
theorem walk (n f d p r dr o sl md fr : Int) (ad : Option Addr) (cap : Nat) (zs : List Int) (s : Int) (w : World) (hl : zs.length ≤ 9223372036854775807) (hT : Tab w ad zs) (hs : -9223372036854775808 ≤ s ∧ s ≤ 9223372036854775807) :
    Calls Try.prog 6 #[.agg #[.int .i64 n, .int .i64 f, .int .i64 d, .int .i64 p, .int .i64 r, .int .i64 dr, .int .i64 o, .int .i64 sl, .int .i64 md, .int .i64 fr, .slice ad zs.length cap], .int .i64 s] w fun e w' => e = .returned (.bool true) ∧ Below w.heap.size w w' := by
  have HT : Hid (Tab (w.alloc (.cells #[.int .i64 n, .int .i64 f, .int .i64 d, .int .i64 p, .int .i64 r, .int .i64 dr, .int .i64 o, .int .i64 sl, .int .i64 md, .int .i64 fr, .slice ad zs.length cap] 24)) ad zs) := hT.below (ballc _ _)
  clear hT
  go_enter Try.func6, Try.ntmps6
  go_wp2
  refine wp_region_quiet_below (by kernel_rfl) (by kernel_rfl) ?_
  repeat (go_big_quiet_step (first
    | (go_at_call 18; exact Calls.regrown_of (BBegin_any _ _ _ _ _ _ _ _ _ _ _ _ _ _ _ hl (HT.out.below (below_regrown _ _ _))))
    | (go_at_call 19; exact Calls.regrown_of (RBegin_any _ _ _ _ _ _ _ _ _ _ _ _ _ _ _ hl (HT.out.below (below_regrown _ _ _))))
    | (go_at_call 20; exact Calls.regrown_of (BMiddle_any _ _ _ _ _ _ _ _ _ _ _ _ _ _ _ hl (HT.out.below (below_regrown _ _ _))))
    | (go_at_call 21; exact Calls.regrown_of (RMiddle_any _ _ _ _ _ _ _ _ _ _ _ _ _ _ _ hl (HT.out.below (below_regrown _ _ _))))
    | (go_at_call 22; exact Calls.regrown_of (known4_any _))))
  refine wpQuiet_nil ?_
  intro w2 hw2
  have HB2 : Hid (Below w.heap.size w w2) := bthen (ballc w _) (rg_below hw2)
  clear hw2
  go_wp2
  go_ret
  exact ⟨rfl, HB2.out⟩
end Go.Proofs.Ytoemloggbljikaa.LawBoundPlaces
