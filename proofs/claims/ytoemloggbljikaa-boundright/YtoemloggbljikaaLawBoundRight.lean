/- The walk of the statement BoundRight: the call returns true, and makes at most new memory; conditions: the table lies where it says, and its length fits int. -/
import Derived.Test.YtoemloggbljikaaBndN
import Derived.Test.YtoemloggbljikaaBndT
namespace Go.Proofs.Ytoemloggbljikaa.LawBoundRight
open Go.ChangeShapes Go.WideShapes Go.ChangeAt Go.RowKit
set_option linter.unusedVariables false
attribute [local go_sem] cell_rg

set_option maxHeartbeats 1000000 in
theorem walk (n f d p r dr o sl md fr : Int) (ad : Option Addr) (cap : Nat) (zs : List Int) (w : World) (hl : zs.length ≤ 9223372036854775807) (hT : Tab w ad zs) :
    Calls Try.prog 7 #[.agg #[.int .i64 n, .int .i64 f, .int .i64 d, .int .i64 p, .int .i64 r, .int .i64 dr, .int .i64 o, .int .i64 sl, .int .i64 md, .int .i64 fr, .slice ad zs.length cap]] w fun e w' => e = .returned (.bool true) ∧ Below w.heap.size w w' := by
  have HT : Hid (Tab (w.alloc (.cells #[.int .i64 n, .int .i64 f, .int .i64 d, .int .i64 p, .int .i64 r, .int .i64 dr, .int .i64 o, .int .i64 sl, .int .i64 md, .int .i64 fr, .slice ad zs.length cap] 24)) ad zs) := hT.below (ballc _ _)
  clear hT
  go_enter Try.func7, Try.ntmps7
  go_wp2
  refine wp_region_quiet_below (by kernel_rfl) (by kernel_rfl) ?_
  repeat (go_big_quiet_step (first
    | (go_at_call 23; exact Calls.regrown_of (BRight_any _ _ _ _ _ _ _ _ _ _ _ _ _ _ hl (HT.out.below (below_regrown _ _ _))))
    | (go_at_call 24; exact Calls.regrown_of (RRight_any _ _ _ _ _ _ _ _ _ _ _ _ _ _ hl (HT.out.below (below_regrown _ _ _))))
    | (go_at_call 25; exact Calls.regrown_of (BGuard_any _ _ _ _ _ _ _ _ _ _ _ _ _ _ hl (HT.out.below (below_regrown _ _ _))))
    | (go_at_call 26; exact Calls.regrown_of (RGuard_any _ _ _ _ _ _ _ _ _ _ _ _ _ _ hl (HT.out.below (below_regrown _ _ _))))
    | (go_at_call 27; exact Calls.regrown_of (BSettle_any _ _ _ _ _ _ _ _ _ _ _ _ _ _ hl (HT.out.below (below_regrown _ _ _))))
    | (go_at_call 28; exact Calls.regrown_of (RSettle_any _ _ _ _ _ _ _ _ _ _ _ _ _ _ hl (HT.out.below (below_regrown _ _ _))))
    | (go_at_call 29; exact Calls.regrown_of (BAll_any _ _ _ _ _ _ _ _ _ _ _ _ _ _ hl (HT.out.below (below_regrown _ _ _))))
    | (go_at_call 30; exact Calls.regrown_of (RAll_any _ _ _ _ _ _ _ _ _ _ _ _ _ _ hl (HT.out.below (below_regrown _ _ _))))
    | (go_at_call 22; exact Calls.regrown_of (known4_any _))))
  refine wpQuiet_nil ?_
  intro w2 hw2
  have HB2 : Hid (Below w.heap.size w w2) := bthen (ballc w _) (rg_below hw2)
  clear hw2
  go_wp2
  go_ret
  exact ⟨rfl, HB2.out⟩
end Go.Proofs.Ytoemloggbljikaa.LawBoundRight
