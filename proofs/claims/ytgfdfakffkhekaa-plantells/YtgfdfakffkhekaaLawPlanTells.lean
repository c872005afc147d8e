/- The walk of the statement PlanTells: the call returns true, and makes at most new memory; conditions: the table lies where it says, and its length fits int. -/
import Derived.Test.YtgfdfakffkhekaaPlaR
import Derived.Test.YtgfdfakffkhekaaPlaK
namespace Go.Proofs.Ytgfdfakffkhekaa.LawPlanTells
open Go.ChangeShapes Go.WideShapes Go.ChangeAt Go.RowKit
set_option linter.unusedVariables false
attribute [local go_sem] cell_rg

set_option maxHeartbeats 2000000 in
theorem walk (n f d p r dr o sl md fr : Int) (ad : Option Addr) (cap : Nat) (zs : List Int) (age x : Int) (w : World) (hl : zs.length ≤ 9223372036854775807) (hT : Tab w ad zs) (ha : -9223372036854775808 ≤ age ∧ age ≤ 9223372036854775807) (hx : -9223372036854775808 ≤ x ∧ x ≤ 9223372036854775807) :
    Calls Try.prog 3 #[.agg #[.int .i64 n, .int .i64 f, .int .i64 d, .int .i64 p, .int .i64 r, .int .i64 dr, .int .i64 o, .int .i64 sl, .int .i64 md, .int .i64 fr, .slice ad zs.length cap], .int .i64 age, .int .i64 x] w fun e w' => e = .returned (.bool true) ∧ Below w.heap.size w w' := by
  have HT : Hid (Tab (w.alloc (.cells #[.int .i64 n, .int .i64 f, .int .i64 d, .int .i64 p, .int .i64 r, .int .i64 dr, .int .i64 o, .int .i64 sl, .int .i64 md, .int .i64 fr, .slice ad zs.length cap] 24)) ad zs) := hT.below (ballc _ _)
  obtain ⟨R, hR, hR15, hd, _, _⟩ := rounds_nat n f d p r dr o sl md fr ad cap zs
  have A1 := hidden (fun V h => Tells_any n f d p r dr o sl md fr ad cap zs age R hR15 hd V hl h hR)
  have A2 := hidden (fun V h => rTells_any n f d p r dr o sl md fr ad cap zs age R hR15 hd V hl h hR)
  have B1 := hidden (fun V h => Hears_any n f d p r dr o sl md fr ad cap zs age R hR15 hd V hl h hR)
  have B2 := hidden (fun V h => rHears_any n f d p r dr o sl md fr ad cap zs age R hR15 hd V hl h hR)
  have C1 := hidden (fun V h => PKing_any n f d p r dr o sl md fr ad cap zs x R hx V hl h hR)
  have C2 := hidden (fun V h => rPKing_any n f d p r dr o sl md fr ad cap zs x R hx V hl h hR)
  generalize tellF R d age = t1 at *
  generalize hearF R d age = t2 at *
  generalize kingF R x = t3 at *
  clear hT hR hR15 hd
  go_enter Try.func3, Try.ntmps3
  go_wp2
  refine wp_region_quiet_below (by kernel_rfl) (by kernel_rfl) ?_
  repeat (go_big_quiet_step (first
    | (go_at_call 9; exact Calls.regrown_of (A1.out _ (HT.out.below (below_regrown _ _ _))))
    | (go_at_call 10; exact Calls.regrown_of (A2.out _ (HT.out.below (below_regrown _ _ _))))
    | (go_at_call 11; exact Calls.regrown_of (B1.out _ (HT.out.below (below_regrown _ _ _))))
    | (go_at_call 12; exact Calls.regrown_of (B2.out _ (HT.out.below (below_regrown _ _ _))))
    | (go_at_call 13; exact Calls.regrown_of (C1.out _ (HT.out.below (below_regrown _ _ _))))
    | (go_at_call 14; exact Calls.regrown_of (C2.out _ (HT.out.below (below_regrown _ _ _))))
    | (go_at_call 15; exact Calls.regrown_of (known15_any _))))
  refine wpQuiet_nil ?_
  intro w2 hw2
  have HB2 : Hid (Below w.heap.size w w2) := bthen (ballc w _) (rg_below hw2)
  clear hw2
  go_wp2
  go_ret
  exact ⟨rfl, HB2.out⟩
end Go.Proofs.Ytgfdfakffkhekaa.LawPlanTells
