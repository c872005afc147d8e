/- The walk of the statement DiagCounts: the call returns true, and makes at most new memory; conditions: the row lies where it says, and numbers fit int. -/
import Derived.Test.YtjkliandhcegeaaDiaK
namespace Go.Proofs.Ytjkliandhcegeaa.LawDiagCounts
open Go.ChangeShapes Go.WideShapes Go.ChangeAt Go.RowKit
set_option linter.unusedVariables false
attribute [local go_sem] cell_rg eql6 eqIn6

set_option maxHeartbeats 4000000 in
theorem walk (x y : Nat → Int) (ad : Option Addr) (cap : Nat) (zs : List Int) (e : Int) (w : World) (hx : ∀ i, (Lit.int .i64 (x i)).wf = true) (hy : ∀ i, (Lit.int .i64 (y i)).wf = true) (hl : zs.length ≤ 9223372036854775807) (hZ : kInt.Lies w.heap.size w (.slice ad zs.length cap) zs) :
    Calls Try.prog 3 #[.agg #[.int .i64 (x 0), .int .i64 (x 1), .int .i64 (x 2), .int .i64 (x 3), .int .i64 (x 4), .int .i64 (x 5)], .agg #[.int .i64 (y 0), .int .i64 (y 1), .int .i64 (y 2), .int .i64 (y 3), .int .i64 (y 4), .int .i64 (y 5)], .slice ad zs.length cap, .int .i64 e] w fun e w' => e = .returned (.bool true) ∧ Below w.heap.size w w' := by
  have hB0 : Below w.heap.size w ((w.alloc (.cells #[.int .i64 (x 0), .int .i64 (x 1), .int .i64 (x 2), .int .i64 (x 3), .int .i64 (x 4), .int .i64 (x 5)] 22)).alloc (.cells #[.int .i64 (y 0), .int .i64 (y 1), .int .i64 (y 2), .int .i64 (y 3), .int .i64 (y 4), .int .i64 (y 5)] 22)) := ((Below.refl _ w).alloc (Nat.le_refl _) _).alloc (by simp) _
  have HZ := hidden (hZ.later hB0)
  have HB := hidden hB0
  have HX := hidden hx
  clear hZ hB0 hx hy
  by_cases h40 : 40 < zs.length
  · have h40' : (40 : Int) < zs.length := by omega
    go_enter Try.func3, Try.ntmps3
    go_wp2_with (go_at_call 9; refine (known9_any _).mono ?_; rintro e w1 ⟨rfl, hb⟩)
    go_ret
    exact ⟨rfl, bthen HB.out hb⟩
  have h40' : ¬ (40 : Int) < zs.length := by omega
  go_enter Try.func3, Try.ntmps3
  go_wp2
  refine wp_region_quiet_below (by kernel_rfl) (by kernel_rfl) ?_
  repeat (go_big_quiet_step (first
    | (go_at_call 10; exact Calls.regrown_of (Bump_any _ HX.out _ _ _ _ hl _ (HZ.out.later (below_regrown _ _ _))))
    | (go_at_call 11; exact Calls.regrown_of (rBump_any _ HX.out _ _ _ _ hl _ (HZ.out.later (below_regrown _ _ _))))
    | (go_at_call 12; exact Calls.regrown_of (DClean_any _ _))
    | (go_at_call 13; exact Calls.regrown_of (rDClean_any _ _))
    | (go_at_call 14; exact Calls.regrown_of (DAdd_any _ _ _))
    | (go_at_call 15; exact Calls.regrown_of (rDAdd_any _ _ _))
    | (go_at_call 16; exact Calls.regrown_of (DTotal_any _ _))
    | (go_at_call 17; exact Calls.regrown_of (rDTotal_any _ _))
    | (go_at_call 18; exact Calls.regrown_of (Calls.to_below (DKind_any _ _)))
    | (go_at_call 19; exact Calls.regrown_of (Calls.to_below (rDKind_any _ _)))
    | (go_at_call 9; exact Calls.regrown_of (known9_any _))))
  refine wpQuiet_nil ?_
  intro w2 hw2
  have HB2 : Hid (Below w.heap.size w w2) := bthen HB.out (rg_below hw2)
  clear hw2
  go_wp2
  go_ret
  exact ⟨rfl, HB2.out⟩
end Go.Proofs.Ytjkliandhcegeaa.LawDiagCounts
