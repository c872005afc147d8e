/- The walk of the statement TallyCounts: the call returns true, and makes at most new memory; conditions: the table and the votes lie where they say, and lengths fit int. -/
import Derived.Test.YtklcjfbdneallaaTalK
import Derived.Test.YtklcjfbdneallaaTalS
namespace Go.Proofs.Ytklcjfbdneallaa.LawTallyCounts
open Go.ChangeShapes Go.WideShapes Go.ChangeAt Go.RowKit
set_option linter.unusedVariables false
attribute [local go_sem] cell_rg

set_option maxHeartbeats 2000000 in
theorem walk (n f d p r dr o sl md fr : Int) (ad : Option Addr) (cap : Nat) (zs : List Int) (v now : Int) (a2 : Option Addr) (c2 : Nat) (vs : List Int) (w : World) (hl : zs.length ≤ 9223372036854775807) (hT : Tab w ad zs) (_ : -9223372036854775808 ≤ v ∧ v ≤ 9223372036854775807) (_ : -9223372036854775808 ≤ now ∧ now ≤ 9223372036854775807) (hlv : vs.length ≤ 9223372036854775807) (hV : kInt.Lies w.heap.size w (.slice a2 vs.length c2) vs) :
    Calls Try.prog 3 #[.agg #[.int .i64 n, .int .i64 f, .int .i64 d, .int .i64 p, .int .i64 r, .int .i64 dr, .int .i64 o, .int .i64 sl, .int .i64 md, .int .i64 fr, .slice ad zs.length cap], .int .i64 v, .int .i64 now, .slice a2 vs.length c2] w fun e w' => e = .returned (.bool true) ∧ Below w.heap.size w w' := by
  have HT := hidden (hT.below (ballc w (.cells #[.int .i64 n, .int .i64 f, .int .i64 d, .int .i64 p, .int .i64 r, .int .i64 dr, .int .i64 o, .int .i64 sl, .int .i64 md, .int .i64 fr, .slice ad zs.length cap] 24)))
  have HV := hidden (hV.later (ballc w (.cells #[.int .i64 n, .int .i64 f, .int .i64 d, .int .i64 p, .int .i64 r, .int .i64 dr, .int .i64 o, .int .i64 sl, .int .i64 md, .int .i64 fr, .slice ad zs.length cap] 24)))
  have Q1 := hidden (fun V h => Quorum_any n f d p r dr o sl md fr ad cap zs V hl h)
  have Q2 := hidden (fun V h => rQuorum_any n f d p r dr o sl md fr ad cap zs V hl h)
  have S1 := hidden (fun V h => Some_any n f d p r dr o sl md fr ad cap zs V hl h)
  have S2 := hidden (fun V h => rSome_any n f d p r dr o sl md fr ad cap zs V hl h)
  have K1 := hidden (fun V h => Count_any v a2 vs.length c2 vs hlv V h)
  have K2 := hidden (fun V h => Calls.to_below (rCount_any v a2 vs.length c2 vs hlv V h))
  have E1 := hidden (fun V h h2 => Enough_any n f d p r dr o sl md fr ad cap zs v a2 vs.length c2 vs V hl h hlv h2)
  have E2 := hidden (fun V h h2 => rEnough_any n f d p r dr o sl md fr ad cap zs v a2 vs.length c2 vs V hl h hlv h2)
  have M1 := hidden (fun V h h2 => Most_any n f d p r dr o sl md fr ad cap zs a2 vs.length c2 vs V hl h hlv h2)
  have M2 := hidden (fun V h h2 => rMost_any n f d p r dr o sl md fr ad cap zs a2 vs.length c2 vs V hl h hlv h2)
  have L1 := hidden (fun V h h2 => Least_any n f d p r dr o sl md fr ad cap zs now a2 vs.length c2 vs V hl h hlv h2)
  have L2 := hidden (fun V h h2 => rLeast_any n f d p r dr o sl md fr ad cap zs now a2 vs.length c2 vs V hl h hlv h2)
  clear hT hV
  generalize plainE n f d p r dr o sl md fr zs = E at *
  generalize gate E (n - f) = q1 at *
  generalize gate E (f + 1) = q2 at *
  generalize cntF v vs = q3 at *
  generalize enoughB E n f v vs = q4 at *
  generalize mostF E n f vs = q5 at *
  generalize leastF E f now vs = q6 at *
  by_cases h60 : 60 < vs.length
  · have h60' : (60 : Int) < vs.length := by omega
    clear Q1 Q2 S1 S2 K1 K2 E1 E2 M1 M2 L1 L2 HT HV
    go_enter Try.func3, Try.ntmps3
    go_wp2_with (go_at_call 9; refine (known13_any _).mono ?_; rintro e w1 ⟨rfl, hb⟩)
    go_ret
    exact ⟨rfl, bthen (ballc w _) hb⟩
  have h60' : ¬ (60 : Int) < vs.length := by omega
  go_enter Try.func3, Try.ntmps3
  go_wp2
  refine wp_region_quiet_below (by kernel_rfl) (by kernel_rfl) ?_
  repeat (go_big_quiet_step (first
    | (go_at_call 10; exact Calls.regrown_of (Q1.out _ (HT.out.below (below_regrown _ _ _))))
    | (go_at_call 11; exact Calls.regrown_of (Q2.out _ (HT.out.below (below_regrown _ _ _))))
    | (go_at_call 12; exact Calls.regrown_of (S1.out _ (HT.out.below (below_regrown _ _ _))))
    | (go_at_call 13; exact Calls.regrown_of (S2.out _ (HT.out.below (below_regrown _ _ _))))
    | (go_at_call 14; exact Calls.regrown_of (K1.out _ (HV.out.later (below_regrown _ _ _))))
    | (go_at_call 15; exact Calls.regrown_of (K2.out _ (HV.out.later (below_regrown _ _ _))))
    | (go_at_call 16; exact Calls.regrown_of (E1.out _ (HT.out.below (below_regrown _ _ _)) (HV.out.later (below_regrown _ _ _))))
    | (go_at_call 17; exact Calls.regrown_of (E2.out _ (HT.out.below (below_regrown _ _ _)) (HV.out.later (below_regrown _ _ _))))
    | (go_at_call 18; exact Calls.regrown_of (M1.out _ (HT.out.below (below_regrown _ _ _)) (HV.out.later (below_regrown _ _ _))))
    | (go_at_call 19; exact Calls.regrown_of (M2.out _ (HT.out.below (below_regrown _ _ _)) (HV.out.later (below_regrown _ _ _))))
    | (go_at_call 20; exact Calls.regrown_of (L1.out _ (HT.out.below (below_regrown _ _ _)) (HV.out.later (below_regrown _ _ _))))
    | (go_at_call 21; exact Calls.regrown_of (L2.out _ (HT.out.below (below_regrown _ _ _)) (HV.out.later (below_regrown _ _ _))))
    | (go_at_call 9; exact Calls.regrown_of (known13_any _))))
  refine wpQuiet_nil ?_
  intro w2 hw2
  have HB2 : Hid (Below w.heap.size w w2) := bthen (ballc w _) (rg_below hw2)
  clear hw2
  go_wp2
  go_ret
  exact ⟨rfl, HB2.out⟩
end Go.Proofs.Ytklcjfbdneallaa.LawTallyCounts
