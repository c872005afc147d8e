/- The call units of the statement BoundClocks returns how many units a clock goes at a tick, and makes at most new memory; conditions: rate and drift within their limits, the row lies where it says. -/
import Derived.Test.YtoemloggbljikabClockM
import Derived.Test.YtoemloggbljikabConfOpen
namespace Go.Proofs.Ytoemloggbljikab
open Go.ChangeShapes Go.WideShapes Go.ChangeAt Go.RowKit
set_option linter.unusedVariables false
attribute [local go_sem] cell_rg

set_option maxHeartbeats 1000000 in
theorem units_any (n f d p r dr o sl md fr : Int) (ad : Option Addr) (cap : Nat) (zs : List Int) (lad : Option Addr) (lcap : Nat) (ls : List Int) (t : Nat) (w : World) (r1 : 1 ≤ r) (r2 : r ≤ 64) (dr1 : 0 ≤ dr) (dr2 : dr ≤ r - 1) (ht : t ≤ 1000) (hll : ls.length ≤ 9223372036854775807) (hT : Tab w lad ls) :
    Calls Try.prog 7 #[.agg #[.int .i64 n, .int .i64 f, .int .i64 d, .int .i64 p, .int .i64 r, .int .i64 dr, .int .i64 o, .int .i64 sl, .int .i64 md, .int .i64 fr, .slice ad zs.length cap], .slice lad ls.length lcap, .int .i64 (t : Int)] w fun e w' => e = .returned (.int .i64 (unitE r dr ls t)) ∧ Below w.heap.size w w' := by
  by_cases hlt : t < ls.length
  · obtain ⟨a, rfl, hc, hal⟩ := (hT.below (ballc w (.cells #[.int .i64 n, .int .i64 f, .int .i64 d, .int .i64 p, .int .i64 r, .int .i64 dr, .int .i64 o, .int .i64 sl, .int .i64 md, .int .i64 fr, .slice ad zs.length cap] 24))).lies t hlt
    have HU : Hid (unitE r dr ls t = max (r - dr) (min (ls.getD t 0) (r + dr))) := if_pos hlt
    generalize ls.getD t 0 = x at hc HU
    have hal1 : (a.add t).block < w.heap.size + 1 := by simpa using hal
    have t1 : IntKind.i64.wrap (r - dr) = r - dr := IntWalk.i64_in _ (by omega)
    have t2 : IntKind.i64.wrap (r + dr) = r + dr := IntWalk.i64_in _ (by omega)
    clear hT
    have hx : r + dr < x ∨ (r - dr < x ∧ x ≤ r + dr) ∨ x ≤ r - dr := by omega
    rcases hx with h1 | ⟨h1, h2⟩ | h1
    case inl => have HV : Hid (unitE r dr ls t = r + dr) := by rw [HU.out]; exact (by omega : max (r - dr) (min x (r + dr)) = r + dr)
                clear HU
                go_enter Try.func7, Try.ntmps7
                go_wp2
                refine wp_region_quiet_below (by kernel_rfl) (by kernel_rfl) ?_
                repeat (go_big_quiet_step (fail))
                refine wpQuiet_nil ?_
                intro w2 hw2
                have HB2 := hidden (bthen (ballc w _) (rg_below hw2))
                clear hw2
                go_wp2
                all_goals
                  go_ret
                  exact ⟨ret_i (by rw [HV.out] <;> omega), HB2.out⟩
    case inr.inl => have HV : Hid (unitE r dr ls t = x) := by rw [HU.out]; exact (by omega : max (r - dr) (min x (r + dr)) = x)
                    clear HU
                    go_enter Try.func7, Try.ntmps7
                    go_wp2
                    refine wp_region_quiet_below (by kernel_rfl) (by kernel_rfl) ?_
                    repeat (go_big_quiet_step (fail))
                    refine wpQuiet_nil ?_
                    intro w2 hw2
                    have HB2 := hidden (bthen (ballc w _) (rg_below hw2))
                    clear hw2
                    go_wp2
                    all_goals
                      go_ret
                      exact ⟨ret_i (by rw [HV.out] <;> omega), HB2.out⟩
    case inr.inr => have HV : Hid (unitE r dr ls t = r - dr) := by rw [HU.out]; exact (by omega : max (r - dr) (min x (r + dr)) = r - dr)
                    clear HU
                    have h3 : x ≤ r + dr := by omega
                    go_enter Try.func7, Try.ntmps7
                    go_wp2
                    refine wp_region_quiet_below (by kernel_rfl) (by kernel_rfl) ?_
                    repeat (go_big_quiet_step (fail))
                    refine wpQuiet_nil ?_
                    intro w2 hw2
                    have HB2 := hidden (bthen (ballc w _) (rg_below hw2))
                    clear hw2
                    go_wp2
                    all_goals
                      go_ret
                      exact ⟨ret_i (by rw [HV.out] <;> omega), HB2.out⟩
  · have HU : Hid (unitE r dr ls t = r) := if_neg hlt
    go_enter Try.func7, Try.ntmps7
    go_wp2
    go_ret
    exact ⟨ret_i HU.out.symm, ballc _ _⟩
end Go.Proofs.Ytoemloggbljikab
