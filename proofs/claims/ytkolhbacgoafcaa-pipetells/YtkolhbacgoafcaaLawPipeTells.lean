/- The walk of the statement PipeTells: the call returns true, and makes at most new memory; conditions: the table lies where it says, lengths fit int. -/
import Derived.Test.YtkolhbacgoafcaaBg
import Derived.Test.YtkolhbacgoafcaaBh
namespace Go.Proofs.Ytkolhbacgoafcaa.LawPipeTells
open Go.ChangeShapes Go.WideShapes Go.ChangeAt Go.RowKit
set_option linter.unusedVariables false
attribute [local go_sem] cell_rg

set_option maxHeartbeats 2000000 in
theorem walk (n f d p r dr o sl md fr : Int) (ad : Option Addr) (cap : Nat) (zs : List Int) (s : ByteArray) (bit : Int) (w : World) (hl : zs.length ≤ 9223372036854775807) (hT : Tab w ad zs) (hs : s.size ≤ 9223372036854775807) (hbit : -9223372036854775808 ≤ bit ∧ bit ≤ 9223372036854775807) :
    Calls Try.prog 3 #[.agg #[.int .i64 n, .int .i64 f, .int .i64 d, .int .i64 p, .int .i64 r, .int .i64 dr, .int .i64 o, .int .i64 sl, .int .i64 md, .int .i64 fr, .slice ad zs.length cap], .string s, .int .i64 bit] w fun e w' => e = .returned (.bool true) ∧ Below w.heap.size w w' := by
  have KN := hidden (fun V => known17_any V)
  have HB0 := hidden (ballc w (.cells #[.int .i64 n, .int .i64 f, .int .i64 d, .int .i64 p, .int .i64 r, .int .i64 dr, .int .i64 o, .int .i64 sl, .int .i64 md, .int .i64 fr, .slice ad zs.length cap] 24))
  have HT : Hid (Tab (w.alloc (.cells #[.int .i64 n, .int .i64 f, .int .i64 d, .int .i64 p, .int .i64 r, .int .i64 dr, .int .i64 o, .int .i64 sl, .int .i64 md, .int .i64 fr, .slice ad zs.length cap] 24)) ad zs) := hT.below (ballc _ _)
  clear hT
  by_cases h1 : (100 : Int) < (s.size : Int)
  · have d1 : decide ((100 : Int) < (s.size : Int)) = true := decide_eq_true h1
    clear HT
    go_enter Try.func3, Try.ntmps3
    go_wp2_with fail
    refine (KN.out _).mono ?_
    rintro e w2 ⟨rfl, hb⟩
    have HB2 := hidden (bthen HB0.out hb)
    clear hb
    go_wp2
    go_ret
    exact ⟨rfl, HB2.out⟩
  · have d1 : decide ((100 : Int) < (s.size : Int)) = false := decide_eq_false h1
    obtain ⟨R, D, L, hR, hL, hLD, hR15, hL60, hd, hd1, hd0⟩ := len_nat n f d p r dr o sl md fr ad cap zs
    have hL1 : plainE n f d p r dr o sl md fr zs = 0 → 1 ≤ L := fun h => by
      obtain ⟨q1, q2, q3, q4⟩ := hd1 h
      obtain ⟨_, _, f1, _⟩ := plainE_ok h
      rw [hLD]
      exact Nat.mul_pos (by omega) q3
    have A1 := hidden (fun V h => PBlank_any n f d p r dr o sl md fr ad cap zs L V hl h hL hL60)
    have A2 := hidden (fun V h => rPBlank_any n f d p r dr o sl md fr ad cap zs L V hl h hL hL60)
    have B1 := hidden (fun V h => Tell_any n f d p r dr o sl md fr ad cap zs R D L s hs V hl h hR hL hR15 hL60 hLD hd)
    have B2 := hidden (fun V h => rPTell_any n f d p r dr o sl md fr ad cap zs R D L s V hl h hR hL hR15 hL60 hLD hd)
    have C1 := hidden (fun V h => Begin_any n f d p r dr o sl md fr ad cap zs L s bit hs V hl h hL hL60)
    have C2 := hidden (fun V h => rPBegin_any n f d p r dr o sl md fr ad cap zs L s bit V hl h hL hL60 hL1)
    clear hR hL hLD hd hd1 hd0 hL1
    generalize ba (zerL L) = t1 at *
    generalize dgB R (valG (ba (tellL D (wellL L s) R))) = t2 at *
    generalize ba ((wellL L s).set 0 (begC8 bit)) = t3 at *
    go_enter Try.func3, Try.ntmps3
    go_wp2
    refine wp_region_quiet_below (by kernel_rfl) (by kernel_rfl) ?_
    repeat (go_big_quiet_step (first
      | (go_at_call 9; exact Calls.regrown_of (A1.out _ (HT.out.below (below_regrown _ _ _))))
      | (go_at_call 10; exact Calls.regrown_of (A2.out _ (HT.out.below (below_regrown _ _ _))))
      | (go_at_call 11; exact Calls.regrown_of (B1.out _ (HT.out.below (below_regrown _ _ _))))
      | (go_at_call 12; exact Calls.regrown_of (B2.out _ (HT.out.below (below_regrown _ _ _))))
      | (go_at_call 13; exact Calls.regrown_of (C1.out _ (HT.out.below (below_regrown _ _ _))))
      | (go_at_call 14; exact Calls.regrown_of (C2.out _ (HT.out.below (below_regrown _ _ _))))
      | (go_at_call 8; exact Calls.regrown_of (KN.out _))))
    refine wpQuiet_nil ?_
    intro w6 hw6
    have HB6 := hidden (bthen HB0.out (rg_below hw6))
    clear hw6
    go_wp2
    go_ret
    exact ⟨rfl, HB6.out⟩
end Go.Proofs.Ytkolhbacgoafcaa.LawPipeTells
