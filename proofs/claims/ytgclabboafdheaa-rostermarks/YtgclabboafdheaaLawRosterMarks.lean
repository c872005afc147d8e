/- The walk of the statement RosterMarks: the call returns true, and makes at most new memory; conditions: the row lies where it says, lengths fit int. -/
import Derived.Test.YtgclabboafdheaaBa
namespace Go.Proofs.Ytgclabboafdheaa.LawRosterMarks
open Go.ChangeShapes Go.WideShapes Go.ChangeAt Go.RowKit
set_option linter.unusedVariables false
attribute [local go_sem] cell_rg

set_option maxRecDepth 100000 in
set_option maxHeartbeats 4000000 in
theorem walk (n f d p r dr o sl md fr : Int) (ad : Option Addr) (cap : Nat) (zs : List Int) (s t : ByteArray) (a2 : Option Addr) (c2 : Nat) (vs : List Int) (w : World) (hl : zs.length ≤ 9223372036854775807) (hT : Tab w ad zs) (hs : s.size ≤ 9223372036854775807) (ht : t.size ≤ 9223372036854775807) (hlv : vs.length ≤ 9223372036854775807) (hV : kInt.Lies w.heap.size w (.slice a2 vs.length c2) vs) :
    Calls Try.prog 3 #[.agg #[.int .i64 n, .int .i64 f, .int .i64 d, .int .i64 p, .int .i64 r, .int .i64 dr, .int .i64 o, .int .i64 sl, .int .i64 md, .int .i64 fr, .slice ad zs.length cap], .string s, .string t, .slice a2 vs.length c2] w fun e w' => e = .returned (.bool true) ∧ Below w.heap.size w w' := by
  have k0 := blk_nw w #[.int .i64 n, .int .i64 f, .int .i64 d, .int .i64 p, .int .i64 r, .int .i64 dr, .int .i64 o, .int .i64 sl, .int .i64 md, .int .i64 fr, .slice ad zs.length cap] 24
  have HB0 := hidden (ballc w (.cells #[.int .i64 n, .int .i64 f, .int .i64 d, .int .i64 p, .int .i64 r, .int .i64 dr, .int .i64 o, .int .i64 sl, .int .i64 md, .int .i64 fr, .slice ad zs.length cap] 24))
  have HV := hidden (hV.later HB0.out)
  have C1 := hidden (fun V => RBlank_any n f d p r dr o sl md fr ad cap zs V)
  have C2 := hidden (fun V => r25Blank_any n f d p r dr o sl md fr ad cap zs V)
  have C3 := hidden (fun V h => RMark_any n f d p r dr o sl md fr ad cap zs s a2 c2 vs V hs hlv h)
  have C4 := hidden (fun V h => r25Mark_any n f d p r dr o sl md fr ad cap zs s a2 c2 vs V hs hlv h)
  have C5 := hidden (fun V => Both_any n f d p r dr o sl md fr ad cap zs s t V hs ht)
  have C6 := hidden (fun V => r25Both_any n f d p r dr o sl md fr ad cap zs s t V hs ht)
  have CK := hidden (fun V => known25_any V)
  have b0 := blk_cell k0
  have l0 := blk_lt k0
  generalize markB ⟨#[]⟩ n [] = x1 at *
  generalize markB s n vs = x2 at *
  generalize bothB n s t = x3 at *
  clear hT hV k0
  by_cases h1 : 100 < s.size
  · have d1 : decide ((100 : Int) < (s.size : Int)) = true := decide_eq_true (by omega)
    have d2 : decide (100 < s.size) = true := decide_eq_true h1
    clear C1 C2 C3 C4 C5 C6
    go_enter Try.func3, Try.ntmps3
    go_wp2_with fail
    refine (CK.out _).mono ?_
    rintro e w2 ⟨rfl, hb2⟩
    have HB2 := hidden (bthen HB0.out hb2)
    clear hb2 b0 l0
    go_wp2
    go_ret
    exact ⟨rfl, HB2.out⟩
  have d1 : decide ((100 : Int) < (s.size : Int)) = false := decide_eq_false (by omega)
  have d2 : decide (100 < s.size) = false := decide_eq_false h1
  by_cases h2 : 100 < t.size
  · have d3 : decide ((100 : Int) < (t.size : Int)) = true := decide_eq_true (by omega)
    have d4 : decide (100 < t.size) = true := decide_eq_true h2
    clear C1 C2 C3 C4 C5 C6
    go_enter Try.func3, Try.ntmps3
    go_wp2_with fail
    refine (CK.out _).mono ?_
    rintro e w2 ⟨rfl, hb2⟩
    have HB2 := hidden (bthen HB0.out hb2)
    clear hb2 b0 l0
    go_wp2
    go_ret
    exact ⟨rfl, HB2.out⟩
  have d3 : decide ((100 : Int) < (t.size : Int)) = false := decide_eq_false (by omega)
  have d4 : decide (100 < t.size) = false := decide_eq_false h2
  by_cases h3 : 40 < vs.length
  · have d5 : decide ((40 : Int) < (vs.length : Int)) = true := decide_eq_true (by omega)
    have d6 : decide (40 < vs.length) = true := decide_eq_true h3
    clear C1 C2 C3 C4 C5 C6
    go_enter Try.func3, Try.ntmps3
    go_wp2_with fail
    refine (CK.out _).mono ?_
    rintro e w2 ⟨rfl, hb2⟩
    have HB2 := hidden (bthen HB0.out hb2)
    clear hb2 b0 l0
    go_wp2
    go_ret
    exact ⟨rfl, HB2.out⟩
  have d5 : decide ((40 : Int) < (vs.length : Int)) = false := decide_eq_false (by omega)
  have d6 : decide (40 < vs.length) = false := decide_eq_false h3
  go_enter Try.func3, Try.ntmps3
  go_wp2
  generalize w.alloc (.cells #[.int .i64 n, .int .i64 f, .int .i64 d, .int .i64 p, .int .i64 r, .int .i64 dr, .int .i64 o, .int .i64 sl, .int .i64 md, .int .i64 fr, .slice ad zs.length cap] 24) = W0 at *
  refine wp_region_quiet_below (by kernel_rfl) (by kernel_rfl) ?_
  repeat (go_big_quiet_step (first
    | (go_at_call 10; exact Calls.regrown_of (C1.out _))
    | (go_at_call 11; exact Calls.regrown_of (C2.out _))
    | (go_at_call 12; exact Calls.regrown_of (C3.out _ (HV.out.later (below_regrown _ _ _))))
    | (go_at_call 13; exact Calls.regrown_of (C4.out _ (HV.out.later (below_regrown _ _ _))))
    | (go_at_call 14; exact Calls.regrown_of (C5.out _))
    | (go_at_call 15; exact Calls.regrown_of (C6.out _))
    | (go_at_call 9; exact Calls.regrown_of (CK.out _))))
  refine wpQuiet_nil ?_
  intro w3 hw3
  have HB3 := hidden (bthen HB0.out (rg_below hw3))
  clear hw3 b0 l0
  go_wp2
  go_ret
  exact ⟨rfl, HB3.out⟩
end Go.Proofs.Ytgclabboafdheaa.LawRosterMarks
