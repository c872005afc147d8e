/- The walk of the statement BeatNext: the call returns true, and makes at most new memory; conditions: the table lies where it says, numbers and lengths fit int. -/
import Derived.Test.YtkolhbacgoafcaaBi
namespace Go.Proofs.Ytkolhbacgoafcaa.LawBeatNext
open Go.ChangeShapes Go.WideShapes Go.ChangeAt Go.RowKit
set_option linter.unusedVariables false
attribute [local go_sem] cell_rg

set_option maxHeartbeats 2000000 in
theorem walk (n f d p r dr o sl md fr : Int) (ad : Option Addr) (cap : Nat) (zs : List Int) (s r' : Int) (pulse : Bool) (w : World) (hl : zs.length ≤ 9223372036854775807) (hT : Tab w ad zs) (hs : -9223372036854775808 ≤ s ∧ s ≤ 9223372036854775807) (hr' : -9223372036854775808 ≤ r' ∧ r' ≤ 9223372036854775807) :
    Calls Try.prog 7 #[.agg #[.int .i64 n, .int .i64 f, .int .i64 d, .int .i64 p, .int .i64 r, .int .i64 dr, .int .i64 o, .int .i64 sl, .int .i64 md, .int .i64 fr, .slice ad zs.length cap], .int .i64 s, .int .i64 r', .bool pulse] w fun e w' => e = .returned (.bool true) ∧ Below w.heap.size w w' := by
  have KN := hidden (fun V => known18_any V)
  have HB0 := hidden (ballc w (.cells #[.int .i64 n, .int .i64 f, .int .i64 d, .int .i64 p, .int .i64 r, .int .i64 dr, .int .i64 o, .int .i64 sl, .int .i64 md, .int .i64 fr, .slice ad zs.length cap] 24))
  have HT := hidden (hT.below HB0.out)
  have HK := hidden (blk_nw w #[.int .i64 n, .int .i64 f, .int .i64 d, .int .i64 p, .int .i64 r, .int .i64 dr, .int .i64 o, .int .i64 sl, .int .i64 md, .int .i64 fr, .slice ad zs.length cap] 24)
  obtain ⟨R, D, L, hR, hL, hLD, hR15, hL60, hd, hd1, hd0⟩ := len_nat n f d p r dr o sl md fr ad cap zs
  have A1 := hidden (fun V h => BNext_any n f d p r dr o sl md fr ad cap zs s r' pulse V hl h hs hr')
  have A2 := hidden (fun V h => rNext_any n f d p r dr o sl md fr ad cap zs s r' pulse V hl h hs hr')
  have A3 := hidden (fun V h => BBit_any n f d p r dr o sl md fr ad cap zs L s V hl h hL hL60 hs)
  have A4 := hidden (fun V h => rBit_any n f d p r dr o sl md fr ad cap zs L s V hl h hL hL60 hs)
  clear hT hR hL hLD hd hd1 hd0
  generalize nxt1 (plainE n f d p r dr o sl md fr zs) p s pulse = x1 at *
  generalize nxt2 (plainE n f d p r dr o sl md fr zs) p s r' pulse = x2 at *
  generalize bitI (plainE n f d p r dr o sl md fr zs) p L s = x3 at *
  go_enter Try.func7, Try.ntmps7
  go_wp2_with fail
  refine (A1.out _ HT.out).mono ?_
  rintro e w2 ⟨rfl, hb⟩
  have HB2 := hidden (bthen HB0.out hb)
  have HT2 := hidden (HT.out.below hb)
  have HK2 := hidden (blk_later HK.out hb)
  have c0 := blk_cell HK2.out
  have l0 := blk_lt HK2.out
  clear hb HT HK A1
  go_wp2_with fail
  refine (A2.out _ HT2.out).mono ?_
  rintro e w3 ⟨rfl, hb⟩
  have HB3 := hidden (bthen HB2.out hb)
  have HT3 := hidden (HT2.out.below hb)
  have HK3 := hidden (blk_later HK2.out hb)
  clear hb HT2 HK2 A2 c0 l0
  have c0 := blk_cell HK3.out
  have l0 := blk_lt HK3.out
  go_wp2
  refine wp_region_quiet_below (by kernel_rfl) (by kernel_rfl) ?_
  repeat (go_big_quiet_step (first | (go_at_call 25; exact Calls.regrown_of (A3.out _ (HT3.out.below (below_regrown _ _ _)))) | (go_at_call 26; exact Calls.regrown_of (A4.out _ (HT3.out.below (below_regrown _ _ _)))) | (go_at_call 27; exact Calls.regrown_of (KN.out _))))
  refine wpQuiet_nil ?_
  intro w5 hw5
  have HB5 := hidden (bthen HB3.out (rg_below hw5))
  clear hw5 c0 l0
  go_wp2
  go_ret
  exact ⟨rfl, HB5.out⟩
end Go.Proofs.Ytkolhbacgoafcaa.LawBeatNext
