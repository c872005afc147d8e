/- The walk of the statement NumberNext: the call returns true, and makes at most new memory; conditions: the table lies where it says, and lengths fit int. -/
import Derived.Test.YtohgmliafidalaaNbrD
import Derived.Test.YtohgmliafidalaaNbrK
namespace Go.Proofs.Ytohgmliafidalaa.LawNumberNext
open Go.ChangeShapes Go.WideShapes Go.ChangeAt Go.RowKit
set_option linter.unusedVariables false
attribute [local go_sem] cell_rg

set_option maxRecDepth 100000 in
set_option maxHeartbeats 4000000 in
theorem walk (n f d p r dr o sl md fr : Int) (ad : Option Addr) (cap : Nat) (zs : List Int) (own : Int) (was agreed : ByteArray) (w : World) (hl : zs.length ≤ 9223372036854775807) (hT : Tab w ad zs) (ho : -9223372036854775808 ≤ own ∧ own ≤ 9223372036854775807) (hs1 : was.size ≤ 9223372036854775807) (hs2 : agreed.size ≤ 9223372036854775807) :
    Calls Try.prog 7 #[.agg #[.int .i64 n, .int .i64 f, .int .i64 d, .int .i64 p, .int .i64 r, .int .i64 dr, .int .i64 o, .int .i64 sl, .int .i64 md, .int .i64 fr, .slice ad zs.length cap], .int .i64 own, .string was, .string agreed] w fun e w' => e = .returned (.bool true) ∧ Below w.heap.size w w' := by
  have KN := hidden (fun V => known20_any V)
  have HB0 := hidden (ballc w (.cells #[.int .i64 n, .int .i64 f, .int .i64 d, .int .i64 p, .int .i64 r, .int .i64 dr, .int .i64 o, .int .i64 sl, .int .i64 md, .int .i64 fr, .slice ad zs.length cap] 24))
  by_cases h1 : was.size ≤ 60
  · have d1 : decide ((60 : Int) < (was.size : Int)) = false := decide_eq_false (by omega)
    by_cases h2 : agreed.size ≤ 60
    · have d2 : decide ((60 : Int) < (agreed.size : Int)) = false := decide_eq_false (by omega)
      have HK := hidden (blk_nw w #[.int .i64 n, .int .i64 f, .int .i64 d, .int .i64 p, .int .i64 r, .int .i64 dr, .int .i64 o, .int .i64 sl, .int .i64 md, .int .i64 fr, .slice ad zs.length cap] 24)
      have HT := hidden (hT.below HB0.out)
      have A1 := hidden (fun V h => NNext_any n f d p r dr o sl md fr ad cap zs own agreed V hl h ho hs2)
      have A2 := hidden (fun V h => rNNext_any n f d p r dr o sl md fr ad cap zs own agreed V hl h ho hs2)
      have A3 := hidden (fun V h => NMembers_all n f d p r dr o sl md fr ad cap zs was agreed V hl h hs1 hs2)
      have A4 := hidden (fun V h => rNMembers_all n f d p r dr o sl md fr ad cap zs was agreed V hl h hs1 hs2)
      generalize nextF (plainE n f d p r dr o sl md fr zs) md own agreed = z at *
      generalize memF (plainE n f d p r dr o sl md fr zs) n.toNat was agreed = mt at *
      have j1 : (z == z) = true := by simp
      have c0 := blk_cell HK.out
      have l0 := blk_lt HK.out
      clear hT
      go_enter Try.func7, Try.ntmps7
      go_wp2
      generalize w.alloc (.cells #[.int .i64 n, .int .i64 f, .int .i64 d, .int .i64 p, .int .i64 r, .int .i64 dr, .int .i64 o, .int .i64 sl, .int .i64 md, .int .i64 fr, .slice ad zs.length cap] 24) = wa at *
      refine wp_region_quiet_below (by kernel_rfl) (by kernel_rfl) ?_
      repeat (go_big_quiet_step (fail))
      go_big_quiet_step ((go_at_call 27; exact Calls.regrown_of (A1.out _ (HT.out.below (below_regrown _ _ _)))))
      repeat (go_big_quiet_step (fail))
      go_big_quiet_step ((go_at_call 28; exact Calls.regrown_of (A2.out _ (HT.out.below (below_regrown _ _ _)))))
      repeat (go_big_quiet_step (fail))
      go_big_quiet_step ((go_at_call 29; exact Calls.regrown_of (A3.out _ (HT.out.below (below_regrown _ _ _)))))
      repeat (go_big_quiet_step (fail))
      go_big_quiet_step ((go_at_call 30; exact Calls.regrown_of (A4.out _ (HT.out.below (below_regrown _ _ _)))))
      repeat (go_big_quiet_step (fail))
      go_big_quiet_step ((go_at_call 26; exact Calls.regrown_of (KN.out _)))
      repeat (go_big_quiet_step (fail))
      refine wpQuiet_nil ?_
      intro w4 hw4
      have HB4 := hidden (bthen HB0.out (rg_below hw4))
      clear hw4 c0 l0
      go_wp2
      go_ret
      exact ⟨rfl, HB4.out⟩
    · have d2 : decide ((60 : Int) < (agreed.size : Int)) = true := decide_eq_true (by omega)
      go_enter Try.func7, Try.ntmps7
      go_wp2_with fail
      refine (KN.out _).mono ?_
      rintro e w9 ⟨rfl, hb⟩
      have HB9 := hidden (bthen HB0.out hb)
      clear hb
      go_wp2
      go_ret
      exact ⟨rfl, HB9.out⟩
  · have d1 : decide ((60 : Int) < (was.size : Int)) = true := decide_eq_true (by omega)
    go_enter Try.func7, Try.ntmps7
    go_wp2_with fail
    refine (KN.out _).mono ?_
    rintro e w9 ⟨rfl, hb⟩
    have HB9 := hidden (bthen HB0.out hb)
    clear hb
    go_wp2
    go_ret
    exact ⟨rfl, HB9.out⟩
end Go.Proofs.Ytohgmliafidalaa.LawNumberNext
