/- The walk of the statement BeatAlone: the call returns true, and makes at most new memory; conditions: the table lies where it says, numbers and lengths fit int. -/
import Derived.Test.YtkolhbacgoafcabBf
import Derived.Test.YtkolhbacgoafcabBg
namespace Go.Proofs.Ytkolhbacgoafcab.LawBeatAlone
open Go.ChangeShapes Go.WideShapes Go.ChangeAt Go.RowKit
set_option linter.unusedVariables false
attribute [local go_sem] cell_rg

set_option maxHeartbeats 2000000 in
theorem walk (n f d p r dr o sl md fr : Int) (ad : Option Addr) (cap : Nat) (zs : List Int) (si : Int) (s : ByteArray) (tk : Int) (w : World) (hl : zs.length ≤ 9223372036854775807) (hT : Tab w ad zs) (hsi : -9223372036854775808 ≤ si ∧ si ≤ 9223372036854775807) (hs : s.size ≤ 9223372036854775807) (htk : -9223372036854775808 ≤ tk ∧ tk ≤ 9223372036854775807) :
    Calls Try.prog 3 #[.agg #[.int .i64 n, .int .i64 f, .int .i64 d, .int .i64 p, .int .i64 r, .int .i64 dr, .int .i64 o, .int .i64 sl, .int .i64 md, .int .i64 fr, .slice ad zs.length cap], .int .i64 si, .string s, .int .i64 tk] w fun e w' => e = .returned (.bool true) ∧ Below w.heap.size w w' := by
  have KN := hidden (fun V => known18_any V)
  have HB0 := hidden (ballc w (.cells #[.int .i64 n, .int .i64 f, .int .i64 d, .int .i64 p, .int .i64 r, .int .i64 dr, .int .i64 o, .int .i64 sl, .int .i64 md, .int .i64 fr, .slice ad zs.length cap] 24))
  have HT := hidden (hT.below HB0.out)
  have HK := hidden (blk_nw w #[.int .i64 n, .int .i64 f, .int .i64 d, .int .i64 p, .int .i64 r, .int .i64 dr, .int .i64 o, .int .i64 sl, .int .i64 md, .int .i64 fr, .slice ad zs.length cap] 24)
  by_cases h1 : (200 : Int) < (s.size : Int)
  · have d1 : decide ((200 : Int) < (s.size : Int)) = true := decide_eq_true h1
    have d1' : decide (200 < s.size) = true := decide_eq_true (by omega)
    clear hT
    go_enter Try.func3, Try.ntmps3
    go_wp2_with fail
    refine (KN.out _).mono ?_
    rintro e w2 ⟨rfl, hb⟩
    have HB2 := hidden (bthen HB0.out hb)
    clear hb
    go_wp2
    go_ret
    exact ⟨rfl, HB2.out⟩
  · have d1 : decide ((200 : Int) < (s.size : Int)) = false := decide_eq_false h1
    have d1' : decide (200 < s.size) = false := decide_eq_false (by omega)
    by_cases h2 : (1000 : Int) < tk
    · have d2 : decide ((1000 : Int) < tk) = true := decide_eq_true h2
      clear hT
      go_enter Try.func3, Try.ntmps3
      go_wp2_with fail
      refine (KN.out _).mono ?_
      rintro e w2 ⟨rfl, hb⟩
      have HB2 := hidden (bthen HB0.out hb)
      clear hb
      go_wp2
      go_ret
      exact ⟨rfl, HB2.out⟩
    · have d2 : decide ((1000 : Int) < tk) = false := decide_eq_false h2
      obtain ⟨R, D, L, hR, hL, hLD, hR15, hL60, hd, hd1, hd0⟩ := len_nat n f d p r dr o sl md fr ad cap zs
      obtain ⟨M, hM⟩ : ∃ M : Nat, clampF tk 0 2000 = (M : Int) := ⟨(clampF tk 0 2000).toNat, by unfold clampF; split <;> (first | omega | (split <;> omega))⟩
      have A1 := hidden (fun V h => Alone_any n f d p r dr o sl md fr ad cap zs L si hsi s hs tk M hM V hl h hL hL60)
      have A2 := hidden (fun V h => rAlone_any n f d p r dr o sl md fr ad cap zs L si hsi s hs tk M hM V hl h hL hL60)
      clear hT hR hL hLD hd hd1 hd0 hM
      generalize aloT (plainE n f d p r dr o sl md fr zs) p L si (penF s) M = t1 at *
      go_enter Try.func3, Try.ntmps3
      go_wp2
      refine wp_region_quiet_below (by kernel_rfl) (by kernel_rfl) ?_
      repeat (go_big_quiet_step (first | (go_at_call 7; exact Calls.regrown_of (A1.out _ (HT.out.below (below_regrown _ _ _)))) | (go_at_call 8; exact Calls.regrown_of (A2.out _ (HT.out.below (below_regrown _ _ _)))) | (go_at_call 6; exact Calls.regrown_of (KN.out _))))
      refine wpQuiet_nil ?_
      intro w5 hw5
      have HB5 := hidden (bthen HB0.out (rg_below hw5))
      clear hw5
      go_wp2
      go_ret
      exact ⟨rfl, HB5.out⟩
end Go.Proofs.Ytkolhbacgoafcab.LawBeatAlone
