/- The calls Rounds, Length and Bits of package conf return what the document says, of what is plain, else 0, and make at most new memory; conditions: the table lies where it says, and its length fits int. -/
import Derived.Test.YtohgmliafidalaaConfQ
namespace Go.Proofs.Ytohgmliafidalaa
open Go.ChangeShapes Go.WideShapes Go.ChangeAt Go.RowKit
set_option linter.unusedVariables false
attribute [local go_sem] cell_rg

/-- x, if E is no error, else 0. -/
def gate (E x : Int) : Int := if E = 0 then x else 0
/-- Hides a fact from the walk. -/
theorem gate_ok (x : Int) : gate 0 x = x := if_pos rfl
theorem gate_no {E : Int} (h : ¬ E = 0) (x : Int) : gate E x = 0 := if_neg h
theorem gate_congr {E x y : Int} (h : E = 0 → x = y) : gate E x = gate E y := by
  unfold gate
  by_cases e : E = 0
  · rw [if_pos e, if_pos e, h e]
  · rw [if_neg e, if_neg e]

theorem ofPlain_any (n f d p r dr o sl md fr : Int) (ad : Option Addr) (cap : Nat) (zs : List Int) (x : Int) (w : World) (hl : zs.length ≤ 9223372036854775807) (hT : Tab w ad zs) :
    Calls Try.prog 101 #[.agg #[.int .i64 n, .int .i64 f, .int .i64 d, .int .i64 p, .int .i64 r, .int .i64 dr, .int .i64 o, .int .i64 sl, .int .i64 md, .int .i64 fr, .slice ad zs.length cap], .int .i64 x] w fun e w' => e = .returned (.int .i64 (gate (plainE n f d p r dr o sl md fr zs) x)) ∧ Below w.heap.size w w' := by
  have HQ := hidden (plain_any n f d p r dr o sl md fr ad cap zs (w.alloc (.cells #[.int .i64 n, .int .i64 f, .int .i64 d, .int .i64 p, .int .i64 r, .int .i64 dr, .int .i64 o, .int .i64 sl, .int .i64 md, .int .i64 fr, .slice ad zs.length cap] 24)) hl (hT.below (ballc _ _)))
  clear hT
  generalize plainE n f d p r dr o sl md fr zs = E at HQ
  by_cases hE : E = 0
  · subst hE
    go_enter Try.func101, Try.ntmps101
    go_wp2_with fail
    refine HQ.out.mono ?_
    rintro e w2 ⟨rfl, hb2⟩
    have HB2 : Hid (Below w.heap.size w w2) := bthen (ballc w _) hb2
    clear hb2 HQ
    go_wp2
    go_ret
    exact ⟨ret_i (gate_ok x).symm, HB2.out⟩
  · go_enter Try.func101, Try.ntmps101
    go_wp2_with fail
    refine HQ.out.mono ?_
    rintro e w2 ⟨rfl, hb2⟩
    have HB2 : Hid (Below w.heap.size w w2) := bthen (ballc w _) hb2
    clear hb2 HQ
    go_wp2
    go_ret
    exact ⟨ret_i (gate_no hE x).symm, HB2.out⟩

theorem Rounds_any (n f d p r dr o sl md fr : Int) (ad : Option Addr) (cap : Nat) (zs : List Int) (w : World) (hl : zs.length ≤ 9223372036854775807) (hT : Tab w ad zs) :
    Calls Try.prog 116 #[.agg #[.int .i64 n, .int .i64 f, .int .i64 d, .int .i64 p, .int .i64 r, .int .i64 dr, .int .i64 o, .int .i64 sl, .int .i64 md, .int .i64 fr, .slice ad zs.length cap]] w fun e w' => e = .returned (.int .i64 (gate (plainE n f d p r dr o sl md fr zs) (3 * (f + 1)))) ∧ Below w.heap.size w w' := by
  have HT : Hid (Tab (w.alloc (.cells #[.int .i64 n, .int .i64 f, .int .i64 d, .int .i64 p, .int .i64 r, .int .i64 dr, .int .i64 o, .int .i64 sl, .int .i64 md, .int .i64 fr, .slice ad zs.length cap] 24)) ad zs) := hT.below (ballc _ _)
  have HG : Hid (gate (plainE n f d p r dr o sl md fr zs) (3 * (f + 1)) = gate (plainE n f d p r dr o sl md fr zs) (roundsW f)) := gate_congr fun h => by
    obtain ⟨_, _, h1, h2, _⟩ := plainE_ok h
    exact (roundsW_eq h1 h2).symm
  clear hT
  go_enter Try.func116, Try.ntmps116
  go_wp2
  refine wp_region_quiet_below (by kernel_rfl) (by kernel_rfl) ?_
  repeat (go_big_quiet_step (first | (go_at_call 122; exact Calls.regrown_of (cRounds_any _ _ _ _ _ _ _ _ _ _ _ _ _ _)) | (go_at_call 101; exact Calls.regrown_of (ofPlain_any _ _ _ _ _ _ _ _ _ _ _ _ _ _ _ hl (HT.out.below (below_regrown _ _ _))))))
  refine wpQuiet_nil ?_
  intro w2 hw2
  have HB2 : Hid (Below w.heap.size w w2) := bthen (ballc w _) (rg_below hw2)
  clear hw2
  go_wp2
  go_ret
  exact ⟨ret_i HG.out.symm, HB2.out⟩

theorem Length_any (n f d p r dr o sl md fr : Int) (ad : Option Addr) (cap : Nat) (zs : List Int) (w : World) (hl : zs.length ≤ 9223372036854775807) (hT : Tab w ad zs) :
    Calls Try.prog 59 #[.agg #[.int .i64 n, .int .i64 f, .int .i64 d, .int .i64 p, .int .i64 r, .int .i64 dr, .int .i64 o, .int .i64 sl, .int .i64 md, .int .i64 fr, .slice ad zs.length cap]] w fun e w' => e = .returned (.int .i64 (gate (plainE n f d p r dr o sl md fr zs) (3 * (f + 1) * d))) ∧ Below w.heap.size w w' := by
  have HT : Hid (Tab (w.alloc (.cells #[.int .i64 n, .int .i64 f, .int .i64 d, .int .i64 p, .int .i64 r, .int .i64 dr, .int .i64 o, .int .i64 sl, .int .i64 md, .int .i64 fr, .slice ad zs.length cap] 24)) ad zs) := hT.below (ballc _ _)
  have HG : Hid (gate (plainE n f d p r dr o sl md fr zs) (3 * (f + 1) * d) = gate (plainE n f d p r dr o sl md fr zs) (lengthW f d)) := gate_congr fun h => by
    obtain ⟨_, _, h1, h2, _, h3, h4, _⟩ := plainE_ok h
    exact (lengthW_eq h1 h2 h3 h4).symm
  clear hT
  go_enter Try.func59, Try.ntmps59
  go_wp2
  refine wp_region_quiet_below (by kernel_rfl) (by kernel_rfl) ?_
  repeat (go_big_quiet_step (first | (go_at_call 102; exact Calls.regrown_of (cLength_any _ _ _ _ _ _ _ _ _ _ _ _ _ _)) | (go_at_call 101; exact Calls.regrown_of (ofPlain_any _ _ _ _ _ _ _ _ _ _ _ _ _ _ _ hl (HT.out.below (below_regrown _ _ _))))))
  refine wpQuiet_nil ?_
  intro w2 hw2
  have HB2 : Hid (Below w.heap.size w w2) := bthen (ballc w _) (rg_below hw2)
  clear hw2
  go_wp2
  go_ret
  exact ⟨ret_i HG.out.symm, HB2.out⟩
end Go.Proofs.Ytohgmliafidalaa
