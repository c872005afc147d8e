/- The walk of the statement VecSteps: the call returns true, and makes at most new memory; conditions: rows lie where they say, lengths fit int. -/
import Derived.Test.YtgfdfakffkhekaaVecR
import Derived.Test.YtgfdfakffkhekaaVecK
namespace Go.Proofs.Ytgfdfakffkhekaa.LawVecSteps
open Go.ChangeShapes Go.WideShapes Go.ChangeAt Go.RowKit
set_option linter.unusedVariables false
attribute [local go_sem] cell_rg

theorem wf_i64 {x : Int} (h : -9223372036854775808 ≤ x ∧ x ≤ 9223372036854775807) : (Lit.int .i64 x).wf = true := by
  simp [Lit.wf, IntKind.min, IntKind.max, IntKind.signed, IntKind.bits]
  omega
set_option maxHeartbeats 2000000 in
theorem walk (n f d p r dr o sl md fr : Int) (ad : Option Addr) (cap : Nat) (zs : List Int) (x : Int) (codes : ByteArray) (a2 : Option Addr) (c2 : Nat) (votes : List ByteArray) (w : World) (hl : zs.length ≤ 9223372036854775807) (hT : Tab w ad zs) (hx : -9223372036854775808 ≤ x ∧ x ≤ 9223372036854775807) (hsz : codes.size ≤ 9223372036854775807) (hl2 : votes.length ≤ 9223372036854775807) (hV : kStr.Lies w.heap.size w (.slice a2 votes.length c2) votes) (hz : ∀ t ∈ votes, t.size ≤ 9223372036854775807) :
    Calls Try.prog 7 #[.agg #[.int .i64 n, .int .i64 f, .int .i64 d, .int .i64 p, .int .i64 r, .int .i64 dr, .int .i64 o, .int .i64 sl, .int .i64 md, .int .i64 fr, .slice ad zs.length cap], .int .i64 x, .string codes, .slice a2 votes.length c2] w fun e w' => e = .returned (.bool true) ∧ Below w.heap.size w w' := by
  have KN := hidden (fun V => known16_any V)
  have HB0 := hidden (ballc w (.cells #[.int .i64 n, .int .i64 f, .int .i64 d, .int .i64 p, .int .i64 r, .int .i64 dr, .int .i64 o, .int .i64 sl, .int .i64 md, .int .i64 fr, .slice ad zs.length cap] 24))
  have HT : Hid (Tab (w.alloc (.cells #[.int .i64 n, .int .i64 f, .int .i64 d, .int .i64 p, .int .i64 r, .int .i64 dr, .int .i64 o, .int .i64 sl, .int .i64 md, .int .i64 fr, .slice ad zs.length cap] 24)) ad zs) := hT.below (ballc _ _)
  have HV := hidden (hV.later (ballc w (.cells #[.int .i64 n, .int .i64 f, .int .i64 d, .int .i64 p, .int .i64 r, .int .i64 dr, .int .i64 o, .int .i64 sl, .int .i64 md, .int .i64 fr, .slice ad zs.length cap] 24)))
  clear hT
  by_cases h1 : (40 : Int) < (codes.size : Int)
  · have d1 : decide ((40 : Int) < (codes.size : Int)) = true := decide_eq_true h1
    have d1' : decide (40 < codes.size) = true := decide_eq_true (by omega)
    clear hV hz HV HT
    go_enter Try.func7, Try.ntmps7
    go_wp2_with fail
    refine (KN.out _).mono ?_
    rintro e w2 ⟨rfl, hb⟩
    have HB2 := hidden (bthen HB0.out hb)
    clear hb
    go_wp2
    go_ret
    exact ⟨rfl, HB2.out⟩
  · have d1 : decide ((40 : Int) < (codes.size : Int)) = false := decide_eq_false h1
    have d1' : decide (40 < codes.size) = false := decide_eq_false (by omega)
    by_cases h2 : (20 : Int) < (votes.length : Int)
    · have d2 : decide ((20 : Int) < (votes.length : Int)) = true := decide_eq_true h2
      have d2' : decide (20 < votes.length) = true := decide_eq_true (by omega)
      clear hV hz HV HT
      go_enter Try.func7, Try.ntmps7
      go_wp2_with fail
      refine (KN.out _).mono ?_
      rintro e w2 ⟨rfl, hb⟩
      have HB2 := hidden (bthen HB0.out hb)
      clear hb
      go_wp2
      go_ret
      exact ⟨rfl, HB2.out⟩
    · have d2 : decide ((20 : Int) < (votes.length : Int)) = false := decide_eq_false h2
      have d2' : decide (20 < votes.length) = false := decide_eq_false (by omega)
      have hx' := hidden (wf_i64 hx)
      have A1 := hidden (fun V => Of_any codes (by omega) V)
      have A2 := hidden (fun V => rOf_any codes (by omega) V)
      have B1 := hidden (fun V => Values_any codes (by omega) V)
      have B2 := hidden (fun V => rValues_any codes (by omega) V)
      have C1 := hidden (fun (told : ByteArray) (ht : told.size ≤ 9223372036854775807) V h k => VStep_any n f d p r dr o sl md fr ad cap zs x codes told a2 c2 votes V hl h hx'.out (by omega) ht (by omega) k hz)
      have C2 := hidden (fun (told : ByteArray) (ht : told.size ≤ 9223372036854775807) V h k => rVStep_any n f d p r dr o sl md fr ad cap zs x codes told a2 c2 votes V hl h hx'.out (by omega) ht (by omega) k hz)
      by_cases h3 : 0 < votes.length
      · have i3 : (0 : Int) < (votes.length : Int) := by omega
        obtain ⟨b, off, rfl, hbl, e0⟩ := kStr_at HV.out 0 h3
        rw [Nat.add_zero] at e0
        have hm : votes.getD 0 noB ∈ votes := by rw [List.getD_eq_getElem?_getD, List.getElem?_eq_getElem h3, Option.getD_some]; exact List.getElem_mem h3
        have hts := hz _ hm
        have D1 := hidden (C1.out _ hts)
        have D2 := hidden (C2.out _ hts)
        clear C1 C2 hm
        generalize votes.getD 0 noB = told at *
        generalize dgB codes.size (stpG (plainE n f d p r dr o sl md fr zs) n f x codes told votes) = t3 at *
        generalize dgB codes.size (ofG codes) = t1 at *
        generalize dgB codes.size (valG codes) = t2 at *
        generalize votes.length = M at *
        clear hV hz
        go_enter Try.func7, Try.ntmps7
        go_wp2
        refine wp_region_quiet_below (by kernel_rfl) (by kernel_rfl) ?_
        repeat (go_big_quiet_step (first
          | (go_at_call 22; exact Calls.regrown_of (A1.out _))
          | (go_at_call 23; exact Calls.regrown_of (A2.out _))
          | (go_at_call 24; exact Calls.regrown_of (B1.out _))
          | (go_at_call 25; exact Calls.regrown_of (B2.out _))
          | (go_at_call 26; exact Calls.regrown_of (D1.out _ (HT.out.below (below_regrown _ _ _)) (HV.out.later (below_regrown _ _ _))))
          | (go_at_call 27; exact Calls.regrown_of (D2.out _ (HT.out.below (below_regrown _ _ _)) (HV.out.later (below_regrown _ _ _))))
          | (go_at_call 21; exact Calls.regrown_of (known16_any _))))
        refine wpQuiet_nil ?_
        intro w2 hw2
        have HB2 := hidden (bthen HB0.out (rg_below hw2))
        clear hw2
        go_wp2
        go_ret
        exact ⟨rfl, HB2.out⟩
      · have i3 : ¬ (0 : Int) < (votes.length : Int) := by omega
        have D1 := hidden (C1.out codes hsz)
        have D2 := hidden (C2.out codes hsz)
        clear C1 C2
        generalize dgB codes.size (stpG (plainE n f d p r dr o sl md fr zs) n f x codes codes votes) = t3 at *
        generalize dgB codes.size (ofG codes) = t1 at *
        generalize dgB codes.size (valG codes) = t2 at *
        generalize votes.length = M at *
        clear hV hz
        go_enter Try.func7, Try.ntmps7
        go_wp2
        refine wp_region_quiet_below (by kernel_rfl) (by kernel_rfl) ?_
        repeat (go_big_quiet_step (first
          | (go_at_call 22; exact Calls.regrown_of (A1.out _))
          | (go_at_call 23; exact Calls.regrown_of (A2.out _))
          | (go_at_call 24; exact Calls.regrown_of (B1.out _))
          | (go_at_call 25; exact Calls.regrown_of (B2.out _))
          | (go_at_call 26; exact Calls.regrown_of (D1.out _ (HT.out.below (below_regrown _ _ _)) (HV.out.later (below_regrown _ _ _))))
          | (go_at_call 27; exact Calls.regrown_of (D2.out _ (HT.out.below (below_regrown _ _ _)) (HV.out.later (below_regrown _ _ _))))
          | (go_at_call 21; exact Calls.regrown_of (known16_any _))))
        refine wpQuiet_nil ?_
        intro w2 hw2
        have HB2 := hidden (bthen HB0.out (rg_below hw2))
        clear hw2
        go_wp2
        go_ret
        exact ⟨rfl, HB2.out⟩
end Go.Proofs.Ytgfdfakffkhekaa.LawVecSteps
