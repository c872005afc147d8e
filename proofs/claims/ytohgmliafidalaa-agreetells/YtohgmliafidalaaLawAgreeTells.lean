/- The walk of the statement AgreeTells: the call returns true, and makes at most new memory; conditions: the table lies where it says, numbers and lengths fit int. -/
import Derived.Test.YtohgmliafidalaaBf
import Derived.Test.YtohgmliafidalaaBg
namespace Go.Proofs.Ytohgmliafidalaa.LawAgreeTells
open Go.ChangeShapes Go.WideShapes Go.ChangeAt Go.RowKit
set_option linter.unusedVariables false
attribute [local go_sem] cell_rg

set_option maxRecDepth 100000 in
set_option maxHeartbeats 4000000 in
theorem walk (n f d p r dr o sl md fr : Int) (ad : Option Addr) (cap : Nat) (zs : List Int) (num : Int) (seen : ByteArray) (age : Int) (codes got : ByteArray) (w : World) (hl : zs.length ≤ 9223372036854775807) (hT : Tab w ad zs) (hn : -9223372036854775808 ≤ num ∧ num ≤ 9223372036854775807) (hs1 : seen.size ≤ 9223372036854775807) (hw : (Lit.int .i64 age).wf = true) (hs2 : codes.size ≤ 9223372036854775807) (hs3 : got.size ≤ 9223372036854775807) :
    Calls Try.prog 4 #[.agg #[.int .i64 n, .int .i64 f, .int .i64 d, .int .i64 p, .int .i64 r, .int .i64 dr, .int .i64 o, .int .i64 sl, .int .i64 md, .int .i64 fr, .slice ad zs.length cap], .int .i64 num, .string seen, .agg #[.int .i64 age, .string codes, .string got]] w fun e w' => e = .returned (.bool true) ∧ Below w.heap.size w w' := by
  have KN := hidden (fun V => known19_any V)
  have HB0 := hidden (bthen (ballc w (.cells #[.int .i64 n, .int .i64 f, .int .i64 d, .int .i64 p, .int .i64 r, .int .i64 dr, .int .i64 o, .int .i64 sl, .int .i64 md, .int .i64 fr, .slice ad zs.length cap] 24)) (ballc _ (.cells #[.int .i64 age, .string codes, .string got] 37)))
  by_cases h1 : seen.size ≤ 60
  · have d1 : decide ((60 : Int) < (seen.size : Int)) = false := decide_eq_false (by omega)
    by_cases h2 : codes.size ≤ 60
    · have d2 : decide ((60 : Int) < (codes.size : Int)) = false := decide_eq_false (by omega)
      have HK := hidden (blk_later (blk_nw w #[.int .i64 n, .int .i64 f, .int .i64 d, .int .i64 p, .int .i64 r, .int .i64 dr, .int .i64 o, .int .i64 sl, .int .i64 md, .int .i64 fr, .slice ad zs.length cap] 24) (ballc _ (.cells #[.int .i64 age, .string codes, .string got] 37)))
      have HN := hidden (blk_newAt (w.alloc (.cells #[.int .i64 n, .int .i64 f, .int .i64 d, .int .i64 p, .int .i64 r, .int .i64 dr, .int .i64 o, .int .i64 sl, .int .i64 md, .int .i64 fr, .slice ad zs.length cap] 24)) #[.int .i64 age, .string codes, .string got] 37 (b := w.heap.size + 1) (by simp))
      have HT := hidden (hT.below HB0.out)
      obtain ⟨R, D, L, hR, hL, hLD, hR15, hL60, hd, _, _⟩ := len_nat n f d p r dr o sl md fr ad cap zs
      have hd2 : R = 0 ∨ 1 ≤ d ∧ d ≤ 4 := by
        rcases hd with h | ⟨h, h3, h4⟩
        · exact .inl h
        · exact .inr (by omega)
      have A1 := hidden (fun V h => ATell_any n f d p r dr o sl md fr ad cap zs R age codes (by omega) V hl h hR hR15 hd2)
      have A2 := hidden (fun V h => rATell_any n f d p r dr o sl md fr ad cap zs R age codes (by omega) V hl h hR hR15 hd2)
      have A3 := hidden (fun V h => ABegin_all n f d p r dr o sl md fr ad cap zs num seen V hl h hn.2 hs1)
      have A4 := hidden (fun V h => rABegin_all n f d p r dr o sl md fr ad cap zs num seen V hl h hn.2 hs1)
      generalize telX R d age codes = tx at *
      generalize telV R d age codes = tv at *
      generalize begA (plainE n f d p r dr o sl md fr zs) n.toNat num seen = bg at *
      have j1 : (tx == tx) = true := by simp
      clear hT hR hL hLD hd hd2
      go_enter Try.func4, Try.ntmps4
      go_wp2_with fail
      refine (A1.out _ HT.out).mono ?_
      rintro e w2 ⟨rfl, hb⟩
      have HB2 := hidden (bthen HB0.out hb)
      have HK2 := hidden (blk_later HK.out hb)
      have HN2 := hidden (blk_later HN.out hb)
      have HT2 := hidden (HT.out.below hb)
      clear hb
      have c0 := blk_cell HK2.out
      have l0 := blk_lt HK2.out
      have c1 := blk_cell HN2.out
      have l1 := blk_lt HN2.out
      go_wp2_with fail
      refine (A2.out _ HT2.out).mono ?_
      rintro e w3 ⟨rfl, hb⟩
      have HB3 := hidden (bthen HB2.out hb)
      have HK3 := hidden (blk_later HK2.out hb)
      have HT3 := hidden (HT2.out.below hb)
      clear hb c0 l0 c1 l1
      have c0 := blk_cell HK3.out
      have l0 := blk_lt HK3.out
      go_wp2
      refine wp_region_quiet_below (by kernel_rfl) (by kernel_rfl) ?_
      repeat (go_big_quiet_step (fail))
      go_big_quiet_step ((go_at_call 18; exact Calls.regrown_of (A3.out _ (HT3.out.below (below_regrown _ _ _)))))
      repeat (go_big_quiet_step (fail))
      go_big_quiet_step ((go_at_call 19; exact Calls.regrown_of (A4.out _ (HT3.out.below (below_regrown _ _ _)))))
      repeat (go_big_quiet_step (fail))
      go_big_quiet_step ((go_at_call 15; exact Calls.regrown_of (KN.out _)))
      repeat (go_big_quiet_step (fail))
      refine wpQuiet_nil ?_
      intro w4 hw4
      have HB4 := hidden (bthen HB3.out (rg_below hw4))
      clear hw4 c0 l0
      go_wp2
      go_ret
      exact ⟨rfl, HB4.out⟩
    · have d2 : decide ((60 : Int) < (codes.size : Int)) = true := decide_eq_true (by omega)
      go_enter Try.func4, Try.ntmps4
      go_wp2_with fail
      refine (KN.out _).mono ?_
      rintro e w9 ⟨rfl, hb⟩
      have HB9 := hidden (bthen HB0.out hb)
      clear hb
      go_wp2
      go_ret
      exact ⟨rfl, HB9.out⟩
  · have d1 : decide ((60 : Int) < (seen.size : Int)) = true := decide_eq_true (by omega)
    go_enter Try.func4, Try.ntmps4
    go_wp2_with fail
    refine (KN.out _).mono ?_
    rintro e w9 ⟨rfl, hb⟩
    have HB9 := hidden (bthen HB0.out hb)
    clear hb
    go_wp2
    go_ret
    exact ⟨rfl, HB9.out⟩
end Go.Proofs.Ytohgmliafidalaa.LawAgreeTells
