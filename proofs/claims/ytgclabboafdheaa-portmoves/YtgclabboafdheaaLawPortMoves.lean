/- The walk of the statement PortMoves: the call returns true, and makes at most new memory; conditions: the table and rows lie where they say, lengths and ages fit int. -/
import Derived.Test.YtgclabboafdheaaBf
import Derived.Test.YtgclabboafdheaaBb
import Derived.Deep.RegionHeld3
namespace Go.Proofs.Ytgclabboafdheaa.LawPortMoves
open Go.ChangeShapes Go.WideShapes Go.ChangeAt Go.RowKit
set_option linter.unusedVariables false
attribute [local go_sem] cell_rg

theorem calls_prow {P : Program} {F : FuncId} {args : Array Value} {w : World} {B m : Nat} {L : List Prt} (hm : m = L.length) (hl : L.length ≤ 64) (h : Calls P F args w fun e w' => ∃ a, e = .returned (.slice a m m) ∧ PRow B w' a L ∧ Below w.heap.size w w') :
    Calls P F args w fun e w' => ∃ v, e = .returned v ∧ kPrt.Lies w'.heap.size w' v L ∧ Below w.heap.size w w' :=
  h.mono (by
    rintro e w' ⟨a, rfl, hr, hb⟩
    subst hm
    exact ⟨_, rfl, hr.lies (by unfold maxLen; omega), hb⟩)
theorem calls_drow {P : Program} {F : FuncId} {args : Array Value} {w : World} {B : Nat} {L : List Prt} (h : Calls P F args w fun e w' => ∃ v, e = .returned v ∧ DRow B w' v L ∧ Below w.heap.size w w') :
    Calls P F args w fun e w' => ∃ v, e = .returned v ∧ kPrt.Lies w'.heap.size w' v L ∧ Below w.heap.size w w' :=
  h.mono (by
    rintro e w' ⟨v, rfl, hr, hb⟩
    exact ⟨_, rfl, hr.lies, hb⟩)
def Tok1 : Prop := True
def Tok2 : Prop := True
set_option maxRecDepth 100000 in
set_option maxHeartbeats 16000000 in
theorem walk (n f d p r dr o sl md fr : Int) (ad : Option Addr) (cap : Nat) (zs : List Int) (a2 : Option Addr) (c2 : Nat) (ps : List Prt) (a3 : Option Addr) (c3 : Nat) (ds : List Dlv) (w : World) (hl : zs.length ≤ 9223372036854775807) (hT : Tab w ad zs) (hpl : ps.length ≤ 9223372036854775807) (hP : kPrt.Lies w.heap.size w (.slice a2 ps.length c2) ps) (hag : agesIn ps) (hdl : ds.length ≤ 9223372036854775807) (hD : kDlv.Lies w.heap.size w (.slice a3 ds.length c3) ds) :
    Calls Try.prog 7 #[.agg #[.int .i64 n, .int .i64 f, .int .i64 d, .int .i64 p, .int .i64 r, .int .i64 dr, .int .i64 o, .int .i64 sl, .int .i64 md, .int .i64 fr, .slice ad zs.length cap], .slice a2 ps.length c2, .slice a3 ds.length c3] w fun e w' => e = .returned (.bool true) ∧ Below w.heap.size w w' := by
  have HB0 := hidden (ballc w (.cells #[.int .i64 n, .int .i64 f, .int .i64 d, .int .i64 p, .int .i64 r, .int .i64 dr, .int .i64 o, .int .i64 sl, .int .i64 md, .int .i64 fr, .slice ad zs.length cap] 24))
  have KN := hidden (fun V => alive_any V)
  by_cases h1 : 40 < ps.length
  · have d1 : decide ((40 : Int) < (ps.length : Int)) = true := decide_eq_true (by omega)
    have d2 : decide (40 < ps.length) = true := decide_eq_true h1
    clear hT hP hD
    go_enter Try.func7, Try.ntmps7
    go_wp2_with fail
    refine (KN.out _).mono ?_
    rintro e w2 ⟨rfl, hb2⟩
    have HB2 := hidden (bthen HB0.out hb2)
    clear hb2
    go_wp2
    go_ret
    exact ⟨rfl, HB2.out⟩
  have d1 : decide ((40 : Int) < (ps.length : Int)) = false := decide_eq_false (by omega)
  have d2 : decide (40 < ps.length) = false := decide_eq_false h1
  by_cases h2 : 40 < ds.length
  · have d3 : decide ((40 : Int) < (ds.length : Int)) = true := decide_eq_true (by omega)
    have d4 : decide (40 < ds.length) = true := decide_eq_true h2
    clear hT hP hD
    go_enter Try.func7, Try.ntmps7
    go_wp2_with fail
    refine (KN.out _).mono ?_
    rintro e w2 ⟨rfl, hb2⟩
    have HB2 := hidden (bthen HB0.out hb2)
    clear hb2
    go_wp2
    go_ret
    exact ⟨rfl, HB2.out⟩
  have d3 : decide ((40 : Int) < (ds.length : Int)) = false := decide_eq_false (by omega)
  have d4 : decide (40 < ds.length) = false := decide_eq_false h2
  have HK := hidden (blk_nw w #[.int .i64 n, .int .i64 f, .int .i64 d, .int .i64 p, .int .i64 r, .int .i64 dr, .int .i64 o, .int .i64 sl, .int .i64 md, .int .i64 fr, .slice ad zs.length cap] 24)
  have HT := hidden (hT.below HB0.out)
  have HP := hidden (hP.later HB0.out)
  have HD := hidden (hD.later HB0.out)
  have h64 := lstP_64 n f d p r dr o sl md fr ad cap zs ps
  have h65 := lstP_64 n f d p r dr o sl md fr ad cap zs []
  have hAG := lst_ages n f d p r dr o sl md fr ad cap zs hag
  have hFR := fun h => lst_fr n f d p r dr o sl md fr ad cap zs (ps := ps) h
  have A1 := hidden (fun V h => calls_prow rfl h65 (PBlank_any n f d p r dr o sl md fr ad cap zs V hl h))
  have A2 := hidden (fun V h => calls_drow (r26Blank_any n f d p r dr o sl md fr ad cap zs V hl h))
  have A3 := hidden (fun V h h2 h3 => calls_prow (putP_len _ _).symm (by rw [putP_len]; exact h64) (PPut_any n f d p r dr o sl md fr ad cap zs a2 c2 ps a3 c3 ds V hl h hpl h2 hdl h3))
  have A4 := hidden (fun V h h2 h3 => calls_drow (r26Put_any n f d p r dr o sl md fr ad cap zs a2 c2 ps a3 c3 ds V hl h hpl h2 hdl h3))
  have A5 := hidden (fun V h h2 => calls_prow (oldP_len _ _).symm (by rw [oldP_len]; exact h64) (POlder_any n f d p r dr o sl md fr ad cap zs a2 c2 ps V hl h hpl h2 hag))
  have A6 := hidden (fun V h h2 => calls_drow (r26Older_any n f d p r dr o sl md fr ad cap zs a2 c2 ps V hl h hpl h2 h64 hAG hFR))
  have h1L : (lstP (plainE n f d p r dr o sl md fr zs) n.toNat fr []).length ≤ 1000000 := by omega
  have h2L : (putP (lstP (plainE n f d p r dr o sl md fr zs) n.toNat fr ps) ds).length ≤ 1000000 := by rw [putP_len]; omega
  have h3L : (oldP fr (lstP (plainE n f d p r dr o sl md fr zs) n.toNat fr ps)).length ≤ 1000000 := by rw [oldP_len]; omega
  generalize lstP (plainE n f d p r dr o sl md fr zs) n.toNat fr [] = L1 at *
  generalize putP (lstP (plainE n f d p r dr o sl md fr zs) n.toNat fr ps) ds = L2 at *
  generalize oldP fr (lstP (plainE n f d p r dr o sl md fr zs) n.toNat fr ps) = L3 at *
  clear hT hP hD hag hAG hFR h64 h65
  go_enter Try.func7, Try.ntmps7
  go_wp2_with fail
  generalize w.alloc (.cells #[.int .i64 n, .int .i64 f, .int .i64 d, .int .i64 p, .int .i64 r, .int .i64 dr, .int .i64 o, .int .i64 sl, .int .i64 md, .int .i64 fr, .slice ad zs.length cap] 24) = W0 at *
  have hC0 : Chn W0.heap.size W0 W0 := Chn.refl (Nat.le_refl _)
  have hTk1 : Tok1 := trivial
  have hTk2 : Tok2 := trivial
  have hS : ∀ V, Chn W0.heap.size W0 V → V.cell? ⟨w.heap.size, 0, none⟩ = some (.int .i64 n) ∧ V.cell? ⟨w.heap.size, 1, none⟩ = some (.int .i64 f) ∧ V.cell? ⟨w.heap.size, 2, none⟩ = some (.int .i64 d) ∧ V.cell? ⟨w.heap.size, 3, none⟩ = some (.int .i64 p) ∧ V.cell? ⟨w.heap.size, 4, none⟩ = some (.int .i64 r) ∧ V.cell? ⟨w.heap.size, 5, none⟩ = some (.int .i64 dr) ∧ V.cell? ⟨w.heap.size, 6, none⟩ = some (.int .i64 o) ∧ V.cell? ⟨w.heap.size, 7, none⟩ = some (.int .i64 sl) ∧ V.cell? ⟨w.heap.size, 8, none⟩ = some (.int .i64 md) ∧ V.cell? ⟨w.heap.size, 9, none⟩ = some (.int .i64 fr) ∧ V.cell? ⟨w.heap.size, 10, none⟩ = some (.slice ad zs.length cap) := by
    intro V hC
    have l1 := blk_cell (blk_later HK.out hC.out)
    exact ⟨l1 0, l1 1, l1 2, l1 3, l1 4, l1 5, l1 6, l1 7, l1 8, l1 9, l1 10⟩
  have l0 := blk_lt HK.out
  go_region_held3 (fun V => V.cell? ⟨w.heap.size, 0, none⟩ = some (.int .i64 n) ∧ V.cell? ⟨w.heap.size, 1, none⟩ = some (.int .i64 f) ∧ V.cell? ⟨w.heap.size, 2, none⟩ = some (.int .i64 d) ∧ V.cell? ⟨w.heap.size, 3, none⟩ = some (.int .i64 p) ∧ V.cell? ⟨w.heap.size, 4, none⟩ = some (.int .i64 r) ∧ V.cell? ⟨w.heap.size, 5, none⟩ = some (.int .i64 dr) ∧ V.cell? ⟨w.heap.size, 6, none⟩ = some (.int .i64 o) ∧ V.cell? ⟨w.heap.size, 7, none⟩ = some (.int .i64 sl) ∧ V.cell? ⟨w.heap.size, 8, none⟩ = some (.int .i64 md) ∧ V.cell? ⟨w.heap.size, 9, none⟩ = some (.int .i64 fr) ∧ V.cell? ⟨w.heap.size, 10, none⟩ = some (.slice ad zs.length cap)) (first | exact hS _ (by repeat (first | with_reducible assumption | with_reducible refine Chn.drew ?_)))
    (first
    | (go_at_call 27; refine (A1.out _ (HT.out.below (Chn.out (show Chn W0.heap.size W0 _ from (by repeat (first | with_reducible assumption | with_reducible refine Chn.drew ?_)))))).mono ?_; rintro e w1 ⟨v1, rfl, hL1, hb1⟩; have hC1 := Chn.below (show Chn W0.heap.size W0 _ from (by repeat (first | with_reducible assumption | with_reducible refine Chn.drew ?_))) hb1; have hD1 : Chn w1.heap.size w1 w1 := Chn.refl (Nat.le_refl _); clear hb1)
    | (go_at_call 28; refine (A2.out _ (HT.out.below (Chn.out (show Chn W0.heap.size W0 _ from (by repeat (first | with_reducible assumption | with_reducible refine Chn.drew ?_)))))).mono ?_; rintro e w2 ⟨v2, rfl, hL2, hb2⟩; have hC2 := Chn.below (show Chn W0.heap.size W0 _ from (by repeat (first | with_reducible assumption | with_reducible refine Chn.drew ?_))) hb2; have hD2 : Chn w2.heap.size w2 w2 := Chn.refl (Nat.le_refl _); have hX2 := Chn.below (show Chn w1.heap.size w1 _ from (by repeat (first | with_reducible assumption | with_reducible refine Chn.drew ?_))) hb2; have hM2 := hL1.later hX2.out; clear hb2)
    | (go_at_call 26; have hTq := hTk1; clear hTq hTk1; refine (r26Same_any v1 v2 L1 h1L _ (hM2.later (Chn.out (show Chn w2.heap.size w2 _ from (by repeat (first | with_reducible assumption | with_reducible refine Chn.drew ?_))))) (hL2.later (Chn.out (show Chn w2.heap.size w2 _ from (by repeat (first | with_reducible assumption | with_reducible refine Chn.drew ?_)))))).mono ?_; rintro e w3 ⟨rfl, hb3⟩; have hC3 := Chn.below (show Chn W0.heap.size W0 _ from (by repeat (first | with_reducible assumption | with_reducible refine Chn.drew ?_))) hb3; clear hb3)
    | (go_at_call 29; refine (A3.out _ (HT.out.below (Chn.out (show Chn W0.heap.size W0 _ from (by repeat (first | with_reducible assumption | with_reducible refine Chn.drew ?_))))) (HP.out.later (Chn.out (show Chn W0.heap.size W0 _ from (by repeat (first | with_reducible assumption | with_reducible refine Chn.drew ?_))))) (HD.out.later (Chn.out (show Chn W0.heap.size W0 _ from (by repeat (first | with_reducible assumption | with_reducible refine Chn.drew ?_)))))).mono ?_; rintro e w4 ⟨v4, rfl, hL4, hb4⟩; have hC4 := Chn.below (show Chn W0.heap.size W0 _ from (by repeat (first | with_reducible assumption | with_reducible refine Chn.drew ?_))) hb4; have hD4 : Chn w4.heap.size w4 w4 := Chn.refl (Nat.le_refl _); clear hb4)
    | (go_at_call 30; refine (A4.out _ (HT.out.below (Chn.out (show Chn W0.heap.size W0 _ from (by repeat (first | with_reducible assumption | with_reducible refine Chn.drew ?_))))) (HP.out.later (Chn.out (show Chn W0.heap.size W0 _ from (by repeat (first | with_reducible assumption | with_reducible refine Chn.drew ?_))))) (HD.out.later (Chn.out (show Chn W0.heap.size W0 _ from (by repeat (first | with_reducible assumption | with_reducible refine Chn.drew ?_)))))).mono ?_; rintro e w5 ⟨v5, rfl, hL5, hb5⟩; have hC5 := Chn.below (show Chn W0.heap.size W0 _ from (by repeat (first | with_reducible assumption | with_reducible refine Chn.drew ?_))) hb5; have hD5 : Chn w5.heap.size w5 w5 := Chn.refl (Nat.le_refl _); have hX5 := Chn.below (show Chn w4.heap.size w4 _ from (by repeat (first | with_reducible assumption | with_reducible refine Chn.drew ?_))) hb5; have hM5 := hL4.later hX5.out; clear hb5)
    | (go_at_call 26; have hTq := hTk2; clear hTq hTk2; refine (r26Same_any v4 v5 L2 h2L _ (hM5.later (Chn.out (show Chn w5.heap.size w5 _ from (by repeat (first | with_reducible assumption | with_reducible refine Chn.drew ?_))))) (hL5.later (Chn.out (show Chn w5.heap.size w5 _ from (by repeat (first | with_reducible assumption | with_reducible refine Chn.drew ?_)))))).mono ?_; rintro e w6 ⟨rfl, hb6⟩; have hC6 := Chn.below (show Chn W0.heap.size W0 _ from (by repeat (first | with_reducible assumption | with_reducible refine Chn.drew ?_))) hb6; clear hb6)
    | (go_at_call 31; refine (A5.out _ (HT.out.below (Chn.out (show Chn W0.heap.size W0 _ from (by repeat (first | with_reducible assumption | with_reducible refine Chn.drew ?_))))) (HP.out.later (Chn.out (show Chn W0.heap.size W0 _ from (by repeat (first | with_reducible assumption | with_reducible refine Chn.drew ?_)))))).mono ?_; rintro e w7 ⟨v7, rfl, hL7, hb7⟩; have hC7 := Chn.below (show Chn W0.heap.size W0 _ from (by repeat (first | with_reducible assumption | with_reducible refine Chn.drew ?_))) hb7; have hD7 : Chn w7.heap.size w7 w7 := Chn.refl (Nat.le_refl _); clear hb7)
    | (go_at_call 32; refine (A6.out _ (HT.out.below (Chn.out (show Chn W0.heap.size W0 _ from (by repeat (first | with_reducible assumption | with_reducible refine Chn.drew ?_))))) (HP.out.later (Chn.out (show Chn W0.heap.size W0 _ from (by repeat (first | with_reducible assumption | with_reducible refine Chn.drew ?_)))))).mono ?_; rintro e w8 ⟨v8, rfl, hL8, hb8⟩; have hC8 := Chn.below (show Chn W0.heap.size W0 _ from (by repeat (first | with_reducible assumption | with_reducible refine Chn.drew ?_))) hb8; have hD8 : Chn w8.heap.size w8 w8 := Chn.refl (Nat.le_refl _); have hX8 := Chn.below (show Chn w7.heap.size w7 _ from (by repeat (first | with_reducible assumption | with_reducible refine Chn.drew ?_))) hb8; have hM8 := hL7.later hX8.out; clear hb8)
    | (go_at_call 26; refine (r26Same_any v7 v8 L3 h3L _ (hM8.later (Chn.out (show Chn w8.heap.size w8 _ from (by repeat (first | with_reducible assumption | with_reducible refine Chn.drew ?_))))) (hL8.later (Chn.out (show Chn w8.heap.size w8 _ from (by repeat (first | with_reducible assumption | with_reducible refine Chn.drew ?_)))))).mono ?_; rintro e w9 ⟨rfl, hb9⟩; have hC9 := Chn.below (show Chn W0.heap.size W0 _ from (by repeat (first | with_reducible assumption | with_reducible refine Chn.drew ?_))) hb9; clear hb9)
    | (go_at_call 25; refine (KN.out _).mono ?_; rintro e w10 ⟨rfl, hb10⟩; have hC10 := Chn.below (show Chn W0.heap.size W0 _ from (by repeat (first | with_reducible assumption | with_reducible refine Chn.drew ?_))) hb10; clear hb10))
  all_goals
    go_wp2
    go_ret
    exact ⟨rfl, bthen HB0.out hC10.out⟩
end Go.Proofs.Ytgclabboafdheaa.LawPortMoves
