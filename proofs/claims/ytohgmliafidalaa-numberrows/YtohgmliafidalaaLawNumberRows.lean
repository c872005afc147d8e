/- The walk of the statement NumberRows: the call returns true, and makes at most new memory; conditions: the table lies where it says, and lengths fit int. -/
import Derived.Test.YtohgmliafidalaaNbrR
import Derived.Test.YtohgmliafidalaaNbrK
import Derived.Test.YtohgmliafidalaaChain
namespace Go.Proofs.Ytohgmliafidalaa.LawNumberRows
open Go.ChangeShapes Go.WideShapes Go.ChangeAt Go.RowKit
set_option linter.unusedVariables false
attribute [local go_sem] cell_rg

theorem rowZ_len (E md first num : Int) : (rowZ E md first num).length ≤ 1000000 := by
  unfold rowZ
  have := (rowM_bd num).1
  split
  · rw [seqL_len]; omega
  · decide
set_option maxRecDepth 100000 in
set_option maxHeartbeats 8000000 in
theorem walk (n f d p r dr o sl md fr : Int) (ad : Option Addr) (cap : Nat) (zs : List Int) (fr1 to1 num : Int) (w : World) (hl : zs.length ≤ 9223372036854775807) (hT : Tab w ad zs) (ha : -9223372036854775808 ≤ fr1 ∧ fr1 ≤ 9223372036854775807) (hb : -9223372036854775808 ≤ to1 ∧ to1 ≤ 9223372036854775807) (hn : -9223372036854775808 ≤ num ∧ num ≤ 9223372036854775807) :
    Calls Try.prog 8 #[.agg #[.int .i64 n, .int .i64 f, .int .i64 d, .int .i64 p, .int .i64 r, .int .i64 dr, .int .i64 o, .int .i64 sl, .int .i64 md, .int .i64 fr, .slice ad zs.length cap], .int .i64 fr1, .int .i64 to1, .int .i64 num] w fun e w' => e = .returned (.bool true) ∧ Below w.heap.size w w' := by
  have KN := hidden (fun V => known20_any V)
  have HB0 := hidden (ballc w (.cells #[.int .i64 n, .int .i64 f, .int .i64 d, .int .i64 p, .int .i64 r, .int .i64 dr, .int .i64 o, .int .i64 sl, .int .i64 md, .int .i64 fr, .slice ad zs.length cap] 24))
  by_cases h1 : 500 < num
  · go_enter Try.func8, Try.ntmps8
    go_wp2_with fail
    refine (KN.out _).mono ?_
    rintro e w9 ⟨rfl, hb⟩
    have HB9 := hidden (bthen HB0.out hb)
    clear hb
    go_wp2
    go_ret
    exact ⟨rfl, HB9.out⟩
  · have HK := hidden (blk_nw w #[.int .i64 n, .int .i64 f, .int .i64 d, .int .i64 p, .int .i64 r, .int .i64 dr, .int .i64 o, .int .i64 sl, .int .i64 md, .int .i64 fr, .slice ad zs.length cap] 24)
    have HT := hidden (hT.below HB0.out)
    have A1 := hidden (fun V h => NApart_any n f d p r dr o sl md fr ad cap zs fr1 to1 V hl h ha hb)
    have A2 := hidden (fun V h => rNApart_any n f d p r dr o sl md fr ad cap zs fr1 to1 V hl h ha hb)
    have D1 := hidden (fun V h => NRow_any n f d p r dr o sl md fr ad cap zs fr1 num V hl h ha)
    have D2 := hidden (fun V h => rNRow_any n f d p r dr o sl md fr ad cap zs fr1 num V hl h ha)
    have hPL := rowZ_len (plainE n f d p r dr o sl md fr zs) md fr1 num
    generalize rowZ (plainE n f d p r dr o sl md fr zs) md fr1 num = PL at *
    generalize apartF (plainE n f d p r dr o sl md fr zs) md fr1 to1 = z at *
    have j1 : (z == z) = true := by simp
    clear hT
    go_enter Try.func8, Try.ntmps8
    go_wp2_with fail
    generalize w.alloc (.cells #[.int .i64 n, .int .i64 f, .int .i64 d, .int .i64 p, .int .i64 r, .int .i64 dr, .int .i64 o, .int .i64 sl, .int .i64 md, .int .i64 fr, .slice ad zs.length cap] 24) = W0 at *
    have hC0 : Chn W0.heap.size W0 W0 := Chn.refl (Nat.le_refl _)
    have hS : ∀ V, Chn W0.heap.size W0 V → V.cell? ⟨w.heap.size, 0, none⟩ = some (.int .i64 n) ∧ V.cell? ⟨w.heap.size, 1, none⟩ = some (.int .i64 f) ∧ V.cell? ⟨w.heap.size, 2, none⟩ = some (.int .i64 d) ∧ V.cell? ⟨w.heap.size, 3, none⟩ = some (.int .i64 p) ∧ V.cell? ⟨w.heap.size, 4, none⟩ = some (.int .i64 r) ∧ V.cell? ⟨w.heap.size, 5, none⟩ = some (.int .i64 dr) ∧ V.cell? ⟨w.heap.size, 6, none⟩ = some (.int .i64 o) ∧ V.cell? ⟨w.heap.size, 7, none⟩ = some (.int .i64 sl) ∧ V.cell? ⟨w.heap.size, 8, none⟩ = some (.int .i64 md) ∧ V.cell? ⟨w.heap.size, 9, none⟩ = some (.int .i64 fr) ∧ V.cell? ⟨w.heap.size, 10, none⟩ = some (.slice ad zs.length cap) := by
      intro V hC
      have l1 := blk_cell (blk_later HK.out hC.out)
      exact ⟨l1 0, l1 1, l1 2, l1 3, l1 4, l1 5, l1 6, l1 7, l1 8, l1 9, l1 10⟩
    have l0 := blk_lt HK.out
    go_region_held3 (fun V => V.cell? ⟨w.heap.size, 0, none⟩ = some (.int .i64 n) ∧ V.cell? ⟨w.heap.size, 1, none⟩ = some (.int .i64 f) ∧ V.cell? ⟨w.heap.size, 2, none⟩ = some (.int .i64 d) ∧ V.cell? ⟨w.heap.size, 3, none⟩ = some (.int .i64 p) ∧ V.cell? ⟨w.heap.size, 4, none⟩ = some (.int .i64 r) ∧ V.cell? ⟨w.heap.size, 5, none⟩ = some (.int .i64 dr) ∧ V.cell? ⟨w.heap.size, 6, none⟩ = some (.int .i64 o) ∧ V.cell? ⟨w.heap.size, 7, none⟩ = some (.int .i64 sl) ∧ V.cell? ⟨w.heap.size, 8, none⟩ = some (.int .i64 md) ∧ V.cell? ⟨w.heap.size, 9, none⟩ = some (.int .i64 fr) ∧ V.cell? ⟨w.heap.size, 10, none⟩ = some (.slice ad zs.length cap)) (first | exact hS _ (by repeat (first | with_reducible assumption | with_reducible refine Chn.drew ?_)))
      (first
      | (go_at_call 31; refine (A1.out _ (HT.out.below (Chn.out (show Chn W0.heap.size W0 _ from (by repeat (first | with_reducible assumption | with_reducible refine Chn.drew ?_)))))).mono ?_; rintro e w3 ⟨rfl, hb3⟩; have hC3 := Chn.below (show Chn W0.heap.size W0 _ from (by repeat (first | with_reducible assumption | with_reducible refine Chn.drew ?_))) hb3; clear hb3)
      | (go_at_call 32; refine (A2.out _ (HT.out.below (Chn.out (show Chn W0.heap.size W0 _ from (by repeat (first | with_reducible assumption | with_reducible refine Chn.drew ?_)))))).mono ?_; rintro e w4 ⟨rfl, hb4⟩; have hC4 := Chn.below (show Chn W0.heap.size W0 _ from (by repeat (first | with_reducible assumption | with_reducible refine Chn.drew ?_))) hb4; clear hb4)
      | (go_at_call 34; refine (D1.out _ (HT.out.below (Chn.out (show Chn W0.heap.size W0 _ from (by repeat (first | with_reducible assumption | with_reducible refine Chn.drew ?_)))))).mono ?_; rintro e w5 ⟨aq, cq, rfl, hL5, hb5⟩; have hC5 := Chn.below (show Chn W0.heap.size W0 _ from (by repeat (first | with_reducible assumption | with_reducible refine Chn.drew ?_))) hb5; have hD5 : Chn w5.heap.size w5 w5 := Chn.refl (Nat.le_refl _); clear hb5)
      | (go_at_call 35; refine (D2.out _ (HT.out.below (Chn.out (show Chn W0.heap.size W0 _ from (by repeat (first | with_reducible assumption | with_reducible refine Chn.drew ?_)))))).mono ?_; rintro e w6 ⟨ar, cr, rfl, hL6, hb6⟩; have hC6 := Chn.below (show Chn W0.heap.size W0 _ from (by repeat (first | with_reducible assumption | with_reducible refine Chn.drew ?_))) hb6; have hC56 := Chn.below (show Chn w5.heap.size w5 _ from (by repeat (first | with_reducible assumption | with_reducible refine Chn.drew ?_))) hb6; have hL56 := hL5.later hC56.out; have hD6 : Chn w6.heap.size w6 w6 := Chn.refl (Nat.le_refl _); clear hb6)
      | (go_at_call 33; refine (KInts_any aq ar PL.length PL.length cq cr PL _ hPL (hL56.later (Chn.out (show Chn w6.heap.size w6 _ from (by repeat (first | with_reducible assumption | with_reducible refine Chn.drew ?_))))) (hL6.later (Chn.out (show Chn w6.heap.size w6 _ from (by repeat (first | with_reducible assumption | with_reducible refine Chn.drew ?_)))))).mono ?_; rintro e w7 ⟨rfl, hb7⟩; have hC7 := Chn.below (show Chn W0.heap.size W0 _ from (by repeat (first | with_reducible assumption | with_reducible refine Chn.drew ?_))) hb7; clear hb7)
      | (go_at_call 26; refine (KN.out _).mono ?_; rintro e w8 ⟨rfl, hb8⟩; have hC8 := Chn.below (show Chn W0.heap.size W0 _ from (by repeat (first | with_reducible assumption | with_reducible refine Chn.drew ?_))) hb8; clear hb8))
    all_goals
      go_wp2
      go_ret
      exact ⟨rfl, bthen HB0.out hC8.out⟩
end Go.Proofs.Ytohgmliafidalaa.LawNumberRows
