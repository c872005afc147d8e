/- The walk of the statement RosterAsks: the call returns true, and makes at most new memory; conditions: lengths fit int. -/
import Derived.Test.YtgclabboafdheaaBa
import Derived.Test.YtgclabboafdheaaBb
import Derived.Deep.RegionHeld3
namespace Go.Proofs.Ytgclabboafdheaa.LawRosterAsks
open Go.ChangeShapes Go.WideShapes Go.ChangeAt Go.RowKit
set_option linter.unusedVariables false
attribute [local go_sem] cell_rg

theorem calls_lies {P : Program} {F : FuncId} {args : Array Value} {w : World} {base : Nat} {L : List Int} (h : Calls P F args w fun e w' => ∃ r, e = .returned r ∧ w'.ownsRow base 3 1 r L.length (kInt.flat L) ∧ Below w.heap.size w w') :
    Calls P F args w fun e w' => ∃ a c, e = .returned (.slice a L.length c) ∧ kInt.Lies w'.heap.size w' (.slice a L.length c) L ∧ Below w.heap.size w w' :=
  h.mono (by
    rintro e w' ⟨r, rfl, ho, hb⟩
    obtain ⟨a, c, rfl⟩ := own_slice ho
    exact ⟨a, c, rfl, Kind.Lies.of_own ho, hb⟩)
def Tok : Prop := True
set_option maxRecDepth 100000 in
set_option maxHeartbeats 8000000 in
theorem walk (n f d p r dr o sl md fr : Int) (ad : Option Addr) (cap : Nat) (zs : List Int) (s : ByteArray) (z : Int) (w : World) (hl : zs.length ≤ 9223372036854775807) (hT : Tab w ad zs) (hs : s.size ≤ 9223372036854775807) (hz : -9223372036854775808 ≤ z ∧ z ≤ 9223372036854775807) :
    Calls Try.prog 4 #[.agg #[.int .i64 n, .int .i64 f, .int .i64 d, .int .i64 p, .int .i64 r, .int .i64 dr, .int .i64 o, .int .i64 sl, .int .i64 md, .int .i64 fr, .slice ad zs.length cap], .string s, .int .i64 z] w fun e w' => e = .returned (.bool true) ∧ Below w.heap.size w w' := by
  have HB0 := hidden (ballc w (.cells #[.int .i64 n, .int .i64 f, .int .i64 d, .int .i64 p, .int .i64 r, .int .i64 dr, .int .i64 o, .int .i64 sl, .int .i64 md, .int .i64 fr, .slice ad zs.length cap] 24))
  have KN := hidden (fun V => known25_any V)
  clear hT
  by_cases h1 : 100 < s.size
  · have d1 : decide ((100 : Int) < (s.size : Int)) = true := decide_eq_true (by omega)
    have d2 : decide (100 < s.size) = true := decide_eq_true h1
    go_enter Try.func4, Try.ntmps4
    go_wp2_with fail
    refine (KN.out _).mono ?_
    rintro e w2 ⟨rfl, hb2⟩
    have HB2 := hidden (bthen HB0.out hb2)
    clear hb2
    go_wp2
    go_ret
    exact ⟨rfl, HB2.out⟩
  have d1 : decide ((100 : Int) < (s.size : Int)) = false := decide_eq_false (by omega)
  have d2 : decide (100 < s.size) = false := decide_eq_false h1
  have HK := hidden (blk_nw w #[.int .i64 n, .int .i64 f, .int .i64 d, .int .i64 p, .int .i64 r, .int .i64 dr, .int .i64 o, .int .i64 sl, .int .i64 md, .int .i64 fr, .slice ad zs.length cap] 24)
  have A1 := hidden (fun V => Has_any s z V hs)
  have A2 := hidden (fun V => r25Has_any s z V hs)
  have A3 := hidden (fun V => Count_any s V)
  have A4 := hidden (fun V => r25Count_any s (by omega) V)
  have A5 := hidden (fun V => calls_lies (Nodes_any s (by omega) V))
  have A6 := hidden (fun V => calls_lies (r25Nodes_any s (by omega) V))
  have A7 := hidden (fun V => calls_lies (Lacks_any n f d p r dr o sl md fr ad cap zs s V hs))
  have A8 := hidden (fun V => calls_lies (r25Lacks_any n f d p r dr o sl md fr ad cap zs s V hs))
  have hPL : (nodL s).length ≤ 1000000 := Nat.le_trans (plcL_len _ _) (by omega)
  have hQL : (lackL n s).length ≤ 1000000 := Nat.le_trans (plcL_len _ _) (by have := mkN_le n; omega)
  generalize nodL s = PL at *
  generalize lackL n s = QL at *
  generalize hasI s z = b at *
  have j0 : (b == b) = true := by simp
  have j1 : ((PL.length : Int) == (PL.length : Int)) = true := by simp
  go_enter Try.func4, Try.ntmps4
  go_wp2_with fail
  generalize w.alloc (.cells #[.int .i64 n, .int .i64 f, .int .i64 d, .int .i64 p, .int .i64 r, .int .i64 dr, .int .i64 o, .int .i64 sl, .int .i64 md, .int .i64 fr, .slice ad zs.length cap] 24) = W0 at *
  have hC0 : Chn W0.heap.size W0 W0 := Chn.refl (Nat.le_refl _)
  have hTk : Tok := trivial
  have hS : ∀ V, Chn W0.heap.size W0 V → V.cell? ⟨w.heap.size, 0, none⟩ = some (.int .i64 n) ∧ V.cell? ⟨w.heap.size, 1, none⟩ = some (.int .i64 f) ∧ V.cell? ⟨w.heap.size, 2, none⟩ = some (.int .i64 d) ∧ V.cell? ⟨w.heap.size, 3, none⟩ = some (.int .i64 p) ∧ V.cell? ⟨w.heap.size, 4, none⟩ = some (.int .i64 r) ∧ V.cell? ⟨w.heap.size, 5, none⟩ = some (.int .i64 dr) ∧ V.cell? ⟨w.heap.size, 6, none⟩ = some (.int .i64 o) ∧ V.cell? ⟨w.heap.size, 7, none⟩ = some (.int .i64 sl) ∧ V.cell? ⟨w.heap.size, 8, none⟩ = some (.int .i64 md) ∧ V.cell? ⟨w.heap.size, 9, none⟩ = some (.int .i64 fr) ∧ V.cell? ⟨w.heap.size, 10, none⟩ = some (.slice ad zs.length cap) := by
    intro V hC
    have l1 := blk_cell (blk_later HK.out hC.out)
    exact ⟨l1 0, l1 1, l1 2, l1 3, l1 4, l1 5, l1 6, l1 7, l1 8, l1 9, l1 10⟩
  have l0 := blk_lt HK.out
  go_region_held3 (fun V => V.cell? ⟨w.heap.size, 0, none⟩ = some (.int .i64 n) ∧ V.cell? ⟨w.heap.size, 1, none⟩ = some (.int .i64 f) ∧ V.cell? ⟨w.heap.size, 2, none⟩ = some (.int .i64 d) ∧ V.cell? ⟨w.heap.size, 3, none⟩ = some (.int .i64 p) ∧ V.cell? ⟨w.heap.size, 4, none⟩ = some (.int .i64 r) ∧ V.cell? ⟨w.heap.size, 5, none⟩ = some (.int .i64 dr) ∧ V.cell? ⟨w.heap.size, 6, none⟩ = some (.int .i64 o) ∧ V.cell? ⟨w.heap.size, 7, none⟩ = some (.int .i64 sl) ∧ V.cell? ⟨w.heap.size, 8, none⟩ = some (.int .i64 md) ∧ V.cell? ⟨w.heap.size, 9, none⟩ = some (.int .i64 fr) ∧ V.cell? ⟨w.heap.size, 10, none⟩ = some (.slice ad zs.length cap)) (first | exact hS _ (by repeat (first | with_reducible assumption | with_reducible refine Chn.drew ?_)))
    (first
    | (go_at_call 16; refine (A1.out _).mono ?_; rintro e w1 ⟨rfl, hb1⟩; have hC1 := Chn.below (show Chn W0.heap.size W0 _ from (by repeat (first | with_reducible assumption | with_reducible refine Chn.drew ?_))) hb1; clear hb1)
    | (go_at_call 17; refine (A2.out _).mono ?_; rintro e w2 ⟨rfl, rfl⟩)
    | (go_at_call 18; refine (A3.out _).mono ?_; rintro e w3 ⟨rfl, rfl⟩)
    | (go_at_call 19; refine (A4.out _).mono ?_; rintro e w4 ⟨rfl, hb4⟩; have hC4 := Chn.below (show Chn W0.heap.size W0 _ from (by repeat (first | with_reducible assumption | with_reducible refine Chn.drew ?_))) hb4; clear hb4)
    | (go_at_call 21; refine (A5.out _).mono ?_; rintro e w5 ⟨a5, c5, rfl, hL5, hb5⟩; have hC5 := Chn.below (show Chn W0.heap.size W0 _ from (by repeat (first | with_reducible assumption | with_reducible refine Chn.drew ?_))) hb5; have hD5 : Chn w5.heap.size w5 w5 := Chn.refl (Nat.le_refl _); clear hb5)
    | (go_at_call 22; refine (A6.out _).mono ?_; rintro e w6 ⟨a6, c6, rfl, hL6, hb6⟩; have hC6 := Chn.below (show Chn W0.heap.size W0 _ from (by repeat (first | with_reducible assumption | with_reducible refine Chn.drew ?_))) hb6; have hD6 : Chn w6.heap.size w6 w6 := Chn.refl (Nat.le_refl _); have hX6 := Chn.below (show Chn w5.heap.size w5 _ from (by repeat (first | with_reducible assumption | with_reducible refine Chn.drew ?_))) hb6; have hM6 := hL5.later hX6.out; clear hb6)
    | (go_at_call 20; have hTq := hTk; clear hTq hTk; refine (KInts_any a5 a6 PL.length PL.length c5 c6 PL _ hPL (hM6.later (Chn.out (show Chn w6.heap.size w6 _ from (by repeat (first | with_reducible assumption | with_reducible refine Chn.drew ?_))))) (hL6.later (Chn.out (show Chn w6.heap.size w6 _ from (by repeat (first | with_reducible assumption | with_reducible refine Chn.drew ?_)))))).mono ?_; rintro e w7 ⟨rfl, hb7⟩; have hC7 := Chn.below (show Chn W0.heap.size W0 _ from (by repeat (first | with_reducible assumption | with_reducible refine Chn.drew ?_))) hb7; clear hb7)
    | (go_at_call 23; refine (A7.out _).mono ?_; rintro e w8 ⟨a8, c8, rfl, hL8, hb8⟩; have hC8 := Chn.below (show Chn W0.heap.size W0 _ from (by repeat (first | with_reducible assumption | with_reducible refine Chn.drew ?_))) hb8; have hD8 : Chn w8.heap.size w8 w8 := Chn.refl (Nat.le_refl _); clear hb8)
    | (go_at_call 24; refine (A8.out _).mono ?_; rintro e w9 ⟨a9, c9, rfl, hL9, hb9⟩; have hC9 := Chn.below (show Chn W0.heap.size W0 _ from (by repeat (first | with_reducible assumption | with_reducible refine Chn.drew ?_))) hb9; have hD9 : Chn w9.heap.size w9 w9 := Chn.refl (Nat.le_refl _); have hX9 := Chn.below (show Chn w8.heap.size w8 _ from (by repeat (first | with_reducible assumption | with_reducible refine Chn.drew ?_))) hb9; have hM9 := hL8.later hX9.out; clear hb9)
    | (go_at_call 20; refine (KInts_any a8 a9 QL.length QL.length c8 c9 QL _ hQL (hM9.later (Chn.out (show Chn w9.heap.size w9 _ from (by repeat (first | with_reducible assumption | with_reducible refine Chn.drew ?_))))) (hL9.later (Chn.out (show Chn w9.heap.size w9 _ from (by repeat (first | with_reducible assumption | with_reducible refine Chn.drew ?_)))))).mono ?_; rintro e w10 ⟨rfl, hb10⟩; have hC10 := Chn.below (show Chn W0.heap.size W0 _ from (by repeat (first | with_reducible assumption | with_reducible refine Chn.drew ?_))) hb10; clear hb10)
    | (go_at_call 9; refine (KN.out _).mono ?_; rintro e w11 ⟨rfl, hb11⟩; have hC11 := Chn.below (show Chn W0.heap.size W0 _ from (by repeat (first | with_reducible assumption | with_reducible refine Chn.drew ?_))) hb11; clear hb11))
  all_goals
    go_wp2
    go_ret
    exact ⟨rfl, bthen HB0.out hC11.out⟩
end Go.Proofs.Ytgclabboafdheaa.LawRosterAsks
