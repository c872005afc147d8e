/- The walk of the statement KingPlays: the call returns true, and makes at most new memory; conditions: the table and the rows lie where they say, and lengths fit int. -/
import Derived.Test.YtklcjfbdneallaaKinK
import Derived.Test.YtklcjfbdneallaaKinT
namespace Go.Proofs.Ytklcjfbdneallaa.LawKingPlays
open Go.ChangeShapes Go.WideShapes Go.ChangeAt Go.RowKit
set_option linter.unusedVariables false
attribute [local go_sem] cell_rg

/-- What both plays answer. -/
theorem both (n f d p r dr o sl md fr : Int) (ad : Option Addr) (cap : Nat) (zs : List Int) (a1 : Option Addr) (c1 : Nat) (bits : List Int) (a2 : Option Addr) (c2 : Nat) (fs : List Int) (a3 : Option Addr) (c3 : Nat) (vs : List Int) (w : World) (hl : zs.length ≤ 9223372036854775807) (hT : Tab w ad zs)
    (h1 : bits.length ≤ 9223372036854775807) (hV1 : kInt.Lies w.heap.size w (.slice a1 bits.length c1) bits) (h2 : fs.length ≤ 9223372036854775807) (hV2 : kInt.Lies w.heap.size w (.slice a2 fs.length c2) fs) (h3 : vs.length ≤ 9223372036854775807) (hV3 : kInt.Lies w.heap.size w (.slice a3 vs.length c3) vs) :
    ∃ PL : List Int, PL.length ≤ 1000000 ∧ (∀ V, Below w.heap.size w V → Calls Try.prog 34 #[.agg #[.int .i64 n, .int .i64 f, .int .i64 d, .int .i64 p, .int .i64 r, .int .i64 dr, .int .i64 o, .int .i64 sl, .int .i64 md, .int .i64 fr, .slice ad zs.length cap], .slice a1 bits.length c1, .slice a2 fs.length c2, .slice a3 vs.length c3] V fun e w' => ∃ aq lq cq, e = .returned (.slice aq lq cq) ∧ kInt.Lies w'.heap.size w' (.slice aq lq cq) PL ∧ Below V.heap.size V w') ∧
      (∀ V, Below w.heap.size w V → Calls Try.prog 35 #[.agg #[.int .i64 n, .int .i64 f, .int .i64 d, .int .i64 p, .int .i64 r, .int .i64 dr, .int .i64 o, .int .i64 sl, .int .i64 md, .int .i64 fr, .slice ad zs.length cap], .slice a1 bits.length c1, .slice a2 fs.length c2, .slice a3 vs.length c3] V fun e w' => ∃ aq lq cq, e = .returned (.slice aq lq cq) ∧ kInt.Lies w'.heap.size w' (.slice aq lq cq) PL ∧ Below V.heap.size V w') := by
  by_cases hE : plainE n f d p r dr o sl md fr zs = 0
  · obtain ⟨n1, n2, f1, f2, fn, _⟩ := plainE_ok hE
    obtain ⟨N, rfl⟩ : ∃ N : Nat, n = (N : Int) := ⟨n.toNat, by omega⟩
    obtain ⟨F, hF⟩ : ∃ F : Nat, f = (F : Int) := ⟨f.toNat, by omega⟩
    have hlen : (endsL (faB N fs) N (playL (faB N fs) vs N f bits (3 * (F + 1)))).length = N := by simp [endsL]
    refine ⟨endsL (faB N fs) N (playL (faB N fs) vs N f bits (3 * (F + 1))), by rw [hlen]; omega, fun V hb => ?_, fun V hb => ?_⟩
    · refine (Play_ok N f d p r dr o sl md fr ad cap zs F hF a1 c1 bits a2 c2 fs a3 c3 vs V hl (hT.below hb) hE h1 h2 h3 (hV1.later hb) (hV2.later hb) (hV3.later hb)).mono ?_
      rintro e w' ⟨g, rfl, hB, hb'⟩
      have hli := hB.lies (by rw [hlen]; simp only [maxLen]; omega)
      rw [hlen] at hli
      exact ⟨_, _, _, rfl, hli, hb'⟩
    · refine (rPlay_ok N f d p r dr o sl md fr ad cap zs F hF a1 c1 bits a2 c2 fs a3 c3 vs V hl (hT.below hb) hE h1 h2 h3 (hV1.later hb) (hV2.later hb) (hV3.later hb)).mono ?_
      rintro e w' ⟨aq, cq, rfl, hB, hb'⟩
      exact ⟨_, _, _, rfl, hB, hb'⟩
  · refine ⟨[], by decide, fun V hb => ?_, fun V hb => ?_⟩
    · refine (Play_no n f d p r dr o sl md fr ad cap zs a1 bits.length c1 a2 fs.length c2 a3 vs.length c3 V hl (hT.below hb) hE).mono ?_
      rintro e w' ⟨rfl, hb'⟩
      exact ⟨_, _, _, rfl, Kind.Lies.nil (K := kInt) _ _, hb'⟩
    · refine (rPlay_no n f d p r dr o sl md fr ad cap zs a1 bits.length c1 a2 fs.length c2 a3 vs.length c3 V hl (hT.below hb) hE).mono ?_
      rintro e w' ⟨rfl, hb'⟩
      exact ⟨_, _, _, rfl, Kind.Lies.nil (K := kInt) _ _, hb'⟩
set_option maxHeartbeats 4000000 in
theorem walk (n f d p r dr o sl md fr : Int) (ad : Option Addr) (cap : Nat) (zs : List Int) (a1 : Option Addr) (c1 : Nat) (bits : List Int) (a2 : Option Addr) (c2 : Nat) (fs : List Int) (a3 : Option Addr) (c3 : Nat) (vs : List Int) (w : World) (hl : zs.length ≤ 9223372036854775807) (hT : Tab w ad zs)
    (h1 : bits.length ≤ 9223372036854775807) (hV1 : kInt.Lies w.heap.size w (.slice a1 bits.length c1) bits) (h2 : fs.length ≤ 9223372036854775807) (hV2 : kInt.Lies w.heap.size w (.slice a2 fs.length c2) fs) (h3 : vs.length ≤ 9223372036854775807) (hV3 : kInt.Lies w.heap.size w (.slice a3 vs.length c3) vs) :
    Calls Try.prog 8 #[.agg #[.int .i64 n, .int .i64 f, .int .i64 d, .int .i64 p, .int .i64 r, .int .i64 dr, .int .i64 o, .int .i64 sl, .int .i64 md, .int .i64 fr, .slice ad zs.length cap], .slice a1 bits.length c1, .slice a2 fs.length c2, .slice a3 vs.length c3] w fun e w' => e = .returned (.bool true) ∧ Below w.heap.size w w' := by
  obtain ⟨PL, hPL, hP1, hP2⟩ := both n f d p r dr o sl md fr ad cap zs a1 c1 bits a2 c2 fs a3 c3 vs w hl hT h1 hV1 h2 hV2 h3 hV3
  have KN := hidden (fun V => known14_any V)
  have D1 := hidden hP1
  have D2 := hidden hP2
  clear hT hV1 hV2 hV3 hP1 hP2
  by_cases hbig : bits.length ≤ 20 ∧ fs.length ≤ 20 ∧ vs.length ≤ 4000
  · obtain ⟨g1, g2, g3⟩ := hbig
    have j1 : decide ((20 : Int) < (bits.length : Int)) = false := decide_eq_false (by omega)
    have j2 : decide ((20 : Int) < (fs.length : Int)) = false := decide_eq_false (by omega)
    have j3 : decide ((4000 : Int) < (vs.length : Int)) = false := decide_eq_false (by omega)
    have HK := hidden (blk_nw w #[.int .i64 n, .int .i64 f, .int .i64 d, .int .i64 p, .int .i64 r, .int .i64 dr, .int .i64 o, .int .i64 sl, .int .i64 md, .int .i64 fr, .slice ad zs.length cap] 24)
    have HB0 := hidden (ballc w (.cells #[.int .i64 n, .int .i64 f, .int .i64 d, .int .i64 p, .int .i64 r, .int .i64 dr, .int .i64 o, .int .i64 sl, .int .i64 md, .int .i64 fr, .slice ad zs.length cap] 24))
    clear g1 g2 g3
    go_enter Try.func8, Try.ntmps8
    go_wp2_with fail
    generalize w.alloc (.cells #[.int .i64 n, .int .i64 f, .int .i64 d, .int .i64 p, .int .i64 r, .int .i64 dr, .int .i64 o, .int .i64 sl, .int .i64 md, .int .i64 fr, .slice ad zs.length cap] 24) = W0 at *
    have hC0 : Chn W0.heap.size W0 W0 := Chn.refl (Nat.le_refl _)
    have hS : ∀ V, Chn W0.heap.size W0 V → V.cell? ⟨w.heap.size, 0, none⟩ = some (.int .i64 n) ∧ V.cell? ⟨w.heap.size, 1, none⟩ = some (.int .i64 f) ∧ V.cell? ⟨w.heap.size, 2, none⟩ = some (.int .i64 d) ∧ V.cell? ⟨w.heap.size, 3, none⟩ = some (.int .i64 p) ∧ V.cell? ⟨w.heap.size, 4, none⟩ = some (.int .i64 r) ∧ V.cell? ⟨w.heap.size, 5, none⟩ = some (.int .i64 dr) ∧ V.cell? ⟨w.heap.size, 6, none⟩ = some (.int .i64 o) ∧ V.cell? ⟨w.heap.size, 7, none⟩ = some (.int .i64 sl) ∧ V.cell? ⟨w.heap.size, 8, none⟩ = some (.int .i64 md) ∧ V.cell? ⟨w.heap.size, 9, none⟩ = some (.int .i64 fr) ∧ V.cell? ⟨w.heap.size, 10, none⟩ = some (.slice ad zs.length cap) := by
      intro V hC
      have l1 := blk_cell (blk_later HK.out hC.out)
      exact ⟨l1 0, l1 1, l1 2, l1 3, l1 4, l1 5, l1 6, l1 7, l1 8, l1 9, l1 10⟩
    have l0 := blk_lt HK.out
    go_region_held3 (fun V => V.cell? ⟨w.heap.size, 0, none⟩ = some (.int .i64 n) ∧ V.cell? ⟨w.heap.size, 1, none⟩ = some (.int .i64 f) ∧ V.cell? ⟨w.heap.size, 2, none⟩ = some (.int .i64 d) ∧ V.cell? ⟨w.heap.size, 3, none⟩ = some (.int .i64 p) ∧ V.cell? ⟨w.heap.size, 4, none⟩ = some (.int .i64 r) ∧ V.cell? ⟨w.heap.size, 5, none⟩ = some (.int .i64 dr) ∧ V.cell? ⟨w.heap.size, 6, none⟩ = some (.int .i64 o) ∧ V.cell? ⟨w.heap.size, 7, none⟩ = some (.int .i64 sl) ∧ V.cell? ⟨w.heap.size, 8, none⟩ = some (.int .i64 md) ∧ V.cell? ⟨w.heap.size, 9, none⟩ = some (.int .i64 fr) ∧ V.cell? ⟨w.heap.size, 10, none⟩ = some (.slice ad zs.length cap)) (first | exact hS _ (by repeat (first | with_reducible assumption | with_reducible refine Chn.drew ?_)))
      (first
      | (go_at_call 34; refine (D1.out _ (bthen HB0.out (Chn.out (by repeat (first | with_reducible assumption | with_reducible refine Chn.drew ?_))))).mono ?_; rintro e w5 ⟨aq, lq, cq, rfl, hL5, hb5⟩; have hC5 := Chn.below (show Chn W0.heap.size W0 _ from (by repeat (first | with_reducible assumption | with_reducible refine Chn.drew ?_))) hb5; have hD5 : Chn w5.heap.size w5 w5 := Chn.refl (Nat.le_refl _); clear hb5)
      | (go_at_call 35; refine (D2.out _ (bthen HB0.out (Chn.out (by repeat (first | with_reducible assumption | with_reducible refine Chn.drew ?_))))).mono ?_; rintro e w6 ⟨ar, lr, cr, rfl, hL6, hb6⟩; have hC6 := Chn.below (show Chn W0.heap.size W0 _ from (by repeat (first | with_reducible assumption | with_reducible refine Chn.drew ?_))) hb6; have hC56 := Chn.below (show Chn w5.heap.size w5 _ from (by repeat (first | with_reducible assumption | with_reducible refine Chn.drew ?_))) hb6; have hL56 := hL5.later hC56.out; have hD6 : Chn w6.heap.size w6 w6 := Chn.refl (Nat.le_refl _); clear hb6)
      | (go_at_call 33; refine (KInts_any aq ar lq lr cq cr PL _ hPL (hL56.later (Chn.out (show Chn w6.heap.size w6 _ from (by repeat (first | with_reducible assumption | with_reducible refine Chn.drew ?_))))) (hL6.later (Chn.out (show Chn w6.heap.size w6 _ from (by repeat (first | with_reducible assumption | with_reducible refine Chn.drew ?_)))))).mono ?_; rintro e w7 ⟨rfl, hb7⟩; have hC7 := Chn.below (show Chn W0.heap.size W0 _ from (by repeat (first | with_reducible assumption | with_reducible refine Chn.drew ?_))) hb7; clear hb7)
      | (go_at_call 24; refine (KN.out _).mono ?_; rintro e w8 ⟨rfl, hb8⟩; have hC8 := Chn.below (show Chn W0.heap.size W0 _ from (by repeat (first | with_reducible assumption | with_reducible refine Chn.drew ?_))) hb8; clear hb8))
    all_goals
      go_wp2
      go_ret
      exact ⟨rfl, bthen HB0.out hC8.out⟩
  · by_cases q1 : 20 < bits.length
    · have j1 : decide ((20 : Int) < (bits.length : Int)) = true := decide_eq_true (by omega)
      clear hbig q1
      go_enter Try.func8, Try.ntmps8
      go_wp2_with fail
      refine (KN.out _).mono ?_
      rintro e w3 ⟨rfl, hb⟩
      have HB3 := hidden (bthen (ballc w _) hb)
      clear hb
      go_wp2
      go_ret
      exact ⟨rfl, HB3.out⟩
    · have j1 : decide ((20 : Int) < (bits.length : Int)) = false := decide_eq_false (by omega)
      by_cases q2 : 20 < fs.length
      · have j2 : decide ((20 : Int) < (fs.length : Int)) = true := decide_eq_true (by omega)
        clear hbig q1 q2
        go_enter Try.func8, Try.ntmps8
        go_wp2_with fail
        refine (KN.out _).mono ?_
        rintro e w3 ⟨rfl, hb⟩
        have HB3 := hidden (bthen (ballc w _) hb)
        clear hb
        go_wp2
        go_ret
        exact ⟨rfl, HB3.out⟩
      · have j2 : decide ((20 : Int) < (fs.length : Int)) = false := decide_eq_false (by omega)
        have j3 : decide ((4000 : Int) < (vs.length : Int)) = true := decide_eq_true (by omega)
        clear hbig q1 q2
        go_enter Try.func8, Try.ntmps8
        go_wp2_with fail
        refine (KN.out _).mono ?_
        rintro e w3 ⟨rfl, hb⟩
        have HB3 := hidden (bthen (ballc w _) hb)
        clear hb
        go_wp2
        go_ret
        exact ⟨rfl, HB3.out⟩
end Go.Proofs.Ytklcjfbdneallaa.LawKingPlays
