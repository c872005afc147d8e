/- The walk of the statement RosterAll: the call returns true, and makes at most new memory; conditions: lengths fit int. -/
import Derived.Test.YtgclabboafdheaaBa
import Derived.Test.YtgclabboafdheaaBb
import Derived.Deep.RegionHeld3
namespace Go.Proofs.Ytgclabboafdheaa.LawRosterAll
open Go.ChangeShapes Go.WideShapes Go.ChangeAt Go.RowKit
set_option linter.unusedVariables false
attribute [local go_sem] cell_rg

theorem calls_lies {P : Program} {F : FuncId} {args : Array Value} {w : World} {base : Nat} {L : List Int} (h : Calls P F args w fun e w' => ∃ r, e = .returned r ∧ w'.ownsRow base 3 1 r L.length (kInt.flat L) ∧ Below w.heap.size w w') :
    Calls P F args w fun e w' => ∃ a c, e = .returned (.slice a L.length c) ∧ kInt.Lies w'.heap.size w' (.slice a L.length c) L ∧ Below w.heap.size w w' :=
  h.mono (by
    rintro e w' ⟨r, rfl, ho, hb⟩
    obtain ⟨a, c, rfl⟩ := own_slice ho
    exact ⟨a, c, rfl, Kind.Lies.of_own ho, hb⟩)
theorem plc_up (f : Nat → Bool) (n : Nat) (q k : Nat) (hq : q < (plcL f n).length) (hk : k < (plcL f n).length) (h : q + 1 = k) : (plcL f n)[q] < (plcL f n)[k] := List.pairwise_iff_getElem.1 (plcL_sorted f n) q k hq hk (by omega)
set_option maxRecDepth 100000 in
set_option maxHeartbeats 8000000 in
theorem walk (n f d p r dr o sl md fr : Int) (ad : Option Addr) (cap : Nat) (zs : List Int) (s : ByteArray) (w : World) (hl : zs.length ≤ 9223372036854775807) (hT : Tab w ad zs) (hs : s.size ≤ 9223372036854775807) :
    Calls Try.prog 5 #[.agg #[.int .i64 n, .int .i64 f, .int .i64 d, .int .i64 p, .int .i64 r, .int .i64 dr, .int .i64 o, .int .i64 sl, .int .i64 md, .int .i64 fr, .slice ad zs.length cap], .string s] w fun e w' => e = .returned (.bool true) ∧ Below w.heap.size w w' := by
  have HB0 := hidden (ballc w (.cells #[.int .i64 n, .int .i64 f, .int .i64 d, .int .i64 p, .int .i64 r, .int .i64 dr, .int .i64 o, .int .i64 sl, .int .i64 md, .int .i64 fr, .slice ad zs.length cap] 24))
  have HK := hidden (blk_nw w #[.int .i64 n, .int .i64 f, .int .i64 d, .int .i64 p, .int .i64 r, .int .i64 dr, .int .i64 o, .int .i64 sl, .int .i64 md, .int .i64 fr, .slice ad zs.length cap] 24)
  have KN := hidden (fun V => known25_any V)
  have b0 := blk_cell HK.out
  have l0 := blk_lt HK.out
  clear hT
  by_cases h1 : n < 0
  · have d1 : decide (n < 0) = true := decide_eq_true h1
    go_enter Try.func5, Try.ntmps5
    go_wp2_with fail
    refine (KN.out _).mono ?_
    rintro e w2 ⟨rfl, hb2⟩
    have HB2 := hidden (bthen HB0.out hb2)
    clear hb2
    go_wp2
    go_ret
    exact ⟨rfl, HB2.out⟩
  have d1 : decide (n < 0) = false := decide_eq_false h1
  by_cases h2 : 64 < n
  · have d2 : decide (64 < n) = true := decide_eq_true h2
    go_enter Try.func5, Try.ntmps5
    go_wp2_with fail
    refine (KN.out _).mono ?_
    rintro e w2 ⟨rfl, hb2⟩
    have HB2 := hidden (bthen HB0.out hb2)
    clear hb2
    go_wp2
    go_ret
    exact ⟨rfl, HB2.out⟩
  have d2 : decide (64 < n) = false := decide_eq_false h2
  by_cases h3 : 100 < s.size
  · have d3 : decide ((100 : Int) < (s.size : Int)) = true := decide_eq_true (by omega)
    have d4 : decide (100 < s.size) = true := decide_eq_true h3
    go_enter Try.func5, Try.ntmps5
    go_wp2_with fail
    refine (KN.out _).mono ?_
    rintro e w2 ⟨rfl, hb2⟩
    have HB2 := hidden (bthen HB0.out hb2)
    clear hb2
    go_wp2
    go_ret
    exact ⟨rfl, HB2.out⟩
  have d3 : decide ((100 : Int) < (s.size : Int)) = false := decide_eq_false (by omega)
  have d4 : decide (100 < s.size) = false := decide_eq_false h3
  obtain ⟨N, rfl⟩ := Int.eq_ofNat_of_zero_le (show 0 ≤ n by omega)
  have hN : N ≤ 64 := by omega
  have hmk := mkN_of hN
  have hsz := markB_size s (N : Int) []
  have hlk := lack_markB (N : Int) s
  rw [hmk] at hsz hlk
  have CM := hidden (fun V => RMark_any (N : Int) f d p r dr o sl md fr ad cap zs s none 0 [] V hs (by decide) (Kind.Lies.nil _ _))
  have hback := markB_nodL (N : Int) s
  generalize markB s (N : Int) [] = R at *
  have A1 := hidden (fun z V => Has_any R z V (by omega))
  have A3 := hidden (fun V => Count_any R V)
  have A5 := hidden (fun V => calls_lies (Nodes_any R (by omega) V))
  have A7 := hidden (fun V => calls_lies (Lacks_any (N : Int) f d p r dr o sl md fr ad cap zs R V (by omega)))
  have HP1 : Hid (∀ k, ∀ h : k < (nodL R).length, hasI R (nodL R)[k] = true) := fun k h => hasI_mem (List.getElem_mem h)
  have HQ1 : Hid (∀ k, ∀ h : k < (lackL (N : Int) R).length, hasI R (lackL (N : Int) R)[k] = false) := fun k h => hasI_lack (List.getElem_mem h)
  have HP2 : Hid (∀ q k, ∀ hq : q < (nodL R).length, ∀ hk : k < (nodL R).length, q + 1 = k → (nodL R)[q] < (nodL R)[k]) := fun q k hq hk h => plc_up _ _ q k hq hk h
  have HQ2 : Hid (∀ q k, ∀ hq : q < (lackL (N : Int) R).length, ∀ hk : k < (lackL (N : Int) R).length, q + 1 = k → (lackL (N : Int) R)[q] < (lackL (N : Int) R)[k]) := fun q k hq hk h => plc_up _ _ q k hq hk h
  have CN := hidden (fun V a c h => RMark_any (N : Int) f d p r dr o sl md fr ad cap zs ⟨#[]⟩ a c (nodL R) V (by decide) (by omega) h)
  rw [hback] at CN
  clear hback
  generalize nodL R = PL at *
  generalize lackL (N : Int) R = QL at *
  have j0 : ((R.size : Int) != (N : Int)) = false := by rw [hsz]; simp
  have j1 : ((PL.length : Int) != (PL.length : Int)) = false := by simp
  have j2 : ((PL.length : Int) + (QL.length : Int) != (N : Int)) = false := by rw [← hlk]; simp
  have hp1 : PL.length ≤ 64 := by omega
  have hq1 : QL.length ≤ 64 := by omega
  have HSZ := hidden hsz
  clear hsz hlk hmk
  go_enter Try.func5, Try.ntmps5
  go_wp2_with fail
  refine (CM.out _).mono ?_
  rintro e w1 ⟨rfl, hb1⟩
  have HB1 := hidden (bthen HB0.out hb1)
  have HK1 := hidden (blk_later HK.out hb1)
  clear hb1 b0 l0 CM
  go_wp2_with fail
  generalize hW0 : w1 = W0 at *
  clear hW0
  have hC0 : Chn W0.heap.size W0 W0 := Chn.refl (Nat.le_refl _)
  have hS : ∀ V, Chn W0.heap.size W0 V → V.cell? ⟨w.heap.size, 0, none⟩ = some (.int .i64 (N : Int)) ∧ V.cell? ⟨w.heap.size, 1, none⟩ = some (.int .i64 f) ∧ V.cell? ⟨w.heap.size, 2, none⟩ = some (.int .i64 d) ∧ V.cell? ⟨w.heap.size, 3, none⟩ = some (.int .i64 p) ∧ V.cell? ⟨w.heap.size, 4, none⟩ = some (.int .i64 r) ∧ V.cell? ⟨w.heap.size, 5, none⟩ = some (.int .i64 dr) ∧ V.cell? ⟨w.heap.size, 6, none⟩ = some (.int .i64 o) ∧ V.cell? ⟨w.heap.size, 7, none⟩ = some (.int .i64 sl) ∧ V.cell? ⟨w.heap.size, 8, none⟩ = some (.int .i64 md) ∧ V.cell? ⟨w.heap.size, 9, none⟩ = some (.int .i64 fr) ∧ V.cell? ⟨w.heap.size, 10, none⟩ = some (.slice ad zs.length cap) := by
    intro V hC
    have l1 := blk_cell (blk_later HK1.out hC.out)
    exact ⟨l1 0, l1 1, l1 2, l1 3, l1 4, l1 5, l1 6, l1 7, l1 8, l1 9, l1 10⟩
  have l0 := blk_lt HK1.out
  go_region_held3 (fun V => V.cell? ⟨w.heap.size, 0, none⟩ = some (.int .i64 (N : Int)) ∧ V.cell? ⟨w.heap.size, 1, none⟩ = some (.int .i64 f) ∧ V.cell? ⟨w.heap.size, 2, none⟩ = some (.int .i64 d) ∧ V.cell? ⟨w.heap.size, 3, none⟩ = some (.int .i64 p) ∧ V.cell? ⟨w.heap.size, 4, none⟩ = some (.int .i64 r) ∧ V.cell? ⟨w.heap.size, 5, none⟩ = some (.int .i64 dr) ∧ V.cell? ⟨w.heap.size, 6, none⟩ = some (.int .i64 o) ∧ V.cell? ⟨w.heap.size, 7, none⟩ = some (.int .i64 sl) ∧ V.cell? ⟨w.heap.size, 8, none⟩ = some (.int .i64 md) ∧ V.cell? ⟨w.heap.size, 9, none⟩ = some (.int .i64 fr) ∧ V.cell? ⟨w.heap.size, 10, none⟩ = some (.slice ad zs.length cap)) (first | exact hS _ (by repeat (first | with_reducible assumption | with_reducible refine Chn.drew ?_)))
    (first
    | (go_at_call 21; refine (A5.out _).mono ?_; rintro e w5 ⟨a5, c5, rfl, hL5, hb5⟩; have hC5 := Chn.below (show Chn W0.heap.size W0 _ from (by repeat (first | with_reducible assumption | with_reducible refine Chn.drew ?_))) hb5; have hD5 : Chn w5.heap.size w5 w5 := Chn.refl (Nat.le_refl _); clear hb5)
    | (go_at_call 23; refine (A7.out _).mono ?_; rintro e w6 ⟨a6, c6, rfl, hL6, hb6⟩; have hC6 := Chn.below (show Chn W0.heap.size W0 _ from (by repeat (first | with_reducible assumption | with_reducible refine Chn.drew ?_))) hb6; have hX6 := Chn.below (show Chn w5.heap.size w5 _ from (by repeat (first | with_reducible assumption | with_reducible refine Chn.drew ?_))) hb6; have hM6 := hL5.later hX6.out; clear hb6))
  have HL5 := hidden hM6
  have HL6 := hidden hL6
  have HB6 := hidden (bthen HB1.out hC6.out)
  have HK6 := hidden (blk_later HK1.out hC6.out)
  clear hM6 hL6 hC6 hX6 hL5 hC5 hD5 hS hC0 l0
  have b0 := blk_cell HK6.out
  have l0 := blk_lt HK6.out
  go_wp2_with fail
  refine (A3.out _).mono ?_
  rintro e w7 ⟨rfl, rfl⟩
  go_wp2
  clear b0 l0
  go_loopw [8] (fun i wr => ∃ k : Nat, k ≤ PL.length ∧ i = .int .i64 k ∧ Below w6.heap.size w6 wr) (fun i _ => PL.length - (intV i).toNat)
  case atStart => exact ⟨0, Nat.zero_le _, rfl, Below.refl _ _⟩
  case round =>
    obtain ⟨k, hk, rfl, hB⟩ := hrel
    have HB := hidden (hB)
    have HLr := hidden (HL5.out.below hB)
    clear hB
    by_cases hlt : k < PL.length
    · have i1 : (0 : Int) ≤ (k : Int) := by omega
      have i2 : (k : Int) < (PL.length : Int) := by omega
      obtain ⟨b, off, rfl, hbl, e0⟩ := kInt_at HLr.out k hlt
      have hbw : b < wr.heap.size := by have := HB.out.size; omega
      have hh := HP1.out k hlt
      have hcall := fun V => A1.out PL[k] V
      rw [hh] at hcall
      by_cases h0 : k = 0
      · subst h0
        have j0 : decide ((0 : Int) < ((0 : Nat) : Int)) = false := rfl
        rw [Nat.add_zero] at e0
        generalize PL[0] = z at *
        clear hh
        go_wp2
        refine wp_region_quiet_below (by kernel_rfl) (by kernel_rfl) ?_
        repeat (go_big_quiet_step (first | (go_at_call 16; exact Calls.regrown_of (hcall _))))
        refine wpQuiet_nil ?_
        intro w3 hw3
        have HB3 := hidden (bthen HB.out (rg_below hw3))
        clear hw3
        go_wp2
        go_roundw
        case rel => exact ⟨0 + 1, by omega, by go_num, HB3.out⟩
        case measure => simp [intV]; omega
      · have j0 : decide (0 < k) = true := decide_eq_true (by omega)
        obtain ⟨q, hq⟩ : ∃ q, k - 1 = q := ⟨_, rfl⟩
        have hql : q < PL.length := by omega
        obtain ⟨b', off', hbo, _, e1⟩ := kInt_at HLr.out q hql
        have hbo' : b = b' ∧ off = off' := by simpa using hbo
        obtain ⟨rfl, rfl⟩ := hbo'
        have hlt2 := HP2.out q k hql hlt (by omega)
        have t1 : IntKind.i64.wrap ((k : Int) - 1) = (q : Int) := by rw [show (k : Int) - 1 = (q : Int) by omega]; exact IntWalk.i64_in _ (by omega)
        have i3 : (0 : Int) ≤ (q : Int) := by omega
        have i4 : (q : Int) < (PL.length : Int) := by omega
        have j1 : decide (PL[k] ≤ PL[q]) = false := decide_eq_false (by omega)
        generalize PL[k] = z at *
        generalize PL[q] = z2 at *
        clear hh hq hlt2
        go_wp2
        refine wp_region_quiet_below (by kernel_rfl) (by kernel_rfl) ?_
        repeat (go_big_quiet_step (first | (go_at_call 16; exact Calls.regrown_of (hcall _))))
        refine wpQuiet_nil ?_
        intro w3 hw3
        have HB3 := hidden (bthen HB.out (rg_below hw3))
        clear hw3
        go_wp2
        go_roundw
        case rel => exact ⟨k + 1, by omega, by go_num, HB3.out⟩
        case measure => simp [intV]; omega
    · obtain rfl : k = PL.length := by omega
      have i2 : ¬ (PL.length : Int) < (PL.length : Int) := by omega
      go_wp2
      go_loopw [9] (fun i wr => ∃ k : Nat, k ≤ QL.length ∧ i = .int .i64 k ∧ Below w6.heap.size w6 wr) (fun i _ => QL.length - (intV i).toNat)
      case atStart => exact ⟨0, Nat.zero_le _, rfl, HB.out⟩
      case round =>
        clear HB
        obtain ⟨k, hk, rfl, hB⟩ := hrel
        have HB := hidden (hB)
        have HLr := hidden (HL6.out.below hB)
        clear hB
        by_cases hlt : k < QL.length
        · have i1 : (0 : Int) ≤ (k : Int) := by omega
          have i2 : (k : Int) < (QL.length : Int) := by omega
          obtain ⟨b, off, rfl, hbl, e0⟩ := kInt_at HLr.out k hlt
          have hbw : b < wr.heap.size := by have := HB.out.size; omega
          have hh := HQ1.out k hlt
          have hcall := fun V => A1.out QL[k] V
          rw [hh] at hcall
          by_cases h0 : k = 0
          · subst h0
            have j0 : decide ((0 : Int) < ((0 : Nat) : Int)) = false := rfl
            rw [Nat.add_zero] at e0
            generalize QL[0] = z at *
            clear hh
            go_wp2
            refine wp_region_quiet_below (by kernel_rfl) (by kernel_rfl) ?_
            repeat (go_big_quiet_step (first | (go_at_call 16; exact Calls.regrown_of (hcall _))))
            refine wpQuiet_nil ?_
            intro w3 hw3
            have HB3 := hidden (bthen HB.out (rg_below hw3))
            clear hw3
            go_wp2
            go_roundw
            case rel => exact ⟨0 + 1, by omega, by go_num, HB3.out⟩
            case measure => simp [intV]; omega
          · have j0 : decide (0 < k) = true := decide_eq_true (by omega)
            obtain ⟨q, hq⟩ : ∃ q, k - 1 = q := ⟨_, rfl⟩
            have hql : q < QL.length := by omega
            obtain ⟨b', off', hbo, _, e1⟩ := kInt_at HLr.out q hql
            have hbo' : b = b' ∧ off = off' := by simpa using hbo
            obtain ⟨rfl, rfl⟩ := hbo'
            have hlt2 := HQ2.out q k hql hlt (by omega)
            have t1 : IntKind.i64.wrap ((k : Int) - 1) = (q : Int) := by rw [show (k : Int) - 1 = (q : Int) by omega]; exact IntWalk.i64_in _ (by omega)
            have i3 : (0 : Int) ≤ (q : Int) := by omega
            have i4 : (q : Int) < (QL.length : Int) := by omega
            have j1 : decide (QL[k] ≤ QL[q]) = false := decide_eq_false (by omega)
            generalize QL[k] = z at *
            generalize QL[q] = z2 at *
            clear hh hq hlt2
            go_wp2
            refine wp_region_quiet_below (by kernel_rfl) (by kernel_rfl) ?_
            repeat (go_big_quiet_step (first | (go_at_call 16; exact Calls.regrown_of (hcall _))))
            refine wpQuiet_nil ?_
            intro w3 hw3
            have HB3 := hidden (bthen HB.out (rg_below hw3))
            clear hw3
            go_wp2
            go_roundw
            case rel => exact ⟨k + 1, by omega, by go_num, HB3.out⟩
            case measure => simp [intV]; omega
        · obtain rfl : k = QL.length := by omega
          have i2 : ¬ (QL.length : Int) < (QL.length : Int) := by omega
          have HL5r := hidden (HL5.out.later HB.out)
          have HKr := hidden (blk_later HK6.out HB.out)
          have b0 := blk_cell HKr.out
          have l0 := blk_lt HKr.out
          have hcm := CN.out wr a5 c5 (HL5r.out)
          go_wp2_with fail
          refine hcm.mono ?_
          rintro e w8 ⟨rfl, hb8⟩
          have HB8 := hidden (bthen HB.out hb8)
          clear hb8 b0 l0 hcm
          go_wp2_with fail
          refine (KN.out _).mono ?_
          rintro e w9 ⟨rfl, hb9⟩
          have HB9 := hidden (bthen HB8.out hb9)
          clear hb9
          go_wp2
          go_ret
          exact ⟨rfl, bthen HB6.out HB9.out⟩
end Go.Proofs.Ytgclabboafdheaa.LawRosterAll
