/- The walk of the statement RosterJoins: the call returns true, and makes at most new memory; conditions: lengths fit int. -/
import Derived.Test.YtgclabboafdheaaBa
namespace Go.Proofs.Ytgclabboafdheaa.LawRosterJoins
open Go.ChangeShapes Go.WideShapes Go.ChangeAt Go.RowKit
set_option linter.unusedVariables false
attribute [local go_sem] cell_rg

theorem sentB_one (s : ByteArray) (n z : Int) (k : Nat) (h : k < mkN n) : sentB (markB s n [z]) k = (sentB s k || decide ((k : Int) = z)) := by
  rw [sentB_markB, decide_eq_true h, Bool.true_and]
  unfold markP
  simp
set_option maxRecDepth 100000 in
set_option maxHeartbeats 8000000 in
theorem walk (n f d p r dr o sl md fr : Int) (ad : Option Addr) (cap : Nat) (zs : List Int) (s t : ByteArray) (z : Int) (w : World) (hl : zs.length ≤ 9223372036854775807) (hT : Tab w ad zs) (hs : s.size ≤ 9223372036854775807) (ht : t.size ≤ 9223372036854775807) (hz : -9223372036854775808 ≤ z ∧ z ≤ 9223372036854775807) :
    Calls Try.prog 6 #[.agg #[.int .i64 n, .int .i64 f, .int .i64 d, .int .i64 p, .int .i64 r, .int .i64 dr, .int .i64 o, .int .i64 sl, .int .i64 md, .int .i64 fr, .slice ad zs.length cap], .string s, .string t, .int .i64 z] w fun e w' => e = .returned (.bool true) ∧ Below w.heap.size w w' := by
  have HB0 := hidden (ballc w (.cells #[.int .i64 n, .int .i64 f, .int .i64 d, .int .i64 p, .int .i64 r, .int .i64 dr, .int .i64 o, .int .i64 sl, .int .i64 md, .int .i64 fr, .slice ad zs.length cap] 24))
  have HK := hidden (blk_nw w #[.int .i64 n, .int .i64 f, .int .i64 d, .int .i64 p, .int .i64 r, .int .i64 dr, .int .i64 o, .int .i64 sl, .int .i64 md, .int .i64 fr, .slice ad zs.length cap] 24)
  have KN := hidden (fun V => known25_any V)
  have b0 := blk_cell HK.out
  have l0 := blk_lt HK.out
  clear hT
  by_cases h1 : n < 0
  · have d1 : decide (n < 0) = true := decide_eq_true h1
    go_enter Try.func6, Try.ntmps6
    go_wp2_with fail
    refine (KN.out _).mono ?_
    rintro e w2 ⟨rfl, hb2⟩
    have HB2 := hidden (bthen HB0.out hb2)
    clear hb2
    go_wp2
    go_ret
    exact ⟨rfl, HB2.out⟩
  have d1 : decide (n < 0) = false := decide_eq_false h1
  by_cases h2 : 64 < n
  · have d2 : decide (64 < n) = true := decide_eq_true h2
    go_enter Try.func6, Try.ntmps6
    go_wp2_with fail
    refine (KN.out _).mono ?_
    rintro e w2 ⟨rfl, hb2⟩
    have HB2 := hidden (bthen HB0.out hb2)
    clear hb2
    go_wp2
    go_ret
    exact ⟨rfl, HB2.out⟩
  have d2 : decide (64 < n) = false := decide_eq_false h2
  by_cases h3 : 100 < s.size
  · have d3 : decide ((100 : Int) < (s.size : Int)) = true := decide_eq_true (by omega)
    have d4 : decide (100 < s.size) = true := decide_eq_true h3
    go_enter Try.func6, Try.ntmps6
    go_wp2_with fail
    refine (KN.out _).mono ?_
    rintro e w2 ⟨rfl, hb2⟩
    have HB2 := hidden (bthen HB0.out hb2)
    clear hb2
    go_wp2
    go_ret
    exact ⟨rfl, HB2.out⟩
  have d3 : decide ((100 : Int) < (s.size : Int)) = false := decide_eq_false (by omega)
  have d4 : decide (100 < s.size) = false := decide_eq_false h3
  by_cases h4 : 100 < t.size
  · have d5 : decide ((100 : Int) < (t.size : Int)) = true := decide_eq_true (by omega)
    have d6 : decide (100 < t.size) = true := decide_eq_true h4
    go_enter Try.func6, Try.ntmps6
    go_wp2_with fail
    refine (KN.out _).mono ?_
    rintro e w2 ⟨rfl, hb2⟩
    have HB2 := hidden (bthen HB0.out hb2)
    clear hb2
    go_wp2
    go_ret
    exact ⟨rfl, HB2.out⟩
  have d5 : decide ((100 : Int) < (t.size : Int)) = false := decide_eq_false (by omega)
  have d6 : decide (100 < t.size) = false := decide_eq_false h4
  obtain ⟨N, rfl⟩ := Int.eq_ofNat_of_zero_le (show 0 ≤ n by omega)
  have hN : N ≤ 64 := by omega
  have hmk := mkN_of hN
  have hX := markB_size s (N : Int) [z]
  have hY := markB_size ⟨#[]⟩ (N : Int) (bothL (N : Int) s t)
  have HXs := hidden (fun k h => sentB_one s (N : Int) z k h)
  have HYs := hidden (fun k h => sentB_bothB (N : Int) s t k h)
  rw [hmk] at hX hY HXs HYs
  have CX := hidden (fun V a h => RMark_any (N : Int) f d p r dr o sl md fr ad cap zs s a 1 [z] V hs (by simp) h)
  have CY := hidden (fun V => Both_any (N : Int) f d p r dr o sl md fr ad cap zs s t V hs ht)
  have CZ := hidden (fun V => by have q := Both_any (N : Int) f d p r dr o sl md fr ad cap zs t s V ht hs; rwa [bothB_comm] at q)
  have CA := hidden (fun V => by have q := Both_any (N : Int) f d p r dr o sl md fr ad cap zs s s V hs hs; rwa [bothB_self] at q)
  have CM := hidden (fun V => RMark_any (N : Int) f d p r dr o sl md fr ad cap zs s none 0 [] V hs (by decide) (Kind.Lies.nil _ _))
  have hY2 : (bothB (N : Int) s t).size = N := hY
  clear hY
  generalize markB s (N : Int) [z] = X at *
  generalize bothB (N : Int) s t = Y at *
  generalize markB s (N : Int) [] = M at *
  have A1 := hidden (fun (k : Nat) V => by have q := Has_any X (k : Int) V (by omega); rwa [hasI_nat] at q)
  have A2 := hidden (fun (k : Nat) V => by have q := Has_any Y (k : Int) V (by omega); rwa [hasI_nat] at q)
  have A3 := hidden (fun (k : Nat) V => by have q := Has_any s (k : Int) V hs; rwa [hasI_nat] at q)
  have A4 := hidden (fun (k : Nat) V => by have q := Has_any t (k : Int) V ht; rwa [hasI_nat] at q)
  have j0 : ((X.size : Int) == (N : Int)) = true := by rw [hX]; simp
  have HXZ := hidden hX
  clear hX hY2 hmk
  go_enter Try.func6, Try.ntmps6
  go_wp2_with fail
  refine (CX.out _ _ (Kind.Lies.of_block (K := kInt) (t := 3) (g := w.heap.size + 1) (es := [z]) (blk_newAt _ _ _ (by simp)) (by simp [maxLen]))).mono ?_
  rintro e w1 ⟨rfl, hb⟩
  have hb1 := bthen (ballc (w.alloc (.cells #[.int .i64 (N : Int), .int .i64 f, .int .i64 d, .int .i64 p, .int .i64 r, .int .i64 dr, .int .i64 o, .int .i64 sl, .int .i64 md, .int .i64 fr, .slice ad zs.length cap] 24)) (.cells #[.int .i64 z] 3)) hb
  have HB1 := hidden (bthen HB0.out hb1)
  have k0 := blk_later HK.out hb1
  have HK1 := hidden k0
  clear hb hb1 b0 l0 CX
  have b0 := blk_cell k0
  have l0 := blk_lt k0
  clear k0
  go_wp2_with fail
  refine (CY.out _).mono ?_
  rintro e w2 ⟨rfl, hb⟩
  have HB2 := hidden (bthen HB1.out hb)
  have HK2 := hidden (blk_later HK1.out hb)
  clear hb b0 l0 HK1 CY
  go_wp2
  go_loopw [11] (fun i wr => ∃ k : Nat, k ≤ N ∧ i = .int .i64 k ∧ Below w2.heap.size w2 wr) (fun i _ => N - (intV i).toNat)
  case atStart => exact ⟨0, Nat.zero_le _, rfl, Below.refl _ _⟩
  case round =>
    obtain ⟨k, hk, rfl, hB⟩ := hrel
    have HBa := hidden hB
    have k0 := blk_later HK2.out hB
    have HKr := hidden k0
    have b0 := blk_cell k0
    have l0 := blk_lt k0
    clear hB k0
    by_cases hlt : k < N
    · have i2 : (k : Int) < (N : Int) := by omega
      have HXk := HXs.out k hlt
      have HYk := HYs.out k hlt
      have B1 := hidden (A1.out k)
      have B2 := hidden (A2.out k)
      have B3 := hidden (A3.out k)
      have B4 := hidden (A4.out k)
      rw [HXk] at B1
      rw [HYk] at B2
      clear HXk HYk A1 A2 A3 A4 CZ CA CM
      cases ha : sentB s k with
      | true =>
        rw [ha] at B1 B2 B3
        rw [Bool.true_or] at B1
        rw [Bool.true_and] at B2
        generalize sentB t k = bt at *
        clear ha
        go_wp2_with fail
        refine (B1.out _).mono ?_
        rintro e w3 ⟨rfl, hb⟩
        have HB3 := hidden (bthen HBa.out hb)
        clear hb
        go_wp2_with fail
        refine (B3.out _).mono ?_
        rintro e w4 ⟨rfl, hb⟩
        have HB4 := hidden (bthen HB3.out hb)
        clear hb
        cases bt with
        | true =>
          go_wp2_with fail
          refine (B2.out _).mono ?_
          rintro e w5 ⟨rfl, hb⟩
          have HB5 := hidden (bthen HB4.out hb)
          clear hb
          go_wp2_with fail
          refine (B3.out _).mono ?_
          rintro e w6 ⟨rfl, hb⟩
          have HB6 := hidden (bthen HB5.out hb)
          clear hb
          go_wp2_with fail
          refine (B4.out _).mono ?_
          rintro e w7 ⟨rfl, hb⟩
          have HB7 := hidden (bthen HB6.out hb)
          clear hb
          go_wp2
          go_roundw
          case rel => exact ⟨k + 1, by omega, by go_num, HB7.out⟩
          case measure => simp [intV]; omega
        | false =>
          go_wp2_with fail
          refine (B2.out _).mono ?_
          rintro e w5 ⟨rfl, hb⟩
          have HB5 := hidden (bthen HB4.out hb)
          clear hb
          go_wp2_with fail
          refine (B3.out _).mono ?_
          rintro e w6 ⟨rfl, hb⟩
          have HB6 := hidden (bthen HB5.out hb)
          clear hb
          go_wp2_with fail
          refine (B4.out _).mono ?_
          rintro e w7 ⟨rfl, hb⟩
          have HB7 := hidden (bthen HB6.out hb)
          clear hb
          go_wp2
          go_roundw
          case rel => exact ⟨k + 1, by omega, by go_num, HB7.out⟩
          case measure => simp [intV]; omega
      | false =>
        rw [ha] at B1 B2 B3
        rw [Bool.false_or] at B1
        rw [Bool.false_and] at B2
        clear ha
        by_cases he : (k : Int) = z
        · have d7 : ((k : Int) == z) = true := by simp [he]
          rw [decide_eq_true he] at B1
          clear he
          go_wp2_with fail
          refine (B1.out _).mono ?_
          rintro e w3 ⟨rfl, hb⟩
          have HB3 := hidden (bthen HBa.out hb)
          clear hb
          go_wp2_with fail
          refine (B3.out _).mono ?_
          rintro e w4 ⟨rfl, hb⟩
          have HB4 := hidden (bthen HB3.out hb)
          clear hb
          go_wp2_with fail
          refine (B2.out _).mono ?_
          rintro e w5 ⟨rfl, hb⟩
          have HB5 := hidden (bthen HB4.out hb)
          clear hb
          go_wp2_with fail
          refine (B3.out _).mono ?_
          rintro e w6 ⟨rfl, hb⟩
          have HB6 := hidden (bthen HB5.out hb)
          clear hb
          go_wp2
          go_roundw
          case rel => exact ⟨k + 1, by omega, by go_num, HB6.out⟩
          case measure => simp [intV]; omega
        · have d7 : ((k : Int) == z) = false := by simp [he]
          rw [decide_eq_false he] at B1
          clear he
          go_wp2_with fail
          refine (B1.out _).mono ?_
          rintro e w3 ⟨rfl, hb⟩
          have HB3 := hidden (bthen HBa.out hb)
          clear hb
          go_wp2_with fail
          refine (B3.out _).mono ?_
          rintro e w4 ⟨rfl, hb⟩
          have HB4 := hidden (bthen HB3.out hb)
          clear hb
          go_wp2_with fail
          refine (B2.out _).mono ?_
          rintro e w5 ⟨rfl, hb⟩
          have HB5 := hidden (bthen HB4.out hb)
          clear hb
          go_wp2_with fail
          refine (B3.out _).mono ?_
          rintro e w6 ⟨rfl, hb⟩
          have HB6 := hidden (bthen HB5.out hb)
          clear hb
          go_wp2
          go_roundw
          case rel => exact ⟨k + 1, by omega, by go_num, HB6.out⟩
          case measure => simp [intV]; omega
    · obtain rfl : k = N := by omega
      have i2 : ¬ (k : Int) < (k : Int) := by omega
      clear A1 A2 A3 A4
      go_wp2
      refine wp_region_quiet_below (by kernel_rfl) (by kernel_rfl) ?_
      repeat (go_big_quiet_step (fail))
      go_big_quiet_step ((go_at_call 14; exact Calls.regrown_of (CZ.out _)))
      repeat (go_big_quiet_step (fail))
      go_big_quiet_step ((go_at_call 14; exact Calls.regrown_of (CA.out _)))
      repeat (go_big_quiet_step (first | (go_at_call 12; exact Calls.regrown_of (CM.out _)) | (go_at_call 9; exact Calls.regrown_of (KN.out _))))
      refine wpQuiet_nil ?_
      intro w3 hw3
      have HB3 := hidden (bthen HBa.out (rg_below hw3))
      clear hw3 b0 l0
      go_wp2
      go_ret
      exact ⟨rfl, bthen HB2.out HB3.out⟩
end Go.Proofs.Ytgclabboafdheaa.LawRosterJoins
