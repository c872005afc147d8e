/- The document's calls Tells, Hears, King and Ages of layer 15 return what plain functions give, and make at most new memory; conditions: the table lies where it says. -/
import Derived.Test.YtgfdfakffkhekaaPlaC
import Derived.Test.YtgfdfakffkhekaaRowI
namespace Go.Proofs.Ytgfdfakffkhekaa
open Go.ChangeShapes Go.WideShapes Go.ChangeAt Go.RowKit
set_option linter.unusedVariables false

set_option maxHeartbeats 1000000 in
theorem rTells_any (n f d p r dr o sl md fr : Int) (ad : Option Addr) (cap : Nat) (zs : List Int) (age : Int) (R : Nat) (hR15 : R ≤ 15) (hd : R = 0 ∨ 1 ≤ d ∧ d ≤ 4) (w : World) (hl : zs.length ≤ 9223372036854775807) (hT : Tab w ad zs) (hR : gate (plainE n f d p r dr o sl md fr zs) (3 * (f + 1)) = (R : Int)) :
    Calls Try.prog 10 #[.agg #[.int .i64 n, .int .i64 f, .int .i64 d, .int .i64 p, .int .i64 r, .int .i64 dr, .int .i64 o, .int .i64 sl, .int .i64 md, .int .i64 fr, .slice ad zs.length cap], .int .i64 age] w fun e W' => e = .returned (.int .i64 (tellF R d age)) ∧ Below w.heap.size w W' := by
  have HC := hidden (fun V h => refRounds_any n f d p r dr o sl md fr ad cap zs V hl h)
  rw [hR] at HC
  have HT := hidden (hT.below (ballc w (.cells #[.int .i64 n, .int .i64 f, .int .i64 d, .int .i64 p, .int .i64 r, .int .i64 dr, .int .i64 o, .int .i64 sl, .int .i64 md, .int .i64 fr, .slice ad zs.length cap] 24)))
  have HK := hidden (blk_nw w #[.int .i64 n, .int .i64 f, .int .i64 d, .int .i64 p, .int .i64 r, .int .i64 dr, .int .i64 o, .int .i64 sl, .int .i64 md, .int .i64 fr, .slice ad zs.length cap] 24)
  have HB0 := hidden (ballc w (.cells #[.int .i64 n, .int .i64 f, .int .i64 d, .int .i64 p, .int .i64 r, .int .i64 dr, .int .i64 o, .int .i64 sl, .int .i64 md, .int .i64 fr, .slice ad zs.length cap] 24))
  clear hT hR
  go_enter Try.func10, Try.ntmps10
  go_wp2
  generalize w.alloc (.cells #[.int .i64 n, .int .i64 f, .int .i64 d, .int .i64 p, .int .i64 r, .int .i64 dr, .int .i64 o, .int .i64 sl, .int .i64 md, .int .i64 fr, .slice ad zs.length cap] 24) = wa at *
  go_loopw [5] (fun i wr => ∃ k : Nat, k ≤ R ∧ i = .int .i64 k ∧ (∀ j, j < k → tellB d age j = false) ∧ Below wa.heap.size wa wr) (fun i _ => R - (intV i).toNat)
  case atStart => exact ⟨0, Nat.zero_le _, rfl, fun j hj => absurd hj (Nat.not_lt_zero _), Below.refl _ _⟩
  case round =>
    obtain ⟨k, hk, rfl, hn, hB⟩ := hrel
    have HB := hidden hB
    have HN := hidden hn
    have HTr := hidden (HT.out.below hB)
    have HKr := hidden (blk_later HK.out hB)
    have c0 := fun i => blk_cell HKr.out i
    have l0 := blk_lt HKr.out
    clear hB hn
    go_wp2_with fail
    refine (HC.out _ HTr.out).mono ?_
    rintro e w2 ⟨rfl, hb⟩
    have HB2 := hidden (bthen HB.out hb)
    have HK2 := hidden (blk_later HKr.out hb)
    clear hb c0 l0 HKr HTr HB
    have c0 := fun i => blk_cell HK2.out i
    have l0 := blk_lt HK2.out
    by_cases hlt : k < R
    · obtain ⟨q1, q2⟩ := xd_bd hR15 hd hlt
      have q3 : 1 ≤ d ∧ d ≤ 4 := by omega
      have q4 : ((k : Int) + 1) * d = (k : Int) * d + d := by rw [Int.add_mul, Int.one_mul]
      have i2 : (k : Int) < (R : Int) := by omega
      by_cases ht : (k : Int) * d = age
      · have hres := hidden (show tellF R d age = _ from first_hit hlt (decide_eq_true ht) HN.out)
        have j : (age == ((k : Int) * d)) = true := by simp [← ht]
        clear ht hd
        go_wp2
        go_ret
        exact ⟨ret_i hres.out.symm, bthen HB0.out HB2.out⟩
      · have HN2 : Hid (∀ j, j < k + 1 → tellB d age j = false) := fun j hj => by
          by_cases e : j = k
          · subst e; exact decide_eq_false ht
          · exact HN.out j (by omega)
        have j : (age == ((k : Int) * d)) = false := by rw [beq_eq_false_iff_ne]; intro h; exact ht (by rw [h])
        clear ht hd
        go_wp2
        go_roundw
        case rel => exact ⟨k + 1, by omega, by go_num, HN2.out, HB2.out⟩
        case measure => simp [intV]; omega
    · obtain rfl : k = R := by omega
      have hres := hidden (show tellF k d age = _ from first_none HN.out)
      have i2 : ¬ (k : Int) < (k : Int) := by omega
      go_wp2
      go_ret
      exact ⟨ret_i hres.out.symm, bthen HB0.out HB2.out⟩

set_option maxHeartbeats 1000000 in
theorem rHears_any (n f d p r dr o sl md fr : Int) (ad : Option Addr) (cap : Nat) (zs : List Int) (age : Int) (R : Nat) (hR15 : R ≤ 15) (hd : R = 0 ∨ 1 ≤ d ∧ d ≤ 4) (w : World) (hl : zs.length ≤ 9223372036854775807) (hT : Tab w ad zs) (hR : gate (plainE n f d p r dr o sl md fr zs) (3 * (f + 1)) = (R : Int)) :
    Calls Try.prog 12 #[.agg #[.int .i64 n, .int .i64 f, .int .i64 d, .int .i64 p, .int .i64 r, .int .i64 dr, .int .i64 o, .int .i64 sl, .int .i64 md, .int .i64 fr, .slice ad zs.length cap], .int .i64 age] w fun e W' => e = .returned (.int .i64 (hearF R d age)) ∧ Below w.heap.size w W' := by
  have HC := hidden (fun V h => refRounds_any n f d p r dr o sl md fr ad cap zs V hl h)
  rw [hR] at HC
  have HT := hidden (hT.below (ballc w (.cells #[.int .i64 n, .int .i64 f, .int .i64 d, .int .i64 p, .int .i64 r, .int .i64 dr, .int .i64 o, .int .i64 sl, .int .i64 md, .int .i64 fr, .slice ad zs.length cap] 24)))
  have HK := hidden (blk_nw w #[.int .i64 n, .int .i64 f, .int .i64 d, .int .i64 p, .int .i64 r, .int .i64 dr, .int .i64 o, .int .i64 sl, .int .i64 md, .int .i64 fr, .slice ad zs.length cap] 24)
  have HB0 := hidden (ballc w (.cells #[.int .i64 n, .int .i64 f, .int .i64 d, .int .i64 p, .int .i64 r, .int .i64 dr, .int .i64 o, .int .i64 sl, .int .i64 md, .int .i64 fr, .slice ad zs.length cap] 24))
  clear hT hR
  go_enter Try.func12, Try.ntmps12
  go_wp2
  generalize w.alloc (.cells #[.int .i64 n, .int .i64 f, .int .i64 d, .int .i64 p, .int .i64 r, .int .i64 dr, .int .i64 o, .int .i64 sl, .int .i64 md, .int .i64 fr, .slice ad zs.length cap] 24) = wa at *
  go_loopw [5] (fun i wr => ∃ k : Nat, k ≤ R ∧ i = .int .i64 k ∧ (∀ j, j < k → hearB d age j = false) ∧ Below wa.heap.size wa wr) (fun i _ => R - (intV i).toNat)
  case atStart => exact ⟨0, Nat.zero_le _, rfl, fun j hj => absurd hj (Nat.not_lt_zero _), Below.refl _ _⟩
  case round =>
    obtain ⟨k, hk, rfl, hn, hB⟩ := hrel
    have HB := hidden hB
    have HN := hidden hn
    have HTr := hidden (HT.out.below hB)
    have HKr := hidden (blk_later HK.out hB)
    have c0 := fun i => blk_cell HKr.out i
    have l0 := blk_lt HKr.out
    clear hB hn
    go_wp2_with fail
    refine (HC.out _ HTr.out).mono ?_
    rintro e w2 ⟨rfl, hb⟩
    have HB2 := hidden (bthen HB.out hb)
    have HK2 := hidden (blk_later HKr.out hb)
    clear hb c0 l0 HKr HTr HB
    have c0 := fun i => blk_cell HK2.out i
    have l0 := blk_lt HK2.out
    by_cases hlt : k < R
    · obtain ⟨q1, q2⟩ := xd_bd hR15 hd hlt
      have q3 : 1 ≤ d ∧ d ≤ 4 := by omega
      have q4 : ((k : Int) + 1) * d = (k : Int) * d + d := by rw [Int.add_mul, Int.one_mul]
      have i2 : (k : Int) < (R : Int) := by omega
      by_cases ht : (k : Int) * d + d = age
      · have hres := hidden (show hearF R d age = _ from first_hit hlt (decide_eq_true ht) HN.out)
        have j : (age == (((k : Int) + 1) * d)) = true := by simp [← ht, q4]
        clear ht hd
        go_wp2
        go_ret
        exact ⟨ret_i hres.out.symm, bthen HB0.out HB2.out⟩
      · have HN2 : Hid (∀ j, j < k + 1 → hearB d age j = false) := fun j hj => by
          by_cases e : j = k
          · subst e; exact decide_eq_false ht
          · exact HN.out j (by omega)
        have j : (age == (((k : Int) + 1) * d)) = false := by rw [beq_eq_false_iff_ne]; intro h; exact ht (by rw [h, q4])
        clear ht hd
        go_wp2
        go_roundw
        case rel => exact ⟨k + 1, by omega, by go_num, HN2.out, HB2.out⟩
        case measure => simp [intV]; omega
    · obtain rfl : k = R := by omega
      have hres := hidden (show hearF k d age = _ from first_none HN.out)
      have i2 : ¬ (k : Int) < (k : Int) := by omega
      go_wp2
      go_ret
      exact ⟨ret_i hres.out.symm, bthen HB0.out HB2.out⟩

theorem rPKing_any (n f d p r dr o sl md fr : Int) (ad : Option Addr) (cap : Nat) (zs : List Int) (x : Int) (R : Nat) (hx : -9223372036854775808 ≤ x ∧ x ≤ 9223372036854775807) (w : World) (hl : zs.length ≤ 9223372036854775807) (hT : Tab w ad zs) (hR : gate (plainE n f d p r dr o sl md fr zs) (3 * (f + 1)) = (R : Int)) :
    Calls Try.prog 14 #[.agg #[.int .i64 n, .int .i64 f, .int .i64 d, .int .i64 p, .int .i64 r, .int .i64 dr, .int .i64 o, .int .i64 sl, .int .i64 md, .int .i64 fr, .slice ad zs.length cap], .int .i64 x] w fun e W' => e = .returned (.int .i64 (kingF R x)) ∧ Below w.heap.size w W' := by
  have HC := hidden (fun V h => refRounds_any n f d p r dr o sl md fr ad cap zs V hl h)
  rw [hR] at HC
  have HT := hidden (hT.below (ballc w (.cells #[.int .i64 n, .int .i64 f, .int .i64 d, .int .i64 p, .int .i64 r, .int .i64 dr, .int .i64 o, .int .i64 sl, .int .i64 md, .int .i64 fr, .slice ad zs.length cap] 24)))
  clear hT hR
  by_cases h0 : x < 0
  · have e1 : decide (x < 0) = true := decide_eq_true h0
    have hr := hidden (kingF_lo (R := R) h0)
    clear h0
    go_enter Try.func14, Try.ntmps14
    go_wp2
    go_ret
    exact ⟨ret_i hr.out.symm, ballc _ _⟩
  · have e1 : decide (x < 0) = false := decide_eq_false h0
    by_cases h1 : (R : Int) ≤ x
    · have e2 : decide ((R : Int) ≤ x) = true := decide_eq_true h1
      have hr := hidden (kingF_hi h1)
      clear h1
      go_enter Try.func14, Try.ntmps14
      go_wp2_with fail
      refine (HC.out _ HT.out).mono ?_
      rintro e w2 ⟨rfl, hb⟩
      have HB := hidden (bthen (ballc w _) hb)
      clear hb
      go_wp2
      go_ret
      exact ⟨ret_i hr.out.symm, HB.out⟩
    · have e2 : decide ((R : Int) ≤ x) = false := decide_eq_false h1
      have hr := hidden (kingF_in (R := R) (x := x) (by omega) (by omega))
      have e3 : x.tdiv 3 = x / 3 := by rw [Int.tdiv_eq_ediv_of_nonneg (by omega)]
      clear h1
      go_enter Try.func14, Try.ntmps14
      go_wp2_with fail
      refine (HC.out _ HT.out).mono ?_
      rintro e w2 ⟨rfl, hb⟩
      have HB := hidden (bthen (ballc w _) hb)
      clear hb
      go_wp2
      go_ret
      exact ⟨ret_i hr.out.symm, HB.out⟩

/-- When exchanges are told. -/
def agesL (d : Int) (k : Nat) : List Int := (List.range k).map fun (j : Nat) => (j : Int) * d
theorem agesL_s (d : Int) (k : Nat) : agesL d (k + 1) = agesL d k ++ [(k : Int) * d] := by simp [agesL, List.range_succ]
theorem agesL_len (d : Int) (k : Nat) : (agesL d k).length = k := by simp [agesL]
set_option maxHeartbeats 1000000 in
theorem rAges_any (n f d p r dr o sl md fr : Int) (ad : Option Addr) (cap : Nat) (zs : List Int) (R : Nat) (hR15 : R ≤ 15) (hd : R = 0 ∨ 1 ≤ d ∧ d ≤ 4) (w : World) (hl : zs.length ≤ 9223372036854775807) (hT : Tab w ad zs) (hR : gate (plainE n f d p r dr o sl md fr zs) (3 * (f + 1)) = (R : Int)) :
    Calls Try.prog 16 #[.agg #[.int .i64 n, .int .i64 f, .int .i64 d, .int .i64 p, .int .i64 r, .int .i64 dr, .int .i64 o, .int .i64 sl, .int .i64 md, .int .i64 fr, .slice ad zs.length cap]] w fun e W' => ∃ v, e = .returned v ∧ W'.ownsRow w.heap.size 3 1 v R (kInt.flat (agesL d R)) ∧ Below w.heap.size w W' := by
  have HC := hidden (fun V h => refRounds_any n f d p r dr o sl md fr ad cap zs V hl h)
  rw [hR] at HC
  have HT := hidden (hT.below (ballc w (.cells #[.int .i64 n, .int .i64 f, .int .i64 d, .int .i64 p, .int .i64 r, .int .i64 dr, .int .i64 o, .int .i64 sl, .int .i64 md, .int .i64 fr, .slice ad zs.length cap] 24)))
  have HK := hidden (blk_nw w #[.int .i64 n, .int .i64 f, .int .i64 d, .int .i64 p, .int .i64 r, .int .i64 dr, .int .i64 o, .int .i64 sl, .int .i64 md, .int .i64 fr, .slice ad zs.length cap] 24)
  have HB0 := hidden (ballc w (.cells #[.int .i64 n, .int .i64 f, .int .i64 d, .int .i64 p, .int .i64 r, .int .i64 dr, .int .i64 o, .int .i64 sl, .int .i64 md, .int .i64 fr, .slice ad zs.length cap] 24))
  obtain ⟨i0, hi, hz0, hz1, hz2⟩ := info_of infoInt
  clear hT hR
  go_enter Try.func16, Try.ntmps16
  go_wp2
  generalize w.alloc (.cells #[.int .i64 n, .int .i64 f, .int .i64 d, .int .i64 p, .int .i64 r, .int .i64 dr, .int .i64 o, .int .i64 sl, .int .i64 md, .int .i64 fr, .slice ad zs.length cap] 24) = wa at *
  go_loopw [3, 4] (fun a i wr => ∃ k : Nat, k ≤ R ∧ i = .int .i64 k ∧ wr.ownsRow wa.heap.size 3 1 a k (kInt.flat (agesL d k)) ∧ Below wa.heap.size wa wr) (fun _ i _ => R - (intV i).toNat)
  case atStart => exact ⟨0, Nat.zero_le _, rfl, World.ownsRow_nil _ _ _ _, Below.refl _ _⟩
  case round =>
    obtain ⟨k, hk, rfl, hown, hB⟩ := hrel
    have HB := hidden hB
    have HTr := hidden (HT.out.below hB)
    have HKr := hidden (blk_later HK.out hB)
    have HO := hidden hown
    have c0 := fun i => blk_cell HKr.out i
    have l0 := blk_lt HKr.out
    clear hB hown
    go_wp2_with fail
    refine (HC.out _ HTr.out).mono ?_
    rintro e w2 ⟨rfl, hb⟩
    have HB2 := hidden (bthen HB.out hb)
    have HK2 := hidden (blk_later HKr.out hb)
    have HO2 := hidden (own_below HO.out hb)
    clear hb c0 l0 HKr HTr HB HO
    have c0 := fun i => blk_cell HK2.out i
    have l0 := blk_lt HK2.out
    by_cases hlt : k < R
    · obtain ⟨q1, q2⟩ := xd_bd hR15 hd hlt
      have i2 : (k : Int) < (R : Int) := by omega
      have HS := hidden (agesL_s d k)
      clear hd
      go_wp2_with (at_builtin; refine kInt.wpList_append _ rfl (.tmp 11) (.tmp 16) 22 rfl wa.heap.size 3 i0 (.int .i64 0) 8 Try.underlying22 hi hz0 hz1 hz2 rfl u3 k _ rfl (HO2.out.alloc _) (.slice (some ⟨w2.heap.size, 0, none⟩) 1 1) [(k : Int) * d] rfl (Kind.Lies.of_block (K := kInt) (es := [(k : Int) * d]) (heap_alloc_new w2 _) (by simp [maxLen])) (by simp only [maxLen, List.length_singleton]; omega) (by simp only [List.length_singleton]; omega) (by have := HB2.out.size; simp; omega) ?_; intro v3 w3 hown3 hgrow3 _)
      have hB3 : Below wa.heap.size wa w3 := (HB2.out.alloc HB2.out.size _).grown hgrow3 (by have := HB2.out.size; simp; omega) (own_from HO2.out)
      have hrow : w3.ownsRow wa.heap.size 3 1 v3 (k + 1) (kInt.flat (agesL d (k + 1))) := by
        rw [HS.out, Kind.flat_append]
        exact hown3
      go_roundw
      case rel => exact ⟨k + 1, by omega, by go_num, hrow, hB3⟩
      case measure => simp [intV]; omega
    · obtain rfl : k = R := by omega
      have i2 : ¬ (k : Int) < (k : Int) := by omega
      have HB0s := HB0.out.size
      go_wp2
      go_ret
      exact ⟨_, rfl, own_low HO2.out HB0s, bthen HB0.out HB2.out⟩
end Go.Proofs.Ytgfdfakffkhekaa
