/- The walk of the statement NumberOwn: the call returns true, and makes at most new memory; conditions: the table lies where it says, and lengths fit int. -/
import Derived.Test.YtohgmliafidalabNbrK
import Derived.Test.YtohgmliafidalabConfRef
namespace Go.Proofs.Ytohgmliafidalab.LawNumberOwn
open Go.ChangeShapes Go.WideShapes Go.ChangeAt Go.RowKit
set_option linter.unusedVariables false
attribute [local go_sem] cell_rg

theorem beh_turn (a b : Int) {md : Int} (h : 2 ≤ md) : behF md (a + b * md) = behF md a := by
  rw [behF_mod _ h, behF_mod _ h, modF_emod _ (by omega), modF_emod _ (by omega), show a + b * md + 1 = a + 1 + b * md by omega, Int.add_mul_emod_self_right]
theorem next_same (md a b : Int) (s : ByteArray) (h : ¬ emt s = true) : nextF 0 md a s = nextF 0 md b s := by
  unfold nextF ownF
  rw [if_pos rfl, if_pos rfl, if_neg h, if_neg h]
theorem next_none (md a : Int) : nextF 0 md a ⟨#[]⟩ = behF md a := by
  unfold nextF ownF
  rw [if_pos rfl, if_pos (by decide +kernel)]
theorem mem_same (N : Nat) (s t u : ByteArray) (h : ¬ emt s = true) : memF 0 N t s = memF 0 N u s := by
  unfold memF
  rw [if_pos rfl, if_pos rfl, if_neg h, if_neg h]
theorem mem_size (N : Nat) (s t : ByteArray) : (memF 0 N t s).size = N := by
  unfold memF
  rw [if_pos rfl]
  split <;> exact dgB_size _ _

set_option maxRecDepth 100000 in
set_option maxHeartbeats 8000000 in
theorem walk_main (N : Nat) (f d p r dr o sl md fr : Int) (ad : Option Addr) (cap : Nat) (zs : List Int) (a b : Int) (agreed : ByteArray) (w : World) (hl : zs.length ≤ 9223372036854775807) (hT : Tab w ad zs) (hE : plainE (N : Int) f d p r dr o sl md fr zs = 0) (hs : agreed.size ≤ 60) (ha : -100000 ≤ a ∧ a ≤ 100000) (hb : -100 ≤ b ∧ b ≤ 100) :
    Calls Try.prog 4 #[.agg #[.int .i64 (N : Int), .int .i64 f, .int .i64 d, .int .i64 p, .int .i64 r, .int .i64 dr, .int .i64 o, .int .i64 sl, .int .i64 md, .int .i64 fr, .slice ad zs.length cap], .int .i64 a, .int .i64 b, .string agreed] w fun e w' => e = .returned (.bool true) ∧ Below w.heap.size w w' := by
  have KN := hidden (fun V => known20_any V)
  have HB0 := hidden (ballc w (.cells #[.int .i64 (N : Int), .int .i64 f, .int .i64 d, .int .i64 p, .int .i64 r, .int .i64 dr, .int .i64 o, .int .i64 sl, .int .i64 md, .int .i64 fr, .slice ad zs.length cap] 24))
  have HK := hidden (blk_nw w #[.int .i64 (N : Int), .int .i64 f, .int .i64 d, .int .i64 p, .int .i64 r, .int .i64 dr, .int .i64 o, .int .i64 sl, .int .i64 md, .int .i64 fr, .slice ad zs.length cap] 24)
  have HT := hidden (hT.below HB0.out)
  have HP := hidden (refPlain_any (N : Int) f d p r dr o sl md fr ad cap zs (w.alloc (.cells #[.int .i64 (N : Int), .int .i64 f, .int .i64 d, .int .i64 p, .int .i64 r, .int .i64 dr, .int .i64 o, .int .i64 sl, .int .i64 md, .int .i64 fr, .slice ad zs.length cap] 24)) hl HT.out)
  obtain ⟨_, _, _, _, _, _, _, _, _, _, _, _, _, _, _, _, _, m1, m2, _⟩ := plainE_ok hE
  obtain ⟨q, hq⟩ : ∃ q, b * md = q := ⟨_, rfl⟩
  have q1 : -25000 ≤ q ∧ q ≤ 25000 := by
    rw [← hq]
    have h1 := Int.mul_le_mul_of_nonneg_right hb.2 (show 0 ≤ md by omega)
    have h2 := Int.mul_le_mul_of_nonneg_right hb.1 (show 0 ≤ md by omega)
    omega
  have t1 : IntKind.i64.wrap (b * md) = q := by rw [hq]; exact IntWalk.i64_in _ (by omega)
  have t2 : IntKind.i64.wrap (a + q) = a + q := IntWalk.i64_in _ (by omega)
  have A1 : ∀ V, Tab V ad zs → Calls Try.prog 8 #[.agg #[.int .i64 (N : Int), .int .i64 f, .int .i64 d, .int .i64 p, .int .i64 r, .int .i64 dr, .int .i64 o, .int .i64 sl, .int .i64 md, .int .i64 fr, .slice ad zs.length cap], .int .i64 (a + q), .string ⟨#[]⟩] V fun e w' => e = .returned (.int .i64 (behF md a)) ∧ Below V.heap.size V w' := fun V h => by
    have z := NNext_any (N : Int) f d p r dr o sl md fr ad cap zs (a + q) ⟨#[]⟩ V hl h (by omega) (by decide)
    rw [hE, next_none, ← hq, beh_turn a b m1, hq] at z
    exact z
  have A2 : ∀ V, Tab V ad zs → Calls Try.prog 8 #[.agg #[.int .i64 (N : Int), .int .i64 f, .int .i64 d, .int .i64 p, .int .i64 r, .int .i64 dr, .int .i64 o, .int .i64 sl, .int .i64 md, .int .i64 fr, .slice ad zs.length cap], .int .i64 a, .string ⟨#[]⟩] V fun e w' => e = .returned (.int .i64 (behF md a)) ∧ Below V.heap.size V w' := fun V h => by
    have z := NNext_any (N : Int) f d p r dr o sl md fr ad cap zs a ⟨#[]⟩ V hl h (by omega) (by decide)
    rw [hE, next_none] at z
    exact z
  have A3 : ∀ V, Tab V ad zs → Calls Try.prog 10 #[.agg #[.int .i64 (N : Int), .int .i64 f, .int .i64 d, .int .i64 p, .int .i64 r, .int .i64 dr, .int .i64 o, .int .i64 sl, .int .i64 md, .int .i64 fr, .slice ad zs.length cap], .string agreed, .string agreed] V fun e w' => e = .returned (.string (memF 0 N agreed agreed)) ∧ Below V.heap.size V w' := fun V h => by
    have z := NMembers_any N f d p r dr o sl md fr ad cap zs agreed agreed V hl h (by omega) (by omega)
    rw [hE] at z
    exact z
  have A1 := hidden A1
  have A2 := hidden A2
  have A3 := hidden A3
  have j9 := mem_size N agreed agreed
  generalize memF 0 N agreed agreed = mt at *
  have j8 : ((mt.size : Int) == (N : Int)) = true := by simp [j9]
  clear j9
  generalize behF md a = bm at *
  have j7 : (bm == bm) = true := by simp
  have d1 : decide ((60 : Int) < (agreed.size : Int)) = false := decide_eq_false (by omega)
  have d2 : decide (a < -100000) = false := decide_eq_false (by omega)
  have d3 : decide ((100000 : Int) < a) = false := decide_eq_false (by omega)
  have d4 : decide (b < -100) = false := decide_eq_false (by omega)
  have d5 : decide ((100 : Int) < b) = false := decide_eq_false (by omega)
  have d5' : ¬ (100 : Int) < b := by omega
  by_cases he : emt agreed = true
  · have e1 : agreed.toList.isEmpty = true := he
    rw [hE] at HP
    clear hE hT he hq
    go_enter Try.func4, Try.ntmps4
    go_wp2_with fail
    refine HP.out.mono ?_
    rintro e w2 ⟨rfl, hb⟩
    have HB2 := hidden (bthen HB0.out hb)
    have HK2 := hidden (blk_later HK.out hb)
    have HT2 := hidden (HT.out.below hb)
    have c0 := blk_cell HK2.out
    have l0 := blk_lt HK2.out
    clear hb HP
    go_wp2
    refine wp_region_quiet_below (by kernel_rfl) (by kernel_rfl) ?_
    repeat (go_big_quiet_step (fail))
    refine wpQuiet_nil ?_
    intro w3 hw3
    have HB3 := hidden (bthen HB2.out (rg_below hw3))
    have HK3 := hidden (blk_later HK2.out (rg_below hw3))
    have HT3 := hidden (HT2.out.below (rg_below hw3))
    clear hw3 c0 l0
    have c0 := blk_cell HK3.out
    have l0 := blk_lt HK3.out
    go_wp2
    refine wp_region_quiet_below (by kernel_rfl) (by kernel_rfl) ?_
    repeat (go_big_quiet_step (fail))
    go_big_quiet_step ((go_at_call 8; exact Calls.regrown_of (A1.out _ (HT3.out.below (below_regrown _ _ _)))))
    repeat (go_big_quiet_step (fail))
    go_big_quiet_step ((go_at_call 8; exact Calls.regrown_of (A2.out _ (HT3.out.below (below_regrown _ _ _)))))
    repeat (go_big_quiet_step (fail))
    go_big_quiet_step ((go_at_call 10; exact Calls.regrown_of (A3.out _ (HT3.out.below (below_regrown _ _ _)))))
    repeat (go_big_quiet_step (fail))
    go_big_quiet_step ((go_at_call 6; exact Calls.regrown_of (KN.out _)))
    repeat (go_big_quiet_step (fail))
    refine wpQuiet_nil ?_
    intro w4 hw4
    have HB4 := hidden (bthen HB3.out (rg_below hw4))
    clear hw4 c0 l0
    go_wp2
    go_ret
    exact ⟨rfl, HB4.out⟩
  · have e1 : agreed.toList.isEmpty = false := by
      have : emt agreed = false := by simpa using he
      exact this
    have B1 : ∀ V, Tab V ad zs → Calls Try.prog 8 #[.agg #[.int .i64 (N : Int), .int .i64 f, .int .i64 d, .int .i64 p, .int .i64 r, .int .i64 dr, .int .i64 o, .int .i64 sl, .int .i64 md, .int .i64 fr, .slice ad zs.length cap], .int .i64 a, .string agreed] V fun e w' => e = .returned (.int .i64 (nextF 0 md a agreed)) ∧ Below V.heap.size V w' := fun V h => by
      have z := NNext_any (N : Int) f d p r dr o sl md fr ad cap zs a agreed V hl h (by omega) (by omega)
      rw [hE] at z
      exact z
    have B2 : ∀ V, Tab V ad zs → Calls Try.prog 8 #[.agg #[.int .i64 (N : Int), .int .i64 f, .int .i64 d, .int .i64 p, .int .i64 r, .int .i64 dr, .int .i64 o, .int .i64 sl, .int .i64 md, .int .i64 fr, .slice ad zs.length cap], .int .i64 b, .string agreed] V fun e w' => e = .returned (.int .i64 (nextF 0 md a agreed)) ∧ Below V.heap.size V w' := fun V h => by
      have z := NNext_any (N : Int) f d p r dr o sl md fr ad cap zs b agreed V hl h (by omega) (by omega)
      rw [hE, next_same md b a agreed he] at z
      exact z
    have B3 : ∀ V, Tab V ad zs → Calls Try.prog 10 #[.agg #[.int .i64 (N : Int), .int .i64 f, .int .i64 d, .int .i64 p, .int .i64 r, .int .i64 dr, .int .i64 o, .int .i64 sl, .int .i64 md, .int .i64 fr, .slice ad zs.length cap], .string ⟨#[49, 49, 49, 49]⟩, .string agreed] V fun e w' => e = .returned (.string (memF 0 N ⟨#[]⟩ agreed)) ∧ Below V.heap.size V w' := fun V h => by
      have z := NMembers_any N f d p r dr o sl md fr ad cap zs ⟨#[49, 49, 49, 49]⟩ agreed V hl h (by decide) (by omega)
      rw [hE, mem_same N agreed _ ⟨#[]⟩ he] at z
      exact z
    have B4 : ∀ V, Tab V ad zs → Calls Try.prog 10 #[.agg #[.int .i64 (N : Int), .int .i64 f, .int .i64 d, .int .i64 p, .int .i64 r, .int .i64 dr, .int .i64 o, .int .i64 sl, .int .i64 md, .int .i64 fr, .slice ad zs.length cap], .string ⟨#[]⟩, .string agreed] V fun e w' => e = .returned (.string (memF 0 N ⟨#[]⟩ agreed)) ∧ Below V.heap.size V w' := fun V h => by
      have z := NMembers_any N f d p r dr o sl md fr ad cap zs ⟨#[]⟩ agreed V hl h (by decide) (by omega)
      rw [hE] at z
      exact z
    have B1 := hidden B1
    have B2 := hidden B2
    have B3 := hidden B3
    have B4 := hidden B4
    generalize memF 0 N ⟨#[]⟩ agreed = mz at *
    generalize nextF 0 md a agreed = nz at *
    have j5 : (nz != nz) = false := by simp
    rw [hE] at HP
    clear hE hT he hq
    go_enter Try.func4, Try.ntmps4
    go_wp2_with fail
    refine HP.out.mono ?_
    rintro e w2 ⟨rfl, hb⟩
    have HB2 := hidden (bthen HB0.out hb)
    have HK2 := hidden (blk_later HK.out hb)
    have HT2 := hidden (HT.out.below hb)
    have c0 := blk_cell HK2.out
    have l0 := blk_lt HK2.out
    clear hb HP
    go_wp2
    refine wp_region_quiet_below (by kernel_rfl) (by kernel_rfl) ?_
    repeat (go_big_quiet_step (fail))
    go_big_quiet_step ((go_at_call 8; exact Calls.regrown_of (B1.out _ (HT2.out.below (below_regrown _ _ _)))))
    repeat (go_big_quiet_step (fail))
    go_big_quiet_step ((go_at_call 8; exact Calls.regrown_of (B2.out _ (HT2.out.below (below_regrown _ _ _)))))
    repeat (go_big_quiet_step (fail))
    go_big_quiet_step ((go_at_call 10; exact Calls.regrown_of (B3.out _ (HT2.out.below (below_regrown _ _ _)))))
    repeat (go_big_quiet_step (fail))
    go_big_quiet_step ((go_at_call 10; exact Calls.regrown_of (B4.out _ (HT2.out.below (below_regrown _ _ _)))))
    repeat (go_big_quiet_step (fail))
    refine wpQuiet_nil ?_
    intro w3 hw3
    have HB3 := hidden (bthen HB2.out (rg_below hw3))
    have HK3 := hidden (blk_later HK2.out (rg_below hw3))
    have HT3 := hidden (HT2.out.below (rg_below hw3))
    clear hw3 c0 l0
    have c0 := blk_cell HK3.out
    have l0 := blk_lt HK3.out
    go_wp2
    refine wp_region_quiet_below (by kernel_rfl) (by kernel_rfl) ?_
    repeat (go_big_quiet_step (fail))
    go_big_quiet_step ((go_at_call 8; exact Calls.regrown_of (A1.out _ (HT3.out.below (below_regrown _ _ _)))))
    repeat (go_big_quiet_step (fail))
    go_big_quiet_step ((go_at_call 8; exact Calls.regrown_of (A2.out _ (HT3.out.below (below_regrown _ _ _)))))
    repeat (go_big_quiet_step (fail))
    go_big_quiet_step ((go_at_call 10; exact Calls.regrown_of (A3.out _ (HT3.out.below (below_regrown _ _ _)))))
    repeat (go_big_quiet_step (fail))
    go_big_quiet_step ((go_at_call 6; exact Calls.regrown_of (KN.out _)))
    repeat (go_big_quiet_step (fail))
    refine wpQuiet_nil ?_
    intro w4 hw4
    have HB4 := hidden (bthen HB3.out (rg_below hw4))
    clear hw4 c0 l0
    go_wp2
    go_ret
    exact ⟨rfl, HB4.out⟩
set_option maxHeartbeats 4000000 in
theorem walk (n f d p r dr o sl md fr : Int) (ad : Option Addr) (cap : Nat) (zs : List Int) (a b : Int) (agreed : ByteArray) (w : World) (hl : zs.length ≤ 9223372036854775807) (hT : Tab w ad zs) (ha : -9223372036854775808 ≤ a ∧ a ≤ 9223372036854775807) (hb : -9223372036854775808 ≤ b ∧ b ≤ 9223372036854775807) (hs : agreed.size ≤ 9223372036854775807) :
    Calls Try.prog 4 #[.agg #[.int .i64 n, .int .i64 f, .int .i64 d, .int .i64 p, .int .i64 r, .int .i64 dr, .int .i64 o, .int .i64 sl, .int .i64 md, .int .i64 fr, .slice ad zs.length cap], .int .i64 a, .int .i64 b, .string agreed] w fun e w' => e = .returned (.bool true) ∧ Below w.heap.size w w' := by
  by_cases hall : plainE n f d p r dr o sl md fr zs = 0 ∧ agreed.size ≤ 60 ∧ (-100000 ≤ a ∧ a ≤ 100000) ∧ (-100 ≤ b ∧ b ≤ 100)
  · obtain ⟨hE, h1, h2, h3⟩ := hall
    obtain ⟨N, rfl⟩ : ∃ N : Nat, n = (N : Int) := ⟨n.toNat, by have := (plainE_ok hE).1; omega⟩
    exact walk_main N f d p r dr o sl md fr ad cap zs a b agreed w hl hT hE h1 h2 h3
  have KN := hidden (fun V => known20_any V)
  have HB0 := hidden (ballc w (.cells #[.int .i64 n, .int .i64 f, .int .i64 d, .int .i64 p, .int .i64 r, .int .i64 dr, .int .i64 o, .int .i64 sl, .int .i64 md, .int .i64 fr, .slice ad zs.length cap] 24))
  have HP := hidden (refPlain_any n f d p r dr o sl md fr ad cap zs (w.alloc (.cells #[.int .i64 n, .int .i64 f, .int .i64 d, .int .i64 p, .int .i64 r, .int .i64 dr, .int .i64 o, .int .i64 sl, .int .i64 md, .int .i64 fr, .slice ad zs.length cap] 24)) hl (hT.below (ballc _ _)))
  by_cases hE : plainE n f d p r dr o sl md fr zs = 0
  · rw [hE] at HP
    clear hT
    by_cases h1 : agreed.size ≤ 60
    · have d1 : decide ((60 : Int) < (agreed.size : Int)) = false := decide_eq_false (by omega)
      by_cases h2 : a < -100000
      · have d2 : decide (a < -100000) = true := decide_eq_true h2
        clear hall hE
        go_enter Try.func4, Try.ntmps4
        go_wp2_with fail
        refine HP.out.mono ?_
        rintro e w2 ⟨rfl, hb⟩
        have HBZ := hidden (bthen HB0.out hb)
        clear hb HP
        go_wp2_with fail
        refine (KN.out _).mono ?_
        rintro e w9 ⟨rfl, hb⟩
        have HB9 := hidden (bthen HBZ.out hb)
        clear hb
        go_wp2
        go_ret
        exact ⟨rfl, HB9.out⟩
      · have d2 : decide (a < -100000) = false := decide_eq_false h2
        by_cases h3 : 100000 < a
        · have d3 : decide ((100000 : Int) < a) = true := decide_eq_true h3
          clear hall hE
          go_enter Try.func4, Try.ntmps4
          go_wp2_with fail
          refine HP.out.mono ?_
          rintro e w2 ⟨rfl, hb⟩
          have HBZ := hidden (bthen HB0.out hb)
          clear hb HP
          go_wp2_with fail
          refine (KN.out _).mono ?_
          rintro e w9 ⟨rfl, hb⟩
          have HB9 := hidden (bthen HBZ.out hb)
          clear hb
          go_wp2
          go_ret
          exact ⟨rfl, HB9.out⟩
        · have d3 : decide ((100000 : Int) < a) = false := decide_eq_false h3
          by_cases h4 : b < -100
          · have d4 : decide (b < -100) = true := decide_eq_true h4
            clear hall hE
            go_enter Try.func4, Try.ntmps4
            go_wp2_with fail
            refine HP.out.mono ?_
            rintro e w2 ⟨rfl, hb⟩
            have HBZ := hidden (bthen HB0.out hb)
            clear hb HP
            go_wp2_with fail
            refine (KN.out _).mono ?_
            rintro e w9 ⟨rfl, hb⟩
            have HB9 := hidden (bthen HBZ.out hb)
            clear hb
            go_wp2
            go_ret
            exact ⟨rfl, HB9.out⟩
          · have d4 : decide (b < -100) = false := decide_eq_false h4
            have h5 : 100 < b := by
              apply Classical.byContradiction
              intro h5
              exact hall ⟨hE, h1, by omega, by omega⟩
            have d5 : decide ((100 : Int) < b) = true := decide_eq_true h5
            clear hall hE
            go_enter Try.func4, Try.ntmps4
            go_wp2_with fail
            refine HP.out.mono ?_
            rintro e w2 ⟨rfl, hb⟩
            have HBZ := hidden (bthen HB0.out hb)
            clear hb HP
            go_wp2_with fail
            refine (KN.out _).mono ?_
            rintro e w9 ⟨rfl, hb⟩
            have HB9 := hidden (bthen HBZ.out hb)
            clear hb
            go_wp2
            go_ret
            exact ⟨rfl, HB9.out⟩
    · have d1 : decide ((60 : Int) < (agreed.size : Int)) = true := decide_eq_true (by omega)
      clear hall hE
      go_enter Try.func4, Try.ntmps4
      go_wp2_with fail
      refine HP.out.mono ?_
      rintro e w2 ⟨rfl, hb⟩
      have HBZ := hidden (bthen HB0.out hb)
      clear hb HP
      go_wp2_with fail
      refine (KN.out _).mono ?_
      rintro e w9 ⟨rfl, hb⟩
      have HB9 := hidden (bthen HBZ.out hb)
      clear hb
      go_wp2
      go_ret
      exact ⟨rfl, HB9.out⟩
  · have j1 : (plainE n f d p r dr o sl md fr zs != 0) = true := bne_iff_ne.2 hE
    clear hall
    generalize plainE n f d p r dr o sl md fr zs = E at *
    clear hE hT
    go_enter Try.func4, Try.ntmps4
    go_wp2_with fail
    refine HP.out.mono ?_
    rintro e w2 ⟨rfl, hb⟩
    have HBZ := hidden (bthen HB0.out hb)
    clear hb HP
    go_wp2_with fail
    refine (KN.out _).mono ?_
    rintro e w9 ⟨rfl, hb⟩
    have HB9 := hidden (bthen HBZ.out hb)
    clear hb
    go_wp2
    go_ret
    exact ⟨rfl, HB9.out⟩
end Go.Proofs.Ytohgmliafidalab.LawNumberOwn
