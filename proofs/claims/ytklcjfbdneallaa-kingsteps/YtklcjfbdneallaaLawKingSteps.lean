/- The walk of the statement KingSteps: the call returns true, and makes at most new memory; conditions: the table and the votes lie where they say, and lengths and numbers fit int. -/
import Derived.Test.YtklcjfbdneallaaKinK
import Derived.Test.YtklcjfbdneallaaKinR
namespace Go.Proofs.Ytklcjfbdneallaa.LawKingSteps
open Go.ChangeShapes Go.WideShapes Go.ChangeAt Go.RowKit
set_option linter.unusedVariables false
attribute [local go_sem] cell_rg

theorem read_code {b : Int × Bool} (h : 0 ≤ b.1 ∧ b.1 ≤ 2) : readK (codeF b) = b := by
  obtain ⟨v, s⟩ := b
  simp only at h
  have hv : v = 0 ∨ v = 1 ∨ v = 2 := by omega
  rcases hv with rfl | rfl | rfl <;> cases s <;> rfl
set_option maxHeartbeats 4000000 in
theorem walk (n f d p r dr o sl md fr : Int) (ad : Option Addr) (cap : Nat) (zs : List Int) (x : Int) (bv : Int) (bs : Bool) (a2 : Option Addr) (c2 : Nat) (vs : List Int) (w : World) (hl : zs.length ≤ 9223372036854775807) (hT : Tab w ad zs) (hx : -9223372036854775808 ≤ x ∧ x ≤ 9223372036854775807) (hbv : (Lit.int .i64 bv).wf = true) (hlv : vs.length ≤ 9223372036854775807) (hV : kInt.Lies w.heap.size w (.slice a2 vs.length c2) vs) :
    Calls Try.prog 7 #[.agg #[.int .i64 n, .int .i64 f, .int .i64 d, .int .i64 p, .int .i64 r, .int .i64 dr, .int .i64 o, .int .i64 sl, .int .i64 md, .int .i64 fr, .slice ad zs.length cap], .int .i64 x, .agg #[.int .i64 bv, .bool bs], .slice a2 vs.length c2] w fun e w' => e = .returned (.bool true) ∧ Below w.heap.size w w' := by
  by_cases h60 : 60 < vs.length
  · have j : (60 : Int) < (vs.length : Int) := by omega
    have KN := hidden (fun V => known14_any V)
    clear hT hV
    go_enter Try.func7, Try.ntmps7
    go_wp2_with fail
    refine (KN.out _).mono ?_
    rintro e w3 ⟨rfl, hb⟩
    have HB3 := hidden (bthen (bthen (ballc w _) (ballc _ _)) hb)
    clear hb
    go_wp2
    go_ret
    exact ⟨rfl, HB3.out⟩
  · have j : ¬ (60 : Int) < (vs.length : Int) := by omega
    have hwx : (Lit.int .i64 x).wf = true := by
      have := wrap64_wf x
      rwa [IntWalk.wrap64_in x (by omega)] at this
    obtain ⟨k, hk⟩ : ∃ k : Int, k = vs.getD 0 (-1) := ⟨_, rfl⟩
    have hB0 : Below w.heap.size w ((w.alloc (.cells #[.int .i64 n, .int .i64 f, .int .i64 d, .int .i64 p, .int .i64 r, .int .i64 dr, .int .i64 o, .int .i64 sl, .int .i64 md, .int .i64 fr, .slice ad zs.length cap] 24)).alloc (.cells #[.int .i64 bv, .bool bs] 41)) := bthen (ballc w _) (ballc _ _)
    have HK0 := hidden (blk_later (blk_nw w #[.int .i64 n, .int .i64 f, .int .i64 d, .int .i64 p, .int .i64 r, .int .i64 dr, .int .i64 o, .int .i64 sl, .int .i64 md, .int .i64 fr, .slice ad zs.length cap] 24) (ballc _ (.cells #[.int .i64 bv, .bool bs] 41)))
    have HK1 := hidden (blk_newAt (w.alloc (.cells #[.int .i64 n, .int .i64 f, .int .i64 d, .int .i64 p, .int .i64 r, .int .i64 dr, .int .i64 o, .int .i64 sl, .int .i64 md, .int .i64 fr, .slice ad zs.length cap] 24)) #[.int .i64 bv, .bool bs] 41 (b := w.heap.size + 1) (by simp))
    have HB0 := hidden hB0
    have HT := hidden (hT.below hB0)
    have HV := hidden (hV.later hB0)
    have C1 : ∀ V, Calls Try.prog 25 #[.int .i64 x] V fun e w' => e = .returned (.agg #[.int .i64 (startF x).1, .bool (startF x).2]) ∧ Below V.heap.size V w' := Start_any x
    have C2 : ∀ V, Calls Try.prog 26 #[.int .i64 x] V fun e w' => e = .returned (.agg #[.int .i64 (startF x).1, .bool (startF x).2]) ∧ Below V.heap.size V w' := rStart_any x
    have C3 : ∀ V, Tab V ad zs → kInt.Lies V.heap.size V (.slice a2 vs.length c2) vs → Calls Try.prog 27 #[.agg #[.int .i64 n, .int .i64 f, .int .i64 d, .int .i64 p, .int .i64 r, .int .i64 dr, .int .i64 o, .int .i64 sl, .int .i64 md, .int .i64 fr, .slice ad zs.length cap], .int .i64 x, .agg #[.int .i64 bv, .bool bs], .int .i64 k, .slice a2 vs.length c2] V fun e w' => e = .returned (.agg #[.int .i64 (stepF (plainE n f d p r dr o sl md fr zs) n f x (bv, bs) k vs).1, .bool (stepF (plainE n f d p r dr o sl md fr zs) n f x (bv, bs) k vs).2]) ∧ Below V.heap.size V w' := fun V h1 h2 => KStep_any n f d p r dr o sl md fr ad cap zs x (bv, bs) k a2 vs.length c2 vs V hl h1 hwx hlv h2
    have C4 : ∀ V, Tab V ad zs → kInt.Lies V.heap.size V (.slice a2 vs.length c2) vs → Calls Try.prog 28 #[.agg #[.int .i64 n, .int .i64 f, .int .i64 d, .int .i64 p, .int .i64 r, .int .i64 dr, .int .i64 o, .int .i64 sl, .int .i64 md, .int .i64 fr, .slice ad zs.length cap], .int .i64 x, .agg #[.int .i64 bv, .bool bs], .int .i64 k, .slice a2 vs.length c2] V fun e w' => e = .returned (.agg #[.int .i64 (stepF (plainE n f d p r dr o sl md fr zs) n f x (bv, bs) k vs).1, .bool (stepF (plainE n f d p r dr o sl md fr zs) n f x (bv, bs) k vs).2]) ∧ Below V.heap.size V w' := fun V h1 h2 => rKStep_any n f d p r dr o sl md fr ad cap zs x (bv, bs) k a2 vs.length c2 vs V hl h1 hwx hlv h2
    have C5 : ∀ V, Calls Try.prog 29 #[.agg #[.int .i64 bv, .bool bs]] V fun e w' => e = .returned (.int .i64 (codeF (bv, bs))) ∧ Below V.heap.size V w' := Code_any (bv, bs)
    have C6 : ∀ V, Calls Try.prog 30 #[.agg #[.int .i64 bv, .bool bs]] V fun e w' => e = .returned (.int .i64 (codeF (bv, bs))) ∧ Below V.heap.size V w' := rCode_any (bv, bs)
    have C7 : ∀ c V, Calls Try.prog 31 #[.int .i64 c] V fun e w' => e = .returned (.agg #[.int .i64 (readK c).1, .bool (readK c).2]) ∧ Below V.heap.size V w' := Read_any
    have C8 : ∀ c V, Calls Try.prog 32 #[.int .i64 c] V fun e w' => e = .returned (.agg #[.int .i64 (readK c).1, .bool (readK c).2]) ∧ Below V.heap.size V w' := rRead_any
    have hrc := fun h => read_code (b := (bv, bs)) h
    have KN := hidden (fun V => known14_any V)
    generalize stepF (plainE n f d p r dr o sl md fr zs) n f x (bv, bs) k vs = sp at C3 C4
    generalize startF x = st at C1 C2
    generalize codeF (bv, bs) = cd at C5 C6 hrc
    obtain ⟨sp1, sp2⟩ := sp
    obtain ⟨st1, st2⟩ := st
    dsimp only at C1 C2 C3 C4 hrc
    have D1 := hidden C1
    have D2 := hidden C2
    have D3 := hidden C3
    have D4 := hidden C4
    have D5 := hidden C5
    have D6 := hidden C6
    have D7 := hidden C7
    have D8 := hidden C8
    clear C1 C2 C3 C4 C5 C6 C7 C8 hT
    by_cases hv0 : 0 < vs.length
    · obtain ⟨b, off, rfl, hbl, e0⟩ := kInt_at hV 0 hv0
      have hk1 : k = vs[0] := by rw [hk]; simp [hv0]
      rw [← hk1, Nat.add_zero] at e0
      have j0 : (0 : Int) < (vs.length : Int) := by omega
      clear hV hB0 hk hk1
      by_cases hlo : bv < 0
      · have j1 : decide (bv < 0) = true := decide_eq_true hlo
        clear hrc hlo
        go_enter Try.func7, Try.ntmps7
        go_wp2_with fail
        generalize ((w.alloc (.cells #[.int .i64 n, .int .i64 f, .int .i64 d, .int .i64 p, .int .i64 r, .int .i64 dr, .int .i64 o, .int .i64 sl, .int .i64 md, .int .i64 fr, .slice ad zs.length cap] 24)).alloc (.cells #[.int .i64 bv, .bool bs] 41)) = W0 at *
        have c0 := fun i => blk_cell HK0.out i
        have c1 := fun i => blk_cell HK1.out i
        have l0 := blk_lt HK0.out
        have l1 := blk_lt HK1.out
        refine wp_region_quiet_below (by kernel_rfl) (by kernel_rfl) ?_
        repeat (go_big_quiet_step (first
          | (go_at_call 25; exact Calls.regrown_of (D1.out _))
          | (go_at_call 26; exact Calls.regrown_of (D2.out _))
          | (go_at_call 27; exact Calls.regrown_of (D3.out _ (HT.out.below (below_regrown _ _ _)) (HV.out.later (below_regrown _ _ _))))
          | (go_at_call 28; exact Calls.regrown_of (D4.out _ (HT.out.below (below_regrown _ _ _)) (HV.out.later (below_regrown _ _ _))))
          | (go_at_call 29; exact Calls.regrown_of (D5.out _))
          | (go_at_call 30; exact Calls.regrown_of (D6.out _))
          | (go_at_call 31; exact Calls.regrown_of (D7.out _ _))
          | (go_at_call 32; exact Calls.regrown_of (D8.out _ _))
          | (go_at_call 24; exact Calls.regrown_of (KN.out _))))
        refine wpQuiet_nil ?_
        intro w9 hw9
        have HB9 := hidden (bthen HB0.out (rg_below hw9))
        clear hw9
        go_wp2
        go_ret
        exact ⟨rfl, HB9.out⟩
      · have j1 : decide (bv < 0) = false := decide_eq_false hlo
        by_cases hhi : 2 < bv
        · have j2 : decide (2 < bv) = true := decide_eq_true hhi
          clear hrc hlo hhi
          go_enter Try.func7, Try.ntmps7
          go_wp2_with fail
          generalize ((w.alloc (.cells #[.int .i64 n, .int .i64 f, .int .i64 d, .int .i64 p, .int .i64 r, .int .i64 dr, .int .i64 o, .int .i64 sl, .int .i64 md, .int .i64 fr, .slice ad zs.length cap] 24)).alloc (.cells #[.int .i64 bv, .bool bs] 41)) = W0 at *
          have c0 := fun i => blk_cell HK0.out i
          have c1 := fun i => blk_cell HK1.out i
          have l0 := blk_lt HK0.out
          have l1 := blk_lt HK1.out
          refine wp_region_quiet_below (by kernel_rfl) (by kernel_rfl) ?_
          repeat (go_big_quiet_step (first
            | (go_at_call 25; exact Calls.regrown_of (D1.out _))
            | (go_at_call 26; exact Calls.regrown_of (D2.out _))
            | (go_at_call 27; exact Calls.regrown_of (D3.out _ (HT.out.below (below_regrown _ _ _)) (HV.out.later (below_regrown _ _ _))))
            | (go_at_call 28; exact Calls.regrown_of (D4.out _ (HT.out.below (below_regrown _ _ _)) (HV.out.later (below_regrown _ _ _))))
            | (go_at_call 29; exact Calls.regrown_of (D5.out _))
            | (go_at_call 30; exact Calls.regrown_of (D6.out _))
            | (go_at_call 31; exact Calls.regrown_of (D7.out _ _))
            | (go_at_call 32; exact Calls.regrown_of (D8.out _ _))
            | (go_at_call 24; exact Calls.regrown_of (KN.out _))))
          refine wpQuiet_nil ?_
          intro w9 hw9
          have HB9 := hidden (bthen HB0.out (rg_below hw9))
          clear hw9
          go_wp2
          go_ret
          exact ⟨rfl, HB9.out⟩
        · have j2 : decide (2 < bv) = false := decide_eq_false hhi
          have hrq := hrc (by omega)
          have hr1 : (readK cd).1 = bv := by rw [hrq]
          have hr2 : (readK cd).2 = bs := by rw [hrq]
          clear hrc hlo hhi hrq
          go_enter Try.func7, Try.ntmps7
          go_wp2_with fail
          generalize ((w.alloc (.cells #[.int .i64 n, .int .i64 f, .int .i64 d, .int .i64 p, .int .i64 r, .int .i64 dr, .int .i64 o, .int .i64 sl, .int .i64 md, .int .i64 fr, .slice ad zs.length cap] 24)).alloc (.cells #[.int .i64 bv, .bool bs] 41)) = W0 at *
          have c0 := fun i => blk_cell HK0.out i
          have c1 := fun i => blk_cell HK1.out i
          have l0 := blk_lt HK0.out
          have l1 := blk_lt HK1.out
          refine wp_region_quiet_below (by kernel_rfl) (by kernel_rfl) ?_
          repeat (go_big_quiet_step (first
            | (go_at_call 25; exact Calls.regrown_of (D1.out _))
            | (go_at_call 26; exact Calls.regrown_of (D2.out _))
            | (go_at_call 27; exact Calls.regrown_of (D3.out _ (HT.out.below (below_regrown _ _ _)) (HV.out.later (below_regrown _ _ _))))
            | (go_at_call 28; exact Calls.regrown_of (D4.out _ (HT.out.below (below_regrown _ _ _)) (HV.out.later (below_regrown _ _ _))))
            | (go_at_call 29; exact Calls.regrown_of (D5.out _))
            | (go_at_call 30; exact Calls.regrown_of (D6.out _))
            | (go_at_call 31; exact Calls.regrown_of (D7.out _ _))
            | (go_at_call 32; exact Calls.regrown_of (D8.out _ _))
            | (go_at_call 24; exact Calls.regrown_of (KN.out _))))
          refine wpQuiet_nil ?_
          intro w9 hw9
          have HB9 := hidden (bthen HB0.out (rg_below hw9))
          clear hw9
          go_wp2
          go_ret
          exact ⟨rfl, HB9.out⟩
    · have hk1 : k = -1 := by rw [hk, List.length_eq_zero_iff.1 (by omega : vs.length = 0)]; rfl
      subst hk1
      have j0 : ¬ (0 : Int) < (vs.length : Int) := by omega
      clear hV hB0 hk
      by_cases hlo : bv < 0
      · have j1 : decide (bv < 0) = true := decide_eq_true hlo
        clear hrc hlo
        go_enter Try.func7, Try.ntmps7
        go_wp2_with fail
        generalize ((w.alloc (.cells #[.int .i64 n, .int .i64 f, .int .i64 d, .int .i64 p, .int .i64 r, .int .i64 dr, .int .i64 o, .int .i64 sl, .int .i64 md, .int .i64 fr, .slice ad zs.length cap] 24)).alloc (.cells #[.int .i64 bv, .bool bs] 41)) = W0 at *
        have c0 := fun i => blk_cell HK0.out i
        have c1 := fun i => blk_cell HK1.out i
        have l0 := blk_lt HK0.out
        have l1 := blk_lt HK1.out
        refine wp_region_quiet_below (by kernel_rfl) (by kernel_rfl) ?_
        repeat (go_big_quiet_step (first
          | (go_at_call 25; exact Calls.regrown_of (D1.out _))
          | (go_at_call 26; exact Calls.regrown_of (D2.out _))
          | (go_at_call 27; exact Calls.regrown_of (D3.out _ (HT.out.below (below_regrown _ _ _)) (HV.out.later (below_regrown _ _ _))))
          | (go_at_call 28; exact Calls.regrown_of (D4.out _ (HT.out.below (below_regrown _ _ _)) (HV.out.later (below_regrown _ _ _))))
          | (go_at_call 29; exact Calls.regrown_of (D5.out _))
          | (go_at_call 30; exact Calls.regrown_of (D6.out _))
          | (go_at_call 31; exact Calls.regrown_of (D7.out _ _))
          | (go_at_call 32; exact Calls.regrown_of (D8.out _ _))
          | (go_at_call 24; exact Calls.regrown_of (KN.out _))))
        refine wpQuiet_nil ?_
        intro w9 hw9
        have HB9 := hidden (bthen HB0.out (rg_below hw9))
        clear hw9
        go_wp2
        go_ret
        exact ⟨rfl, HB9.out⟩
      · have j1 : decide (bv < 0) = false := decide_eq_false hlo
        by_cases hhi : 2 < bv
        · have j2 : decide (2 < bv) = true := decide_eq_true hhi
          clear hrc hlo hhi
          go_enter Try.func7, Try.ntmps7
          go_wp2_with fail
          generalize ((w.alloc (.cells #[.int .i64 n, .int .i64 f, .int .i64 d, .int .i64 p, .int .i64 r, .int .i64 dr, .int .i64 o, .int .i64 sl, .int .i64 md, .int .i64 fr, .slice ad zs.length cap] 24)).alloc (.cells #[.int .i64 bv, .bool bs] 41)) = W0 at *
          have c0 := fun i => blk_cell HK0.out i
          have c1 := fun i => blk_cell HK1.out i
          have l0 := blk_lt HK0.out
          have l1 := blk_lt HK1.out
          refine wp_region_quiet_below (by kernel_rfl) (by kernel_rfl) ?_
          repeat (go_big_quiet_step (first
            | (go_at_call 25; exact Calls.regrown_of (D1.out _))
            | (go_at_call 26; exact Calls.regrown_of (D2.out _))
            | (go_at_call 27; exact Calls.regrown_of (D3.out _ (HT.out.below (below_regrown _ _ _)) (HV.out.later (below_regrown _ _ _))))
            | (go_at_call 28; exact Calls.regrown_of (D4.out _ (HT.out.below (below_regrown _ _ _)) (HV.out.later (below_regrown _ _ _))))
            | (go_at_call 29; exact Calls.regrown_of (D5.out _))
            | (go_at_call 30; exact Calls.regrown_of (D6.out _))
            | (go_at_call 31; exact Calls.regrown_of (D7.out _ _))
            | (go_at_call 32; exact Calls.regrown_of (D8.out _ _))
            | (go_at_call 24; exact Calls.regrown_of (KN.out _))))
          refine wpQuiet_nil ?_
          intro w9 hw9
          have HB9 := hidden (bthen HB0.out (rg_below hw9))
          clear hw9
          go_wp2
          go_ret
          exact ⟨rfl, HB9.out⟩
        · have j2 : decide (2 < bv) = false := decide_eq_false hhi
          have hrq := hrc (by omega)
          have hr1 : (readK cd).1 = bv := by rw [hrq]
          have hr2 : (readK cd).2 = bs := by rw [hrq]
          clear hrc hlo hhi hrq
          go_enter Try.func7, Try.ntmps7
          go_wp2_with fail
          generalize ((w.alloc (.cells #[.int .i64 n, .int .i64 f, .int .i64 d, .int .i64 p, .int .i64 r, .int .i64 dr, .int .i64 o, .int .i64 sl, .int .i64 md, .int .i64 fr, .slice ad zs.length cap] 24)).alloc (.cells #[.int .i64 bv, .bool bs] 41)) = W0 at *
          have c0 := fun i => blk_cell HK0.out i
          have c1 := fun i => blk_cell HK1.out i
          have l0 := blk_lt HK0.out
          have l1 := blk_lt HK1.out
          refine wp_region_quiet_below (by kernel_rfl) (by kernel_rfl) ?_
          repeat (go_big_quiet_step (first
            | (go_at_call 25; exact Calls.regrown_of (D1.out _))
            | (go_at_call 26; exact Calls.regrown_of (D2.out _))
            | (go_at_call 27; exact Calls.regrown_of (D3.out _ (HT.out.below (below_regrown _ _ _)) (HV.out.later (below_regrown _ _ _))))
            | (go_at_call 28; exact Calls.regrown_of (D4.out _ (HT.out.below (below_regrown _ _ _)) (HV.out.later (below_regrown _ _ _))))
            | (go_at_call 29; exact Calls.regrown_of (D5.out _))
            | (go_at_call 30; exact Calls.regrown_of (D6.out _))
            | (go_at_call 31; exact Calls.regrown_of (D7.out _ _))
            | (go_at_call 32; exact Calls.regrown_of (D8.out _ _))
            | (go_at_call 24; exact Calls.regrown_of (KN.out _))))
          refine wpQuiet_nil ?_
          intro w9 hw9
          have HB9 := hidden (bthen HB0.out (rg_below hw9))
          clear hw9
          go_wp2
          go_ret
          exact ⟨rfl, HB9.out⟩
end Go.Proofs.Ytklcjfbdneallaa.LawKingSteps
