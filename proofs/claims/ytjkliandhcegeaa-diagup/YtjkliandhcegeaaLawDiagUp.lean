/- The walk of the statement DiagUp: the call returns true, and makes at most new memory; conditions: numbers fit int. -/
import Derived.Test.YtjkliandhcegeaaDiaK
namespace Go.Proofs.Ytjkliandhcegeaa.LawDiagUp
open Go.ChangeShapes Go.WideShapes Go.ChangeAt Go.RowKit
set_option linter.unusedVariables false
attribute [local go_sem] cell_rg eql6 eqIn6

theorem bump_le {X : Nat → Int} (hX : ∀ i, 0 ≤ X i ∧ X i ≤ 65535) (k : Int) (i : Nat) : X i ≤ bumpL X [k] i ∧ bumpL X [k] i ≤ 65535 ∧ (X i < bumpL X [k] i ↔ ((i : Int) = k ∧ X i < 65535)) := by
  have h := hX i
  show X i ≤ bump1 X k i ∧ bump1 X k i ≤ 65535 ∧ (X i < bump1 X k i ↔ ((i : Int) = k ∧ X i < 65535))
  unfold bump1 satF
  repeat' split
  all_goals omega
theorem total_le (X : Nat → Int) : totalF X ≤ 393210 := by
  have k0 := clean_bd X 0
  have k1 := clean_bd X 1
  have k2 := clean_bd X 2
  have k3 := clean_bd X 3
  have k4 := clean_bd X 4
  have k5 := clean_bd X 5
  unfold totalF
  omega
theorem clean_same {X : Nat → Int} (hX : ∀ i, 0 ≤ X i ∧ X i ≤ 65535) : cleanF X = X := by
  funext i
  have h := hX i
  unfold cleanF clampF
  repeat' split
  all_goals omega
set_option maxHeartbeats 4000000 in
theorem walk (x : Nat → Int) (k : Int) (w : World) (hx : ∀ i, (Lit.int .i64 (x i)).wf = true) (hk : -9223372036854775808 ≤ k ∧ k ≤ 9223372036854775807) :
    Calls Try.prog 4 #[.agg #[.int .i64 (x 0), .int .i64 (x 1), .int .i64 (x 2), .int .i64 (x 3), .int .i64 (x 4), .int .i64 (x 5)], .int .i64 k] w fun e w' => e = .returned (.bool true) ∧ Below w.heap.size w w' := by
  go_enter Try.func4, Try.ntmps4
  go_wp2_with fail
  refine (DClean_any _ _).mono ?_
  rintro e w1 ⟨rfl, hb⟩
  have HB1 := hidden (bthen (ballc w _) hb)
  have hX := clean_bd x
  have HXC := hidden (clean_same hX)
  clear hb hx
  generalize cleanF x = X at hX HXC ⊢
  have HLE := hidden (bump_le hX k)
  have HX0 := hidden hX
  clear hX
  have hLi : kInt.Lies ((w1.alloc (.cells #[.int .i64 (X 0), .int .i64 (X 1), .int .i64 (X 2), .int .i64 (X 3), .int .i64 (X 4), .int .i64 (X 5)] 22)).alloc (.cells #[.int .i64 k] 3)).heap.size ((w1.alloc (.cells #[.int .i64 (X 0), .int .i64 (X 1), .int .i64 (X 2), .int .i64 (X 3), .int .i64 (X 4), .int .i64 (X 5)] 22)).alloc (.cells #[.int .i64 k] 3)) (.slice (some ⟨w1.heap.size + 1, 0, none⟩) 1 1) [k] := by
    have h := Kind.Lies.of_block (K := kInt) (es := [k]) (heap_alloc_new (w1.alloc (.cells #[.int .i64 (X 0), .int .i64 (X 1), .int .i64 (X 2), .int .i64 (X 3), .int .i64 (X 4), .int .i64 (X 5)] 22)) (.cells #[.int .i64 k] 3)) (by simp [maxLen])
    rw [World.size_alloc w1] at h
    exact h
  go_wp2_with fail
  refine (Bump_any X (fun i => wfZ (by have := HX0.out i; omega)) _ 1 1 [k] (by simp) _ hLi).mono ?_
  rintro e w2 ⟨rfl, hb⟩
  have hBa : Box (w1.alloc (.cells #[.int .i64 (X 0), .int .i64 (X 1), .int .i64 (X 2), .int .i64 (X 3), .int .i64 (X 4), .int .i64 (X 5)] 22)) w1.heap.size X := Box.new w1 X
  have hBa2 : Box w2 w1.heap.size X := (hBa.old (.cells #[.int .i64 k] 3)).below hb
  have hne : w1.heap.size < w2.heap.size := hBa2.lt
  have HBa := hidden (hBa2.old (.cells #[.int .i64 ((bumpL X [k]) 0), .int .i64 ((bumpL X [k]) 1), .int .i64 ((bumpL X [k]) 2), .int .i64 ((bumpL X [k]) 3), .int .i64 ((bumpL X [k]) 4), .int .i64 ((bumpL X [k]) 5)] 22))
  have HBb := hidden (Box.new w2 (bumpL X [k]))
  have HB2 := hidden (bthen (bthen HB1.out (bthen (ballc w1 _) (bthen (ballc _ _) hb))) (ballc w2 (.cells #[.int .i64 ((bumpL X [k]) 0), .int .i64 ((bumpL X [k]) 1), .int .i64 ((bumpL X [k]) 2), .int .i64 ((bumpL X [k]) 3), .int .i64 ((bumpL X [k]) 4), .int .i64 ((bumpL X [k]) 5)] 22)))
  clear hb hBa hBa2 HB1 hLi
  generalize bumpL X [k] = Y at *
  go_wp2
  generalize hW0 : (w2.alloc (.cells #[.int .i64 (Y 0), .int .i64 (Y 1), .int .i64 (Y 2), .int .i64 (Y 3), .int .i64 (Y 4), .int .i64 (Y 5)] 22)) = W0 at *
  clear hW0
  go_loopw [7] (fun i wr => ∃ j : Nat, j ≤ 6 ∧ i = .int .i64 j ∧ Box wr w1.heap.size X ∧ Box wr w2.heap.size Y ∧ Below w.heap.size w wr) (fun i _ => 6 - (intV i).toNat)
  case atStart => exact ⟨0, by omega, rfl, HBa.out, HBb.out, HB2.out⟩
  case round =>
    obtain ⟨j, hj, rfl, ha, hb, hB⟩ := hrel
    have HB := hidden hB
    have HA := hidden ha
    have HBo := hidden hb
    clear HBa HBb HB2 hB
    by_cases hlt : j < 6
    · have c1 := ha.at j hlt
      have c2 := hb.at j hlt
      have l1 := ha.lt
      have l2 := hb.lt
      have q := HLE.out j
      have q0 := HX0.out j
      have i1 : (0 : Int) ≤ (j : Int) := by omega
      have i2 : (j : Int) < 6 := by omega
      generalize X j = a at *
      generalize Y j = b at *
      obtain ⟨q1, q2, q3⟩ := q
      have d1 : decide (a < 0) = false := by simp; omega
      have d2 : decide (b < a) = false := by simp; omega
      have d3 : decide (65535 < b) = false := by simp; omega
      have hr : ∃ r, decide (a < b) = r ∧ ((((j : Int) == k) = true ∧ decide (a < 65535) = r) ∨ (((j : Int) == k) = false ∧ r = false)) := by
        by_cases e : (j : Int) = k
        · refine ⟨decide (a < 65535), ?_, .inl ⟨by simp [e], rfl⟩⟩
          by_cases l : a < 65535
          · simp only [l, decide_true, decide_eq_true_eq]; omega
          · simp only [l, decide_false, decide_eq_false_iff_not]; omega
        · exact ⟨false, by simp only [decide_eq_false_iff_not]; omega, .inr ⟨by simp [e], rfl⟩⟩
      obtain ⟨r, hr1, hr2⟩ := hr
      clear q1 q2 q3 q0 ha hb
      rcases hr2 with ⟨hr2, hr3⟩ | ⟨hr2, rfl⟩
      · cases r
        all_goals
          go_wp2
          refine wp_region_quiet_below (by kernel_rfl) (by kernel_rfl) ?_
          repeat (go_big_quiet_step (fail))
          refine wpQuiet_nil ?_
          intro w3 hw3
          have hb3 := rg_below hw3
          clear hw3
          go_wp2
          go_roundw
          case rel => exact ⟨j + 1, by omega, by go_num, HA.out.below hb3, HBo.out.below hb3, bthen HB.out hb3⟩
          case measure => simp [intV]; omega
      · go_wp2
        refine wp_region_quiet_below (by kernel_rfl) (by kernel_rfl) ?_
        repeat (go_big_quiet_step (fail))
        refine wpQuiet_nil ?_
        intro w3 hw3
        have hb3 := rg_below hw3
        clear hw3
        go_wp2
        go_roundw
        case rel => exact ⟨j + 1, by omega, by go_num, HA.out.below hb3, HBo.out.below hb3, bthen HB.out hb3⟩
        case measure => simp [intV]; omega
    · obtain rfl : j = 6 := by omega
      have c0 := ha.at 0 (by decide)
      have c1 := ha.at 1 (by decide)
      have c2 := ha.at 2 (by decide)
      have c3 := ha.at 3 (by decide)
      have c4 := ha.at 4 (by decide)
      have c5 := ha.at 5 (by decide)
      have e0 := hb.at 0 (by decide)
      have e1 := hb.at 1 (by decide)
      have e2 := hb.at 2 (by decide)
      have e3 := hb.at 3 (by decide)
      have e4 := hb.at 4 (by decide)
      have e5 := hb.at 5 (by decide)
      have l1 := ha.lt
      have l2 := hb.lt
      have ht := total_le Y
      have CC := fun W => (Calls.ret_as (DClean_any X W) (by rw [HXC.out]))
      have CT := fun W => DTotal_any Y W
      generalize totalF Y = T at *
      clear ha hb hj hlt
      go_wp2
      refine wp_region_quiet_below (by kernel_rfl) (by kernel_rfl) ?_
      repeat (go_big_quiet_step (first
        | (go_at_call 12; exact Calls.regrown_of (CC _))
        | (go_at_call 16; exact Calls.regrown_of (CT _))
        | (go_at_call 9; exact Calls.regrown_of (known9_any _))))
      refine wpQuiet_nil ?_
      intro w3 hw3
      have hb3 := rg_below hw3
      clear hw3
      go_wp2
      go_ret
      exact ⟨rfl, bthen HB.out hb3⟩
end Go.Proofs.Ytjkliandhcegeaa.LawDiagUp
