/- The walk of the statement PlanLater: the call returns true, and makes at most new memory; conditions: the table lies where it says, and its length fits int. -/
import Derived.Test.YtgfdfakffkhekaaPlaR
import Derived.Test.YtgfdfakffkhekaaPlaK
namespace Go.Proofs.Ytgfdfakffkhekaa.LawPlanLater
open Go.ChangeShapes Go.WideShapes Go.ChangeAt Go.RowKit
set_option linter.unusedVariables false
attribute [local go_sem] cell_rg

theorem find_congr {R : Nat} {p q : Nat → Bool} (h : ∀ x, p x = q x) : firstF R p = firstF R q := by
  have e : p = q := funext h
  rw [e]
theorem hear_of_tell (R : Nat) (d age : Int) : hearF R d (age + d) = tellF R d age := by
  unfold hearF tellF
  refine find_congr fun x => ?_
  unfold hearB tellB
  exact decide_eq_decide.2 ⟨fun h => by omega, fun h => by omega⟩
theorem tell_zero (age : Int) : tellF 0 0 age = -1 := first_none fun j hj => absurd hj (Nat.not_lt_zero _)
theorem mul_lt_of {x y : Nat} {d : Int} (hd : 1 ≤ d ∧ d ≤ 4) (h : x < y) : (x : Int) * d + d ≤ (y : Int) * d := by
  have hd : d = 1 ∨ d = 2 ∨ d = 3 ∨ d = 4 := by omega
  rcases hd with rfl | rfl | rfl | rfl <;> omega
theorem hear_end {R : Nat} {d : Int} (hd : 1 ≤ d ∧ d ≤ 4) (hR : 1 ≤ R) : hearF R d ((R : Int) * d) = (R : Int) - 1 := by
  obtain ⟨m, rfl⟩ : ∃ m, R = m + 1 := ⟨R - 1, by omega⟩
  have h : hearF (m + 1) d (((m + 1 : Nat) : Int) * d) = (m : Int) := by
    refine first_hit (by omega) ?_ fun j hj => ?_
    · unfold hearB
      refine decide_eq_true ?_
      rw [Int.natCast_add, Int.add_mul]; omega
    · unfold hearB
      refine decide_eq_false ?_
      have h1 := mul_lt_of hd hj
      have h2 := mul_lt_of hd (Nat.lt_succ_self m)
      have h3 : ((m + 1 : Nat) : Int) * d = (m : Int) * d + d := by rw [Int.natCast_add, Int.add_mul]; omega
      rw [h3]
      omega
  rw [h]
  omega
theorem hear_late {R : Nat} {d age : Int} (hd : 1 ≤ d ∧ d ≤ 4) (h : (R : Int) * d < age) : hearF R d age = -1 := by
  refine first_none fun j hj => ?_
  have h1 := mul_lt_of hd hj
  unfold hearB
  exact decide_eq_false (by omega)
theorem tell_lt {R : Nat} {d age : Int} : -1 ≤ tellF R d age ∧ tellF R d age < R := by
  rcases first_lt R (tellB d age) with h | h
  · exact h
  · unfold tellF; rw [h]; omega

set_option maxHeartbeats 4000000 in
theorem walk (n f d p r dr o sl md fr : Int) (ad : Option Addr) (cap : Nat) (zs : List Int) (age : Int) (w : World) (hl : zs.length ≤ 9223372036854775807) (hT : Tab w ad zs) (ha : -9223372036854775808 ≤ age ∧ age ≤ 9223372036854775807) :
    Calls Try.prog 5 #[.agg #[.int .i64 n, .int .i64 f, .int .i64 d, .int .i64 p, .int .i64 r, .int .i64 dr, .int .i64 o, .int .i64 sl, .int .i64 md, .int .i64 fr, .slice ad zs.length cap], .int .i64 age] w fun e w' => e = .returned (.bool true) ∧ Below w.heap.size w w' := by
  have HT : Hid (Tab (w.alloc (.cells #[.int .i64 n, .int .i64 f, .int .i64 d, .int .i64 p, .int .i64 r, .int .i64 dr, .int .i64 o, .int .i64 sl, .int .i64 md, .int .i64 fr, .slice ad zs.length cap] 24)) ad zs) := hT.below (ballc _ _)
  have P0 := hidden (refPlain_any n f d p r dr o sl md fr ad cap zs (w.alloc (.cells #[.int .i64 n, .int .i64 f, .int .i64 d, .int .i64 p, .int .i64 r, .int .i64 dr, .int .i64 o, .int .i64 sl, .int .i64 md, .int .i64 fr, .slice ad zs.length cap] 24)) hl HT.out)
  have KZ : ∀ V : World, Calls Try.prog 9 #[.agg #[.int .i64 0, .int .i64 0, .int .i64 0, .int .i64 0, .int .i64 0, .int .i64 0, .int .i64 0, .int .i64 0, .int .i64 0, .int .i64 0, .slice none 0 0], .int .i64 age] V fun e W' => e = .returned (.int .i64 (-1)) ∧ Below V.heap.size V W' := fun V => by
    have h := Tells_any 0 0 0 0 0 0 0 0 0 0 none 0 [] age 0 (by decide) (.inl rfl) V (by decide) (Tab.none V) (by rw [plainE_zero]; rfl)
    rwa [tell_zero] at h
  have KZ := hidden KZ
  have KN := hidden (fun V => known15_any V)
  obtain ⟨R, hR, hR15, hd, hok, hno⟩ := rounds_nat n f d p r dr o sl md fr ad cap zs
  have A1 := hidden (fun V h => Tells_any n f d p r dr o sl md fr ad cap zs age R hR15 hd V hl h hR)
  have B1 := hidden (fun V h => Hears_any n f d p r dr o sl md fr ad cap zs (age + d) R hR15 hd V hl h hR)
  have B2 := hidden (fun V h => Hears_any n f d p r dr o sl md fr ad cap zs ((R : Int) * d) R hR15 hd V hl h hR)
  have B3 := hidden (fun V h => Hears_any n f d p r dr o sl md fr ad cap zs age R hR15 hd V hl h hR)
  have C1 := hidden (fun V h => refRounds_any n f d p r dr o sl md fr ad cap zs V hl h)
  have L1 := hidden (fun V h => refLength_any n f d p r dr o sl md fr ad cap zs V hl h)
  rw [hR] at C1
  clear hT
  by_cases hp : plainE n f d p r dr o sl md fr zs = 0
  · obtain ⟨hRf, d1, d2, f1, _⟩ := hok hp
    have hd4 : 1 ≤ d ∧ d ≤ 4 := ⟨d1, d2⟩
    rw [hp] at P0 L1
    rw [gate_ok, ← hRf] at L1
    rw [hear_of_tell] at B1
    rw [hear_end hd4 (by omega)] at B2
    have hx := tell_lt (R := R) (d := d) (age := age)
    have hlate := fun h => hear_late (R := R) (d := d) (age := age) hd4 h
    clear hR hd hok hno hp
    by_cases h1 : age < -100
    · have e1 : decide (age < -100) = true := decide_eq_true h1
      clear A1 B1 B2 B3 hx hlate
      go_enter Try.func5, Try.ntmps5
      go_wp2_with fail
      refine P0.out.mono ?_
      rintro e w2 ⟨rfl, hb⟩
      have HB2 := hidden (bthen (ballc w _) hb)
      clear hb
      go_wp2_with fail
      refine (KZ.out _).mono ?_
      rintro e w3 ⟨rfl, hb⟩
      have HB3 := hidden (bthen HB2.out hb)
      clear hb
      go_wp2_with fail
      refine (KN.out _).mono ?_
      rintro e w4 ⟨rfl, hb⟩
      have HB4 := hidden (bthen HB3.out hb)
      clear hb
      go_wp2
      go_ret
      exact ⟨rfl, HB4.out⟩
    · have e1 : decide (age < -100) = false := decide_eq_false h1
      by_cases h2 : 100 < age
      · have e2 : decide (100 < age) = true := decide_eq_true h2
        clear A1 B1 B2 B3 hx hlate
        go_enter Try.func5, Try.ntmps5
        go_wp2_with fail
        refine P0.out.mono ?_
        rintro e w2 ⟨rfl, hb⟩
        have HB2 := hidden (bthen (ballc w _) hb)
        clear hb
        go_wp2_with fail
        refine (KZ.out _).mono ?_
        rintro e w3 ⟨rfl, hb⟩
        have HB3 := hidden (bthen HB2.out hb)
        clear hb
        go_wp2_with fail
        refine (KN.out _).mono ?_
        rintro e w4 ⟨rfl, hb⟩
        have HB4 := hidden (bthen HB3.out hb)
        clear hb
        go_wp2
        go_ret
        exact ⟨rfl, HB4.out⟩
      · have e2 : decide (100 < age) = false := decide_eq_false h2
        have hL : ∃ L : Int, L = (R : Int) * d := ⟨_, rfl⟩
        obtain ⟨L, hL⟩ := hL
        rw [← hL] at B2 L1 hlate
        generalize tellF R d age = t1 at *
        have e3 : decide ((R : Int) ≤ t1) = false := decide_eq_false (by omega)
        have e30 : ¬ (R : Int) ≤ t1 := by omega
        clear hRf KZ
        go_enter Try.func5, Try.ntmps5
        go_wp2_with fail
        refine P0.out.mono ?_
        rintro e w2 ⟨rfl, hb⟩
        have HB2 := hidden hb
        obtain ⟨hbox, hsz⟩ := box_at HB2.out
        clear hb
        go_wp2_with fail
        refine (A1.out _ (HT.out.below HB2.out)).mono ?_
        rintro e w3 ⟨rfl, hb⟩
        have HB3 := hidden (bthen HB2.out hb)
        clear hb hbox hsz HB2
        obtain ⟨hbox, hsz⟩ := box_at HB3.out
        go_wp2_with fail
        refine (B1.out _ (HT.out.below HB3.out)).mono ?_
        rintro e w4 ⟨rfl, hb⟩
        have HB4 := hidden (bthen HB3.out hb)
        clear hb hbox hsz HB3
        obtain ⟨hbox, hsz⟩ := box_at HB4.out
        go_wp2_with fail
        refine (C1.out _ (HT.out.below HB4.out)).mono ?_
        rintro e w5 ⟨rfl, hb⟩
        have HB5 := hidden (bthen HB4.out hb)
        clear hb hbox hsz HB4
        obtain ⟨hbox, hsz⟩ := box_at HB5.out
        have HT5 := hidden (HT.out.below HB5.out)
        clear hx
        have t4 : IntKind.i64.wrap ((R : Int) - 1) = (R : Int) - 1 := IntWalk.i64_in _ (by omega)
        by_cases hla : age ≤ L
        · have e5 : decide (age ≤ L) = true := decide_eq_true hla
          clear hlate hL B3 h1 h2
          go_wp2
          refine wp_region_quiet_below (by kernel_rfl) (by kernel_rfl) ?_
          repeat (go_big_quiet_step (first
            | (go_at_call 11; exact Calls.regrown_of (B2.out _ (HT5.out.below (below_regrown _ _ _))))
            | (go_at_call 20; exact Calls.regrown_of (L1.out _ (HT5.out.below (below_regrown _ _ _))))
            | (go_at_call 19; exact Calls.regrown_of (C1.out _ (HT5.out.below (below_regrown _ _ _))))
            | (go_at_call 15; exact Calls.regrown_of (known15_any _))))
          refine wpQuiet_nil ?_
          intro w6 hw6
          have HB6 : Hid (Below w.heap.size w w6) := bthen (ballc w _) (bthen HB5.out (rg_below hw6))
          clear hw6
          go_wp2
          go_ret
          exact ⟨rfl, HB6.out⟩
        · have e5 : decide (age ≤ L) = false := decide_eq_false hla
          rw [hlate (by omega)] at B3
          clear hlate hL h1 h2
          go_wp2
          refine wp_region_quiet_below (by kernel_rfl) (by kernel_rfl) ?_
          repeat (go_big_quiet_step (first
            | (go_at_call 20; exact Calls.regrown_of (L1.out _ (HT5.out.below (below_regrown _ _ _))))
            | (go_at_call 19; exact Calls.regrown_of (C1.out _ (HT5.out.below (below_regrown _ _ _))))
            | (go_at_call 15; exact Calls.regrown_of (known15_any _))))
          go_big_quiet_step ((go_at_call 11; exact Calls.regrown_of (B2.out _ (HT5.out.below (below_regrown _ _ _)))))
          repeat (go_big_quiet_step (first
            | (go_at_call 20; exact Calls.regrown_of (L1.out _ (HT5.out.below (below_regrown _ _ _))))
            | (go_at_call 19; exact Calls.regrown_of (C1.out _ (HT5.out.below (below_regrown _ _ _))))
            | (go_at_call 15; exact Calls.regrown_of (known15_any _))))
          go_big_quiet_step ((go_at_call 11; exact Calls.regrown_of (B3.out _ (HT5.out.below (below_regrown _ _ _)))))
          repeat (go_big_quiet_step (first
            | (go_at_call 15; exact Calls.regrown_of (known15_any _))))
          refine wpQuiet_nil ?_
          intro w6 hw6
          have HB6 : Hid (Below w.heap.size w w6) := bthen (ballc w _) (bthen HB5.out (rg_below hw6))
          clear hw6
          go_wp2
          go_ret
          exact ⟨rfl, HB6.out⟩
  · have hE : decide (plainE n f d p r dr o sl md fr zs = 0) = false := decide_eq_false hp
    generalize plainE n f d p r dr o sl md fr zs = E at *
    clear A1 B1 B2 B3 C1 L1 hR hok hno
    go_enter Try.func5, Try.ntmps5
    go_wp2_with fail
    refine P0.out.mono ?_
    rintro e w2 ⟨rfl, hb⟩
    have HB2 := hidden (bthen (ballc w _) hb)
    have hE2 : (E != 0) = true := by simp [hp]
    clear hb
    go_wp2_with fail
    refine (KZ.out _).mono ?_
    rintro e w3 ⟨rfl, hb⟩
    have HB3 := hidden (bthen HB2.out hb)
    clear hb
    go_wp2_with fail
    refine (KN.out _).mono ?_
    rintro e w4 ⟨rfl, hb⟩
    have HB4 := hidden (bthen HB3.out hb)
    clear hb
    go_wp2
    go_ret
    exact ⟨rfl, HB4.out⟩
end Go.Proofs.Ytgfdfakffkhekaa.LawPlanLater
