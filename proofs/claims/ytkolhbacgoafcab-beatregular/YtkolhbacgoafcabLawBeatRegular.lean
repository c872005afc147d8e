/- The walk of the statement BeatRegular: the call returns true, and makes at most new memory; conditions: the table lies where it says, numbers and lengths fit int. -/
import Derived.Test.YtkolhbacgoafcabBf
import Derived.Test.YtkolhbacgoafcabBh
import Derived.Test.YtkolhbacgoafcabBg
import Derived.Test.YtkolhbacgoafcabBe
namespace Go.Proofs.Ytkolhbacgoafcab.LawBeatRegular
open Go.ChangeShapes Go.WideShapes Go.ChangeAt Go.RowKit
set_option linter.unusedVariables false
attribute [local go_sem] cell_rg

theorem alo_of {P L : Nat} {s0 : Int} {pend : Nat → Bool} (hL : 1 ≤ L) (hP : 2 * L < P) : Alo P L (eF (P : Int) L s0 pend) (fun t => sF (P : Int) L s0 pend (t + 1)) where
  l1 := hL
  l2 := hP
  s0 := by
    show 0 ≤ sF _ _ _ _ 1 ∧ sF _ _ _ _ 1 ≤ _
    rw [sF_s hL]
    exact nxF_bd (by omega) _
  hs := fun t => sF_s hL (t + 1)
  he := fun t => by
    unfold eF
    rw [if_neg (by omega), show t + L - L + 1 = t + 1 by omega]
theorem alo_byte (P : Int) (L : Nat) (s0 : Int) (pend : Nat → Bool) (M k : Nat) (h : k < (ba (aloL P L s0 pend M)).size) : (((ba (aloL P L s0 pend M))[k]'h).toNat : Int) = numD (eF P L s0 pend k) := by
  have hk : k < M := by rw [ba_size] at h; simpa [aloL] using h
  have h2 : (ba (aloL P L s0 pend M))[k]'h = digB (eF P L s0 pend k) := by
    show (aloL P L s0 pend M).toArray[k]'_ = _
    simp [aloL]
  rw [h2]
  cases eF P L s0 pend k <;> rfl

set_option maxHeartbeats 2000000 in
theorem walk (n f d p r dr o sl md fr : Int) (ad : Option Addr) (cap : Nat) (zs : List Int) (si : Int) (s : ByteArray) (mo : Int) (w : World) (hl : zs.length ≤ 9223372036854775807) (hT : Tab w ad zs) (hsi : -9223372036854775808 ≤ si ∧ si ≤ 9223372036854775807) (hs : s.size ≤ 9223372036854775807) (hmo : -9223372036854775808 ≤ mo ∧ mo ≤ 9223372036854775807) :
    Calls Try.prog 4 #[.agg #[.int .i64 n, .int .i64 f, .int .i64 d, .int .i64 p, .int .i64 r, .int .i64 dr, .int .i64 o, .int .i64 sl, .int .i64 md, .int .i64 fr, .slice ad zs.length cap], .int .i64 si, .string s, .int .i64 mo] w fun e w' => e = .returned (.bool true) ∧ Below w.heap.size w w' := by
  have KN := hidden (fun V => known18_any V)
  have HB0 := hidden (ballc w (.cells #[.int .i64 n, .int .i64 f, .int .i64 d, .int .i64 p, .int .i64 r, .int .i64 dr, .int .i64 o, .int .i64 sl, .int .i64 md, .int .i64 fr, .slice ad zs.length cap] 24))
  have HT := hidden (hT.below HB0.out)
  have HK := hidden (blk_nw w #[.int .i64 n, .int .i64 f, .int .i64 d, .int .i64 p, .int .i64 r, .int .i64 dr, .int .i64 o, .int .i64 sl, .int .i64 md, .int .i64 fr, .slice ad zs.length cap] 24)
  have HP := hidden (refPlain_any n f d p r dr o sl md fr ad cap zs (w.alloc (.cells #[.int .i64 n, .int .i64 f, .int .i64 d, .int .i64 p, .int .i64 r, .int .i64 dr, .int .i64 o, .int .i64 sl, .int .i64 md, .int .i64 fr, .slice ad zs.length cap] 24)) hl HT.out)
  by_cases hE : plainE n f d p r dr o sl md fr zs = 0
  · by_cases hall : 0 ≤ mo ∧ mo ≤ 300 ∧ s.size ≤ 200
    · obtain ⟨m1, m2, m3⟩ := hall
      obtain ⟨m, rfl⟩ : ∃ m : Nat, mo = (m : Int) := ⟨mo.toNat, by omega⟩
      obtain ⟨R, D, L, hR, hL, hLD, hR15, hL60, hd, hd1, hd0⟩ := len_nat n f d p r dr o sl md fr ad cap zs
      obtain ⟨_, _, f1, _, _, _, _, hp1, hp2, _⟩ := plainE_ok hE
      have hfd : 1 ≤ (f + 1) * d := by
        have := plainE_ok hE
        have h1 : (1 : Int) * 1 ≤ (f + 1) * d := Int.mul_le_mul (by omega) (by omega) (by omega) (by omega)
        omega
      have hLi : (L : Int) = 3 * ((f + 1) * d) := by
        rw [hE] at hL
        have h2 : gate 0 (3 * (f + 1) * d) = 3 * (f + 1) * d := rfl
        rw [h2, Int.mul_assoc] at hL
        omega
      have hPL : 2 * (L : Int) < p := by
        have := plainE_ok hE
        have h6 : 6 * (f + 1) * d = 6 * ((f + 1) * d) := Int.mul_assoc _ _ _
        omega
      obtain ⟨P, rfl⟩ : ∃ P : Nat, p = (P : Int) := ⟨p.toNat, by omega⟩
      have hL1 : 1 ≤ L := by omega
      have hA := alo_of (P := P) (L := L) (s0 := si) (pend := penF s) hL1 (by omega)
      obtain ⟨u, u1, u2, u3⟩ := hA.regular
      have hM : clampF ((P + 2 * L + m : Nat) : Int) 0 2000 = ((P + 2 * L + m : Nat) : Int) := by
        unfold clampF
        rw [if_neg (by omega), if_pos (by omega)]
      have A1 := hidden (fun V h => Alone_any n f d (P : Int) r dr o sl md fr ad cap zs L si hsi s hs ((P + 2 * L + m : Nat) : Int) (P + 2 * L + m) hM V hl h hL hL60)
      have hrT : aloT (plainE n f d (P : Int) r dr o sl md fr zs) (P : Int) L si (penF s) (P + 2 * L + m) = ba (aloL (P : Int) L si (penF s) (P + 2 * L + m)) := if_pos hE
      rw [hrT] at A1
      have A2 := hidden (fun V => regular_any n f d (P : Int) r dr o sl md fr ad cap zs P u (P + 2 * L) rfl (by omega) (by omega) (eF (P : Int) L si (penF s)) (by omega) u3 (ba (aloL (P : Int) L si (penF s) (P + 2 * L + m))) (by rw [ba_size]; simp [aloL]; omega) (fun k h _ => alo_byte _ _ _ _ _ k h) (by omega) V)
      have A3 := hidden (fun V h => refLength_any n f d (P : Int) r dr o sl md fr ad cap zs V hl h)
      rw [hL] at A3
      have hsz : (ba (aloL (P : Int) L si (penF s) (P + 2 * L + m))).size = P + 2 * L + m := by rw [ba_size]; simp [aloL]
      generalize ba (aloL (P : Int) L si (penF s) (P + 2 * L + m)) = al at *
      obtain ⟨Q, hQ⟩ : ∃ Q : Nat, Q = P + 2 * L := ⟨_, rfl⟩
      obtain ⟨N, hN⟩ : ∃ N : Nat, N = P + 2 * L + m := ⟨_, rfl⟩
      rw [← hN] at A1 hsz
      rw [← hQ] at A2
      have t1 : IntKind.i64.wrap (2 * (L : Int)) = 2 * (L : Int) := IntWalk.i64_in _ (by omega)
      have t2 : IntKind.i64.wrap ((P : Int) + 2 * (L : Int)) = (Q : Int) := by rw [IntWalk.i64_in _ (by omega)]; omega
      have t3 : (P : Int) + 2 * (L : Int) = (Q : Int) := by omega
      have t4 : (Q : Int) + (m : Int) = (N : Int) := by omega
      have t5 : IntKind.i64.wrap (N : Int) = (N : Int) := IntWalk.i64_in _ (by omega)
      have t6 : IntKind.i64.wrap (Q : Int) = (Q : Int) := IntWalk.i64_in _ (by omega)
      have d1 : decide ((m : Int) < 0) = false := decide_eq_false (by omega)
      have d2 : decide ((300 : Int) < (m : Int)) = false := decide_eq_false (by omega)
      have d3 : decide ((200 : Int) < (s.size : Int)) = false := decide_eq_false (by omega)
      have d3' : decide (200 < s.size) = false := decide_eq_false (by omega)
      rw [hE] at HP
      clear hT hR hL hLD hd hd1 hd0 hM hrT hA u1 u2 u3 hE hLi hPL hfd hp1 hp2 f1 hQ hN
      go_enter Try.func4, Try.ntmps4
      go_wp2_with fail
      refine HP.out.mono ?_
      rintro e w2 ⟨rfl, hb⟩
      have HB2 := hidden (bthen HB0.out hb)
      have HT2 := hidden (HT.out.below hb)
      have HK2 := hidden (blk_later HK.out hb)
      have c0 := blk_cell HK2.out
      have l0 := blk_lt HK2.out
      clear hb HT HK HP
      go_wp2
      refine wp_region_quiet_below (by kernel_rfl) (by kernel_rfl) ?_
      repeat (go_big_quiet_step (first | (go_at_call 10; exact Calls.regrown_of (A3.out _ (HT2.out.below (below_regrown _ _ _))))))
      refine wpQuiet_nil ?_
      intro w3 hw3
      have HB3 := hidden (bthen HB2.out (rg_below hw3))
      have HT3 := hidden (HT2.out.below (rg_below hw3))
      have HK3 := hidden (blk_later HK2.out (rg_below hw3))
      clear hw3 c0 l0 HB2 HT2 HK2
      have c0 := blk_cell HK3.out
      have l0 := blk_lt HK3.out
      go_wp2_with fail
      refine (A1.out _ HT3.out).mono ?_
      rintro e w4 ⟨rfl, hb⟩
      have HB4 := hidden (bthen HB3.out hb)
      have HK4 := hidden (blk_later HK3.out hb)
      clear hb c0 l0 HB3 HT3 HK3
      have c0 := blk_cell HK4.out
      have l0 := blk_lt HK4.out
      go_wp2_with fail
      refine (A2.out _).mono ?_
      rintro e w5 ⟨rfl, hb⟩
      have HB5 := hidden (bthen HB4.out hb)
      clear hb c0 l0
      go_wp2_with fail
      refine (KN.out _).mono ?_
      rintro e w6 ⟨rfl, hb⟩
      have HB6 := hidden (bthen HB5.out hb)
      clear hb
      go_wp2
      go_ret
      exact ⟨rfl, HB6.out⟩
    · rw [hE] at HP
      clear hT hE
      by_cases h1 : mo < 0
      · have d1 : decide (mo < 0) = true := decide_eq_true h1
        clear hall
        go_enter Try.func4, Try.ntmps4
        go_wp2_with fail
        refine HP.out.mono ?_
        rintro e w2 ⟨rfl, hb⟩
        have HB2 := hidden (bthen HB0.out hb)
        clear hb
        go_wp2_with fail
        refine (KN.out _).mono ?_
        rintro e w3 ⟨rfl, hb⟩
        have HB3 := hidden (bthen HB2.out hb)
        clear hb
        go_wp2
        go_ret
        exact ⟨rfl, HB3.out⟩
      · have d1 : decide (mo < 0) = false := decide_eq_false h1
        by_cases h2 : (300 : Int) < mo
        · have d2 : decide ((300 : Int) < mo) = true := decide_eq_true h2
          clear hall
          go_enter Try.func4, Try.ntmps4
          go_wp2_with fail
          refine HP.out.mono ?_
          rintro e w2 ⟨rfl, hb⟩
          have HB2 := hidden (bthen HB0.out hb)
          clear hb
          go_wp2_with fail
          refine (KN.out _).mono ?_
          rintro e w3 ⟨rfl, hb⟩
          have HB3 := hidden (bthen HB2.out hb)
          clear hb
          go_wp2
          go_ret
          exact ⟨rfl, HB3.out⟩
        · have d2 : decide ((300 : Int) < mo) = false := decide_eq_false h2
          have d3 : decide ((200 : Int) < (s.size : Int)) = true := decide_eq_true (by omega)
          have d3' : decide (200 < s.size) = true := decide_eq_true (by omega)
          clear hall
          go_enter Try.func4, Try.ntmps4
          go_wp2_with fail
          refine HP.out.mono ?_
          rintro e w2 ⟨rfl, hb⟩
          have HB2 := hidden (bthen HB0.out hb)
          clear hb
          go_wp2_with fail
          refine (KN.out _).mono ?_
          rintro e w3 ⟨rfl, hb⟩
          have HB3 := hidden (bthen HB2.out hb)
          clear hb
          go_wp2
          go_ret
          exact ⟨rfl, HB3.out⟩
  · have j1 : (plainE n f d p r dr o sl md fr zs != 0) = true := bne_iff_ne.2 hE
    generalize plainE n f d p r dr o sl md fr zs = E at *
    clear hE hT
    go_enter Try.func4, Try.ntmps4
    go_wp2_with fail
    refine HP.out.mono ?_
    rintro e w2 ⟨rfl, hb⟩
    have HB2 := hidden (bthen HB0.out hb)
    clear hb
    go_wp2_with fail
    refine (KN.out _).mono ?_
    rintro e w3 ⟨rfl, hb⟩
    have HB3 := hidden (bthen HB2.out hb)
    clear hb
    go_wp2
    go_ret
    exact ⟨rfl, HB3.out⟩
end Go.Proofs.Ytkolhbacgoafcab.LawBeatRegular
