/- The walk of the statement VecNumbers: the call returns true, and makes at most new memory; conditions: rows lie where they say, lengths fit int. -/
import Derived.Test.YtgfdfakffkhekaaVecR
import Derived.Test.YtgfdfakffkhekaaVecK
namespace Go.Proofs.Ytgfdfakffkhekaa.LawVecNumbers
open Go.ChangeShapes Go.WideShapes Go.ChangeAt Go.RowKit
set_option linter.unusedVariables false
attribute [local go_sem] cell_rg

theorem of_low {M : Nat} {g : Nat → Nat} (hg : ∀ k, g k ≤ 1) (k : Nat) (hk : k < M) : ofG (dgB M g) k = g k := by
  have h := hg k
  unfold ofG
  rw [vdg_dgB hk (by omega) (by omega)]
  have h2 : g k = 0 ∨ g k = 1 := by omega
  rcases h2 with e | e <;> rw [e] <;> rfl
theorem values_of {M : Nat} {g : Nat → Nat} (hg : ∀ k, g k ≤ 1) : dgB M (valG (dgB M (ofG (dgB M g)))) = dgB M g := by
  refine dgB_congr fun k hk => ?_
  have h := hg k
  have e := of_low hg k hk
  unfold valG bitK
  rw [vdg_dgB hk (by rw [e]; omega) (by rw [e]; omega), e]
  have h2 : g k = 0 ∨ g k = 1 := by omega
  rcases h2 with e | e <;> rw [e] <;> rfl
theorem num_low {M m : Nat} : ∀ k, k ≤ M → numG (dgB M (bitG m)) k = m % 2 ^ k
  | 0, _ => by simp [numG, Nat.mod_one]
  | k + 1, h => by
    have hb := bitG_bd m k
    have hm : m % 2 ^ (k + 1) = m % 2 ^ k + 2 ^ k * (m / 2 ^ k % 2) := Nat.mod_pow_succ
    show numG (dgB M (bitG m)) k + (if vdg 1 (dgB M (bitG m)) k = 1 then 2 ^ k else 0) = _
    rw [num_low k (by omega), vdg_dgB (by omega) (by omega) (by omega), hm]
    have h2 : bitG m k = 0 ∨ bitG m k = 1 := by omega
    have e0 : m / 2 ^ k % 2 = bitG m k := rfl
    rw [e0]
    rcases h2 with e | e <;> rw [e] <;> simp
set_option maxHeartbeats 4000000 in
theorem walk (bits : ByteArray) (n width : Int) (w : World) (hsz : bits.size ≤ 9223372036854775807) (hn : -9223372036854775808 ≤ n ∧ n ≤ 9223372036854775807) (hw : -9223372036854775808 ≤ width ∧ width ≤ 9223372036854775807) :
    Calls Try.prog 8 #[.string bits, .int .i64 n, .int .i64 width] w fun e w' => e = .returned (.bool true) ∧ Below w.heap.size w w' := by
  have KN := hidden (fun V => known16_any V)
  by_cases h1 : (100 : Int) < (bits.size : Int)
  · have d1 : decide ((100 : Int) < (bits.size : Int)) = true := decide_eq_true h1
    have d1' : decide (100 < bits.size) = true := decide_eq_true (by omega)
    go_enter Try.func8, Try.ntmps8
    go_wp2_with fail
    refine (KN.out _).mono ?_
    rintro e w2 ⟨rfl, hb⟩
    have HB2 := hidden hb
    clear hb
    go_wp2
    go_ret
    exact ⟨rfl, HB2.out⟩
  · have d1 : decide ((100 : Int) < (bits.size : Int)) = false := decide_eq_false h1
    have d1' : decide (100 < bits.size) = false := decide_eq_false (by omega)
    by_cases h2 : (200 : Int) < width
    · have d2 : decide ((200 : Int) < width) = true := decide_eq_true h2
      go_enter Try.func8, Try.ntmps8
      go_wp2_with fail
      refine (KN.out _).mono ?_
      rintro e w2 ⟨rfl, hb⟩
      have HB2 := hidden hb
      clear hb
      go_wp2
      go_ret
      exact ⟨rfl, HB2.out⟩
    · have d2 : decide ((200 : Int) < width) = false := decide_eq_false h2
      have A1 := hidden (fun V => Bits_any2 n width hn.2 V)
      have A2 := hidden (fun V => rBits_any n width hn.2 hw V)
      have N1 := hidden (fun V => Number_any bits hsz V)
      have N2 := hidden (fun V => rNumber_any bits hsz V)
      have hwd := widF_bd width
      have O1 := hidden (fun V => Of_any (dgB (widF width) (bitG n.toNat)) (by rw [dgB_size]; omega) V)
      have V1 := hidden (fun V => Values_any (dgB (widF width) (ofG (dgB (widF width) (bitG n.toNat)))) (by rw [dgB_size]; omega) V)
      have M1 := hidden (fun V => Number_any (dgB (widF width) (bitG n.toNat)) (by rw [dgB_size]; omega) V)
      rw [dgB_size] at O1 V1
      rw [values_of (bitG_bd n.toNat)] at V1
      have HM : Hid (0 ≤ n → n ≤ 255 → 8 ≤ width → (numG (dgB (widF width) (bitG n.toNat)) 8 : Int) = n) := fun q1 q2 q3 => by
        rw [num_low 8 (by unfold widF; omega)]
        have : n.toNat % 2 ^ 8 = n.toNat := Nat.mod_eq_of_lt (by omega)
        rw [this]; omega
      generalize numG (dgB (widF width) (bitG n.toNat)) 8 = nn at *
      generalize dgB (widF width) (ofG (dgB (widF width) (bitG n.toNat))) = so at *
      generalize dgB (widF width) (bitG n.toNat) = s at *
      generalize numG bits 8 = nb at *
      clear hwd h2
      by_cases g1 : n < 0
      · have e1 : decide (n < 0) = true := decide_eq_true g1
        clear HM M1 g1
        go_enter Try.func8, Try.ntmps8
        go_wp2_with fail
        refine (A1.out _).mono ?_
        rintro e w2 ⟨rfl, hb⟩
        have HB2 := hidden hb
        clear hb
        go_wp2_with fail
        refine (N1.out _).mono ?_
        rintro e w3 ⟨rfl, rfl⟩
        go_wp2_with fail
        refine (N2.out _).mono ?_
        rintro e w3 ⟨rfl, rfl⟩
        go_wp2_with fail
        refine (A2.out _).mono ?_
        rintro e w3 ⟨rfl, hb⟩
        have HB3 := hidden (bthen HB2.out hb)
        clear hb
        go_wp2_with fail
        refine (O1.out _).mono ?_
        rintro e w4 ⟨rfl, hb⟩
        have HB4 := hidden (bthen HB3.out hb)
        clear hb
        go_wp2_with fail
        refine (V1.out _).mono ?_
        rintro e w5 ⟨rfl, hb⟩
        have HB5 := hidden (bthen HB4.out hb)
        clear hb
        go_wp2_with fail
        refine (KN.out _).mono ?_
        rintro e w6 ⟨rfl, hb⟩
        have HB6 := hidden (bthen HB5.out hb)
        clear hb
        go_wp2
        go_ret
        exact ⟨rfl, HB6.out⟩
      · have e1 : decide (n < 0) = false := decide_eq_false g1
        by_cases g2 : 255 < n
        · have e2 : decide (255 < n) = true := decide_eq_true g2
          clear HM M1 g1 g2
          go_enter Try.func8, Try.ntmps8
          go_wp2_with fail
          refine (A1.out _).mono ?_
          rintro e w2 ⟨rfl, hb⟩
          have HB2 := hidden hb
          clear hb
          go_wp2_with fail
          refine (N1.out _).mono ?_
          rintro e w3 ⟨rfl, rfl⟩
          go_wp2_with fail
          refine (N2.out _).mono ?_
          rintro e w3 ⟨rfl, rfl⟩
          go_wp2_with fail
          refine (A2.out _).mono ?_
          rintro e w3 ⟨rfl, hb⟩
          have HB3 := hidden (bthen HB2.out hb)
          clear hb
          go_wp2_with fail
          refine (O1.out _).mono ?_
          rintro e w4 ⟨rfl, hb⟩
          have HB4 := hidden (bthen HB3.out hb)
          clear hb
          go_wp2_with fail
          refine (V1.out _).mono ?_
          rintro e w5 ⟨rfl, hb⟩
          have HB5 := hidden (bthen HB4.out hb)
          clear hb
          go_wp2_with fail
          refine (KN.out _).mono ?_
          rintro e w6 ⟨rfl, hb⟩
          have HB6 := hidden (bthen HB5.out hb)
          clear hb
          go_wp2
          go_ret
          exact ⟨rfl, HB6.out⟩
        · have e2 : decide (255 < n) = false := decide_eq_false g2
          by_cases g3 : width < 8
          · have e3 : decide (width < 8) = true := decide_eq_true g3
            clear HM M1 g1 g2 g3
            go_enter Try.func8, Try.ntmps8
            go_wp2_with fail
            refine (A1.out _).mono ?_
            rintro e w2 ⟨rfl, hb⟩
            have HB2 := hidden hb
            clear hb
            go_wp2_with fail
            refine (N1.out _).mono ?_
            rintro e w3 ⟨rfl, rfl⟩
            go_wp2_with fail
            refine (N2.out _).mono ?_
            rintro e w3 ⟨rfl, rfl⟩
            go_wp2_with fail
            refine (A2.out _).mono ?_
            rintro e w3 ⟨rfl, hb⟩
            have HB3 := hidden (bthen HB2.out hb)
            clear hb
            go_wp2_with fail
            refine (O1.out _).mono ?_
            rintro e w4 ⟨rfl, hb⟩
            have HB4 := hidden (bthen HB3.out hb)
            clear hb
            go_wp2_with fail
            refine (V1.out _).mono ?_
            rintro e w5 ⟨rfl, hb⟩
            have HB5 := hidden (bthen HB4.out hb)
            clear hb
            go_wp2_with fail
            refine (KN.out _).mono ?_
            rintro e w6 ⟨rfl, hb⟩
            have HB6 := hidden (bthen HB5.out hb)
            clear hb
            go_wp2
            go_ret
            exact ⟨rfl, HB6.out⟩
          · have e3 : decide (width < 8) = false := decide_eq_false g3
            have hnn := HM.out (by omega) (by omega) (by omega)
            have j : ((nn : Int) == n) = true := by rw [hnn]; simp
            clear HM g1 g2 g3 hnn
            go_enter Try.func8, Try.ntmps8
            go_wp2_with fail
            refine (A1.out _).mono ?_
            rintro e w2 ⟨rfl, hb⟩
            have HB2 := hidden hb
            clear hb
            go_wp2_with fail
            refine (N1.out _).mono ?_
            rintro e w3 ⟨rfl, rfl⟩
            go_wp2_with fail
            refine (N2.out _).mono ?_
            rintro e w3 ⟨rfl, rfl⟩
            go_wp2_with fail
            refine (A2.out _).mono ?_
            rintro e w3 ⟨rfl, hb⟩
            have HB3 := hidden (bthen HB2.out hb)
            clear hb
            go_wp2_with fail
            refine (O1.out _).mono ?_
            rintro e w4 ⟨rfl, hb⟩
            have HB4 := hidden (bthen HB3.out hb)
            clear hb
            go_wp2_with fail
            refine (V1.out _).mono ?_
            rintro e w5 ⟨rfl, hb⟩
            have HB5 := hidden (bthen HB4.out hb)
            clear hb
            go_wp2_with fail
            refine (M1.out _).mono ?_
            rintro e w9 ⟨rfl, rfl⟩
            go_wp2_with fail
            refine (KN.out _).mono ?_
            rintro e w6 ⟨rfl, hb⟩
            have HB6 := hidden (bthen HB5.out hb)
            clear hb
            go_wp2
            go_ret
            exact ⟨rfl, HB6.out⟩
end Go.Proofs.Ytgfdfakffkhekaa.LawVecNumbers
