/- Plain words on package bound: the guard, rounded up, and what makes a configuration right; no conditions but the limits that are named. -/
import Derived.Test.YtoemloggbljikabBndS
namespace Go.Proofs.Ytoemloggbljikab
open Go.ChangeShapes Go.WideShapes Go.ChangeAt Go.RowKit
set_option linter.unusedVariables false

theorem ceil_zero {a b : Int} (hb : 1 ≤ b) (h : a % b = 0) : (a + b - 1) / b = a / b := by
  have e : a + b - 1 = (b - 1) + b * (a / b) := by
    have := Int.mul_ediv_add_emod a b
    omega
  rw [e, Int.add_mul_ediv_left _ _ (by omega : b ≠ 0), Int.ediv_eq_zero_of_lt (by omega) (by omega)]
  omega
theorem ceil_more {a b : Int} (hb : 1 ≤ b) (h : 0 < a % b) : (a + b - 1) / b = a / b + 1 := by
  have h2 := Int.emod_lt_of_pos a (show 0 < b by omega)
  have e : a + b - 1 = (a % b - 1) + b * (a / b + 1) := by
    have := Int.mul_ediv_add_emod a b
    rw [Int.mul_add, Int.mul_one]
    omega
  rw [e, Int.add_mul_ediv_left _ _ (by omega : b ≠ 0), Int.ediv_eq_zero_of_lt (by omega) (by omega)]
  omega
/-- The guard of a configuration whose last middle is M. -/
def guardF (d r dr M : Int) : Int := (2 * dr * M + (r - dr) - 1) / (r - dr) + r + (d + 1) * dr
theorem guardF_bd {d r dr M : Int} (d1 : 1 ≤ d) (d2 : d ≤ 4) (r1 : 1 ≤ r) (r2 : r ≤ 64) (dr1 : 0 ≤ dr) (dr2 : dr ≤ r - 1) (M1 : 0 ≤ M) (M2 : M ≤ 975000) :
    0 ≤ 2 * dr * M ∧ 2 * dr * M ≤ 122850000 ∧ 0 ≤ (2 * dr * M + (r - dr) - 1) / (r - dr) ∧ (2 * dr * M + (r - dr) - 1) / (r - dr) ≤ 122850063 ∧ 0 ≤ (d + 1) * dr ∧ (d + 1) * dr ≤ 315 := by
  obtain ⟨a0, a1⟩ := mul_bd (show 0 ≤ 2 * dr by omega) (show 2 * dr ≤ 126 by omega) M1 M2
  obtain ⟨b0, b1⟩ := mul_bd (show 0 ≤ d + 1 by omega) (show d + 1 ≤ 5 by omega) dr1 (show dr ≤ 63 by omega)
  have c0 : 0 ≤ (2 * dr * M + (r - dr) - 1) / (r - dr) := Int.ediv_nonneg (by omega) (by omega)
  have c1 : (2 * dr * M + (r - dr) - 1) / (r - dr) ≤ 2 * dr * M + (r - dr) - 1 := Int.ediv_le_self _ (by omega)
  omega
theorem guardF_in {d r dr M : Int} (d1 : 1 ≤ d) (d2 : d ≤ 4) (r1 : 1 ≤ r) (r2 : r ≤ 64) (dr1 : 0 ≤ dr) (dr2 : dr ≤ r - 1) (M1 : 0 ≤ M) (M2 : M ≤ 975000) : 0 ≤ guardF d r dr M ∧ guardF d r dr M ≤ 123000000 := by
  have := guardF_bd d1 d2 r1 r2 dr1 dr2 M1 M2
  unfold guardF; omega
/-- What Right answers, of what is plain. -/
def rightF (d p r dr sl M : Int) : Int :=
  if sl ≤ 2 * guardF d r dr M then 8 else if (p - 1) * (r - dr) < M + d * r + guardF d r dr M then 8 else if 32768 ≤ p * (r + dr) then 8 else 0
theorem rightF_ok {d p r dr sl M : Int} (h : rightF d p r dr sl M = 0) : 2 * guardF d r dr M < sl ∧ M + d * r + guardF d r dr M ≤ (p - 1) * (r - dr) ∧ p * (r + dr) < 32768 := by
  unfold rightF at h
  by_cases c0 : sl ≤ 2 * guardF d r dr M
  · rw [if_pos c0] at h; exact absurd h (by decide)
  rw [if_neg c0] at h
  by_cases c1 : (p - 1) * (r - dr) < M + d * r + guardF d r dr M
  · rw [if_pos c1] at h; exact absurd h (by decide)
  rw [if_neg c1] at h
  by_cases c2 : 32768 ≤ p * (r + dr)
  · rw [if_pos c2] at h; exact absurd h (by decide)
  omega
/-- The last slot's middle. -/
def lastE (o sl : Int) (zs : List Int) : Int := midE o sl ((zs.length : Int) - 1)
/-- What Right answers. -/
def rightE (n f d p r dr o sl md fr : Int) (zs : List Int) : Int := if plainE n f d p r dr o sl md fr zs = 0 then rightF d p r dr sl (lastE o sl zs) else plainE n f d p r dr o sl md fr zs
theorem rightE_plain {n f d p r dr o sl md fr : Int} {zs : List Int} (h : plainE n f d p r dr o sl md fr zs = 0) : rightE n f d p r dr o sl md fr zs = rightF d p r dr sl (lastE o sl zs) := if_pos h
theorem rightE_not {n f d p r dr o sl md fr : Int} {zs : List Int} (h : ¬ plainE n f d p r dr o sl md fr zs = 0) : rightE n f d p r dr o sl md fr zs = plainE n f d p r dr o sl md fr zs := if_neg h
theorem rightE_ok {n f d p r dr o sl md fr : Int} {zs : List Int} (h : rightE n f d p r dr o sl md fr zs = 0) : plainE n f d p r dr o sl md fr zs = 0 ∧ rightF d p r dr sl (lastE o sl zs) = 0 := by
  by_cases c : plainE n f d p r dr o sl md fr zs = 0
  · rw [rightE_plain c] at h; exact ⟨c, h⟩
  · rw [rightE_not c] at h; exact absurd h c
theorem lastE_bd {n f d p r dr o sl md fr : Int} {zs : List Int} (h : plainE n f d p r dr o sl md fr zs = 0) : 0 ≤ lastE o sl zs ∧ lastE o sl zs ≤ 975000 := by
  obtain ⟨_, _, _, _, _, _, _, _, _, _, _, _, _, o1, o2, sl1, sl2, _, _, _, _, z1, z2, _⟩ := plainE_ok h
  exact midE_bd (by omega) (by omega) o1 o2 sl1 sl2
theorem plainE_p {n f d p r dr o sl md fr : Int} {zs : List Int} (h : plainE n f d p r dr o sl md fr zs = 0) : 1 ≤ p := by
  obtain ⟨_, _, f1, f2, _, d1, d2, p1, _⟩ := plainE_ok h
  have := Int.mul_nonneg (show 0 ≤ f + 1 by omega) (show 0 ≤ d by omega)
  omega
end Go.Proofs.Ytoemloggbljikab
