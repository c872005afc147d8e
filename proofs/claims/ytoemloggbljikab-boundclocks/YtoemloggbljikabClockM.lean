/- Plain words on two clocks that drift: how far they are apart at the first tick at which one of them has a slot's middle, and some ticks later; conditions: what is right. -/
import Derived.Test.YtoemloggbljikabBndN
namespace Go.Proofs.Ytoemloggbljikab
open Go.ChangeShapes Go.WideShapes Go.ChangeAt Go.RowKit
set_option linter.unusedVariables false

/-- How many units a clock goes at a tick. -/
def unitE (r dr : Int) (l : List Int) (t : Nat) : Int := if t < l.length then max (r - dr) (min (l.getD t 0) (r + dr)) else r
theorem unitE_bd {r dr : Int} (h : 0 ≤ dr) (l : List Int) (t : Nat) : r - dr ≤ unitE r dr l t ∧ unitE r dr l t ≤ r + dr := by
  unfold unitE
  split <;> omega
/-- Where a clock is after t ticks. -/
def clockE (r dr : Int) (l : List Int) : Nat → Int
  | 0 => 0
  | t + 1 => clockE r dr l t + unitE r dr l t
theorem clockE_bd {r dr : Int} (h : 0 ≤ dr) (l : List Int) (t : Nat) : (t : Int) * (r - dr) ≤ clockE r dr l t ∧ clockE r dr l t ≤ (t : Int) * (r + dr) := by
  induction t with
  | zero => simp [clockE]
  | succ t ih =>
    have hu := unitE_bd (r := r) h l t
    have e1 : ((t + 1 : Nat) : Int) * (r - dr) = (t : Int) * (r - dr) + (r - dr) := by
      rw [Int.natCast_add, Int.add_mul]; simp
    have e2 : ((t + 1 : Nat) : Int) * (r + dr) = (t : Int) * (r + dr) + (r + dr) := by
      rw [Int.natCast_add, Int.add_mul]; simp
    rw [e1, e2]
    simp only [clockE]
    omega
theorem clockE_apart {r dr : Int} (h : 0 ≤ dr) (l l' : List Int) (t : Nat) : clockE r dr l' t - clockE r dr l t ≤ 2 * dr * (t : Int) ∧ clockE r dr l t - clockE r dr l' t ≤ 2 * dr * (t : Int) := by
  induction t with
  | zero => simp [clockE]
  | succ t ih =>
    have h1 := unitE_bd (r := r) h l t
    have h2 := unitE_bd (r := r) h l' t
    have e : 2 * dr * ((t + 1 : Nat) : Int) = 2 * dr * (t : Int) + 2 * dr := by
      rw [Int.natCast_add, Int.mul_add]; simp
    rw [e]
    simp only [clockE]
    omega
theorem clockE_later {r dr : Int} (h : 0 ≤ dr) (l : List Int) (t i : Nat) : (i : Int) * (r - dr) ≤ clockE r dr l (t + i) - clockE r dr l t ∧ clockE r dr l (t + i) - clockE r dr l t ≤ (i : Int) * (r + dr) := by
  induction i with
  | zero => simp
  | succ i ih =>
    have hu := unitE_bd (r := r) h l (t + i)
    have e1 : ((i + 1 : Nat) : Int) * (r - dr) = (i : Int) * (r - dr) + (r - dr) := by
      rw [Int.natCast_add, Int.add_mul]; simp
    have e2 : ((i + 1 : Nat) : Int) * (r + dr) = (i : Int) * (r + dr) + (r + dr) := by
      rw [Int.natCast_add, Int.add_mul]; simp
    rw [e1, e2, show t + (i + 1) = (t + i) + 1 from rfl]
    simp only [clockE]
    omega
/-- A quotient, rounded up, is no less than what it comes from. -/
theorem ceil_ge {a b x : Int} (hb : 1 ≤ b) (h : x * b ≤ a) : x ≤ (a + b - 1) / b := by
  rw [Int.le_ediv_iff_mul_le (by omega)]
  omega
/-- THE CLOCKS. T: the first tick at which mine has the middle m. -/
theorem clocks_meet {d p r dr m M G : Int} {mine other : List Int} {T : Nat} (d1 : 1 ≤ d) (r1 : 1 ≤ r) (dr1 : 0 ≤ dr) (dr2 : dr ≤ r - 1) (m0 : 0 ≤ m) (mM : m ≤ M) (hG : G = guardF d r dr M) (hp : M + d * r + G ≤ (p - 1) * (r - dr)) (g0 : r ≤ G)
    (hT : ∀ t, t < T → clockE r dr mine t < m) (hm : m ≤ clockE r dr mine T) (hTp : (T : Int) ≤ p) :
    (T : Int) + d < p ∧ clockE r dr other (T + d.toNat) - m - d * r ≤ G ∧ -G ≤ clockE r dr other (T + d.toNat) - m - d * r := by
  have hd : ((d.toNat : Nat) : Int) = d := by omega
  have hl := clockE_later (r := r) dr1 other T d.toNat
  rw [hd] at hl
  have ed1 : d * (r - dr) = d * r - d * dr := Int.mul_sub _ _ _
  have ed2 : d * (r + dr) = d * r + d * dr := Int.mul_add _ _ _
  have edr : (d + 1) * dr = d * dr + dr := by rw [Int.add_mul]; omega
  have hdd : 0 ≤ d * dr := Int.mul_nonneg (by omega) dr1
  have hdd2 : d * dr ≤ d * r := Int.mul_le_mul_of_nonneg_left (by omega) (by omega)
  -- U: what drift makes, rounded up
  obtain ⟨U, hU⟩ : ∃ U, (2 * dr * M + (r - dr) - 1) / (r - dr) = U := ⟨_, rfl⟩
  have hG' : G = U + r + (d + 1) * dr := by rw [hG]; unfold guardF; rw [hU]
  cases T with
  | zero =>
    simp only [clockE] at hm hl
    have hm' : m = 0 := by omega
    have U0 : 0 ≤ U := by
      rw [← hU]; exact Int.ediv_nonneg (by have := Int.mul_nonneg (show 0 ≤ 2 * dr by omega) (show 0 ≤ M by omega); omega) (by omega)
    refine ⟨?_, by omega, by omega⟩
    have h1 : d * 1 ≤ d * r := Int.mul_le_mul_of_nonneg_left r1 (by omega)
    rcases (by omega : d < p ∨ p ≤ d) with h | h
    · simpa using h
    · exfalso
      have h2 : (p - 1) * (r - dr) ≤ (d - 1) * (r - dr) := Int.mul_le_mul_of_nonneg_right (by omega) (by omega)
      have h3 : (d - 1) * (r - dr) = d * (r - dr) - (r - dr) := by rw [Int.sub_mul]; omega
      omega
  | succ t =>
    have ht := hT t (Nat.lt_succ_self t)
    have b1 := clockE_bd (r := r) dr1 mine t
    have ap := clockE_apart (r := r) dr1 mine other t
    have ap2 := clockE_apart (r := r) dr1 mine other (t + 1)
    have hu := unitE_bd (r := r) dr1 other t
    -- the drift up to tick t is within U
    have hx : 2 * dr * (t : Int) ≤ U := by
      rw [← hU]
      refine ceil_ge (by omega) ?_
      have e : 2 * dr * (t : Int) * (r - dr) = 2 * dr * ((t : Int) * (r - dr)) := Int.mul_assoc _ _ _
      rw [e]
      exact Int.mul_le_mul_of_nonneg_left (by omega) (by omega)
    have e2 : 2 * dr * ((t + 1 : Nat) : Int) = 2 * dr * (t : Int) + 2 * dr := by
      rw [Int.natCast_add, Int.mul_add]; simp
    rw [e2] at ap2
    have eb : clockE r dr other (t + 1) = clockE r dr other t + unitE r dr other t := rfl
    refine ⟨?_, by omega, by omega⟩
    -- ahead of the next pulse
    rcases (by omega : ((t + 1 : Nat) : Int) + d < p ∨ p ≤ ((t + 1 : Nat) : Int) + d) with h | h
    · exact h
    · exfalso
      have h2 : (p - 1) * (r - dr) ≤ ((t : Int) + d) * (r - dr) := Int.mul_le_mul_of_nonneg_right (by omega) (by omega)
      have h3 : ((t : Int) + d) * (r - dr) = (t : Int) * (r - dr) + d * (r - dr) := Int.add_mul _ _ _
      omega
/-- A period is long enough for the middle. -/
theorem clocks_reach {d p r dr m M G : Int} {mine : List Int} (d1 : 1 ≤ d) (r1 : 1 ≤ r) (dr1 : 0 ≤ dr) (dr2 : dr ≤ r - 1) (mM : m ≤ M) (hp : M + d * r + G ≤ (p - 1) * (r - dr)) (g0 : r ≤ G) (T : Nat) (hT : (T : Int) = p) : m ≤ clockE r dr mine T := by
  have b1 := clockE_bd (r := r) dr1 mine T
  rw [hT] at b1
  have e : (p - 1) * (r - dr) = p * (r - dr) - (r - dr) := by rw [Int.sub_mul]; omega
  have h1 : 0 ≤ d * r := Int.mul_nonneg (by omega) (by omega)
  omega
end Go.Proofs.Ytoemloggbljikab
