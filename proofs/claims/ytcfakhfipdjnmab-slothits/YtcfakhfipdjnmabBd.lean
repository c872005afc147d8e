/- Several texts of one's own in one: what each proves, and its conditions, is said ahead of it. -/
import Derived.Test.YtcfakhfipdjnmabBc

/- The fixed calls of the statements on package slot come out as they must, and make at most new memory; no conditions. -/
namespace Go.Proofs.Ytcfakhfipdjnmab
open Go.ChangeShapes Go.WideShapes Go.ChangeAt Go.RowKit
set_option linter.unusedVariables false

theorem val_ii {a b c d : Int} (h : a = c) (k : b = d) : Value.tuple #[.int .i64 a, .int .i64 b] = .tuple #[.int .i64 c, .int .i64 d] := by rw [h, k]
theorem val_b {a b : Bool} (h : a = b) : Value.bool a = .bool b := by rw [h]
theorem small22_any (w : World) :
    Calls Try.prog 18 #[] w fun e w' => ∃ g, e = .returned (.agg #[.int .i64 4, .int .i64 1, .int .i64 1, .int .i64 20, .int .i64 64, .int .i64 1, .int .i64 64, .int .i64 190, .int .i64 10, .int .i64 3, .slice (some ⟨g, 0, none⟩) 4 4]) ∧ Tab w' (some ⟨g, 0, none⟩) [0, 1, 2, 3] ∧ Below w.heap.size w w' := by
  go_enter Try.func18, Try.ntmps18
  go_wp2
  refine bodyPost_ret (v := .agg #[.int .i64 4, .int .i64 1, .int .i64 1, .int .i64 20, .int .i64 64, .int .i64 1, .int .i64 64, .int .i64 190, .int .i64 10, .int .i64 3, .slice (some ⟨w.heap.size + 1, 0, none⟩) 4 4]) (by simp [results, Try.results18, go_sem]) rfl ⟨_, rfl, Tab.four _ _ _ (by simp), Joins.below_alloc2 _ _ _⟩
set_option maxHeartbeats 4000000 in
theorem known22_any (w : World) :
    Calls Try.prog 6 #[] w fun e w' => e = .returned (.bool true) ∧ Below w.heap.size w w' := by
  go_enter Try.func6, Try.ntmps6
  go_wp2_with fail
  refine (small22_any _).mono ?_
  rintro e w1 ⟨g, rfl, hT, hb⟩
  have HB1 := hidden hb
  have HT := hidden (hT.below (ballc w1 (.cells #[.int .i64 4, .int .i64 1, .int .i64 1, .int .i64 20, .int .i64 64, .int .i64 1, .int .i64 64, .int .i64 190, .int .i64 10, .int .i64 3, .slice (some ⟨g, 0, none⟩) 4 4] 24)))
  clear hT hb
  go_wp2_with fail
  refine (Calls.ret_to (Window_any 4 1 1 20 64 1 64 190 10 3 (some ⟨g, 0, none⟩) 4 [0, 1, 2, 3] 0 _ (by decide) (by decide) HT.out) (val_ii (c := 133) (d := 313) (by rw [plainE_small]; decide) (by rw [plainE_small]; decide))).mono ?_
  rintro e v0 ⟨rfl, hb⟩
  have HC0 := hidden hb
  clear hb
  obtain ⟨hbox, hsz⟩ := box_at HC0.out
  go_wp2_with fail
  refine (Calls.ret_to (Calls.to_below (Elapsed_any 3 65530 _)) (val_i (b := 9) (by decide))).mono ?_
  rintro e v1 ⟨rfl, hb⟩
  have HC1 := hidden (bthen HC0.out hb)
  clear hbox hsz
  clear hb
  obtain ⟨hbox, hsz⟩ := box_at HC1.out
  go_wp2_with fail
  refine (Calls.ret_to (Now_any 4 1 1 20 64 1 64 190 10 3 (some ⟨g, 0, none⟩) 4 [0, 1, 2, 3] 64 0 _ (by decide) (HT.out.below HC1.out)) (val_i (b := 0) (by rw [plainE_small]; decide))).mono ?_
  rintro e v2 ⟨rfl, hb⟩
  have HC2 := hidden (bthen HC1.out hb)
  clear hbox hsz
  clear hb
  obtain ⟨hbox, hsz⟩ := box_at HC2.out
  go_wp2_with fail
  refine (Calls.ret_to (Nominal_any 4 1 1 20 64 1 64 190 10 3 (some ⟨g, 0, none⟩) 4 [0, 1, 2, 3] 4 _ (by decide) (HT.out.below HC2.out)) (val_i (b := 1) (by rw [plainE_small, nomF_in (by decide), show wrap64 (4 * 64) = 256 from by unfold wrap64; omega]; decide))).mono ?_
  rintro e v3 ⟨rfl, hb⟩
  have HC3 := hidden (bthen HC2.out hb)
  clear hbox hsz
  clear hb
  obtain ⟨hbox, hsz⟩ := box_at HC3.out
  go_wp2_with fail
  refine (Calls.ret_to (Nominal_any 4 1 1 20 64 1 64 190 10 3 (some ⟨g, 0, none⟩) 4 [0, 1, 2, 3] (-1) _ (by decide) (HT.out.below HC3.out)) (val_i (b := -1) (by rw [plainE_small]; decide))).mono ?_
  rintro e v4 ⟨rfl, hb⟩
  have HC4 := hidden (bthen HC3.out hb)
  clear hbox hsz
  clear hb
  obtain ⟨hbox, hsz⟩ := box_at HC4.out
  go_wp2_with fail
  refine (Calls.ret_to (Clear_any 4 1 1 20 64 1 64 190 10 3 (some ⟨g, 0, none⟩) 4 [0, 1, 2, 3] 3 _ (by decide) (HT.out.below HC4.out)) (val_b (b := true) (by rw [plainE_small]; decide))).mono ?_
  rintro e v5 ⟨rfl, hb⟩
  have HC5 := hidden (bthen HC4.out hb)
  clear hbox hsz
  clear hb
  obtain ⟨hbox, hsz⟩ := box_at HC5.out
  go_wp2_with fail
  refine (Calls.ret_to (Clear_any 4 1 1 20 64 1 64 190 10 3 (some ⟨g, 0, none⟩) 4 [0, 1, 2, 3] 1 _ (by decide) (HT.out.below HC5.out)) (val_b (b := false) (by rw [plainE_small]; decide))).mono ?_
  rintro e v6 ⟨rfl, hb⟩
  have HC6 := hidden (bthen HC5.out hb)
  clear hbox hsz
  clear hb
  obtain ⟨hbox, hsz⟩ := box_at HC6.out
  go_wp2_with fail
  refine (Calls.ret_to (Hit_any 4 1 1 20 64 1 64 190 10 3 (some ⟨g, 0, none⟩) 4 [0, 1, 2, 3] 313 _ (by decide) (HT.out.below HC6.out)) (val_i (b := 0) (by rw [plainE_small]; decide))).mono ?_
  rintro e v7 ⟨rfl, hb⟩
  have HC7 := hidden (bthen HC6.out hb)
  clear hbox hsz
  clear hb
  obtain ⟨hbox, hsz⟩ := box_at HC7.out
  go_wp2_with fail
  refine (Calls.ret_to (Hit_any 4 1 1 20 64 1 64 190 10 3 (some ⟨g, 0, none⟩) 4 [0, 1, 2, 3] 314 _ (by decide) (HT.out.below HC7.out)) (val_i (b := -1) (by rw [plainE_small]; decide))).mono ?_
  rintro e v8 ⟨rfl, hb⟩
  have HC8 := hidden (bthen HC7.out hb)
  clear hbox hsz
  clear hb
  obtain ⟨hbox, hsz⟩ := box_at HC8.out
  go_wp2
  go_ret
  exact ⟨rfl, bthen HB1.out (bthen (ballc _ _) HC8.out)⟩
end Go.Proofs.Ytcfakhfipdjnmab

/- Plain words on two clocks that drift: how far they are apart at the first tick at which one of them has a slot's middle, and some ticks later; conditions: what is right. -/
namespace Go.Proofs.Ytcfakhfipdjnmab
open Go.ChangeShapes Go.WideShapes Go.ChangeAt Go.RowKit
set_option linter.unusedVariables false

/-- How many units a clock goes at a tick. -/
def unitE (r dr : Int) (l : List Int) (t : Nat) : Int := if t < l.length then max (r - dr) (min (l.getD t 0) (r + dr)) else r
theorem unitE_bd {r dr : Int} (h : 0 ≤ dr) (l : List Int) (t : Nat) : r - dr ≤ unitE r dr l t ∧ unitE r dr l t ≤ r + dr := by
  unfold unitE
  split <;> omega
/-- Where a clock is after t ticks. -/
def clockE (r dr : Int) (l : List Int) : Nat → Int
  | 0 => 0
  | t + 1 => clockE r dr l t + unitE r dr l t
theorem clockE_bd {r dr : Int} (h : 0 ≤ dr) (l : List Int) (t : Nat) : (t : Int) * (r - dr) ≤ clockE r dr l t ∧ clockE r dr l t ≤ (t : Int) * (r + dr) := by
  induction t with
  | zero => simp [clockE]
  | succ t ih =>
    have hu := unitE_bd (r := r) h l t
    have e1 : ((t + 1 : Nat) : Int) * (r - dr) = (t : Int) * (r - dr) + (r - dr) := by
      rw [Int.natCast_add, Int.add_mul]; simp
    have e2 : ((t + 1 : Nat) : Int) * (r + dr) = (t : Int) * (r + dr) + (r + dr) := by
      rw [Int.natCast_add, Int.add_mul]; simp
    rw [e1, e2]
    simp only [clockE]
    omega
theorem clockE_apart {r dr : Int} (h : 0 ≤ dr) (l l' : List Int) (t : Nat) : clockE r dr l' t - clockE r dr l t ≤ 2 * dr * (t : Int) ∧ clockE r dr l t - clockE r dr l' t ≤ 2 * dr * (t : Int) := by
  induction t with
  | zero => simp [clockE]
  | succ t ih =>
    have h1 := unitE_bd (r := r) h l t
    have h2 := unitE_bd (r := r) h l' t
    have e : 2 * dr * ((t + 1 : Nat) : Int) = 2 * dr * (t : Int) + 2 * dr := by
      rw [Int.natCast_add, Int.mul_add]; simp
    rw [e]
    simp only [clockE]
    omega
theorem clockE_later {r dr : Int} (h : 0 ≤ dr) (l : List Int) (t i : Nat) : (i : Int) * (r - dr) ≤ clockE r dr l (t + i) - clockE r dr l t ∧ clockE r dr l (t + i) - clockE r dr l t ≤ (i : Int) * (r + dr) := by
  induction i with
  | zero => simp
  | succ i ih =>
    have hu := unitE_bd (r := r) h l (t + i)
    have e1 : ((i + 1 : Nat) : Int) * (r - dr) = (i : Int) * (r - dr) + (r - dr) := by
      rw [Int.natCast_add, Int.add_mul]; simp
    have e2 : ((i + 1 : Nat) : Int) * (r + dr) = (i : Int) * (r + dr) + (r + dr) := by
      rw [Int.natCast_add, Int.add_mul]; simp
    rw [e1, e2, show t + (i + 1) = (t + i) + 1 from rfl]
    simp only [clockE]
    omega
/-- A quotient, rounded up, is no less than what it comes from. -/
theorem ceil_ge {a b x : Int} (hb : 1 ≤ b) (h : x * b ≤ a) : x ≤ (a + b - 1) / b := by
  rw [Int.le_ediv_iff_mul_le (by omega)]
  omega
/-- THE CLOCKS. T: the first tick at which mine has the middle m. -/
theorem clocks_meet {d p r dr m M G : Int} {mine other : List Int} {T : Nat} (d1 : 1 ≤ d) (r1 : 1 ≤ r) (dr1 : 0 ≤ dr) (dr2 : dr ≤ r - 1) (m0 : 0 ≤ m) (mM : m ≤ M) (hG : G = guardF d r dr M) (hp : M + d * r + G ≤ (p - 1) * (r - dr)) (g0 : r ≤ G)
    (hT : ∀ t, t < T → clockE r dr mine t < m) (hm : m ≤ clockE r dr mine T) (hTp : (T : Int) ≤ p) :
    (T : Int) + d < p ∧ clockE r dr other (T + d.toNat) - m - d * r ≤ G ∧ -G ≤ clockE r dr other (T + d.toNat) - m - d * r := by
  have hd : ((d.toNat : Nat) : Int) = d := by omega
  have hl := clockE_later (r := r) dr1 other T d.toNat
  rw [hd] at hl
  have ed1 : d * (r - dr) = d * r - d * dr := Int.mul_sub _ _ _
  have ed2 : d * (r + dr) = d * r + d * dr := Int.mul_add _ _ _
  have edr : (d + 1) * dr = d * dr + dr := by rw [Int.add_mul]; omega
  have hdd : 0 ≤ d * dr := Int.mul_nonneg (by omega) dr1
  have hdd2 : d * dr ≤ d * r := Int.mul_le_mul_of_nonneg_left (by omega) (by omega)
  -- U: what drift makes, rounded up
  obtain ⟨U, hU⟩ : ∃ U, (2 * dr * M + (r - dr) - 1) / (r - dr) = U := ⟨_, rfl⟩
  have hG' : G = U + r + (d + 1) * dr := by rw [hG]; unfold guardF; rw [hU]
  cases T with
  | zero =>
    simp only [clockE] at hm hl
    have hm' : m = 0 := by omega
    have U0 : 0 ≤ U := by
      rw [← hU]; exact Int.ediv_nonneg (by have := Int.mul_nonneg (show 0 ≤ 2 * dr by omega) (show 0 ≤ M by omega); omega) (by omega)
    refine ⟨?_, by omega, by omega⟩
    have h1 : d * 1 ≤ d * r := Int.mul_le_mul_of_nonneg_left r1 (by omega)
    rcases (by omega : d < p ∨ p ≤ d) with h | h
    · simpa using h
    · exfalso
      have h2 : (p - 1) * (r - dr) ≤ (d - 1) * (r - dr) := Int.mul_le_mul_of_nonneg_right (by omega) (by omega)
      have h3 : (d - 1) * (r - dr) = d * (r - dr) - (r - dr) := by rw [Int.sub_mul]; omega
      omega
  | succ t =>
    have ht := hT t (Nat.lt_succ_self t)
    have b1 := clockE_bd (r := r) dr1 mine t
    have ap := clockE_apart (r := r) dr1 mine other t
    have ap2 := clockE_apart (r := r) dr1 mine other (t + 1)
    have hu := unitE_bd (r := r) dr1 other t
    -- the drift up to tick t is within U
    have hx : 2 * dr * (t : Int) ≤ U := by
      rw [← hU]
      refine ceil_ge (by omega) ?_
      have e : 2 * dr * (t : Int) * (r - dr) = 2 * dr * ((t : Int) * (r - dr)) := Int.mul_assoc _ _ _
      rw [e]
      exact Int.mul_le_mul_of_nonneg_left (by omega) (by omega)
    have e2 : 2 * dr * ((t + 1 : Nat) : Int) = 2 * dr * (t : Int) + 2 * dr := by
      rw [Int.natCast_add, Int.mul_add]; simp
    rw [e2] at ap2
    have eb : clockE r dr other (t + 1) = clockE r dr other t + unitE r dr other t := rfl
    refine ⟨?_, by omega, by omega⟩
    -- ahead of the next pulse
    rcases (by omega : ((t + 1 : Nat) : Int) + d < p ∨ p ≤ ((t + 1 : Nat) : Int) + d) with h | h
    · exact h
    · exfalso
      have h2 : (p - 1) * (r - dr) ≤ ((t : Int) + d) * (r - dr) := Int.mul_le_mul_of_nonneg_right (by omega) (by omega)
      have h3 : ((t : Int) + d) * (r - dr) = (t : Int) * (r - dr) + d * (r - dr) := Int.add_mul _ _ _
      omega
/-- A period is long enough for the middle. -/
theorem clocks_reach {d p r dr m M G : Int} {mine : List Int} (d1 : 1 ≤ d) (r1 : 1 ≤ r) (dr1 : 0 ≤ dr) (dr2 : dr ≤ r - 1) (mM : m ≤ M) (hp : M + d * r + G ≤ (p - 1) * (r - dr)) (g0 : r ≤ G) (T : Nat) (hT : (T : Int) = p) : m ≤ clockE r dr mine T := by
  have b1 := clockE_bd (r := r) dr1 mine T
  rw [hT] at b1
  have e : (p - 1) * (r - dr) = p * (r - dr) - (r - dr) := by rw [Int.sub_mul]; omega
  have h1 : 0 ≤ d * r := Int.mul_nonneg (by omega) (by omega)
  omega
end Go.Proofs.Ytcfakhfipdjnmab

/- Plain words on clocks that begin anew, clear ticks and windows: at a clear tick all clocks tell the nominal slot, and windows are apart; conditions: what is right. -/
namespace Go.Proofs.Ytcfakhfipdjnmab
open Go.ChangeShapes Go.WideShapes Go.ChangeAt Go.RowKit
set_option linter.unusedVariables false

/-- Where a clock stands after t ticks, on its ring. -/
def ringC (r dr : Int) (ls : List Int) (anchor : Int) (t : Nat) : Int := if t = 0 then anchor else (anchor + clockE r dr ls t) % 65536
theorem ringC_zero (r dr : Int) (ls : List Int) (anchor : Int) : ringC r dr ls anchor 0 = anchor := if_pos rfl
theorem ringC_succ (r dr : Int) (ls : List Int) (anchor : Int) (t : Nat) : ringC r dr ls anchor (t + 1) = (ringC r dr ls anchor t + unitE r dr ls t) % 65536 := by
  unfold ringC
  rw [if_neg (by omega)]
  have e : clockE r dr ls (t + 1) = clockE r dr ls t + unitE r dr ls t := rfl
  rw [e]
  by_cases h : t = 0
  · subst h
    rw [if_pos rfl]
    have e0 : clockE r dr ls 0 = 0 := rfl
    rw [e0]; omega
  · rw [if_neg h]; omega
theorem ringC_diff {r dr : Int} {ls : List Int} {anchor : Int} {t : Nat} (h0 : 0 ≤ clockE r dr ls t) (h1 : clockE r dr ls t < 65536) : (ringC r dr ls anchor t - anchor) % 65536 = clockE r dr ls t := by
  unfold ringC
  by_cases h : t = 0
  · subst h
    rw [if_pos rfl]
    have e0 : clockE r dr ls 0 = 0 := rfl
    rw [e0]; omega
  · rw [if_neg h]; omega
theorem ringC_bd (r dr : Int) (ls : List Int) (anchor : Int) (t : Nat) (ha : -9223372036854775808 ≤ anchor ∧ anchor ≤ 9223372036854775807) : -9223372036854775808 ≤ ringC r dr ls anchor t ∧ ringC r dr ls anchor t ≤ 9223372036854775807 := by
  unfold ringC
  split <;> omega
/-- Clocks within a period are short of half their way round. -/
theorem clock_half {p r dr : Int} (h : 0 ≤ dr) (h1 : 1 ≤ r - dr) (F2 : p * (r + dr) < 32768) (ls : List Int) {t : Nat} (ht : (t : Int) ≤ p) : 0 ≤ clockE r dr ls t ∧ clockE r dr ls t < 32768 := by
  have b := clockE_bd (r := r) h ls t
  have h2 : 0 ≤ (t : Int) * (r - dr) := Int.mul_nonneg (by omega) (by omega)
  have h3 : (t : Int) * (r + dr) ≤ p * (r + dr) := Int.mul_le_mul_of_nonneg_right ht (by omega)
  omega
/-- At a clear tick all tell the nominal slot. -/
theorem clear_same {r dr o sl t e : Int} {m : Nat} (hsl : 1 ≤ sl) (ho : 0 ≤ o) (ht : 0 ≤ t ∧ t ≤ 2000) (hc : clearB 0 r dr o sl m t = true) (h1 : t * (r - dr) ≤ e) (h2 : e ≤ t * (r + dr)) : slotF 0 o sl m e = slotF 0 o sl m (t * r) := by
  rw [clearB_in ht, List.all_eq_true] at hc
  rw [Int.mul_sub] at h1
  rw [Int.mul_add] at h2
  have side : ∀ k : Nat, k ≤ m → (o + (k : Int) * sl ≤ e ↔ o + (k : Int) * sl ≤ t * r) := fun k hk => by
    have h3 := hc k (List.mem_range.2 (by omega))
    rw [farB_iff] at h3
    omega
  have inn : ∀ k : Nat, k < m → ((o + (k : Int) * sl ≤ e ∧ e < o + (k : Int) * sl + sl) ↔ (o + (k : Int) * sl ≤ t * r ∧ t * r < o + (k : Int) * sl + sl)) := fun k hk => by
    have h3 := side k (by omega)
    have h4 := side (k + 1) (by omega)
    rw [← next_begin] at h4
    omega
  by_cases hex : ∃ k : Nat, k < m ∧ o + (k : Int) * sl ≤ t * r ∧ t * r < o + (k : Int) * sl + sl
  · obtain ⟨k, hk, h3, h4⟩ := hex
    obtain ⟨h5, h6⟩ := (inn k hk).2 ⟨h3, h4⟩
    rw [slotF_is hsl ho hk h3 h4, slotF_is hsl ho hk h5 h6]
  · rw [slotF_not hsl (fun k hk c => hex ⟨k, hk, c⟩), slotF_not hsl (fun k hk c => hex ⟨k, hk, (inn k hk).1 c⟩)]
/-- Windows are apart: what lies in one lies in no other. -/
theorem win_only {d r G o sl e : Int} {m k : Nat} (hsl : 1 ≤ sl) (hG : 2 * G < sl) (hk : k < m) (h1 : winLo d r G o sl k ≤ e) (h2 : e ≤ winHi d r G o sl k) : firstF (inWin d r G o sl e) (List.range m) = (k : Int) := by
  refine firstF_range_hit hk (by unfold inWin; rw [decide_eq_true h1, decide_eq_true h2]; rfl) fun j hj => ?_
  have h3 : ((j : Int) + 1) * sl ≤ (k : Int) * sl := Int.mul_le_mul_of_nonneg_right (by omega) (by omega)
  rw [Int.add_mul, Int.one_mul] at h3
  unfold winLo midE at h1
  unfold inWin
  rw [decide_eq_false (by unfold winHi midE; omega : ¬ e ≤ winHi d r G o sl j), Bool.and_false]
theorem mid_endS {o sl b : Int} {zs : List Int} (hb : b < (zs.length : Int)) (sl1 : 1 ≤ sl) : midE o sl b ≤ lastE o sl zs := by
  unfold lastE midE
  have h : b * sl ≤ ((zs.length : Int) - 1) * sl := Int.mul_le_mul_of_nonneg_right (by omega) (by omega)
  omega
end Go.Proofs.Ytcfakhfipdjnmab

/- The call units of the statements on layers 21 and 22 returns how many units a clock goes at a tick, and makes at most new memory; conditions: rate and drift within their limits, the row lies where it says. -/
namespace Go.Proofs.Ytcfakhfipdjnmab
open Go.ChangeShapes Go.WideShapes Go.ChangeAt Go.RowKit
set_option linter.unusedVariables false
attribute [local go_sem] cell_rg

set_option maxHeartbeats 1000000 in
theorem units_any (n f d p r dr o sl md fr : Int) (ad : Option Addr) (cap : Nat) (zs : List Int) (lad : Option Addr) (lcap : Nat) (ls : List Int) (t : Nat) (w : World) (r1 : 1 ≤ r) (r2 : r ≤ 64) (dr1 : 0 ≤ dr) (dr2 : dr ≤ r - 1) (ht : t ≤ 1000) (hll : ls.length ≤ 9223372036854775807) (hT : Tab w lad ls) :
    Calls Try.prog 8 #[.agg #[.int .i64 n, .int .i64 f, .int .i64 d, .int .i64 p, .int .i64 r, .int .i64 dr, .int .i64 o, .int .i64 sl, .int .i64 md, .int .i64 fr, .slice ad zs.length cap], .slice lad ls.length lcap, .int .i64 (t : Int)] w fun e w' => e = .returned (.int .i64 (unitE r dr ls t)) ∧ Below w.heap.size w w' := by
  by_cases hlt : t < ls.length
  · obtain ⟨a, rfl, hc, hal⟩ := (hT.below (ballc w (.cells #[.int .i64 n, .int .i64 f, .int .i64 d, .int .i64 p, .int .i64 r, .int .i64 dr, .int .i64 o, .int .i64 sl, .int .i64 md, .int .i64 fr, .slice ad zs.length cap] 24))).lies t hlt
    have HU : Hid (unitE r dr ls t = max (r - dr) (min (ls.getD t 0) (r + dr))) := if_pos hlt
    generalize ls.getD t 0 = x at hc HU
    have hal1 : (a.add t).block < w.heap.size + 1 := by simpa using hal
    have t1 : IntKind.i64.wrap (r - dr) = r - dr := IntWalk.i64_in _ (by omega)
    have t2 : IntKind.i64.wrap (r + dr) = r + dr := IntWalk.i64_in _ (by omega)
    clear hT
    have hx : r + dr < x ∨ (r - dr < x ∧ x ≤ r + dr) ∨ x ≤ r - dr := by omega
    rcases hx with h1 | ⟨h1, h2⟩ | h1
    case inl => have HV : Hid (unitE r dr ls t = r + dr) := by rw [HU.out]; exact (by omega : max (r - dr) (min x (r + dr)) = r + dr)
                clear HU
                go_enter Try.func8, Try.ntmps8
                go_wp2
                refine wp_region_quiet_below (by kernel_rfl) (by kernel_rfl) ?_
                repeat (go_big_quiet_step (fail))
                refine wpQuiet_nil ?_
                intro w2 hw2
                have HB2 := hidden (bthen (ballc w _) (rg_below hw2))
                clear hw2
                go_wp2
                all_goals
                  go_ret
                  exact ⟨ret_i (by rw [HV.out] <;> omega), HB2.out⟩
    case inr.inl => have HV : Hid (unitE r dr ls t = x) := by rw [HU.out]; exact (by omega : max (r - dr) (min x (r + dr)) = x)
                    clear HU
                    go_enter Try.func8, Try.ntmps8
                    go_wp2
                    refine wp_region_quiet_below (by kernel_rfl) (by kernel_rfl) ?_
                    repeat (go_big_quiet_step (fail))
                    refine wpQuiet_nil ?_
                    intro w2 hw2
                    have HB2 := hidden (bthen (ballc w _) (rg_below hw2))
                    clear hw2
                    go_wp2
                    all_goals
                      go_ret
                      exact ⟨ret_i (by rw [HV.out] <;> omega), HB2.out⟩
    case inr.inr => have HV : Hid (unitE r dr ls t = r - dr) := by rw [HU.out]; exact (by omega : max (r - dr) (min x (r + dr)) = r - dr)
                    clear HU
                    have h3 : x ≤ r + dr := by omega
                    go_enter Try.func8, Try.ntmps8
                    go_wp2
                    refine wp_region_quiet_below (by kernel_rfl) (by kernel_rfl) ?_
                    repeat (go_big_quiet_step (fail))
                    refine wpQuiet_nil ?_
                    intro w2 hw2
                    have HB2 := hidden (bthen (ballc w _) (rg_below hw2))
                    clear hw2
                    go_wp2
                    all_goals
                      go_ret
                      exact ⟨ret_i (by rw [HV.out] <;> omega), HB2.out⟩
  · have HU : Hid (unitE r dr ls t = r) := if_neg hlt
    go_enter Try.func8, Try.ntmps8
    go_wp2
    go_ret
    exact ⟨ret_i HU.out.symm, ballc _ _⟩
end Go.Proofs.Ytcfakhfipdjnmab

/- The document's Plain returns the number of the first rule that a configuration breaks, else 0, and makes at most new memory; conditions: the table lies where it says, and its length fits int. -/
namespace Go.Proofs.Ytcfakhfipdjnmab
open Go.ChangeShapes Go.WideShapes Go.ChangeAt Go.RowKit
set_option linter.unusedVariables false

/-- x is from a to b. -/
def inB (x a b : Int) : Bool := decide (a ≤ x ∧ x ≤ b)
theorem inB_yes {x a b : Int} (h1 : a ≤ x) (h2 : x ≤ b) : inB x a b = true := decide_eq_true ⟨h1, h2⟩
theorem inB_no {x a b : Int} (h : ¬ (a ≤ x ∧ x ≤ b)) : inB x a b = false := decide_eq_false h
theorem within_any (x a b : Int) (w : World) :
    Calls Try.prog 31 #[.int .i64 x, .int .i64 a, .int .i64 b] w fun e w' => e = .returned (.bool (inB x a b)) ∧ w' = w := by
  by_cases h : a ≤ x ∧ x ≤ b
  · exact (within_yes x a b w h.1 h.2).mono fun e w' ⟨he, hw⟩ => ⟨by rw [he]; exact ret_b (inB_yes h.1 h.2).symm, hw⟩
  · exact (within_no x a b w h).mono fun e w' ⟨he, hw⟩ => ⟨by rw [he]; exact ret_b (inB_no h).symm, hw⟩

set_option maxHeartbeats 1000000 in
theorem refPlain_0 (n f d p r dr o sl md fr : Int) (ad : Option Addr) (cap : Nat) (zs : List Int) (w : World)  (c0 : ¬ (4 ≤ n ∧ n ≤ 13)) :
    Calls Try.prog 16 #[.agg #[.int .i64 n, .int .i64 f, .int .i64 d, .int .i64 p, .int .i64 r, .int .i64 dr, .int .i64 o, .int .i64 sl, .int .i64 md, .int .i64 fr, .slice ad zs.length cap]] w fun e w' => e = .returned (.int .i64 (plainE n f d p r dr o sl md fr zs)) ∧ Below w.heap.size w w' := by
  have HP : Hid (plainE n f d p r dr o sl md fr zs = 7) := pl_0 c0
  have i0 : inB n 4 13 = false := inB_no c0
  clear c0
  go_enter Try.func16, Try.ntmps16
  go_wp2_with (go_at_call 31; refine (within_any _ _ _ _).mono ?_; rintro e w2 ⟨rfl, rfl⟩)
  go_ret
  exact ⟨ret_i HP.out.symm, ballc _ _⟩
set_option maxHeartbeats 1000000 in
theorem refPlain_1 (n f d p r dr o sl md fr : Int) (ad : Option Addr) (cap : Nat) (zs : List Int) (w : World) (c0 : 4 ≤ n ∧ n ≤ 13) (c1 : ¬ (0 ≤ f ∧ f ≤ 4)) :
    Calls Try.prog 16 #[.agg #[.int .i64 n, .int .i64 f, .int .i64 d, .int .i64 p, .int .i64 r, .int .i64 dr, .int .i64 o, .int .i64 sl, .int .i64 md, .int .i64 fr, .slice ad zs.length cap]] w fun e w' => e = .returned (.int .i64 (plainE n f d p r dr o sl md fr zs)) ∧ Below w.heap.size w w' := by
  have HP : Hid (plainE n f d p r dr o sl md fr zs = 7) := pl_1 c0 c1
  have i0 : inB n 4 13 = true := inB_yes c0.1 c0.2
  have i1 : inB f 0 4 = false := inB_no c1
  clear c0 c1
  go_enter Try.func16, Try.ntmps16
  go_wp2_with (go_at_call 31; refine (within_any _ _ _ _).mono ?_; rintro e w2 ⟨rfl, rfl⟩)
  go_ret
  exact ⟨ret_i HP.out.symm, ballc _ _⟩
set_option maxHeartbeats 1000000 in
theorem refPlain_2 (n f d p r dr o sl md fr : Int) (ad : Option Addr) (cap : Nat) (zs : List Int) (w : World) (c0 : 4 ≤ n ∧ n ≤ 13) (c1 : 0 ≤ f ∧ f ≤ 4) (c2 : ¬ (3 * f + 1 ≤ n)) :
    Calls Try.prog 16 #[.agg #[.int .i64 n, .int .i64 f, .int .i64 d, .int .i64 p, .int .i64 r, .int .i64 dr, .int .i64 o, .int .i64 sl, .int .i64 md, .int .i64 fr, .slice ad zs.length cap]] w fun e w' => e = .returned (.int .i64 (plainE n f d p r dr o sl md fr zs)) ∧ Below w.heap.size w w' := by
  have HP : Hid (plainE n f d p r dr o sl md fr zs = 7) := pl_2 c0 c1 c2
  have i0 : inB n 4 13 = true := inB_yes c0.1 c0.2
  have i1 : inB f 0 4 = true := inB_yes c1.1 c1.2
  have c2' : n ≤ 3 * f := by omega
  clear c0 c2
  go_enter Try.func16, Try.ntmps16
  go_wp2_with (go_at_call 31; refine (within_any _ _ _ _).mono ?_; rintro e w2 ⟨rfl, rfl⟩)
  go_ret
  exact ⟨ret_i HP.out.symm, ballc _ _⟩
set_option maxHeartbeats 1000000 in
theorem refPlain_3 (n f d p r dr o sl md fr : Int) (ad : Option Addr) (cap : Nat) (zs : List Int) (w : World) (c0 : 4 ≤ n ∧ n ≤ 13) (c1 : 0 ≤ f ∧ f ≤ 4) (c2 : 3 * f + 1 ≤ n) (c3 : ¬ (1 ≤ d ∧ d ≤ 4)) :
    Calls Try.prog 16 #[.agg #[.int .i64 n, .int .i64 f, .int .i64 d, .int .i64 p, .int .i64 r, .int .i64 dr, .int .i64 o, .int .i64 sl, .int .i64 md, .int .i64 fr, .slice ad zs.length cap]] w fun e w' => e = .returned (.int .i64 (plainE n f d p r dr o sl md fr zs)) ∧ Below w.heap.size w w' := by
  have HP : Hid (plainE n f d p r dr o sl md fr zs = 10) := pl_3 c0 c1 c2 c3
  have i0 : inB n 4 13 = true := inB_yes c0.1 c0.2
  have i1 : inB f 0 4 = true := inB_yes c1.1 c1.2
  have i3 : inB d 1 4 = false := inB_no c3
  have c2' : ¬ n ≤ 3 * f := by omega
  clear c0 c2 c3
  go_enter Try.func16, Try.ntmps16
  go_wp2_with (go_at_call 31; refine (within_any _ _ _ _).mono ?_; rintro e w2 ⟨rfl, rfl⟩)
  go_ret
  exact ⟨ret_i HP.out.symm, ballc _ _⟩
set_option maxHeartbeats 1000000 in
theorem refPlain_4 (n f d p r dr o sl md fr : Int) (ad : Option Addr) (cap : Nat) (zs : List Int) (w : World) (c0 : 4 ≤ n ∧ n ≤ 13) (c1 : 0 ≤ f ∧ f ≤ 4) (c2 : 3 * f + 1 ≤ n) (c3 : 1 ≤ d ∧ d ≤ 4) (c4 : ¬ (6 * ((f + 1) * d) + 1 ≤ p ∧ p ≤ 400)) :
    Calls Try.prog 16 #[.agg #[.int .i64 n, .int .i64 f, .int .i64 d, .int .i64 p, .int .i64 r, .int .i64 dr, .int .i64 o, .int .i64 sl, .int .i64 md, .int .i64 fr, .slice ad zs.length cap]] w fun e w' => e = .returned (.int .i64 (plainE n f d p r dr o sl md fr zs)) ∧ Below w.heap.size w w' := by
  have HP : Hid (plainE n f d p r dr o sl md fr zs = 8) := pl_4 c0 c1 c2 c3 c4
  have hm0 : 0 ≤ 6 * (f + 1) * d := Int.mul_nonneg (by omega) (by omega)
  have hm1 : 6 * (f + 1) * d ≤ 30 * 4 := Int.mul_le_mul (by omega) c3.2 (by omega) (by omega)
  have hm2 : 6 * (f + 1) * d = 6 * ((f + 1) * d) := Int.mul_assoc _ _ _
  have i0 : inB n 4 13 = true := inB_yes c0.1 c0.2
  have i1 : inB f 0 4 = true := inB_yes c1.1 c1.2
  have i3 : inB d 1 4 = true := inB_yes c3.1 c3.2
  have i4 : inB p (6 * (f + 1) * d + 1) 400 = false := inB_no (by omega)
  have c2' : ¬ n ≤ 3 * f := by omega
  clear hm2
  clear c0 c2 c4
  go_enter Try.func16, Try.ntmps16
  go_wp2_with (go_at_call 31; refine (within_any _ _ _ _).mono ?_; rintro e w2 ⟨rfl, rfl⟩)
  go_ret
  exact ⟨ret_i HP.out.symm, ballc _ _⟩
set_option maxHeartbeats 1000000 in
theorem refPlain_5 (n f d p r dr o sl md fr : Int) (ad : Option Addr) (cap : Nat) (zs : List Int) (w : World) (c0 : 4 ≤ n ∧ n ≤ 13) (c1 : 0 ≤ f ∧ f ≤ 4) (c2 : 3 * f + 1 ≤ n) (c3 : 1 ≤ d ∧ d ≤ 4) (c4 : 6 * ((f + 1) * d) + 1 ≤ p ∧ p ≤ 400) (c5 : ¬ (1 ≤ r ∧ r ≤ 64)) :
    Calls Try.prog 16 #[.agg #[.int .i64 n, .int .i64 f, .int .i64 d, .int .i64 p, .int .i64 r, .int .i64 dr, .int .i64 o, .int .i64 sl, .int .i64 md, .int .i64 fr, .slice ad zs.length cap]] w fun e w' => e = .returned (.int .i64 (plainE n f d p r dr o sl md fr zs)) ∧ Below w.heap.size w w' := by
  have HP : Hid (plainE n f d p r dr o sl md fr zs = 8) := pl_5 c0 c1 c2 c3 c4 c5
  have hm0 : 0 ≤ 6 * (f + 1) * d := Int.mul_nonneg (by omega) (by omega)
  have hm1 : 6 * (f + 1) * d ≤ 30 * 4 := Int.mul_le_mul (by omega) c3.2 (by omega) (by omega)
  have hm2 : 6 * (f + 1) * d = 6 * ((f + 1) * d) := Int.mul_assoc _ _ _
  have i0 : inB n 4 13 = true := inB_yes c0.1 c0.2
  have i1 : inB f 0 4 = true := inB_yes c1.1 c1.2
  have i3 : inB d 1 4 = true := inB_yes c3.1 c3.2
  have i4 : inB p (6 * (f + 1) * d + 1) 400 = true := inB_yes (by omega) c4.2
  have i5 : inB r 1 64 = false := inB_no c5
  have c2' : ¬ n ≤ 3 * f := by omega
  clear hm2
  clear c0 c2 c4 c5
  go_enter Try.func16, Try.ntmps16
  go_wp2_with (go_at_call 31; refine (within_any _ _ _ _).mono ?_; rintro e w2 ⟨rfl, rfl⟩)
  go_ret
  exact ⟨ret_i HP.out.symm, ballc _ _⟩
set_option maxHeartbeats 1000000 in
theorem refPlain_6 (n f d p r dr o sl md fr : Int) (ad : Option Addr) (cap : Nat) (zs : List Int) (w : World) (c0 : 4 ≤ n ∧ n ≤ 13) (c1 : 0 ≤ f ∧ f ≤ 4) (c2 : 3 * f + 1 ≤ n) (c3 : 1 ≤ d ∧ d ≤ 4) (c4 : 6 * ((f + 1) * d) + 1 ≤ p ∧ p ≤ 400) (c5 : 1 ≤ r ∧ r ≤ 64) (c6 : ¬ (0 ≤ dr ∧ dr ≤ r - 1)) :
    Calls Try.prog 16 #[.agg #[.int .i64 n, .int .i64 f, .int .i64 d, .int .i64 p, .int .i64 r, .int .i64 dr, .int .i64 o, .int .i64 sl, .int .i64 md, .int .i64 fr, .slice ad zs.length cap]] w fun e w' => e = .returned (.int .i64 (plainE n f d p r dr o sl md fr zs)) ∧ Below w.heap.size w w' := by
  have HP : Hid (plainE n f d p r dr o sl md fr zs = 8) := pl_6 c0 c1 c2 c3 c4 c5 c6
  have hm0 : 0 ≤ 6 * (f + 1) * d := Int.mul_nonneg (by omega) (by omega)
  have hm1 : 6 * (f + 1) * d ≤ 30 * 4 := Int.mul_le_mul (by omega) c3.2 (by omega) (by omega)
  have hm2 : 6 * (f + 1) * d = 6 * ((f + 1) * d) := Int.mul_assoc _ _ _
  have i0 : inB n 4 13 = true := inB_yes c0.1 c0.2
  have i1 : inB f 0 4 = true := inB_yes c1.1 c1.2
  have i3 : inB d 1 4 = true := inB_yes c3.1 c3.2
  have i4 : inB p (6 * (f + 1) * d + 1) 400 = true := inB_yes (by omega) c4.2
  have i5 : inB r 1 64 = true := inB_yes c5.1 c5.2
  have i6 : inB dr 0 (r - 1) = false := inB_no c6
  have c2' : ¬ n ≤ 3 * f := by omega
  clear hm2
  clear c0 c2 c4 c6
  go_enter Try.func16, Try.ntmps16
  go_wp2_with (go_at_call 31; refine (within_any _ _ _ _).mono ?_; rintro e w2 ⟨rfl, rfl⟩)
  go_ret
  exact ⟨ret_i HP.out.symm, ballc _ _⟩
set_option maxHeartbeats 1000000 in
theorem refPlain_7 (n f d p r dr o sl md fr : Int) (ad : Option Addr) (cap : Nat) (zs : List Int) (w : World) (c0 : 4 ≤ n ∧ n ≤ 13) (c1 : 0 ≤ f ∧ f ≤ 4) (c2 : 3 * f + 1 ≤ n) (c3 : 1 ≤ d ∧ d ≤ 4) (c4 : 6 * ((f + 1) * d) + 1 ≤ p ∧ p ≤ 400) (c5 : 1 ≤ r ∧ r ≤ 64) (c6 : 0 ≤ dr ∧ dr ≤ r - 1) (c7 : ¬ (0 ≤ o ∧ o ≤ 30000)) :
    Calls Try.prog 16 #[.agg #[.int .i64 n, .int .i64 f, .int .i64 d, .int .i64 p, .int .i64 r, .int .i64 dr, .int .i64 o, .int .i64 sl, .int .i64 md, .int .i64 fr, .slice ad zs.length cap]] w fun e w' => e = .returned (.int .i64 (plainE n f d p r dr o sl md fr zs)) ∧ Below w.heap.size w w' := by
  have HP : Hid (plainE n f d p r dr o sl md fr zs = 8) := pl_7 c0 c1 c2 c3 c4 c5 c6 c7
  have hm0 : 0 ≤ 6 * (f + 1) * d := Int.mul_nonneg (by omega) (by omega)
  have hm1 : 6 * (f + 1) * d ≤ 30 * 4 := Int.mul_le_mul (by omega) c3.2 (by omega) (by omega)
  have hm2 : 6 * (f + 1) * d = 6 * ((f + 1) * d) := Int.mul_assoc _ _ _
  have i0 : inB n 4 13 = true := inB_yes c0.1 c0.2
  have i1 : inB f 0 4 = true := inB_yes c1.1 c1.2
  have i3 : inB d 1 4 = true := inB_yes c3.1 c3.2
  have i4 : inB p (6 * (f + 1) * d + 1) 400 = true := inB_yes (by omega) c4.2
  have i5 : inB r 1 64 = true := inB_yes c5.1 c5.2
  have i6 : inB dr 0 (r - 1) = true := inB_yes c6.1 c6.2
  have i7 : inB o 0 30000 = false := inB_no c7
  have c2' : ¬ n ≤ 3 * f := by omega
  clear hm2
  clear c0 c2 c4 c6 c7
  go_enter Try.func16, Try.ntmps16
  go_wp2_with (go_at_call 31; refine (within_any _ _ _ _).mono ?_; rintro e w2 ⟨rfl, rfl⟩)
  go_ret
  exact ⟨ret_i HP.out.symm, ballc _ _⟩
set_option maxHeartbeats 1000000 in
theorem refPlain_8 (n f d p r dr o sl md fr : Int) (ad : Option Addr) (cap : Nat) (zs : List Int) (w : World) (c0 : 4 ≤ n ∧ n ≤ 13) (c1 : 0 ≤ f ∧ f ≤ 4) (c2 : 3 * f + 1 ≤ n) (c3 : 1 ≤ d ∧ d ≤ 4) (c4 : 6 * ((f + 1) * d) + 1 ≤ p ∧ p ≤ 400) (c5 : 1 ≤ r ∧ r ≤ 64) (c6 : 0 ≤ dr ∧ dr ≤ r - 1) (c7 : 0 ≤ o ∧ o ≤ 30000) (c8 : ¬ (1 ≤ sl ∧ sl ≤ 30000)) :
    Calls Try.prog 16 #[.agg #[.int .i64 n, .int .i64 f, .int .i64 d, .int .i64 p, .int .i64 r, .int .i64 dr, .int .i64 o, .int .i64 sl, .int .i64 md, .int .i64 fr, .slice ad zs.length cap]] w fun e w' => e = .returned (.int .i64 (plainE n f d p r dr o sl md fr zs)) ∧ Below w.heap.size w w' := by
  have HP : Hid (plainE n f d p r dr o sl md fr zs = 8) := pl_8 c0 c1 c2 c3 c4 c5 c6 c7 c8
  have hm0 : 0 ≤ 6 * (f + 1) * d := Int.mul_nonneg (by omega) (by omega)
  have hm1 : 6 * (f + 1) * d ≤ 30 * 4 := Int.mul_le_mul (by omega) c3.2 (by omega) (by omega)
  have hm2 : 6 * (f + 1) * d = 6 * ((f + 1) * d) := Int.mul_assoc _ _ _
  have i0 : inB n 4 13 = true := inB_yes c0.1 c0.2
  have i1 : inB f 0 4 = true := inB_yes c1.1 c1.2
  have i3 : inB d 1 4 = true := inB_yes c3.1 c3.2
  have i4 : inB p (6 * (f + 1) * d + 1) 400 = true := inB_yes (by omega) c4.2
  have i5 : inB r 1 64 = true := inB_yes c5.1 c5.2
  have i6 : inB dr 0 (r - 1) = true := inB_yes c6.1 c6.2
  have i7 : inB o 0 30000 = true := inB_yes c7.1 c7.2
  have i8 : inB sl 1 30000 = false := inB_no c8
  have c2' : ¬ n ≤ 3 * f := by omega
  clear hm2
  clear c0 c2 c4 c6 c7 c8
  go_enter Try.func16, Try.ntmps16
  go_wp2_with (go_at_call 31; refine (within_any _ _ _ _).mono ?_; rintro e w2 ⟨rfl, rfl⟩)
  go_ret
  exact ⟨ret_i HP.out.symm, ballc _ _⟩
set_option maxHeartbeats 1000000 in
theorem refPlain_9 (n f d p r dr o sl md fr : Int) (ad : Option Addr) (cap : Nat) (zs : List Int) (w : World) (c0 : 4 ≤ n ∧ n ≤ 13) (c1 : 0 ≤ f ∧ f ≤ 4) (c2 : 3 * f + 1 ≤ n) (c3 : 1 ≤ d ∧ d ≤ 4) (c4 : 6 * ((f + 1) * d) + 1 ≤ p ∧ p ≤ 400) (c5 : 1 ≤ r ∧ r ≤ 64) (c6 : 0 ≤ dr ∧ dr ≤ r - 1) (c7 : 0 ≤ o ∧ o ≤ 30000) (c8 : 1 ≤ sl ∧ sl ≤ 30000) (c9 : ¬ (2 ≤ md ∧ md ≤ 250)) :
    Calls Try.prog 16 #[.agg #[.int .i64 n, .int .i64 f, .int .i64 d, .int .i64 p, .int .i64 r, .int .i64 dr, .int .i64 o, .int .i64 sl, .int .i64 md, .int .i64 fr, .slice ad zs.length cap]] w fun e w' => e = .returned (.int .i64 (plainE n f d p r dr o sl md fr zs)) ∧ Below w.heap.size w w' := by
  have HP : Hid (plainE n f d p r dr o sl md fr zs = 8) := pl_9 c0 c1 c2 c3 c4 c5 c6 c7 c8 c9
  have hm0 : 0 ≤ 6 * (f + 1) * d := Int.mul_nonneg (by omega) (by omega)
  have hm1 : 6 * (f + 1) * d ≤ 30 * 4 := Int.mul_le_mul (by omega) c3.2 (by omega) (by omega)
  have hm2 : 6 * (f + 1) * d = 6 * ((f + 1) * d) := Int.mul_assoc _ _ _
  have i0 : inB n 4 13 = true := inB_yes c0.1 c0.2
  have i1 : inB f 0 4 = true := inB_yes c1.1 c1.2
  have i3 : inB d 1 4 = true := inB_yes c3.1 c3.2
  have i4 : inB p (6 * (f + 1) * d + 1) 400 = true := inB_yes (by omega) c4.2
  have i5 : inB r 1 64 = true := inB_yes c5.1 c5.2
  have i6 : inB dr 0 (r - 1) = true := inB_yes c6.1 c6.2
  have i7 : inB o 0 30000 = true := inB_yes c7.1 c7.2
  have i8 : inB sl 1 30000 = true := inB_yes c8.1 c8.2
  have i9 : inB md 2 250 = false := inB_no c9
  have c2' : ¬ n ≤ 3 * f := by omega
  clear hm2
  clear c0 c2 c4 c6 c7 c8 c9
  go_enter Try.func16, Try.ntmps16
  go_wp2_with (go_at_call 31; refine (within_any _ _ _ _).mono ?_; rintro e w2 ⟨rfl, rfl⟩)
  go_ret
  exact ⟨ret_i HP.out.symm, ballc _ _⟩
set_option maxHeartbeats 1000000 in
theorem refPlain_10 (n f d p r dr o sl md fr : Int) (ad : Option Addr) (cap : Nat) (zs : List Int) (w : World) (c0 : 4 ≤ n ∧ n ≤ 13) (c1 : 0 ≤ f ∧ f ≤ 4) (c2 : 3 * f + 1 ≤ n) (c3 : 1 ≤ d ∧ d ≤ 4) (c4 : 6 * ((f + 1) * d) + 1 ≤ p ∧ p ≤ 400) (c5 : 1 ≤ r ∧ r ≤ 64) (c6 : 0 ≤ dr ∧ dr ≤ r - 1) (c7 : 0 ≤ o ∧ o ≤ 30000) (c8 : 1 ≤ sl ∧ sl ≤ 30000) (c9 : 2 ≤ md ∧ md ≤ 250) (c10 : ¬ (1 ≤ fr ∧ fr ≤ 100)) :
    Calls Try.prog 16 #[.agg #[.int .i64 n, .int .i64 f, .int .i64 d, .int .i64 p, .int .i64 r, .int .i64 dr, .int .i64 o, .int .i64 sl, .int .i64 md, .int .i64 fr, .slice ad zs.length cap]] w fun e w' => e = .returned (.int .i64 (plainE n f d p r dr o sl md fr zs)) ∧ Below w.heap.size w w' := by
  have HP : Hid (plainE n f d p r dr o sl md fr zs = 8) := pl_10 c0 c1 c2 c3 c4 c5 c6 c7 c8 c9 c10
  have hm0 : 0 ≤ 6 * (f + 1) * d := Int.mul_nonneg (by omega) (by omega)
  have hm1 : 6 * (f + 1) * d ≤ 30 * 4 := Int.mul_le_mul (by omega) c3.2 (by omega) (by omega)
  have hm2 : 6 * (f + 1) * d = 6 * ((f + 1) * d) := Int.mul_assoc _ _ _
  have i0 : inB n 4 13 = true := inB_yes c0.1 c0.2
  have i1 : inB f 0 4 = true := inB_yes c1.1 c1.2
  have i3 : inB d 1 4 = true := inB_yes c3.1 c3.2
  have i4 : inB p (6 * (f + 1) * d + 1) 400 = true := inB_yes (by omega) c4.2
  have i5 : inB r 1 64 = true := inB_yes c5.1 c5.2
  have i6 : inB dr 0 (r - 1) = true := inB_yes c6.1 c6.2
  have i7 : inB o 0 30000 = true := inB_yes c7.1 c7.2
  have i8 : inB sl 1 30000 = true := inB_yes c8.1 c8.2
  have i9 : inB md 2 250 = true := inB_yes c9.1 c9.2
  have i10 : inB fr 1 100 = false := inB_no c10
  have c2' : ¬ n ≤ 3 * f := by omega
  clear hm2
  clear c0 c2 c4 c6 c7 c8 c9 c10
  go_enter Try.func16, Try.ntmps16
  go_wp2_with (go_at_call 31; refine (within_any _ _ _ _).mono ?_; rintro e w2 ⟨rfl, rfl⟩)
  go_ret
  exact ⟨ret_i HP.out.symm, ballc _ _⟩
set_option maxHeartbeats 1000000 in
theorem refPlain_11 (n f d p r dr o sl md fr : Int) (ad : Option Addr) (cap : Nat) (zs : List Int) (w : World) (c0 : 4 ≤ n ∧ n ≤ 13) (c1 : 0 ≤ f ∧ f ≤ 4) (c2 : 3 * f + 1 ≤ n) (c3 : 1 ≤ d ∧ d ≤ 4) (c4 : 6 * ((f + 1) * d) + 1 ≤ p ∧ p ≤ 400) (c5 : 1 ≤ r ∧ r ≤ 64) (c6 : 0 ≤ dr ∧ dr ≤ r - 1) (c7 : 0 ≤ o ∧ o ≤ 30000) (c8 : 1 ≤ sl ∧ sl ≤ 30000) (c9 : 2 ≤ md ∧ md ≤ 250) (c10 : 1 ≤ fr ∧ fr ≤ 100) (c11 : ¬ (1 ≤ (zs.length : Int) ∧ (zs.length : Int) ≤ 32)) :
    Calls Try.prog 16 #[.agg #[.int .i64 n, .int .i64 f, .int .i64 d, .int .i64 p, .int .i64 r, .int .i64 dr, .int .i64 o, .int .i64 sl, .int .i64 md, .int .i64 fr, .slice ad zs.length cap]] w fun e w' => e = .returned (.int .i64 (plainE n f d p r dr o sl md fr zs)) ∧ Below w.heap.size w w' := by
  have HP : Hid (plainE n f d p r dr o sl md fr zs = 11) := pl_11 c0 c1 c2 c3 c4 c5 c6 c7 c8 c9 c10 c11
  have hm0 : 0 ≤ 6 * (f + 1) * d := Int.mul_nonneg (by omega) (by omega)
  have hm1 : 6 * (f + 1) * d ≤ 30 * 4 := Int.mul_le_mul (by omega) c3.2 (by omega) (by omega)
  have hm2 : 6 * (f + 1) * d = 6 * ((f + 1) * d) := Int.mul_assoc _ _ _
  have i0 : inB n 4 13 = true := inB_yes c0.1 c0.2
  have i1 : inB f 0 4 = true := inB_yes c1.1 c1.2
  have i3 : inB d 1 4 = true := inB_yes c3.1 c3.2
  have i4 : inB p (6 * (f + 1) * d + 1) 400 = true := inB_yes (by omega) c4.2
  have i5 : inB r 1 64 = true := inB_yes c5.1 c5.2
  have i6 : inB dr 0 (r - 1) = true := inB_yes c6.1 c6.2
  have i7 : inB o 0 30000 = true := inB_yes c7.1 c7.2
  have i8 : inB sl 1 30000 = true := inB_yes c8.1 c8.2
  have i9 : inB md 2 250 = true := inB_yes c9.1 c9.2
  have i10 : inB fr 1 100 = true := inB_yes c10.1 c10.2
  have i11 : inB zs.length 1 32 = false := inB_no c11
  have c2' : ¬ n ≤ 3 * f := by omega
  clear hm2
  clear c0 c2 c4 c6 c7 c8 c9 c10 c11
  go_enter Try.func16, Try.ntmps16
  go_wp2_with (go_at_call 31; refine (within_any _ _ _ _).mono ?_; rintro e w2 ⟨rfl, rfl⟩)
  go_ret
  exact ⟨ret_i HP.out.symm, ballc _ _⟩
set_option maxHeartbeats 1000000 in
theorem refPlain_12 (n f d p r dr o sl md fr : Int) (ad : Option Addr) (cap : Nat) (zs : List Int) (w : World) (ob : Bool) (hT : Tab w ad zs) (c0 : 4 ≤ n ∧ n ≤ 13) (c1 : 0 ≤ f ∧ f ≤ 4) (c2 : 3 * f + 1 ≤ n) (c3 : 1 ≤ d ∧ d ≤ 4) (c4 : 6 * ((f + 1) * d) + 1 ≤ p ∧ p ≤ 400) (c5 : 1 ≤ r ∧ r ≤ 64) (c6 : 0 ≤ dr ∧ dr ≤ r - 1) (c7 : 0 ≤ o ∧ o ≤ 30000) (c8 : 1 ≤ sl ∧ sl ≤ 30000) (c9 : 2 ≤ md ∧ md ≤ 250) (c10 : 1 ≤ fr ∧ fr ≤ 100) (c11 : 1 ≤ (zs.length : Int) ∧ (zs.length : Int) ≤ 32) (hob : ownsB n zs = ob) :
    Calls Try.prog 16 #[.agg #[.int .i64 n, .int .i64 f, .int .i64 d, .int .i64 p, .int .i64 r, .int .i64 dr, .int .i64 o, .int .i64 sl, .int .i64 md, .int .i64 fr, .slice ad zs.length cap]] w fun e w' => e = .returned (.int .i64 (plainE n f d p r dr o sl md fr zs)) ∧ Below w.heap.size w w' := by
  have HP : Hid (plainE n f d p r dr o sl md fr zs = if ob = true then 0 else 11) := by rw [← hob]; exact pl_12 c0 c1 c2 c3 c4 c5 c6 c7 c8 c9 c10 c11
  have hm0 : 0 ≤ 6 * (f + 1) * d := Int.mul_nonneg (by omega) (by omega)
  have hm1 : 6 * (f + 1) * d ≤ 30 * 4 := Int.mul_le_mul (by omega) c3.2 (by omega) (by omega)
  have hm2 : 6 * (f + 1) * d = 6 * ((f + 1) * d) := Int.mul_assoc _ _ _
  have i0 : inB n 4 13 = true := inB_yes c0.1 c0.2
  have i1 : inB f 0 4 = true := inB_yes c1.1 c1.2
  have i3 : inB d 1 4 = true := inB_yes c3.1 c3.2
  have i4 : inB p (6 * (f + 1) * d + 1) 400 = true := inB_yes (by omega) c4.2
  have i5 : inB r 1 64 = true := inB_yes c5.1 c5.2
  have i6 : inB dr 0 (r - 1) = true := inB_yes c6.1 c6.2
  have i7 : inB o 0 30000 = true := inB_yes c7.1 c7.2
  have i8 : inB sl 1 30000 = true := inB_yes c8.1 c8.2
  have i9 : inB md 2 250 = true := inB_yes c9.1 c9.2
  have i10 : inB fr 1 100 = true := inB_yes c10.1 c10.2
  have i11 : inB zs.length 1 32 = true := inB_yes c11.1 c11.2
  have c2' : ¬ n ≤ 3 * f := by omega
  have HQ : Hid (Calls Try.prog 32 #[.agg #[.int .i64 n, .int .i64 f, .int .i64 d, .int .i64 p, .int .i64 r, .int .i64 dr, .int .i64 o, .int .i64 sl, .int .i64 md, .int .i64 fr, .slice ad zs.length cap]] (w.alloc (.cells #[.int .i64 n, .int .i64 f, .int .i64 d, .int .i64 p, .int .i64 r, .int .i64 dr, .int .i64 o, .int .i64 sl, .int .i64 md, .int .i64 fr, .slice ad zs.length cap] 24)) fun e w' => e = .returned (.bool ob) ∧ Below (w.alloc (.cells #[.int .i64 n, .int .i64 f, .int .i64 d, .int .i64 p, .int .i64 r, .int .i64 dr, .int .i64 o, .int .i64 sl, .int .i64 md, .int .i64 fr, .slice ad zs.length cap] 24)).heap.size (w.alloc (.cells #[.int .i64 n, .int .i64 f, .int .i64 d, .int .i64 p, .int .i64 r, .int .i64 dr, .int .i64 o, .int .i64 sl, .int .i64 md, .int .i64 fr, .slice ad zs.length cap] 24)) w') := by
    rw [← hob]; exact owned_any n f d p r dr o sl md fr ad cap zs _ c0.1 c0.2 (by omega) (hT.below (ballc _ _))
  clear hm2 hT hob c0 c2 c4 c6 c7 c8 c9 c10 c11
  cases ob
  all_goals
    go_enter Try.func16, Try.ntmps16
    go_wp2_with (first | (go_at_call 31; refine (within_any _ _ _ _).mono ?_; rintro e w2 ⟨rfl, rfl⟩) | (go_at_call 32; refine HQ.out.mono ?_; rintro e w2 ⟨rfl, hb2⟩; have HB2 : Hid (Below w.heap.size w w2) := bthen (ballc w _) hb2; clear hb2))
    go_ret
    exact ⟨ret_i (by rw [HP.out]; rfl), HB2.out⟩
theorem refPlain_any (n f d p r dr o sl md fr : Int) (ad : Option Addr) (cap : Nat) (zs : List Int) (w : World) (hl : zs.length ≤ 9223372036854775807) (hT : Tab w ad zs) :
    Calls Try.prog 16 #[.agg #[.int .i64 n, .int .i64 f, .int .i64 d, .int .i64 p, .int .i64 r, .int .i64 dr, .int .i64 o, .int .i64 sl, .int .i64 md, .int .i64 fr, .slice ad zs.length cap]] w fun e w' => e = .returned (.int .i64 (plainE n f d p r dr o sl md fr zs)) ∧ Below w.heap.size w w' := by
  by_cases c0 : 4 ≤ n ∧ n ≤ 13
  case neg => exact refPlain_0 n f d p r dr o sl md fr ad cap zs w c0
  by_cases c1 : 0 ≤ f ∧ f ≤ 4
  case neg => exact refPlain_1 n f d p r dr o sl md fr ad cap zs w c0 c1
  by_cases c2 : 3 * f + 1 ≤ n
  case neg => exact refPlain_2 n f d p r dr o sl md fr ad cap zs w c0 c1 c2
  by_cases c3 : 1 ≤ d ∧ d ≤ 4
  case neg => exact refPlain_3 n f d p r dr o sl md fr ad cap zs w c0 c1 c2 c3
  by_cases c4 : 6 * ((f + 1) * d) + 1 ≤ p ∧ p ≤ 400
  case neg => exact refPlain_4 n f d p r dr o sl md fr ad cap zs w c0 c1 c2 c3 c4
  by_cases c5 : 1 ≤ r ∧ r ≤ 64
  case neg => exact refPlain_5 n f d p r dr o sl md fr ad cap zs w c0 c1 c2 c3 c4 c5
  by_cases c6 : 0 ≤ dr ∧ dr ≤ r - 1
  case neg => exact refPlain_6 n f d p r dr o sl md fr ad cap zs w c0 c1 c2 c3 c4 c5 c6
  by_cases c7 : 0 ≤ o ∧ o ≤ 30000
  case neg => exact refPlain_7 n f d p r dr o sl md fr ad cap zs w c0 c1 c2 c3 c4 c5 c6 c7
  by_cases c8 : 1 ≤ sl ∧ sl ≤ 30000
  case neg => exact refPlain_8 n f d p r dr o sl md fr ad cap zs w c0 c1 c2 c3 c4 c5 c6 c7 c8
  by_cases c9 : 2 ≤ md ∧ md ≤ 250
  case neg => exact refPlain_9 n f d p r dr o sl md fr ad cap zs w c0 c1 c2 c3 c4 c5 c6 c7 c8 c9
  by_cases c10 : 1 ≤ fr ∧ fr ≤ 100
  case neg => exact refPlain_10 n f d p r dr o sl md fr ad cap zs w c0 c1 c2 c3 c4 c5 c6 c7 c8 c9 c10
  by_cases c11 : 1 ≤ (zs.length : Int) ∧ (zs.length : Int) ≤ 32
  case neg => exact refPlain_11 n f d p r dr o sl md fr ad cap zs w c0 c1 c2 c3 c4 c5 c6 c7 c8 c9 c10 c11
  exact refPlain_12 n f d p r dr o sl md fr ad cap zs w _ hT c0 c1 c2 c3 c4 c5 c6 c7 c8 c9 c10 c11 rfl
end Go.Proofs.Ytcfakhfipdjnmab

/- The document's Rounds, Length and Bits return what they say, of what is plain, else 0, and make at most new memory; conditions: the table lies where it says, and its length fits int. -/
namespace Go.Proofs.Ytcfakhfipdjnmab
open Go.ChangeShapes Go.WideShapes Go.ChangeAt Go.RowKit
set_option linter.unusedVariables false

end Go.Proofs.Ytcfakhfipdjnmab

/- The document's Begin, Middle, Guard, Right, Settle and All return what they say, and make at most new memory; conditions: the table lies where it says, and its length fits int. -/
namespace Go.Proofs.Ytcfakhfipdjnmab
open Go.ChangeShapes Go.WideShapes Go.ChangeAt Go.RowKit
set_option linter.unusedVariables false
attribute [local go_sem] cell_rg

set_option maxHeartbeats 1000000 in
theorem RBegin_any (n f d p r dr o sl md fr : Int) (ad : Option Addr) (cap : Nat) (zs : List Int) (s : Int) (w : World) (hl : zs.length ≤ 9223372036854775807) (hT : Tab w ad zs) :
    Calls Try.prog 26 #[.agg #[.int .i64 n, .int .i64 f, .int .i64 d, .int .i64 p, .int .i64 r, .int .i64 dr, .int .i64 o, .int .i64 sl, .int .i64 md, .int .i64 fr, .slice ad zs.length cap], .int .i64 s] w fun e w' => e = .returned (.int .i64 (placeE (plainE n f d p r dr o sl md fr zs) (slotB s zs.length) (o + s * sl))) ∧ Below w.heap.size w w' := by
  have HT := hidden (hT.below (ballc w (.cells #[.int .i64 n, .int .i64 f, .int .i64 d, .int .i64 p, .int .i64 r, .int .i64 dr, .int .i64 o, .int .i64 sl, .int .i64 md, .int .i64 fr, .slice ad zs.length cap] 24)))
  have HP := hidden (refPlain_any n f d p r dr o sl md fr ad cap zs (w.alloc (.cells #[.int .i64 n, .int .i64 f, .int .i64 d, .int .i64 p, .int .i64 r, .int .i64 dr, .int .i64 o, .int .i64 sl, .int .i64 md, .int .i64 fr, .slice ad zs.length cap] 24)) hl HT.out)
  have HK := hidden (fun h => plainE_ok (n := n) (f := f) (d := d) (p := p) (r := r) (dr := dr) (o := o) (sl := sl) (md := md) (fr := fr) (zs := zs) h)
  clear hT
  by_cases hE : plainE n f d p r dr o sl md fr zs = 0
  · obtain ⟨_, _, _, _, _, _, _, _, _, _, _, _, _, o1, o2, sl1, sl2, _, _, _, _, z1, z2, _⟩ := HK.out hE
    clear HK
    rw [hE] at HP ⊢
    clear hE
    by_cases hs : 0 ≤ s ∧ s < (zs.length : Int)
    · have HV : Hid (placeE 0 (slotB s zs.length) (o + s * sl) = o + s * sl) := by rw [slotB_yes hs.1 hs.2]; exact placeE_yes _
      obtain ⟨s1, s2⟩ := hs
      have n1 : ¬ s < 0 := by omega
      have n2 : ¬ (zs.length : Int) ≤ s := by omega
      obtain ⟨m0, m1⟩ := mul_bd s1 (show s ≤ 31 by omega) (show 0 ≤ sl by omega) sl2
      go_enter Try.func26, Try.ntmps26
      go_wp2_with fail
      refine HP.out.mono ?_
      rintro e w2 ⟨rfl, hb2⟩
      have HB2 := hidden hb2
      clear hb2
      obtain ⟨hbox, hsz⟩ := box_at HB2.out
      go_wp2
      go_ret
      exact ⟨ret_i HV.out.symm, bthen (ballc w _) HB2.out⟩
    · have HV : Hid (placeE 0 (slotB s zs.length) (o + s * sl) = 0) := by rw [slotB_no hs]; exact placeE_no _ _
      by_cases s1 : s < 0
      · clear hs
        go_enter Try.func26, Try.ntmps26
        go_wp2_with fail
        refine HP.out.mono ?_
        rintro e w2 ⟨rfl, hb2⟩
        have HB2 := hidden hb2
        clear hb2
        obtain ⟨hbox, hsz⟩ := box_at HB2.out
        go_wp2
        go_ret
        exact ⟨ret_i HV.out.symm, bthen (ballc w _) HB2.out⟩
      · have s2 : (zs.length : Int) ≤ s := by omega
        clear hs
        go_enter Try.func26, Try.ntmps26
        go_wp2_with fail
        refine HP.out.mono ?_
        rintro e w2 ⟨rfl, hb2⟩
        have HB2 := hidden hb2
        clear hb2
        obtain ⟨hbox, hsz⟩ := box_at HB2.out
        go_wp2
        go_ret
        exact ⟨ret_i HV.out.symm, bthen (ballc w _) HB2.out⟩
  · have HV := hidden (placeE_err hE (slotB s zs.length) (o + s * sl))
    generalize plainE n f d p r dr o sl md fr zs = E at *
    go_enter Try.func26, Try.ntmps26
    go_wp2_with fail
    refine HP.out.mono ?_
    rintro e w2 ⟨rfl, hb2⟩
    have HB2 := hidden hb2
    clear hb2
    obtain ⟨hbox, hsz⟩ := box_at HB2.out
    go_wp2
    go_ret
    exact ⟨ret_i HV.out.symm, bthen (ballc w _) HB2.out⟩
set_option maxHeartbeats 1000000 in
theorem RMiddle_any (n f d p r dr o sl md fr : Int) (ad : Option Addr) (cap : Nat) (zs : List Int) (s : Int) (w : World) (hl : zs.length ≤ 9223372036854775807) (hT : Tab w ad zs) :
    Calls Try.prog 13 #[.agg #[.int .i64 n, .int .i64 f, .int .i64 d, .int .i64 p, .int .i64 r, .int .i64 dr, .int .i64 o, .int .i64 sl, .int .i64 md, .int .i64 fr, .slice ad zs.length cap], .int .i64 s] w fun e w' => e = .returned (.int .i64 (placeE (plainE n f d p r dr o sl md fr zs) (slotB s zs.length) (midE o sl s))) ∧ Below w.heap.size w w' := by
  have HT := hidden (hT.below (ballc w (.cells #[.int .i64 n, .int .i64 f, .int .i64 d, .int .i64 p, .int .i64 r, .int .i64 dr, .int .i64 o, .int .i64 sl, .int .i64 md, .int .i64 fr, .slice ad zs.length cap] 24)))
  have HP := hidden (refPlain_any n f d p r dr o sl md fr ad cap zs (w.alloc (.cells #[.int .i64 n, .int .i64 f, .int .i64 d, .int .i64 p, .int .i64 r, .int .i64 dr, .int .i64 o, .int .i64 sl, .int .i64 md, .int .i64 fr, .slice ad zs.length cap] 24)) hl HT.out)
  have HK := hidden (fun h => plainE_ok (n := n) (f := f) (d := d) (p := p) (r := r) (dr := dr) (o := o) (sl := sl) (md := md) (fr := fr) (zs := zs) h)
  clear hT
  by_cases hE : plainE n f d p r dr o sl md fr zs = 0
  · obtain ⟨_, _, _, _, _, _, _, _, _, _, _, _, _, o1, o2, sl1, sl2, _, _, _, _, z1, z2, _⟩ := HK.out hE
    clear HK
    have HI := hidden (fun v h => RBegin_any n f d p r dr o sl md fr ad cap zs s v hl h)
    rw [hE] at HI
    rw [hE] at HP ⊢
    clear hE
    by_cases hs : 0 ≤ s ∧ s < (zs.length : Int)
    · have HV : Hid (placeE 0 (slotB s zs.length) (midE o sl s) = midE o sl s) := by rw [slotB_yes hs.1 hs.2]; exact placeE_yes _
      obtain ⟨s1, s2⟩ := hs
      have n1 : ¬ s < 0 := by omega
      have n2 : ¬ (zs.length : Int) ≤ s := by omega
      obtain ⟨m0, m1⟩ := mul_bd s1 (show s ≤ 31 by omega) (show 0 ≤ sl by omega) sl2
      have t1 : IntKind.i64.wrap (sl.tdiv 2) = sl / 2 := IntWalk.i64_quo sl 2 ⟨by omega, by omega, by omega⟩
      have t2 : IntKind.i64.wrap (o + s * sl + sl / 2) = midE o sl s := by unfold midE; exact IntWalk.i64_in _ (by omega)
      rw [slotB_yes s1 s2, placeE_yes] at HI
      go_enter Try.func13, Try.ntmps13
      go_wp2_with fail
      refine HP.out.mono ?_
      rintro e w2 ⟨rfl, hb2⟩
      have HB2 := hidden hb2
      clear hb2
      obtain ⟨hbox, hsz⟩ := box_at HB2.out
      have HT2 := hidden (HT.out.below HB2.out)
      go_wp2
      refine wp_region_quiet_below (by kernel_rfl) (by kernel_rfl) ?_
      repeat (go_big_quiet_step ((go_at_call 26; exact Calls.regrown_of (HI.out _ (HT2.out.below (below_regrown _ _ _))))))
      refine wpQuiet_nil ?_
      intro w3 hw3
      have HB3 := hidden (bthen HB2.out (rg_below hw3))
      clear hw3
      go_wp2
      go_ret
      exact ⟨ret_i HV.out.symm, bthen (ballc w _) HB3.out⟩
    · have HV : Hid (placeE 0 (slotB s zs.length) (midE o sl s) = 0) := by rw [slotB_no hs]; exact placeE_no _ _
      by_cases s1 : s < 0
      · clear hs
        go_enter Try.func13, Try.ntmps13
        go_wp2_with fail
        refine HP.out.mono ?_
        rintro e w2 ⟨rfl, hb2⟩
        have HB2 := hidden hb2
        clear hb2
        obtain ⟨hbox, hsz⟩ := box_at HB2.out
        go_wp2
        go_ret
        exact ⟨ret_i HV.out.symm, bthen (ballc w _) HB2.out⟩
      · have s2 : (zs.length : Int) ≤ s := by omega
        clear hs
        go_enter Try.func13, Try.ntmps13
        go_wp2_with fail
        refine HP.out.mono ?_
        rintro e w2 ⟨rfl, hb2⟩
        have HB2 := hidden hb2
        clear hb2
        obtain ⟨hbox, hsz⟩ := box_at HB2.out
        go_wp2
        go_ret
        exact ⟨ret_i HV.out.symm, bthen (ballc w _) HB2.out⟩
  · have HV := hidden (placeE_err hE (slotB s zs.length) (midE o sl s))
    generalize plainE n f d p r dr o sl md fr zs = E at *
    go_enter Try.func13, Try.ntmps13
    go_wp2_with fail
    refine HP.out.mono ?_
    rintro e w2 ⟨rfl, hb2⟩
    have HB2 := hidden hb2
    clear hb2
    obtain ⟨hbox, hsz⟩ := box_at HB2.out
    go_wp2
    go_ret
    exact ⟨ret_i HV.out.symm, bthen (ballc w _) HB2.out⟩
end Go.Proofs.Ytcfakhfipdjnmab

/- The document's Settle returns what it says, and makes at most new memory; conditions: the table lies where it says, and its length fits int. -/
namespace Go.Proofs.Ytcfakhfipdjnmab
open Go.ChangeShapes Go.WideShapes Go.ChangeAt Go.RowKit
set_option linter.unusedVariables false
attribute [local go_sem] cell_rg

end Go.Proofs.Ytcfakhfipdjnmab

/- The document's Guard, Settle and All return what they say, and make at most new memory; conditions: the table lies where it says, and its length fits int. -/
namespace Go.Proofs.Ytcfakhfipdjnmab
open Go.ChangeShapes Go.WideShapes Go.ChangeAt Go.RowKit
set_option linter.unusedVariables false
attribute [local go_sem] cell_rg

/-- The last slot's middle, as the document's Middle gives it. -/
theorem RLast_any (n f d p r dr o sl md fr : Int) (ad : Option Addr) (cap : Nat) (zs : List Int) (w : World) (hl : zs.length ≤ 9223372036854775807) (hT : Tab w ad zs) (hE : plainE n f d p r dr o sl md fr zs = 0) :
    Calls Try.prog 13 #[.agg #[.int .i64 n, .int .i64 f, .int .i64 d, .int .i64 p, .int .i64 r, .int .i64 dr, .int .i64 o, .int .i64 sl, .int .i64 md, .int .i64 fr, .slice ad zs.length cap], .int .i64 ((zs.length : Int) - 1)] w fun e w' => e = .returned (.int .i64 (lastE o sl zs)) ∧ Below w.heap.size w w' := by
  obtain ⟨_, _, _, _, _, _, _, _, _, _, _, _, _, o1, o2, sl1, sl2, _, _, _, _, z1, z2, _⟩ := plainE_ok hE
  have h := RMiddle_any n f d p r dr o sl md fr ad cap zs ((zs.length : Int) - 1) w hl hT
  rw [hE, slotB_yes (by omega) (by omega), placeE_yes] at h
  exact h

set_option maxHeartbeats 1000000 in
theorem RGuard_any (n f d p r dr o sl md fr : Int) (ad : Option Addr) (cap : Nat) (zs : List Int) (w : World) (hl : zs.length ≤ 9223372036854775807) (hT : Tab w ad zs) :
    Calls Try.prog 17 #[.agg #[.int .i64 n, .int .i64 f, .int .i64 d, .int .i64 p, .int .i64 r, .int .i64 dr, .int .i64 o, .int .i64 sl, .int .i64 md, .int .i64 fr, .slice ad zs.length cap]] w fun e w' => e = .returned (.int .i64 (gate (plainE n f d p r dr o sl md fr zs) (guardF d r dr (lastE o sl zs)))) ∧ Below w.heap.size w w' := by
  have HT := hidden (hT.below (ballc w (.cells #[.int .i64 n, .int .i64 f, .int .i64 d, .int .i64 p, .int .i64 r, .int .i64 dr, .int .i64 o, .int .i64 sl, .int .i64 md, .int .i64 fr, .slice ad zs.length cap] 24)))
  have HP := hidden (refPlain_any n f d p r dr o sl md fr ad cap zs (w.alloc (.cells #[.int .i64 n, .int .i64 f, .int .i64 d, .int .i64 p, .int .i64 r, .int .i64 dr, .int .i64 o, .int .i64 sl, .int .i64 md, .int .i64 fr, .slice ad zs.length cap] 24)) hl HT.out)
  clear hT
  by_cases hE : plainE n f d p r dr o sl md fr zs = 0
  · obtain ⟨M1, M2⟩ := lastE_bd hE
    obtain ⟨_, _, _, _, _, d1, d2, _, _, r1, r2, dr1, dr2, o1, o2, sl1, sl2, _, _, _, _, z1, z2, _⟩ := plainE_ok hE
    have HL := hidden (fun v h => RLast_any n f d p r dr o sl md fr ad cap zs v hl h hE)
    rw [hE] at HP ⊢
    rw [gate_ok]
    clear hE
    have tz : IntKind.i64.wrap ((zs.length : Int) - 1) = (zs.length : Int) - 1 := IntWalk.i64_in _ (by omega)
    generalize lastE o sl zs = M at HL M1 M2 ⊢
    obtain ⟨a0, a1, c0, c1, b0, b1⟩ := guardF_bd d1 d2 r1 r2 dr1 dr2 M1 M2
    have t1 : IntKind.i64.wrap (2 * dr) = 2 * dr := IntWalk.i64_in _ (by omega)
    have t2 : IntKind.i64.wrap (2 * dr * M) = 2 * dr * M := IntWalk.i64_in _ (by omega)
    go_enter Try.func17, Try.ntmps17
    go_wp2_with fail
    refine HP.out.mono ?_
    rintro e w2 ⟨rfl, hb2⟩
    have HB2 := hidden hb2
    clear hb2
    obtain ⟨hbox, hsz⟩ := box_at HB2.out
    have HT2 := hidden (HT.out.below HB2.out)
    go_wp2
    refine wp_region_quiet_below (by kernel_rfl) (by kernel_rfl) ?_
    repeat (go_big_quiet_step ((go_at_call 13; exact Calls.regrown_of (HL.out _ (HT2.out.below (below_regrown _ _ _))))))
    refine wpQuiet_nil ?_
    intro w3 hw3
    have HB3 := hidden (bthen HB2.out (rg_below hw3))
    clear hw3 hbox hsz t1 t2 tz
    obtain ⟨hbox, hsz⟩ := box_at HB3.out
    have HGD : Hid (guardF d r dr M = (2 * dr * M + (r - dr) - 1) / (r - dr) + r + (d + 1) * dr) := rfl
    generalize 2 * dr * M = A at *
    have HZ := hidden (ceil_zero (a := A) (b := r - dr) (by omega))
    have HM := hidden (ceil_more (a := A) (b := r - dr) (by omega))
    have e0 := Int.emod_nonneg A (show r - dr ≠ 0 by omega)
    have q0 : 0 ≤ A / (r - dr) := Int.ediv_nonneg a0 (by omega)
    have q1 : A / (r - dr) ≤ A := Int.ediv_le_self _ a0
    clear c0 c1
    by_cases hm : 0 < A % (r - dr)
    · have HV : Hid (guardF d r dr M = A / (r - dr) + 1 + r + (d + 1) * dr) := hidden (by rw [HGD.out, HM.out hm])
      clear HGD HZ HM
      go_wp2
      go_ret
      exact ⟨ret_i HV.out.symm, bthen (ballc w _) HB3.out⟩
    · have HV : Hid (guardF d r dr M = A / (r - dr) + r + (d + 1) * dr) := hidden (by rw [HGD.out, HZ.out (by omega)])
      clear HGD HZ HM
      go_wp2
      go_ret
      exact ⟨ret_i HV.out.symm, bthen (ballc w _) HB3.out⟩
  · have HG := hidden (gate_no hE (guardF d r dr (lastE o sl zs)))
    generalize plainE n f d p r dr o sl md fr zs = E at *
    go_enter Try.func17, Try.ntmps17
    go_wp2_with fail
    refine HP.out.mono ?_
    rintro e w2 ⟨rfl, hb2⟩
    have HB2 := hidden hb2
    clear hb2
    obtain ⟨hbox, hsz⟩ := box_at HB2.out
    go_wp2
    go_ret
    exact ⟨ret_i HG.out.symm, bthen (ballc w _) HB2.out⟩
end Go.Proofs.Ytcfakhfipdjnmab
