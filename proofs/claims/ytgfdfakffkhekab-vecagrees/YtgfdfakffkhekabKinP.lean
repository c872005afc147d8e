/- Plain mathematics: with few faulty nodes all others agree in the end of an instance, and keep what they share; no conditions but those in the theorems. -/
import Derived.Test.YtgfdfakffkhekabKinM
namespace Go.Proofs.Ytgfdfakffkhekab
open Go.ChangeShapes Go.WideShapes Go.ChangeAt Go.RowKit
set_option linter.unusedVariables false

section
variable {fa : Nat → Bool} {lies : List Int} {N : Nat} {F : Nat}
/-- How many are faulty. -/
def facL (fa : Nat → Bool) (N : Nat) : Nat := (List.range N).countP fa
/-- A node's value. -/
def vlF (bs : List (Int × Bool)) (a : Nat) : Int := valF (bs.getD a (0, false))
/-- How many honest nodes have a value. -/
def hvL (fa : Nat → Bool) (N : Nat) (bs : List (Int × Bool)) (v : Int) : Nat := (List.range N).countP fun a => !fa a && decide (vlF bs a = v)
theorem countP_or {α : Type} (P R Q : α → Bool) (l : List α) (h : ∀ a ∈ l, Q a = true → P a = true ∨ R a = true) : l.countP Q ≤ l.countP P + l.countP R := by
  induction l with
  | nil => simp
  | cons a l ih =>
    have ih := ih fun b hb => h b (List.mem_cons_of_mem _ hb)
    have ha := h a List.mem_cons_self
    simp only [List.countP_cons]
    cases hQ : Q a <;> cases hP : P a <;> cases hR : R a <;> simp_all <;> omega
theorem cnt_votes (v : Int) (x t : Nat) (bs : List (Int × Bool)) : cntL v (votesL fa lies N x t bs) = (List.range N).countP fun a => decide (sayF fa lies N x t bs a = v) := by
  unfold cntL votesL
  rw [List.countP_map]
  rfl
theorem say_h {x t a : Nat} {bs : List (Int × Bool)} (h : fa a = false) : sayF fa lies N x t bs a = vlF bs a := if_neg (by rw [h]; decide)
theorem votes_lo (v : Int) (x t : Nat) (bs : List (Int × Bool)) : hvL fa N bs v ≤ cntL v (votesL fa lies N x t bs) := by
  rw [cnt_votes]
  apply List.countP_mono_left
  intro a _ h
  simp at h
  rw [say_h h.1]
  simp [h.2]
theorem votes_hi (v : Int) (x t : Nat) (bs : List (Int × Bool)) : cntL v (votesL fa lies N x t bs) ≤ hvL fa N bs v + facL fa N := by
  rw [cnt_votes]
  apply countP_or
  intro a _ h
  cases hf : fa a
  · rw [say_h hf] at h
    left; simpa using h
  · right; rfl
theorem hv_sum (bs : List (Int × Bool)) : hvL fa N bs 0 + hvL fa N bs 1 + hvL fa N bs 2 + facL fa N = N := by
  have key : ∀ l : List Nat, l.countP (fun a => !fa a && decide (vlF bs a = 0)) + l.countP (fun a => !fa a && decide (vlF bs a = 1)) + l.countP (fun a => !fa a && decide (vlF bs a = 2)) + l.countP fa = l.length := by
    intro l
    induction l with
    | nil => rfl
    | cons a l ih =>
      have hb := valF_bd (bs.getD a (0, false))
      have h3 : vlF bs a = 0 ∨ vlF bs a = 1 ∨ vlF bs a = 2 := by unfold vlF; omega
      simp only [List.countP_cons, List.length_cons]
      cases hf : fa a <;> rcases h3 with h | h | h <;> simp [h] <;> omega
  have := key (List.range N)
  rw [List.length_range] at this
  exact this
theorem hv_zero {bs : List (Int × Bool)} {v : Int} (h : ∀ a, a < N → fa a = false → vlF bs a ≠ v) : hvL fa N bs v = 0 := by
  unfold hvL
  rw [List.countP_eq_zero]
  intro a ha
  have := h a (List.mem_range.1 ha)
  cases hf : fa a <;> simp [hf] at this ⊢
  exact this
/-- All honest nodes have a value. -/
def ComV (fa : Nat → Bool) (N : Nat) (v : Int) (bs : List (Int × Bool)) : Prop := ∀ a, a < N → fa a = false → vlF bs a = v
theorem exch_at (x : Nat) (bs : List (Int × Bool)) (a : Nat) (ha : a < N) : (exchL fa lies N F x bs).getD a (0, false) = stepN fa lies N F x bs a := range_getD _ _ _ _ ha
theorem most_bd (n f : Int) (vs : List Int) : 0 ≤ mostF 0 n f vs ∧ mostF 0 n f vs ≤ 2 := by unfold mostF; repeat' split <;> omega
theorem least_bd (f now : Int) (vs : List Int) (h : 0 ≤ now ∧ now ≤ 2) : 0 ≤ leastF 0 f now vs ∧ leastF 0 f now vs ≤ 2 := by unfold leastF; repeat' split <;> omega
theorem ex0 {x : Nat} (hx : x % 3 = 0) (bs : List (Int × Bool)) (a : Nat) (ha : a < N) : vlF (exchL fa lies N F x bs) a = mostF 0 N F (votesL fa lies N x a bs) := by
  unfold vlF
  rw [exch_at x bs a ha]
  unfold stepN
  rw [stepF_0 (by rw [modF3_nat, hx]; rfl)]
  exact valF_same (most_bd _ _ _)
theorem ex1' {x : Nat} (hx : x % 3 = 1) (bs : List (Int × Bool)) (a : Nat) (ha : a < N) : (exchL fa lies N F x bs).getD a (0, false) = (leastF 0 F (vlF bs a) (votesL fa lies N x a bs), enoughB 0 N F (leastF 0 F (vlF bs a) (votesL fa lies N x a bs)) (votesL fa lies N x a bs)) := by
  rw [exch_at x bs a ha]
  unfold stepN
  rw [stepF_1 (by rw [modF3_nat, hx]; rfl)]
  rfl
theorem ex1 {x : Nat} (hx : x % 3 = 1) (bs : List (Int × Bool)) (a : Nat) (ha : a < N) : vlF (exchL fa lies N F x bs) a = leastF 0 F (vlF bs a) (votesL fa lies N x a bs) := by
  show valF _ = _
  rw [ex1' hx bs a ha]
  exact valF_same (least_bd _ _ _ (valF_bd _))
theorem ex2 {x : Nat} (hx : x % 3 = 2) (bs : List (Int × Bool)) (a : Nat) (ha : a < N) : (exchL fa lies N F x bs).getD a (0, false) = obeyF (bs.getD a (0, false)) ((votesL fa lies N x a bs).getD (x / 3) 0) := by
  rw [exch_at x bs a ha]
  unfold stepN
  rw [stepF_2 (by rw [modF3_nat, hx]; rfl)]
theorem com_hv {v : Int} {bs : List (Int × Bool)} (h : ComV fa N v bs) {u : Int} (hu : u ≠ v) : hvL fa N bs u = 0 := hv_zero fun a ha hf e => hu ((e.symm.trans (h a ha hf)))
/-- Exchange 0 keeps what all share. -/
theorem keep0 {v : Int} (hv : v = 0 ∨ v = 1) (hF : facL fa N ≤ F) (hN : 3 * F < N) {x : Nat} (hx : x % 3 = 0) {bs : List (Int × Bool)} (h : ComV fa N v bs) : ComV fa N v (exchL fa lies N F x bs) := by
  intro a ha hf
  rw [ex0 hx bs a ha]
  have s := hv_sum (fa := fa) (N := N) bs
  have l0 := votes_lo (fa := fa) (lies := lies) (N := N) 0 x a bs
  have l1 := votes_lo (fa := fa) (lies := lies) (N := N) 1 x a bs
  have u1 := votes_hi (fa := fa) (lies := lies) (N := N) 1 x a bs
  rcases hv with rfl | rfl
  · have z1 := com_hv h (u := 1) (by decide)
    have z2 := com_hv h (u := 2) (by decide)
    exact mostF_0 rfl (by omega) (by omega)
  · have z1 := com_hv h (u := 0) (by decide)
    have z2 := com_hv h (u := 2) (by decide)
    exact mostF_1 rfl (by omega)
theorem keep1 {v : Int} (hv : v = 0 ∨ v = 1) (hF : facL fa N ≤ F) (hN : 3 * F < N) {x : Nat} (hx : x % 3 = 1) {bs : List (Int × Bool)} (h : ComV fa N v bs) (a : Nat) (ha : a < N) : (exchL fa lies N F x bs).getD a (0, false) = (v, true) := by
  rw [ex1' hx bs a ha]
  have s := hv_sum (fa := fa) (N := N) bs
  have l0 := votes_lo (fa := fa) (lies := lies) (N := N) 0 x a bs
  have l1 := votes_lo (fa := fa) (lies := lies) (N := N) 1 x a bs
  have u0 := votes_hi (fa := fa) (lies := lies) (N := N) 0 x a bs
  rcases hv with rfl | rfl
  · have z1 := com_hv h (u := 1) (by decide)
    have z2 := com_hv h (u := 2) (by decide)
    rw [leastF_0 rfl (by omega)]
    rw [enoughB_ok rfl, cntF_in (by decide) (by decide)]
    exact Prod.ext rfl (decide_eq_true (by omega))
  · have z1 := com_hv h (u := 0) (by decide)
    have z2 := com_hv h (u := 2) (by decide)
    rw [leastF_1 rfl (by omega) (by omega)]
    rw [enoughB_ok rfl, cntF_in (by decide) (by decide)]
    exact Prod.ext rfl (decide_eq_true (by omega))
theorem keep2 {v : Int} (hv : v = 0 ∨ v = 1) {x : Nat} (hx : x % 3 = 2) {bs : List (Int × Bool)} (h : ∀ a, a < N → fa a = false → bs.getD a (0, false) = (v, true)) : ComV fa N v (exchL fa lies N F x bs) := by
  intro a ha hf
  unfold vlF
  rw [ex2 hx bs a ha, h a ha hf]
  have e : valF (v, true) = v := valF_same (by simp; omega)
  rw [obeyF_s (by rw [e]; omega) rfl, e]
  exact valF_same (by simp; omega)
/-- Behind exchange 0 honest nodes have one value, or do not know. -/
theorem ag0 (hF : facL fa N ≤ F) (hN : 3 * F < N) {x : Nat} (hx : x % 3 = 0) (bs : List (Int × Bool)) : ∃ v : Int, (v = 0 ∨ v = 1) ∧ ∀ a, a < N → fa a = false → vlF (exchL fa lies N F x bs) a = v ∨ vlF (exchL fa lies N F x bs) a = 2 := by
  have s := hv_sum (fa := fa) (N := N) bs
  by_cases h : ∃ a, a < N ∧ fa a = false ∧ vlF (exchL fa lies N F x bs) a = 1
  · obtain ⟨b, hb, hfb, h1⟩ := h
    rw [ex0 hx bs b hb] at h1
    have u1 := votes_hi (fa := fa) (lies := lies) (N := N) 1 x b bs
    have q1 : (N : Int) - F ≤ (cntL 1 (votesL fa lies N x b bs) : Int) := by
      by_cases k : (N : Int) - F ≤ (cntL 1 (votesL fa lies N x b bs) : Int)
      · exact k
      · by_cases k2 : (N : Int) - F ≤ (cntL 0 (votesL fa lies N x b bs) : Int)
        · rw [mostF_0 rfl k k2] at h1; cases h1
        · rw [mostF_2 rfl k k2] at h1; cases h1
    refine ⟨1, .inr rfl, fun a ha hf => ?_⟩
    rw [ex0 hx bs a ha]
    have u0 := votes_hi (fa := fa) (lies := lies) (N := N) 0 x a bs
    by_cases k : (N : Int) - F ≤ (cntL 1 (votesL fa lies N x a bs) : Int)
    · exact .inl (mostF_1 rfl k)
    · exact .inr (mostF_2 rfl k (by omega))
  · refine ⟨0, .inl rfl, fun a ha hf => ?_⟩
    have hb := valF_bd ((exchL fa lies N F x bs).getD a (0, false))
    have h1 : vlF (exchL fa lies N F x bs) a ≠ 1 := fun e => h ⟨a, ha, hf, e⟩
    unfold vlF at h1 ⊢
    omega
theorem ag1 {v : Int} (hv : v = 0 ∨ v = 1) (hF : facL fa N ≤ F) (hN : 3 * F < N) {x : Nat} (hx : x % 3 = 1) {bs : List (Int × Bool)} (h : ∀ a, a < N → fa a = false → vlF bs a = v ∨ vlF bs a = 2) :
    (∃ b, b < N ∧ fa b = false ∧ ((exchL fa lies N F x bs).getD b (0, false)).2 = true ∧ vlF (exchL fa lies N F x bs) b ≠ 2) → ComV fa N v (exchL fa lies N F x bs) := by
  have s := hv_sum (fa := fa) (N := N) bs
  rintro ⟨b, hb, hfb, hs, hn2⟩
  rw [ex1 hx bs b hb] at hn2
  rw [ex1' hx bs b hb] at hs
  simp only at hs
  have hbv := h b hb hfb
  have u0 := votes_hi (fa := fa) (lies := lies) (N := N) 0 x b bs
  have u1 := votes_hi (fa := fa) (lies := lies) (N := N) 1 x b bs
  rw [enoughB_ok rfl] at hs
  have hs := of_decide_eq_true hs
  rcases hv with rfl | rfl
  · have z1 : hvL fa N bs 1 = 0 := hv_zero fun a ha hf => by rcases h a ha hf with e | e <;> omega
    have e0 : leastF 0 F (vlF bs b) (votesL fa lies N x b bs) = 0 := by
      by_cases k : (F : Int) + 1 ≤ (cntL 0 (votesL fa lies N x b bs) : Int)
      · exact leastF_0 rfl k
      · by_cases k2 : (F : Int) + 1 ≤ (cntL 2 (votesL fa lies N x b bs) : Int)
        · exact absurd (leastF_2 rfl k (by omega) k2) hn2
        · have e := leastF_n (now := vlF bs b) rfl k (by omega) k2
          rw [e] at hn2 ⊢
          omega
    rw [e0, cntF_in (by decide) (by decide)] at hs
    intro a ha hf
    rw [ex1 hx bs a ha]
    have l0 := votes_lo (fa := fa) (lies := lies) (N := N) 0 x a bs
    exact leastF_0 rfl (by omega)
  · have z1 : hvL fa N bs 0 = 0 := hv_zero fun a ha hf => by rcases h a ha hf with e | e <;> omega
    have e0 : leastF 0 F (vlF bs b) (votesL fa lies N x b bs) = 1 := by
      by_cases k : (F : Int) + 1 ≤ (cntL 1 (votesL fa lies N x b bs) : Int)
      · exact leastF_1 rfl (by omega) k
      · by_cases k2 : (F : Int) + 1 ≤ (cntL 2 (votesL fa lies N x b bs) : Int)
        · exact absurd (leastF_2 rfl (by omega) k k2) hn2
        · have e := leastF_n (now := vlF bs b) rfl (by omega) k k2
          rw [e] at hn2 ⊢
          omega
    rw [e0, cntF_in (by decide) (by decide)] at hs
    intro a ha hf
    rw [ex1 hx bs a ha]
    have l1 := votes_lo (fa := fa) (lies := lies) (N := N) 1 x a bs
    have u0' := votes_hi (fa := fa) (lies := lies) (N := N) 0 x a bs
    exact leastF_1 rfl (by omega) (by omega)
theorem king_vote {x : Nat} (hk : x / 3 < N) (hfk : fa (x / 3) = false) (bs : List (Int × Bool)) (a : Nat) : (votesL fa lies N x a bs).getD (x / 3) 0 = vlF bs (x / 3) := by
  unfold votesL
  rw [range_getD _ _ _ _ hk, say_h hfk]
theorem ag2 {v : Int} (hv : v = 0 ∨ v = 1) {x : Nat} (hx : x % 3 = 2) (hk : x / 3 < N) (hfk : fa (x / 3) = false) {bs : List (Int × Bool)} (hs : (∃ b, b < N ∧ fa b = false ∧ (bs.getD b (0, false)).2 = true ∧ vlF bs b ≠ 2) → ComV fa N v bs) : ∃ u : Int, (u = 0 ∨ u = 1) ∧ ComV fa N u (exchL fa lies N F x bs) := by
  by_cases h : ∃ b, b < N ∧ fa b = false ∧ (bs.getD b (0, false)).2 = true ∧ vlF bs b ≠ 2
  · have hc := hs h
    refine ⟨v, hv, fun a ha hf => ?_⟩
    unfold vlF
    rw [ex2 hx bs a ha, king_vote hk hfk, hc _ hk hfk]
    have e := hc a ha hf
    unfold vlF at e
    by_cases k : valF (bs.getD a (0, false)) ≠ 2 ∧ (bs.getD a (0, false)).2 = true
    · rw [obeyF_s k.1 k.2, e]
      exact valF_same (by simp; omega)
    · rcases hv with rfl | rfl
      · rw [obeyF_0 k (by decide)]; rfl
      · rw [obeyF_1 k (by decide)]; rfl
  · by_cases hq : vlF bs (x / 3) = 1 ∨ vlF bs (x / 3) = 2
    · refine ⟨1, .inr rfl, fun a ha hf => ?_⟩
      unfold vlF
      rw [ex2 hx bs a ha, king_vote hk hfk, obeyF_1 (fun k => h ⟨a, ha, hf, k.2, k.1⟩) hq]
      rfl
    · refine ⟨0, .inl rfl, fun a ha hf => ?_⟩
      unfold vlF
      rw [ex2 hx bs a ha, king_vote hk hfk, obeyF_0 (fun k => h ⟨a, ha, hf, k.2, k.1⟩) hq]
      rfl
variable {bits : List Int}
theorem play_step (x : Nat) : playL fa lies N F bits (x + 1) = exchL fa lies N F x (playL fa lies N F bits x) := rfl
theorem keep_phase {v : Int} (hv : v = 0 ∨ v = 1) (hF : facL fa N ≤ F) (hN : 3 * F < N) (m : Nat) (h : ComV fa N v (playL fa lies N F bits (3 * m))) : ComV fa N v (playL fa lies N F bits (3 * (m + 1))) := by
  rw [show 3 * (m + 1) = 3 * m + 1 + 1 + 1 by omega, play_step, play_step, play_step]
  exact keep2 hv (by omega) fun a ha hf => keep1 hv hF hN (by omega) (keep0 hv hF hN (by omega) h) a ha
theorem agree_phase (hF : facL fa N ≤ F) (hN : 3 * F < N) (m : Nat) (hm : m < N) (hfm : fa m = false) : ∃ u : Int, (u = 0 ∨ u = 1) ∧ ComV fa N u (playL fa lies N F bits (3 * (m + 1))) := by
  rw [show 3 * (m + 1) = 3 * m + 1 + 1 + 1 by omega, play_step, play_step, play_step]
  obtain ⟨v, hv, h0⟩ := ag0 (lies := lies) hF hN (x := 3 * m) (by omega) (playL fa lies N F bits (3 * m))
  have e : (3 * m + 1 + 1) / 3 = m := by omega
  exact ag2 hv (by omega) (by rw [e]; exact hm) (by rw [e]; exact hfm) (ag1 hv hF hN (by omega) h0)
theorem keep_all {v : Int} (hv : v = 0 ∨ v = 1) (hF : facL fa N ≤ F) (hN : 3 * F < N) {m : Nat} (h : ComV fa N v (playL fa lies N F bits (3 * m))) (k : Nat) : ComV fa N v (playL fa lies N F bits (3 * (m + k))) := by
  induction k with
  | zero => exact h
  | succ k ih => exact keep_phase hv hF hN (m + k) ih
theorem one_honest (hF : facL fa N ≤ F) (hN : 3 * F < N) : ∃ m, m ≤ F ∧ fa m = false := by
  by_cases h : ∃ m, m ≤ F ∧ fa m = false
  · exact h
  · exfalso
    have hall : ∀ a ∈ List.range (F + 1), fa a = true := fun a ha => by
      have := List.mem_range.1 ha
      cases e : fa a
      · exact absurd ⟨a, by omega, e⟩ h
      · rfl
    have h1 : (List.range (F + 1)).countP fa = (List.range (F + 1)).length := List.countP_eq_length.2 hall
    rw [List.length_range] at h1
    have h2 : (List.range (F + 1)).countP fa ≤ (List.range N).countP fa := by
      apply List.Sublist.countP_le
      exact List.range_sublist.2 (by omega)
    unfold facL at hF
    omega
/-- All honest nodes agree in the end. -/
theorem agree_all (hF : facL fa N ≤ F) (hN : 3 * F < N) : ∃ u : Int, (u = 0 ∨ u = 1) ∧ ComV fa N u (playL fa lies N F bits (3 * (F + 1))) := by
  obtain ⟨m, hm, hfm⟩ := one_honest hF hN
  obtain ⟨u, hu, h⟩ := agree_phase (lies := lies) (bits := bits) hF hN m (by omega) hfm
  refine ⟨u, hu, ?_⟩
  have := keep_all hu hF hN h (F - m)
  rwa [show m + 1 + (F - m) = F + 1 by omega] at this
/-- What all honest nodes begin with, they have in the end. -/
theorem keep_end {v : Int} (hv : v = 0 ∨ v = 1) (hF : facL fa N ≤ F) (hN : 3 * F < N) (h : ∀ a, a < N → fa a = false → bits.getD a 0 = v) : ComV fa N v (playL fa lies N F bits (3 * (F + 1))) := by
  have h0 : ComV fa N v (playL fa lies N F bits (3 * 0)) := by
    intro a ha hf
    show valF ((startL N bits).getD a (0, false)) = v
    unfold startL
    rw [range_getD _ _ _ _ ha, h a ha hf]
    rcases hv with rfl | rfl <;> rfl
  have := keep_all hv hF hN h0 (F + 1)
  rwa [Nat.zero_add] at this
end
end Go.Proofs.Ytgfdfakffkhekab
