/- Plain mathematics: with few faulty nodes all others agree in the end of an instance, whatever faulty ones tell (any function), and keep what they share; no conditions but those in the theorems. -/
import Derived.Test.YtgfdfakffkhekabKinP
namespace Go.Proofs.Ytgfdfakffkhekab
open Go.ChangeShapes Go.WideShapes Go.ChangeAt Go.RowKit
set_option linter.unusedVariables false

/-- What a node tells another one, faulty ones whatever they like. -/
def sayG (fa : Nat → Bool) (lie : Nat → Nat → Nat → Int) (x t : Nat) (bs : List (Int × Bool)) (a : Nat) : Int := if fa a = true then lie x a t else valF (bs.getD a (0, false))
def votesG (fa : Nat → Bool) (lie : Nat → Nat → Nat → Int) (N x t : Nat) (bs : List (Int × Bool)) : List Int := (List.range N).map (sayG fa lie x t bs)
def stepG (fa : Nat → Bool) (lie : Nat → Nat → Nat → Int) (N : Nat) (f : Int) (x : Nat) (bs : List (Int × Bool)) (t : Nat) : Int × Bool := stepF 0 N f x (bs.getD t (0, false)) ((votesG fa lie N x t bs).getD (x / 3) 0) (votesG fa lie N x t bs)
def exchG (fa : Nat → Bool) (lie : Nat → Nat → Nat → Int) (N : Nat) (f : Int) (x : Nat) (bs : List (Int × Bool)) : List (Int × Bool) := (List.range N).map (stepG fa lie N f x bs)
def playG (fa : Nat → Bool) (lie : Nat → Nat → Nat → Int) (N : Nat) (f : Int) (bs0 : List (Int × Bool)) : Nat → List (Int × Bool)
  | 0 => bs0
  | x + 1 => exchG fa lie N f x (playG fa lie N f bs0 x)
section
variable {fa : Nat → Bool} {lie : Nat → Nat → Nat → Int} {N : Nat} {F : Nat}
theorem cnt_votesG (v : Int) (x t : Nat) (bs : List (Int × Bool)) : cntL v (votesG fa lie N x t bs) = (List.range N).countP fun a => decide (sayG fa lie x t bs a = v) := by
  unfold cntL votesG
  rw [List.countP_map]
  rfl
theorem say_hG {x t a : Nat} {bs : List (Int × Bool)} (h : fa a = false) : sayG fa lie x t bs a = vlF bs a := if_neg (by rw [h]; decide)
theorem votes_loG (v : Int) (x t : Nat) (bs : List (Int × Bool)) : hvL fa N bs v ≤ cntL v (votesG fa lie N x t bs) := by
  rw [cnt_votesG]
  apply List.countP_mono_left
  intro a _ h
  simp at h
  rw [say_hG h.1]
  simp [h.2]
theorem votes_hiG (v : Int) (x t : Nat) (bs : List (Int × Bool)) : cntL v (votesG fa lie N x t bs) ≤ hvL fa N bs v + facL fa N := by
  rw [cnt_votesG]
  apply countP_or
  intro a _ h
  cases hf : fa a
  · rw [say_hG hf] at h
    left; simpa using h
  · right; rfl
theorem exch_atG (x : Nat) (bs : List (Int × Bool)) (a : Nat) (ha : a < N) : (exchG fa lie N F x bs).getD a (0, false) = stepG fa lie N F x bs a := range_getD _ _ _ _ ha
theorem ex0G {x : Nat} (hx : x % 3 = 0) (bs : List (Int × Bool)) (a : Nat) (ha : a < N) : vlF (exchG fa lie N F x bs) a = mostF 0 N F (votesG fa lie N x a bs) := by
  unfold vlF
  rw [exch_atG x bs a ha]
  unfold stepG
  rw [stepF_0 (by rw [modF3_nat, hx]; rfl)]
  exact valF_same (most_bd _ _ _)
theorem ex1G' {x : Nat} (hx : x % 3 = 1) (bs : List (Int × Bool)) (a : Nat) (ha : a < N) : (exchG fa lie N F x bs).getD a (0, false) = (leastF 0 F (vlF bs a) (votesG fa lie N x a bs), enoughB 0 N F (leastF 0 F (vlF bs a) (votesG fa lie N x a bs)) (votesG fa lie N x a bs)) := by
  rw [exch_atG x bs a ha]
  unfold stepG
  rw [stepF_1 (by rw [modF3_nat, hx]; rfl)]
  rfl
theorem ex1G {x : Nat} (hx : x % 3 = 1) (bs : List (Int × Bool)) (a : Nat) (ha : a < N) : vlF (exchG fa lie N F x bs) a = leastF 0 F (vlF bs a) (votesG fa lie N x a bs) := by
  show valF _ = _
  rw [ex1G' hx bs a ha]
  exact valF_same (least_bd _ _ _ (valF_bd _))
theorem ex2G {x : Nat} (hx : x % 3 = 2) (bs : List (Int × Bool)) (a : Nat) (ha : a < N) : (exchG fa lie N F x bs).getD a (0, false) = obeyF (bs.getD a (0, false)) ((votesG fa lie N x a bs).getD (x / 3) 0) := by
  rw [exch_atG x bs a ha]
  unfold stepG
  rw [stepF_2 (by rw [modF3_nat, hx]; rfl)]
/-- Exchange 0 keeps what all share. -/
theorem keep0G {v : Int} (hv : v = 0 ∨ v = 1) (hF : facL fa N ≤ F) (hN : 3 * F < N) {x : Nat} (hx : x % 3 = 0) {bs : List (Int × Bool)} (h : ComV fa N v bs) : ComV fa N v (exchG fa lie N F x bs) := by
  intro a ha hf
  rw [ex0G hx bs a ha]
  have s := hv_sum (fa := fa) (N := N) bs
  have l0 := votes_loG (fa := fa) (lie := lie) (N := N) 0 x a bs
  have l1 := votes_loG (fa := fa) (lie := lie) (N := N) 1 x a bs
  have u1 := votes_hiG (fa := fa) (lie := lie) (N := N) 1 x a bs
  rcases hv with rfl | rfl
  · have z1 := com_hv h (u := 1) (by decide)
    have z2 := com_hv h (u := 2) (by decide)
    exact mostF_0 rfl (by omega) (by omega)
  · have z1 := com_hv h (u := 0) (by decide)
    have z2 := com_hv h (u := 2) (by decide)
    exact mostF_1 rfl (by omega)
theorem keep1G {v : Int} (hv : v = 0 ∨ v = 1) (hF : facL fa N ≤ F) (hN : 3 * F < N) {x : Nat} (hx : x % 3 = 1) {bs : List (Int × Bool)} (h : ComV fa N v bs) (a : Nat) (ha : a < N) : (exchG fa lie N F x bs).getD a (0, false) = (v, true) := by
  rw [ex1G' hx bs a ha]
  have s := hv_sum (fa := fa) (N := N) bs
  have l0 := votes_loG (fa := fa) (lie := lie) (N := N) 0 x a bs
  have l1 := votes_loG (fa := fa) (lie := lie) (N := N) 1 x a bs
  have u0 := votes_hiG (fa := fa) (lie := lie) (N := N) 0 x a bs
  rcases hv with rfl | rfl
  · have z1 := com_hv h (u := 1) (by decide)
    have z2 := com_hv h (u := 2) (by decide)
    rw [leastF_0 rfl (by omega)]
    rw [enoughB_ok rfl, cntF_in (by decide) (by decide)]
    exact Prod.ext rfl (decide_eq_true (by omega))
  · have z1 := com_hv h (u := 0) (by decide)
    have z2 := com_hv h (u := 2) (by decide)
    rw [leastF_1 rfl (by omega) (by omega)]
    rw [enoughB_ok rfl, cntF_in (by decide) (by decide)]
    exact Prod.ext rfl (decide_eq_true (by omega))
theorem keep2G {v : Int} (hv : v = 0 ∨ v = 1) {x : Nat} (hx : x % 3 = 2) {bs : List (Int × Bool)} (h : ∀ a, a < N → fa a = false → bs.getD a (0, false) = (v, true)) : ComV fa N v (exchG fa lie N F x bs) := by
  intro a ha hf
  unfold vlF
  rw [ex2G hx bs a ha, h a ha hf]
  have e : valF (v, true) = v := valF_same (by simp; omega)
  rw [obeyF_s (by rw [e]; omega) rfl, e]
  exact valF_same (by simp; omega)
/-- Behind exchange 0 honest nodes have one value, or do not know. -/
theorem ag0G (hF : facL fa N ≤ F) (hN : 3 * F < N) {x : Nat} (hx : x % 3 = 0) (bs : List (Int × Bool)) : ∃ v : Int, (v = 0 ∨ v = 1) ∧ ∀ a, a < N → fa a = false → vlF (exchG fa lie N F x bs) a = v ∨ vlF (exchG fa lie N F x bs) a = 2 := by
  have s := hv_sum (fa := fa) (N := N) bs
  by_cases h : ∃ a, a < N ∧ fa a = false ∧ vlF (exchG fa lie N F x bs) a = 1
  · obtain ⟨b, hb, hfb, h1⟩ := h
    rw [ex0G hx bs b hb] at h1
    have u1 := votes_hiG (fa := fa) (lie := lie) (N := N) 1 x b bs
    have q1 : (N : Int) - F ≤ (cntL 1 (votesG fa lie N x b bs) : Int) := by
      by_cases k : (N : Int) - F ≤ (cntL 1 (votesG fa lie N x b bs) : Int)
      · exact k
      · by_cases k2 : (N : Int) - F ≤ (cntL 0 (votesG fa lie N x b bs) : Int)
        · rw [mostF_0 rfl k k2] at h1; cases h1
        · rw [mostF_2 rfl k k2] at h1; cases h1
    refine ⟨1, .inr rfl, fun a ha hf => ?_⟩
    rw [ex0G hx bs a ha]
    have u0 := votes_hiG (fa := fa) (lie := lie) (N := N) 0 x a bs
    by_cases k : (N : Int) - F ≤ (cntL 1 (votesG fa lie N x a bs) : Int)
    · exact .inl (mostF_1 rfl k)
    · exact .inr (mostF_2 rfl k (by omega))
  · refine ⟨0, .inl rfl, fun a ha hf => ?_⟩
    have hb := valF_bd ((exchG fa lie N F x bs).getD a (0, false))
    have h1 : vlF (exchG fa lie N F x bs) a ≠ 1 := fun e => h ⟨a, ha, hf, e⟩
    unfold vlF at h1 ⊢
    omega
theorem ag1G {v : Int} (hv : v = 0 ∨ v = 1) (hF : facL fa N ≤ F) (hN : 3 * F < N) {x : Nat} (hx : x % 3 = 1) {bs : List (Int × Bool)} (h : ∀ a, a < N → fa a = false → vlF bs a = v ∨ vlF bs a = 2) :
    (∃ b, b < N ∧ fa b = false ∧ ((exchG fa lie N F x bs).getD b (0, false)).2 = true ∧ vlF (exchG fa lie N F x bs) b ≠ 2) → ComV fa N v (exchG fa lie N F x bs) := by
  have s := hv_sum (fa := fa) (N := N) bs
  rintro ⟨b, hb, hfb, hs, hn2⟩
  rw [ex1G hx bs b hb] at hn2
  rw [ex1G' hx bs b hb] at hs
  simp only at hs
  have hbv := h b hb hfb
  have u0 := votes_hiG (fa := fa) (lie := lie) (N := N) 0 x b bs
  have u1 := votes_hiG (fa := fa) (lie := lie) (N := N) 1 x b bs
  rw [enoughB_ok rfl] at hs
  have hs := of_decide_eq_true hs
  rcases hv with rfl | rfl
  · have z1 : hvL fa N bs 1 = 0 := hv_zero fun a ha hf => by rcases h a ha hf with e | e <;> omega
    have e0 : leastF 0 F (vlF bs b) (votesG fa lie N x b bs) = 0 := by
      by_cases k : (F : Int) + 1 ≤ (cntL 0 (votesG fa lie N x b bs) : Int)
      · exact leastF_0 rfl k
      · by_cases k2 : (F : Int) + 1 ≤ (cntL 2 (votesG fa lie N x b bs) : Int)
        · exact absurd (leastF_2 rfl k (by omega) k2) hn2
        · have e := leastF_n (now := vlF bs b) rfl k (by omega) k2
          rw [e] at hn2 ⊢
          omega
    rw [e0, cntF_in (by decide) (by decide)] at hs
    intro a ha hf
    rw [ex1G hx bs a ha]
    have l0 := votes_loG (fa := fa) (lie := lie) (N := N) 0 x a bs
    exact leastF_0 rfl (by omega)
  · have z1 : hvL fa N bs 0 = 0 := hv_zero fun a ha hf => by rcases h a ha hf with e | e <;> omega
    have e0 : leastF 0 F (vlF bs b) (votesG fa lie N x b bs) = 1 := by
      by_cases k : (F : Int) + 1 ≤ (cntL 1 (votesG fa lie N x b bs) : Int)
      · exact leastF_1 rfl (by omega) k
      · by_cases k2 : (F : Int) + 1 ≤ (cntL 2 (votesG fa lie N x b bs) : Int)
        · exact absurd (leastF_2 rfl (by omega) k k2) hn2
        · have e := leastF_n (now := vlF bs b) rfl (by omega) k k2
          rw [e] at hn2 ⊢
          omega
    rw [e0, cntF_in (by decide) (by decide)] at hs
    intro a ha hf
    rw [ex1G hx bs a ha]
    have l1 := votes_loG (fa := fa) (lie := lie) (N := N) 1 x a bs
    have u0' := votes_hiG (fa := fa) (lie := lie) (N := N) 0 x a bs
    exact leastF_1 rfl (by omega) (by omega)
theorem king_voteG {x : Nat} (hk : x / 3 < N) (hfk : fa (x / 3) = false) (bs : List (Int × Bool)) (a : Nat) : (votesG fa lie N x a bs).getD (x / 3) 0 = vlF bs (x / 3) := by
  unfold votesG
  rw [range_getD _ _ _ _ hk, say_hG hfk]
theorem ag2G {v : Int} (hv : v = 0 ∨ v = 1) {x : Nat} (hx : x % 3 = 2) (hk : x / 3 < N) (hfk : fa (x / 3) = false) {bs : List (Int × Bool)} (hs : (∃ b, b < N ∧ fa b = false ∧ (bs.getD b (0, false)).2 = true ∧ vlF bs b ≠ 2) → ComV fa N v bs) : ∃ u : Int, (u = 0 ∨ u = 1) ∧ ComV fa N u (exchG fa lie N F x bs) := by
  by_cases h : ∃ b, b < N ∧ fa b = false ∧ (bs.getD b (0, false)).2 = true ∧ vlF bs b ≠ 2
  · have hc := hs h
    refine ⟨v, hv, fun a ha hf => ?_⟩
    unfold vlF
    rw [ex2G hx bs a ha, king_voteG hk hfk, hc _ hk hfk]
    have e := hc a ha hf
    unfold vlF at e
    by_cases k : valF (bs.getD a (0, false)) ≠ 2 ∧ (bs.getD a (0, false)).2 = true
    · rw [obeyF_s k.1 k.2, e]
      exact valF_same (by simp; omega)
    · rcases hv with rfl | rfl
      · rw [obeyF_0 k (by decide)]; rfl
      · rw [obeyF_1 k (by decide)]; rfl
  · by_cases hq : vlF bs (x / 3) = 1 ∨ vlF bs (x / 3) = 2
    · refine ⟨1, .inr rfl, fun a ha hf => ?_⟩
      unfold vlF
      rw [ex2G hx bs a ha, king_voteG hk hfk, obeyF_1 (fun k => h ⟨a, ha, hf, k.2, k.1⟩) hq]
      rfl
    · refine ⟨0, .inl rfl, fun a ha hf => ?_⟩
      unfold vlF
      rw [ex2G hx bs a ha, king_voteG hk hfk, obeyF_0 (fun k => h ⟨a, ha, hf, k.2, k.1⟩) hq]
      rfl
variable {bs0 : List (Int × Bool)}
theorem play_stepG (x : Nat) : playG fa lie N F bs0 (x + 1) = exchG fa lie N F x (playG fa lie N F bs0 x) := rfl
theorem keep_phaseG {v : Int} (hv : v = 0 ∨ v = 1) (hF : facL fa N ≤ F) (hN : 3 * F < N) (m : Nat) (h : ComV fa N v (playG fa lie N F bs0 (3 * m))) : ComV fa N v (playG fa lie N F bs0 (3 * (m + 1))) := by
  rw [show 3 * (m + 1) = 3 * m + 1 + 1 + 1 by omega, play_stepG, play_stepG, play_stepG]
  exact keep2G hv (by omega) fun a ha hf => keep1G hv hF hN (by omega) (keep0G hv hF hN (by omega) h) a ha
theorem agree_phaseG (hF : facL fa N ≤ F) (hN : 3 * F < N) (m : Nat) (hm : m < N) (hfm : fa m = false) : ∃ u : Int, (u = 0 ∨ u = 1) ∧ ComV fa N u (playG fa lie N F bs0 (3 * (m + 1))) := by
  rw [show 3 * (m + 1) = 3 * m + 1 + 1 + 1 by omega, play_stepG, play_stepG, play_stepG]
  obtain ⟨v, hv, h0⟩ := ag0G (lie := lie) hF hN (x := 3 * m) (by omega) (playG fa lie N F bs0 (3 * m))
  have e : (3 * m + 1 + 1) / 3 = m := by omega
  exact ag2G hv (by omega) (by rw [e]; exact hm) (by rw [e]; exact hfm) (ag1G hv hF hN (by omega) h0)
theorem keep_allG {v : Int} (hv : v = 0 ∨ v = 1) (hF : facL fa N ≤ F) (hN : 3 * F < N) {m : Nat} (h : ComV fa N v (playG fa lie N F bs0 (3 * m))) (k : Nat) : ComV fa N v (playG fa lie N F bs0 (3 * (m + k))) := by
  induction k with
  | zero => exact h
  | succ k ih => exact keep_phaseG hv hF hN (m + k) ih
theorem one_honestG (hF : facL fa N ≤ F) (hN : 3 * F < N) : ∃ m, m ≤ F ∧ fa m = false := by
  by_cases h : ∃ m, m ≤ F ∧ fa m = false
  · exact h
  · exfalso
    have hall : ∀ a ∈ List.range (F + 1), fa a = true := fun a ha => by
      have := List.mem_range.1 ha
      cases e : fa a
      · exact absurd ⟨a, by omega, e⟩ h
      · rfl
    have h1 : (List.range (F + 1)).countP fa = (List.range (F + 1)).length := List.countP_eq_length.2 hall
    rw [List.length_range] at h1
    have h2 : (List.range (F + 1)).countP fa ≤ (List.range N).countP fa := by
      apply List.Sublist.countP_le
      exact List.range_sublist.2 (by omega)
    unfold facL at hF
    omega
/-- All honest nodes agree in the end. -/
theorem agree_allG (hF : facL fa N ≤ F) (hN : 3 * F < N) : ∃ u : Int, (u = 0 ∨ u = 1) ∧ ComV fa N u (playG fa lie N F bs0 (3 * (F + 1))) := by
  obtain ⟨m, hm, hfm⟩ := one_honestG hF hN
  obtain ⟨u, hu, h⟩ := agree_phaseG (lie := lie) (bs0 := bs0) hF hN m (by omega) hfm
  refine ⟨u, hu, ?_⟩
  have := keep_allG hu hF hN h (F - m)
  rwa [show m + 1 + (F - m) = F + 1 by omega] at this
/-- What all honest nodes begin with, they have in the end. -/
theorem keep_endG {v : Int} (hv : v = 0 ∨ v = 1) (hF : facL fa N ≤ F) (hN : 3 * F < N) (h : ComV fa N v bs0) : ComV fa N v (playG fa lie N F bs0 (3 * (F + 1))) := by
  have := keep_allG (lie := lie) (bs0 := bs0) hv hF hN (m := 0) h (F + 1)
  rwa [Nat.zero_add] at this
end
end Go.Proofs.Ytgfdfakffkhekab
