/- Plain mathematics of frames that wait: what is held behind a frame that comes, what is for this tick and what is left, how many are held; no Go text in sight. -/
import Derived.Test.YtohgmliafidalaaBase
namespace Go.Proofs.Ytohgmliafidalaa
set_option linter.unusedVariables false

/-- A text without a byte. -/
def noB : ByteArray := ⟨#[]⟩
def emt (s : ByteArray) : Bool := s.toList.isEmpty
theorem emt_noB : emt noB = true := by
  unfold emt
  rw [ByteArray.toList_eq]
  rfl
theorem emt_eq {s : ByteArray} (h : emt s = true) : s = noB := by
  unfold emt at h
  rw [ByteArray.toList_eq] at h
  have h2 : s.data.toList = [] := List.isEmpty_iff.1 h
  apply ByteArray.ext
  apply Array.toList_inj.1
  exact h2
/-- What is for this tick, and what is left. -/
def takeN (N D : Nat) (hs : List ByteArray) : List ByteArray := (List.range N).map fun i => hs.getD (i * D) noB
def takeR (n D : Nat) (hs : List ByteArray) : List ByteArray := (List.range n).map fun j => if (j + 1) % D = 0 then noB else hs.getD (j + 1) noB
/-- How many of a node's first places have something. -/
def heldK (D : Nat) (hs : List ByteArray) (i k : Nat) : Nat := ((List.range k).filter fun k => !emt (hs.getD (i * D + k) noB)).length
theorem takeN_length (N D : Nat) (hs : List ByteArray) : (takeN N D hs).length = N := by simp [takeN]
theorem takeR_length (n D : Nat) (hs : List ByteArray) : (takeR n D hs).length = n := by simp [takeR]
theorem takeN_at (N D : Nat) (hs : List ByteArray) (i : Nat) (hi : i < N) : (takeN N D hs).getD i noB = hs.getD (i * D) noB := by
  rw [List.getD_eq_getElem?_getD, takeN, List.getElem?_map, List.getElem?_range hi]; rfl
theorem takeR_at (n D : Nat) (hs : List ByteArray) (j : Nat) (hj : j < n) : (takeR n D hs).getD j noB = if (j + 1) % D = 0 then noB else hs.getD (j + 1) noB := by
  rw [List.getD_eq_getElem?_getD, takeR, List.getElem?_map, List.getElem?_range hj]; rfl
theorem getD_set (hs : List ByteArray) (p j : Nat) (b : ByteArray) (hp : p < hs.length) : (hs.set p b).getD j noB = if j = p then b else hs.getD j noB := by
  rw [List.getD_eq_getElem?_getD, List.getD_eq_getElem?_getD, List.getElem?_set]
  by_cases h : p = j
  · rw [if_pos h, if_pos hp, if_pos h.symm]; rfl
  · rw [if_neg h, if_neg (fun k => h k.symm)]
theorem list_ext (a b : List ByteArray) (hl : a.length = b.length) (h : ∀ j, j < a.length → a.getD j noB = b.getD j noB) : a = b := by
  apply List.ext_getElem hl
  intro i h1 h2
  have := h i h1
  rwa [List.getD_eq_getElem?_getD, List.getD_eq_getElem?_getD, List.getElem?_eq_getElem h1, List.getElem?_eq_getElem h2] at this
theorem mul_lt_place {N D f k : Nat} (hf : f < N) (hk : k < D) : f * D + k < N * D := by
  have h1 : (f + 1) * D ≤ N * D := Nat.mul_le_mul_right D hf
  rw [Nat.add_mul] at h1
  omega
theorem place_mod (D f k : Nat) (hk : k < D) : (f * D + k) % D = k := by rw [Nat.add_comm, Nat.add_mul_mod_self_right, Nat.mod_eq_of_lt hk]
/-- A frame that is set behind a node's first place is not taken now. -/
theorem takeN_set {N D f k : Nat} (hs : List ByteArray) (b : ByteArray) (hl : hs.length = N * D) (hf : f < N) (hk : k < D) (i : Nat) (hi : i < N) :
    (takeN N D (hs.set (f * D + k) b)).getD i noB = if i = f ∧ k = 0 then b else (takeN N D hs).getD i noB := by
  have hp : f * D + k < hs.length := by rw [hl]; exact mul_lt_place hf hk
  rw [takeN_at _ _ _ _ hi, takeN_at _ _ _ _ hi, getD_set _ _ _ _ hp]
  by_cases h : i * D = f * D + k
  · have h1 : (i * D) % D = 0 := Nat.mul_mod_left i D
    rw [h, place_mod D f k hk] at h1
    have h2 : i = f := by
      rw [h1, Nat.add_zero] at h
      exact Nat.eq_of_mul_eq_mul_right (by omega) h
    rw [if_pos h, if_pos ⟨h2, h1⟩]
  · rw [if_neg h, if_neg]
    rintro ⟨rfl, rfl⟩
    exact h (Nat.add_zero _).symm
theorem takeR_set {N D f k : Nat} (hs : List ByteArray) (b : ByteArray) (hl : hs.length = N * D) (hf : f < N) (hk : k < D) :
    takeR (N * D) D (hs.set (f * D + k) b) = if k = 0 then takeR (N * D) D hs else (takeR (N * D) D hs).set (f * D + (k - 1)) b := by
  have hp : f * D + k < hs.length := by rw [hl]; exact mul_lt_place hf hk
  by_cases h0 : k = 0
  · rw [if_pos h0]
    apply list_ext
    · rw [takeR_length, takeR_length]
    · intro j hj
      rw [takeR_length] at hj
      rw [takeR_at _ _ _ _ hj, takeR_at _ _ _ _ hj, getD_set _ _ _ _ hp]
      by_cases hm : (j + 1) % D = 0
      · rw [if_pos hm, if_pos hm]
      · rw [if_neg hm, if_neg hm, if_neg]
        intro e
        rw [e, place_mod D f k hk] at hm
        exact hm h0
  · rw [if_neg h0]
    have hq : f * D + (k - 1) < (takeR (N * D) D hs).length := by rw [takeR_length]; exact mul_lt_place hf (by omega)
    apply list_ext
    · rw [List.length_set, takeR_length, takeR_length]
    · intro j hj
      rw [takeR_length] at hj
      rw [getD_set _ _ _ _ hq, takeR_at _ _ _ _ hj, takeR_at _ _ _ _ hj, getD_set _ _ _ _ hp]
      by_cases e : j = f * D + (k - 1)
      · have e2 : j + 1 = f * D + k := by omega
        have e3 : ¬ (j + 1) % D = 0 := by rw [e2, place_mod D f k hk]; exact h0
        rw [if_neg e3, if_pos e2, if_pos e]
      · rw [if_neg e, if_neg (show ¬ j + 1 = f * D + k by omega)]
/-- What lies one place nearer. -/
theorem takeR_near {N D f k : Nat} (hs : List ByteArray) (hf : f < N) (hk : k < D) (h0 : ¬ k = 0) : (takeR (N * D) D hs).getD (f * D + (k - 1)) noB = hs.getD (f * D + k) noB := by
  rw [takeR_at _ _ _ _ (mul_lt_place hf (by omega))]
  have e2 : f * D + (k - 1) + 1 = f * D + k := by omega
  rw [e2, place_mod D f k hk, if_neg h0]
theorem heldK_zero (D : Nat) (hs : List ByteArray) (i : Nat) : heldK D hs i 0 = 0 := rfl
theorem heldK_succ (D : Nat) (hs : List ByteArray) (i k : Nat) : heldK D hs i (k + 1) = heldK D hs i k + if emt (hs.getD (i * D + k) noB) = true then 0 else 1 := by
  unfold heldK
  rw [List.range_succ, List.filter_append, List.length_append]
  simp only [List.filter_cons, List.filter_nil]
  cases h : emt (hs.getD (i * D + k) noB) <;> rfl
theorem heldK_le (D : Nat) (hs : List ByteArray) (i k : Nat) : heldK D hs i k ≤ k := by
  unfold heldK
  have := List.length_filter_le (fun k => !emt (hs.getD (i * D + k) noB)) (List.range k)
  rw [List.length_range] at this
  exact this
/-- What is taken is held no more. -/
theorem held_step {N D f : Nat} (hs : List ByteArray) (hf : f < N) : ∀ k, k < D → heldK D (takeR (N * D) D hs) f k + (if emt (hs.getD (f * D) noB) = true then 0 else 1) = heldK D hs f (k + 1) := by
  intro k
  induction k with
  | zero => intro _; rw [heldK_zero, heldK_succ, heldK_zero, Nat.add_zero]
  | succ k ih =>
    intro hk
    have := ih (by omega)
    rw [heldK_succ D hs f (k + 1), ← this, heldK_succ]
    have e := takeR_near hs hf hk (by omega)
    rw [Nat.add_sub_cancel] at e
    rw [e]
    omega
theorem held_take {N D f : Nat} (hs : List ByteArray) (hf : f < N) (hD : 0 < D) : heldK D (takeR (N * D) D hs) f D + (if emt (hs.getD (f * D) noB) = true then 0 else 1) = heldK D hs f D := by
  obtain ⟨k, rfl⟩ : ∃ k, D = k + 1 := ⟨D - 1, by omega⟩
  rw [heldK_succ]
  have h := held_step hs hf k (Nat.lt_succ_self k)
  have e : (takeR (N * (k + 1)) (k + 1) hs).getD (f * (k + 1) + k) noB = noB := by
    rw [takeR_at _ _ _ _ (mul_lt_place hf (Nat.lt_succ_self k)), if_pos]
    have e2 : f * (k + 1) + k + 1 = (f + 1) * (k + 1) := by rw [Nat.add_mul]; omega
    rw [e2, Nat.mul_mod_left]
  rw [e, emt_noB, if_pos rfl, Nat.add_zero]
  exact h
/-- So many ticks later the last places are empty. -/
def Gone (D i : Nat) (hs : List ByteArray) : Prop := ∀ j, j < hs.length → D ≤ j % D + i → hs.getD j noB = noB
theorem Gone.zero (D : Nat) (hD : 0 < D) (hs : List ByteArray) : Gone D 0 hs := fun j hj h => by
  have := Nat.mod_lt j hD
  omega
theorem Gone.succ {N D i : Nat} {hs : List ByteArray} (hD : 0 < D) (hl : hs.length = N * D) (h : Gone D i hs) : Gone D (i + 1) (takeR (N * D) D hs) := by
  intro j hj hm
  rw [takeR_length] at hj
  rw [takeR_at _ _ _ _ hj]
  by_cases h0 : (j + 1) % D = 0
  · rw [if_pos h0]
  · rw [if_neg h0]
    have hj1 : j + 1 < N * D := by
      by_cases e : j + 1 = N * D
      · rw [e, Nat.mul_mod_left] at h0; exact absurd rfl h0
      · omega
    have e3 : (j + 1) % D = j % D + 1 := by
      have h1 := Nat.mod_lt j hD
      by_cases e : j % D + 1 = D
      · exfalso
        apply h0
        rw [Nat.add_mod, show (1 : Nat) % D = if D = 1 then 0 else 1 by split <;> rename_i k; (rw [k]); exact Nat.mod_eq_of_lt (by omega)]
        split
        · rename_i k; rw [k]; exact Nat.mod_one _
        · rw [e]; exact Nat.mod_self D
      · rw [Nat.add_mod]
        have h2 : 1 < D := by omega
        rw [Nat.mod_eq_of_lt h2, Nat.mod_eq_of_lt (by omega)]
    refine h (j + 1) (by omega) ?_
    omega
theorem Gone.all {N D : Nat} {hs : List ByteArray} (hl : hs.length = N * D) (h : Gone D D hs) : hs = List.replicate (N * D) noB := by
  apply list_ext
  · rw [hl, List.length_replicate]
  · intro j hj
    rw [h j hj (by omega)]
    rw [List.getD_eq_getElem?_getD, List.getElem?_replicate]
    split <;> rfl
theorem held_none (N D f : Nat) : ∀ k, heldK D (List.replicate (N * D) noB) f k = 0 := by
  intro k
  induction k with
  | zero => rfl
  | succ k ih =>
    rw [heldK_succ, ih]
    have e : (List.replicate (N * D) noB).getD (f * D + k) noB = noB := by
      rw [List.getD_eq_getElem?_getD, List.getElem?_replicate]
      split <;> rfl
    rw [e, emt_noB]
    rfl
end Go.Proofs.Ytohgmliafidalaa
