/- Plain mathematics of taking frames node by node: what is for this tick, and what is left, behind so many nodes; no Go text in sight. -/
import Derived.Test.YtcnmbpgjgjncdaaHoldM
import Derived.Laws.CopyOwn
namespace Go.Proofs.Ytcnmbpgjgjncdaa
set_option linter.unusedVariables false

def nowP (N D k : Nat) (hs : List ByteArray) : List ByteArray := (List.range N).map fun i => if i < k then hs.getD (i * D) noB else noB
def restP (N D k : Nat) (hs : List ByteArray) : List ByteArray := (List.range (N * D)).map fun j => if j < k * D ∧ ¬ (j + 1) % D = 0 then hs.getD (j + 1) noB else noB
theorem nowP_length (N D k : Nat) (hs : List ByteArray) : (nowP N D k hs).length = N := by simp [nowP]
theorem restP_length (N D k : Nat) (hs : List ByteArray) : (restP N D k hs).length = N * D := by simp [restP]
theorem nowP_at (N D k : Nat) (hs : List ByteArray) (i : Nat) (hi : i < N) : (nowP N D k hs).getD i noB = if i < k then hs.getD (i * D) noB else noB := by
  rw [List.getD_eq_getElem?_getD, nowP, List.getElem?_map, List.getElem?_range hi]; rfl
theorem restP_at (N D k : Nat) (hs : List ByteArray) (j : Nat) (hj : j < N * D) : (restP N D k hs).getD j noB = if j < k * D ∧ ¬ (j + 1) % D = 0 then hs.getD (j + 1) noB else noB := by
  rw [List.getD_eq_getElem?_getD, restP, List.getElem?_map, List.getElem?_range hj]; rfl
theorem rep_at (n j : Nat) : (List.replicate n noB).getD j noB = noB := by
  rw [List.getD_eq_getElem?_getD, List.getElem?_replicate]
  split <;> rfl
theorem nowP_zero (N D : Nat) (hs : List ByteArray) : nowP N D 0 hs = List.replicate N noB := by
  apply list_ext
  · rw [nowP_length, List.length_replicate]
  · intro j hj
    rw [nowP_length] at hj
    rw [nowP_at _ _ _ _ _ hj, rep_at, if_neg (Nat.not_lt_zero _)]
theorem restP_zero (N D : Nat) (hs : List ByteArray) : restP N D 0 hs = List.replicate (N * D) noB := by
  apply list_ext
  · rw [restP_length, List.length_replicate]
  · intro j hj
    rw [restP_length] at hj
    rw [restP_at _ _ _ _ _ hj, rep_at, if_neg (fun k => by have := k.1; omega)]
theorem nowP_all (N D : Nat) (hs : List ByteArray) : nowP N D N hs = takeN N D hs := by
  apply list_ext
  · rw [nowP_length, takeN_length]
  · intro j hj
    rw [nowP_length] at hj
    rw [nowP_at _ _ _ _ _ hj, takeN_at _ _ _ _ hj, if_pos hj]
theorem restP_all (N D : Nat) (hs : List ByteArray) : restP N D N hs = takeR (N * D) D hs := by
  apply list_ext
  · rw [restP_length, takeR_length]
  · intro j hj
    rw [restP_length] at hj
    rw [restP_at _ _ _ _ _ hj, takeR_at _ _ _ _ hj]
    by_cases h : (j + 1) % D = 0
    · rw [if_neg (fun k => k.2 h), if_pos h]
    · rw [if_pos ⟨hj, h⟩, if_neg h]
theorem nowP_set (N D k : Nat) (hs : List ByteArray) (hk : k < N) : (nowP N D k hs).set k (hs.getD (k * D) noB) = nowP N D (k + 1) hs := by
  apply list_ext
  · rw [List.length_set, nowP_length, nowP_length]
  · intro j hj
    rw [List.length_set, nowP_length] at hj
    rw [getD_set _ _ _ _ (by rw [nowP_length]; exact hk), nowP_at _ _ _ _ _ hj, nowP_at _ _ _ _ _ hj]
    by_cases e : j = k
    · rw [if_pos e, if_pos (by omega), e]
    · rw [if_neg e]
      by_cases h : j < k
      · rw [if_pos h, if_pos (by omega)]
      · rw [if_neg h, if_neg (by omega)]
theorem splice_at (L cs : List ByteArray) (off j : Nat) (h : off + cs.length ≤ L.length) : (splice L off cs).getD j noB = if off ≤ j ∧ j < off + cs.length then cs.getD (j - off) noB else L.getD j noB := by
  unfold splice
  have hl : (L.take off).length = off := by rw [List.length_take]; omega
  rw [List.getD_eq_getElem?_getD]
  by_cases h1 : j < off
  · rw [List.getElem?_append_left (by omega), List.getElem?_take_of_lt h1, if_neg (by omega), ← List.getD_eq_getElem?_getD]
  · rw [List.getElem?_append_right (by omega), hl]
    by_cases h2 : j < off + cs.length
    · rw [List.getElem?_append_left (by omega), if_pos ⟨by omega, h2⟩, ← List.getD_eq_getElem?_getD]
    · rw [List.getElem?_append_right (by omega), if_neg (by omega), List.getElem?_drop, ← List.getD_eq_getElem?_getD]
      congr 1
      omega
theorem splice_len (L cs : List ByteArray) (off : Nat) (h : off + cs.length ≤ L.length) : (splice L off cs).length = L.length := length_splice L off cs h
theorem splice_map (L cs : List ByteArray) (off : Nat) : splice (L.map Value.string) off (cs.map Value.string) = (splice L off cs).map Value.string := by simp [splice]
theorem lt_succ_place {k D j : Nat} : j < (k + 1) * D ↔ j < k * D + D := by rw [Nat.add_mul]; omega
theorem drop_at (hs : List ByteArray) (a m j : Nat) (hj : j < m) : ((hs.drop a).take m).getD j noB = hs.getD (a + j) noB := by
  rw [List.getD_eq_getElem?_getD, List.getElem?_take_of_lt hj, List.getElem?_drop, ← List.getD_eq_getElem?_getD]
theorem restP_splice (N D k : Nat) (hs : List ByteArray) (hD : 0 < D) (hk : k < N) (hl : hs.length = N * D) : splice (restP N D k hs) (k * D) ((hs.drop (k * D + 1)).take (D - 1)) = restP N D (k + 1) hs := by
  have hp : k * D + D ≤ N * D := by
    have h1 : (k + 1) * D ≤ N * D := Nat.mul_le_mul_right D hk
    rw [Nat.add_mul] at h1
    omega
  have hc : ((hs.drop (k * D + 1)).take (D - 1)).length = D - 1 := by rw [List.length_take, List.length_drop]; omega
  have hf : k * D + ((hs.drop (k * D + 1)).take (D - 1)).length ≤ (restP N D k hs).length := by rw [hc, restP_length]; omega
  apply list_ext
  · rw [splice_len _ _ _ hf, restP_length, restP_length]
  · intro j hj
    rw [splice_len _ _ _ hf, restP_length] at hj
    rw [splice_at _ _ _ _ hf, hc, restP_at _ _ _ _ _ hj, restP_at _ _ _ _ _ hj]
    by_cases h1 : j < k * D
    · rw [if_neg (by omega)]
      by_cases h2 : (j + 1) % D = 0
      · rw [if_neg (fun q => q.2 h2), if_neg (fun q => q.2 h2)]
      · rw [if_pos ⟨h1, h2⟩, if_pos ⟨lt_succ_place.2 (by omega), h2⟩]
    · by_cases h2 : j < k * D + (D - 1)
      · have hm : ¬ (j + 1) % D = 0 := by
          have e : j + 1 = k * D + (j + 1 - k * D) := by omega
          rw [e, place_mod D k _ (by omega)]
          omega
        rw [if_pos ⟨by omega, h2⟩, if_pos ⟨lt_succ_place.2 (by omega), hm⟩, drop_at _ _ _ _ (by omega)]
        congr 1
        omega
      · rw [if_neg (by omega), if_neg (fun q => h1 q.1)]
        by_cases h3 : j < k * D + D
        · have e : j + 1 = (k + 1) * D := by rw [Nat.add_mul]; omega
          rw [if_neg (fun q => q.2 (by rw [e, Nat.mul_mod_left]))]
        · rw [if_neg (fun q => h3 (lt_succ_place.1 q.1))]
end Go.Proofs.Ytcnmbpgjgjncdaa
