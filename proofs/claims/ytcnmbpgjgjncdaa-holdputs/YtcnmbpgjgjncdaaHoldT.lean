/- The document's call Take for frames that wait returns what plain functions give, in memory of its own, and makes at most new memory; conditions: the table and the row lie where they say, and their lengths fit int. -/
import Derived.Test.YtcnmbpgjgjncdaaHoldR
namespace Go.Proofs.Ytcnmbpgjgjncdaa
open Go.ChangeShapes Go.WideShapes Go.ChangeAt Go.RowKit
set_option linter.unusedVariables false

/-- A part of a row of texts: what is cut, and where it lies. -/
theorem kStr_cut {n₀ : Nat} {W : World} {b o len cap : Nat} {hs : List ByteArray} (hL : kStr.Lies n₀ W (.slice (some ⟨b, o, none⟩) len cap) hs) (L Q : Nat) (h1 : L ≤ Q) (h2 : Q ≤ hs.length) :
    ∃ sp, (∀ V : World, (Instr.slice 39 (.slice (some ⟨b, o, none⟩) len cap) (some (.int .i64 (L : Int))) (some (.int .i64 (Q : Int))) none).run Try.prog V = .ok (.slice sp (Q - L) (cap - L)) V) ∧ kStr.Lies n₀ W (.slice sp (Q - L) (cap - L)) ((hs.drop L).take (Q - L)) := by
  obtain ⟨hc1, hc2⟩ := kStr_caps hL
  obtain rfl := hL.len
  refine ⟨if cap = L then some ⟨b, o, none⟩ else some ⟨b, o + L, none⟩, fun V => ?_, ?_⟩
  · have ht : Try.prog.underlying 39 = some (.slice (Try.prog.elem 39)) := by kernel_rfl
    rw [run_slice_lh V 39 _ hs.length cap ht .i64 .i64 L Q (by omega) (by omega) (by omega)]
    have hz : (sizeOf (Try.prog.elem 39)).run Try.prog V = .ok 1 V := rfl
    rw [hz]
    simp only [Result.andThen, sliced, Int.toNat_natCast]
    by_cases h : cap = L
    · simp [h]
    · have e : (⟨b, o, none⟩ : Addr).add L = ⟨b, o + L, none⟩ := add_plain _ _ _
      simp [h, e]
  · by_cases h : cap = L
    · have e1 : Q - L = 0 := by omega
      rw [if_pos h, e1, List.take_zero]
      refine ⟨_, _, rfl, Nat.zero_le _, by unfold maxLen; omega, fun h => (by cases h), fun hj => absurd hj (Nat.not_lt_zero _)⟩
    · rw [if_neg h]
      have hd := hL.drop L (by omega)
      have e2 : L * kStr.k = L := Nat.mul_one L
      rw [e2] at hd
      exact hd.take (Q - L) (by rw [List.length_drop]; omega)
theorem takeN_step (k D : Nat) (hs : List ByteArray) : takeN k D hs ++ [hs.getD (k * D) noB] = takeN (k + 1) D hs := by simp [takeN, List.range_succ]
theorem takeR_step (k D : Nat) (hs : List ByteArray) (hD : 0 < D) (hl : k * D + D ≤ hs.length) : takeR (k * D) D hs ++ (hs.drop (k * D + 1)).take (D - 1) ++ [noB] = takeR (k * D + D) D hs := by
  have hc : ((hs.drop (k * D + 1)).take (D - 1)).length = D - 1 := by rw [List.length_take, List.length_drop]; omega
  apply list_ext
  · rw [List.length_append, List.length_append, takeR_length, takeR_length, hc, List.length_singleton]; omega
  · intro j hj
    rw [List.length_append, List.length_append, takeR_length, hc, List.length_singleton] at hj
    rw [takeR_at _ _ _ _ (by omega)]
    rw [List.getD_eq_getElem?_getD]
    by_cases h1 : j < k * D
    · rw [List.append_assoc, List.getElem?_append_left (by rw [takeR_length]; exact h1), ← List.getD_eq_getElem?_getD, takeR_at _ _ _ _ h1]
    · by_cases h2 : j < k * D + (D - 1)
      · have hm : ¬ (j + 1) % D = 0 := by
          have e : j + 1 = k * D + (j + 1 - k * D) := by omega
          rw [e, place_mod D k _ (by omega)]
          omega
        rw [List.append_assoc, List.getElem?_append_right (by rw [takeR_length]; omega), takeR_length, List.getElem?_append_left (by rw [hc]; omega), ← List.getD_eq_getElem?_getD, drop_at _ _ _ _ (by omega), if_neg hm]
        congr 1
        omega
      · have e : j = k * D + (D - 1) := by omega
        rw [List.getElem?_append_right (by rw [List.length_append, takeR_length, hc]; omega), if_pos]
        · have e0 : j - (takeR (k * D) D hs ++ (hs.drop (k * D + 1)).take (D - 1)).length = 0 := by rw [List.length_append, takeR_length, hc]; omega
          rw [e0]; rfl
        · have e1 : j + 1 = (k + 1) * D := by rw [Nat.add_mul]; omega
          rw [e1, Nat.mul_mod_left]
end Go.Proofs.Ytcnmbpgjgjncdaa
