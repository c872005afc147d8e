/- Plain mathematics: a sealed text of which one byte is another one is refused, with the number of ErrSum. -/
import Derived.Test.YtcnmbpgjgjncdaaCrc
namespace Go.Proofs.Ytcnmbpgjgjncdaa
open Go.ChangeShapes Go.WideShapes Go.ChangeAt Go.RowKit
set_option linter.unusedVariables false

def tailL (l : List UInt8) : List UInt8 := (leInts (crcOf l : Int) 4).map fun z => UInt8.ofNat z.toNat
theorem tailOf_data (s : ByteArray) : (tailOf s).data.toList = tailL s.data.toList := by simp [tailOf, numStr, tailL]
theorem tailL_length (l : List UInt8) : (tailL l).length = 4 := by simp [tailL, leInts]
theorem ofNat_inj {x y : Int} (h0 : 0 ≤ x) (h1 : x < 256) (g0 : 0 ≤ y) (g1 : y < 256) (h : UInt8.ofNat x.toNat = UInt8.ofNat y.toNat) : x = y := by
  have := congrArg UInt8.toNat h
  simp only [UInt8.toNat_ofNat'] at this
  omega
theorem tailL_inj {l m : List UInt8} (h : tailL l = tailL m) : crcOf l = crcOf m := by
  have hl := crcOf_lt l
  have hm := crcOf_lt m
  simp only [tailL, leInts, List.map_cons, List.map_nil, List.cons.injEq, and_true] at h
  obtain ⟨h1, h2, h3, h4⟩ := h
  have e1 := ofNat_inj (by omega) (by omega) (by omega) (by omega) h1
  have e2 := ofNat_inj (by omega) (by omega) (by omega) (by omega) h2
  have e3 := ofNat_inj (by omega) (by omega) (by omega) (by omega) h3
  have e4 := ofNat_inj (by omega) (by omega) (by omega) (by omega) h4
  omega
theorem crcOf_set (l : List UInt8) (p : Nat) (c : UInt8) (hp : p < l.length) (h : crcOf l = crcOf (l.set p c)) : l[p] = c := by
  have e1 : l = l.take p ++ l[p] :: l.drop (p + 1) := by rw [← List.drop_eq_getElem_cons hp, List.take_append_drop]
  have e2 : l.set p c = l.take p ++ c :: l.drop (p + 1) := by rw [List.set_eq_take_append_cons_drop, if_pos hp]
  rw [e2] at h
  have e3 : crcOf l = crcOf (l.take p ++ l[p] :: l.drop (p + 1)) := by rw [← e1]
  rw [e3] at h
  exact crcOf_tells _ _ _ _ h
/-- In lists: the last four are not the sum of the others. -/
theorem tells_list (l : List UInt8) (p : Nat) (c : UInt8) (hp : p < (l ++ tailL l).length) (hc : ¬ (l ++ tailL l)[p] = c) :
    ¬ ((l ++ tailL l).set p c).drop l.length = tailL (((l ++ tailL l).set p c).take l.length) := by
  have ht := tailL_length l
  intro h
  rw [List.take_set, List.take_left, List.drop_set, List.drop_left] at h
  by_cases hlt : p < l.length
  · rw [if_pos hlt] at h
    have := crcOf_set l p c hlt (tailL_inj h)
    rw [List.getElem_append_left hlt] at hc
    exact hc this
  · have hset : l.set p c = l := List.set_eq_of_length_le (by omega)
    rw [if_neg hlt, hset] at h
    have hq : p - l.length < (tailL l).length := by rw [List.length_append] at hp; omega
    rw [List.getElem_append_right (by omega)] at hc
    apply hc
    have h2 : ((tailL l).set (p - l.length) c)[p - l.length]'(by rw [List.length_set]; exact hq) = c := by simp
    rw [← h2]
    congr 1
    exact h.symm
/-- The changed text, as the statement makes it. -/
def changed (x : ByteArray) (p : Nat) (c : UInt8) : ByteArray := x.extract 0 p ++ ⟨#[c]⟩ ++ x.extract (p + 1) x.size
theorem changed_data (x : ByteArray) (p : Nat) (c : UInt8) (hp : p < x.size) : (changed x p c).data.toList = x.data.toList.set p c := by
  unfold changed
  simp only [ByteArray.data_append, Array.toList_append, Lib.extract_data]
  rw [List.set_eq_take_append_cons_drop, if_pos (by simpa using hp)]
  have e : (x.data.toList.drop (p + 1)).take (x.size - (p + 1)) = x.data.toList.drop (p + 1) := List.take_of_length_le (by simp)
  rw [e]
  simp
theorem openF_tells (s : ByteArray) (p : Nat) (c : UInt8) (hp : p < (s ++ tailOf s).size) (hc : ¬ (s ++ tailOf s)[p] = c) :
    openF (changed (s ++ tailOf s) p c) = (⟨#[]⟩, 4) := by
  have hd := changed_data (s ++ tailOf s) p c hp
  have hx : (s ++ tailOf s).data.toList = s.data.toList ++ tailL s.data.toList := by
    rw [ByteArray.data_append, Array.toList_append, tailOf_data]
  have hz : (changed (s ++ tailOf s) p c).size = s.size + 4 := by
    have h1 : (changed (s ++ tailOf s) p c).size = (changed (s ++ tailOf s) p c).data.toList.length := by simp
    rw [h1, hd, List.length_set, hx, List.length_append, tailL_length]
    simp
  unfold openF
  rw [hz, if_neg (by omega), Nat.add_sub_cancel, if_neg]
  intro he
  have h2 := congrArg (fun b => b.data.toList) he
  simp only [Lib.extract_data, tailOf_data] at h2
  rw [hd, hx, List.drop_zero, Nat.sub_zero] at h2
  have e : (((s.data.toList ++ tailL s.data.toList).set p c).drop s.size).take (s.size + 4 - s.size) = ((s.data.toList ++ tailL s.data.toList).set p c).drop s.size := List.take_of_length_le (by simp [tailL_length])
  rw [e] at h2
  have hl : s.size = s.data.toList.length := by simp
  rw [hl] at h2
  refine tells_list s.data.toList p c ?_ ?_ h2
  · rw [← hx]; simpa using hp
  · intro h3
    apply hc
    rw [← h3]
    have : (s ++ tailOf s)[p] = (s ++ tailOf s).data.toList[p]'(by simpa using hp) := rfl
    rw [this]
    congr 1
end Go.Proofs.Ytcnmbpgjgjncdaa
