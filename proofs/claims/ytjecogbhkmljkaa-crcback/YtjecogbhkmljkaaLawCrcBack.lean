/- The law CrcBack returns true at every text, and makes at most new memory; condition: the text's length fits int. -/
import Derived.Test.YtjecogbhkmljkaaCrcK
namespace Go.Proofs.Ytjecogbhkmljkaa.LawCrcBack
open Go.ChangeShapes Go.WideShapes Go.ChangeAt Go.RowKit
set_option linter.unusedVariables false
theorem extract_left (a b : ByteArray) : (a ++ b).extract 0 a.size = a := by
  apply ByteArray.ext
  apply Array.toList_inj.1
  rw [Lib.extract_data]
  simp [ByteArray.data_append]
theorem extract_right (a b : ByteArray) : (a ++ b).extract a.size (a.size + b.size) = b := by
  apply ByteArray.ext
  apply Array.toList_inj.1
  rw [Lib.extract_data]
  have e : a.size = a.data.toList.length := by simp
  simp only [ByteArray.data_append, Array.toList_append]
  rw [e, List.drop_left, List.take_of_length_le (by simp)]
/-- What was sealed is opened. -/
theorem openF_seal (s : ByteArray) : openF (s ++ tailOf s) = (s, 0) := by
  have ht := tailOf_size s
  have hz : (s ++ tailOf s).size = s.size + 4 := by rw [ByteArray.size_append, ht]
  unfold openF
  rw [hz, if_neg (by omega), Nat.add_sub_cancel, extract_left]
  have := extract_right s (tailOf s)
  rw [ht] at this
  rw [this, if_pos rfl]
set_option maxHeartbeats 800000 in
theorem walk (s : ByteArray) (w0 : s.size ≤ maxLen) (w : World) :
    Calls Try.prog 8 #[.string s] w fun e w' => e = .returned (.bool true) ∧ Below w.heap.size w w' := by
  have hm := w0
  unfold maxLen at hm
  by_cases h : 400 < s.size
  · go_enter Try.func8, Try.ntmps8
    go_wp2_with (go_at_call 20; refine (cknown_any _).mono ?_; rintro e w' ⟨rfl, hb⟩)
    go_ret
    exact ⟨rfl, hb⟩
  · have hs : s.size ≤ 281474976710656 := by omega
    have ht := tailOf_size s
    go_enter Try.func8, Try.ntmps8
    go_wp2_with fail
    refine (seal_any s _ hs).mono ?_
    rintro e w1 ⟨rfl, hb1⟩
    go_wp2_with fail
    refine (open_any (s ++ tailOf s) _ (by rw [ByteArray.size_append]; omega)).mono ?_
    rintro e w2 ⟨rfl, hb2⟩
    rw [openF_seal]
    go_wp2_with fail
    refine (cknown_any _).mono ?_
    rintro e w3 ⟨rfl, hb3⟩
    go_wp2
    go_ret
    have g2 := hb1.trans (hb2.mono hb1.size)
    exact ⟨rfl, g2.trans (hb3.mono g2.size)⟩
end Go.Proofs.Ytjecogbhkmljkaa.LawCrcBack
