/- num.Get of package num, at every text, place and width, returns the number that the bytes are or the document's error, and leaves the world as it was; conditions: the text's length and the numbers fit int. -/
import Derived.Test.YtjecogbhkmljkaaNum
import Derived.WalkSpells
import Derived.Laws.BitsLemmas
namespace Go.Proofs.Ytjecogbhkmljkaa
open Go.ChangeShapes Go.WideShapes Go.ChangeAt Go.RowKit
set_option linter.unusedVariables false

def leNum : List Int → Int
  | [] => 0
  | b :: r => b + 256 * leNum r
def bt (s : ByteArray) (j : Nat) : Int := ((s.data.toList.getD j 0).toNat : Int)
def bytesAt (s : ByteArray) : Nat → Nat → List Int
  | _, 0 => []
  | p, k + 1 => bt s p :: bytesAt s (p + 1) k
theorem bt_eq (s : ByteArray) (j : Nat) (h : j < s.size) : (s[j].toNat : Int) = bt s j := by
  unfold bt
  have h' : j < s.data.toList.length := by simpa using h
  rw [List.getD_eq_getElem?_getD, List.getElem?_eq_getElem h']
  rfl
theorem bt_bd (s : ByteArray) (j : Nat) : 0 ≤ bt s j ∧ bt s j ≤ 255 := by
  unfold bt
  have := (s.data.toList.getD j 0).toNat_lt
  omega

theorem wraps_i64 (n : Int) (h0 : 0 ≤ n) (h1 : n < 2 ^ 62) : IntKind.i64.wrap n = n := by rw [IntKind.wrap_i64]; omega
theorem or64 (a b : Int) (i : Nat) (hi : i ≤ 62) (a0 : 0 ≤ a) (a1 : a < 2 ^ i) (b0 : 0 ≤ b) (b1 : b % 2 ^ i = 0) (b2 : b < 2 ^ 62) (a2 : a < 2 ^ 62) : bits .or .i64 a b = a + b := by
  have h := bits_join .i64 62 (by decide) wraps_i64 i b a b0 b1 b2 a0 a1 a2
  obtain ⟨x, rfl⟩ := Int.eq_ofNat_of_zero_le a0
  obtain ⟨y, rfl⟩ := Int.eq_ofNat_of_zero_le b0
  have hx : x < 2 ^ 62 := by exact_mod_cast a2
  have hy : y < 2 ^ 62 := by exact_mod_cast b2
  rw [(bits_nat .i64 62 (by decide) wraps_i64 y x hy hx).2] at h
  rw [(bits_nat .i64 62 (by decide) wraps_i64 x y hx hy).2, Nat.or_comm, h]
  omega
theorem or64_0 (x : Int) (h0 : 0 ≤ x) (h1 : x ≤ 255) : bits .or .i64 0 (wrap64 (wrap64 x)) = x := by
  have e : wrap64 (wrap64 x) = x := by unfold wrap64; omega
  rw [e, or64 0 x 0 (by decide) (by decide) (by decide) h0 (by omega) (by omega) (by decide)]
  omega
theorem or64_1 (a x : Int) (a0 : 0 ≤ a) (a1 : a ≤ 255) (h0 : 0 ≤ x) (h1 : x ≤ 255) : bits .or .i64 a (wrap64 (wrap64 x * 256)) = a + x * 256 := by
  have e : wrap64 (wrap64 x * 256) = x * 256 := by unfold wrap64; omega
  rw [e]
  exact or64 a (x * 256) 8 (by decide) a0 (by omega) (by omega) (by omega) (by omega) (by omega)
theorem or64_2 (a x : Int) (a0 : 0 ≤ a) (a1 : a ≤ 65535) (h0 : 0 ≤ x) (h1 : x ≤ 255) : bits .or .i64 a (wrap64 (wrap64 x * 65536)) = a + x * 65536 := by
  have e : wrap64 (wrap64 x * 65536) = x * 65536 := by unfold wrap64; omega
  rw [e]
  exact or64 a (x * 65536) 16 (by decide) a0 (by omega) (by omega) (by omega) (by omega) (by omega)
theorem or64_3 (a x : Int) (a0 : 0 ≤ a) (a1 : a ≤ 16777215) (h0 : 0 ≤ x) (h1 : x ≤ 255) : bits .or .i64 a (wrap64 (wrap64 x * 16777216)) = a + x * 16777216 := by
  have e : wrap64 (wrap64 x * 16777216) = x * 16777216 := by unfold wrap64; omega
  rw [e]
  exact or64 a (x * 16777216) 24 (by decide) a0 (by omega) (by omega) (by omega) (by omega) (by omega)
theorem ret2_int {k : IntKind} {a b : Int} {v : Value} (h : a = b) : Ending.returned (.tuple #[.int k a, v]) = .returned (.tuple #[.int k b, v]) := by rw [h]
theorem ors_1 (x0 : Int) (h0 : 0 ≤ x0 ∧ x0 ≤ 255) : bits BinOp.or IntKind.i64 0 (wrap64 (wrap64 x0)) = leNum [x0] := by
  rw [or64_0 x0 (by omega) (by omega)]
  simp only [leNum]
  omega
set_option maxHeartbeats 400000 in
theorem get_1 (s : ByteArray) (p : Nat) (w : World) (hs : s.size ≤ maxLen) (h : p + 1 ≤ s.size) :
    Calls Try.prog 11 #[.string s, .int .i64 p, .int .i64 1] w fun e w' => e = .returned (.tuple #[.int .i64 (leNum (bytesAt s p 1)), .int .i64 0]) ∧ w = w' := by
  unfold maxLen at hs
  go_enter Try.func11, Try.ntmps11
  go_wp2_with (go_at_call 27; refine (isWidth_yes _ _ (by omega) (by omega)).mono ?_; rintro e w' ⟨rfl, rfl⟩)
  refine wp_loop_rounds 2 ?_
  rw [rounds_succ]
  go_wp2
  rw [rounds_succ]
  go_wp2
  go_ret2
  refine ⟨ret2_int ?_, rfl⟩
  have := ors_1 (bt s p) (bt_bd _ _)
  simp only [bytesAt]
  rw [← this, ← bt_eq s p (by omega)]
theorem ors_2 (x0 x1 : Int) (h0 : 0 ≤ x0 ∧ x0 ≤ 255) (h1 : 0 ≤ x1 ∧ x1 ≤ 255) : bits BinOp.or IntKind.i64 (bits BinOp.or IntKind.i64 0 (wrap64 (wrap64 x0))) (wrap64 (wrap64 x1 * 256)) = leNum [x0, x1] := by
  rw [or64_0 x0 (by omega) (by omega), or64_1 _ x1 (by omega) (by omega) (by omega) (by omega)]
  simp only [leNum]
  omega
set_option maxHeartbeats 400000 in
theorem get_2 (s : ByteArray) (p : Nat) (w : World) (hs : s.size ≤ maxLen) (h : p + 2 ≤ s.size) :
    Calls Try.prog 11 #[.string s, .int .i64 p, .int .i64 2] w fun e w' => e = .returned (.tuple #[.int .i64 (leNum (bytesAt s p 2)), .int .i64 0]) ∧ w = w' := by
  unfold maxLen at hs
  go_enter Try.func11, Try.ntmps11
  go_wp2_with (go_at_call 27; refine (isWidth_yes _ _ (by omega) (by omega)).mono ?_; rintro e w' ⟨rfl, rfl⟩)
  refine wp_loop_rounds 3 ?_
  rw [rounds_succ]
  go_wp2
  rw [rounds_succ]
  go_wp2
  rw [rounds_succ]
  go_wp2
  go_ret2
  refine ⟨ret2_int ?_, rfl⟩
  have := ors_2 (bt s p) (bt s (p + 1)) (bt_bd _ _) (bt_bd _ _)
  simp only [bytesAt]
  rw [← this, ← bt_eq s p (by omega), ← bt_eq s (p + 1) (by omega)]
theorem ors_3 (x0 x1 x2 : Int) (h0 : 0 ≤ x0 ∧ x0 ≤ 255) (h1 : 0 ≤ x1 ∧ x1 ≤ 255) (h2 : 0 ≤ x2 ∧ x2 ≤ 255) : bits BinOp.or IntKind.i64 (bits BinOp.or IntKind.i64 (bits BinOp.or IntKind.i64 0 (wrap64 (wrap64 x0))) (wrap64 (wrap64 x1 * 256))) (wrap64 (wrap64 x2 * 65536)) = leNum [x0, x1, x2] := by
  rw [or64_0 x0 (by omega) (by omega), or64_1 _ x1 (by omega) (by omega) (by omega) (by omega), or64_2 _ x2 (by omega) (by omega) (by omega) (by omega)]
  simp only [leNum]
  omega
set_option maxHeartbeats 400000 in
theorem get_3 (s : ByteArray) (p : Nat) (w : World) (hs : s.size ≤ maxLen) (h : p + 3 ≤ s.size) :
    Calls Try.prog 11 #[.string s, .int .i64 p, .int .i64 3] w fun e w' => e = .returned (.tuple #[.int .i64 (leNum (bytesAt s p 3)), .int .i64 0]) ∧ w = w' := by
  unfold maxLen at hs
  go_enter Try.func11, Try.ntmps11
  go_wp2_with (go_at_call 27; refine (isWidth_yes _ _ (by omega) (by omega)).mono ?_; rintro e w' ⟨rfl, rfl⟩)
  refine wp_loop_rounds 4 ?_
  rw [rounds_succ]
  go_wp2
  rw [rounds_succ]
  go_wp2
  rw [rounds_succ]
  go_wp2
  rw [rounds_succ]
  go_wp2
  go_ret2
  refine ⟨ret2_int ?_, rfl⟩
  have := ors_3 (bt s p) (bt s (p + 1)) (bt s (p + 2)) (bt_bd _ _) (bt_bd _ _) (bt_bd _ _)
  simp only [bytesAt, Nat.add_assoc, Nat.reduceAdd]
  rw [← this, ← bt_eq s p (by omega), ← bt_eq s (p + 1) (by omega), ← bt_eq s (p + 2) (by omega)]
theorem ors_4 (x0 x1 x2 x3 : Int) (h0 : 0 ≤ x0 ∧ x0 ≤ 255) (h1 : 0 ≤ x1 ∧ x1 ≤ 255) (h2 : 0 ≤ x2 ∧ x2 ≤ 255) (h3 : 0 ≤ x3 ∧ x3 ≤ 255) : bits BinOp.or IntKind.i64 (bits BinOp.or IntKind.i64 (bits BinOp.or IntKind.i64 (bits BinOp.or IntKind.i64 0 (wrap64 (wrap64 x0))) (wrap64 (wrap64 x1 * 256))) (wrap64 (wrap64 x2 * 65536))) (wrap64 (wrap64 x3 * 16777216)) = leNum [x0, x1, x2, x3] := by
  rw [or64_0 x0 (by omega) (by omega), or64_1 _ x1 (by omega) (by omega) (by omega) (by omega), or64_2 _ x2 (by omega) (by omega) (by omega) (by omega), or64_3 _ x3 (by omega) (by omega) (by omega) (by omega)]
  simp only [leNum]
  omega
set_option maxHeartbeats 400000 in
theorem get_4 (s : ByteArray) (p : Nat) (w : World) (hs : s.size ≤ maxLen) (h : p + 4 ≤ s.size) :
    Calls Try.prog 11 #[.string s, .int .i64 p, .int .i64 4] w fun e w' => e = .returned (.tuple #[.int .i64 (leNum (bytesAt s p 4)), .int .i64 0]) ∧ w = w' := by
  unfold maxLen at hs
  go_enter Try.func11, Try.ntmps11
  go_wp2_with (go_at_call 27; refine (isWidth_yes _ _ (by omega) (by omega)).mono ?_; rintro e w' ⟨rfl, rfl⟩)
  refine wp_loop_rounds 5 ?_
  rw [rounds_succ]
  go_wp2
  rw [rounds_succ]
  go_wp2
  rw [rounds_succ]
  go_wp2
  rw [rounds_succ]
  go_wp2
  rw [rounds_succ]
  go_wp2
  go_ret2
  refine ⟨ret2_int ?_, rfl⟩
  have := ors_4 (bt s p) (bt s (p + 1)) (bt s (p + 2)) (bt s (p + 3)) (bt_bd _ _) (bt_bd _ _) (bt_bd _ _) (bt_bd _ _)
  simp only [bytesAt, Nat.add_assoc, Nat.reduceAdd]
  rw [← this, ← bt_eq s p (by omega), ← bt_eq s (p + 1) (by omega), ← bt_eq s (p + 2) (by omega), ← bt_eq s (p + 3) (by omega)]

theorem get_short (s : ByteArray) (a b : Int) (w : World) (hs : s.size ≤ maxLen) (ha : 0 ≤ a) (h1 : 1 ≤ b) (h2 : b ≤ 4) (h : (s.size : Int) - b < a) :
    Calls Try.prog 11 #[.string s, .int .i64 a, .int .i64 b] w fun e w' => e = .returned (.tuple #[.int .i64 0, .int .i64 5]) ∧ w = w' := by
  unfold maxLen at hs
  go_enter Try.func11, Try.ntmps11
  go_wp2_with (go_at_call 27; refine (isWidth_yes _ _ (by omega) (by omega)).mono ?_; rintro e w' ⟨rfl, rfl⟩)
  go_ret2
  exact ⟨rfl, rfl⟩
theorem get_arg (s : ByteArray) (a b : Int) (w : World) (h : b < 1 ∨ 4 < b) :
    Calls Try.prog 11 #[.string s, .int .i64 a, .int .i64 b] w fun e w' => e = .returned (.tuple #[.int .i64 0, .int .i64 2]) ∧ w = w' := by
  go_enter Try.func11, Try.ntmps11
  go_wp2_with (go_at_call 27; refine (isWidth_no _ _ h).mono ?_; rintro e w' ⟨rfl, rfl⟩)
  go_ret2
  exact ⟨rfl, rfl⟩
theorem get_below (s : ByteArray) (a b : Int) (w : World) (h1 : 1 ≤ b) (h2 : b ≤ 4) (h : a < 0) :
    Calls Try.prog 11 #[.string s, .int .i64 a, .int .i64 b] w fun e w' => e = .returned (.tuple #[.int .i64 0, .int .i64 2]) ∧ w = w' := by
  go_enter Try.func11, Try.ntmps11
  go_wp2_with (go_at_call 27; refine (isWidth_yes _ _ (by omega) (by omega)).mono ?_; rintro e w' ⟨rfl, rfl⟩)
  go_ret2
  exact ⟨rfl, rfl⟩

/-- What Get gives: the number and the error's number. -/
def getF (s : ByteArray) (a b : Int) : Int × Int :=
  if b < 1 ∨ 4 < b ∨ a < 0 then (0, 2) else if (s.size : Int) - b < a then (0, 5) else (leNum (bytesAt s a.toNat b.toNat), 0)
theorem getF_arg (s : ByteArray) (a b : Int) (h : b < 1 ∨ 4 < b ∨ a < 0) : getF s a b = (0, 2) := by unfold getF; rw [if_pos h]
theorem getF_short (s : ByteArray) (a b : Int) (h0 : 0 ≤ a) (h1 : 1 ≤ b) (h2 : b ≤ 4) (h : (s.size : Int) - b < a) : getF s a b = (0, 5) := by unfold getF; rw [if_neg (by omega), if_pos h]
theorem getF_ok (s : ByteArray) (a b : Int) (h0 : 0 ≤ a) (h1 : 1 ≤ b) (h2 : b ≤ 4) (h : a ≤ (s.size : Int) - b) : getF s a b = (leNum (bytesAt s a.toNat b.toNat), 0) := by unfold getF; rw [if_neg (by omega), if_neg (by omega)]

theorem get_any (s : ByteArray) (a b : Int) (w : World) (hs : s.size ≤ maxLen) :
    Calls Try.prog 11 #[.string s, .int .i64 a, .int .i64 b] w fun e w' => e = .returned (.tuple #[.int .i64 (getF s a b).1, .int .i64 (getF s a b).2]) ∧ w = w' := by
  by_cases hb : b < 1 ∨ 4 < b
  · rw [getF_arg s a b (by omega)]
    exact get_arg s a b w hb
  · by_cases h0 : a < 0
    · rw [getF_arg s a b (by omega)]
      exact get_below s a b w (by omega) (by omega) h0
    · by_cases h1 : (s.size : Int) - b < a
      · rw [getF_short s a b (by omega) (by omega) (by omega) h1]
        exact get_short s a b w hs (by omega) (by omega) (by omega) h1
      · rw [getF_ok s a b (by omega) (by omega) (by omega) (by omega)]
        obtain ⟨p, rfl⟩ := Int.eq_ofNat_of_zero_le (show 0 ≤ a by omega)
        obtain rfl | rfl | rfl | rfl : b = 1 ∨ b = 2 ∨ b = 3 ∨ b = 4 := by omega
        · exact get_1 s p w hs (by omega)
        · exact get_2 s p w hs (by omega)
        · exact get_3 s p w hs (by omega)
        · exact get_4 s p w hs (by omega)
end Go.Proofs.Ytjecogbhkmljkaa
