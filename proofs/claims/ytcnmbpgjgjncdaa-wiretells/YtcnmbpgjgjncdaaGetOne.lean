/- num.Get of package num, at width 1, returns the byte that lies there or ErrShort, and leaves the world as it was; conditions: the text's length and the place fit int, the place is not below 0. -/
import Derived.Test.YtcnmbpgjgjncdaaNum
import Derived.WalkSpells
import Derived.Laws.BitsLemmas
namespace Go.Proofs.Ytcnmbpgjgjncdaa
open Go.ChangeShapes Go.WideShapes Go.ChangeAt Go.RowKit
set_option linter.unusedVariables false

def leNum : List Int → Int
  | [] => 0
  | b :: r => b + 256 * leNum r
def bt (s : ByteArray) (j : Nat) : Int := ((s.data.toList.getD j 0).toNat : Int)
def bytesAt (s : ByteArray) : Nat → Nat → List Int
  | _, 0 => []
  | p, k + 1 => bt s p :: bytesAt s (p + 1) k
theorem bt_eq (s : ByteArray) (j : Nat) (h : j < s.size) : (s[j].toNat : Int) = bt s j := by
  unfold bt
  have h' : j < s.data.toList.length := by simpa using h
  rw [List.getD_eq_getElem?_getD, List.getElem?_eq_getElem h']
  rfl
theorem bt_bd (s : ByteArray) (j : Nat) : 0 ≤ bt s j ∧ bt s j ≤ 255 := by
  unfold bt
  have := (s.data.toList.getD j 0).toNat_lt
  omega

theorem wraps_i64 (n : Int) (h0 : 0 ≤ n) (h1 : n < 2 ^ 62) : IntKind.i64.wrap n = n := by rw [IntKind.wrap_i64]; omega
theorem or64 (a b : Int) (i : Nat) (hi : i ≤ 62) (a0 : 0 ≤ a) (a1 : a < 2 ^ i) (b0 : 0 ≤ b) (b1 : b % 2 ^ i = 0) (b2 : b < 2 ^ 62) (a2 : a < 2 ^ 62) : bits .or .i64 a b = a + b := by
  have h := bits_join .i64 62 (by decide) wraps_i64 i b a b0 b1 b2 a0 a1 a2
  obtain ⟨x, rfl⟩ := Int.eq_ofNat_of_zero_le a0
  obtain ⟨y, rfl⟩ := Int.eq_ofNat_of_zero_le b0
  have hx : x < 2 ^ 62 := by exact_mod_cast a2
  have hy : y < 2 ^ 62 := by exact_mod_cast b2
  rw [(bits_nat .i64 62 (by decide) wraps_i64 y x hy hx).2] at h
  rw [(bits_nat .i64 62 (by decide) wraps_i64 x y hx hy).2, Nat.or_comm, h]
  omega
theorem or64_0 (x : Int) (h0 : 0 ≤ x) (h1 : x ≤ 255) : bits .or .i64 0 (wrap64 (wrap64 x)) = x := by
  have e : wrap64 (wrap64 x) = x := by unfold wrap64; omega
  rw [e, or64 0 x 0 (by decide) (by decide) (by decide) h0 (by omega) (by omega) (by decide)]
  omega
theorem ret2_int {k : IntKind} {a b : Int} {v : Value} (h : a = b) : Ending.returned (.tuple #[.int k a, v]) = .returned (.tuple #[.int k b, v]) := by rw [h]
theorem ors_1 (x0 : Int) (h0 : 0 ≤ x0 ∧ x0 ≤ 255) : bits BinOp.or IntKind.i64 0 (wrap64 (wrap64 x0)) = leNum [x0] := by
  rw [or64_0 x0 (by omega) (by omega)]
  simp only [leNum]
  omega
set_option maxHeartbeats 400000 in
theorem get_1 (s : ByteArray) (p : Nat) (w : World) (hs : s.size ≤ maxLen) (h : p + 1 ≤ s.size) :
    Calls Try.prog 71 #[.string s, .int .i64 p, .int .i64 1] w fun e w' => e = .returned (.tuple #[.int .i64 (leNum (bytesAt s p 1)), .int .i64 0]) ∧ w = w' := by
  unfold maxLen at hs
  go_enter Try.func71, Try.ntmps71
  go_wp2_with (go_at_call 72; refine (isWidth_yes _ _ (by omega) (by omega)).mono ?_; rintro e w' ⟨rfl, rfl⟩)
  refine wp_loop_rounds 2 ?_
  rw [rounds_succ]
  go_wp2
  rw [rounds_succ]
  go_wp2
  go_ret2
  refine ⟨ret2_int ?_, rfl⟩
  have := ors_1 (bt s p) (bt_bd _ _)
  simp only [bytesAt]
  rw [← this, ← bt_eq s p (by omega)]
theorem get_short (s : ByteArray) (a b : Int) (w : World) (hs : s.size ≤ maxLen) (ha : 0 ≤ a) (h1 : 1 ≤ b) (h2 : b ≤ 4) (h : (s.size : Int) - b < a) :
    Calls Try.prog 71 #[.string s, .int .i64 a, .int .i64 b] w fun e w' => e = .returned (.tuple #[.int .i64 0, .int .i64 5]) ∧ w = w' := by
  unfold maxLen at hs
  go_enter Try.func71, Try.ntmps71
  go_wp2_with (go_at_call 72; refine (isWidth_yes _ _ (by omega) (by omega)).mono ?_; rintro e w' ⟨rfl, rfl⟩)
  go_ret2
  exact ⟨rfl, rfl⟩
end Go.Proofs.Ytcnmbpgjgjncdaa
