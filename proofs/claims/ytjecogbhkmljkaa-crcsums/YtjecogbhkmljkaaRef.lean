/- The document's own answer for layer 1 (Put, Get, Clamp, Mod, Sat, and what they call) returns the same plain functions' values as package num's contracts; conditions: the arguments fit int. -/
import Derived.Test.YtjecogbhkmljkaaPut
import Derived.Test.YtjecogbhkmljkaaGet
namespace Go.Proofs.Ytjecogbhkmljkaa
open Go.ChangeShapes Go.WideShapes Go.ChangeAt Go.RowKit
set_option linter.unusedVariables false
theorem rclamp_any (n lo hi : Int) (w : World) :
    Calls Try.prog 15 #[.int .i64 n, .int .i64 lo, .int .i64 hi] w fun e w' => e = .returned (.int .i64 (clampF n lo hi)) ∧ w = w' := by
  by_cases h1 : n < lo
  · have e : clampF n lo hi = lo := by unfold clampF; rw [if_pos (Or.inl h1)]
    rw [e]; clear e
    go_enter Try.func15, Try.ntmps15
    go_wp2
    go_ret
    exact ⟨rfl, rfl⟩
  · by_cases h2 : hi < lo
    · have e : clampF n lo hi = lo := by unfold clampF; rw [if_pos (Or.inr h2)]
      rw [e]; clear e
      go_enter Try.func15, Try.ntmps15
      go_wp2
      go_ret
      exact ⟨rfl, rfl⟩
    · by_cases h3 : n ≤ hi
      · have e : clampF n lo hi = n := by unfold clampF; rw [if_neg (by omega), if_pos h3]
        rw [e]; clear e
        go_enter Try.func15, Try.ntmps15
        go_wp2
        go_ret
        exact ⟨rfl, rfl⟩
      · have e : clampF n lo hi = hi := by unfold clampF; rw [if_neg (by omega), if_neg h3]
        rw [e]; clear e
        go_enter Try.func15, Try.ntmps15
        go_wp2
        go_ret
        exact ⟨rfl, rfl⟩

theorem rmod_any (n b : Int) (w : World) (hn : (Lit.int .i64 n).wf = true) (hb : (Lit.int .i64 b).wf = true) :
    Calls Try.prog 17 #[.int .i64 n, .int .i64 b] w fun e w' => e = .returned (.int .i64 (modF n b)) ∧ w = w' := by
  have bn := bd64 hn
  have bb := bd64 hb
  by_cases h1 : b < 1
  · have e : modF n b = 0 := by unfold modF; rw [if_pos h1]
    rw [e]; clear e
    go_enter Try.func17, Try.ntmps17
    go_wp2
    go_ret
    exact ⟨rfl, rfl⟩
  · by_cases h2 : n.tmod b < 0
    · have e : modF n b = n.tmod b + b := by unfold modF; rw [if_neg h1, if_pos h2]
      rw [e]; clear e
      have hr : -b < n.tmod b := by have := Int.lt_tmod_of_pos n (show 0 < b by omega); omega
      go_enter Try.func17, Try.ntmps17
      go_wp2
      go_ret
      exact ⟨rfl, rfl⟩
    · have e : modF n b = n.tmod b := by unfold modF; rw [if_neg h1, if_neg h2]
      rw [e]; clear e
      go_enter Try.func17, Try.ntmps17
      go_wp2
      go_ret
      exact ⟨rfl, rfl⟩

theorem rsat_any (n m : Int) (w : World) (hn : (Lit.int .i64 n).wf = true) (hm : (Lit.int .i64 m).wf = true) :
    Calls Try.prog 19 #[.int .i64 n, .int .i64 m] w fun e w' => e = .returned (.int .i64 (satF n m)) ∧ w = w' := by
  have bn := bd64 hn
  have bb := bd64 hm
  by_cases h1 : n < 0
  · have e : satF n m = 0 := by unfold satF; rw [if_pos (Or.inl h1)]
    rw [e]; clear e
    go_enter Try.func19, Try.ntmps19
    go_wp2
    go_ret
    exact ⟨rfl, rfl⟩
  · by_cases h2 : m < 0
    · have e : satF n m = 0 := by unfold satF; rw [if_pos (Or.inr h2)]
      rw [e]; clear e
      go_enter Try.func19, Try.ntmps19
      go_wp2
      go_ret
      exact ⟨rfl, rfl⟩
    · by_cases h3 : m ≤ n
      · have e : satF n m = m := by unfold satF; rw [if_neg (by omega), if_pos h3]
        rw [e]; clear e
        go_enter Try.func19, Try.ntmps19
        go_wp2
        go_ret
        exact ⟨rfl, rfl⟩
      · have e : satF n m = n + 1 := by unfold satF; rw [if_neg (by omega), if_neg h3]
        rw [e]; clear e
        go_enter Try.func19, Try.ntmps19
        go_wp2
        go_ret
        exact ⟨rfl, rfl⟩

theorem rbyte_any (n : Int) (w : World) :
    Calls Try.prog 29 #[.int .i64 n] w fun e w' => e = .returned (.string (numStr [n % 256])) ∧ Below w.heap.size w w' := by
  have hcv := conv_cells w [n % 256] 1
  simp only [List.map_cons, List.map_nil, List.length_cons, List.length_nil, Nat.zero_add] at hcv
  go_enter Try.func29, Try.ntmps29
  go_wp2
  go_ret
  exact ⟨rfl, (Below.refl _ _).alloc (Nat.le_refl _) _⟩
theorem numStr_size (zs : List Int) : (numStr zs).size = zs.length := by simp [numStr, ByteArray.size]
theorem numStr_append (a b : List Int) : numStr a ++ numStr b = numStr (a ++ b) := by
  apply ByteArray.ext
  simp [numStr, ByteArray.data_append]
theorem numStr_nil : (ByteArray.mk #[]) = numStr [] := rfl
theorem ret2_str {a b : ByteArray} {v : Value} (h : a = b) : Ending.returned (.tuple #[.string a, v]) = .returned (.tuple #[.string b, v]) := by rw [h]

theorem rroom_1 (w : World) : Calls Try.prog 28 #[.int .i64 1] w fun e w' => e = .returned (.int .i64 256) ∧ w = w' := by
  go_enter Try.func28, Try.ntmps28
  go_wp2
  refine wp_loop_rounds 2 ?_
  rw [rounds_succ]
  go_wp2
  rw [rounds_succ]
  go_wp2
  go_ret
  exact ⟨rfl, rfl⟩
set_option maxHeartbeats 400000 in
theorem rput_1 (n : Int) (w : World) (h0 : 0 ≤ n) (h1 : n < 256) :
    Calls Try.prog 10 #[.int .i64 n, .int .i64 1] w fun e w' => e = .returned (.tuple #[.string (numStr (leInts n 1)), .int .i64 0]) ∧ Below w.heap.size w w' := by
  have hz0 : decide (n < 0) = false := by simp; omega
  have hs : ∀ z, (numStr [z]).size = 1 := fun z => numStr_size [z]
  go_enter Try.func10, Try.ntmps10
  go_wp2_with (go_at_call 28; refine (rroom_1 _).mono ?_; rintro e w' ⟨rfl, rfl⟩)
  refine wp_loop_rounds 2 ?_
  rw [rounds_succ]
  go_wp2_with fail
  refine (rbyte_any _ _).mono ?_
  rintro e w1 ⟨rfl, hb1⟩
  go_wp2
  rw [rounds_succ]
  go_wp2
  go_ret2
  refine ⟨ret2_str ?_, ?_⟩
  · rw [numStr_nil]
    simp only [numStr_append, leInts, List.nil_append]
  · have g1 := hb1
    exact g1
theorem rput_long_1 (n : Int) (w : World) (h1 : 256 ≤ n) (h2 : n ≤ 9223372036854775807) :
    Calls Try.prog 10 #[.int .i64 n, .int .i64 1] w fun e w' => e = .returned (.tuple #[.string ⟨#[]⟩, .int .i64 6]) ∧ w = w' := by
  have hz0 : decide (n < 0) = false := by simp; omega
  go_enter Try.func10, Try.ntmps10
  go_wp2_with (go_at_call 28; refine (rroom_1 _).mono ?_; rintro e w' ⟨rfl, rfl⟩)
  go_ret2
  exact ⟨rfl, rfl⟩
set_option maxHeartbeats 400000 in
theorem rget_1 (s : ByteArray) (p : Nat) (w : World) (hs : s.size ≤ maxLen) (h : p + 1 ≤ s.size) :
    Calls Try.prog 12 #[.string s, .int .i64 p, .int .i64 1] w fun e w' => e = .returned (.tuple #[.int .i64 (leNum (bytesAt s p 1)), .int .i64 0]) ∧ w = w' := by
  unfold maxLen at hs
  have hd0 : decide ((p : Int) < 0) = false := by simp
  have c0 := s[p].toNat_lt
  go_enter Try.func12, Try.ntmps12
  go_wp2
  refine wp_loop_rounds 2 ?_
  rw [rounds_succ]
  go_wp2
  rw [rounds_succ]
  go_wp2
  go_ret2
  refine ⟨ret2_int ?_, rfl⟩
  simp only [bytesAt, leNum]
  rw [← bt_eq s p (by omega)]
  omega

theorem rroom_2 (w : World) : Calls Try.prog 28 #[.int .i64 2] w fun e w' => e = .returned (.int .i64 65536) ∧ w = w' := by
  go_enter Try.func28, Try.ntmps28
  go_wp2
  refine wp_loop_rounds 3 ?_
  rw [rounds_succ]
  go_wp2
  rw [rounds_succ]
  go_wp2
  rw [rounds_succ]
  go_wp2
  go_ret
  exact ⟨rfl, rfl⟩
set_option maxHeartbeats 400000 in
theorem rput_2 (n : Int) (w : World) (h0 : 0 ≤ n) (h1 : n < 65536) :
    Calls Try.prog 10 #[.int .i64 n, .int .i64 2] w fun e w' => e = .returned (.tuple #[.string (numStr (leInts n 2)), .int .i64 0]) ∧ Below w.heap.size w w' := by
  have hz0 : decide (n < 0) = false := by simp; omega
  have hs : ∀ z, (numStr [z]).size = 1 := fun z => numStr_size [z]
  go_enter Try.func10, Try.ntmps10
  go_wp2_with (go_at_call 28; refine (rroom_2 _).mono ?_; rintro e w' ⟨rfl, rfl⟩)
  refine wp_loop_rounds 3 ?_
  rw [rounds_succ]
  go_wp2_with fail
  refine (rbyte_any _ _).mono ?_
  rintro e w1 ⟨rfl, hb1⟩
  go_wp2
  rw [rounds_succ]
  go_wp2_with fail
  refine (rbyte_any _ _).mono ?_
  rintro e w2 ⟨rfl, hb2⟩
  go_wp2
  rw [rounds_succ]
  go_wp2
  go_ret2
  refine ⟨ret2_str ?_, ?_⟩
  · rw [numStr_nil]
    simp only [numStr_append, leInts, List.cons_append, List.nil_append]
  · have g1 := hb1
    have g2 := g1.trans (hb2.mono g1.size)
    exact g2
theorem rput_long_2 (n : Int) (w : World) (h1 : 65536 ≤ n) (h2 : n ≤ 9223372036854775807) :
    Calls Try.prog 10 #[.int .i64 n, .int .i64 2] w fun e w' => e = .returned (.tuple #[.string ⟨#[]⟩, .int .i64 6]) ∧ w = w' := by
  have hz0 : decide (n < 0) = false := by simp; omega
  go_enter Try.func10, Try.ntmps10
  go_wp2_with (go_at_call 28; refine (rroom_2 _).mono ?_; rintro e w' ⟨rfl, rfl⟩)
  go_ret2
  exact ⟨rfl, rfl⟩
set_option maxHeartbeats 400000 in
theorem rget_2 (s : ByteArray) (p : Nat) (w : World) (hs : s.size ≤ maxLen) (h : p + 2 ≤ s.size) :
    Calls Try.prog 12 #[.string s, .int .i64 p, .int .i64 2] w fun e w' => e = .returned (.tuple #[.int .i64 (leNum (bytesAt s p 2)), .int .i64 0]) ∧ w = w' := by
  unfold maxLen at hs
  have hd0 : decide ((p : Int) < 0) = false := by simp
  have c0 := s[p].toNat_lt
  have c1 := s[p + 1].toNat_lt
  go_enter Try.func12, Try.ntmps12
  go_wp2
  refine wp_loop_rounds 3 ?_
  rw [rounds_succ]
  go_wp2
  rw [rounds_succ]
  go_wp2
  rw [rounds_succ]
  go_wp2
  go_ret2
  refine ⟨ret2_int ?_, rfl⟩
  simp only [bytesAt, leNum]
  rw [← bt_eq s p (by omega), ← bt_eq s (p + 1) (by omega)]
  omega

theorem rroom_3 (w : World) : Calls Try.prog 28 #[.int .i64 3] w fun e w' => e = .returned (.int .i64 16777216) ∧ w = w' := by
  go_enter Try.func28, Try.ntmps28
  go_wp2
  refine wp_loop_rounds 4 ?_
  rw [rounds_succ]
  go_wp2
  rw [rounds_succ]
  go_wp2
  rw [rounds_succ]
  go_wp2
  rw [rounds_succ]
  go_wp2
  go_ret
  exact ⟨rfl, rfl⟩
set_option maxHeartbeats 400000 in
theorem rput_3 (n : Int) (w : World) (h0 : 0 ≤ n) (h1 : n < 16777216) :
    Calls Try.prog 10 #[.int .i64 n, .int .i64 3] w fun e w' => e = .returned (.tuple #[.string (numStr (leInts n 3)), .int .i64 0]) ∧ Below w.heap.size w w' := by
  have hz0 : decide (n < 0) = false := by simp; omega
  have hs : ∀ z, (numStr [z]).size = 1 := fun z => numStr_size [z]
  go_enter Try.func10, Try.ntmps10
  go_wp2_with (go_at_call 28; refine (rroom_3 _).mono ?_; rintro e w' ⟨rfl, rfl⟩)
  refine wp_loop_rounds 4 ?_
  rw [rounds_succ]
  go_wp2_with fail
  refine (rbyte_any _ _).mono ?_
  rintro e w1 ⟨rfl, hb1⟩
  go_wp2
  rw [rounds_succ]
  go_wp2_with fail
  refine (rbyte_any _ _).mono ?_
  rintro e w2 ⟨rfl, hb2⟩
  go_wp2
  rw [rounds_succ]
  go_wp2_with fail
  refine (rbyte_any _ _).mono ?_
  rintro e w3 ⟨rfl, hb3⟩
  go_wp2
  rw [rounds_succ]
  go_wp2
  go_ret2
  refine ⟨ret2_str ?_, ?_⟩
  · rw [numStr_nil]
    simp only [numStr_append, leInts, List.cons_append, List.nil_append]
  · have g1 := hb1
    have g2 := g1.trans (hb2.mono g1.size)
    have g3 := g2.trans (hb3.mono g2.size)
    exact g3
theorem rput_long_3 (n : Int) (w : World) (h1 : 16777216 ≤ n) (h2 : n ≤ 9223372036854775807) :
    Calls Try.prog 10 #[.int .i64 n, .int .i64 3] w fun e w' => e = .returned (.tuple #[.string ⟨#[]⟩, .int .i64 6]) ∧ w = w' := by
  have hz0 : decide (n < 0) = false := by simp; omega
  go_enter Try.func10, Try.ntmps10
  go_wp2_with (go_at_call 28; refine (rroom_3 _).mono ?_; rintro e w' ⟨rfl, rfl⟩)
  go_ret2
  exact ⟨rfl, rfl⟩
set_option maxHeartbeats 400000 in
theorem rget_3 (s : ByteArray) (p : Nat) (w : World) (hs : s.size ≤ maxLen) (h : p + 3 ≤ s.size) :
    Calls Try.prog 12 #[.string s, .int .i64 p, .int .i64 3] w fun e w' => e = .returned (.tuple #[.int .i64 (leNum (bytesAt s p 3)), .int .i64 0]) ∧ w = w' := by
  unfold maxLen at hs
  have hd0 : decide ((p : Int) < 0) = false := by simp
  have c0 := s[p].toNat_lt
  have c1 := s[p + 1].toNat_lt
  have c2 := s[p + 2].toNat_lt
  go_enter Try.func12, Try.ntmps12
  go_wp2
  refine wp_loop_rounds 4 ?_
  rw [rounds_succ]
  go_wp2
  rw [rounds_succ]
  go_wp2
  rw [rounds_succ]
  go_wp2
  rw [rounds_succ]
  go_wp2
  go_ret2
  refine ⟨ret2_int ?_, rfl⟩
  simp only [bytesAt, leNum, Nat.add_assoc, Nat.reduceAdd]
  rw [← bt_eq s p (by omega), ← bt_eq s (p + 1) (by omega), ← bt_eq s (p + 2) (by omega)]
  omega

theorem rroom_4 (w : World) : Calls Try.prog 28 #[.int .i64 4] w fun e w' => e = .returned (.int .i64 4294967296) ∧ w = w' := by
  go_enter Try.func28, Try.ntmps28
  go_wp2
  refine wp_loop_rounds 5 ?_
  rw [rounds_succ]
  go_wp2
  rw [rounds_succ]
  go_wp2
  rw [rounds_succ]
  go_wp2
  rw [rounds_succ]
  go_wp2
  rw [rounds_succ]
  go_wp2
  go_ret
  exact ⟨rfl, rfl⟩
set_option maxHeartbeats 400000 in
theorem rput_4 (n : Int) (w : World) (h0 : 0 ≤ n) (h1 : n < 4294967296) :
    Calls Try.prog 10 #[.int .i64 n, .int .i64 4] w fun e w' => e = .returned (.tuple #[.string (numStr (leInts n 4)), .int .i64 0]) ∧ Below w.heap.size w w' := by
  have hz0 : decide (n < 0) = false := by simp; omega
  have hs : ∀ z, (numStr [z]).size = 1 := fun z => numStr_size [z]
  go_enter Try.func10, Try.ntmps10
  go_wp2_with (go_at_call 28; refine (rroom_4 _).mono ?_; rintro e w' ⟨rfl, rfl⟩)
  refine wp_loop_rounds 5 ?_
  rw [rounds_succ]
  go_wp2_with fail
  refine (rbyte_any _ _).mono ?_
  rintro e w1 ⟨rfl, hb1⟩
  go_wp2
  rw [rounds_succ]
  go_wp2_with fail
  refine (rbyte_any _ _).mono ?_
  rintro e w2 ⟨rfl, hb2⟩
  go_wp2
  rw [rounds_succ]
  go_wp2_with fail
  refine (rbyte_any _ _).mono ?_
  rintro e w3 ⟨rfl, hb3⟩
  go_wp2
  rw [rounds_succ]
  go_wp2_with fail
  refine (rbyte_any _ _).mono ?_
  rintro e w4 ⟨rfl, hb4⟩
  go_wp2
  rw [rounds_succ]
  go_wp2
  go_ret2
  refine ⟨ret2_str ?_, ?_⟩
  · rw [numStr_nil]
    simp only [numStr_append, leInts, List.cons_append, List.nil_append]
  · have g1 := hb1
    have g2 := g1.trans (hb2.mono g1.size)
    have g3 := g2.trans (hb3.mono g2.size)
    have g4 := g3.trans (hb4.mono g3.size)
    exact g4
theorem rput_long_4 (n : Int) (w : World) (h1 : 4294967296 ≤ n) (h2 : n ≤ 9223372036854775807) :
    Calls Try.prog 10 #[.int .i64 n, .int .i64 4] w fun e w' => e = .returned (.tuple #[.string ⟨#[]⟩, .int .i64 6]) ∧ w = w' := by
  have hz0 : decide (n < 0) = false := by simp; omega
  go_enter Try.func10, Try.ntmps10
  go_wp2_with (go_at_call 28; refine (rroom_4 _).mono ?_; rintro e w' ⟨rfl, rfl⟩)
  go_ret2
  exact ⟨rfl, rfl⟩
set_option maxHeartbeats 400000 in
theorem rget_4 (s : ByteArray) (p : Nat) (w : World) (hs : s.size ≤ maxLen) (h : p + 4 ≤ s.size) :
    Calls Try.prog 12 #[.string s, .int .i64 p, .int .i64 4] w fun e w' => e = .returned (.tuple #[.int .i64 (leNum (bytesAt s p 4)), .int .i64 0]) ∧ w = w' := by
  unfold maxLen at hs
  have hd0 : decide ((p : Int) < 0) = false := by simp
  have c0 := s[p].toNat_lt
  have c1 := s[p + 1].toNat_lt
  have c2 := s[p + 2].toNat_lt
  have c3 := s[p + 3].toNat_lt
  go_enter Try.func12, Try.ntmps12
  go_wp2
  refine wp_loop_rounds 5 ?_
  rw [rounds_succ]
  go_wp2
  rw [rounds_succ]
  go_wp2
  rw [rounds_succ]
  go_wp2
  rw [rounds_succ]
  go_wp2
  rw [rounds_succ]
  go_wp2
  go_ret2
  refine ⟨ret2_int ?_, rfl⟩
  simp only [bytesAt, leNum, Nat.add_assoc, Nat.reduceAdd]
  rw [← bt_eq s p (by omega), ← bt_eq s (p + 1) (by omega), ← bt_eq s (p + 2) (by omega), ← bt_eq s (p + 3) (by omega)]
  omega

theorem rput_below (n b : Int) (w : World) (h0 : n < 0) (h1 : 1 ≤ b) (h2 : b ≤ 4) :
    Calls Try.prog 10 #[.int .i64 n, .int .i64 b] w fun e w' => e = .returned (.tuple #[.string ⟨#[]⟩, .int .i64 6]) ∧ w = w' := by
  go_enter Try.func10, Try.ntmps10
  go_wp2
  go_ret2
  exact ⟨rfl, rfl⟩
theorem rput_arg (n b : Int) (w : World) (h : b < 1 ∨ 4 < b) :
    Calls Try.prog 10 #[.int .i64 n, .int .i64 b] w fun e w' => e = .returned (.tuple #[.string ⟨#[]⟩, .int .i64 2]) ∧ w = w' := by
  rcases h with h | h
  · go_enter Try.func10, Try.ntmps10
    go_wp2
    go_ret2
    exact ⟨rfl, rfl⟩
  · have h' : 1 ≤ b := by omega
    go_enter Try.func10, Try.ntmps10
    go_wp2
    go_ret2
    exact ⟨rfl, rfl⟩
theorem rput_any (n b : Int) (w : World) (hn : (Lit.int .i64 n).wf = true) :
    Calls Try.prog 10 #[.int .i64 n, .int .i64 b] w fun e w' => e = .returned (.tuple #[.string (putF n b).1, .int .i64 (putF n b).2]) ∧ Below w.heap.size w w' := by
  have bn := bd64 hn
  by_cases hb : b < 1 ∨ 4 < b
  · rw [putF_arg n b hb]
    exact (rput_arg n b w hb).mono fun e w' ⟨h, g⟩ => ⟨h, by subst g; exact Below.refl _ _⟩
  · by_cases h0 : n < 0
    · rw [putF_long n b (by omega) (by omega) (Or.inl h0)]
      exact (rput_below n b w h0 (by omega) (by omega)).mono fun e w' ⟨h, g⟩ => ⟨h, by subst g; exact Below.refl _ _⟩
    · obtain rfl | rfl | rfl | rfl : b = 1 ∨ b = 2 ∨ b = 3 ∨ b = 4 := by omega
      · by_cases h1 : n < 256
        · rw [putF_ok n 1 (by omega) (by omega) (by omega) (by simpa using h1)]
          exact rput_1 n w (by omega) h1
        · rw [putF_long n 1 (by omega) (by omega) (Or.inr (by simp; omega))]
          exact (rput_long_1 n w (by omega) (by omega)).mono fun e w' ⟨h, g⟩ => ⟨h, by subst g; exact Below.refl _ _⟩
      · by_cases h1 : n < 65536
        · rw [putF_ok n 2 (by omega) (by omega) (by omega) (by simpa using h1)]
          exact rput_2 n w (by omega) h1
        · rw [putF_long n 2 (by omega) (by omega) (Or.inr (by simp; omega))]
          exact (rput_long_2 n w (by omega) (by omega)).mono fun e w' ⟨h, g⟩ => ⟨h, by subst g; exact Below.refl _ _⟩
      · by_cases h1 : n < 16777216
        · rw [putF_ok n 3 (by omega) (by omega) (by omega) (by simpa using h1)]
          exact rput_3 n w (by omega) h1
        · rw [putF_long n 3 (by omega) (by omega) (Or.inr (by simp; omega))]
          exact (rput_long_3 n w (by omega) (by omega)).mono fun e w' ⟨h, g⟩ => ⟨h, by subst g; exact Below.refl _ _⟩
      · by_cases h1 : n < 4294967296
        · rw [putF_ok n 4 (by omega) (by omega) (by omega) (by simpa using h1)]
          exact rput_4 n w (by omega) h1
        · rw [putF_long n 4 (by omega) (by omega) (Or.inr (by simp; omega))]
          exact (rput_long_4 n w (by omega) (by omega)).mono fun e w' ⟨h, g⟩ => ⟨h, by subst g; exact Below.refl _ _⟩

theorem rget_short (s : ByteArray) (a b : Int) (w : World) (hs : s.size ≤ maxLen) (ha : 0 ≤ a) (h1 : 1 ≤ b) (h2 : b ≤ 4) (h : (s.size : Int) - b < a) :
    Calls Try.prog 12 #[.string s, .int .i64 a, .int .i64 b] w fun e w' => e = .returned (.tuple #[.int .i64 0, .int .i64 5]) ∧ w = w' := by
  unfold maxLen at hs
  by_cases hc : (s.size : Int) < a
  · go_enter Try.func12, Try.ntmps12
    go_wp2
    go_ret2
    exact ⟨rfl, rfl⟩
  · have hd : (s.size : Int) - a < b := by omega
    go_enter Try.func12, Try.ntmps12
    go_wp2
    go_ret2
    exact ⟨rfl, rfl⟩
theorem rget_arg (s : ByteArray) (a b : Int) (w : World) (h : b < 1 ∨ 4 < b) :
    Calls Try.prog 12 #[.string s, .int .i64 a, .int .i64 b] w fun e w' => e = .returned (.tuple #[.int .i64 0, .int .i64 2]) ∧ w = w' := by
  rcases h with h | h
  · go_enter Try.func12, Try.ntmps12
    go_wp2
    go_ret2
    exact ⟨rfl, rfl⟩
  · have h' : 1 ≤ b := by omega
    go_enter Try.func12, Try.ntmps12
    go_wp2
    go_ret2
    exact ⟨rfl, rfl⟩
theorem rget_below (s : ByteArray) (a b : Int) (w : World) (h1 : 1 ≤ b) (h2 : b ≤ 4) (h : a < 0) :
    Calls Try.prog 12 #[.string s, .int .i64 a, .int .i64 b] w fun e w' => e = .returned (.tuple #[.int .i64 0, .int .i64 2]) ∧ w = w' := by
  go_enter Try.func12, Try.ntmps12
  go_wp2
  go_ret2
  exact ⟨rfl, rfl⟩
theorem rget_any (s : ByteArray) (a b : Int) (w : World) (hs : s.size ≤ maxLen) :
    Calls Try.prog 12 #[.string s, .int .i64 a, .int .i64 b] w fun e w' => e = .returned (.tuple #[.int .i64 (getF s a b).1, .int .i64 (getF s a b).2]) ∧ w = w' := by
  by_cases hb : b < 1 ∨ 4 < b
  · rw [getF_arg s a b (by omega)]
    exact rget_arg s a b w hb
  · by_cases h0 : a < 0
    · rw [getF_arg s a b (by omega)]
      exact rget_below s a b w (by omega) (by omega) h0
    · by_cases h1 : (s.size : Int) - b < a
      · rw [getF_short s a b (by omega) (by omega) (by omega) h1]
        exact rget_short s a b w hs (by omega) (by omega) (by omega) h1
      · rw [getF_ok s a b (by omega) (by omega) (by omega) (by omega)]
        obtain ⟨p, rfl⟩ := Int.eq_ofNat_of_zero_le (show 0 ≤ a by omega)
        obtain rfl | rfl | rfl | rfl : b = 1 ∨ b = 2 ∨ b = 3 ∨ b = 4 := by omega
        · exact rget_1 s p w hs (by omega)
        · exact rget_2 s p w hs (by omega)
        · exact rget_3 s p w hs (by omega)
        · exact rget_4 s p w hs (by omega)
end Go.Proofs.Ytjecogbhkmljkaa
