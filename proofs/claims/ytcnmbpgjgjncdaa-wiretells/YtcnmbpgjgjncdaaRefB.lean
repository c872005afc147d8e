/- The document's own Byte, and its Put at width 4, return the bytes that plain functions give, and make at most new memory; conditions: the numbers fit. -/
import Derived.Test.YtcnmbpgjgjncdaaPut
namespace Go.Proofs.Ytcnmbpgjgjncdaa
open Go.ChangeShapes Go.WideShapes Go.ChangeAt Go.RowKit
set_option linter.unusedVariables false

theorem rbyte_any (n : Int) (w : World) :
    Calls Try.prog 51 #[.int .i64 n] w fun e w' => e = .returned (.string (numStr [n % 256])) ∧ Below w.heap.size w w' := by
  have hcv := conv_cells w [n % 256] 1
  simp only [List.map_cons, List.map_nil, List.length_cons, List.length_nil, Nat.zero_add] at hcv
  go_enter Try.func51, Try.ntmps51
  go_wp2
  go_ret
  exact ⟨rfl, (Below.refl _ _).alloc (Nat.le_refl _) _⟩
theorem numStr_size (zs : List Int) : (numStr zs).size = zs.length := by simp [numStr, ByteArray.size]
theorem numStr_append (a b : List Int) : numStr a ++ numStr b = numStr (a ++ b) := by
  apply ByteArray.ext
  simp [numStr, ByteArray.data_append]
theorem numStr_nil : (ByteArray.mk #[]) = numStr [] := rfl
theorem ret2_str {a b : ByteArray} {v : Value} (h : a = b) : Ending.returned (.tuple #[.string a, v]) = .returned (.tuple #[.string b, v]) := by rw [h]

theorem rroom_4 (w : World) : Calls Try.prog 74 #[.int .i64 4] w fun e w' => e = .returned (.int .i64 4294967296) ∧ w = w' := by
  go_enter Try.func74, Try.ntmps74
  go_wp2
  refine wp_loop_rounds 5 ?_
  rw [rounds_succ]
  go_wp2
  rw [rounds_succ]
  go_wp2
  rw [rounds_succ]
  go_wp2
  rw [rounds_succ]
  go_wp2
  rw [rounds_succ]
  go_wp2
  go_ret
  exact ⟨rfl, rfl⟩
set_option maxHeartbeats 400000 in
theorem rput_4 (n : Int) (w : World) (h0 : 0 ≤ n) (h1 : n < 4294967296) :
    Calls Try.prog 68 #[.int .i64 n, .int .i64 4] w fun e w' => e = .returned (.tuple #[.string (numStr (leInts n 4)), .int .i64 0]) ∧ Below w.heap.size w w' := by
  have hz0 : decide (n < 0) = false := by simp; omega
  have hs : ∀ z, (numStr [z]).size = 1 := fun z => numStr_size [z]
  go_enter Try.func68, Try.ntmps68
  go_wp2_with (go_at_call 74; refine (rroom_4 _).mono ?_; rintro e w' ⟨rfl, rfl⟩)
  refine wp_loop_rounds 5 ?_
  rw [rounds_succ]
  go_wp2_with fail
  refine (rbyte_any _ _).mono ?_
  rintro e w1 ⟨rfl, hb1⟩
  go_wp2
  rw [rounds_succ]
  go_wp2_with fail
  refine (rbyte_any _ _).mono ?_
  rintro e w2 ⟨rfl, hb2⟩
  go_wp2
  rw [rounds_succ]
  go_wp2_with fail
  refine (rbyte_any _ _).mono ?_
  rintro e w3 ⟨rfl, hb3⟩
  go_wp2
  rw [rounds_succ]
  go_wp2_with fail
  refine (rbyte_any _ _).mono ?_
  rintro e w4 ⟨rfl, hb4⟩
  go_wp2
  rw [rounds_succ]
  go_wp2
  go_ret2
  refine ⟨ret2_str ?_, ?_⟩
  · rw [numStr_nil]
    simp only [numStr_append, leInts, List.cons_append, List.nil_append]
  · have g1 := hb1
    have g2 := g1.trans (hb2.mono g1.size)
    have g3 := g2.trans (hb3.mono g2.size)
    have g4 := g3.trans (hb4.mono g3.size)
    exact g4
end Go.Proofs.Ytcnmbpgjgjncdaa
