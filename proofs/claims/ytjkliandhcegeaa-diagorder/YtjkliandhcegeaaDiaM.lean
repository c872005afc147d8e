/- Plain words on counters: six numbers, one more of each kind, within limits, together; two that are alike compare as equal; no conditions. -/
import Derived.Test.YtjkliandhcegeaaNum
import Derived.Test.YtjkliandhcegeaaRowI
namespace Go.Proofs.Ytjkliandhcegeaa
open Go.ChangeShapes Go.WideShapes Go.ChangeAt Go.RowKit
set_option linter.unusedVariables false

theorem six_congr {x y : Nat → Int} (h : ∀ i, i < 6 → x i = y i) : (#[.int .i64 (x 0), .int .i64 (x 1), .int .i64 (x 2), .int .i64 (x 3), .int .i64 (x 4), .int .i64 (x 5)] : Array Value) = #[.int .i64 (y 0), .int .i64 (y 1), .int .i64 (y 2), .int .i64 (y 3), .int .i64 (y 4), .int .i64 (y 5)] := by
  rw [h 0 (by decide), h 1 (by decide), h 2 (by decide), h 3 (by decide), h 4 (by decide), h 5 (by decide)]
theorem under6 : Try.prog.underlying 22 = some (.array 6 3) := by kernel_rfl
theorem eqi (d : Nat) (w : World) (a : Int) : (Op.equalIn (d + 1) 3 (.int .i64 a) (.int .i64 a)).run Try.prog w = .ok true w := by
  rw [run_equalIn_int w d 3 .i64 .i64 a a Try.underlying3]; simp
theorem equalIn_six (d : Nat) (w : World) (x : Nat → Int) : (Op.equalIn (d + 2) 22 (.agg #[.int .i64 (x 0), .int .i64 (x 1), .int .i64 (x 2), .int .i64 (x 3), .int .i64 (x 4), .int .i64 (x 5)]) (.agg #[.int .i64 (x 0), .int .i64 (x 1), .int .i64 (x 2), .int .i64 (x 3), .int .i64 (x 4), .int .i64 (x 5)])).run Try.prog w = .ok true w := by
  have hz : ∀ w, (sizeOf 3).run Try.prog w = .ok 1 w := fun w => by rfl
  have h0 : ∀ (w : World), (part 3 (#[.int .i64 (x 0), .int .i64 (x 1), .int .i64 (x 2), .int .i64 (x 3), .int .i64 (x 4), .int .i64 (x 5)] : Array Value) 0).run Try.prog w = .ok (.int .i64 (x 0)) w := fun w => rfl
  have h1 : ∀ (w : World), (part 3 (#[.int .i64 (x 0), .int .i64 (x 1), .int .i64 (x 2), .int .i64 (x 3), .int .i64 (x 4), .int .i64 (x 5)] : Array Value) 1).run Try.prog w = .ok (.int .i64 (x 1)) w := fun w => rfl
  have h2 : ∀ (w : World), (part 3 (#[.int .i64 (x 0), .int .i64 (x 1), .int .i64 (x 2), .int .i64 (x 3), .int .i64 (x 4), .int .i64 (x 5)] : Array Value) 2).run Try.prog w = .ok (.int .i64 (x 2)) w := fun w => rfl
  have h3 : ∀ (w : World), (part 3 (#[.int .i64 (x 0), .int .i64 (x 1), .int .i64 (x 2), .int .i64 (x 3), .int .i64 (x 4), .int .i64 (x 5)] : Array Value) 3).run Try.prog w = .ok (.int .i64 (x 3)) w := fun w => rfl
  have h4 : ∀ (w : World), (part 3 (#[.int .i64 (x 0), .int .i64 (x 1), .int .i64 (x 2), .int .i64 (x 3), .int .i64 (x 4), .int .i64 (x 5)] : Array Value) 4).run Try.prog w = .ok (.int .i64 (x 4)) w := fun w => rfl
  have h5 : ∀ (w : World), (part 3 (#[.int .i64 (x 0), .int .i64 (x 1), .int .i64 (x 2), .int .i64 (x 3), .int .i64 (x 4), .int .i64 (x 5)] : Array Value) 5).run Try.prog w = .ok (.int .i64 (x 5)) w := fun w => rfl
  unfold Op.equalIn
  simp only [Sem.run_bind, run_underlying under6, Result.andThen_ok, hz]
  simp [Std.Legacy.Range.forIn_eq_forIn_range', Std.Legacy.Range.size, List.range', eqi, h0, h1, h2, h3, h4, h5]
theorem eql_six (w : World) (x : Nat → Int) : (binOp .eql 22 (.agg #[.int .i64 (x 0), .int .i64 (x 1), .int .i64 (x 2), .int .i64 (x 3), .int .i64 (x 4), .int .i64 (x 5)]) (.agg #[.int .i64 (x 0), .int .i64 (x 1), .int .i64 (x 2), .int .i64 (x 3), .int .i64 (x 4), .int .i64 (x 5)])).run Try.prog w = .ok (.bool true) w := by
  rw [run_eql_struct, show (10000 : Nat) = 9998 + 2 from rfl, equalIn_six]
  rfl

/-- One more of a kind that is one. -/
def bump1 (x : Nat → Int) (z : Int) : Nat → Int := fun i => if (i : Int) = z then satF (x i) 65535 else x i
def bumpL (x : Nat → Int) (zs : List Int) : Nat → Int := zs.foldl bump1 x
theorem bumpL_snoc (x : Nat → Int) (zs : List Int) (z : Int) : bumpL x (zs ++ [z]) = bump1 (bumpL x zs) z := by simp [bumpL]
theorem bumpL_append (x : Nat → Int) (zs ys : List Int) : bumpL x (zs ++ ys) = bumpL (bumpL x zs) ys := by simp [bumpL]
/-- Within limits. -/
def cleanF (x : Nat → Int) : Nat → Int := fun i => clampF (x i) 0 65535
def addF (x y : Nat → Int) : Nat → Int := cleanF (fun i => cleanF x i + cleanF y i)
def totalF (x : Nat → Int) : Int := cleanF x 0 + cleanF x 1 + cleanF x 2 + cleanF x 3 + cleanF x 4 + cleanF x 5
theorem wfZ {n : Int} (h : -9223372036854775808 ≤ n ∧ n ≤ 9223372036854775807) : (Lit.int .i64 n).wf = true := by
  have := wrap64_wf n
  rwa [IntWalk.wrap64_in n h] at this
theorem sat_wf (n : Int) : (Lit.int .i64 (satF n 65535)).wf = true := wfZ (by unfold satF; repeat' split; all_goals omega)
theorem clean_bd (x : Nat → Int) (i : Nat) : 0 ≤ cleanF x i ∧ cleanF x i ≤ 65535 := by unfold cleanF clampF; repeat' split; all_goals omega
theorem bump1_wf {x : Nat → Int} (h : ∀ i, (Lit.int .i64 (x i)).wf = true) (z : Int) : ∀ i, (Lit.int .i64 (bump1 x z i)).wf = true := by
  intro i
  unfold bump1
  split
  · exact sat_wf _
  · exact h i
theorem bumpL_wf {x : Nat → Int} (h : ∀ i, (Lit.int .i64 (x i)).wf = true) (zs : List Int) : ∀ i, (Lit.int .i64 (bumpL x zs i)).wf = true := by
  induction zs generalizing x with
  | nil => exact h
  | cons a l ih => exact ih (bump1_wf h a)
theorem bump1_out (x : Nat → Int) (z : Int) (h : ¬ (0 ≤ z ∧ z < 6)) (i : Nat) (hi : i < 6) : bump1 x z i = x i := by unfold bump1; rw [if_neg (by omega)]
theorem take_snocI (zs : List Int) {k : Nat} (hk : k < zs.length) : zs.take (k + 1) = zs.take k ++ [zs[k]] := by rw [List.take_add_one]; simp [hk]
theorem bump1_comm (x : Nat → Int) (a b : Int) : bump1 (bump1 x a) b = bump1 (bump1 x b) a := by
  funext i
  unfold bump1
  repeat' split
  all_goals rfl
theorem bumpL_bump1 (x : Nat → Int) (a : Int) (zs : List Int) : bumpL (bump1 x a) zs = bump1 (bumpL x zs) a := by
  induction zs generalizing x with
  | nil => rfl
  | cons b l ih => show bumpL (bump1 (bump1 x a) b) l = bump1 (bumpL (bump1 x b) l) a; rw [bump1_comm, ih]
theorem bumpL_reverse (x : Nat → Int) (zs : List Int) : bumpL x zs.reverse = bumpL x zs := by
  induction zs generalizing x with
  | nil => rfl
  | cons a l ih => rw [List.reverse_cons, bumpL_snoc, ih]; show _ = bumpL (bump1 x a) l; rw [bumpL_bump1]
theorem addF_comm (x y : Nat → Int) : addF x y = addF y x := by
  unfold addF
  congr 1
  funext i
  exact Int.add_comm _ _
end Go.Proofs.Ytjkliandhcegeaa
