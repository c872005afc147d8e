/- The fixed calls of the statements on package diag come out as they must, and make at most new memory; no conditions. -/
import Derived.Test.YtjkliandhcegeaaDiaD
namespace Go.Proofs.Ytjkliandhcegeaa
open Go.ChangeShapes Go.WideShapes Go.ChangeAt Go.RowKit
set_option linter.unusedVariables false

/-- Six numbers, one by one. -/
def pick6 (a b c d e f : Int) : Nat → Int
  | 0 => a | 1 => b | 2 => c | 3 => d | 4 => e | 5 => f | _ => 0
theorem eql6 (w : World) (a b c d e f : Int) : (binOp .eql 22 (.agg #[.int .i64 a, .int .i64 b, .int .i64 c, .int .i64 d, .int .i64 e, .int .i64 f]) (.agg #[.int .i64 a, .int .i64 b, .int .i64 c, .int .i64 d, .int .i64 e, .int .i64 f])).run Try.prog w = .ok (.bool true) w := eql_six w (pick6 a b c d e f)
theorem eqIn6 (w : World) (a b c d e f : Int) : (Op.equalIn 10000 22 (.agg #[.int .i64 a, .int .i64 b, .int .i64 c, .int .i64 d, .int .i64 e, .int .i64 f]) (.agg #[.int .i64 a, .int .i64 b, .int .i64 c, .int .i64 d, .int .i64 e, .int .i64 f])).run Try.prog w = .ok true w := equalIn_six 9998 w (pick6 a b c d e f)
theorem Calls.ret_as {P : Program} {F : FuncId} {args : Array Value} {w : World} {v u : Value} (h : Calls P F args w fun e w' => e = .returned v ∧ Below w.heap.size w w') (e : v = u) : Calls P F args w fun e w' => e = .returned u ∧ Below w.heap.size w w' := by
  rw [← e]; exact h
theorem bump_known : (.agg #[.int .i64 ((bumpL (fun _ => 0) [0, 0, 9, 5]) 0), .int .i64 ((bumpL (fun _ => 0) [0, 0, 9, 5]) 1), .int .i64 ((bumpL (fun _ => 0) [0, 0, 9, 5]) 2), .int .i64 ((bumpL (fun _ => 0) [0, 0, 9, 5]) 3), .int .i64 ((bumpL (fun _ => 0) [0, 0, 9, 5]) 4), .int .i64 ((bumpL (fun _ => 0) [0, 0, 9, 5]) 5)] : Value) = .agg #[.int .i64 2, .int .i64 0, .int .i64 0, .int .i64 0, .int .i64 0, .int .i64 1] := by rfl
theorem total_known : (.int .i64 (totalF (pick6 2 0 0 0 0 1)) : Value) = .int .i64 3 := by rfl
def wild6 : Nat → Int := pick6 (-1) 70000 0 0 0 0
theorem clean_known : (.agg #[.int .i64 ((cleanF wild6) 0), .int .i64 ((cleanF wild6) 1), .int .i64 ((cleanF wild6) 2), .int .i64 ((cleanF wild6) 3), .int .i64 ((cleanF wild6) 4), .int .i64 ((cleanF wild6) 5)] : Value) = .agg #[.int .i64 0, .int .i64 65535, .int .i64 0, .int .i64 0, .int .i64 0, .int .i64 0] := by rfl
attribute [local go_sem] eql6 eqIn6
set_option maxHeartbeats 1000000 in
theorem known9_any (w : World) :
    Calls Try.prog 9 #[] w fun e w' => e = .returned (.bool true) ∧ Below w.heap.size w w' := by
  go_enter Try.func9, Try.ntmps9
  go_wp2_with fail
  refine (Calls.ret_as (Bump_any (fun _ => 0) (fun _ => by decide) _ 4 4 [0, 0, 9, 5] (by decide) _ (Kind.Lies.of_block (K := kInt) (t := 3) (g := w.heap.size) (es := [0, 0, 9, 5]) (heap_alloc_new w _) (by decide))) bump_known).mono ?_
  rintro e w1 ⟨rfl, hb⟩
  have HB1 := hidden (bthen (ballc w _) hb)
  clear hb
  go_wp2_with fail
  refine (Calls.ret_as (DTotal_any (pick6 2 0 0 0 0 1) _) total_known).mono ?_
  rintro e w2 ⟨rfl, hb⟩
  have HB2 := hidden (bthen HB1.out (bthen (ballc w1 _) hb))
  clear hb HB1
  go_wp2_with fail
  refine (DKind_any 10 _).mono ?_
  rintro e w3 ⟨rfl, rfl⟩
  rw [show kindF 10 = 1 by decide]
  go_wp2_with fail
  refine (DKind_any 0 _).mono ?_
  rintro e w3 ⟨rfl, rfl⟩
  rw [show kindF 0 = -1 by decide]
  go_wp2_with fail
  refine (Calls.ret_as (DClean_any wild6 _) clean_known).mono ?_
  rintro e w4 ⟨rfl, hb⟩
  have HB3 := hidden (bthen HB2.out hb)
  clear hb HB2
  go_wp2
  go_ret
  exact ⟨rfl, HB3.out⟩
end Go.Proofs.Ytjkliandhcegeaa
