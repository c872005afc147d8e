/- The call ofNode of package hold returns a node's places in a list that fits, and makes at most new memory; conditions: as many nodes and ticks as a plain configuration may have. -/
import Derived.Test.YtcnmbpgjgjncdaaHoldS
namespace Go.Proofs.Ytcnmbpgjgjncdaa
open Go.ChangeShapes Go.WideShapes Go.ChangeAt Go.RowKit
set_option linter.unusedVariables false
attribute [local go_sem] cell_rg

set_option maxHeartbeats 1000000 in
theorem ofNode_any (N : Nat) (f : Int) (D : Nat) (p r dr o sl md fr : Int) (ad : Option Addr) (cap : Nat) (zs : List Int) (b off len c2 i : Nat) (w : World) (hN : N ≤ 13) (hD : D ≤ 4) (hD0 : 0 < D) (hi : i < N) (hlen : len = N * D) (hc : len ≤ c2) (hc2 : c2 ≤ 9223372036854775807) :
    Calls Try.prog 44 #[.agg #[.int .i64 (N : Int), .int .i64 f, .int .i64 (D : Int), .int .i64 p, .int .i64 r, .int .i64 dr, .int .i64 o, .int .i64 sl, .int .i64 md, .int .i64 fr, .slice ad zs.length cap], .slice (some ⟨b, off, none⟩) len c2, .int .i64 (i : Int)] w fun e w' => e = .returned (.slice (some ⟨b, off + i * D, none⟩) D D) ∧ Below w.heap.size w w' := by
  have hm := mul_cast hN hD
  obtain ⟨P, hP⟩ : ∃ P, P = i * D := ⟨_, rfl⟩
  obtain ⟨Q, hQ⟩ : ∃ Q : Nat, Q = P + D := ⟨_, rfl⟩
  have h1 : Q ≤ len := by rw [hQ, hP, hlen, ← Nat.succ_mul]; exact Nat.mul_le_mul_right D hi
  rw [← hlen] at hm
  have e1 : (i : Int) * (D : Int) = (P : Int) := by rw [hP]; rfl
  have e2 : ((i : Int) + 1) * (D : Int) = (Q : Int) := by rw [Int.add_mul, e1, Int.one_mul, hQ]; rfl
  rw [← hP]
  clear hP hlen
  have hi13 : i ≤ 13 := by omega
  have j1 : (P : Int) ≤ (Q : Int) := by omega
  have j2 : (Q : Int) ≤ (c2 : Int) := by omega
  have j3 : (0 : Int) ≤ (P : Int) := by omega
  have j4 : Q - P = D := by omega
  have j5 : P ≤ Q := by omega
  have j6 : Q ≤ c2 := by omega
  have p1 : P ≤ 1000000 := by omega
  have q1 : Q ≤ 1000000 := by omega
  have n1 : ¬ P = c2 := by omega
  have n2 : ¬ (P : Int) = (c2 : Int) := by omega
  have HQ := hidden hQ
  clear hQ
  have t5 : IntKind.i64.wrap ((i : Int) + 1) = (i : Int) + 1 := IntWalk.i64_in _ (by omega)
  have t2 := wrI e1 p1
  have t4 := wrI e2 q1
  clear e1 e2
  go_enter Try.func44, Try.ntmps44
  go_wp2
  refine wp_region_quiet_below (by kernel_rfl) (by kernel_rfl) ?_
  repeat (go_big_quiet_step (fail))
  refine wpQuiet_nil ?_
  intro w2 hw2
  have HB := hidden (bthen (ballc w _) (rg_below hw2))
  clear hw2
  go_wp2
  go_ret
  exact ⟨rfl, HB.out⟩
end Go.Proofs.Ytcnmbpgjgjncdaa
