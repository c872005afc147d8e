/- The walk of QueueComes: for rows of items that lie in memory, integers that fit int and texts it returns true and makes at most new memory. -/
import Derived.Test.YtjmeeklaclidbabQueK
namespace Go.Proofs.Ytjmeeklaclidbab.LawQueueComes
open Go.ChangeShapes Go.WideShapes Go.ChangeAt Go.RowKit
set_option linter.unusedVariables false

set_option maxHeartbeats 1000000 in
theorem ends_any (ad : Option Addr) (cap : Nat) (pre : List Item) (y : Item) (hl : pre.length ≤ 100000) (w : World) (hE : kItem.Lies w.heap.size w (.slice ad (pre.length + 1) cap) (pre ++ [y])) :
    Calls Try.prog 8 #[.slice ad (pre.length + 1) cap, .int .i64 y.1.1, .int .i64 y.1.2.1, .string y.1.2.2] w fun e w' => e = .returned (.bool true) ∧ w = w' := by
  obtain ⟨b, off, rfl, hbl, f0, f1, f2⟩ := Lies_item hE pre.length (by simp)
  have hy : (pre ++ [y])[pre.length]'(by simp) = y := by simp
  rw [hy] at f0 f1 f2
  clear hy hE
  generalize pre.length = m at *
  have q1 : decide ((0 : Int) < (m : Int) + 1) = true := decide_eq_true (by omega)
  have i1 : (0 : Int) ≤ (m : Int) := by omega
  have i2 : (m : Int) < (m : Int) + 1 := by omega
  go_enter Try.func8, Try.ntmps8
  go_wp2
  go_ret
  exact ⟨rfl, rfl⟩

theorem satF_next {k : Int} (h0 : 0 ≤ k) (h1 : k < 100) : satF k = k + 1 := by unfold satF; rw [if_neg (by omega), if_neg (by omega)]
theorem push_one (es : List Item) (x : Item) : ∃ pre, pushL es [x] = pre ++ [x] ∧ pre.length ≤ 8 := by
  refine ⟨es.drop (es.length + 1 - 8), ?_, by simp; omega⟩
  unfold pushL
  rw [List.length_append, List.length_singleton, List.drop_append_of_le_length (by omega)]

set_option maxHeartbeats 4000000 in
theorem walk (ad : Option Addr) (cap : Nat) (es : List Item) (wait : Int) (s : ByteArray) (W : World) (hl : es.length ≤ 9223372036854775807) (hE : kItem.Lies W.heap.size W (.slice ad es.length cap) es)
    (hwt : -9223372036854775808 ≤ wait ∧ wait ≤ 9223372036854775807) (hs : s.size ≤ maxLen) :
    Calls Try.prog 3 #[.slice ad es.length cap, .int .i64 wait, .string s] W fun e w' => e = .returned (.bool true) ∧ Below W.heap.size W w' := by
  by_cases h30 : 30 < es.length
  · have q1 : decide (30 < (es.length : Int)) = true := by simp; omega
    go_enter Try.func3, Try.ntmps3
    go_wp2_with (go_at_call 5; refine (known8_any _).mono ?_; rintro e w1 ⟨rfl, hb⟩)
    go_ret
    exact ⟨rfl, hb⟩
  have q1 : decide (30 < (es.length : Int)) = false := by simp; omega
  by_cases h1 : wait < 1
  · have q2 : decide (wait < 1) = true := by simp; omega
    go_enter Try.func3, Try.ntmps3
    go_wp2_with (go_at_call 5; refine (known8_any _).mono ?_; rintro e w1 ⟨rfl, hb⟩)
    go_ret
    exact ⟨rfl, hb⟩
  have q2 : decide (wait < 1) = false := by simp; omega
  by_cases h20 : 20 < wait
  · go_enter Try.func3, Try.ntmps3
    go_wp2_with (go_at_call 5; refine (known8_any _).mono ?_; rintro e w1 ⟨rfl, hb⟩)
    go_ret
    exact ⟨rfl, hb⟩
  obtain ⟨x, hx⟩ : ∃ x : Item, x.1 = (0, wait, s) := ⟨⟨(0, wait, s), wfI (show _ ∧ _ by simp), wfI hwt, hs⟩, rfl⟩
  have hB0 : Below W.heap.size W (W.alloc (.cells #[.int .i64 0, .int .i64 wait, .string s] 27)) := ballc _ _
  have hfx : kItem.flat [x] = [.int .i64 0, .int .i64 wait, .string s] := by rw [cells_one_item, hx]
  have hX0 : kItem.Lies (W.alloc (.cells #[.int .i64 0, .int .i64 wait, .string s] 27)).heap.size (W.alloc (.cells #[.int .i64 0, .int .i64 wait, .string s] 27)) (.slice (some ⟨W.heap.size, 0, none⟩) 1 1) [x] := Kind.Lies.of_block (K := kItem) (es := [x]) (by rw [hfx]; exact heap_alloc_new W _) (by simp only [maxLen, List.length_singleton]; omega)
  have CP := Push_any ad es.length cap (some ⟨W.heap.size, 0, none⟩) 1 1 es [x] (by simp; omega) _ (hE.later hB0) hX0
  obtain ⟨pre, hpre, hpl⟩ := push_one es x
  rw [hpre] at CP
  obtain ⟨N, hN⟩ : ∃ N : Nat, wait = (N : Int) := ⟨wait.toNat, by omega⟩
  subst hN
  clear q1 q2 hX0 hpre hfx
  go_enter Try.func3, Try.ntmps3
  have q1 : decide (30 < (es.length : Int)) = false := by simp; omega
  have q2 : decide ((N : Int) < 1) = false := by simp; omega
  go_wp2_with fail
  refine CP.mono ?_
  rintro r w1 ⟨a1, c1, rfl, hL1, hb1⟩
  rw [List.length_append, List.length_singleton] at hL1
  have hB1 := bthen hB0 hb1
  clear CP hB0 hb1 q1 q2
  go_wp2
  go_loopw [7, 9] (fun v i wr => ∃ (k : Nat) (A : List Item) (a : Option Addr) (n c : Nat), 1 ≤ k ∧ k ≤ N + 1 ∧ v = .slice a n c ∧ kItem.Lies wr.heap.size wr (.slice a n c) A ∧ A.length ≤ 9 ∧ (k ≤ N → ∃ pre y, A = pre ++ [y] ∧ y.1 = ((k : Int) - 1, (N : Int) - k + 1, s)) ∧ i = .int .i64 (k : Int) ∧ Below W.heap.size W wr) (fun _ i _ => N + 1 - (intV i).toNat)
  case atStart => exact ⟨1, pre ++ [x], a1, _, c1, Nat.le_refl _, by omega, rfl, hL1, by simp; omega, fun _ => ⟨pre, x, rfl, by rw [hx]; simp⟩, rfl, hB1⟩
  case round =>
    obtain ⟨k, A, a, n, c, hk1, hk2, rfl, hA, hAl, hlast, rfl, hB⟩ := hrel
    by_cases hlt : k ≤ N
    · obtain ⟨pr, y, rfl, hy⟩ := hlast hlt
      have CS := Step_any a n c (pr ++ [y]) (by omega) _ hA
      have hrl := restL_le (pr ++ [y])
      have i1 : (k : Int) ≤ (N : Int) := by omega
      clear hlast hL1 hB1 hA
      by_cases hlt2 : k < N
      · have hyw : ¬ y.1.2.1 ≤ 1 := by rw [hy]; simp only; omega
        have hro : (restOf y).1 = ((k : Int), (N : Int) - k, s) := by
          rw [restOf_val (by omega), hy]
          simp only [Prod.mk.injEq, and_true]
          exact ⟨by rw [satF_next (by omega) (by omega)]; omega, by omega⟩
        rw [restL_no pr hyw] at CS hrl
        have hll : (restL pr ++ [restOf y]).length = (restL pr).length + 1 := by simp
        rw [hll] at CS hrl
        generalize hzy : restOf y = z at *
        generalize restL pr = rp at *
        generalize comeL (pr ++ [y]) = cp at *
        have CE := fun b d V h => ends_any b d rp z (by simp at hAl hrl; omega) V h
        rw [hro] at CE
        simp only at CE
        have HRO := hidden hro
        have HLL := hidden hll
        have q3 : decide ((k : Int) < (N : Int)) = true := by simp; omega
        have q4 : ((k : Int) == (N : Int)) = false := by simp; omega
        have t1 : IntKind.i64.wrap ((N : Int) - (k : Int)) = (N : Int) - (k : Int) := IntWalk.i64_in _ (by omega)
        clear hro hll hzy
        go_wp2_with fail
        refine CS.mono ?_
        rintro r w2 ⟨a2, c2, b2, d2, rfl, hC2, hR2, hb2⟩
        go_wp2_with (go_at_call 8; refine (CE _ _ _ hR2).mono ?_; rintro e w' ⟨rfl, rfl⟩)
        go_roundw
        case rel => exact ⟨k + 1, rp ++ [z], b2, _, d2, by omega, by omega, rfl, hR2, by rw [HLL.out]; omega, fun _ => ⟨rp, z, rfl, by rw [HRO.out]; simp; omega⟩, by simp, bthen hB hb2⟩
        case measure => first | (simp [intV]; done) | (simp [intV]; omega)
      · obtain rfl : k = N := by omega
        have hyw : y.1.2.1 ≤ 1 := by rw [hy]; simp only; omega
        have hco : (comeOf y).1 = ((k : Int), 0, s) := by
          show (satF y.1.1, (0 : Int), y.1.2.2) = _
          rw [hy]
          simp only [Prod.mk.injEq, and_true]
          rw [satF_next (by omega) (by omega)]; omega
        have hcl := comeL_le pr
        rw [comeL_yes pr hyw] at CS
        have hll : (comeL pr ++ [comeOf y]).length = (comeL pr).length + 1 := by simp
        rw [hll] at CS
        generalize hzy : comeOf y = z at *
        generalize comeL pr = cp at *
        generalize restL (pr ++ [y]) = rp at *
        have CE := fun b d V h => ends_any b d cp z (by simp at hAl; omega) V h
        rw [hco] at CE
        simp only at CE
        have q3 : decide ((k : Int) < (k : Int)) = false := by simp
        clear hco hll hzy
        go_wp2_with fail
        refine CS.mono ?_
        rintro r w2 ⟨a2, c2, b2, d2, rfl, hC2, hR2, hb2⟩
        go_wp2_with (go_at_call 8; refine (CE _ _ _ hC2).mono ?_; rintro e w' ⟨rfl, rfl⟩)
        go_roundw
        case rel => exact ⟨k + 1, rp, b2, _, d2, by omega, by omega, rfl, hR2, by omega, fun h => absurd h (by omega), by simp, bthen hB hb2⟩
        case measure => first | (simp [intV]; done) | (simp [intV]; omega)
    · obtain rfl : k = N + 1 := by omega
      have i1 : ¬ ((N : Int) + 1 ≤ (N : Int)) := by omega
      clear hlast hL1 hB1
      go_wp2_with (go_at_call 5; refine (known8_any _).mono ?_; rintro e w6 ⟨rfl, hb6⟩)
      go_ret
      exact ⟨rfl, bthen hB hb6⟩
end Go.Proofs.Ytjmeeklaclidbab.LawQueueComes
