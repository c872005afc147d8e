/- The walk of QueueAll: for rows of items that lie in memory and integers that fit int it returns true and makes at most new memory. -/
import Derived.Test.YtjmeeklaclidbabQueK
namespace Go.Proofs.Ytjmeeklaclidbab.LawQueueAll
open Go.ChangeShapes Go.WideShapes Go.ChangeAt Go.RowKit
set_option linter.unusedVariables false

theorem come_due (A : List Item) : (comeL A).length = dueN A 1 := by
  unfold comeL dueN
  rw [List.length_map]
  congr 2
theorem come_rest (A : List Item) : (comeL A).length + (restL A).length = A.length := by
  induction A with
  | nil => rfl
  | cons x l ih =>
    by_cases h : x.1.2.1 ≤ 1
    · simp [comeL, restL, h] at ih ⊢; omega
    · simp [comeL, restL, h] at ih ⊢; omega
theorem rest_due (A : List Item) (t : Int) (ht : 1 ≤ t) : dueN (restL A) t + dueN A 1 = dueN A (t + 1) := by
  induction A with
  | nil => rfl
  | cons x l ih =>
    have e : ∀ (L : List Item) (y : Item) (u : Int), dueN (y :: L) u = (if comesB u y = true then 1 else 0) + dueN L u := fun L y u => by
      unfold dueN
      by_cases h : comesB u y = true <;> simp [h]; omega
    rw [e l x 1, e l x (t + 1)]
    by_cases h : x.1.2.1 ≤ 1
    · have h1 : restL (x :: l) = restL l := by simp [restL, h]
      have h2 : comesB 1 x = true := by simp [comesB, h]
      have h3 : comesB (t + 1) x = true := by simp [comesB]; omega
      rw [h1, if_pos h2, if_pos h3]
      omega
    · have h1 : restL (x :: l) = restOf x :: restL l := by simp [restL, h]
      have h2 : ¬ comesB 1 x = true := by simp [comesB]; omega
      rw [h1, e, if_neg h2]
      by_cases h4 : x.1.2.1 ≤ t + 1
      · have h3 : comesB (t + 1) x = true := by simp [comesB]; omega
        have h5 : comesB t (restOf x) = true := by simp [comesB, restOf_val (show 1 < x.1.2.1 by omega)]; omega
        rw [if_pos h3, if_pos h5]
        omega
      · have h3 : ¬ comesB (t + 1) x = true := by simp [comesB]; omega
        have h5 : ¬ comesB t (restOf x) = true := by simp [comesB, restOf_val (show 1 < x.1.2.1 by omega)]; omega
        rw [if_neg h3, if_neg h5]
        omega
theorem due_zero (A : List Item) : dueN A 0 = 0 := by
  unfold dueN
  rw [List.length_eq_zero_iff, List.filter_eq_nil_iff]
  intro x _
  simp [comesB]

set_option maxHeartbeats 4000000 in
theorem walk (ad : Option Addr) (cap : Nat) (es : List Item) (ticks : Int) (W : World) (hl : es.length ≤ 9223372036854775807) (hE : kItem.Lies W.heap.size W (.slice ad es.length cap) es)
    (htk : -9223372036854775808 ≤ ticks ∧ ticks ≤ 9223372036854775807) :
    Calls Try.prog 4 #[.slice ad es.length cap, .int .i64 ticks] W fun e w' => e = .returned (.bool true) ∧ Below W.heap.size W w' := by
  by_cases h30 : 30 < es.length
  · have q1 : decide (30 < (es.length : Int)) = true := by simp; omega
    go_enter Try.func4, Try.ntmps4
    go_wp2_with (go_at_call 5; refine (known8_any _).mono ?_; rintro e w1 ⟨rfl, hb⟩)
    go_ret
    exact ⟨rfl, hb⟩
  have q1 : decide (30 < (es.length : Int)) = false := by simp; omega
  by_cases h1 : ticks < 0
  · have q2 : decide (ticks < 0) = true := by simp; omega
    go_enter Try.func4, Try.ntmps4
    go_wp2_with (go_at_call 5; refine (known8_any _).mono ?_; rintro e w1 ⟨rfl, hb⟩)
    go_ret
    exact ⟨rfl, hb⟩
  have q2 : decide (ticks < 0) = false := by simp; omega
  by_cases h20 : 20 < ticks
  · go_enter Try.func4, Try.ntmps4
    go_wp2_with (go_at_call 5; refine (known8_any _).mono ?_; rintro e w1 ⟨rfl, hb⟩)
    go_ret
    exact ⟨rfl, hb⟩
  obtain ⟨N, hN⟩ : ∃ N : Nat, ticks = (N : Int) := ⟨ticks.toNat, by omega⟩
  subst hN
  clear q2
  have q2 : decide ((N : Int) < 0) = false := decide_eq_false (by omega)
  go_enter Try.func4, Try.ntmps4
  go_wp2
  clear q1 q2
  go_loopw [5, 6, 7] (fun nv v i wr => ∃ (k : Nat) (A : List Item) (a : Option Addr) (n c : Nat), k ≤ N ∧ nv = .int .i64 (dueN es (k : Int) : Int) ∧ v = .slice a n c ∧ kItem.Lies wr.heap.size wr (.slice a n c) A ∧ A.length + dueN es (k : Int) = es.length ∧ (∀ t : Nat, 1 ≤ t → dueN A (t : Int) + dueN es (k : Int) = dueN es ((k + t : Nat) : Int)) ∧ i = .int .i64 ((k : Int) + 1) ∧ Below W.heap.size W wr) (fun _ _ i _ => N + 1 - (intV i).toNat)
  case atStart => exact ⟨0, es, ad, _, cap, by omega, by simp [due_zero], rfl, hE, by simp [due_zero], fun t _ => by simp [due_zero], rfl, Below.refl _ _⟩
  case round =>
    obtain ⟨k, A, a, n, c, hk, rfl, rfl, hA, hlen, hdue, rfl, hB⟩ := hrel
    by_cases hlt : k < N
    · have CS := Step_any a n c A (by omega) _ hA
      have hcr := come_rest A
      have hcd := come_due A
      have hd1 := hdue 1 (Nat.le_refl _)
      have hd2 : ∀ t : Nat, 1 ≤ t → dueN (restL A) (t : Int) + dueN es ((k + 1 : Nat) : Int) = dueN es ((k + 1 + t : Nat) : Int) := fun t ht => by
        have r1 := rest_due A (t : Int) (by omega)
        have r2 := hdue (t + 1) (by omega)
        have r3 : ((t + 1 : Nat) : Int) = (t : Int) + 1 := by simp
        have r4 : k + (t + 1) = k + 1 + t := by omega
        have r5 : ((1 : Nat) : Int) = 1 := rfl
        rw [r3, r4] at r2
        rw [r5] at hd1
        omega
      have r5 : ((1 : Nat) : Int) = 1 := rfl
      rw [r5] at hd1
      have CD := fun V h => Due_any ad es.length cap ((k : Int) + 1) es (by omega) V h
      have e6 : ((k + 1 : Nat) : Int) = (k : Int) + 1 := by simp
      have HD2 := hidden hd2
      rw [e6] at hd1
      have hln : (restL A).length + dueN es ((k : Int) + 1) = es.length := by omega
      have HLN := hidden hln
      have hsum : dueN es (k : Int) + (comeL A).length = dueN es ((k : Int) + 1) := by omega
      have hle2 := dueN_le es ((k : Int) + 1)
      clear hd2 hdue hcr hcd hA e6 hd1 r5
      generalize hdk : dueN es (k : Int) = d0 at *
      generalize hdk1 : dueN es ((k : Int) + 1) = d1 at *
      generalize comeL A = cl at *
      generalize restL A = rl at *
      have t1 : IntKind.i64.wrap ((d0 : Int) + (cl.length : Int)) = (d1 : Int) := by rw [IntWalk.i64_in _ (by omega)]; omega
      have t2 : IntKind.i64.wrap ((d1 : Int) + (rl.length : Int)) = (es.length : Int) := by rw [IntWalk.i64_in _ (by omega)]; omega
      have i1 : (k : Int) + 1 ≤ (N : Int) := by omega
      have HK := hidden hdk1
      clear hlen hln hsum hdk hdk1
      go_wp2_with fail
      refine CS.mono ?_
      rintro r w2 ⟨a2, c2, b2, e2, rfl, hC2, hR2, hb2⟩
      have hB2 := bthen hB hb2
      have hE2 := hE.later hB2
      clear CS hb2 hC2
      go_wp2_with (go_at_call 9; refine (CD _ hE2).mono ?_; rintro e w3 ⟨rfl, hb3⟩)
      go_roundw
      case rel => exact ⟨k + 1, rl, b2, _, e2, by omega, by rw [show ((k + 1 : Nat) : Int) = (k : Int) + 1 by simp, HK.out], rfl, hR2.later hb3, by rw [show ((k + 1 : Nat) : Int) = (k : Int) + 1 by simp, HK.out]; exact HLN.out, HD2.out, by simp, bthen hB2 hb3⟩
      case measure => first | (simp [intV]; done) | (simp [intV]; omega)
    · obtain rfl : k = N := by omega
      have i1 : ¬ ((k : Int) + 1 ≤ (k : Int)) := by omega
      have CD := fun V h => Due_any ad es.length cap 0 es (by omega) V h
      rw [due_zero] at CD
      have hE2 := hE.later hB
      clear hdue hlen
      go_wp2_with fail
      refine (CD _ hE2).mono ?_
      rintro r w2 ⟨rfl, hb2⟩
      have hB2 := bthen hB hb2
      go_wp2_with (go_at_call 5; refine (known8_any _).mono ?_; rintro e w6 ⟨rfl, hb6⟩)
      go_ret
      exact ⟨rfl, bthen hB2 hb6⟩
end Go.Proofs.Ytjmeeklaclidbab.LawQueueAll
