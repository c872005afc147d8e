/- The calls Sat, comes and Due of packages num and queue return what plain functions give; for rows of items that lie in memory, at most a million. -/
import Derived.Test.YtjmeeklaclidbaaQueM
import Derived.BigQuiet
namespace Go.Proofs.Ytjmeeklaclidbaa
open Go.ChangeShapes Go.WideShapes Go.ChangeAt Go.RowKit
set_option linter.unusedVariables false

theorem sat_any (a : Int) (w : World) (ha : (Lit.int .i64 a).wf = true) : Calls Try.prog 38 #[.int .i64 a, .int .i64 65535] w fun e w' => e = .returned (.int .i64 (satF a)) ∧ w = w' := by
  have hb := bd64 ha
  unfold satF
  by_cases h0 : a < 0
  · rw [if_pos h0]
    have q : decide (a < 0) = true := by simp; omega
    go_enter Try.func38, Try.ntmps38
    go_wp2
    go_ret
    exact ⟨rfl, rfl⟩
  · rw [if_neg h0]
    have q : decide (a < 0) = false := by simp; omega
    by_cases h1 : 65535 ≤ a
    · rw [if_pos h1]
      go_enter Try.func38, Try.ntmps38
      go_wp2
      go_ret
      exact ⟨rfl, rfl⟩
    · rw [if_neg h1]
      go_enter Try.func38, Try.ntmps38
      go_wp2
      go_ret
      exact ⟨rfl, rfl⟩
theorem comes_raw (a t : Int) (s : ByteArray) (ticks : Int) (w : World) : Calls Try.prog 39 #[.agg #[.int .i64 a, .int .i64 t, .string s], .int .i64 ticks] w fun e w' => e = .returned (.bool (decide (1 ≤ ticks) && decide (t ≤ ticks))) ∧ w' = w.alloc (.cells #[.int .i64 a, .int .i64 t, .string s] 52) := by
  by_cases h : 1 ≤ ticks
  · have q : decide (1 ≤ ticks) = true := by simp; omega
    rw [q, Bool.true_and]
    go_enter Try.func39, Try.ntmps39
    go_wp2
    go_ret
    exact ⟨rfl, rfl⟩
  · have q : decide (1 ≤ ticks) = false := by simp; omega
    rw [q, Bool.false_and]
    go_enter Try.func39, Try.ntmps39
    go_wp2
    go_ret
    exact ⟨rfl, rfl⟩
theorem comes_any (x : Item) (ticks : Int) (w : World) : Calls Try.prog 39 #[.agg #[.int .i64 x.1.1, .int .i64 x.1.2.1, .string x.1.2.2], .int .i64 ticks] w fun e w' => e = .returned (.bool (comesB ticks x)) ∧ w' = w.alloc (.cells #[.int .i64 x.1.1, .int .i64 x.1.2.1, .string x.1.2.2] 52) :=
  comes_raw x.1.1 x.1.2.1 x.1.2.2 ticks w
set_option maxHeartbeats 1000000 in
theorem Due_any (ad : Option Addr) (len cap : Nat) (ticks : Int) (es : List Item) (hlen : es.length ≤ 1000000) (w : World) (hE : kItem.Lies w.heap.size w (.slice ad len cap) es) :
    Calls Try.prog 26 #[.slice ad len cap, .int .i64 ticks] w fun e w' => e = .returned (.int .i64 (dueN es ticks : Int)) ∧ Below w.heap.size w w' := by
  obtain rfl := hE.len
  go_enter Try.func26, Try.ntmps26
  go_wp2
  go_loopw [5, 10] (fun n i wr => ∃ k : Nat, k ≤ es.length ∧ n = .int .i64 (dueN (es.take k) ticks : Int) ∧ i = .int .i64 (k : Int) ∧ Below w.heap.size w wr) (fun _ i _ => es.length - (intV i).toNat)
  case atStart => exact ⟨0, Nat.zero_le _, rfl, rfl, Below.refl _ _⟩
  case round =>
    obtain ⟨k, hk, rfl, rfl, hB⟩ := hrel
    by_cases hlt : k < es.length
    · obtain ⟨b, off, rfl, hbl, e0, e1, e2⟩ := Lies_item hE k hlt
      have f0 := (hB.cell (p := ⟨b, off + k * 3, none⟩) hbl).trans e0
      have f1 := (hB.cell (p := ⟨b, off + k * 3 + 1, none⟩) hbl).trans e1
      have f2 := (hB.cell (p := ⟨b, off + k * 3 + 2, none⟩) hbl).trans e2
      have hsn := dueN_snoc (es.take k) es[k] ticks
      rw [← take_item es hlt] at hsn
      have hdl := dueN_le (es.take k) ticks
      rw [List.length_take] at hdl
      clear e0 e1 e2 hE
      generalize es[k] = z at *
      generalize dueN (es.take k) ticks = n0 at *
      have t1 : IntKind.i64.wrap ((n0 : Int) + 1) = (n0 : Int) + 1 := IntWalk.i64_in _ (by omega)
      have i1 : (0 : Int) ≤ (k : Int) := by omega
      have i2 : (k : Int) < (es.length : Int) := by omega
      have CC := fun V => comes_any z ticks V
      have HS := hidden hsn
      clear hsn
      cases hcb : comesB ticks z with
      | true =>
        rw [hcb] at CC
        go_wp2_with (go_at_call 39; refine (CC _).mono ?_; rintro r w' ⟨rfl, rfl⟩)
        go_roundw
        case rel => exact ⟨k + 1, by omega, by rw [HS.out, if_pos hcb]; simp, by simp, (hB.alloc hB.size _).alloc (by have := hB.size; simp; omega) _⟩
        case measure => simp [intV]; omega
      | false =>
        rw [hcb] at CC
        go_wp2_with (go_at_call 39; refine (CC _).mono ?_; rintro r w' ⟨rfl, rfl⟩)
        go_roundw
        case rel => exact ⟨k + 1, by omega, by rw [HS.out, if_neg (by simp [hcb])]; simp, by simp, (hB.alloc hB.size _).alloc (by have := hB.size; simp; omega) _⟩
        case measure => simp [intV]; omega
    · obtain rfl : k = es.length := by omega
      rw [List.take_length]
      go_wp2
      go_ret
      exact ⟨rfl, hB⟩
end Go.Proofs.Ytjmeeklaclidbaa
