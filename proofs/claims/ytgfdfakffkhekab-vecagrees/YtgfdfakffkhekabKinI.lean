/- The document's call In of layer 14 tells whether a number is in a row, and leaves all as it was; conditions: the row lies where it says, and lengths fit int. -/
import Derived.Test.YtgfdfakffkhekabKinA
namespace Go.Proofs.Ytgfdfakffkhekab
open Go.ChangeShapes Go.WideShapes Go.ChangeAt Go.RowKit
set_option linter.unusedVariables false
attribute [local go_sem] cell_rg

set_option maxHeartbeats 1000000 in
theorem rIn_any (n : Int) (a2 : Option Addr) (c2 : Nat) (vs : List Int) (hlv : vs.length ≤ 9223372036854775807) (w : World) (hV : kInt.Lies w.heap.size w (.slice a2 vs.length c2) vs) :
    Calls Try.prog 11 #[.slice a2 vs.length c2, .int .i64 n] w fun e w' => e = .returned (.bool (decide (n ∈ vs))) ∧ w = w' := by
  go_enter Try.func11, Try.ntmps11
  go_wp2
  go_loop [5] (fun i => ∃ k : Nat, k ≤ vs.length ∧ i = .int .i64 k ∧ n ∉ vs.take k) (fun i => vs.length - (intV i).toNat)
  case atStart => exact ⟨0, Nat.zero_le _, rfl, by simp⟩
  case round =>
    obtain ⟨k, hk, rfl, hn⟩ := hrel
    by_cases hlt : k < vs.length
    · obtain ⟨b, off, rfl, hbl, e0⟩ := kInt_at hV k hlt
      have HS := hidden (take_snocV vs hlt)
      have HM : Hid (vs[k] ∈ vs) := List.getElem_mem hlt
      have HN := hidden hn
      have i1 : (0 : Int) ≤ (k : Int) := by omega
      have i2 : (k : Int) < (vs.length : Int) := by omega
      clear hV hn
      generalize vs[k] = z at *
      by_cases h : z = n
      · subst h
        have j : (z == z) = true := by simp
        have HD : Hid (decide (z ∈ vs) = true) := decide_eq_true HM.out
        go_wp2
        go_ret
        exact ⟨ret_b HD.out.symm, rfl⟩
      · have j : (z == n) = false := by simp [h]
        have HN2 : Hid (n ∉ vs.take (k + 1)) := by
          show ¬ _
          rw [HS.out, List.mem_append, List.mem_singleton]
          exact fun hh => hh.elim HN.out (fun e => h e.symm)
        go_wp2
        go_round
        case rel => exact ⟨k + 1, by omega, by go_num, HN2.out⟩
        case measure => simp [intV]; omega
    · obtain rfl : k = vs.length := by omega
      rw [List.take_length] at hn
      have HD : Hid (decide (n ∈ vs) = false) := decide_eq_false hn
      clear hn
      go_wp2
      go_ret
      exact ⟨ret_b HD.out.symm, rfl⟩
end Go.Proofs.Ytgfdfakffkhekab
