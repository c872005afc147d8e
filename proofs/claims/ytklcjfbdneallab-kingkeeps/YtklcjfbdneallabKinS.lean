/- The document's calls In and say of layer 14 return what plain functions give, and make at most new memory; conditions: at most 13 nodes, rows lie where they say, and lengths fit int. -/
import Derived.Test.YtklcjfbdneallabKinC
namespace Go.Proofs.Ytklcjfbdneallab
open Go.ChangeShapes Go.WideShapes Go.ChangeAt Go.RowKit
set_option linter.unusedVariables false
attribute [local go_sem] cell_rg

set_option maxHeartbeats 1000000 in
theorem rIn_any (n : Int) (a2 : Option Addr) (c2 : Nat) (vs : List Int) (hlv : vs.length ≤ 9223372036854775807) (w : World) (hV : kInt.Lies w.heap.size w (.slice a2 vs.length c2) vs) :
    Calls Try.prog 8 #[.slice a2 vs.length c2, .int .i64 n] w fun e w' => e = .returned (.bool (decide (n ∈ vs))) ∧ w = w' := by
  go_enter Try.func8, Try.ntmps8
  go_wp2
  go_loop [5] (fun i => ∃ k : Nat, k ≤ vs.length ∧ i = .int .i64 k ∧ n ∉ vs.take k) (fun i => vs.length - (intV i).toNat)
  case atStart => exact ⟨0, Nat.zero_le _, rfl, by simp⟩
  case round =>
    obtain ⟨k, hk, rfl, hn⟩ := hrel
    by_cases hlt : k < vs.length
    · obtain ⟨b, off, rfl, hbl, e0⟩ := kInt_at hV k hlt
      have HS := hidden (take_snocV vs hlt)
      have HM : Hid (vs[k] ∈ vs) := List.getElem_mem hlt
      have HN := hidden hn
      have i1 : (0 : Int) ≤ (k : Int) := by omega
      have i2 : (k : Int) < (vs.length : Int) := by omega
      clear hV hn
      generalize vs[k] = z at *
      by_cases h : z = n
      · subst h
        have j : (z == z) = true := by simp
        have HD : Hid (decide (z ∈ vs) = true) := decide_eq_true HM.out
        go_wp2
        go_ret
        exact ⟨ret_b HD.out.symm, rfl⟩
      · have j : (z == n) = false := by simp [h]
        have HN2 : Hid (n ∉ vs.take (k + 1)) := by
          show ¬ _
          rw [HS.out, List.mem_append, List.mem_singleton]
          exact fun hh => hh.elim HN.out (fun e => h e.symm)
        go_wp2
        go_round
        case rel => exact ⟨k + 1, by omega, by go_num, HN2.out⟩
        case measure => simp [intV]; omega
    · obtain rfl : k = vs.length := by omega
      rw [List.take_length] at hn
      have HD : Hid (decide (n ∈ vs) = false) := decide_eq_false hn
      clear hn
      go_wp2
      go_ret
      exact ⟨ret_b HD.out.symm, rfl⟩
theorem faB_in {N : Nat} {vs : List Int} {a : Nat} (ha : a < N) : faB N vs a = decide ((a : Int) ∈ vs) := by
  unfold faB
  simp [ha]
theorem kBit_at {n₀ : Nat} {W : World} {ad : Option Addr} {len cap : Nat} {bs : List (Int × Bool)} (h : kBit.Lies n₀ W (.slice ad len cap) bs) (j : Nat) (hj : j < bs.length) : ∃ b off : Nat, ad = some ⟨b, off, none⟩ ∧ b < n₀ ∧ W.cell? ⟨b, off + j * 2, none⟩ = some (.int .i64 (bs.getD j (0, false)).1) ∧ W.cell? ⟨b, off + j * 2 + 1, none⟩ = some (.bool (bs.getD j (0, false)).2) := by
  obtain ⟨b, off, e, hb, hc⟩ := h.at j hj
  have e1 : bs.getD j (0, false) = bs[j] := by simp [hj]
  rw [e1]
  exact ⟨b, off, e, hb, hc 0 (by decide), hc 1 (by decide)⟩
end Go.Proofs.Ytklcjfbdneallab
