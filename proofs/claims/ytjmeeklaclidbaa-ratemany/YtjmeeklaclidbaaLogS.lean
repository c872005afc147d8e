/- The calls Same and Ints of the document's answer return true of two rows that hold the same; for rows that lie in memory. -/
import Derived.Test.YtjmeeklaclidbaaLogC
namespace Go.Proofs.Ytjmeeklaclidbaa
open Go.ChangeShapes Go.WideShapes Go.ChangeAt Go.RowKit Go.Shelf
set_option linter.unusedVariables false

set_option maxHeartbeats 1000000 in
theorem Same_any (ad ad' : Option Addr) (len len' cap cap' : Nat) (es : List Note) (w : World) (hl : es.length ≤ 1000000) (hE : Ents w.heap.size w (.slice ad len cap) es) (hF : Ents w.heap.size w (.slice ad' len' cap') es) :
    Calls Try.prog 12 #[.slice ad len cap, .slice ad' len' cap'] w fun e w' => e = .returned (.bool true) ∧ Below w.heap.size w w' := by
  obtain ⟨_, _, hv, _, _, _, hc⟩ := hE
  obtain ⟨rfl, rfl, rfl⟩ : ad = _ ∧ len = _ ∧ cap = _ := by simpa using hv
  obtain ⟨_, _, hv', _, _, _, hc'⟩ := hF
  obtain ⟨rfl, rfl, rfl⟩ : ad' = _ ∧ len' = _ ∧ cap' = _ := by simpa using hv'
  clear hv hv'
  go_enter Try.func12, Try.ntmps12
  go_wp2
  go_loopw [5] (fun i wr => ∃ k : Nat, k ≤ es.length ∧ i = .int .i64 k ∧ Below w.heap.size w wr) (fun i _ => es.length - (intV i).toNat)
  case atStart => exact ⟨0, Nat.zero_le _, rfl, Below.refl _ _⟩
  case round =>
    obtain ⟨k, hk, rfl, hB⟩ := hrel
    by_cases hlt : k < es.length
    · obtain ⟨b, off, rfl, hbl, e0, e1⟩ := hc k hlt
      obtain ⟨b', off', rfl, hbl', e0', e1'⟩ := hc' k hlt
      have f0 := (hB.cell (p := ⟨b, off + k * 2, none⟩) hbl).trans e0
      have f1 := (hB.cell (p := ⟨b, off + k * 2 + 1, none⟩) hbl).trans e1
      have f0' := (hB.cell (p := ⟨b', off' + k * 2, none⟩) hbl').trans e0'
      have f1' := (hB.cell (p := ⟨b', off' + k * 2 + 1, none⟩) hbl').trans e1'
      clear e0 e1 e0' e1' hc hc'
      generalize es.getD k note0 = z at f0 f1 f0' f1'
      have i1 : (0 : Int) ≤ (k : Int) := by omega
      have i2 : (k : Int) < (es.length : Int) := by omega
      go_wp2
      go_quiet (fail)
      go_wp2
      go_roundw
      case rel => exact ⟨k + 1, by omega, by simp, ⟨hB.os, hB.tape, hB.output, hB.size, hB.block⟩⟩
      case measure => simp [intV]; omega
    · obtain rfl : k = es.length := by omega
      go_wp2
      go_ret
      exact ⟨rfl, hB⟩
end Go.Proofs.Ytjmeeklaclidbaa
