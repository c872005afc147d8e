/- The document's call Ints of layer 6 tells that two rows of the same numbers are the same, and makes at most new memory; conditions: the rows lie where they say, at most a million numbers. -/
import Derived.Test.YtohgmliafidalaaRowI
namespace Go.Proofs.Ytohgmliafidalaa
open Go.ChangeShapes Go.WideShapes Go.ChangeAt Go.RowKit
set_option linter.unusedVariables false

set_option maxHeartbeats 1000000 in
theorem KInts_any (ad ad' : Option Addr) (len len' cap cap' : Nat) (zs : List Int) (w : World) (hl : zs.length ≤ 1000000) (hE : kInt.Lies w.heap.size w (.slice ad len cap) zs) (hF : kInt.Lies w.heap.size w (.slice ad' len' cap') zs) :
    Calls Try.prog 33 #[.slice ad len cap, .slice ad' len' cap'] w fun e w' => e = .returned (.bool true) ∧ Below w.heap.size w w' := by
  obtain rfl := hE.len
  obtain rfl := hF.len
  go_enter Try.func33, Try.ntmps33
  go_wp2
  go_loopw [5] (fun i wr => ∃ k : Nat, k ≤ zs.length ∧ i = .int .i64 k ∧ Below w.heap.size w wr) (fun i _ => zs.length - (intV i).toNat)
  case atStart => exact ⟨0, Nat.zero_le _, rfl, Below.refl _ _⟩
  case round =>
    obtain ⟨k, hk, rfl, hB⟩ := hrel
    by_cases hlt : k < zs.length
    · obtain ⟨b, off, rfl, hbl, e0⟩ := kInt_at hE k hlt
      obtain ⟨b', off', rfl, hbl', e0'⟩ := kInt_at hF k hlt
      have f0 := (hB.cell (p := ⟨b, off + k, none⟩) hbl).trans e0
      have f0' := (hB.cell (p := ⟨b', off' + k, none⟩) hbl').trans e0'
      clear e0 e0' hE hF
      generalize zs[k] = z at f0 f0'
      have i1 : (0 : Int) ≤ (k : Int) := by omega
      have i2 : (k : Int) < (zs.length : Int) := by omega
      go_wp2
      go_quiet (fail)
      go_wp2
      go_roundw
      case rel => exact ⟨k + 1, by omega, by simp, ⟨hB.os, hB.tape, hB.output, hB.size, hB.block⟩⟩
      case measure => simp [intV]; omega
    · obtain rfl : k = zs.length := by omega
      go_wp2
      go_ret
      exact ⟨rfl, hB⟩
end Go.Proofs.Ytohgmliafidalaa
