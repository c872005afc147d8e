/-
  No cell of these rows narrows 'for every input' (looked for: loops, veiled, ifaces, maps, wideKeys, modest, calm, conditions, laid).
  DERIVED. THE GIVEN ROWS OF THIS SEAT. 6 by the template 'for every input the law returns true; each argument reads behind the call as it read before'; 0 by the template 'total and deterministic' (their statements: YtcfakhfipdjnmaaTotals.lean).
  GIVEN WITH THE SEED: the statements are not yours to turn. If you find one false, say at which input.
  Laid BY PROGRAM, IN A SANDBOX (cutbox-rows.mjs): the forced cells as the released guide's own fill.sh prints them over the translation f4311e62839d128f… (all of the seat's roots in one cut). By AI agents, Wed Nov 11 2026. No macro, syntax, notation, axiom, sorry.
-/
import Derived.Test.YtcfakhfipdjnmaaChecked
import GoSem.Claim
import GoSem.ClaimJoined
import GoSem.ClaimMapViews
import Derived.JoinedTies
import Derived.KernelRfl
namespace Go.Proofs.Ytcfakhfipdjnmaa
/- THE CELL 'sum', in the pinned program and in every row, IS THE sha256 OF THE DUMP (.gsa) THAT YtcfakhfipdjnmaaProg.lean LOADS. Nothing in Lean hashes anything: it is a label: what it is worth is what the hold of that sum in a sandbox is worth. -/
noncomputable def Try.pinned : Pinned := { name := "ytcfakhfipdjnmaa", sum := "f4311e62839d128fc139b5de0cbf1e8c590bf3c373bca8a7700955fa6a79d346", checked := Try.checked }
namespace Rows
def none {H : Type} : Left H := { results := [], args := [] }

/-- 'bellwetherlaw21.SchedSlots': WHATEVER THE INPUT: true; the input reads as it did. -/
def schedSlotsSpec : ChangeSpec := { name := "schedSlots", fn := fun _ => fun
  | [d1, d2, d3, d4] => { results := [.lit (.bool true)], args := [d1, d2, d3, d4] }
  | _ => none }
def schedSlotsRow : OpenClaim := { program := "ytcfakhfipdjnmaa", sum := "f4311e62839d128fc139b5de0cbf1e8c590bf3c373bca8a7700955fa6a79d346", func := "bellwether/bellwetherlaw21.SchedSlots", spec := "schedSlots", unfollowed := true, recurses := true, apart := false }
def SchedSlotsSaid : Prop := schedSlotsRow.holds Try.pinned (OpenSpec.ofChange schedSlotsSpec)

/-- ITS FALSE NEIGHBOUR: 'it returns false'. Refute it at one input. -/
def schedSlotsWrong : ChangeSpec := { name := "schedSlots", fn := fun _ => fun
  | [d1, d2, d3, d4] => { results := [.lit (.bool false)], args := [d1, d2, d3, d4] }
  | _ => none }
def SchedSlotsWrongFalsely : Prop := schedSlotsRow.holds Try.pinned (OpenSpec.ofChange schedSlotsWrong)

/-- 'bellwetherlaw21.SchedOwned': WHATEVER THE INPUT: true; the input reads as it did. -/
def schedOwnedSpec : ChangeSpec := { name := "schedOwned", fn := fun _ => fun
  | [d1, d2, d3] => { results := [.lit (.bool true)], args := [d1, d2, d3] }
  | _ => none }
def schedOwnedRow : OpenClaim := { program := "ytcfakhfipdjnmaa", sum := "f4311e62839d128fc139b5de0cbf1e8c590bf3c373bca8a7700955fa6a79d346", func := "bellwether/bellwetherlaw21.SchedOwned", spec := "schedOwned", unfollowed := true, recurses := true, apart := false }
def SchedOwnedSaid : Prop := schedOwnedRow.holds Try.pinned (OpenSpec.ofChange schedOwnedSpec)

/-- ITS FALSE NEIGHBOUR: 'it returns false'. Refute it at one input. -/
def schedOwnedWrong : ChangeSpec := { name := "schedOwned", fn := fun _ => fun
  | [d1, d2, d3] => { results := [.lit (.bool false)], args := [d1, d2, d3] }
  | _ => none }
def SchedOwnedWrongFalsely : Prop := schedOwnedRow.holds Try.pinned (OpenSpec.ofChange schedOwnedWrong)

/-- 'bellwetherlaw21.SchedOne': WHATEVER THE INPUT: true; the input reads as it did. -/
def schedOneSpec : ChangeSpec := { name := "schedOne", fn := fun _ => fun
  | [d1, d2] => { results := [.lit (.bool true)], args := [d1, d2] }
  | _ => none }
def schedOneRow : OpenClaim := { program := "ytcfakhfipdjnmaa", sum := "f4311e62839d128fc139b5de0cbf1e8c590bf3c373bca8a7700955fa6a79d346", func := "bellwether/bellwetherlaw21.SchedOne", spec := "schedOne", unfollowed := true, recurses := true, apart := false }
def SchedOneSaid : Prop := schedOneRow.holds Try.pinned (OpenSpec.ofChange schedOneSpec)

/-- ITS FALSE NEIGHBOUR: 'it returns false'. Refute it at one input. -/
def schedOneWrong : ChangeSpec := { name := "schedOne", fn := fun _ => fun
  | [d1, d2] => { results := [.lit (.bool false)], args := [d1, d2] }
  | _ => none }
def SchedOneWrongFalsely : Prop := schedOneRow.holds Try.pinned (OpenSpec.ofChange schedOneWrong)

/-- 'bellwetherlaw21.SchedOnce': WHATEVER THE INPUT: true; the input reads as it did. -/
def schedOnceSpec : ChangeSpec := { name := "schedOnce", fn := fun _ => fun
  | [d1, d2, d3] => { results := [.lit (.bool true)], args := [d1, d2, d3] }
  | _ => none }
def schedOnceRow : OpenClaim := { program := "ytcfakhfipdjnmaa", sum := "f4311e62839d128fc139b5de0cbf1e8c590bf3c373bca8a7700955fa6a79d346", func := "bellwether/bellwetherlaw21.SchedOnce", spec := "schedOnce", unfollowed := true, recurses := true, apart := false }
def SchedOnceSaid : Prop := schedOnceRow.holds Try.pinned (OpenSpec.ofChange schedOnceSpec)

/-- ITS FALSE NEIGHBOUR: 'it returns false'. Refute it at one input. -/
def schedOnceWrong : ChangeSpec := { name := "schedOnce", fn := fun _ => fun
  | [d1, d2, d3] => { results := [.lit (.bool false)], args := [d1, d2, d3] }
  | _ => none }
def SchedOnceWrongFalsely : Prop := schedOnceRow.holds Try.pinned (OpenSpec.ofChange schedOnceWrong)

/-- 'bellwetherlaw22.SlotPlaces': WHATEVER THE INPUT: true; the input reads as it did. -/
def slotPlacesSpec : ChangeSpec := { name := "slotPlaces", fn := fun _ => fun
  | [d1, d2, d3, d4] => { results := [.lit (.bool true)], args := [d1, d2, d3, d4] }
  | _ => none }
def slotPlacesRow : OpenClaim := { program := "ytcfakhfipdjnmaa", sum := "f4311e62839d128fc139b5de0cbf1e8c590bf3c373bca8a7700955fa6a79d346", func := "bellwether/bellwetherlaw22.SlotPlaces", spec := "slotPlaces", unfollowed := true, recurses := true, apart := false }
def SlotPlacesSaid : Prop := slotPlacesRow.holds Try.pinned (OpenSpec.ofChange slotPlacesSpec)

/-- ITS FALSE NEIGHBOUR: 'it returns false'. Refute it at one input. -/
def slotPlacesWrong : ChangeSpec := { name := "slotPlaces", fn := fun _ => fun
  | [d1, d2, d3, d4] => { results := [.lit (.bool false)], args := [d1, d2, d3, d4] }
  | _ => none }
def SlotPlacesWrongFalsely : Prop := slotPlacesRow.holds Try.pinned (OpenSpec.ofChange slotPlacesWrong)

/-- 'bellwetherlaw22.SlotWindows': WHATEVER THE INPUT: true; the input reads as it did. -/
def slotWindowsSpec : ChangeSpec := { name := "slotWindows", fn := fun _ => fun
  | [d1, d2, d3, d4] => { results := [.lit (.bool true)], args := [d1, d2, d3, d4] }
  | _ => none }
def slotWindowsRow : OpenClaim := { program := "ytcfakhfipdjnmaa", sum := "f4311e62839d128fc139b5de0cbf1e8c590bf3c373bca8a7700955fa6a79d346", func := "bellwether/bellwetherlaw22.SlotWindows", spec := "slotWindows", unfollowed := true, recurses := true, apart := false }
def SlotWindowsSaid : Prop := slotWindowsRow.holds Try.pinned (OpenSpec.ofChange slotWindowsSpec)

/-- ITS FALSE NEIGHBOUR: 'it returns false'. Refute it at one input. -/
def slotWindowsWrong : ChangeSpec := { name := "slotWindows", fn := fun _ => fun
  | [d1, d2, d3, d4] => { results := [.lit (.bool false)], args := [d1, d2, d3, d4] }
  | _ => none }
def SlotWindowsWrongFalsely : Prop := slotWindowsRow.holds Try.pinned (OpenSpec.ofChange slotWindowsWrong)

/- THE SECOND FORM. 'bulk': how many values and letters a reading holds, each counted each time it is reached (what is shared counts as often as it is met; a slice's spare places count too). A statement '..UptoSaid' is the law's where the arguments, and the package variables that the reading takes, are together of bulk at most 1048576: NARROWER than '..Said'. Prove '..Said' where nothing that the law and all that it calls make is longer than what came in: it says more and counts as full. Else prove '..UptoSaid'. A law counts once. -/
mutual
def uptoBulk {H : Type} : DataW H → Nat
  | .lit (.string bytes) => bytes.length + 1
  | .lit _ => 1
  | .nil => 1
  | .ptr d => uptoBulk d + 1
  | .slice elems spare => uptoBulkAll elems + uptoBulkAll spare + 1
  | .agg parts => uptoBulkAll parts + 1
  | .iface _ d => uptoBulk d + 1
  | .map entries => uptoBulkEntries entries + 1
  | .held _ => 1
def uptoBulkAll {H : Type} : List (DataW H) → Nat
  | [] => 0
  | d :: r => uptoBulk d + uptoBulkAll r
def uptoBulkEntries {H : Type} : List (Lit × DataW H) → Nat
  | [] => 0
  | x :: r => uptoBulkEntry x + uptoBulkEntries r
def uptoBulkEntry {H : Type} : Lit × DataW H → Nat
  | (.string bytes, d) => bytes.length + uptoBulk d + 1
  | (_, d) => uptoBulk d + 1
 end
def uptoSmall : (H : Type) → List (DataW H) → Bool := fun _ ds => decide (uptoBulkAll ds ≤ 1048576)
def OpenSpec.upto (s : _root_.Go.ChangeSpec) : _root_.Go.OpenSpec := { _root_.Go.OpenSpec.ofChange s with cond := some uptoSmall }

/-- 'bellwetherlaw21.SchedSlots', WHERE WHAT IT READS IS OF BULK AT MOST 1048576: true; the input reads as it did. -/
def schedSlotsUptoRow : OpenClaim := { program := "ytcfakhfipdjnmaa", sum := "f4311e62839d128fc139b5de0cbf1e8c590bf3c373bca8a7700955fa6a79d346", func := "bellwether/bellwetherlaw21.SchedSlots", spec := "schedSlots", unfollowed := true, recurses := true, apart := false, narrowed := true }
def SchedSlotsUptoSaid : Prop := schedSlotsUptoRow.holds Try.pinned (OpenSpec.upto schedSlotsSpec)

/-- 'bellwetherlaw21.SchedOwned', WHERE WHAT IT READS IS OF BULK AT MOST 1048576: true; the input reads as it did. -/
def schedOwnedUptoRow : OpenClaim := { program := "ytcfakhfipdjnmaa", sum := "f4311e62839d128fc139b5de0cbf1e8c590bf3c373bca8a7700955fa6a79d346", func := "bellwether/bellwetherlaw21.SchedOwned", spec := "schedOwned", unfollowed := true, recurses := true, apart := false, narrowed := true }
def SchedOwnedUptoSaid : Prop := schedOwnedUptoRow.holds Try.pinned (OpenSpec.upto schedOwnedSpec)

/-- 'bellwetherlaw21.SchedOne', WHERE WHAT IT READS IS OF BULK AT MOST 1048576: true; the input reads as it did. -/
def schedOneUptoRow : OpenClaim := { program := "ytcfakhfipdjnmaa", sum := "f4311e62839d128fc139b5de0cbf1e8c590bf3c373bca8a7700955fa6a79d346", func := "bellwether/bellwetherlaw21.SchedOne", spec := "schedOne", unfollowed := true, recurses := true, apart := false, narrowed := true }
def SchedOneUptoSaid : Prop := schedOneUptoRow.holds Try.pinned (OpenSpec.upto schedOneSpec)

/-- 'bellwetherlaw21.SchedOnce', WHERE WHAT IT READS IS OF BULK AT MOST 1048576: true; the input reads as it did. -/
def schedOnceUptoRow : OpenClaim := { program := "ytcfakhfipdjnmaa", sum := "f4311e62839d128fc139b5de0cbf1e8c590bf3c373bca8a7700955fa6a79d346", func := "bellwether/bellwetherlaw21.SchedOnce", spec := "schedOnce", unfollowed := true, recurses := true, apart := false, narrowed := true }
def SchedOnceUptoSaid : Prop := schedOnceUptoRow.holds Try.pinned (OpenSpec.upto schedOnceSpec)

/-- 'bellwetherlaw22.SlotPlaces', WHERE WHAT IT READS IS OF BULK AT MOST 1048576: true; the input reads as it did. -/
def slotPlacesUptoRow : OpenClaim := { program := "ytcfakhfipdjnmaa", sum := "f4311e62839d128fc139b5de0cbf1e8c590bf3c373bca8a7700955fa6a79d346", func := "bellwether/bellwetherlaw22.SlotPlaces", spec := "slotPlaces", unfollowed := true, recurses := true, apart := false, narrowed := true }
def SlotPlacesUptoSaid : Prop := slotPlacesUptoRow.holds Try.pinned (OpenSpec.upto slotPlacesSpec)

/-- 'bellwetherlaw22.SlotWindows', WHERE WHAT IT READS IS OF BULK AT MOST 1048576: true; the input reads as it did. -/
def slotWindowsUptoRow : OpenClaim := { program := "ytcfakhfipdjnmaa", sum := "f4311e62839d128fc139b5de0cbf1e8c590bf3c373bca8a7700955fa6a79d346", func := "bellwether/bellwetherlaw22.SlotWindows", spec := "slotWindows", unfollowed := true, recurses := true, apart := false, narrowed := true }
def SlotWindowsUptoSaid : Prop := slotWindowsUptoRow.holds Try.pinned (OpenSpec.upto slotWindowsSpec)

end Rows
end Go.Proofs.Ytcfakhfipdjnmaa
