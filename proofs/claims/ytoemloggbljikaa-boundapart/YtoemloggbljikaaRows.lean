/-
  No cell of these rows narrows 'for every input' (looked for: loops, veiled, ifaces, maps, wideKeys, modest, calm, conditions, laid).
  DERIVED. THE GIVEN ROWS OF THIS SEAT. 6 by the template 'for every input the law returns true; each argument reads behind the call as it read before'; 0 by the template 'total and deterministic' (their statements: YtoemloggbljikaaTotals.lean).
  GIVEN WITH THE SEED: the statements are not yours to turn. If you find one false, say at which input.
  Laid BY PROGRAM, IN A SANDBOX (cutbox-rows.mjs): the forced cells as the released guide's own fill.sh prints them over the translation f0d3b6b1b2e7b6c7… (all of the seat's roots in one cut). By AI agents, Wed Nov 11 2026. No macro, syntax, notation, axiom, sorry.
-/
import Derived.Test.YtoemloggbljikaaChecked
import GoSem.Claim
import GoSem.ClaimJoined
import GoSem.ClaimMapViews
import Derived.JoinedTies
import Derived.KernelRfl
namespace Go.Proofs.Ytoemloggbljikaa
/- THE CELL 'sum', in the pinned program and in every row, IS THE sha256 OF THE DUMP (.gsa) THAT YtoemloggbljikaaProg.lean LOADS. Nothing in Lean hashes anything: it is a label: what it is worth is what the hold of that sum in a sandbox is worth. -/
noncomputable def Try.pinned : Pinned := { name := "ytoemloggbljikaa", sum := "f0d3b6b1b2e7b6c72b4761bf3d0060192c0345c523c91e3d9ccd858dd01cfa4e", checked := Try.checked }
namespace Rows
def none {H : Type} : Left H := { results := [], args := [] }

/-- 'bellwetherlaw03.ConfPlain': WHATEVER THE INPUT: true; the input reads as it did. -/
def confPlainSpec : ChangeSpec := { name := "confPlain", fn := fun _ => fun
  | [d] => { results := [.lit (.bool true)], args := [d] }
  | _ => none }
def confPlainRow : OpenClaim := { program := "ytoemloggbljikaa", sum := "f0d3b6b1b2e7b6c72b4761bf3d0060192c0345c523c91e3d9ccd858dd01cfa4e", func := "bellwether/bellwetherlaw03.ConfPlain", spec := "confPlain", apart := false }
def ConfPlainSaid : Prop := confPlainRow.holds Try.pinned (OpenSpec.ofChange confPlainSpec)

/-- ITS FALSE NEIGHBOUR: 'it returns false'. Refute it at one input. -/
def confPlainWrong : ChangeSpec := { name := "confPlain", fn := fun _ => fun
  | [d] => { results := [.lit (.bool false)], args := [d] }
  | _ => none }
def ConfPlainWrongFalsely : Prop := confPlainRow.holds Try.pinned (OpenSpec.ofChange confPlainWrong)

/-- 'bellwetherlaw03.ConfHalf': WHATEVER THE INPUT: true; the input reads as it did. -/
def confHalfSpec : ChangeSpec := { name := "confHalf", fn := fun _ => fun
  | [d] => { results := [.lit (.bool true)], args := [d] }
  | _ => none }
def confHalfRow : OpenClaim := { program := "ytoemloggbljikaa", sum := "f0d3b6b1b2e7b6c72b4761bf3d0060192c0345c523c91e3d9ccd858dd01cfa4e", func := "bellwether/bellwetherlaw03.ConfHalf", spec := "confHalf", apart := false }
def ConfHalfSaid : Prop := confHalfRow.holds Try.pinned (OpenSpec.ofChange confHalfSpec)

/-- ITS FALSE NEIGHBOUR: 'it returns false'. Refute it at one input. -/
def confHalfWrong : ChangeSpec := { name := "confHalf", fn := fun _ => fun
  | [d] => { results := [.lit (.bool false)], args := [d] }
  | _ => none }
def ConfHalfWrongFalsely : Prop := confHalfRow.holds Try.pinned (OpenSpec.ofChange confHalfWrong)

/-- 'bellwetherlaw03.ConfTurns': WHATEVER THE INPUT: true; the input reads as it did. -/
def confTurnsSpec : ChangeSpec := { name := "confTurns", fn := fun _ => fun
  | [d1, d2] => { results := [.lit (.bool true)], args := [d1, d2] }
  | _ => none }
def confTurnsRow : OpenClaim := { program := "ytoemloggbljikaa", sum := "f0d3b6b1b2e7b6c72b4761bf3d0060192c0345c523c91e3d9ccd858dd01cfa4e", func := "bellwether/bellwetherlaw03.ConfTurns", spec := "confTurns", apart := false }
def ConfTurnsSaid : Prop := confTurnsRow.holds Try.pinned (OpenSpec.ofChange confTurnsSpec)

/-- ITS FALSE NEIGHBOUR: 'it returns false'. Refute it at one input. -/
def confTurnsWrong : ChangeSpec := { name := "confTurns", fn := fun _ => fun
  | [d1, d2] => { results := [.lit (.bool false)], args := [d1, d2] }
  | _ => none }
def ConfTurnsWrongFalsely : Prop := confTurnsRow.holds Try.pinned (OpenSpec.ofChange confTurnsWrong)

/-- 'bellwetherlaw04.BoundPlaces': WHATEVER THE INPUT: true; the input reads as it did. -/
def boundPlacesSpec : ChangeSpec := { name := "boundPlaces", fn := fun _ => fun
  | [d1, d2] => { results := [.lit (.bool true)], args := [d1, d2] }
  | _ => none }
def boundPlacesRow : OpenClaim := { program := "ytoemloggbljikaa", sum := "f0d3b6b1b2e7b6c72b4761bf3d0060192c0345c523c91e3d9ccd858dd01cfa4e", func := "bellwether/bellwetherlaw04.BoundPlaces", spec := "boundPlaces", apart := false }
def BoundPlacesSaid : Prop := boundPlacesRow.holds Try.pinned (OpenSpec.ofChange boundPlacesSpec)

/-- ITS FALSE NEIGHBOUR: 'it returns false'. Refute it at one input. -/
def boundPlacesWrong : ChangeSpec := { name := "boundPlaces", fn := fun _ => fun
  | [d1, d2] => { results := [.lit (.bool false)], args := [d1, d2] }
  | _ => none }
def BoundPlacesWrongFalsely : Prop := boundPlacesRow.holds Try.pinned (OpenSpec.ofChange boundPlacesWrong)

/-- 'bellwetherlaw04.BoundRight': WHATEVER THE INPUT: true; the input reads as it did. -/
def boundRightSpec : ChangeSpec := { name := "boundRight", fn := fun _ => fun
  | [d] => { results := [.lit (.bool true)], args := [d] }
  | _ => none }
def boundRightRow : OpenClaim := { program := "ytoemloggbljikaa", sum := "f0d3b6b1b2e7b6c72b4761bf3d0060192c0345c523c91e3d9ccd858dd01cfa4e", func := "bellwether/bellwetherlaw04.BoundRight", spec := "boundRight", apart := false }
def BoundRightSaid : Prop := boundRightRow.holds Try.pinned (OpenSpec.ofChange boundRightSpec)

/-- ITS FALSE NEIGHBOUR: 'it returns false'. Refute it at one input. -/
def boundRightWrong : ChangeSpec := { name := "boundRight", fn := fun _ => fun
  | [d] => { results := [.lit (.bool false)], args := [d] }
  | _ => none }
def BoundRightWrongFalsely : Prop := boundRightRow.holds Try.pinned (OpenSpec.ofChange boundRightWrong)

/-- 'bellwetherlaw04.BoundApart': WHATEVER THE INPUT: true; the input reads as it did. -/
def boundApartSpec : ChangeSpec := { name := "boundApart", fn := fun _ => fun
  | [d1, d2, d3] => { results := [.lit (.bool true)], args := [d1, d2, d3] }
  | _ => none }
def boundApartRow : OpenClaim := { program := "ytoemloggbljikaa", sum := "f0d3b6b1b2e7b6c72b4761bf3d0060192c0345c523c91e3d9ccd858dd01cfa4e", func := "bellwether/bellwetherlaw04.BoundApart", spec := "boundApart", apart := false }
def BoundApartSaid : Prop := boundApartRow.holds Try.pinned (OpenSpec.ofChange boundApartSpec)

/-- ITS FALSE NEIGHBOUR: 'it returns false'. Refute it at one input. -/
def boundApartWrong : ChangeSpec := { name := "boundApart", fn := fun _ => fun
  | [d1, d2, d3] => { results := [.lit (.bool false)], args := [d1, d2, d3] }
  | _ => none }
def BoundApartWrongFalsely : Prop := boundApartRow.holds Try.pinned (OpenSpec.ofChange boundApartWrong)

/- THE SECOND FORM. 'bulk': how many values and letters a reading holds, each counted each time it is reached (what is shared counts as often as it is met; a slice's spare places count too). A statement '..UptoSaid' is the law's where the arguments, and the package variables that the reading takes, are together of bulk at most 1048576: NARROWER than '..Said'. Prove '..Said' where nothing that the law and all that it calls make is longer than what came in: it says more and counts as full. Else prove '..UptoSaid'. A law counts once. -/
mutual
def uptoBulk {H : Type} : DataW H → Nat
  | .lit (.string bytes) => bytes.length + 1
  | .lit _ => 1
  | .nil => 1
  | .ptr d => uptoBulk d + 1
  | .slice elems spare => uptoBulkAll elems + uptoBulkAll spare + 1
  | .agg parts => uptoBulkAll parts + 1
  | .iface _ d => uptoBulk d + 1
  | .map entries => uptoBulkEntries entries + 1
  | .held _ => 1
def uptoBulkAll {H : Type} : List (DataW H) → Nat
  | [] => 0
  | d :: r => uptoBulk d + uptoBulkAll r
def uptoBulkEntries {H : Type} : List (Lit × DataW H) → Nat
  | [] => 0
  | x :: r => uptoBulkEntry x + uptoBulkEntries r
def uptoBulkEntry {H : Type} : Lit × DataW H → Nat
  | (.string bytes, d) => bytes.length + uptoBulk d + 1
  | (_, d) => uptoBulk d + 1
 end
def uptoSmall : (H : Type) → List (DataW H) → Bool := fun _ ds => decide (uptoBulkAll ds ≤ 1048576)
def OpenSpec.upto (s : _root_.Go.ChangeSpec) : _root_.Go.OpenSpec := { _root_.Go.OpenSpec.ofChange s with cond := some uptoSmall }

/-- 'bellwetherlaw03.ConfPlain', WHERE WHAT IT READS IS OF BULK AT MOST 1048576: true; the input reads as it did. -/
def confPlainUptoRow : OpenClaim := { program := "ytoemloggbljikaa", sum := "f0d3b6b1b2e7b6c72b4761bf3d0060192c0345c523c91e3d9ccd858dd01cfa4e", func := "bellwether/bellwetherlaw03.ConfPlain", spec := "confPlain", apart := false, narrowed := true }
def ConfPlainUptoSaid : Prop := confPlainUptoRow.holds Try.pinned (OpenSpec.upto confPlainSpec)

/-- 'bellwetherlaw03.ConfHalf', WHERE WHAT IT READS IS OF BULK AT MOST 1048576: true; the input reads as it did. -/
def confHalfUptoRow : OpenClaim := { program := "ytoemloggbljikaa", sum := "f0d3b6b1b2e7b6c72b4761bf3d0060192c0345c523c91e3d9ccd858dd01cfa4e", func := "bellwether/bellwetherlaw03.ConfHalf", spec := "confHalf", apart := false, narrowed := true }
def ConfHalfUptoSaid : Prop := confHalfUptoRow.holds Try.pinned (OpenSpec.upto confHalfSpec)

/-- 'bellwetherlaw03.ConfTurns', WHERE WHAT IT READS IS OF BULK AT MOST 1048576: true; the input reads as it did. -/
def confTurnsUptoRow : OpenClaim := { program := "ytoemloggbljikaa", sum := "f0d3b6b1b2e7b6c72b4761bf3d0060192c0345c523c91e3d9ccd858dd01cfa4e", func := "bellwether/bellwetherlaw03.ConfTurns", spec := "confTurns", apart := false, narrowed := true }
def ConfTurnsUptoSaid : Prop := confTurnsUptoRow.holds Try.pinned (OpenSpec.upto confTurnsSpec)

/-- 'bellwetherlaw04.BoundPlaces', WHERE WHAT IT READS IS OF BULK AT MOST 1048576: true; the input reads as it did. -/
def boundPlacesUptoRow : OpenClaim := { program := "ytoemloggbljikaa", sum := "f0d3b6b1b2e7b6c72b4761bf3d0060192c0345c523c91e3d9ccd858dd01cfa4e", func := "bellwether/bellwetherlaw04.BoundPlaces", spec := "boundPlaces", apart := false, narrowed := true }
def BoundPlacesUptoSaid : Prop := boundPlacesUptoRow.holds Try.pinned (OpenSpec.upto boundPlacesSpec)

/-- 'bellwetherlaw04.BoundRight', WHERE WHAT IT READS IS OF BULK AT MOST 1048576: true; the input reads as it did. -/
def boundRightUptoRow : OpenClaim := { program := "ytoemloggbljikaa", sum := "f0d3b6b1b2e7b6c72b4761bf3d0060192c0345c523c91e3d9ccd858dd01cfa4e", func := "bellwether/bellwetherlaw04.BoundRight", spec := "boundRight", apart := false, narrowed := true }
def BoundRightUptoSaid : Prop := boundRightUptoRow.holds Try.pinned (OpenSpec.upto boundRightSpec)

/-- 'bellwetherlaw04.BoundApart', WHERE WHAT IT READS IS OF BULK AT MOST 1048576: true; the input reads as it did. -/
def boundApartUptoRow : OpenClaim := { program := "ytoemloggbljikaa", sum := "f0d3b6b1b2e7b6c72b4761bf3d0060192c0345c523c91e3d9ccd858dd01cfa4e", func := "bellwether/bellwetherlaw04.BoundApart", spec := "boundApart", apart := false, narrowed := true }
def BoundApartUptoSaid : Prop := boundApartUptoRow.holds Try.pinned (OpenSpec.upto boundApartSpec)

end Rows
end Go.Proofs.Ytoemloggbljikaa
