/-
  No cell of these rows narrows 'for every input' (looked for: loops, veiled, ifaces, maps, wideKeys, modest, calm, conditions, laid).
  DERIVED. THE GIVEN ROWS OF THIS SEAT. 6 by the template 'for every input the law returns true; each argument reads behind the call as it read before'; 0 by the template 'total and deterministic' (their statements: YtgclabboafdheaaTotals.lean).
  GIVEN WITH THE SEED: the statements are not yours to turn. If you find one false, say at which input.
  Laid BY PROGRAM, IN A SANDBOX (cutbox-rows.mjs): the forced cells as the released guide's own fill.sh prints them over the translation c9bf98290f7de95e… (all of the seat's roots in one cut). By AI agents, Wed Nov 11 2026. No macro, syntax, notation, axiom, sorry.
-/
import Derived.Test.YtgclabboafdheaaChecked
import GoSem.Claim
import GoSem.ClaimJoined
import GoSem.ClaimMapViews
import Derived.JoinedTies
import Derived.KernelRfl
namespace Go.Proofs.Ytgclabboafdheaa
/- THE CELL 'sum', in the pinned program and in every row, IS THE sha256 OF THE DUMP (.gsa) THAT YtgclabboafdheaaProg.lean LOADS. Nothing in Lean hashes anything: it is a label: what it is worth is what the hold of that sum in a sandbox is worth. -/
noncomputable def Try.pinned : Pinned := { name := "ytgclabboafdheaa", sum := "c9bf98290f7de95ec5b399d689fcaf7519463fb0ae334727f860a0d93b269a89", checked := Try.checked }
namespace Rows
def none {H : Type} : Left H := { results := [], args := [] }

/-- 'bellwetherlaw25.RosterMarks': WHATEVER THE INPUT: true; the input reads as it did. -/
def rosterMarksSpec : ChangeSpec := { name := "rosterMarks", fn := fun _ => fun
  | [d1, d2, d3, d4] => { results := [.lit (.bool true)], args := [d1, d2, d3, d4] }
  | _ => none }
def rosterMarksRow : OpenClaim := { program := "ytgclabboafdheaa", sum := "c9bf98290f7de95ec5b399d689fcaf7519463fb0ae334727f860a0d93b269a89", func := "bellwether/bellwetherlaw25.RosterMarks", spec := "rosterMarks", inPlace := ["internal/bytealg.CountString", "internal/bytealg.IndexByteString", "internal/bytealg.IndexString"], unfollowed := true, recurses := true, named := ["internal/bytealg.MaxLen"], apart := false }
def RosterMarksSaid : Prop := rosterMarksRow.holds Try.pinned (OpenSpec.ofChange rosterMarksSpec)

/-- ITS FALSE NEIGHBOUR: 'it returns false'. Refute it at one input. -/
def rosterMarksWrong : ChangeSpec := { name := "rosterMarks", fn := fun _ => fun
  | [d1, d2, d3, d4] => { results := [.lit (.bool false)], args := [d1, d2, d3, d4] }
  | _ => none }
def RosterMarksWrongFalsely : Prop := rosterMarksRow.holds Try.pinned (OpenSpec.ofChange rosterMarksWrong)

/-- 'bellwetherlaw25.RosterAsks': WHATEVER THE INPUT: true; the input reads as it did. -/
def rosterAsksSpec : ChangeSpec := { name := "rosterAsks", fn := fun _ => fun
  | [d1, d2, d3] => { results := [.lit (.bool true)], args := [d1, d2, d3] }
  | _ => none }
def rosterAsksRow : OpenClaim := { program := "ytgclabboafdheaa", sum := "c9bf98290f7de95ec5b399d689fcaf7519463fb0ae334727f860a0d93b269a89", func := "bellwether/bellwetherlaw25.RosterAsks", spec := "rosterAsks", inPlace := ["internal/bytealg.CountString", "internal/bytealg.IndexByteString", "internal/bytealg.IndexString"], unfollowed := true, recurses := true, named := ["internal/bytealg.MaxLen"], apart := false }
def RosterAsksSaid : Prop := rosterAsksRow.holds Try.pinned (OpenSpec.ofChange rosterAsksSpec)

/-- ITS FALSE NEIGHBOUR: 'it returns false'. Refute it at one input. -/
def rosterAsksWrong : ChangeSpec := { name := "rosterAsks", fn := fun _ => fun
  | [d1, d2, d3] => { results := [.lit (.bool false)], args := [d1, d2, d3] }
  | _ => none }
def RosterAsksWrongFalsely : Prop := rosterAsksRow.holds Try.pinned (OpenSpec.ofChange rosterAsksWrong)

/-- 'bellwetherlaw25.RosterAll': WHATEVER THE INPUT: true; the input reads as it did. -/
def rosterAllSpec : ChangeSpec := { name := "rosterAll", fn := fun _ => fun
  | [d1, d2] => { results := [.lit (.bool true)], args := [d1, d2] }
  | _ => none }
def rosterAllRow : OpenClaim := { program := "ytgclabboafdheaa", sum := "c9bf98290f7de95ec5b399d689fcaf7519463fb0ae334727f860a0d93b269a89", func := "bellwether/bellwetherlaw25.RosterAll", spec := "rosterAll", inPlace := ["internal/bytealg.CountString", "internal/bytealg.IndexByteString", "internal/bytealg.IndexString"], unfollowed := true, recurses := true, named := ["internal/bytealg.MaxLen"], apart := false }
def RosterAllSaid : Prop := rosterAllRow.holds Try.pinned (OpenSpec.ofChange rosterAllSpec)

/-- ITS FALSE NEIGHBOUR: 'it returns false'. Refute it at one input. -/
def rosterAllWrong : ChangeSpec := { name := "rosterAll", fn := fun _ => fun
  | [d1, d2] => { results := [.lit (.bool false)], args := [d1, d2] }
  | _ => none }
def RosterAllWrongFalsely : Prop := rosterAllRow.holds Try.pinned (OpenSpec.ofChange rosterAllWrong)

/-- 'bellwetherlaw25.RosterJoins': WHATEVER THE INPUT: true; the input reads as it did. -/
def rosterJoinsSpec : ChangeSpec := { name := "rosterJoins", fn := fun _ => fun
  | [d1, d2, d3, d4] => { results := [.lit (.bool true)], args := [d1, d2, d3, d4] }
  | _ => none }
def rosterJoinsRow : OpenClaim := { program := "ytgclabboafdheaa", sum := "c9bf98290f7de95ec5b399d689fcaf7519463fb0ae334727f860a0d93b269a89", func := "bellwether/bellwetherlaw25.RosterJoins", spec := "rosterJoins", inPlace := ["internal/bytealg.CountString", "internal/bytealg.IndexByteString", "internal/bytealg.IndexString"], unfollowed := true, recurses := true, named := ["internal/bytealg.MaxLen"], apart := false }
def RosterJoinsSaid : Prop := rosterJoinsRow.holds Try.pinned (OpenSpec.ofChange rosterJoinsSpec)

/-- ITS FALSE NEIGHBOUR: 'it returns false'. Refute it at one input. -/
def rosterJoinsWrong : ChangeSpec := { name := "rosterJoins", fn := fun _ => fun
  | [d1, d2, d3, d4] => { results := [.lit (.bool false)], args := [d1, d2, d3, d4] }
  | _ => none }
def RosterJoinsWrongFalsely : Prop := rosterJoinsRow.holds Try.pinned (OpenSpec.ofChange rosterJoinsWrong)

/-- 'bellwetherlaw26.PortMoves': WHATEVER THE INPUT: true; the input reads as it did. -/
def portMovesSpec : ChangeSpec := { name := "portMoves", fn := fun _ => fun
  | [d1, d2, d3] => { results := [.lit (.bool true)], args := [d1, d2, d3] }
  | _ => none }
def portMovesRow : OpenClaim := { program := "ytgclabboafdheaa", sum := "c9bf98290f7de95ec5b399d689fcaf7519463fb0ae334727f860a0d93b269a89", func := "bellwether/bellwetherlaw26.PortMoves", spec := "portMoves", apart := false }
def PortMovesSaid : Prop := portMovesRow.holds Try.pinned (OpenSpec.ofChange portMovesSpec)

/-- ITS FALSE NEIGHBOUR: 'it returns false'. Refute it at one input. -/
def portMovesWrong : ChangeSpec := { name := "portMoves", fn := fun _ => fun
  | [d1, d2, d3] => { results := [.lit (.bool false)], args := [d1, d2, d3] }
  | _ => none }
def PortMovesWrongFalsely : Prop := portMovesRow.holds Try.pinned (OpenSpec.ofChange portMovesWrong)

/-- 'bellwetherlaw26.PortReads': WHATEVER THE INPUT: true; the input reads as it did. -/
def portReadsSpec : ChangeSpec := { name := "portReads", fn := fun _ => fun
  | [d1, d2, d3] => { results := [.lit (.bool true)], args := [d1, d2, d3] }
  | _ => none }
def portReadsRow : OpenClaim := { program := "ytgclabboafdheaa", sum := "c9bf98290f7de95ec5b399d689fcaf7519463fb0ae334727f860a0d93b269a89", func := "bellwether/bellwetherlaw26.PortReads", spec := "portReads", apart := false }
def PortReadsSaid : Prop := portReadsRow.holds Try.pinned (OpenSpec.ofChange portReadsSpec)

/-- ITS FALSE NEIGHBOUR: 'it returns false'. Refute it at one input. -/
def portReadsWrong : ChangeSpec := { name := "portReads", fn := fun _ => fun
  | [d1, d2, d3] => { results := [.lit (.bool false)], args := [d1, d2, d3] }
  | _ => none }
def PortReadsWrongFalsely : Prop := portReadsRow.holds Try.pinned (OpenSpec.ofChange portReadsWrong)

/- THE SECOND FORM. 'bulk': how many values and letters a reading holds, each counted each time it is reached (what is shared counts as often as it is met; a slice's spare places count too). A statement '..UptoSaid' is the law's where the arguments, and the package variables that the reading takes, are together of bulk at most 1048576: NARROWER than '..Said'. Prove '..Said' where nothing that the law and all that it calls make is longer than what came in: it says more and counts as full. Else prove '..UptoSaid'. A law counts once. -/
mutual
def uptoBulk {H : Type} : DataW H → Nat
  | .lit (.string bytes) => bytes.length + 1
  | .lit _ => 1
  | .nil => 1
  | .ptr d => uptoBulk d + 1
  | .slice elems spare => uptoBulkAll elems + uptoBulkAll spare + 1
  | .agg parts => uptoBulkAll parts + 1
  | .iface _ d => uptoBulk d + 1
  | .map entries => uptoBulkEntries entries + 1
  | .held _ => 1
def uptoBulkAll {H : Type} : List (DataW H) → Nat
  | [] => 0
  | d :: r => uptoBulk d + uptoBulkAll r
def uptoBulkEntries {H : Type} : List (Lit × DataW H) → Nat
  | [] => 0
  | x :: r => uptoBulkEntry x + uptoBulkEntries r
def uptoBulkEntry {H : Type} : Lit × DataW H → Nat
  | (.string bytes, d) => bytes.length + uptoBulk d + 1
  | (_, d) => uptoBulk d + 1
 end
def uptoSmall : (H : Type) → List (DataW H) → Bool := fun _ ds => decide (uptoBulkAll ds ≤ 1048576)
def OpenSpec.upto (s : _root_.Go.ChangeSpec) : _root_.Go.OpenSpec := { _root_.Go.OpenSpec.ofChange s with cond := some uptoSmall }

/-- 'bellwetherlaw25.RosterMarks', WHERE WHAT IT READS IS OF BULK AT MOST 1048576: true; the input reads as it did. -/
def rosterMarksUptoRow : OpenClaim := { program := "ytgclabboafdheaa", sum := "c9bf98290f7de95ec5b399d689fcaf7519463fb0ae334727f860a0d93b269a89", func := "bellwether/bellwetherlaw25.RosterMarks", spec := "rosterMarks", inPlace := ["internal/bytealg.CountString", "internal/bytealg.IndexByteString", "internal/bytealg.IndexString"], unfollowed := true, recurses := true, named := ["internal/bytealg.MaxLen"], apart := false, narrowed := true }
def RosterMarksUptoSaid : Prop := rosterMarksUptoRow.holds Try.pinned (OpenSpec.upto rosterMarksSpec)

/-- 'bellwetherlaw25.RosterAsks', WHERE WHAT IT READS IS OF BULK AT MOST 1048576: true; the input reads as it did. -/
def rosterAsksUptoRow : OpenClaim := { program := "ytgclabboafdheaa", sum := "c9bf98290f7de95ec5b399d689fcaf7519463fb0ae334727f860a0d93b269a89", func := "bellwether/bellwetherlaw25.RosterAsks", spec := "rosterAsks", inPlace := ["internal/bytealg.CountString", "internal/bytealg.IndexByteString", "internal/bytealg.IndexString"], unfollowed := true, recurses := true, named := ["internal/bytealg.MaxLen"], apart := false, narrowed := true }
def RosterAsksUptoSaid : Prop := rosterAsksUptoRow.holds Try.pinned (OpenSpec.upto rosterAsksSpec)

/-- 'bellwetherlaw25.RosterAll', WHERE WHAT IT READS IS OF BULK AT MOST 1048576: true; the input reads as it did. -/
def rosterAllUptoRow : OpenClaim := { program := "ytgclabboafdheaa", sum := "c9bf98290f7de95ec5b399d689fcaf7519463fb0ae334727f860a0d93b269a89", func := "bellwether/bellwetherlaw25.RosterAll", spec := "rosterAll", inPlace := ["internal/bytealg.CountString", "internal/bytealg.IndexByteString", "internal/bytealg.IndexString"], unfollowed := true, recurses := true, named := ["internal/bytealg.MaxLen"], apart := false, narrowed := true }
def RosterAllUptoSaid : Prop := rosterAllUptoRow.holds Try.pinned (OpenSpec.upto rosterAllSpec)

/-- 'bellwetherlaw25.RosterJoins', WHERE WHAT IT READS IS OF BULK AT MOST 1048576: true; the input reads as it did. -/
def rosterJoinsUptoRow : OpenClaim := { program := "ytgclabboafdheaa", sum := "c9bf98290f7de95ec5b399d689fcaf7519463fb0ae334727f860a0d93b269a89", func := "bellwether/bellwetherlaw25.RosterJoins", spec := "rosterJoins", inPlace := ["internal/bytealg.CountString", "internal/bytealg.IndexByteString", "internal/bytealg.IndexString"], unfollowed := true, recurses := true, named := ["internal/bytealg.MaxLen"], apart := false, narrowed := true }
def RosterJoinsUptoSaid : Prop := rosterJoinsUptoRow.holds Try.pinned (OpenSpec.upto rosterJoinsSpec)

/-- 'bellwetherlaw26.PortMoves', WHERE WHAT IT READS IS OF BULK AT MOST 1048576: true; the input reads as it did. -/
def portMovesUptoRow : OpenClaim := { program := "ytgclabboafdheaa", sum := "c9bf98290f7de95ec5b399d689fcaf7519463fb0ae334727f860a0d93b269a89", func := "bellwether/bellwetherlaw26.PortMoves", spec := "portMoves", apart := false, narrowed := true }
def PortMovesUptoSaid : Prop := portMovesUptoRow.holds Try.pinned (OpenSpec.upto portMovesSpec)

/-- 'bellwetherlaw26.PortReads', WHERE WHAT IT READS IS OF BULK AT MOST 1048576: true; the input reads as it did. -/
def portReadsUptoRow : OpenClaim := { program := "ytgclabboafdheaa", sum := "c9bf98290f7de95ec5b399d689fcaf7519463fb0ae334727f860a0d93b269a89", func := "bellwether/bellwetherlaw26.PortReads", spec := "portReads", apart := false, narrowed := true }
def PortReadsUptoSaid : Prop := portReadsUptoRow.holds Try.pinned (OpenSpec.upto portReadsSpec)

end Rows
end Go.Proofs.Ytgclabboafdheaa
