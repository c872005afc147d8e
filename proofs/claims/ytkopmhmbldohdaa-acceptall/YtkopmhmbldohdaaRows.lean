/-
  No cell of these rows narrows 'for every input' (looked for: loops, veiled, ifaces, maps, wideKeys, modest, calm, conditions, laid).
  DERIVED. THE GIVEN ROWS OF THIS SEAT. 6 by the template 'for every input the law returns true; each argument reads behind the call as it read before'; 0 by the template 'total and deterministic' (their statements: YtkopmhmbldohdaaTotals.lean).
  GIVEN WITH THE SEED: the statements are not yours to turn. If you find one false, say at which input.
  Laid BY PROGRAM, IN A SANDBOX (cutbox-rows.mjs): the forced cells as the released guide's own fill.sh prints them over the translation bb558a0b67f4bfc8… (all of the seat's roots in one cut). By AI agents, Wed Nov 11 2026. No macro, syntax, notation, axiom, sorry.
-/
import Derived.Test.YtkopmhmbldohdaaChecked
import GoSem.Claim
import GoSem.ClaimJoined
import GoSem.ClaimMapViews
import Derived.JoinedTies
import Derived.KernelRfl
namespace Go.Proofs.Ytkopmhmbldohdaa
/- THE CELL 'sum', in the pinned program and in every row, IS THE sha256 OF THE DUMP (.gsa) THAT YtkopmhmbldohdaaProg.lean LOADS. Nothing in Lean hashes anything: it is a label: what it is worth is what the hold of that sum in a sandbox is worth. -/
noncomputable def Try.pinned : Pinned := { name := "ytkopmhmbldohdaa", sum := "bb558a0b67f4bfc8b0d65cca560e357d028a27ec149c1eb994d9d220fe494d94", checked := Try.checked }
namespace Rows
def none {H : Type} : Left H := { results := [], args := [] }

/-- 'bellwetherlaw23.GateOpens': WHATEVER THE INPUT: true; the input reads as it did. -/
def gateOpensSpec : ChangeSpec := { name := "gateOpens", fn := fun _ => fun
  | [d1, d2, d3, d4] => { results := [.lit (.bool true)], args := [d1, d2, d3, d4] }
  | _ => none }
def gateOpensRow : OpenClaim := { program := "ytkopmhmbldohdaa", sum := "bb558a0b67f4bfc8b0d65cca560e357d028a27ec149c1eb994d9d220fe494d94", func := "bellwether/bellwetherlaw23.GateOpens", spec := "gateOpens", unfollowed := true, recurses := true, apart := false }
def GateOpensSaid : Prop := gateOpensRow.holds Try.pinned (OpenSpec.ofChange gateOpensSpec)

/-- ITS FALSE NEIGHBOUR: 'it returns false'. Refute it at one input. -/
def gateOpensWrong : ChangeSpec := { name := "gateOpens", fn := fun _ => fun
  | [d1, d2, d3, d4] => { results := [.lit (.bool false)], args := [d1, d2, d3, d4] }
  | _ => none }
def GateOpensWrongFalsely : Prop := gateOpensRow.holds Try.pinned (OpenSpec.ofChange gateOpensWrong)

/-- 'bellwetherlaw23.GateSends': WHATEVER THE INPUT: true; the input reads as it did. -/
def gateSendsSpec : ChangeSpec := { name := "gateSends", fn := fun _ => fun
  | [d1, d2, d3, d4] => { results := [.lit (.bool true)], args := [d1, d2, d3, d4] }
  | _ => none }
def gateSendsRow : OpenClaim := { program := "ytkopmhmbldohdaa", sum := "bb558a0b67f4bfc8b0d65cca560e357d028a27ec149c1eb994d9d220fe494d94", func := "bellwether/bellwetherlaw23.GateSends", spec := "gateSends", unfollowed := true, recurses := true, apart := false }
def GateSendsSaid : Prop := gateSendsRow.holds Try.pinned (OpenSpec.ofChange gateSendsSpec)

/-- ITS FALSE NEIGHBOUR: 'it returns false'. Refute it at one input. -/
def gateSendsWrong : ChangeSpec := { name := "gateSends", fn := fun _ => fun
  | [d1, d2, d3, d4] => { results := [.lit (.bool false)], args := [d1, d2, d3, d4] }
  | _ => none }
def GateSendsWrongFalsely : Prop := gateSendsRow.holds Try.pinned (OpenSpec.ofChange gateSendsWrong)

/-- 'bellwetherlaw23.GateMute': WHATEVER THE INPUT: true; the input reads as it did. -/
def gateMuteSpec : ChangeSpec := { name := "gateMute", fn := fun _ => fun
  | [d1, d2, d3, d4] => { results := [.lit (.bool true)], args := [d1, d2, d3, d4] }
  | _ => none }
def gateMuteRow : OpenClaim := { program := "ytkopmhmbldohdaa", sum := "bb558a0b67f4bfc8b0d65cca560e357d028a27ec149c1eb994d9d220fe494d94", func := "bellwether/bellwetherlaw23.GateMute", spec := "gateMute", unfollowed := true, recurses := true, apart := false }
def GateMuteSaid : Prop := gateMuteRow.holds Try.pinned (OpenSpec.ofChange gateMuteSpec)

/-- ITS FALSE NEIGHBOUR: 'it returns false'. Refute it at one input. -/
def gateMuteWrong : ChangeSpec := { name := "gateMute", fn := fun _ => fun
  | [d1, d2, d3, d4] => { results := [.lit (.bool false)], args := [d1, d2, d3, d4] }
  | _ => none }
def GateMuteWrongFalsely : Prop := gateMuteRow.holds Try.pinned (OpenSpec.ofChange gateMuteWrong)

/-- 'bellwetherlaw23.GateGuards': WHATEVER THE INPUT: true; the input reads as it did. -/
def gateGuardsSpec : ChangeSpec := { name := "gateGuards", fn := fun _ => fun
  | [d1, d2, d3, d4] => { results := [.lit (.bool true)], args := [d1, d2, d3, d4] }
  | _ => none }
def gateGuardsRow : OpenClaim := { program := "ytkopmhmbldohdaa", sum := "bb558a0b67f4bfc8b0d65cca560e357d028a27ec149c1eb994d9d220fe494d94", func := "bellwether/bellwetherlaw23.GateGuards", spec := "gateGuards", unfollowed := true, recurses := true, apart := false }
def GateGuardsSaid : Prop := gateGuardsRow.holds Try.pinned (OpenSpec.ofChange gateGuardsSpec)

/-- ITS FALSE NEIGHBOUR: 'it returns false'. Refute it at one input. -/
def gateGuardsWrong : ChangeSpec := { name := "gateGuards", fn := fun _ => fun
  | [d1, d2, d3, d4] => { results := [.lit (.bool false)], args := [d1, d2, d3, d4] }
  | _ => none }
def GateGuardsWrongFalsely : Prop := gateGuardsRow.holds Try.pinned (OpenSpec.ofChange gateGuardsWrong)

/-- 'bellwetherlaw24.AcceptChecks': WHATEVER THE INPUT: true; the input reads as it did. -/
def acceptChecksSpec : ChangeSpec := { name := "acceptChecks", fn := fun _ => fun
  | [d1, d2, d3, d4] => { results := [.lit (.bool true)], args := [d1, d2, d3, d4] }
  | _ => none }
def acceptChecksRow : OpenClaim := { program := "ytkopmhmbldohdaa", sum := "bb558a0b67f4bfc8b0d65cca560e357d028a27ec149c1eb994d9d220fe494d94", func := "bellwether/bellwetherlaw24.AcceptChecks", spec := "acceptChecks", unfollowed := true, recurses := true, apart := false }
def AcceptChecksSaid : Prop := acceptChecksRow.holds Try.pinned (OpenSpec.ofChange acceptChecksSpec)

/-- ITS FALSE NEIGHBOUR: 'it returns false'. Refute it at one input. -/
def acceptChecksWrong : ChangeSpec := { name := "acceptChecks", fn := fun _ => fun
  | [d1, d2, d3, d4] => { results := [.lit (.bool false)], args := [d1, d2, d3, d4] }
  | _ => none }
def AcceptChecksWrongFalsely : Prop := acceptChecksRow.holds Try.pinned (OpenSpec.ofChange acceptChecksWrong)

/-- 'bellwetherlaw24.AcceptAll': WHATEVER THE INPUT: true; the input reads as it did. -/
def acceptAllSpec : ChangeSpec := { name := "acceptAll", fn := fun _ => fun
  | [d1, d2, d3] => { results := [.lit (.bool true)], args := [d1, d2, d3] }
  | _ => none }
def acceptAllRow : OpenClaim := { program := "ytkopmhmbldohdaa", sum := "bb558a0b67f4bfc8b0d65cca560e357d028a27ec149c1eb994d9d220fe494d94", func := "bellwether/bellwetherlaw24.AcceptAll", spec := "acceptAll", unfollowed := true, recurses := true, apart := false }
def AcceptAllSaid : Prop := acceptAllRow.holds Try.pinned (OpenSpec.ofChange acceptAllSpec)

/-- ITS FALSE NEIGHBOUR: 'it returns false'. Refute it at one input. -/
def acceptAllWrong : ChangeSpec := { name := "acceptAll", fn := fun _ => fun
  | [d1, d2, d3] => { results := [.lit (.bool false)], args := [d1, d2, d3] }
  | _ => none }
def AcceptAllWrongFalsely : Prop := acceptAllRow.holds Try.pinned (OpenSpec.ofChange acceptAllWrong)

/- THE SECOND FORM. 'bulk': how many values and letters a reading holds, each counted each time it is reached (what is shared counts as often as it is met; a slice's spare places count too). A statement '..UptoSaid' is the law's where the arguments, and the package variables that the reading takes, are together of bulk at most 1048576: NARROWER than '..Said'. Prove '..Said' where nothing that the law and all that it calls make is longer than what came in: it says more and counts as full. Else prove '..UptoSaid'. A law counts once. -/
mutual
def uptoBulk {H : Type} : DataW H → Nat
  | .lit (.string bytes) => bytes.length + 1
  | .lit _ => 1
  | .nil => 1
  | .ptr d => uptoBulk d + 1
  | .slice elems spare => uptoBulkAll elems + uptoBulkAll spare + 1
  | .agg parts => uptoBulkAll parts + 1
  | .iface _ d => uptoBulk d + 1
  | .map entries => uptoBulkEntries entries + 1
  | .held _ => 1
def uptoBulkAll {H : Type} : List (DataW H) → Nat
  | [] => 0
  | d :: r => uptoBulk d + uptoBulkAll r
def uptoBulkEntries {H : Type} : List (Lit × DataW H) → Nat
  | [] => 0
  | x :: r => uptoBulkEntry x + uptoBulkEntries r
def uptoBulkEntry {H : Type} : Lit × DataW H → Nat
  | (.string bytes, d) => bytes.length + uptoBulk d + 1
  | (_, d) => uptoBulk d + 1
 end
def uptoSmall : (H : Type) → List (DataW H) → Bool := fun _ ds => decide (uptoBulkAll ds ≤ 1048576)
def OpenSpec.upto (s : _root_.Go.ChangeSpec) : _root_.Go.OpenSpec := { _root_.Go.OpenSpec.ofChange s with cond := some uptoSmall }

/-- 'bellwetherlaw23.GateOpens', WHERE WHAT IT READS IS OF BULK AT MOST 1048576: true; the input reads as it did. -/
def gateOpensUptoRow : OpenClaim := { program := "ytkopmhmbldohdaa", sum := "bb558a0b67f4bfc8b0d65cca560e357d028a27ec149c1eb994d9d220fe494d94", func := "bellwether/bellwetherlaw23.GateOpens", spec := "gateOpens", unfollowed := true, recurses := true, apart := false, narrowed := true }
def GateOpensUptoSaid : Prop := gateOpensUptoRow.holds Try.pinned (OpenSpec.upto gateOpensSpec)

/-- 'bellwetherlaw23.GateSends', WHERE WHAT IT READS IS OF BULK AT MOST 1048576: true; the input reads as it did. -/
def gateSendsUptoRow : OpenClaim := { program := "ytkopmhmbldohdaa", sum := "bb558a0b67f4bfc8b0d65cca560e357d028a27ec149c1eb994d9d220fe494d94", func := "bellwether/bellwetherlaw23.GateSends", spec := "gateSends", unfollowed := true, recurses := true, apart := false, narrowed := true }
def GateSendsUptoSaid : Prop := gateSendsUptoRow.holds Try.pinned (OpenSpec.upto gateSendsSpec)

/-- 'bellwetherlaw23.GateMute', WHERE WHAT IT READS IS OF BULK AT MOST 1048576: true; the input reads as it did. -/
def gateMuteUptoRow : OpenClaim := { program := "ytkopmhmbldohdaa", sum := "bb558a0b67f4bfc8b0d65cca560e357d028a27ec149c1eb994d9d220fe494d94", func := "bellwether/bellwetherlaw23.GateMute", spec := "gateMute", unfollowed := true, recurses := true, apart := false, narrowed := true }
def GateMuteUptoSaid : Prop := gateMuteUptoRow.holds Try.pinned (OpenSpec.upto gateMuteSpec)

/-- 'bellwetherlaw23.GateGuards', WHERE WHAT IT READS IS OF BULK AT MOST 1048576: true; the input reads as it did. -/
def gateGuardsUptoRow : OpenClaim := { program := "ytkopmhmbldohdaa", sum := "bb558a0b67f4bfc8b0d65cca560e357d028a27ec149c1eb994d9d220fe494d94", func := "bellwether/bellwetherlaw23.GateGuards", spec := "gateGuards", unfollowed := true, recurses := true, apart := false, narrowed := true }
def GateGuardsUptoSaid : Prop := gateGuardsUptoRow.holds Try.pinned (OpenSpec.upto gateGuardsSpec)

/-- 'bellwetherlaw24.AcceptChecks', WHERE WHAT IT READS IS OF BULK AT MOST 1048576: true; the input reads as it did. -/
def acceptChecksUptoRow : OpenClaim := { program := "ytkopmhmbldohdaa", sum := "bb558a0b67f4bfc8b0d65cca560e357d028a27ec149c1eb994d9d220fe494d94", func := "bellwether/bellwetherlaw24.AcceptChecks", spec := "acceptChecks", unfollowed := true, recurses := true, apart := false, narrowed := true }
def AcceptChecksUptoSaid : Prop := acceptChecksUptoRow.holds Try.pinned (OpenSpec.upto acceptChecksSpec)

/-- 'bellwetherlaw24.AcceptAll', WHERE WHAT IT READS IS OF BULK AT MOST 1048576: true; the input reads as it did. -/
def acceptAllUptoRow : OpenClaim := { program := "ytkopmhmbldohdaa", sum := "bb558a0b67f4bfc8b0d65cca560e357d028a27ec149c1eb994d9d220fe494d94", func := "bellwether/bellwetherlaw24.AcceptAll", spec := "acceptAll", unfollowed := true, recurses := true, apart := false, narrowed := true }
def AcceptAllUptoSaid : Prop := acceptAllUptoRow.holds Try.pinned (OpenSpec.upto acceptAllSpec)

end Rows
end Go.Proofs.Ytkopmhmbldohdaa
