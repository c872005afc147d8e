/-
  No cell of these rows narrows 'for every input' (looked for: loops, veiled, ifaces, maps, wideKeys, modest, calm, conditions, laid).
  DERIVED. THE GIVEN ROWS OF THIS SEAT. 3 by the template 'for every input the law returns true; each argument reads behind the call as it read before'; 0 by the template 'total and deterministic' (their statements: YtkolhbacgoafcabTotals.lean).
  GIVEN WITH THE SEED: the statements are not yours to turn. If you find one false, say at which input.
  Laid BY PROGRAM, IN A SANDBOX (cutbox-rows.mjs): the forced cells as the released guide's own fill.sh prints them over the translation 3b0071a8fc686269… (all of the seat's roots in one cut). By AI agents, Wed Nov 11 2026. No macro, syntax, notation, axiom, sorry.
-/
import Derived.Test.YtkolhbacgoafcabChecked
import GoSem.Claim
import GoSem.ClaimJoined
import GoSem.ClaimMapViews
import Derived.JoinedTies
import Derived.KernelRfl
namespace Go.Proofs.Ytkolhbacgoafcab
/- THE CELL 'sum', in the pinned program and in every row, IS THE sha256 OF THE DUMP (.gsa) THAT YtkolhbacgoafcabProg.lean LOADS. Nothing in Lean hashes anything: it is a label: what it is worth is what the hold of that sum in a sandbox is worth. -/
noncomputable def Try.pinned : Pinned := { name := "ytkolhbacgoafcab", sum := "3b0071a8fc686269609ea69a94114279ee26801c89cd5ead92efa10018cf763e", checked := Try.checked }
namespace Rows
def none {H : Type} : Left H := { results := [], args := [] }

/-- 'bellwetherlaw18.BeatAlone': WHATEVER THE INPUT: true; the input reads as it did. -/
def beatAloneSpec : ChangeSpec := { name := "beatAlone", fn := fun _ => fun
  | [d1, d2, d3, d4] => { results := [.lit (.bool true)], args := [d1, d2, d3, d4] }
  | _ => none }
def beatAloneRow : OpenClaim := { program := "ytkolhbacgoafcab", sum := "3b0071a8fc686269609ea69a94114279ee26801c89cd5ead92efa10018cf763e", func := "bellwether/bellwetherlaw18.BeatAlone", spec := "beatAlone", inPlace := ["internal/abi.NoEscape", "internal/bytealg.MakeNoZero"], unfollowed := true, recurses := true, apart := false }
def BeatAloneSaid : Prop := beatAloneRow.holds Try.pinned (OpenSpec.ofChange beatAloneSpec)

/-- ITS FALSE NEIGHBOUR: 'it returns false'. Refute it at one input. -/
def beatAloneWrong : ChangeSpec := { name := "beatAlone", fn := fun _ => fun
  | [d1, d2, d3, d4] => { results := [.lit (.bool false)], args := [d1, d2, d3, d4] }
  | _ => none }
def BeatAloneWrongFalsely : Prop := beatAloneRow.holds Try.pinned (OpenSpec.ofChange beatAloneWrong)

/-- 'bellwetherlaw18.BeatRegular': WHATEVER THE INPUT: true; the input reads as it did. -/
def beatRegularSpec : ChangeSpec := { name := "beatRegular", fn := fun _ => fun
  | [d1, d2, d3, d4] => { results := [.lit (.bool true)], args := [d1, d2, d3, d4] }
  | _ => none }
def beatRegularRow : OpenClaim := { program := "ytkolhbacgoafcab", sum := "3b0071a8fc686269609ea69a94114279ee26801c89cd5ead92efa10018cf763e", func := "bellwether/bellwetherlaw18.BeatRegular", spec := "beatRegular", inPlace := ["internal/abi.NoEscape", "internal/bytealg.MakeNoZero"], unfollowed := true, recurses := true, apart := false }
def BeatRegularSaid : Prop := beatRegularRow.holds Try.pinned (OpenSpec.ofChange beatRegularSpec)

/-- ITS FALSE NEIGHBOUR: 'it returns false'. Refute it at one input. -/
def beatRegularWrong : ChangeSpec := { name := "beatRegular", fn := fun _ => fun
  | [d1, d2, d3, d4] => { results := [.lit (.bool false)], args := [d1, d2, d3, d4] }
  | _ => none }
def BeatRegularWrongFalsely : Prop := beatRegularRow.holds Try.pinned (OpenSpec.ofChange beatRegularWrong)

/-- 'bellwetherlaw18.BeatSettles': WHATEVER THE INPUT: true; the input reads as it did. -/
def beatSettlesSpec : ChangeSpec := { name := "beatSettles", fn := fun _ => fun
  | [d1, d2] => { results := [.lit (.bool true)], args := [d1, d2] }
  | _ => none }
def beatSettlesRow : OpenClaim := { program := "ytkolhbacgoafcab", sum := "3b0071a8fc686269609ea69a94114279ee26801c89cd5ead92efa10018cf763e", func := "bellwether/bellwetherlaw18.BeatSettles", spec := "beatSettles", inPlace := ["internal/abi.NoEscape", "internal/bytealg.MakeNoZero"], unfollowed := true, recurses := true, apart := false }
def BeatSettlesSaid : Prop := beatSettlesRow.holds Try.pinned (OpenSpec.ofChange beatSettlesSpec)

/-- ITS FALSE NEIGHBOUR: 'it returns false'. Refute it at one input. -/
def beatSettlesWrong : ChangeSpec := { name := "beatSettles", fn := fun _ => fun
  | [d1, d2] => { results := [.lit (.bool false)], args := [d1, d2] }
  | _ => none }
def BeatSettlesWrongFalsely : Prop := beatSettlesRow.holds Try.pinned (OpenSpec.ofChange beatSettlesWrong)

/- THE SECOND FORM. 'bulk': how many values and letters a reading holds, each counted each time it is reached (what is shared counts as often as it is met; a slice's spare places count too). A statement '..UptoSaid' is the law's where the arguments, and the package variables that the reading takes, are together of bulk at most 1048576: NARROWER than '..Said'. Prove '..Said' where nothing that the law and all that it calls make is longer than what came in: it says more and counts as full. Else prove '..UptoSaid'. A law counts once. -/
mutual
def uptoBulk {H : Type} : DataW H → Nat
  | .lit (.string bytes) => bytes.length + 1
  | .lit _ => 1
  | .nil => 1
  | .ptr d => uptoBulk d + 1
  | .slice elems spare => uptoBulkAll elems + uptoBulkAll spare + 1
  | .agg parts => uptoBulkAll parts + 1
  | .iface _ d => uptoBulk d + 1
  | .map entries => uptoBulkEntries entries + 1
  | .held _ => 1
def uptoBulkAll {H : Type} : List (DataW H) → Nat
  | [] => 0
  | d :: r => uptoBulk d + uptoBulkAll r
def uptoBulkEntries {H : Type} : List (Lit × DataW H) → Nat
  | [] => 0
  | x :: r => uptoBulkEntry x + uptoBulkEntries r
def uptoBulkEntry {H : Type} : Lit × DataW H → Nat
  | (.string bytes, d) => bytes.length + uptoBulk d + 1
  | (_, d) => uptoBulk d + 1
 end
def uptoSmall : (H : Type) → List (DataW H) → Bool := fun _ ds => decide (uptoBulkAll ds ≤ 1048576)
def OpenSpec.upto (s : _root_.Go.ChangeSpec) : _root_.Go.OpenSpec := { _root_.Go.OpenSpec.ofChange s with cond := some uptoSmall }

/-- 'bellwetherlaw18.BeatAlone', WHERE WHAT IT READS IS OF BULK AT MOST 1048576: true; the input reads as it did. -/
def beatAloneUptoRow : OpenClaim := { program := "ytkolhbacgoafcab", sum := "3b0071a8fc686269609ea69a94114279ee26801c89cd5ead92efa10018cf763e", func := "bellwether/bellwetherlaw18.BeatAlone", spec := "beatAlone", inPlace := ["internal/abi.NoEscape", "internal/bytealg.MakeNoZero"], unfollowed := true, recurses := true, apart := false, narrowed := true }
def BeatAloneUptoSaid : Prop := beatAloneUptoRow.holds Try.pinned (OpenSpec.upto beatAloneSpec)

/-- 'bellwetherlaw18.BeatRegular', WHERE WHAT IT READS IS OF BULK AT MOST 1048576: true; the input reads as it did. -/
def beatRegularUptoRow : OpenClaim := { program := "ytkolhbacgoafcab", sum := "3b0071a8fc686269609ea69a94114279ee26801c89cd5ead92efa10018cf763e", func := "bellwether/bellwetherlaw18.BeatRegular", spec := "beatRegular", inPlace := ["internal/abi.NoEscape", "internal/bytealg.MakeNoZero"], unfollowed := true, recurses := true, apart := false, narrowed := true }
def BeatRegularUptoSaid : Prop := beatRegularUptoRow.holds Try.pinned (OpenSpec.upto beatRegularSpec)

/-- 'bellwetherlaw18.BeatSettles', WHERE WHAT IT READS IS OF BULK AT MOST 1048576: true; the input reads as it did. -/
def beatSettlesUptoRow : OpenClaim := { program := "ytkolhbacgoafcab", sum := "3b0071a8fc686269609ea69a94114279ee26801c89cd5ead92efa10018cf763e", func := "bellwether/bellwetherlaw18.BeatSettles", spec := "beatSettles", inPlace := ["internal/abi.NoEscape", "internal/bytealg.MakeNoZero"], unfollowed := true, recurses := true, apart := false, narrowed := true }
def BeatSettlesUptoSaid : Prop := beatSettlesUptoRow.holds Try.pinned (OpenSpec.upto beatSettlesSpec)

end Rows
end Go.Proofs.Ytkolhbacgoafcab
