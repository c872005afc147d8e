/-
  No cell of these rows narrows 'for every input' (looked for: loops, veiled, ifaces, maps, wideKeys, modest, calm, conditions, laid).
  DERIVED. THE GIVEN ROWS OF THIS SEAT. 6 by the template 'for every input the law returns true; each argument reads behind the call as it read before'; 0 by the template 'total and deterministic' (their statements: YtgfdfakffkhekaaTotals.lean).
  GIVEN WITH THE SEED: the statements are not yours to turn. If you find one false, say at which input.
  Laid BY PROGRAM, IN A SANDBOX (cutbox-rows.mjs): the forced cells as the released guide's own fill.sh prints them over the translation eadcafd20703bb87… (all of the seat's roots in one cut). By AI agents, Wed Nov 11 2026. No macro, syntax, notation, axiom, sorry.
-/
import Derived.Test.YtgfdfakffkhekaaChecked
import GoSem.Claim
import GoSem.ClaimJoined
import GoSem.ClaimMapViews
import Derived.JoinedTies
import Derived.KernelRfl
namespace Go.Proofs.Ytgfdfakffkhekaa
/- THE CELL 'sum', in the pinned program and in every row, IS THE sha256 OF THE DUMP (.gsa) THAT YtgfdfakffkhekaaProg.lean LOADS. Nothing in Lean hashes anything: it is a label: what it is worth is what the hold of that sum in a sandbox is worth. -/
noncomputable def Try.pinned : Pinned := { name := "ytgfdfakffkhekaa", sum := "eadcafd20703bb870c7db53a250ba0d7c1e89d3bfedf07b109a258d15585907d", checked := Try.checked }
namespace Rows
def none {H : Type} : Left H := { results := [], args := [] }

/-- 'bellwetherlaw15.PlanTells': WHATEVER THE INPUT: true; the input reads as it did. -/
def planTellsSpec : ChangeSpec := { name := "planTells", fn := fun _ => fun
  | [d1, d2, d3] => { results := [.lit (.bool true)], args := [d1, d2, d3] }
  | _ => none }
def planTellsRow : OpenClaim := { program := "ytgfdfakffkhekaa", sum := "eadcafd20703bb870c7db53a250ba0d7c1e89d3bfedf07b109a258d15585907d", func := "bellwether/bellwetherlaw15.PlanTells", spec := "planTells", unfollowed := true, recurses := true, apart := false }
def PlanTellsSaid : Prop := planTellsRow.holds Try.pinned (OpenSpec.ofChange planTellsSpec)

/-- ITS FALSE NEIGHBOUR: 'it returns false'. Refute it at one input. -/
def planTellsWrong : ChangeSpec := { name := "planTells", fn := fun _ => fun
  | [d1, d2, d3] => { results := [.lit (.bool false)], args := [d1, d2, d3] }
  | _ => none }
def PlanTellsWrongFalsely : Prop := planTellsRow.holds Try.pinned (OpenSpec.ofChange planTellsWrong)

/-- 'bellwetherlaw15.PlanAges': WHATEVER THE INPUT: true; the input reads as it did. -/
def planAgesSpec : ChangeSpec := { name := "planAges", fn := fun _ => fun
  | [d1, d2] => { results := [.lit (.bool true)], args := [d1, d2] }
  | _ => none }
def planAgesRow : OpenClaim := { program := "ytgfdfakffkhekaa", sum := "eadcafd20703bb870c7db53a250ba0d7c1e89d3bfedf07b109a258d15585907d", func := "bellwether/bellwetherlaw15.PlanAges", spec := "planAges", unfollowed := true, recurses := true, apart := false }
def PlanAgesSaid : Prop := planAgesRow.holds Try.pinned (OpenSpec.ofChange planAgesSpec)

/-- ITS FALSE NEIGHBOUR: 'it returns false'. Refute it at one input. -/
def planAgesWrong : ChangeSpec := { name := "planAges", fn := fun _ => fun
  | [d1, d2] => { results := [.lit (.bool false)], args := [d1, d2] }
  | _ => none }
def PlanAgesWrongFalsely : Prop := planAgesRow.holds Try.pinned (OpenSpec.ofChange planAgesWrong)

/-- 'bellwetherlaw15.PlanLater': WHATEVER THE INPUT: true; the input reads as it did. -/
def planLaterSpec : ChangeSpec := { name := "planLater", fn := fun _ => fun
  | [d1, d2] => { results := [.lit (.bool true)], args := [d1, d2] }
  | _ => none }
def planLaterRow : OpenClaim := { program := "ytgfdfakffkhekaa", sum := "eadcafd20703bb870c7db53a250ba0d7c1e89d3bfedf07b109a258d15585907d", func := "bellwether/bellwetherlaw15.PlanLater", spec := "planLater", unfollowed := true, recurses := true, apart := false }
def PlanLaterSaid : Prop := planLaterRow.holds Try.pinned (OpenSpec.ofChange planLaterSpec)

/-- ITS FALSE NEIGHBOUR: 'it returns false'. Refute it at one input. -/
def planLaterWrong : ChangeSpec := { name := "planLater", fn := fun _ => fun
  | [d1, d2] => { results := [.lit (.bool false)], args := [d1, d2] }
  | _ => none }
def PlanLaterWrongFalsely : Prop := planLaterRow.holds Try.pinned (OpenSpec.ofChange planLaterWrong)

/-- 'bellwetherlaw15.PlanKings': WHATEVER THE INPUT: true; the input reads as it did. -/
def planKingsSpec : ChangeSpec := { name := "planKings", fn := fun _ => fun
  | [d] => { results := [.lit (.bool true)], args := [d] }
  | _ => none }
def planKingsRow : OpenClaim := { program := "ytgfdfakffkhekaa", sum := "eadcafd20703bb870c7db53a250ba0d7c1e89d3bfedf07b109a258d15585907d", func := "bellwether/bellwetherlaw15.PlanKings", spec := "planKings", unfollowed := true, recurses := true, apart := false }
def PlanKingsSaid : Prop := planKingsRow.holds Try.pinned (OpenSpec.ofChange planKingsSpec)

/-- ITS FALSE NEIGHBOUR: 'it returns false'. Refute it at one input. -/
def planKingsWrong : ChangeSpec := { name := "planKings", fn := fun _ => fun
  | [d] => { results := [.lit (.bool false)], args := [d] }
  | _ => none }
def PlanKingsWrongFalsely : Prop := planKingsRow.holds Try.pinned (OpenSpec.ofChange planKingsWrong)

/-- 'bellwetherlaw16.VecSteps': WHATEVER THE INPUT: true; the input reads as it did. -/
def vecStepsSpec : ChangeSpec := { name := "vecSteps", fn := fun _ => fun
  | [d1, d2, d3, d4] => { results := [.lit (.bool true)], args := [d1, d2, d3, d4] }
  | _ => none }
def vecStepsRow : OpenClaim := { program := "ytgfdfakffkhekaa", sum := "eadcafd20703bb870c7db53a250ba0d7c1e89d3bfedf07b109a258d15585907d", func := "bellwether/bellwetherlaw16.VecSteps", spec := "vecSteps", unfollowed := true, recurses := true, apart := false }
def VecStepsSaid : Prop := vecStepsRow.holds Try.pinned (OpenSpec.ofChange vecStepsSpec)

/-- ITS FALSE NEIGHBOUR: 'it returns false'. Refute it at one input. -/
def vecStepsWrong : ChangeSpec := { name := "vecSteps", fn := fun _ => fun
  | [d1, d2, d3, d4] => { results := [.lit (.bool false)], args := [d1, d2, d3, d4] }
  | _ => none }
def VecStepsWrongFalsely : Prop := vecStepsRow.holds Try.pinned (OpenSpec.ofChange vecStepsWrong)

/-- 'bellwetherlaw16.VecNumbers': WHATEVER THE INPUT: true; the input reads as it did. -/
def vecNumbersSpec : ChangeSpec := { name := "vecNumbers", fn := fun _ => fun
  | [d1, d2, d3] => { results := [.lit (.bool true)], args := [d1, d2, d3] }
  | _ => none }
def vecNumbersRow : OpenClaim := { program := "ytgfdfakffkhekaa", sum := "eadcafd20703bb870c7db53a250ba0d7c1e89d3bfedf07b109a258d15585907d", func := "bellwether/bellwetherlaw16.VecNumbers", spec := "vecNumbers", unfollowed := true, recurses := true, apart := false }
def VecNumbersSaid : Prop := vecNumbersRow.holds Try.pinned (OpenSpec.ofChange vecNumbersSpec)

/-- ITS FALSE NEIGHBOUR: 'it returns false'. Refute it at one input. -/
def vecNumbersWrong : ChangeSpec := { name := "vecNumbers", fn := fun _ => fun
  | [d1, d2, d3] => { results := [.lit (.bool false)], args := [d1, d2, d3] }
  | _ => none }
def VecNumbersWrongFalsely : Prop := vecNumbersRow.holds Try.pinned (OpenSpec.ofChange vecNumbersWrong)

/- THE SECOND FORM. 'bulk': how many values and letters a reading holds, each counted each time it is reached (what is shared counts as often as it is met; a slice's spare places count too). A statement '..UptoSaid' is the law's where the arguments, and the package variables that the reading takes, are together of bulk at most 1048576: NARROWER than '..Said'. Prove '..Said' where nothing that the law and all that it calls make is longer than what came in: it says more and counts as full. Else prove '..UptoSaid'. A law counts once. -/
mutual
def uptoBulk {H : Type} : DataW H → Nat
  | .lit (.string bytes) => bytes.length + 1
  | .lit _ => 1
  | .nil => 1
  | .ptr d => uptoBulk d + 1
  | .slice elems spare => uptoBulkAll elems + uptoBulkAll spare + 1
  | .agg parts => uptoBulkAll parts + 1
  | .iface _ d => uptoBulk d + 1
  | .map entries => uptoBulkEntries entries + 1
  | .held _ => 1
def uptoBulkAll {H : Type} : List (DataW H) → Nat
  | [] => 0
  | d :: r => uptoBulk d + uptoBulkAll r
def uptoBulkEntries {H : Type} : List (Lit × DataW H) → Nat
  | [] => 0
  | x :: r => uptoBulkEntry x + uptoBulkEntries r
def uptoBulkEntry {H : Type} : Lit × DataW H → Nat
  | (.string bytes, d) => bytes.length + uptoBulk d + 1
  | (_, d) => uptoBulk d + 1
 end
def uptoSmall : (H : Type) → List (DataW H) → Bool := fun _ ds => decide (uptoBulkAll ds ≤ 1048576)
def OpenSpec.upto (s : _root_.Go.ChangeSpec) : _root_.Go.OpenSpec := { _root_.Go.OpenSpec.ofChange s with cond := some uptoSmall }

/-- 'bellwetherlaw15.PlanTells', WHERE WHAT IT READS IS OF BULK AT MOST 1048576: true; the input reads as it did. -/
def planTellsUptoRow : OpenClaim := { program := "ytgfdfakffkhekaa", sum := "eadcafd20703bb870c7db53a250ba0d7c1e89d3bfedf07b109a258d15585907d", func := "bellwether/bellwetherlaw15.PlanTells", spec := "planTells", unfollowed := true, recurses := true, apart := false, narrowed := true }
def PlanTellsUptoSaid : Prop := planTellsUptoRow.holds Try.pinned (OpenSpec.upto planTellsSpec)

/-- 'bellwetherlaw15.PlanAges', WHERE WHAT IT READS IS OF BULK AT MOST 1048576: true; the input reads as it did. -/
def planAgesUptoRow : OpenClaim := { program := "ytgfdfakffkhekaa", sum := "eadcafd20703bb870c7db53a250ba0d7c1e89d3bfedf07b109a258d15585907d", func := "bellwether/bellwetherlaw15.PlanAges", spec := "planAges", unfollowed := true, recurses := true, apart := false, narrowed := true }
def PlanAgesUptoSaid : Prop := planAgesUptoRow.holds Try.pinned (OpenSpec.upto planAgesSpec)

/-- 'bellwetherlaw15.PlanLater', WHERE WHAT IT READS IS OF BULK AT MOST 1048576: true; the input reads as it did. -/
def planLaterUptoRow : OpenClaim := { program := "ytgfdfakffkhekaa", sum := "eadcafd20703bb870c7db53a250ba0d7c1e89d3bfedf07b109a258d15585907d", func := "bellwether/bellwetherlaw15.PlanLater", spec := "planLater", unfollowed := true, recurses := true, apart := false, narrowed := true }
def PlanLaterUptoSaid : Prop := planLaterUptoRow.holds Try.pinned (OpenSpec.upto planLaterSpec)

/-- 'bellwetherlaw15.PlanKings', WHERE WHAT IT READS IS OF BULK AT MOST 1048576: true; the input reads as it did. -/
def planKingsUptoRow : OpenClaim := { program := "ytgfdfakffkhekaa", sum := "eadcafd20703bb870c7db53a250ba0d7c1e89d3bfedf07b109a258d15585907d", func := "bellwether/bellwetherlaw15.PlanKings", spec := "planKings", unfollowed := true, recurses := true, apart := false, narrowed := true }
def PlanKingsUptoSaid : Prop := planKingsUptoRow.holds Try.pinned (OpenSpec.upto planKingsSpec)

/-- 'bellwetherlaw16.VecSteps', WHERE WHAT IT READS IS OF BULK AT MOST 1048576: true; the input reads as it did. -/
def vecStepsUptoRow : OpenClaim := { program := "ytgfdfakffkhekaa", sum := "eadcafd20703bb870c7db53a250ba0d7c1e89d3bfedf07b109a258d15585907d", func := "bellwether/bellwetherlaw16.VecSteps", spec := "vecSteps", unfollowed := true, recurses := true, apart := false, narrowed := true }
def VecStepsUptoSaid : Prop := vecStepsUptoRow.holds Try.pinned (OpenSpec.upto vecStepsSpec)

/-- 'bellwetherlaw16.VecNumbers', WHERE WHAT IT READS IS OF BULK AT MOST 1048576: true; the input reads as it did. -/
def vecNumbersUptoRow : OpenClaim := { program := "ytgfdfakffkhekaa", sum := "eadcafd20703bb870c7db53a250ba0d7c1e89d3bfedf07b109a258d15585907d", func := "bellwether/bellwetherlaw16.VecNumbers", spec := "vecNumbers", unfollowed := true, recurses := true, apart := false, narrowed := true }
def VecNumbersUptoSaid : Prop := vecNumbersUptoRow.holds Try.pinned (OpenSpec.upto vecNumbersSpec)

end Rows
end Go.Proofs.Ytgfdfakffkhekaa
