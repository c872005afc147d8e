/-
  No cell of these rows narrows 'for every input' (looked for: loops, veiled, ifaces, maps, wideKeys, modest, calm, conditions, laid).
  DERIVED. THE GIVEN ROWS OF THIS SEAT. 6 by the template 'for every input the law returns true; each argument reads behind the call as it read before'; 0 by the template 'total and deterministic' (their statements: YtohgmliafidalaaTotals.lean).
  GIVEN WITH THE SEED: the statements are not yours to turn. If you find one false, say at which input.
  Laid BY PROGRAM, IN A SANDBOX (cutbox-rows.mjs): the forced cells as the released guide's own fill.sh prints them over the translation 2fc6fccbfa0dafe0… (all of the seat's roots in one cut). By AI agents, Wed Nov 11 2026. No macro, syntax, notation, axiom, sorry.
-/
import Derived.Test.YtohgmliafidalaaChecked
import GoSem.Claim
import GoSem.ClaimJoined
import GoSem.ClaimMapViews
import Derived.JoinedTies
import Derived.KernelRfl
namespace Go.Proofs.Ytohgmliafidalaa
/- THE CELL 'sum', in the pinned program and in every row, IS THE sha256 OF THE DUMP (.gsa) THAT YtohgmliafidalaaProg.lean LOADS. Nothing in Lean hashes anything: it is a label: what it is worth is what the hold of that sum in a sandbox is worth. -/
noncomputable def Try.pinned : Pinned := { name := "ytohgmliafidalaa", sum := "2fc6fccbfa0dafe0f0360bfb2f6c7bd97449812e58903318bb859c9cf3a1905f", checked := Try.checked }
namespace Rows
def none {H : Type} : Left H := { results := [], args := [] }

/-- 'bellwetherlaw18.BeatSettles': WHATEVER THE INPUT: true; the input reads as it did. -/
def beatSettlesSpec : ChangeSpec := { name := "beatSettles", fn := fun _ => fun
  | [d1, d2] => { results := [.lit (.bool true)], args := [d1, d2] }
  | _ => none }
def beatSettlesRow : OpenClaim := { program := "ytohgmliafidalaa", sum := "2fc6fccbfa0dafe0f0360bfb2f6c7bd97449812e58903318bb859c9cf3a1905f", func := "bellwether/bellwetherlaw18.BeatSettles", spec := "beatSettles", inPlace := ["internal/abi.NoEscape", "internal/bytealg.MakeNoZero"], unfollowed := true, recurses := true, apart := false }
def BeatSettlesSaid : Prop := beatSettlesRow.holds Try.pinned (OpenSpec.ofChange beatSettlesSpec)

/-- ITS FALSE NEIGHBOUR: 'it returns false'. Refute it at one input. -/
def beatSettlesWrong : ChangeSpec := { name := "beatSettles", fn := fun _ => fun
  | [d1, d2] => { results := [.lit (.bool false)], args := [d1, d2] }
  | _ => none }
def BeatSettlesWrongFalsely : Prop := beatSettlesRow.holds Try.pinned (OpenSpec.ofChange beatSettlesWrong)

/-- 'bellwetherlaw19.AgreeTells': WHATEVER THE INPUT: true; the input reads as it did. -/
def agreeTellsSpec : ChangeSpec := { name := "agreeTells", fn := fun _ => fun
  | [d1, d2, d3, d4] => { results := [.lit (.bool true)], args := [d1, d2, d3, d4] }
  | _ => none }
def agreeTellsRow : OpenClaim := { program := "ytohgmliafidalaa", sum := "2fc6fccbfa0dafe0f0360bfb2f6c7bd97449812e58903318bb859c9cf3a1905f", func := "bellwether/bellwetherlaw19.AgreeTells", spec := "agreeTells", unfollowed := true, recurses := true, apart := false }
def AgreeTellsSaid : Prop := agreeTellsRow.holds Try.pinned (OpenSpec.ofChange agreeTellsSpec)

/-- ITS FALSE NEIGHBOUR: 'it returns false'. Refute it at one input. -/
def agreeTellsWrong : ChangeSpec := { name := "agreeTells", fn := fun _ => fun
  | [d1, d2, d3, d4] => { results := [.lit (.bool false)], args := [d1, d2, d3, d4] }
  | _ => none }
def AgreeTellsWrongFalsely : Prop := agreeTellsRow.holds Try.pinned (OpenSpec.ofChange agreeTellsWrong)

/-- 'bellwetherlaw19.AgreeSteps': WHATEVER THE INPUT: true; the input reads as it did. -/
def agreeStepsSpec : ChangeSpec := { name := "agreeSteps", fn := fun _ => fun
  | [d1, d2, d3] => { results := [.lit (.bool true)], args := [d1, d2, d3] }
  | _ => none }
def agreeStepsRow : OpenClaim := { program := "ytohgmliafidalaa", sum := "2fc6fccbfa0dafe0f0360bfb2f6c7bd97449812e58903318bb859c9cf3a1905f", func := "bellwether/bellwetherlaw19.AgreeSteps", spec := "agreeSteps", unfollowed := true, recurses := true, apart := false }
def AgreeStepsSaid : Prop := agreeStepsRow.holds Try.pinned (OpenSpec.ofChange agreeStepsSpec)

/-- ITS FALSE NEIGHBOUR: 'it returns false'. Refute it at one input. -/
def agreeStepsWrong : ChangeSpec := { name := "agreeSteps", fn := fun _ => fun
  | [d1, d2, d3] => { results := [.lit (.bool false)], args := [d1, d2, d3] }
  | _ => none }
def AgreeStepsWrongFalsely : Prop := agreeStepsRow.holds Try.pinned (OpenSpec.ofChange agreeStepsWrong)

/-- 'bellwetherlaw19.AgreeTogether': WHATEVER THE INPUT: true; the input reads as it did. -/
def agreeTogetherSpec : ChangeSpec := { name := "agreeTogether", fn := fun _ => fun
  | [d] => { results := [.lit (.bool true)], args := [d] }
  | _ => none }
def agreeTogetherRow : OpenClaim := { program := "ytohgmliafidalaa", sum := "2fc6fccbfa0dafe0f0360bfb2f6c7bd97449812e58903318bb859c9cf3a1905f", func := "bellwether/bellwetherlaw19.AgreeTogether", spec := "agreeTogether", unfollowed := true, recurses := true, apart := false }
def AgreeTogetherSaid : Prop := agreeTogetherRow.holds Try.pinned (OpenSpec.ofChange agreeTogetherSpec)

/-- ITS FALSE NEIGHBOUR: 'it returns false'. Refute it at one input. -/
def agreeTogetherWrong : ChangeSpec := { name := "agreeTogether", fn := fun _ => fun
  | [d] => { results := [.lit (.bool false)], args := [d] }
  | _ => none }
def AgreeTogetherWrongFalsely : Prop := agreeTogetherRow.holds Try.pinned (OpenSpec.ofChange agreeTogetherWrong)

/-- 'bellwetherlaw20.NumberNext': WHATEVER THE INPUT: true; the input reads as it did. -/
def numberNextSpec : ChangeSpec := { name := "numberNext", fn := fun _ => fun
  | [d1, d2, d3, d4] => { results := [.lit (.bool true)], args := [d1, d2, d3, d4] }
  | _ => none }
def numberNextRow : OpenClaim := { program := "ytohgmliafidalaa", sum := "2fc6fccbfa0dafe0f0360bfb2f6c7bd97449812e58903318bb859c9cf3a1905f", func := "bellwether/bellwetherlaw20.NumberNext", spec := "numberNext", unfollowed := true, recurses := true, apart := false }
def NumberNextSaid : Prop := numberNextRow.holds Try.pinned (OpenSpec.ofChange numberNextSpec)

/-- ITS FALSE NEIGHBOUR: 'it returns false'. Refute it at one input. -/
def numberNextWrong : ChangeSpec := { name := "numberNext", fn := fun _ => fun
  | [d1, d2, d3, d4] => { results := [.lit (.bool false)], args := [d1, d2, d3, d4] }
  | _ => none }
def NumberNextWrongFalsely : Prop := numberNextRow.holds Try.pinned (OpenSpec.ofChange numberNextWrong)

/-- 'bellwetherlaw20.NumberRows': WHATEVER THE INPUT: true; the input reads as it did. -/
def numberRowsSpec : ChangeSpec := { name := "numberRows", fn := fun _ => fun
  | [d1, d2, d3, d4] => { results := [.lit (.bool true)], args := [d1, d2, d3, d4] }
  | _ => none }
def numberRowsRow : OpenClaim := { program := "ytohgmliafidalaa", sum := "2fc6fccbfa0dafe0f0360bfb2f6c7bd97449812e58903318bb859c9cf3a1905f", func := "bellwether/bellwetherlaw20.NumberRows", spec := "numberRows", unfollowed := true, recurses := true, apart := false }
def NumberRowsSaid : Prop := numberRowsRow.holds Try.pinned (OpenSpec.ofChange numberRowsSpec)

/-- ITS FALSE NEIGHBOUR: 'it returns false'. Refute it at one input. -/
def numberRowsWrong : ChangeSpec := { name := "numberRows", fn := fun _ => fun
  | [d1, d2, d3, d4] => { results := [.lit (.bool false)], args := [d1, d2, d3, d4] }
  | _ => none }
def NumberRowsWrongFalsely : Prop := numberRowsRow.holds Try.pinned (OpenSpec.ofChange numberRowsWrong)

/- THE SECOND FORM. 'bulk': how many values and letters a reading holds, each counted each time it is reached (what is shared counts as often as it is met; a slice's spare places count too). A statement '..UptoSaid' is the law's where the arguments, and the package variables that the reading takes, are together of bulk at most 1048576: NARROWER than '..Said'. Prove '..Said' where nothing that the law and all that it calls make is longer than what came in: it says more and counts as full. Else prove '..UptoSaid'. A law counts once. -/
mutual
def uptoBulk {H : Type} : DataW H → Nat
  | .lit (.string bytes) => bytes.length + 1
  | .lit _ => 1
  | .nil => 1
  | .ptr d => uptoBulk d + 1
  | .slice elems spare => uptoBulkAll elems + uptoBulkAll spare + 1
  | .agg parts => uptoBulkAll parts + 1
  | .iface _ d => uptoBulk d + 1
  | .map entries => uptoBulkEntries entries + 1
  | .held _ => 1
def uptoBulkAll {H : Type} : List (DataW H) → Nat
  | [] => 0
  | d :: r => uptoBulk d + uptoBulkAll r
def uptoBulkEntries {H : Type} : List (Lit × DataW H) → Nat
  | [] => 0
  | x :: r => uptoBulkEntry x + uptoBulkEntries r
def uptoBulkEntry {H : Type} : Lit × DataW H → Nat
  | (.string bytes, d) => bytes.length + uptoBulk d + 1
  | (_, d) => uptoBulk d + 1
 end
def uptoSmall : (H : Type) → List (DataW H) → Bool := fun _ ds => decide (uptoBulkAll ds ≤ 1048576)
def OpenSpec.upto (s : _root_.Go.ChangeSpec) : _root_.Go.OpenSpec := { _root_.Go.OpenSpec.ofChange s with cond := some uptoSmall }

/-- 'bellwetherlaw18.BeatSettles', WHERE WHAT IT READS IS OF BULK AT MOST 1048576: true; the input reads as it did. -/
def beatSettlesUptoRow : OpenClaim := { program := "ytohgmliafidalaa", sum := "2fc6fccbfa0dafe0f0360bfb2f6c7bd97449812e58903318bb859c9cf3a1905f", func := "bellwether/bellwetherlaw18.BeatSettles", spec := "beatSettles", inPlace := ["internal/abi.NoEscape", "internal/bytealg.MakeNoZero"], unfollowed := true, recurses := true, apart := false, narrowed := true }
def BeatSettlesUptoSaid : Prop := beatSettlesUptoRow.holds Try.pinned (OpenSpec.upto beatSettlesSpec)

/-- 'bellwetherlaw19.AgreeTells', WHERE WHAT IT READS IS OF BULK AT MOST 1048576: true; the input reads as it did. -/
def agreeTellsUptoRow : OpenClaim := { program := "ytohgmliafidalaa", sum := "2fc6fccbfa0dafe0f0360bfb2f6c7bd97449812e58903318bb859c9cf3a1905f", func := "bellwether/bellwetherlaw19.AgreeTells", spec := "agreeTells", unfollowed := true, recurses := true, apart := false, narrowed := true }
def AgreeTellsUptoSaid : Prop := agreeTellsUptoRow.holds Try.pinned (OpenSpec.upto agreeTellsSpec)

/-- 'bellwetherlaw19.AgreeSteps', WHERE WHAT IT READS IS OF BULK AT MOST 1048576: true; the input reads as it did. -/
def agreeStepsUptoRow : OpenClaim := { program := "ytohgmliafidalaa", sum := "2fc6fccbfa0dafe0f0360bfb2f6c7bd97449812e58903318bb859c9cf3a1905f", func := "bellwether/bellwetherlaw19.AgreeSteps", spec := "agreeSteps", unfollowed := true, recurses := true, apart := false, narrowed := true }
def AgreeStepsUptoSaid : Prop := agreeStepsUptoRow.holds Try.pinned (OpenSpec.upto agreeStepsSpec)

/-- 'bellwetherlaw19.AgreeTogether', WHERE WHAT IT READS IS OF BULK AT MOST 1048576: true; the input reads as it did. -/
def agreeTogetherUptoRow : OpenClaim := { program := "ytohgmliafidalaa", sum := "2fc6fccbfa0dafe0f0360bfb2f6c7bd97449812e58903318bb859c9cf3a1905f", func := "bellwether/bellwetherlaw19.AgreeTogether", spec := "agreeTogether", unfollowed := true, recurses := true, apart := false, narrowed := true }
def AgreeTogetherUptoSaid : Prop := agreeTogetherUptoRow.holds Try.pinned (OpenSpec.upto agreeTogetherSpec)

/-- 'bellwetherlaw20.NumberNext', WHERE WHAT IT READS IS OF BULK AT MOST 1048576: true; the input reads as it did. -/
def numberNextUptoRow : OpenClaim := { program := "ytohgmliafidalaa", sum := "2fc6fccbfa0dafe0f0360bfb2f6c7bd97449812e58903318bb859c9cf3a1905f", func := "bellwether/bellwetherlaw20.NumberNext", spec := "numberNext", unfollowed := true, recurses := true, apart := false, narrowed := true }
def NumberNextUptoSaid : Prop := numberNextUptoRow.holds Try.pinned (OpenSpec.upto numberNextSpec)

/-- 'bellwetherlaw20.NumberRows', WHERE WHAT IT READS IS OF BULK AT MOST 1048576: true; the input reads as it did. -/
def numberRowsUptoRow : OpenClaim := { program := "ytohgmliafidalaa", sum := "2fc6fccbfa0dafe0f0360bfb2f6c7bd97449812e58903318bb859c9cf3a1905f", func := "bellwether/bellwetherlaw20.NumberRows", spec := "numberRows", unfollowed := true, recurses := true, apart := false, narrowed := true }
def NumberRowsUptoSaid : Prop := numberRowsUptoRow.holds Try.pinned (OpenSpec.upto numberRowsSpec)

end Rows
end Go.Proofs.Ytohgmliafidalaa
