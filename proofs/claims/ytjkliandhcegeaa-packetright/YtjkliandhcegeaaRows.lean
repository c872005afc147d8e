/-
  No cell of these rows narrows 'for every input' (looked for: loops, veiled, ifaces, maps, wideKeys, modest, calm, conditions, laid).
  DERIVED. THE GIVEN ROWS OF THIS SEAT. 6 by the template 'for every input the law returns true; each argument reads behind the call as it read before'; 0 by the template 'total and deterministic' (their statements: YtjkliandhcegeaaTotals.lean).
  GIVEN WITH THE SEED: the statements are not yours to turn. If you find one false, say at which input.
  Laid BY PROGRAM, IN A SANDBOX (cutbox-rows.mjs): the forced cells as the released guide's own fill.sh prints them over the translation e2fe736f42bc835e… (all of the seat's roots in one cut). By AI agents, Wed Nov 11 2026. No macro, syntax, notation, axiom, sorry.
-/
import Derived.Test.YtjkliandhcegeaaChecked
import GoSem.Claim
import GoSem.ClaimJoined
import GoSem.ClaimMapViews
import Derived.JoinedTies
import Derived.KernelRfl
namespace Go.Proofs.Ytjkliandhcegeaa
/- THE CELL 'sum', in the pinned program and in every row, IS THE sha256 OF THE DUMP (.gsa) THAT YtjkliandhcegeaaProg.lean LOADS. Nothing in Lean hashes anything: it is a label: what it is worth is what the hold of that sum in a sandbox is worth. -/
noncomputable def Try.pinned : Pinned := { name := "ytjkliandhcegeaa", sum := "e2fe736f42bc835e1fc374f7522a6efb641003e8f9e57c16f7dcec9babd78a63", checked := Try.checked }
namespace Rows
def none {H : Type} : Left H := { results := [], args := [] }

/-- 'bellwetherlaw09.DiagCounts': WHATEVER THE INPUT: true; the input reads as it did. -/
def diagCountsSpec : ChangeSpec := { name := "diagCounts", fn := fun _ => fun
  | [d1, d2, d3, d4] => { results := [.lit (.bool true)], args := [d1, d2, d3, d4] }
  | _ => none }
def diagCountsRow : OpenClaim := { program := "ytjkliandhcegeaa", sum := "e2fe736f42bc835e1fc374f7522a6efb641003e8f9e57c16f7dcec9babd78a63", func := "bellwether/bellwetherlaw09.DiagCounts", spec := "diagCounts", apart := false }
def DiagCountsSaid : Prop := diagCountsRow.holds Try.pinned (OpenSpec.ofChange diagCountsSpec)

/-- ITS FALSE NEIGHBOUR: 'it returns false'. Refute it at one input. -/
def diagCountsWrong : ChangeSpec := { name := "diagCounts", fn := fun _ => fun
  | [d1, d2, d3, d4] => { results := [.lit (.bool false)], args := [d1, d2, d3, d4] }
  | _ => none }
def DiagCountsWrongFalsely : Prop := diagCountsRow.holds Try.pinned (OpenSpec.ofChange diagCountsWrong)

/-- 'bellwetherlaw09.DiagUp': WHATEVER THE INPUT: true; the input reads as it did. -/
def diagUpSpec : ChangeSpec := { name := "diagUp", fn := fun _ => fun
  | [d1, d2] => { results := [.lit (.bool true)], args := [d1, d2] }
  | _ => none }
def diagUpRow : OpenClaim := { program := "ytjkliandhcegeaa", sum := "e2fe736f42bc835e1fc374f7522a6efb641003e8f9e57c16f7dcec9babd78a63", func := "bellwether/bellwetherlaw09.DiagUp", spec := "diagUp", apart := false }
def DiagUpSaid : Prop := diagUpRow.holds Try.pinned (OpenSpec.ofChange diagUpSpec)

/-- ITS FALSE NEIGHBOUR: 'it returns false'. Refute it at one input. -/
def diagUpWrong : ChangeSpec := { name := "diagUp", fn := fun _ => fun
  | [d1, d2] => { results := [.lit (.bool false)], args := [d1, d2] }
  | _ => none }
def DiagUpWrongFalsely : Prop := diagUpRow.holds Try.pinned (OpenSpec.ofChange diagUpWrong)

/-- 'bellwetherlaw09.DiagOrder': WHATEVER THE INPUT: true; the input reads as it did. -/
def diagOrderSpec : ChangeSpec := { name := "diagOrder", fn := fun _ => fun
  | [d1, d2, d3, d4] => { results := [.lit (.bool true)], args := [d1, d2, d3, d4] }
  | _ => none }
def diagOrderRow : OpenClaim := { program := "ytjkliandhcegeaa", sum := "e2fe736f42bc835e1fc374f7522a6efb641003e8f9e57c16f7dcec9babd78a63", func := "bellwether/bellwetherlaw09.DiagOrder", spec := "diagOrder", apart := false }
def DiagOrderSaid : Prop := diagOrderRow.holds Try.pinned (OpenSpec.ofChange diagOrderSpec)

/-- ITS FALSE NEIGHBOUR: 'it returns false'. Refute it at one input. -/
def diagOrderWrong : ChangeSpec := { name := "diagOrder", fn := fun _ => fun
  | [d1, d2, d3, d4] => { results := [.lit (.bool false)], args := [d1, d2, d3, d4] }
  | _ => none }
def DiagOrderWrongFalsely : Prop := diagOrderRow.holds Try.pinned (OpenSpec.ofChange diagOrderWrong)

/-- 'bellwetherlaw10.PacketRight': WHATEVER THE INPUT: true; the input reads as it did. -/
def packetRightSpec : ChangeSpec := { name := "packetRight", fn := fun _ => fun
  | [d1, d2] => { results := [.lit (.bool true)], args := [d1, d2] }
  | _ => none }
def packetRightRow : OpenClaim := { program := "ytjkliandhcegeaa", sum := "e2fe736f42bc835e1fc374f7522a6efb641003e8f9e57c16f7dcec9babd78a63", func := "bellwether/bellwetherlaw10.PacketRight", spec := "packetRight", inPlace := ["internal/abi.NoEscape", "internal/bytealg.MakeNoZero"], apart := false }
def PacketRightSaid : Prop := packetRightRow.holds Try.pinned (OpenSpec.ofChange packetRightSpec)

/-- ITS FALSE NEIGHBOUR: 'it returns false'. Refute it at one input. -/
def packetRightWrong : ChangeSpec := { name := "packetRight", fn := fun _ => fun
  | [d1, d2] => { results := [.lit (.bool false)], args := [d1, d2] }
  | _ => none }
def PacketRightWrongFalsely : Prop := packetRightRow.holds Try.pinned (OpenSpec.ofChange packetRightWrong)

/-- 'bellwetherlaw10.PacketParts': WHATEVER THE INPUT: true; the input reads as it did. -/
def packetPartsSpec : ChangeSpec := { name := "packetParts", fn := fun _ => fun
  | [d1, d2, d3, d4] => { results := [.lit (.bool true)], args := [d1, d2, d3, d4] }
  | _ => none }
def packetPartsRow : OpenClaim := { program := "ytjkliandhcegeaa", sum := "e2fe736f42bc835e1fc374f7522a6efb641003e8f9e57c16f7dcec9babd78a63", func := "bellwether/bellwetherlaw10.PacketParts", spec := "packetParts", inPlace := ["internal/abi.NoEscape", "internal/bytealg.MakeNoZero"], apart := false }
def PacketPartsSaid : Prop := packetPartsRow.holds Try.pinned (OpenSpec.ofChange packetPartsSpec)

/-- ITS FALSE NEIGHBOUR: 'it returns false'. Refute it at one input. -/
def packetPartsWrong : ChangeSpec := { name := "packetParts", fn := fun _ => fun
  | [d1, d2, d3, d4] => { results := [.lit (.bool false)], args := [d1, d2, d3, d4] }
  | _ => none }
def PacketPartsWrongFalsely : Prop := packetPartsRow.holds Try.pinned (OpenSpec.ofChange packetPartsWrong)

/-- 'bellwetherlaw10.PacketStrips': WHATEVER THE INPUT: true; the input reads as it did. -/
def packetStripsSpec : ChangeSpec := { name := "packetStrips", fn := fun _ => fun
  | [d1, d2, d3, d4] => { results := [.lit (.bool true)], args := [d1, d2, d3, d4] }
  | _ => none }
def packetStripsRow : OpenClaim := { program := "ytjkliandhcegeaa", sum := "e2fe736f42bc835e1fc374f7522a6efb641003e8f9e57c16f7dcec9babd78a63", func := "bellwether/bellwetherlaw10.PacketStrips", spec := "packetStrips", inPlace := ["internal/abi.NoEscape", "internal/bytealg.MakeNoZero"], apart := false }
def PacketStripsSaid : Prop := packetStripsRow.holds Try.pinned (OpenSpec.ofChange packetStripsSpec)

/-- ITS FALSE NEIGHBOUR: 'it returns false'. Refute it at one input. -/
def packetStripsWrong : ChangeSpec := { name := "packetStrips", fn := fun _ => fun
  | [d1, d2, d3, d4] => { results := [.lit (.bool false)], args := [d1, d2, d3, d4] }
  | _ => none }
def PacketStripsWrongFalsely : Prop := packetStripsRow.holds Try.pinned (OpenSpec.ofChange packetStripsWrong)

/- THE SECOND FORM. 'bulk': how many values and letters a reading holds, each counted each time it is reached (what is shared counts as often as it is met; a slice's spare places count too). A statement '..UptoSaid' is the law's where the arguments, and the package variables that the reading takes, are together of bulk at most 1048576: NARROWER than '..Said'. Prove '..Said' where nothing that the law and all that it calls make is longer than what came in: it says more and counts as full. Else prove '..UptoSaid'. A law counts once. -/
mutual
def uptoBulk {H : Type} : DataW H → Nat
  | .lit (.string bytes) => bytes.length + 1
  | .lit _ => 1
  | .nil => 1
  | .ptr d => uptoBulk d + 1
  | .slice elems spare => uptoBulkAll elems + uptoBulkAll spare + 1
  | .agg parts => uptoBulkAll parts + 1
  | .iface _ d => uptoBulk d + 1
  | .map entries => uptoBulkEntries entries + 1
  | .held _ => 1
def uptoBulkAll {H : Type} : List (DataW H) → Nat
  | [] => 0
  | d :: r => uptoBulk d + uptoBulkAll r
def uptoBulkEntries {H : Type} : List (Lit × DataW H) → Nat
  | [] => 0
  | x :: r => uptoBulkEntry x + uptoBulkEntries r
def uptoBulkEntry {H : Type} : Lit × DataW H → Nat
  | (.string bytes, d) => bytes.length + uptoBulk d + 1
  | (_, d) => uptoBulk d + 1
 end
def uptoSmall : (H : Type) → List (DataW H) → Bool := fun _ ds => decide (uptoBulkAll ds ≤ 1048576)
def OpenSpec.upto (s : _root_.Go.ChangeSpec) : _root_.Go.OpenSpec := { _root_.Go.OpenSpec.ofChange s with cond := some uptoSmall }

/-- 'bellwetherlaw09.DiagCounts', WHERE WHAT IT READS IS OF BULK AT MOST 1048576: true; the input reads as it did. -/
def diagCountsUptoRow : OpenClaim := { program := "ytjkliandhcegeaa", sum := "e2fe736f42bc835e1fc374f7522a6efb641003e8f9e57c16f7dcec9babd78a63", func := "bellwether/bellwetherlaw09.DiagCounts", spec := "diagCounts", apart := false, narrowed := true }
def DiagCountsUptoSaid : Prop := diagCountsUptoRow.holds Try.pinned (OpenSpec.upto diagCountsSpec)

/-- 'bellwetherlaw09.DiagUp', WHERE WHAT IT READS IS OF BULK AT MOST 1048576: true; the input reads as it did. -/
def diagUpUptoRow : OpenClaim := { program := "ytjkliandhcegeaa", sum := "e2fe736f42bc835e1fc374f7522a6efb641003e8f9e57c16f7dcec9babd78a63", func := "bellwether/bellwetherlaw09.DiagUp", spec := "diagUp", apart := false, narrowed := true }
def DiagUpUptoSaid : Prop := diagUpUptoRow.holds Try.pinned (OpenSpec.upto diagUpSpec)

/-- 'bellwetherlaw09.DiagOrder', WHERE WHAT IT READS IS OF BULK AT MOST 1048576: true; the input reads as it did. -/
def diagOrderUptoRow : OpenClaim := { program := "ytjkliandhcegeaa", sum := "e2fe736f42bc835e1fc374f7522a6efb641003e8f9e57c16f7dcec9babd78a63", func := "bellwether/bellwetherlaw09.DiagOrder", spec := "diagOrder", apart := false, narrowed := true }
def DiagOrderUptoSaid : Prop := diagOrderUptoRow.holds Try.pinned (OpenSpec.upto diagOrderSpec)

/-- 'bellwetherlaw10.PacketRight', WHERE WHAT IT READS IS OF BULK AT MOST 1048576: true; the input reads as it did. -/
def packetRightUptoRow : OpenClaim := { program := "ytjkliandhcegeaa", sum := "e2fe736f42bc835e1fc374f7522a6efb641003e8f9e57c16f7dcec9babd78a63", func := "bellwether/bellwetherlaw10.PacketRight", spec := "packetRight", inPlace := ["internal/abi.NoEscape", "internal/bytealg.MakeNoZero"], apart := false, narrowed := true }
def PacketRightUptoSaid : Prop := packetRightUptoRow.holds Try.pinned (OpenSpec.upto packetRightSpec)

/-- 'bellwetherlaw10.PacketParts', WHERE WHAT IT READS IS OF BULK AT MOST 1048576: true; the input reads as it did. -/
def packetPartsUptoRow : OpenClaim := { program := "ytjkliandhcegeaa", sum := "e2fe736f42bc835e1fc374f7522a6efb641003e8f9e57c16f7dcec9babd78a63", func := "bellwether/bellwetherlaw10.PacketParts", spec := "packetParts", inPlace := ["internal/abi.NoEscape", "internal/bytealg.MakeNoZero"], apart := false, narrowed := true }
def PacketPartsUptoSaid : Prop := packetPartsUptoRow.holds Try.pinned (OpenSpec.upto packetPartsSpec)

/-- 'bellwetherlaw10.PacketStrips', WHERE WHAT IT READS IS OF BULK AT MOST 1048576: true; the input reads as it did. -/
def packetStripsUptoRow : OpenClaim := { program := "ytjkliandhcegeaa", sum := "e2fe736f42bc835e1fc374f7522a6efb641003e8f9e57c16f7dcec9babd78a63", func := "bellwether/bellwetherlaw10.PacketStrips", spec := "packetStrips", inPlace := ["internal/abi.NoEscape", "internal/bytealg.MakeNoZero"], apart := false, narrowed := true }
def PacketStripsUptoSaid : Prop := packetStripsUptoRow.holds Try.pinned (OpenSpec.upto packetStripsSpec)

end Rows
end Go.Proofs.Ytjkliandhcegeaa
