/- Plain words on configurations: what lies in a table, what stays when memory grows, and the numbers that the rules of a configuration ask for; no conditions. -/
import Derived.Test.YtohgmliafidalaaBase
import Derived.Deep.RegionHeld3
import Derived.Deep.DrawnRows
namespace Go.Proofs.Ytohgmliafidalaa
open Go.ChangeShapes Go.WideShapes Go.ChangeAt Go.RowKit
set_option linter.unusedVariables false

theorem bcell {W w1 : World} (hb : Below W.heap.size W w1) : (∀ b i, b < W.heap.size → w1.cell? ⟨b, i, none⟩ = W.cell? ⟨b, i, none⟩) ∧ (∀ b i, b < W.heap.size → w1.frozen? ⟨b, i, none⟩ = W.frozen? ⟨b, i, none⟩) :=
  ⟨fun b i h => hb.cell (p := ⟨b, i, none⟩) h, fun b i h => hb.frozen (p := ⟨b, i, none⟩) h⟩

/-- A table's numbers lie behind its address. -/
def Tab (w : World) (ad : Option Addr) (zs : List Int) : Prop := ∀ i, i < zs.length → ∃ a : Addr, ad = some a ∧ w.cell? (a.add i) = some (.int .i64 (zs.getD i 0))
theorem Tab.below {w w' : World} {ad : Option Addr} {zs : List Int} (h : Tab w ad zs) (hb : Below w.heap.size w w') : Tab w' ad zs := by
  intro i hi
  obtain ⟨a, ha, hc⟩ := h i hi
  exact ⟨a, ha, by rw [hb.cell (block_lt_of_cell hc)]; exact hc⟩
theorem Tab.at {w : World} {a : Addr} {zs : List Int} (h : Tab w (some a) zs) (i : Nat) (hi : i < zs.length) : w.cell? (a.add i) = some (.int .i64 (zs.getD i 0)) := by
  obtain ⟨a', ha, hc⟩ := h i hi
  cases ha
  exact hc


/-- A table's cell, where it lies, and that it lies there. -/
theorem Tab.lies {w : World} {ad : Option Addr} {zs : List Int} (h : Tab w ad zs) (i : Nat) (hi : i < zs.length) : ∃ a : Addr, ad = some a ∧ w.cell? (a.add i) = some (.int .i64 (zs.getD i 0)) ∧ (a.add i).block < w.heap.size := by
  obtain ⟨a, ha, hc⟩ := h i hi
  exact ⟨a, ha, hc, block_lt_of_cell hc⟩
theorem Calls.to_belowR {P : Program} {F : FuncId} {args : Array Value} {w : World} {v : Value} (h : Calls P F args w fun e w' => e = .returned v ∧ w' = w) : Calls P F args w fun e w' => e = .returned v ∧ Below w.heap.size w w' :=
  h.mono fun _ _ ⟨he, hw⟩ => ⟨he, by rw [hw]; exact Below.refl _ _⟩

def roundsW (f : Int) : Int := wrap64 (3 * wrap64 (f + 1))
def lengthW (f d : Int) : Int := wrap64 (roundsW f * d)
theorem roundsW_eq {f : Int} (h1 : 0 ≤ f) (h2 : f ≤ 4) : roundsW f = 3 * (f + 1) := by
  unfold roundsW wrap64; omega
theorem lengthW_eq {f d : Int} (h1 : 0 ≤ f) (h2 : f ≤ 4) (h3 : 1 ≤ d) (h4 : d ≤ 4) : lengthW f d = 3 * (f + 1) * d := by
  have hp : 0 ≤ (3 * (f + 1)) * d := Int.mul_nonneg (by omega) (by omega)
  have hq : (3 * (f + 1)) * d ≤ 15 * 4 := Int.mul_le_mul (by omega) h4 (by omega) (by omega)
  unfold lengthW
  rw [roundsW_eq h1 h2]
  unfold wrap64; omega
end Go.Proofs.Ytohgmliafidalaa
