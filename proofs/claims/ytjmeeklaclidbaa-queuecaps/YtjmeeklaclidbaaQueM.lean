/- Plain words on items: a row of items that lies in memory; what comes with a tick, and what rests; how many come within some ticks; no conditions. -/
import Derived.Test.YtjmeeklaclidbaaRowG
namespace Go.Proofs.Ytjmeeklaclidbaa
open Go.ChangeShapes Go.WideShapes Go.ChangeAt Go.RowKit
set_option linter.unusedVariables false

/-- An item: its age, how long it waits, its bytes; the numbers fit int. -/
abbrev Item := { x : Int × Int × ByteArray // (Lit.int .i64 x.1).wf = true ∧ (Lit.int .i64 x.2.1).wf = true ∧ x.2.2.size ≤ maxLen }
def item0 : Item := ⟨(0, 0, ByteArray.empty), by decide, by decide, by decide⟩
def agg3 (e : Item) : Value := .agg #[.int .i64 e.1.1, .int .i64 e.1.2.1, .string e.1.2.2]
def kItem : Kind Item := ⟨3, fun e => [.int .i64 e.1.1, .int .i64 e.1.2.1, .string e.1.2.2], fun _ => rfl, by intro a u hu; simp at hu; rcases hu with rfl | rfl | rfl <;> rfl, by decide⟩
theorem Lies_item {n₀ : Nat} {W : World} {ad : Option Addr} {len cap : Nat} {es : List Item} (h : kItem.Lies n₀ W (.slice ad len cap) es) (j : Nat) (hj : j < es.length) : ∃ b off : Nat, ad = some ⟨b, off, none⟩ ∧ b < n₀ ∧
    W.cell? ⟨b, off + j * 3, none⟩ = some (.int .i64 es[j].1.1) ∧ W.cell? ⟨b, off + j * 3 + 1, none⟩ = some (.int .i64 es[j].1.2.1) ∧ W.cell? ⟨b, off + j * 3 + 2, none⟩ = some (.string es[j].1.2.2) := by
  obtain ⟨b, off, he, hb, hc⟩ := h.at j hj
  exact ⟨b, off, he, hb, hc 0 (by decide), hc 1 (by decide), hc 2 (by decide)⟩
theorem infoItem : (Try.prog.info? 52).map (fun i => (i.zero, i.size, i.bytes)) = some (some (.agg #[.int .i64 0, .int .i64 0, .string ByteArray.empty]), 3, 32) := by kernel_rfl
theorem wfI {n : Int} (h : -9223372036854775808 ≤ n ∧ n ≤ 9223372036854775807) : (Lit.int .i64 n).wf = true := by
  have := wrap64_wf n
  rwa [IntWalk.wrap64_in n h] at this

/-- One more, at most 65535; below 0 it is 0. -/
def satF (a : Int) : Int := if a < 0 then 0 else if 65535 ≤ a then 65535 else a + 1
theorem satF_wf (a : Int) : (Lit.int .i64 (satF a)).wf = true := wfI (by unfold satF; repeat' split; all_goals omega)
def comeOf (x : Item) : Item := ⟨(satF x.1.1, 0, x.1.2.2), satF_wf _, wfI (show _ ∧ _ by simp), x.2.2.2⟩
def restOf (x : Item) : Item := if h : 1 < x.1.2.1 then ⟨(satF x.1.1, x.1.2.1 - 1, x.1.2.2), satF_wf _, wfI (by have := bd64 x.2.2.1; simp only; omega), x.2.2.2⟩ else item0
theorem restOf_val {x : Item} (h : 1 < x.1.2.1) : (restOf x).1 = (satF x.1.1, x.1.2.1 - 1, x.1.2.2) := by unfold restOf; rw [dif_pos h]
def comeL (es : List Item) : List Item := (es.filter fun x => decide (x.1.2.1 ≤ 1)).map comeOf
def restL (es : List Item) : List Item := (es.filter fun x => !decide (x.1.2.1 ≤ 1)).map restOf
theorem comeL_append (a b : List Item) : comeL (a ++ b) = comeL a ++ comeL b := by simp [comeL]
theorem restL_append (a b : List Item) : restL (a ++ b) = restL a ++ restL b := by simp [restL]
theorem comeL_yes (es : List Item) {x : Item} (h : x.1.2.1 ≤ 1) : comeL (es ++ [x]) = comeL es ++ [comeOf x] := by simp [comeL, h]
theorem comeL_no (es : List Item) {x : Item} (h : ¬ x.1.2.1 ≤ 1) : comeL (es ++ [x]) = comeL es := by simp [comeL, h]
theorem restL_yes (es : List Item) {x : Item} (h : x.1.2.1 ≤ 1) : restL (es ++ [x]) = restL es := by simp [restL, h]
theorem restL_no (es : List Item) {x : Item} (h : ¬ x.1.2.1 ≤ 1) : restL (es ++ [x]) = restL es ++ [restOf x] := by simp [restL, h]
theorem comeL_le (es : List Item) : (comeL es).length ≤ es.length := by unfold comeL; rw [List.length_map]; exact List.length_filter_le _ _
theorem restL_le (es : List Item) : (restL es).length ≤ es.length := by unfold restL; rw [List.length_map]; exact List.length_filter_le _ _
/-- How many come within some ticks. -/
def comesB (ticks : Int) (x : Item) : Bool := decide (1 ≤ ticks) && decide (x.1.2.1 ≤ ticks)
def dueN (es : List Item) (ticks : Int) : Nat := (es.filter (comesB ticks)).length
theorem dueN_snoc (es : List Item) (x : Item) (ticks : Int) : dueN (es ++ [x]) ticks = dueN es ticks + (if comesB ticks x = true then 1 else 0) := by
  unfold dueN
  by_cases h : comesB ticks x = true <;> simp [h]
theorem dueN_le (es : List Item) (ticks : Int) : dueN es ticks ≤ es.length := List.length_filter_le _ _
/-- The last eight. -/
def pushL (es fs : List Item) : List Item := (es ++ fs).drop ((es ++ fs).length - 8)
theorem pushL_length (es fs : List Item) : (pushL es fs).length = min (es.length + fs.length) 8 := by unfold pushL; simp; omega
theorem take_item (es : List Item) {k : Nat} (hk : k < es.length) : es.take (k + 1) = es.take k ++ [es[k]] := by rw [List.take_add_one]; simp [hk]
/-- An item in a box. -/
theorem cells_one_item (x : Item) : kItem.flat [x] = [.int .i64 x.1.1, .int .i64 x.1.2.1, .string x.1.2.2] := rfl
end Go.Proofs.Ytjmeeklaclidbaa
