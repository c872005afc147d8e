/- Rows of texts that lie in memory, and the small calls of package hold (fits, ofNode): what they return; they make at most new memory; conditions: as many nodes and ticks as a plain configuration may have. -/
import Derived.Test.YtohgmliafidalaaHoldM
import Derived.Test.YtohgmliafidalaaRowG
import Derived.Test.YtohgmliafidalaaConfM
import Derived.Deep.OwnRows
namespace Go.Proofs.Ytohgmliafidalaa
open Go.ChangeShapes Go.WideShapes Go.ChangeAt Go.RowKit
set_option linter.unusedVariables false

/-- Rows of texts. -/
def kStr : Kind ByteArray := ⟨1, fun s => [.string s], fun _ => rfl, by intro a u hu; simp at hu; subst hu; rfl, by decide⟩
def svals (l : List ByteArray) : Array Value := (l.map Value.string).toArray
theorem kStr_flat (l : List ByteArray) : kStr.flat l = l.map Value.string := by
  induction l with
  | nil => rfl
  | cons a l ih => simp only [Kind.flat, List.flatMap_cons, List.map_cons] at ih ⊢; rw [ih]; rfl
theorem kStr_at {n₀ : Nat} {W : World} {ad : Option Addr} {len cap : Nat} {hs : List ByteArray} (h : kStr.Lies n₀ W (.slice ad len cap) hs) (j : Nat) (hj : j < hs.length) : ∃ b off : Nat, ad = some ⟨b, off, none⟩ ∧ b < n₀ ∧ W.cell? ⟨b, off + j, none⟩ = some (.string (hs.getD j noB)) := by
  obtain ⟨b, off, he, hb, hc⟩ := h.at j hj
  refine ⟨b, off, he, hb, ?_⟩
  have := hc 0 (by decide)
  rw [List.getD_eq_getElem?_getD, List.getElem?_eq_getElem hj, Option.getD_some]
  simpa [kStr] using this
theorem kStr_caps {n₀ : Nat} {W : World} {ad : Option Addr} {len cap : Nat} {hs : List ByteArray} (h : kStr.Lies n₀ W (.slice ad len cap) hs) : hs.length ≤ cap ∧ cap ≤ 9223372036854775807 := by
  obtain ⟨a', c', hv, h1, h2, _⟩ := h
  have e : cap = c' := by
    have := congrArg (fun v => match v with | .slice _ _ c => c | _ => 0) hv
    exact this
  unfold maxLen at h2
  omega
theorem svals_size (l : List ByteArray) : (svals l).size = l.length := by simp [svals]
theorem svals_at (l : List ByteArray) (i : Nat) (h : i < l.length) : (svals l)[i]? = some (.string (l.getD i noB)) := by
  rw [List.getD_eq_getElem?_getD, List.getElem?_eq_getElem h, Option.getD_some]
  simp [svals, h]
theorem svals_set (l : List ByteArray) (i : Nat) (s : ByteArray) : (svals l).setIfInBounds i (.string s) = svals (l.set i s) := by
  apply Array.ext'
  simp only [svals, Array.toList_setIfInBounds, List.map_set]
theorem svals_made (n : Nat) : madeCells #[Value.string noB] n = svals (List.replicate n noB) := by
  have h := toList_madeCells_one (Value.string noB) n
  apply Array.ext'
  rw [h]
  simp [svals]
theorem infoStr : (Try.prog.info? 9).map (fun i => (i.zero, i.size, i.bytes)) = some (some (.string noB), 1, 16) := by kernel_rfl
theorem make_strs (n : Nat) (hn : n ≤ 100000) (w : World) : (Instr.makeSlice 25 (.int .i64 (n : Int)) (.int .i64 (n : Int))).run Try.prog w = .ok (.slice (some ⟨w.heap.size, 0, none⟩) n n) (w.alloc (.cells (svals (List.replicate n noB)) 9)) := by
  rw [← svals_made]
  exact run_make_row' 25 9 (.string noB) 16 Try.underlying25 infoStr rfl .i64 .i64 n (by omega) (by omega) w
/-- A row of texts that is a block of its own. -/
def SBlk (W : World) (g : Nat) (l : List ByteArray) : Prop := W.heap[g]? = some (.cells (svals l) 9 (0, 0))
theorem SBlk.lies {W : World} {g : Nat} {l : List ByteArray} (h : SBlk W g l) (hl : l.length ≤ maxLen) : kStr.Lies W.heap.size W (.slice (some ⟨g, 0, none⟩) l.length l.length) l := by
  refine Kind.Lies.of_block (K := kStr) (t := 9) ?_ hl
  rw [kStr_flat]
  exact h
theorem SBlk.lt {W : World} {g : Nat} {l : List ByteArray} (h : SBlk W g l) : g < W.heap.size := (Array.getElem?_eq_some_iff.1 h).1
theorem SBlk.later {W W' : World} {g : Nat} {l : List ByteArray} (h : SBlk W g l) (hb : Below W.heap.size W W') : SBlk W' g l := (hb.block g h.lt).trans h
theorem SBlk.drew {W : World} {g : Nat} {l : List ByteArray} (h : SBlk W g l) : SBlk W.drew g l := h
theorem SBlk.cell {W : World} {g : Nat} {l : List ByteArray} (h : SBlk W g l) (i : Nat) (hi : i < l.length) : W.cell? ⟨g, i, none⟩ = some (.string (l.getD i noB)) := by
  rw [← svals_at l i hi]
  simp [World.cell?, show W.heap[g]? = _ from h]
theorem SBlk.open {W : World} {g : Nat} {l : List ByteArray} (h : SBlk W g l) (i : Nat) : W.frozen? ⟨g, i, none⟩ = false := by
  simp [World.frozen?, show W.heap[g]? = _ from h]
theorem SBlk.set {W : World} {g : Nat} {l : List ByteArray} (h : SBlk W g l) (i : Nat) (s : ByteArray) : SBlk (W.setCell ⟨g, i, none⟩ (.string s)) g (l.set i s) := by
  have := heap_setCell_same W g i _ _ (.string s) h
  rw [svals_set] at this
  exact this
theorem SBlk.other {W : World} {g : Nat} {l : List ByteArray} (h : SBlk W g l) (a : Addr) (v : Value) (ha : g ≠ a.block) : SBlk (W.setCell a v) g l := (heap_setCell_other W a g v ha).trans h
theorem mul_cast {N D : Nat} (hN : N ≤ 13) (hD : D ≤ 4) : N * D ≤ 52 := Nat.mul_le_mul hN hD
theorem wr64 {x : Int} {m : Nat} (e : x = (m : Int)) (h : m ≤ 1000000) : wrap64 x = (m : Int) := by subst e; unfold wrap64; omega
theorem wrI {x : Int} {m : Nat} (e : x = (m : Int)) (h : m ≤ 1000000) : IntKind.i64.wrap x = (m : Int) := by subst e; exact IntWalk.i64_in _ (by omega)
end Go.Proofs.Ytohgmliafidalaa
