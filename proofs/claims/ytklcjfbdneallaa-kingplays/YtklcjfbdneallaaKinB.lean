/- Rows of bits and of numbers and a block of thirteen marks as blocks of memory: how they are made, read and written; no conditions. -/
import Derived.Test.YtklcjfbdneallaaKinA
import Derived.Deep.OwnRows
namespace Go.Proofs.Ytklcjfbdneallaa
open Go.ChangeShapes Go.WideShapes Go.ChangeAt Go.RowKit
set_option linter.unusedVariables false

theorem kBit_flat_cons (b : Int × Bool) (l : List (Int × Bool)) : kBit.flat (b :: l) = .int .i64 b.1 :: .bool b.2 :: kBit.flat l := by simp [Kind.flat, kBit]
theorem kBit_set (l : List (Int × Bool)) (i : Nat) (b : Int × Bool) : ((kBit.flat l).set (i * 2) (.int .i64 b.1)).set (i * 2 + 1) (.bool b.2) = kBit.flat (l.set i b) := by
  induction l generalizing i with
  | nil => rfl
  | cons a l ih =>
    cases i with
    | zero => rw [kBit_flat_cons]; simp [kBit_flat_cons]
    | succ i =>
      have e : (i + 1) * 2 = i * 2 + 1 + 1 := by omega
      rw [kBit_flat_cons, e, List.set_cons_succ, List.set_cons_succ, List.set_cons_succ, List.set_cons_succ, ih, List.set_cons_succ, kBit_flat_cons]
theorem kBit_get (l : List (Int × Bool)) (i : Nat) (hi : i < l.length) : (kBit.flat l)[i * 2]? = some (.int .i64 (l.getD i (0, false)).1) ∧ (kBit.flat l)[i * 2 + 1]? = some (.bool (l.getD i (0, false)).2) := by
  have h0 := kBit.flat_get l i hi 0 (by decide)
  have h1 := kBit.flat_get l i hi 1 (by decide)
  have e : l.getD i (0, false) = l[i] := by simp [hi]
  rw [e]
  exact ⟨h0, h1⟩
theorem kInt_set (l : List Int) (i : Nat) (v : Int) : (kInt.flat l).set i (.int .i64 v) = kInt.flat (l.set i v) := by
  rw [kInt_flat, kInt_flat, List.map_set]
theorem kInt_get (l : List Int) (i : Nat) (hi : i < l.length) : (kInt.flat l)[i]? = some (.int .i64 (l.getD i 0)) := by
  rw [kInt_flat]; simp [hi]
/-- A row of numbers that is a block of its own. -/
def IBlk (W : World) (g : Nat) (l : List Int) : Prop := W.heap[g]? = some (.cells (kInt.flat l).toArray 3 (0, 0))
/-- A row of bits that is a block of its own. -/
def BBlk (W : World) (g : Nat) (l : List (Int × Bool)) : Prop := W.heap[g]? = some (.cells (kBit.flat l).toArray 41 (0, 0))
theorem IBlk.lt {W : World} {g : Nat} {l : List Int} (h : IBlk W g l) : g < W.heap.size := blk_lt h
theorem BBlk.lt {W : World} {g : Nat} {l : List (Int × Bool)} (h : BBlk W g l) : g < W.heap.size := blk_lt h
theorem IBlk.later {W W' : World} {g : Nat} {l : List Int} (h : IBlk W g l) (hb : Below W.heap.size W W') : IBlk W' g l := blk_later h hb
theorem BBlk.later {W W' : World} {g : Nat} {l : List (Int × Bool)} (h : BBlk W g l) (hb : Below W.heap.size W W') : BBlk W' g l := blk_later h hb
theorem IBlk.open {W : World} {g : Nat} {l : List Int} (h : IBlk W g l) (i : Nat) : W.frozen? ⟨g, i, none⟩ = false := blk_frozen h i
theorem BBlk.open {W : World} {g : Nat} {l : List (Int × Bool)} (h : BBlk W g l) (i : Nat) : W.frozen? ⟨g, i, none⟩ = false := blk_frozen h i
theorem IBlk.cell {W : World} {g : Nat} {l : List Int} (h : IBlk W g l) (i : Nat) (hi : i < l.length) : W.cell? ⟨g, i, none⟩ = some (.int .i64 (l.getD i 0)) := by
  rw [blk_cell h i, List.getElem?_toArray, kInt_get l i hi]
theorem BBlk.cell0 {W : World} {g : Nat} {l : List (Int × Bool)} (h : BBlk W g l) (i : Nat) (hi : i < l.length) : W.cell? ⟨g, i * 2, none⟩ = some (.int .i64 (l.getD i (0, false)).1) := by
  rw [blk_cell h, List.getElem?_toArray, (kBit_get l i hi).1]
theorem BBlk.cell1 {W : World} {g : Nat} {l : List (Int × Bool)} (h : BBlk W g l) (i : Nat) (hi : i < l.length) : W.cell? ⟨g, i * 2 + 1, none⟩ = some (.bool (l.getD i (0, false)).2) := by
  rw [blk_cell h, List.getElem?_toArray, (kBit_get l i hi).2]
theorem IBlk.set {W : World} {g : Nat} {l : List Int} (h : IBlk W g l) (i : Nat) (v : Int) : IBlk (W.setCell ⟨g, i, none⟩ (.int .i64 v)) g (l.set i v) := by
  have := heap_setCell_same W g i _ _ (.int .i64 v) h
  rw [List.setIfInBounds_toArray, kInt_set] at this
  exact this
theorem BBlk.set {W : World} {g : Nat} {l : List (Int × Bool)} (h : BBlk W g l) (i : Nat) (b : Int × Bool) : BBlk ((W.setCell ⟨g, i * 2, none⟩ (.int .i64 b.1)).setCell ⟨g, i * 2 + 1, none⟩ (.bool b.2)) g (l.set i b) := by
  have h1 := heap_setCell_same W g (i * 2) _ _ (.int .i64 b.1) h
  have h2 := heap_setCell_same _ g (i * 2 + 1) _ _ (.bool b.2) h1
  rw [List.setIfInBounds_toArray, List.setIfInBounds_toArray, kBit_set] at h2
  exact h2
theorem blk_other {W : World} {g : Nat} {o : Obj} (h : W.heap[g]? = some o) (a : Addr) (v : Value) (ha : g ≠ a.block) : (W.setCell a v).heap[g]? = some o := (heap_setCell_other W a g v ha).trans h
theorem IBlk.lies {W : World} {g : Nat} {l : List Int} (h : IBlk W g l) (hl : l.length ≤ maxLen) : kInt.Lies W.heap.size W (.slice (some ⟨g, 0, none⟩) l.length l.length) l := Kind.Lies.of_block h hl
theorem BBlk.lies {W : World} {g : Nat} {l : List (Int × Bool)} (h : BBlk W g l) (hl : l.length ≤ maxLen) : kBit.Lies W.heap.size W (.slice (some ⟨g, 0, none⟩) l.length l.length) l := Kind.Lies.of_block h hl
theorem infoBit : (Try.prog.info? 41).map (fun i => (i.zero, i.size, i.bytes)) = some (some (.agg #[.int .i64 0, .bool false]), 2, 16) := by kernel_rfl
theorem made_ints (n : Nat) : madeCells #[.int .i64 0] n = (kInt.flat (List.replicate n 0)).toArray := by
  apply Array.ext'
  rw [toList_madeCells_one, kInt_flat]
  simp
theorem made_bits (n : Nat) : madeCells #[.int .i64 0, .bool false] (n * 2) = (kBit.flat (List.replicate n ((0 : Int), false))).toArray := by
  apply Array.ext
  · rw [size_madeCells, List.size_toArray, Kind.flat_length, List.length_replicate]; rfl
  · intro i h1 h2
    rw [size_madeCells] at h1
    have hh : (kBit.flat (List.replicate n ((0 : Int), false)))[i]? = some (madeCells #[.int .i64 0, .bool false] (n * 2))[i] := by
      have hi : i / 2 < (List.replicate n ((0 : Int), false)).length := by rw [List.length_replicate]; omega
      obtain ⟨g0, g1⟩ := kBit_get _ (i / 2) hi
      have e : (List.replicate n ((0 : Int), false)).getD (i / 2) (0, false) = (0, false) := by rw [List.getD_eq_getElem?_getD, List.getElem?_replicate, if_pos (by simpa using hi)]; rfl
      rw [e] at g0 g1
      have hm : (madeCells #[.int .i64 0, .bool false] (n * 2))[i] = (#[Value.int .i64 0, Value.bool false] : Array Value)[i % 2]! := by
        unfold madeCells
        simp
      rw [hm]
      by_cases h : i % 2 = 0
      · rw [show i = i / 2 * 2 by omega]; rw [g0]; simp
      · have : i % 2 = 1 := by omega
        rw [show i = i / 2 * 2 + 1 by omega]; rw [g1]
        rw [show (i / 2 * 2 + 1) % 2 = 1 by omega]
        rfl
    have h3 : (kBit.flat (List.replicate n ((0 : Int), false)))[i]? = some ((kBit.flat (List.replicate n ((0 : Int), false))).toArray[i]) := by
      rw [List.getElem_toArray]
      exact List.getElem?_eq_getElem _
    rw [h3] at hh
    exact (Option.some.inj hh).symm
theorem make_ints {n : Int} (N : Nat) (e : n = (N : Int)) (hn : N ≤ 100000) (w : World) : (Instr.makeSlice 22 (.int .i64 n) (.int .i64 n)).run Try.prog w = .ok (.slice (some ⟨w.heap.size, 0, none⟩) N N) (w.alloc (.cells (kInt.flat (List.replicate N 0)).toArray 3)) := by
  subst e
  rw [← made_ints]
  exact run_make_row' 22 3 (.int .i64 0) 8 Try.underlying22 infoInt rfl .i64 .i64 N (by omega) (by omega) w
theorem make_bits {n : Int} (N : Nat) (e : n = (N : Int)) (hn : N ≤ 100000) (w : World) : (Instr.makeSlice 63 (.int .i64 n) (.int .i64 n)).run Try.prog w = .ok (.slice (some ⟨w.heap.size, 0, none⟩) N N) (w.alloc (.cells (kBit.flat (List.replicate N ((0 : Int), false))).toArray 41)) := by
  subst e
  rw [← made_bits]
  obtain ⟨i0, hi, hz0, hz1, hz2⟩ := info_of infoBit
  have h := run_make (P := Try.prog) w 63 41 i0 _ Try.underlying63 hi hz0 .i64 .i64 (N : Int) (N : Int) (by omega) (Int.le_refl _) (by rw [hz2]; omega) (by omega)
  rw [Int.toNat_natCast, hz1] at h
  exact h
/-- Thirteen marks as a block. -/
def XBlk (W : World) (g : Nat) (m : Nat → Bool) : Prop := W.heap[g]? = some (.cells #[.bool (m 0), .bool (m 1), .bool (m 2), .bool (m 3), .bool (m 4), .bool (m 5), .bool (m 6), .bool (m 7), .bool (m 8), .bool (m 9), .bool (m 10), .bool (m 11), .bool (m 12)] 59 (0, 0))
theorem XBlk.cell {W : World} {g : Nat} {m : Nat → Bool} (h : XBlk W g m) (i : Nat) (hi : i < 13) : W.cell? ⟨g, i, none⟩ = some (.bool (m i)) := by
  rw [blk_cell h i]
  have hj' : i = 0 ∨ i = 1 ∨ i = 2 ∨ i = 3 ∨ i = 4 ∨ i = 5 ∨ i = 6 ∨ i = 7 ∨ i = 8 ∨ i = 9 ∨ i = 10 ∨ i = 11 ∨ i = 12 := by omega
  rcases hj' with rfl | rfl | rfl | rfl | rfl | rfl | rfl | rfl | rfl | rfl | rfl | rfl | rfl <;> rfl
theorem XBlk.congr {W : World} {g : Nat} {m m' : Nat → Bool} (h : XBlk W g m) (e : m' = m) : XBlk W g m' := by subst e; exact h
theorem XBlk.set {W : World} {g : Nat} {m m' : Nat → Bool} (h : XBlk W g m) (t : Nat) (ht : t < 13) (e : ∀ j, m' j = (m j || decide (t = j))) : XBlk (W.setCell ⟨g, t, none⟩ (.bool true)) g m' := by
  have := heap_setCell_same W g t _ _ (.bool true) h
  unfold XBlk
  rw [this]
  have hj' : t = 0 ∨ t = 1 ∨ t = 2 ∨ t = 3 ∨ t = 4 ∨ t = 5 ∨ t = 6 ∨ t = 7 ∨ t = 8 ∨ t = 9 ∨ t = 10 ∨ t = 11 ∨ t = 12 := by omega
  simp only [e]
  rcases hj' with rfl | rfl | rfl | rfl | rfl | rfl | rfl | rfl | rfl | rfl | rfl | rfl | rfl <;> simp
theorem set13T {w : World} {b : Nat} {t : TypeId} {z : Nat → Value} (h : w.heap[b]? = some (.cells #[z 0, z 1, z 2, z 3, z 4, z 5, z 6, z 7, z 8, z 9, z 10, z 11, z 12] t (0, 0))) (v : Nat → Value) : (((((((((((((w.setCell ⟨b, 0, none⟩ (v 0)).setCell ⟨b, 1, none⟩ (v 1)).setCell ⟨b, 2, none⟩ (v 2)).setCell ⟨b, 3, none⟩ (v 3)).setCell ⟨b, 4, none⟩ (v 4)).setCell ⟨b, 5, none⟩ (v 5)).setCell ⟨b, 6, none⟩ (v 6)).setCell ⟨b, 7, none⟩ (v 7)).setCell ⟨b, 8, none⟩ (v 8)).setCell ⟨b, 9, none⟩ (v 9)).setCell ⟨b, 10, none⟩ (v 10)).setCell ⟨b, 11, none⟩ (v 11)).setCell ⟨b, 12, none⟩ (v 12)).heap[b]? = some (.cells #[v 0, v 1, v 2, v 3, v 4, v 5, v 6, v 7, v 8, v 9, v 10, v 11, v 12] t (0, 0)) := by
  have h0 := h
  have h1 := heap_setCell_same _ b 0 _ _ (v 0) h0
  have h2 := heap_setCell_same _ b 1 _ _ (v 1) h1
  have h3 := heap_setCell_same _ b 2 _ _ (v 2) h2
  have h4 := heap_setCell_same _ b 3 _ _ (v 3) h3
  have h5 := heap_setCell_same _ b 4 _ _ (v 4) h4
  have h6 := heap_setCell_same _ b 5 _ _ (v 5) h5
  have h7 := heap_setCell_same _ b 6 _ _ (v 6) h6
  have h8 := heap_setCell_same _ b 7 _ _ (v 7) h7
  have h9 := heap_setCell_same _ b 8 _ _ (v 8) h8
  have h10 := heap_setCell_same _ b 9 _ _ (v 9) h9
  have h11 := heap_setCell_same _ b 10 _ _ (v 10) h10
  have h12 := heap_setCell_same _ b 11 _ _ (v 11) h11
  have h13 := heap_setCell_same _ b 12 _ _ (v 12) h12
  simpa using h13
theorem below13T {B : Nat} {a w : World} {b : Nat} (h : Below B a w) (hp : B ≤ b) (v : Nat → Value) : Below B a (((((((((((((w.setCell ⟨b, 0, none⟩ (v 0)).setCell ⟨b, 1, none⟩ (v 1)).setCell ⟨b, 2, none⟩ (v 2)).setCell ⟨b, 3, none⟩ (v 3)).setCell ⟨b, 4, none⟩ (v 4)).setCell ⟨b, 5, none⟩ (v 5)).setCell ⟨b, 6, none⟩ (v 6)).setCell ⟨b, 7, none⟩ (v 7)).setCell ⟨b, 8, none⟩ (v 8)).setCell ⟨b, 9, none⟩ (v 9)).setCell ⟨b, 10, none⟩ (v 10)).setCell ⟨b, 11, none⟩ (v 11)).setCell ⟨b, 12, none⟩ (v 12)) := by
  repeat refine Below.setCell ?_ (by exact hp) _
  exact h
/-- Who is marked behind k rounds. -/
def mkB (N : Nat) (zs : List Int) (k j : Nat) : Bool := decide (j < N ∧ (j : Int) ∈ zs.take k)
def faB (N : Nat) (zs : List Int) (j : Nat) : Bool := decide (j < N ∧ (j : Int) ∈ zs)
theorem mkB_0 (N : Nat) (zs : List Int) (j : Nat) : mkB N zs 0 j = false := by simp [mkB]
theorem mkB_all (N : Nat) (zs : List Int) : mkB N zs zs.length = faB N zs := by funext j; simp [mkB, faB]
theorem mkB_yes (N : Nat) (zs : List Int) (k : Nat) (hk : k < zs.length) (t : Nat) (ht : zs[k] = (t : Int)) (htN : t < N) (j : Nat) : mkB N zs (k + 1) j = (mkB N zs k j || decide (t = j)) := by
  unfold mkB
  rw [take_snocV zs hk, ht]
  by_cases e : t = j
  · subst e; simp [htN]
  · have e2 : ¬ (j : Int) = (t : Int) := by omega
    simp [e, e2]
theorem mkB_no (N : Nat) (zs : List Int) (k : Nat) (hk : k < zs.length) (h : ¬ (0 ≤ zs[k] ∧ zs[k] < (N : Int))) : mkB N zs (k + 1) = mkB N zs k := by
  funext j
  unfold mkB
  rw [take_snocV zs hk]
  apply decide_eq_decide.2
  rw [List.mem_append, List.mem_singleton]
  constructor
  · rintro ⟨hj, hm | hm⟩
    · exact ⟨hj, hm⟩
    · exfalso; omega
  · rintro ⟨hj, hm⟩
    exact ⟨hj, .inl hm⟩
end Go.Proofs.Ytklcjfbdneallaa
