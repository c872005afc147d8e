/- Plain words on a table that is gone through from its other end: whether each node owns a slot does not hang on the order; what the copy's block holds, round by round; no conditions. -/
import Derived.Test.YtoemloggbljikaaConfN
import Derived.Deep.AppendLies
namespace Go.Proofs.Ytoemloggbljikaa
open Go.ChangeShapes Go.WideShapes Go.ChangeAt Go.RowKit
set_option linter.unusedVariables false

theorem ownsB_reverse (n : Int) (zs : List Int) : ownsB n zs.reverse = ownsB n zs := by
  rw [Bool.eq_iff_iff, ownsB_iff, ownsB_iff]
  simp
theorem plainE_reverse (n f d p r dr o sl md fr : Int) (zs : List Int) : plainE n f d p r dr o sl md fr zs.reverse = plainE n f d p r dr o sl md fr zs := by
  unfold plainE
  rw [ownsB_reverse, List.length_reverse]
/-- Of what is plain, with an owner that is no node. -/
theorem plainE_foreign {n f d p r dr o sl md fr : Int} {zs zs' : List Int} (h : plainE n f d p r dr o sl md fr zs = 0) (hl : zs'.length = zs.length) (hn : n ∈ zs') : plainE n f d p r dr o sl md fr zs' = 11 := by
  obtain ⟨n1, n2, f1, f2, f3, d1, d2, p1, p2, r1, r2, dr1, dr2, o1, o2, sl1, sl2, md1, md2, fr1, fr2, z1, z2, _⟩ := plainE_ok h
  have ho : ownsB n zs' = false := by
    rw [← Bool.not_eq_true, ownsB_iff]
    rintro ⟨h1, _⟩
    have := h1 n hn
    omega
  rw [pl_12 ⟨n1, n2⟩ ⟨f1, f2⟩ f3 ⟨d1, d2⟩ ⟨p1, p2⟩ ⟨r1, r2⟩ ⟨dr1, dr2⟩ ⟨o1, o2⟩ ⟨sl1, sl2⟩ ⟨md1, md2⟩ ⟨fr1, fr2⟩ ⟨by omega, by omega⟩, ho]
  rfl
/-- Of what is plain, without a slot. -/
theorem plainE_empty {n f d p r dr o sl md fr : Int} {zs : List Int} (h : plainE n f d p r dr o sl md fr zs = 0) : plainE n f d p r dr o sl md fr [] = 11 := by
  obtain ⟨n1, n2, f1, f2, f3, d1, d2, p1, p2, r1, r2, dr1, dr2, o1, o2, sl1, sl2, md1, md2, fr1, fr2, z1, z2, _⟩ := plainE_ok h
  exact pl_11 ⟨n1, n2⟩ ⟨f1, f2⟩ f3 ⟨d1, d2⟩ ⟨p1, p2⟩ ⟨r1, r2⟩ ⟨dr1, dr2⟩ ⟨o1, o2⟩ ⟨sl1, sl2⟩ ⟨md1, md2⟩ ⟨fr1, fr2⟩ (by simp)

def intVals (l : List Int) : List Value := l.map (Value.int .i64)
theorem rev_take_succ {zs : List Int} (j : Nat) (hj : j < zs.length) : zs.reverse.take (zs.length - j) = zs.reverse.take (zs.length - (j + 1)) ++ [zs.getD j 0] := by
  have e : zs.length - j = (zs.length - (j + 1)) + 1 := by omega
  rw [e, take_succ_getD _ (by rw [List.length_reverse]; omega)]
  congr 2
  rw [List.getD_eq_getElem?_getD, List.getD_eq_getElem?_getD, List.getElem?_reverse (by omega)]
  congr 2
  omega

/-- The copy, k elements of its table laid: blocks B (the box that came first), B + 1 (the copy). -/
structure TurnS (B : Nat) (T : TypeId) (C : Array Value) (W0 wr : World) (v : Value) (k : Nat) (xs : List Value) : Prop where
  own : wr.ownsRow (B + 2) T 1 v k xs
  cd : ∀ j, j < 10 → wr.cell? ⟨B + 1, j, none⟩ = C[j]?
  ct : wr.cell? ⟨B + 1, 10, none⟩ = some v
  fz : wr.frozen? ⟨B + 1, 10, none⟩ = false
  lt : B + 1 < wr.heap.size
  bel : Below (B + 1) W0 wr
theorem ownBlock_ne {w : World} {base : Nat} {e : TypeId} {size n : Nat} {v : Value} {xs : List Value} (h : w.ownsRow base e size v n xs) {b : Nat} (hb : b < base) : some b ≠ v.ownBlock := by
  rcases h.2 with ⟨rfl, _⟩ | ⟨g, cap, cur, rfl, hg, _⟩
  · simp [Value.ownBlock]
  · simp [Value.ownBlock]; omega
theorem TurnS.step {B : Nat} {T : TypeId} {C : Array Value} {W0 wr wA w3 : World} {v v' : Value} {k : Nat} {xs xs' : List Value} (h : TurnS B T C W0 wr v k xs) (hA : Below wr.heap.size wr wA) (hg : wA.grownBy w3 v.ownBlock)
    (ho : w3.ownsRow (B + 2) T 1 v' (k + 1) xs') : TurnS B T C W0 (w3.setCell ⟨B + 1, 10, none⟩ v') v' (k + 1) xs' := by
  have hs := hA.size
  have hlA : B + 1 < wA.heap.size := Nat.lt_of_lt_of_le h.lt hs
  have far : ∀ i, w3.cell? ⟨B + 1, i, none⟩ = wr.cell? ⟨B + 1, i, none⟩ := fun i => by
    rw [hg.cell_far _ hlA (ownBlock_ne (b := B + 1) h.own (by omega)), hA.cell h.lt]
  have b3 : Below (B + 1) W0 w3 := (h.bel.trans (hA.mono (Nat.le_of_lt h.lt))).grown hg (Nat.le_of_lt hlA) (fun q hq => by
    rcases h.own.2 with ⟨rfl, _⟩ | ⟨g, cap, cur, rfl, hg, _⟩
    · simp [Value.ownBlock] at hq
    · simp [Value.ownBlock] at hq; omega)
  have l3 : B + 1 < w3.heap.size := by
    have hc : w3.cell? ⟨B + 1, 10, none⟩ = some v := by rw [far]; exact h.ct
    exact block_lt_of_cell hc
  refine ⟨ownsRow_setCell_below ho (by simp) _, fun j hj => ?_, ?_, ?_, by simpa using l3, b3.setCell (Nat.le_refl _) _⟩
  · rw [World.cell?_setCell_other _ _ _ _ (by simp <;> omega), far]; exact h.cd j hj
  · exact World.cell?_setCell_same _ _ _ (by rw [far]; exact h.ct)
  · rw [World.frozen?_setCell, hg.frozen_far _ hlA (ownBlock_ne (b := B + 1) h.own (by omega)), hA.frozen h.lt]; exact h.fz
theorem TurnS.grow {B : Nat} {T : TypeId} {C : Array Value} {W0 wr w2 : World} {v : Value} {k : Nat} {xs : List Value} (h : TurnS B T C W0 wr v k xs) (hb : Below wr.heap.size wr w2) : TurnS B T C W0 w2 v k xs where
  own := by
    refine ⟨h.own.1, ?_⟩
    rcases h.own.2 with h0 | ⟨g, cap, cur, hv, hg, hh, r⟩
    · exact Or.inl h0
    · have hlt : g < wr.heap.size := by
        rcases Nat.lt_or_ge g wr.heap.size with h' | h'
        · exact h'
        · rw [Array.getElem?_eq_none h'] at hh; cases hh
      exact Or.inr ⟨g, cap, cur, hv, hg, by rw [hb.block g hlt]; exact hh, r⟩
  cd := fun j hj => by rw [hb.cell h.lt]; exact h.cd j hj
  ct := by rw [hb.cell h.lt]; exact h.ct
  fz := by rw [hb.frozen h.lt]; exact h.fz
  lt := Nat.lt_of_lt_of_le h.lt hb.size
  bel := h.bel.trans (hb.mono (Nat.le_of_lt h.lt))
/-- What was laid is a table. -/
theorem TurnS.tab {B : Nat} {T : TypeId} {C : Array Value} {W0 wr : World} {v : Value} {zs : List Int} (h : TurnS B T C W0 wr v zs.length (intVals zs)) : ∃ ad cap, v = .slice ad zs.length cap ∧ Tab wr ad zs := by
  rcases h.own.2 with ⟨rfl, h0⟩ | ⟨g, cap, cur, rfl, hg, hh, _, _, _, ht⟩
  · exact ⟨none, 0, by rw [h0], fun i hi => by omega⟩
  · refine ⟨some ⟨g, 0, none⟩, cap, rfl, fun i hi => ⟨_, rfl, ?_⟩⟩
    have e : (⟨g, 0, none⟩ : Addr).add i = ⟨g, i, none⟩ := by unfold Addr.add; split <;> simp_all
    rw [e, Joins.cell_of_block hh]
    have h1 : (cur.toList.take (zs.length * 1))[i]? = (intVals zs)[i]? := by rw [ht]
    rw [List.getElem?_take, if_pos (by omega)] at h1
    rw [← Array.getElem?_toList, h1]
    simp [intVals, List.getD_eq_getElem?_getD, List.getElem?_eq_getElem hi]
/-- One element of the copy's table is stored anew. -/
theorem TurnS.put {B : Nat} {T : TypeId} {C : Array Value} {W0 wr : World} {g cap : Nat} {zs : List Int} (h : TurnS B T C W0 wr (.slice (some ⟨g, 0, none⟩) zs.length cap) zs.length (intVals zs)) (t : Nat) (ht : t < zs.length) (x : Int) :
    TurnS B T C W0 (wr.setCell ⟨g, t, none⟩ (.int .i64 x)) (.slice (some ⟨g, 0, none⟩) (zs.set t x).length cap) (zs.set t x).length (intVals (zs.set t x)) ∧ wr.cell? ⟨g, t, none⟩ = some (.int .i64 (zs.getD t 0)) ∧ wr.frozen? ⟨g, t, none⟩ = false := by
  rcases h.own.2 with ⟨h0, _⟩ | ⟨g', cap', cur, hv, hg, hh, r1, r2, r3, ht'⟩
  · simp at h0
  simp at hv
  obtain ⟨rfl, rfl⟩ := hv
  have hne : ∀ i, (⟨g, t, none⟩ : Addr) ≠ ⟨B + 1, i, none⟩ := fun i => by simp <;> omega
  have hcell : wr.cell? ⟨g, t, none⟩ = some (.int .i64 (zs.getD t 0)) := by
    rw [Joins.cell_of_block hh]
    have h1 : (cur.toList.take (zs.length * 1))[t]? = (intVals zs)[t]? := by rw [ht']
    rw [List.getElem?_take, if_pos (by omega)] at h1
    rw [← Array.getElem?_toList, h1]
    simp [intVals, List.getD_eq_getElem?_getD, List.getElem?_eq_getElem ht]
  refine ⟨⟨⟨?_, Or.inr ⟨g, cap, cur.setIfInBounds t (.int .i64 x), rfl, hg, Joins.block_setCell hh _, by simpa using r1, r2, by simpa using r3, ?_⟩⟩, fun j hj => ?_, ?_, ?_, by simpa using h.lt, h.bel.setCell (by simp; omega) _⟩, hcell, Joins.unfrozen_of_block hh t⟩
  · simp [intVals]
  · rw [Array.toList_setIfInBounds, List.length_set, List.take_set, ht']
    simp [intVals, List.map_set]
  · rw [World.cell?_setCell_other _ _ _ _ (hne j)]; exact h.cd j hj
  · rw [World.cell?_setCell_other _ _ _ _ (hne 10), List.length_set]; exact h.ct
  · rw [World.frozen?_setCell]; exact h.fz
/-- The copy's table is taken away. -/
theorem TurnS.nil {B : Nat} {T : TypeId} {C : Array Value} {W0 wr : World} {v : Value} {k : Nat} {xs : List Value} (h : TurnS B T C W0 wr v k xs) : TurnS B T C W0 (wr.setCell ⟨B + 1, 10, none⟩ (.slice none 0 0)) (.slice none 0 0) 0 [] where
  own := World.ownsRow_nil _ _ _ _
  cd := fun j hj => by rw [World.cell?_setCell_other _ _ _ _ (by simp <;> omega)]; exact h.cd j hj
  ct := World.cell?_setCell_same _ _ _ h.ct
  fz := by rw [World.frozen?_setCell]; exact h.fz
  lt := by simpa using h.lt
  bel := h.bel.setCell (Nat.le_refl _) _
/-- The copy, cell by cell. -/
theorem TurnS.box {B : Nat} {T : TypeId} {n f d p r dr o sl md fr : Int} {u v : Value} {W0 wr : World} {k : Nat} {xs : List Value} (h : TurnS B T #[.int .i64 n, .int .i64 f, .int .i64 d, .int .i64 p, .int .i64 r, .int .i64 dr, .int .i64 o, .int .i64 sl, .int .i64 md, .int .i64 fr, u] W0 wr v k xs) :
    wr.cell? ⟨B + 1, 0, none⟩ = some (.int .i64 n) ∧ wr.cell? ⟨B + 1, 1, none⟩ = some (.int .i64 f) ∧ wr.cell? ⟨B + 1, 2, none⟩ = some (.int .i64 d) ∧ wr.cell? ⟨B + 1, 3, none⟩ = some (.int .i64 p) ∧ wr.cell? ⟨B + 1, 4, none⟩ = some (.int .i64 r) ∧
    wr.cell? ⟨B + 1, 5, none⟩ = some (.int .i64 dr) ∧ wr.cell? ⟨B + 1, 6, none⟩ = some (.int .i64 o) ∧ wr.cell? ⟨B + 1, 7, none⟩ = some (.int .i64 sl) ∧ wr.cell? ⟨B + 1, 8, none⟩ = some (.int .i64 md) ∧ wr.cell? ⟨B + 1, 9, none⟩ = some (.int .i64 fr) ∧ wr.cell? ⟨B + 1, 10, none⟩ = some v :=
  ⟨h.cd 0 (by decide), h.cd 1 (by decide), h.cd 2 (by decide), h.cd 3 (by decide), h.cd 4 (by decide), h.cd 5 (by decide), h.cd 6 (by decide), h.cd 7 (by decide), h.cd 8 (by decide), h.cd 9 (by decide), h.ct⟩
/-- What came first, in the copy's worlds. -/
theorem TurnS.first {w wr : World} {T t : TypeId} {C C' : Array Value} {v : Value} {k : Nat} {xs : List Value} (h : TurnS w.heap.size T C' (w.alloc (.cells C t)) wr v k xs) :
    (∀ i, wr.cell? ⟨w.heap.size, i, none⟩ = C[i]?) ∧ Below (w.alloc (.cells C t)).heap.size (w.alloc (.cells C t)) wr := by
  have e : (w.alloc (.cells C t)).heap.size = w.heap.size + 1 := by simp
  have b : Below (w.alloc (.cells C t)).heap.size (w.alloc (.cells C t)) wr := by rw [e]; exact h.bel
  exact ⟨(box_at b).1, b⟩
theorem mem_set {zs : List Int} {t : Nat} (ht : t < zs.length) (x : Int) : x ∈ zs.set t x := List.mem_set ht x
end Go.Proofs.Ytoemloggbljikaa
