/- Plain words on notes: a row of notes that lies in memory, and which of them are alive; no conditions. -/
import Derived.RangeFuncNested
import Derived.RangeFuncBound
import Derived.RangeFuncCalls
import Derived.RangeFuncLeaves
import Derived.Shelf.Abstract
import Derived.Shelf.RegionOpen
import Derived.OwnWalkIn
import Derived.TacticsInMore
import Derived.LoopNIn
import Derived.LoopIn
import Derived.Maps.OwnIn
import Derived.Maps.AppendAt
import Derived.Laws.OwnMore
import Derived.RegionTactic
import Derived.Test.YtjmeeklaclidbaaRing
namespace Go.Proofs.Ytjmeeklaclidbaa
open Go.ChangeShapes Go.WideShapes Go.ChangeAt Go.RowKit Go.Shelf
set_option linter.unusedVariables false

/-- A note: of whom, and when; both fit int. -/
abbrev Note := { x : Int × Int // (Lit.int .i64 x.1).wf = true ∧ (Lit.int .i64 x.2).wf = true }
def note0 : Note := ⟨(0, 0), by decide⟩
def agg2 (e : Note) : Value := .agg #[.int .i64 e.1.1, .int .i64 e.1.2]
/-- Whether a note is alive. -/
def aliveB (now width : Int) (e : Note) : Bool := decide (0 ≤ signedF now e.1.2) && decide (signedF now e.1.2 < width)
def live (now width : Int) (es : List Note) : List Note := es.filter (aliveB now width)
theorem live_snoc_yes {now width : Int} {e : Note} (es : List Note) (h : aliveB now width e = true) : live now width (es ++ [e]) = live now width es ++ [e] := by simp [live, h]
theorem live_snoc_no {now width : Int} {e : Note} (es : List Note) (h : aliveB now width e = false) : live now width (es ++ [e]) = live now width es := by simp [live, h]

/-- A row of notes lies in memory, below a bound. -/
def Ents (n₀ : Nat) (W : World) (sv : Value) (es : List Note) : Prop :=
  ∃ (ad : Option Addr) (cap : Nat), sv = .slice ad es.length cap ∧ es.length ≤ cap ∧ cap ≤ maxLen ∧ (ad = none → cap = 0) ∧
    ∀ j, j < es.length → ∃ b off : Nat, ad = some ⟨b, off, none⟩ ∧ b < n₀ ∧ W.cell? ⟨b, off + j * 2, none⟩ = some (.int .i64 (es.getD j note0).1.1) ∧ W.cell? ⟨b, off + j * 2 + 1, none⟩ = some (.int .i64 (es.getD j note0).1.2)
theorem Ents.below {n₀ : Nat} {A B : World} {sv : Value} {es : List Note} (h : Ents n₀ A sv es) (hb : Below n₀ A B) : Ents n₀ B sv es := by
  obtain ⟨ad, cap, e, h1, h2, h3, hc⟩ := h
  refine ⟨ad, cap, e, h1, h2, h3, fun j hj => ?_⟩
  obtain ⟨b, off, ea, hbl, c0, c1⟩ := hc j hj
  exact ⟨b, off, ea, hbl, (hb.cell (p := ⟨b, off + j * 2, none⟩) hbl).trans c0, (hb.cell (p := ⟨b, off + j * 2 + 1, none⟩) hbl).trans c1⟩
theorem Ents.mono {n₀ n₁ : Nat} {W : World} {sv : Value} {es : List Note} (h : Ents n₀ W sv es) (hn : n₀ ≤ n₁) : Ents n₁ W sv es := by
  obtain ⟨ad, cap, e, h1, h2, h3, hc⟩ := h
  refine ⟨ad, cap, e, h1, h2, h3, fun j hj => ?_⟩
  obtain ⟨b, off, ea, hbl, c0, c1⟩ := hc j hj
  exact ⟨b, off, ea, by omega, c0, c1⟩
theorem Ents.nil (n₀ : Nat) (W : World) : Ents n₀ W (.slice none 0 0) [] := ⟨none, 0, rfl, Nat.le_refl _, Nat.zero_le _, fun _ => rfl, fun j hj => absurd hj (Nat.not_lt_zero _)⟩
theorem getD_snoc_take (es : List Note) {k : Nat} (hk : k < es.length) : es.take (k + 1) = es.take k ++ [es.getD k note0] := by
  rw [List.take_add_one]; simp [hk]

/-- The cells of a row of notes. -/
def cells2 (es : List Note) : List Value := es.flatMap fun e => [.int .i64 e.1.1, .int .i64 e.1.2]
theorem cells2_length (es : List Note) : (cells2 es).length = es.length * 2 := by
  induction es with
  | nil => rfl
  | cons a l ih => simp [cells2] at ih ⊢; omega
theorem cells2_append (es fs : List Note) : cells2 (es ++ fs) = cells2 es ++ cells2 fs := by simp [cells2]
theorem cells2_get (es : List Note) : ∀ j, j < es.length → (cells2 es)[j * 2]? = some (.int .i64 (es.getD j note0).1.1) ∧ (cells2 es)[j * 2 + 1]? = some (.int .i64 (es.getD j note0).1.2) := by
  induction es with
  | nil => intro j hj; exact absurd hj (Nat.not_lt_zero _)
  | cons a l ih =>
    intro j hj
    cases j with
    | zero => exact ⟨rfl, rfl⟩
    | succ j =>
      have := ih j (by simpa using hj)
      have e1 : (j + 1) * 2 = j * 2 + 1 + 1 := by omega
      rw [e1]
      simpa [cells2] using this
/-- A row of one's own is a row that lies in memory. -/
theorem Ents.of_own {W : World} {base : Nat} {e : TypeId} {v : Value} {es : List Note} (h : W.ownsRow base e 2 v es.length (cells2 es)) : Ents W.heap.size W v es := by
  obtain ⟨_, ⟨rfl, h0⟩ | ⟨g, cap, cur, rfl, hb, hg, h1, h2, h3, h4⟩⟩ := h
  · have : es = [] := List.length_eq_zero_iff.1 h0
    subst this
    exact Ents.nil _ _
  · refine ⟨_, cap, rfl, h1, h2, fun h => (by cases h), fun j hj => ?_⟩
    have hlt : g < W.heap.size := (Array.getElem?_eq_some_iff.1 hg).1
    obtain ⟨c0, c1⟩ := cells2_get es j hj
    rw [← h4, List.getElem?_take] at c0 c1
    rw [if_pos (by omega)] at c0 c1
    refine ⟨g, 0, rfl, hlt, ?_, ?_⟩
    · simpa [World.cell?, hg] using c0
    · simpa [World.cell?, hg] using c1

/-- A row that is cut off ahead. -/
theorem Ents.drop {n₀ : Nat} {W : World} {b off len cap : Nat} {es : List Note} (h : Ents n₀ W (.slice (some ⟨b, off, none⟩) len cap) es) (k : Nat) (hk : k ≤ es.length) : Ents n₀ W (.slice (some ⟨b, off + k * 2, none⟩) (len - k) (cap - k)) (es.drop k) := by
  obtain ⟨ad, c, hv, h1, h2, h3, hc⟩ := h
  obtain ⟨rfl, rfl, rfl⟩ : some _ = ad ∧ len = _ ∧ cap = _ := by simpa using hv
  refine ⟨some ⟨b, off + k * 2, none⟩, cap - k, by rw [List.length_drop], by rw [List.length_drop]; omega, by omega, fun h => (by cases h), fun j hj => ?_⟩
  obtain ⟨b', off', he, hb, c0, c1⟩ := hc (k + j) (by simp at hj; omega)
  cases he
  refine ⟨_, _, rfl, hb, ?_, ?_⟩
  · have e1 : off + k * 2 + j * 2 = off + (k + j) * 2 := by omega
    rw [e1, c0]; simp
  · have e1 : off + k * 2 + j * 2 + 1 = off + (k + j) * 2 + 1 := by omega
    rw [e1, c1]; simp
/-- A row that is cut off behind. -/
theorem Ents.take {n₀ : Nat} {W : World} {ad : Option Addr} {len cap : Nat} {es : List Note} (h : Ents n₀ W (.slice ad len cap) es) (k : Nat) (hk : k ≤ es.length) : Ents n₀ W (.slice ad k cap) (es.take k) := by
  obtain ⟨ad', c, hv, h1, h2, h3, hc⟩ := h
  obtain ⟨rfl, rfl, rfl⟩ : ad = ad' ∧ len = _ ∧ cap = _ := by simpa using hv
  have el : (es.take k).length = k := by rw [List.length_take]; omega
  refine ⟨ad, cap, by rw [el], by omega, h2, h3, fun j hj => ?_⟩
  have hj' : j < k ∧ j < es.length := by omega
  obtain ⟨b', off', he, hb, c0, c1⟩ := hc j hj'.2
  refine ⟨b', off', he, hb, ?_, ?_⟩
  · rw [c0]; simp [hj'.1]
  · rw [c1]; simp [hj'.1]
/-- A row that was just laid. -/
theorem Ents.of_block {W : World} {g : Nat} {es : List Note} {t : TypeId} (h : W.heap[g]? = some (.cells (cells2 es).toArray t (0, 0))) (hl : es.length ≤ maxLen) : Ents W.heap.size W (.slice (some ⟨g, 0, none⟩) es.length es.length) es := by
  refine ⟨_, _, rfl, Nat.le_refl _, hl, fun h => (by cases h), fun j hj => ?_⟩
  obtain ⟨c0, c1⟩ := cells2_get es j hj
  refine ⟨g, 0, rfl, (Array.getElem?_eq_some_iff.1 h).1, ?_, ?_⟩
  · simpa [World.cell?, h] using c0
  · simpa [World.cell?, h] using c1
/-- What is read of a row is its cells. -/
theorem Ents.cells {n₀ : Nat} {W : World} {b off len cap : Nat} {es : List Note} (h : Ents n₀ W (.slice (some ⟨b, off, none⟩) len cap) es) : ∀ j u, (cells2 es)[j]? = some u → W.cell? ((⟨b, off, none⟩ : Addr).add j) = some u := by
  obtain ⟨ad, c, hv, h1, h2, h3, hc⟩ := h
  obtain ⟨rfl, rfl, rfl⟩ : some _ = ad ∧ len = _ ∧ cap = _ := by simpa using hv
  intro j u hu
  have hj : j < (cells2 es).length := (List.getElem?_eq_some_iff.1 hu).1
  rw [cells2_length] at hj
  obtain ⟨b', off', he, hb, c0, c1⟩ := hc (j / 2) (by omega)
  cases he
  obtain ⟨d0, d1⟩ := cells2_get es (j / 2) (by omega)
  rw [add_plain]
  rcases Nat.mod_two_eq_zero_or_one j with hm | hm
  · have e1 : j / 2 * 2 = j := by omega
    rw [e1] at c0 d0
    rw [c0, ← d0, hu]
  · have e1 : j / 2 * 2 + 1 = j := by omega
    have e2 : off + j / 2 * 2 + 1 = off + j := by omega
    rw [e1] at d1
    rw [e2] at c1
    rw [c1, ← d1, hu]
theorem cells2_one (es : List Note) : ∀ u ∈ cells2 es, u.oneCell' = true := by
  intro u hu
  simp only [cells2, List.mem_flatMap] at hu
  obtain ⟨e, _, hu⟩ := hu
  simp at hu
  rcases hu with rfl | rfl <;> rfl
theorem ownsRow_below {A B : World} {base : Nat} {e : TypeId} {size : Nat} {v : Value} {n : Nat} {xs : List Value} (h : A.ownsRow base e size v n xs) (hb : Below A.heap.size A B) : B.ownsRow base e size v n xs := by
  refine ⟨h.1, ?_⟩
  rcases h.2 with h | ⟨g, cap, cur, hv, h1, h2, h3⟩
  · exact .inl h
  · exact .inr ⟨g, cap, cur, hv, h1, (hb.block g (Array.getElem?_eq_some_iff.1 h2).1).trans h2, h3⟩
theorem own_lower {W : World} {base b2 : Nat} {e : TypeId} {size : Nat} {v : Value} {n : Nat} {xs : List Value} (h : W.ownsRow base e size v n xs) (hb : b2 ≤ base) : W.ownsRow b2 e size v n xs := by
  refine ⟨h.1, ?_⟩
  rcases h.2 with h | ⟨g, cap, cur, hv, h1, h2, h3⟩
  · exact .inl h
  · exact .inr ⟨g, cap, cur, hv, Nat.le_trans hb h1, h2, h3⟩
/-- A row of notes is appended to a row of one's own. -/
theorem run_append_ents {P : Program} (w : World) (base : Nat) (t ty e : TypeId) (i : TypeInfo) (z : Value) (bytes : Nat) (ht : P.underlying t = some (.slice e)) (hi : P.info? e = some i) (hz : i.zero = some z)
    (hsize : i.size = 2) (hby : i.bytes = bytes) (hzs : z.cells.size = 2) (v : Value) (n : Nat) (xs : List Value) (hown : w.ownsRow base e 2 v n xs) {n₀ : Nat} (sv : Value) (es : List Note) (hE : Ents n₀ w sv es)
    (h63 : n + es.length ≤ maxLen) (hbytes : (n + es.length) * bytes ≤ 140737488355328) (hbase : base ≤ w.heap.size) :
    ∃ v' w', (Builtin.append_ #[t, t] ty #[v, sv]).run P w = .ok v' w' ∧ w'.ownsRow base e 2 v' (n + es.length) (xs ++ cells2 es) ∧ w.grownBy w' v.ownBlock ∧ (v'.ownBlock = v.ownBlock ∨ v'.ownBlock = some w.heap.size) := by
  obtain ⟨ad, c, rfl, h1, h2, h3, hc⟩ := id hE
  by_cases h0 : es.length = 0
  · have : es = [] := List.length_eq_zero_iff.1 h0
    subst this
    cases ad with
    | none =>
      obtain rfl := h3 rfl
      exact ⟨v, w, run_append_owned_none w base t ty e i 2 ht hi v n xs hown, by simpa [cells2] using hown, ⟨rfl, rfl, rfl, Nat.le_refl _, fun _ _ _ => rfl⟩, .inl rfl⟩
    | some a =>
      obtain ⟨v', w', r1, r2, r3, _, r5⟩ := run_append_own_at (P := P) w base t ty e i z 2 bytes ht hi hz hsize hby hzs (by decide) v n xs hown a 0 c [] rfl (by simp) (by simp) h63 hbytes hbase
      exact ⟨v', w', r1, by simpa [cells2] using r2, r3, r5⟩
  · obtain ⟨b, off, rfl, _⟩ := hc 0 (by omega)
    obtain ⟨v', w', r1, r2, r3, _, r5⟩ := run_append_own_at (P := P) w base t ty e i z 2 bytes ht hi hz hsize hby hzs (by decide) v n xs hown ⟨b, off, none⟩ es.length c (cells2 es) (cells2_length es) hE.cells (cells2_one es) h63 hbytes hbase
    exact ⟨v', w', r1, r2, r3, r5⟩
theorem wpList_append_ents {P : Program} (w : World) {ops : Array Oper} {rest : List Oper} {o : Oper} {a : Act} {Q : Exit → Act → World → Prop} (hgd : o.guard = none) (s x : Operand) (t : TypeId)
    (ho : o.op = .call { callee := .builtin .append, args := #[s, x], argTypes := #[t, t] })
    (base : Nat) (e : TypeId) (i : TypeInfo) (z : Value) (bytes : Nat) (ht : P.underlying t = some (.slice e)) (hi : P.info? e = some i) (hz : i.zero = some z)
    (hsize : i.size = 2) (hby : i.bytes = bytes) (hzs : z.cells.size = 2) (v : Value) (n : Nat) (xs : List Value) (hs : a.eval s = v) (hown : w.ownsRow base e 2 v n xs) {n₀ : Nat} (sv : Value) (es : List Note) (hx : a.eval x = sv) (hE : Ents n₀ w sv es)
    (h63 : n + es.length ≤ maxLen) (hbytes : (n + es.length) * bytes ≤ 140737488355328) (hbase : base ≤ w.heap.size)
    (hK : ∀ v' w', w'.ownsRow base e 2 v' (n + es.length) (xs ++ cells2 es) → w.grownBy w' v.ownBlock → (v'.ownBlock = v.ownBlock ∨ v'.ownBlock = some w.heap.size) → wpList P ops Q rest (a.put o.dst v') w') : wpList P ops Q (o :: rest) a w := by
  obtain ⟨v', w', hrun, r1, r2, r3⟩ := run_append_ents (P := P) w base t o.type e i z bytes ht hi hz hsize hby hzs v n xs hown sv es hE h63 hbytes hbase
  refine wpList_plain hgd fun K hK' => ?_
  unfold Oper.wp
  simp [execOp, ho, resolve, invoke, builtin, hs, hx, hrun, Result.andThen]
  exact hK' _ _ (hK v' w' r1 r2 r3)
theorem step_append_ents {P : Program} (w : World) {ops : Array Oper} {o : Oper} {a : Act} {K : Act → World → Prop} {Q : Exit → Act → World → Prop} {E : Prop} (hgd : o.guard = none) (s x : Operand) (t : TypeId)
    (ho : o.op = .call { callee := .builtin .append, args := #[s, x], argTypes := #[t, t] })
    (base : Nat) (e : TypeId) (i : TypeInfo) (z : Value) (bytes : Nat) (ht : P.underlying t = some (.slice e)) (hi : P.info? e = some i) (hz : i.zero = some z)
    (hsize : i.size = 2) (hby : i.bytes = bytes) (hzs : z.cells.size = 2) (v : Value) (n : Nat) (xs : List Value) (hs : a.eval s = v) (hown : w.ownsRow base e 2 v n xs) {n₀ : Nat} (sv : Value) (es : List Note) (hx : a.eval x = sv) (hE : Ents n₀ w sv es)
    (h63 : n + es.length ≤ maxLen) (hbytes : (n + es.length) * bytes ≤ 140737488355328) (hbase : base ≤ w.heap.size)
    (hK : ∀ v' w', w'.ownsRow base e 2 v' (n + es.length) (xs ++ cells2 es) → w.grownBy w' v.ownBlock → (v'.ownBlock = v.ownBlock ∨ v'.ownBlock = some w.heap.size) → K (a.put o.dst v') w') :
    if Region.wanted o (yielded ops a.tmps) = true then Oper.wp P o a w K Q else E := by
  have hw : Region.wanted o (yielded ops a.tmps) = true := by simp [Region.wanted, hgd]
  rw [if_pos hw]
  obtain ⟨v', w', hrun, r1, r2, r3⟩ := run_append_ents (P := P) w base t o.type e i z bytes ht hi hz hsize hby hzs v n xs hown sv es hE h63 hbytes hbase
  unfold Oper.wp
  simp [execOp, ho, resolve, invoke, builtin, hs, hx, hrun, Result.andThen]
  exact hK v' w' r1 r2 r3
end Go.Proofs.Ytjmeeklaclidbaa
