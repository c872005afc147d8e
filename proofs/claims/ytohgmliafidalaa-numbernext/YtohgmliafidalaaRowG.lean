/- Plain words on rows in memory, whatever their elements are: where they lie, their cells, what is cut off, what is appended; no conditions. -/
import Derived.Test.YtohgmliafidalaaBase
import Derived.Laws.OwnMore
import Derived.Laws.AppendOwnNone
import Derived.Maps.AppendAt
import Derived.OwnWalkIn
namespace Go.Proofs.Ytohgmliafidalaa
open Go.ChangeShapes Go.WideShapes Go.ChangeAt Go.RowKit
set_option linter.unusedVariables false

/-- A kind of elements: how many cells one has, and which. -/
structure Kind (α : Type) where
  k : Nat
  enc : α → List Value
  len : ∀ a, (enc a).length = k
  one : ∀ a, ∀ u ∈ enc a, u.oneCell' = true
  pos : 0 < k
namespace Kind
variable {α : Type} (K : Kind α)
def flat (es : List α) : List Value := es.flatMap K.enc
theorem flat_length (es : List α) : (K.flat es).length = es.length * K.k := by
  induction es with
  | nil => simp [flat]
  | cons a l ih => simp only [flat, List.flatMap_cons, List.length_append, K.len, List.length_cons] at ih ⊢; rw [ih, Nat.add_mul]; omega
theorem flat_append (es fs : List α) : K.flat (es ++ fs) = K.flat es ++ K.flat fs := by simp [flat]
theorem flat_one (es : List α) : ∀ u ∈ K.flat es, u.oneCell' = true := by
  intro u hu
  simp only [flat, List.mem_flatMap] at hu
  obtain ⟨e, _, hu⟩ := hu
  exact K.one e u hu
theorem flat_drop (es : List α) (n : Nat) (hn : n ≤ es.length) : K.flat (es.drop n) = (K.flat es).drop (n * K.k) := by
  have h : K.flat es = K.flat (es.take n) ++ K.flat (es.drop n) := by rw [← flat_append, List.take_append_drop]
  have hl : (K.flat (es.take n)).length = n * K.k := by rw [flat_length, List.length_take, Nat.min_eq_left hn]
  rw [h, ← hl, List.drop_left]
theorem flat_take (es : List α) (n : Nat) (hn : n ≤ es.length) : K.flat (es.take n) = (K.flat es).take (n * K.k) := by
  have h : K.flat es = K.flat (es.take n) ++ K.flat (es.drop n) := by rw [← flat_append, List.take_append_drop]
  have hl : (K.flat (es.take n)).length = n * K.k := by rw [flat_length, List.length_take, Nat.min_eq_left hn]
  rw [h, ← hl, List.take_left]
theorem flat_get (es : List α) (j : Nat) (hj : j < es.length) (i : Nat) (hi : i < K.k) : (K.flat es)[j * K.k + i]? = (K.enc es[j])[i]? := by
  have h1 := K.flat_drop es j (by omega)
  have h2 : (K.flat (es.drop j))[i]? = (K.enc es[j])[i]? := by
    rw [List.drop_eq_getElem_cons hj]
    simp only [flat, List.flatMap_cons]
    rw [List.getElem?_append_left (by rw [K.len]; exact hi)]
  rw [← h2, h1, List.getElem?_drop]

/-- A row lies in memory, below a bound. -/
def Lies (n₀ : Nat) (W : World) (sv : Value) (es : List α) : Prop :=
  ∃ (ad : Option Addr) (cap : Nat), sv = .slice ad es.length cap ∧ es.length ≤ cap ∧ cap ≤ maxLen ∧ (ad = none → cap = 0) ∧
    (0 < es.length → ∃ b off : Nat, ad = some ⟨b, off, none⟩ ∧ b < n₀ ∧ ∀ j u, (K.flat es)[j]? = some u → W.cell? ⟨b, off + j, none⟩ = some u)
variable {K}
theorem Lies.below {n₀ : Nat} {A B : World} {sv : Value} {es : List α} (h : K.Lies n₀ A sv es) (hb : Below n₀ A B) : K.Lies n₀ B sv es := by
  obtain ⟨ad, cap, e, h1, h2, h3, hc⟩ := h
  refine ⟨ad, cap, e, h1, h2, h3, fun hj => ?_⟩
  obtain ⟨b, off, ea, hbl, c⟩ := hc hj
  exact ⟨b, off, ea, hbl, fun j u hu => (hb.cell (p := ⟨b, off + j, none⟩) hbl).trans (c j u hu)⟩
theorem Lies.mono {n₀ n₁ : Nat} {W : World} {sv : Value} {es : List α} (h : K.Lies n₀ W sv es) (hn : n₀ ≤ n₁) : K.Lies n₁ W sv es := by
  obtain ⟨ad, cap, e, h1, h2, h3, hc⟩ := h
  refine ⟨ad, cap, e, h1, h2, h3, fun hj => ?_⟩
  obtain ⟨b, off, ea, hbl, c⟩ := hc hj
  exact ⟨b, off, ea, by omega, c⟩
theorem Lies.later {A B : World} {sv : Value} {es : List α} (h : K.Lies A.heap.size A sv es) (hb : Below A.heap.size A B) : K.Lies B.heap.size B sv es := (h.below hb).mono hb.size
theorem Lies.nil (n₀ : Nat) (W : World) : K.Lies n₀ W (.slice none 0 0) [] := ⟨none, 0, rfl, Nat.le_refl _, Nat.zero_le _, fun _ => rfl, fun hj => absurd hj (Nat.not_lt_zero _)⟩
theorem Lies.of_own {W : World} {base : Nat} {e : TypeId} {v : Value} {es : List α} (h : W.ownsRow base e K.k v es.length (K.flat es)) : K.Lies W.heap.size W v es := by
  obtain ⟨_, ⟨rfl, h0⟩ | ⟨g, cap, cur, rfl, hb, hg, h1, h2, h3, h4⟩⟩ := h
  · have : es = [] := List.length_eq_zero_iff.1 h0
    subst this
    exact Lies.nil _ _
  · refine ⟨_, cap, rfl, h1, h2, fun h => (by cases h), fun hj => ?_⟩
    have hlt : g < W.heap.size := (Array.getElem?_eq_some_iff.1 hg).1
    refine ⟨g, 0, rfl, hlt, fun j u hu => ?_⟩
    rw [← h4, List.getElem?_take] at hu
    split at hu
    · simpa [World.cell?, hg] using hu
    · cases hu
theorem Lies.drop {n₀ : Nat} {W : World} {b off len cap : Nat} {es : List α} (h : K.Lies n₀ W (.slice (some ⟨b, off, none⟩) len cap) es) (n : Nat) (hn : n ≤ es.length) : K.Lies n₀ W (.slice (some ⟨b, off + n * K.k, none⟩) (len - n) (cap - n)) (es.drop n) := by
  obtain ⟨ad, c, hv, h1, h2, h3, hc⟩ := h
  obtain ⟨rfl, rfl, rfl⟩ : some _ = ad ∧ len = _ ∧ cap = _ := by simpa using hv
  refine ⟨some ⟨b, off + n * K.k, none⟩, cap - n, by rw [List.length_drop], by rw [List.length_drop]; omega, by omega, fun h => (by cases h), fun hj => ?_⟩
  obtain ⟨b', off', he, hb, c⟩ := hc (by simp at hj; omega)
  cases he
  refine ⟨_, _, rfl, hb, fun j u hu => ?_⟩
  rw [K.flat_drop es n hn, List.getElem?_drop] at hu
  rw [Nat.add_assoc]
  exact c _ _ hu
theorem Lies.take {n₀ : Nat} {W : World} {ad : Option Addr} {len cap : Nat} {es : List α} (h : K.Lies n₀ W (.slice ad len cap) es) (n : Nat) (hn : n ≤ es.length) : K.Lies n₀ W (.slice ad n cap) (es.take n) := by
  obtain ⟨ad', c, hv, h1, h2, h3, hc⟩ := h
  obtain ⟨rfl, rfl, rfl⟩ : ad = ad' ∧ len = _ ∧ cap = _ := by simpa using hv
  have el : (es.take n).length = n := by rw [List.length_take]; omega
  refine ⟨ad, cap, by rw [el], by omega, h2, h3, fun hj => ?_⟩
  obtain ⟨b', off', he, hb, c⟩ := hc (by omega)
  refine ⟨b', off', he, hb, fun j u hu => ?_⟩
  rw [K.flat_take es n hn, List.getElem?_take] at hu
  split at hu
  · exact c _ _ hu
  · cases hu
theorem Lies.of_block {W : World} {g : Nat} {es : List α} {t : TypeId} (h : W.heap[g]? = some (.cells (K.flat es).toArray t (0, 0))) (hl : es.length ≤ maxLen) : K.Lies W.heap.size W (.slice (some ⟨g, 0, none⟩) es.length es.length) es := by
  refine ⟨_, _, rfl, Nat.le_refl _, hl, fun h => (by cases h), fun hj => ?_⟩
  refine ⟨g, 0, rfl, (Array.getElem?_eq_some_iff.1 h).1, fun j u hu => ?_⟩
  simpa [World.cell?, h] using hu
/-- What is read of a row is its cells. -/
theorem Lies.cells {n₀ : Nat} {W : World} {b off len cap : Nat} {es : List α} (h : K.Lies n₀ W (.slice (some ⟨b, off, none⟩) len cap) es) : ∀ j u, (K.flat es)[j]? = some u → W.cell? ((⟨b, off, none⟩ : Addr).add j) = some u := by
  obtain ⟨ad, c, hv, h1, h2, h3, hc⟩ := h
  obtain ⟨rfl, rfl, rfl⟩ : some _ = ad ∧ len = _ ∧ cap = _ := by simpa using hv
  intro j u hu
  by_cases h0 : 0 < es.length
  · obtain ⟨b', off', he, hb, c⟩ := hc h0
    cases he
    rw [add_plain]
    exact c j u hu
  · have : es = [] := List.length_eq_zero_iff.1 (by omega)
    subst this
    simp [flat] at hu
/-- The cells of one element of a row. -/
theorem Lies.at {n₀ : Nat} {W : World} {ad : Option Addr} {len cap : Nat} {es : List α} (h : K.Lies n₀ W (.slice ad len cap) es) (j : Nat) (hj : j < es.length) : ∃ b off : Nat, ad = some ⟨b, off, none⟩ ∧ b < n₀ ∧ ∀ i, i < K.k → W.cell? ⟨b, off + j * K.k + i, none⟩ = (K.enc es[j])[i]? := by
  obtain ⟨ad', c, hv, h1, h2, h3, hc⟩ := h
  obtain ⟨rfl, rfl, rfl⟩ : ad = ad' ∧ len = _ ∧ cap = _ := by simpa using hv
  obtain ⟨b, off, he, hb, c⟩ := hc (by omega)
  refine ⟨b, off, he, hb, fun i hi => ?_⟩
  have h1 := K.flat_get es j hj i hi
  have hlt : i < (K.enc es[j]).length := by rw [K.len]; exact hi
  obtain ⟨u, hu⟩ : ∃ u, (K.enc es[j])[i]? = some u := ⟨_, List.getElem?_eq_getElem hlt⟩
  rw [hu] at h1
  rw [hu, Nat.add_assoc]
  exact c _ _ h1
theorem Lies.len {n₀ : Nat} {W : World} {ad : Option Addr} {len cap : Nat} {es : List α} (h : K.Lies n₀ W (.slice ad len cap) es) : len = es.length := by
  obtain ⟨_, _, hv, _⟩ := h
  simp at hv
  exact hv.2.1
variable (K)
/-- A row is appended to a row of one's own. -/
theorem run_append {P : Program} (w : World) (base : Nat) (t ty e : TypeId) (i : TypeInfo) (z : Value) (bytes : Nat) (ht : P.underlying t = some (.slice e)) (hi : P.info? e = some i) (hz : i.zero = some z)
    (hsize : i.size = K.k) (hby : i.bytes = bytes) (hzs : z.cells.size = K.k) (v : Value) (n : Nat) (xs : List Value) (hown : w.ownsRow base e K.k v n xs) {n₀ : Nat} (sv : Value) (es : List α) (hE : K.Lies n₀ w sv es)
    (h63 : n + es.length ≤ maxLen) (hbytes : (n + es.length) * bytes ≤ 140737488355328) (hbase : base ≤ w.heap.size) :
    ∃ v' w', (Builtin.append_ #[t, t] ty #[v, sv]).run P w = .ok v' w' ∧ w'.ownsRow base e K.k v' (n + es.length) (xs ++ K.flat es) ∧ w.grownBy w' v.ownBlock ∧ (v'.ownBlock = v.ownBlock ∨ v'.ownBlock = some w.heap.size) := by
  obtain ⟨ad, c, rfl, h1, h2, h3, hc⟩ := id hE
  by_cases h0 : es.length = 0
  · have : es = [] := List.length_eq_zero_iff.1 h0
    subst this
    cases ad with
    | none =>
      obtain rfl := h3 rfl
      exact ⟨v, w, run_append_owned_none w base t ty e i K.k ht hi v n xs hown, by simpa [flat] using hown, ⟨rfl, rfl, rfl, Nat.le_refl _, fun _ _ _ => rfl⟩, .inl rfl⟩
    | some a =>
      obtain ⟨v', w', r1, r2, r3, _, r5⟩ := run_append_own_at (P := P) w base t ty e i z K.k bytes ht hi hz hsize hby hzs K.pos v n xs hown a 0 c [] (by simp) (by simp) (by simp) h63 hbytes hbase
      exact ⟨v', w', r1, by simpa [flat] using r2, r3, r5⟩
  · obtain ⟨b, off, rfl, _⟩ := hc (by omega)
    obtain ⟨v', w', r1, r2, r3, _, r5⟩ := run_append_own_at (P := P) w base t ty e i z K.k bytes ht hi hz hsize hby hzs K.pos v n xs hown ⟨b, off, none⟩ es.length c (K.flat es) (K.flat_length es) hE.cells (K.flat_one es) h63 hbytes hbase
    exact ⟨v', w', r1, r2, r3, r5⟩
theorem wpList_append {P : Program} (w : World) {ops : Array Oper} {rest : List Oper} {o : Oper} {a : Act} {Q : Exit → Act → World → Prop} (hgd : o.guard = none) (s x : Operand) (t : TypeId)
    (ho : o.op = .call { callee := .builtin .append, args := #[s, x], argTypes := #[t, t] })
    (base : Nat) (e : TypeId) (i : TypeInfo) (z : Value) (bytes : Nat) (ht : P.underlying t = some (.slice e)) (hi : P.info? e = some i) (hz : i.zero = some z)
    (hsize : i.size = K.k) (hby : i.bytes = bytes) (hzs : z.cells.size = K.k) (v : Value) (n : Nat) (xs : List Value) (hs : a.eval s = v) (hown : w.ownsRow base e K.k v n xs) {n₀ : Nat} (sv : Value) (es : List α) (hx : a.eval x = sv) (hE : K.Lies n₀ w sv es)
    (h63 : n + es.length ≤ maxLen) (hbytes : (n + es.length) * bytes ≤ 140737488355328) (hbase : base ≤ w.heap.size)
    (hK : ∀ v' w', w'.ownsRow base e K.k v' (n + es.length) (xs ++ K.flat es) → w.grownBy w' v.ownBlock → (v'.ownBlock = v.ownBlock ∨ v'.ownBlock = some w.heap.size) → wpList P ops Q rest (a.put o.dst v') w') : wpList P ops Q (o :: rest) a w := by
  obtain ⟨v', w', hrun, r1, r2, r3⟩ := K.run_append (P := P) w base t o.type e i z bytes ht hi hz hsize hby hzs v n xs hown sv es hE h63 hbytes hbase
  refine wpList_plain hgd fun K hK' => ?_
  unfold Oper.wp
  simp [execOp, ho, resolve, invoke, builtin, hs, hx, hrun, Result.andThen]
  exact hK' _ _ (hK v' w' r1 r2 r3)
end Kind

theorem own_below {A B : World} {base : Nat} {e : TypeId} {size : Nat} {v : Value} {n : Nat} {xs : List Value} (h : A.ownsRow base e size v n xs) (hb : Below A.heap.size A B) : B.ownsRow base e size v n xs := by
  refine ⟨h.1, ?_⟩
  rcases h.2 with h | ⟨g, cap, cur, hv, h1, h2, h3⟩
  · exact .inl h
  · exact .inr ⟨g, cap, cur, hv, h1, (hb.block g (Array.getElem?_eq_some_iff.1 h2).1).trans h2, h3⟩
theorem own_low {W : World} {base b2 : Nat} {e : TypeId} {size : Nat} {v : Value} {n : Nat} {xs : List Value} (h : W.ownsRow base e size v n xs) (hb : b2 ≤ base) : W.ownsRow b2 e size v n xs := by
  refine ⟨h.1, ?_⟩
  rcases h.2 with h | ⟨g, cap, cur, hv, h1, h2, h3⟩
  · exact .inl h
  · exact .inr ⟨g, cap, cur, hv, Nat.le_trans hb h1, h2, h3⟩
theorem own_from {W : World} {base : Nat} {e : TypeId} {size : Nat} {v : Value} {n : Nat} {xs : List Value} (h : W.ownsRow base e size v n xs) : ∀ k, v.ownBlock = some k → base ≤ k := fun k hk => (h.lt k hk).1
theorem own_slice {W : World} {base : Nat} {e : TypeId} {size : Nat} {v : Value} {n : Nat} {xs : List Value} (h : W.ownsRow base e size v n xs) : ∃ ad cap, v = .slice ad n cap := by
  rcases h.2 with ⟨rfl, rfl⟩ | ⟨g, cap, cur, rfl, _⟩
  · exact ⟨_, _, rfl⟩
  · exact ⟨_, _, rfl⟩
end Go.Proofs.Ytohgmliafidalaa
