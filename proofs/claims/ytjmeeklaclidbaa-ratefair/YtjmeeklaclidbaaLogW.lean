/- Plain words on the nodes of notes: which there are, rising, each once, and how many notes each has; what a map that counts them holds; no conditions. -/
import Derived.Test.YtjmeeklaclidbaaLogT
import Derived.Lib.SlKeysI
import Derived.Maps.Views
namespace Go.Proofs.Ytjmeeklaclidbaa
open Go.ChangeShapes Go.WideShapes Go.ChangeAt Go.RowKit Go.Shelf Go.Maps
set_option linter.unusedVariables false

/-- A number put into a rising row, once. -/
def ins (x : Int) : List Int → List Int
  | [] => [x]
  | y :: l => if y < x then y :: ins x l else if y = x then y :: l else x :: y :: l
def nodesOf (xs : List Note) : List Int := xs.foldl (fun acc e => ins e.1.1 acc) []
theorem mem_ins (x z : Int) : ∀ l, z ∈ ins x l ↔ z = x ∨ z ∈ l
  | [] => by simp [ins]
  | y :: l => by
    unfold ins
    split
    · simp [mem_ins x z l]
      constructor
      · rintro (h | h | h)
        · exact .inr (.inl h)
        · exact .inl h
        · exact .inr (.inr h)
      · rintro (h | h | h)
        · exact .inr (.inl h)
        · exact .inl h
        · exact .inr (.inr h)
    · split
      · rename_i h; subst h; simp
      · simp
theorem ins_rising (x : Int) : ∀ l : List Int, l.Pairwise (· < ·) → (ins x l).Pairwise (· < ·)
  | [], _ => by simp [ins]
  | y :: l, h => by
    obtain ⟨h1, h2⟩ := List.pairwise_cons.1 h
    unfold ins
    split
    · rename_i hy
      refine List.pairwise_cons.2 ⟨fun z hz => ?_, ins_rising x l h2⟩
      rcases (mem_ins x z l).1 hz with rfl | hz
      · exact hy
      · exact h1 z hz
    · split
      · exact h
      · rename_i hy hne
        refine List.pairwise_cons.2 ⟨fun z hz => ?_, h⟩
        rcases List.mem_cons.1 hz with rfl | hz
        · omega
        · have := h1 z hz; omega
/-- The rising row of all nodes. -/
def Nodes (zs : List Int) (xs : List Note) : Prop := zs.Pairwise (· < ·) ∧ ∀ x, x ∈ zs ↔ ∃ e ∈ xs, e.1.1 = x
theorem nodes_fold (xs : List Note) : ∀ (acc : List Int) (ys : List Note), Nodes acc ys → Nodes (xs.foldl (fun acc e => ins e.1.1 acc) acc) (ys ++ xs) := by
  induction xs with
  | nil => intro acc ys h; simpa using h
  | cons e l ih =>
    intro acc ys h
    have := ih (ins e.1.1 acc) (ys ++ [e]) ⟨ins_rising _ _ h.1, fun x => by
      rw [mem_ins, h.2]
      constructor
      · rintro (rfl | ⟨d, hd, rfl⟩)
        · exact ⟨e, by simp, rfl⟩
        · exact ⟨d, by simp [hd], rfl⟩
      · rintro ⟨d, hd, rfl⟩
        rcases List.mem_append.1 hd with hd | hd
        · exact .inr ⟨d, hd, rfl⟩
        · rw [List.mem_singleton.1 hd]; exact .inl rfl⟩
    simpa using this
theorem nodes_of (xs : List Note) : Nodes (nodesOf xs) xs := by
  have := nodes_fold xs [] [] ⟨List.Pairwise.nil, by simp⟩
  rw [List.nil_append] at this
  exact this
theorem Nodes.eq {zs ys : List Int} {xs : List Note} (h : Nodes zs xs) (k : Nodes ys xs) : zs = ys := by
  have nd : ∀ {l : List Int}, l.Pairwise (· < ·) → l.Nodup := fun h => h.imp (fun h => by omega)
  exact List.Perm.eq_of_pairwise (le := (· < ·)) (fun a b _ _ h1 h2 => by omega) h.1 k.1 ((List.perm_ext_iff_of_nodup (nd h.1) (nd k.1)).2 fun x => (h.2 x).trans (k.2 x).symm)
theorem nodesOf_snoc (xs : List Note) (e : Note) : nodesOf (xs ++ [e]) = ins e.1.1 (nodesOf xs) := by simp [nodesOf]
theorem ins_length_le (x : Int) : ∀ l : List Int, (ins x l).length ≤ l.length + 1
  | [] => by simp [ins]
  | y :: l => by
    unfold ins
    split
    · have := ins_length_le x l; simp; omega
    · split <;> simp
theorem nodes_fold_length (xs : List Note) : ∀ acc : List Int, (xs.foldl (fun acc e => ins e.1.1 acc) acc).length ≤ acc.length + xs.length := by
  induction xs with
  | nil => intro acc; simp
  | cons e l ih => intro acc; have := ih (ins e.1.1 acc); have := ins_length_le e.1.1 acc; simp; omega
theorem nodesOf_length (xs : List Note) : (nodesOf xs).length ≤ xs.length := by have := nodes_fold_length xs []; simpa [nodesOf] using this

/-- How many notes of a node. -/
def cntN (x : Int) (xs : List Note) : Nat := (xs.filter fun e => decide (e.1.1 = x)).length
theorem cntN_le (x : Int) (xs : List Note) : cntN x xs ≤ xs.length := List.length_filter_le _ _
theorem cntN_snoc (x : Int) (xs : List Note) (e : Note) : cntN x (xs ++ [e]) = cntN x xs + (if e.1.1 = x then 1 else 0) := by
  unfold cntN; rw [List.filter_append]; simp; split <;> simp_all

/-- What the map that counts holds. -/
def Counts {H : Type} (D : DataW H) (ys : List Note) : Prop :=
  (∃ es, D = .map es ∧ es.Pairwise (fun p q => p.1 ≠ q.1) ∧ ∀ p ∈ es, ∃ x, p.1 = .int .i64 x) ∧ (∀ x, has D (.int .i64 x) = true ↔ ∃ e ∈ ys, e.1.1 = x) ∧ ∀ x, D.atKey (.int .i64 x) (.lit (.int .i64 0)) = .lit (.int .i64 (cntN x ys))
theorem counts_bump {H : Type} {D : DataW H} {ys : List Note} (h : Counts D ys) (e : Note) (hl : ys.length < 1000000) : Counts (bumpD D e.1.1) (ys ++ [e]) := by
  obtain ⟨⟨es, rfl, hp, hk⟩, hh, hat⟩ := h
  have hm : IsMap (DataW.map es : DataW H) := ⟨es, rfl⟩
  have hc : wrap64 (numD ((DataW.map es : DataW H).atKey (.int .i64 e.1.1) (.lit (.int .i64 0))) + 1) = ((cntN e.1.1 ys + 1 : Nat) : Int) := by
    rw [hat]
    have := cntN_le e.1.1 ys
    show wrap64 ((cntN e.1.1 ys : Int) + 1) = _
    have e1 : wrap64 ((cntN e.1.1 ys : Int) + 1) = (cntN e.1.1 ys : Int) + 1 := IntWalk.wrap64_in _ (by omega)
    rw [e1]; omega
  unfold bumpD
  rw [hc]
  obtain ⟨es', he', hp'⟩ := Tidy.put (H := H) ⟨es, rfl, hp⟩ (k := .int .i64 e.1.1) trivial (.lit (.int .i64 ((cntN e.1.1 ys + 1 : Nat) : Int)))
  refine ⟨⟨es', he', hp', ?_⟩, fun x => ?_, fun x => ?_⟩
  · intro p hpm
    have : p ∈ DataW.insert (Lit.int .i64 e.1.1, (DataW.lit (.int .i64 ((cntN e.1.1 ys + 1 : Nat) : Int)) : DataW H)) (es.filter fun p => !p.1.sameKey (.int .i64 e.1.1)) := by
      have h2 : DataW.map (DataW.insert (Lit.int .i64 e.1.1, (DataW.lit (.int .i64 ((cntN e.1.1 ys + 1 : Nat) : Int)) : DataW H)) (es.filter fun p => !p.1.sameKey (.int .i64 e.1.1))) = DataW.map es' := he'
      injection h2 with h2
      rw [h2]; exact hpm
    rcases ChangeMaps.mem_insert_iff.1 this with rfl | hm2
    · exact ⟨_, rfl⟩
    · exact hk p (List.mem_filter.1 hm2).1
  · by_cases hx : x = e.1.1
    · subst hx
      rw [has_put_same hm (k := .int .i64 e.1.1) trivial]
      exact ⟨fun _ => ⟨e, by simp, rfl⟩, fun _ => rfl⟩
    · rw [has_put_other (fun h => hx (by injection h)), hh]
      constructor
      · rintro ⟨d, hd, h⟩; exact ⟨d, by simp [hd], h⟩
      · rintro ⟨d, hd, h⟩
        rcases List.mem_append.1 hd with hd | hd
        · exact ⟨d, hd, h⟩
        · rw [List.mem_singleton.1 hd] at h; exact absurd h.symm hx
  · rw [cntN_snoc]
    by_cases hx : x = e.1.1
    · subst hx
      rw [atKey_put_same hm (k := .int .i64 e.1.1) trivial, if_pos rfl]
    · rw [atKey_put_other (fun h => hx (by injection h)), hat, if_neg (fun h => hx h.symm), Nat.add_zero]
theorem counts_fold {H : Type} (xs : List Note) : ∀ (D : DataW H) (ys : List Note), Counts D ys → ys.length + xs.length ≤ 1000000 → Counts (xs.foldl (fun D x => bumpD D x.1.1) D) (ys ++ xs) := by
  induction xs with
  | nil => intro D ys h _; simpa using h
  | cons e l ih =>
    intro D ys h hl
    have := ih (bumpD D e.1.1) (ys ++ [e]) (counts_bump h e (by simp at hl; omega)) (by simp at hl ⊢; omega)
    simpa using this
theorem counts_tally {H : Type} (xs : List Note) (hl : xs.length ≤ 1000000) : Counts (tallyD (H := H) xs) xs := by
  have := counts_fold (H := H) xs (.map []) [] ⟨⟨[], rfl, List.Pairwise.nil, by simp⟩, by simp [has_eq], fun x => rfl⟩ (by simpa using hl)
  rw [List.nil_append] at this
  exact this
/-- The keys of the map that counts, sorted, are the nodes. -/
theorem Counts.keys {H : Type} {D : DataW H} {ys : List Note} (h : Counts D ys) : (nodesOf ys).Perm (intKeys D) ∧ Maps.size D = (nodesOf ys).length := by
  obtain ⟨⟨es, rfl, hp, hk⟩, hh, hat⟩ := h
  have hn := nodes_of ys
  have hpm := perm_intKeys hp hk (ss := nodesOf ys) (hn.1.imp (fun h => by omega)) (fun x => (hn.2 x).trans (hh x).symm)
  refine ⟨hpm, ?_⟩
  rw [hpm.length_eq]
  simp [intKeys, Maps.size]
theorem sort_rising {l : List Int} (h : l.Pairwise (· < ·)) : l.mergeSort leI = l := List.mergeSort_of_pairwise (h.imp (fun h => by simp [leI]; omega))
theorem Counts.sorted {H : Type} {D : DataW H} {ys : List Note} (h : Counts D ys) {ss : List Int} (hs : ss.Perm (intKeys D)) : ss.mergeSort leI = nodesOf ys := by
  rw [mergeSort_of_perm_i (hs.trans h.keys.1.symm)]
  exact sort_rising (nodes_of ys).1
end Go.Proofs.Ytjmeeklaclidbaa
