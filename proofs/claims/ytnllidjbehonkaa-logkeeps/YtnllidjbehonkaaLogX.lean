/- Plain words on rows of int: appending one to a row of one's own, and putting a number into a rising row; no conditions. -/
import Derived.Test.YtnllidjbehonkaaLogR
namespace Go.Proofs.Ytnllidjbehonkaa
open Go.ChangeShapes Go.WideShapes Go.ChangeAt Go.RowKit Go.Shelf
set_option linter.unusedVariables false

theorem infoInt : (Try.prog.info? 3).map (fun i => (i.zero, i.size, i.bytes)) = some (some (.int .i64 0), 1, 8) := by kernel_rfl
/-- A row of int that can be read. -/
def Src (W : World) (sv : Value) (ys : List Int) : Prop :=
  (sv = .slice none 0 0 ∧ ys = []) ∨ ∃ b off c, sv = .slice (some ⟨b, off, none⟩) ys.length c ∧ ∀ j, j < ys.length → W.cell? ⟨b, off + j, none⟩ = some (.int .i64 (ys.getD j 0))
theorem run_append_nums {P : Program} (w : World) (base : Nat) (t ty e : TypeId) (i : TypeInfo) (ht : P.underlying t = some (.slice e)) (hi : P.info? e = some i) (hz : i.zero = some (.int .i64 0))
    (hsize : i.size = 1) (hby : i.bytes = 8) (v : Value) (n : Nat) (xs : List Value) (hown : w.ownsRow base e 1 v n xs) (sv : Value) (ys : List Int) (hS : Src w sv ys)
    (h63 : n + ys.length ≤ maxLen) (hbytes : (n + ys.length) * 8 ≤ 140737488355328) (hbase : base ≤ w.heap.size) :
    ∃ v' w', (Builtin.append_ #[t, t] ty #[v, sv]).run P w = .ok v' w' ∧ w'.ownsRow base e 1 v' (n + ys.length) (xs ++ ys.map (Value.int .i64)) ∧ w.grownBy w' v.ownBlock := by
  rcases hS with ⟨rfl, rfl⟩ | ⟨b, off, c, rfl, hc⟩
  · exact ⟨v, w, run_append_owned_none w base t ty e i 1 ht hi v n xs hown, by simpa using hown, ⟨rfl, rfl, rfl, Nat.le_refl _, fun _ _ _ => rfl⟩⟩
  · obtain ⟨v', w', r1, r2, r3, _⟩ := run_append_own (P := P) w base t ty e i (.int .i64 0) 1 8 ht hi hz hsize hby rfl (by decide) v n xs hown ⟨b, off, none⟩ ys.length c (ys.map (Value.int .i64)) (by simp) (fun j u hu => by
      have hj : j < ys.length := by have := (List.getElem?_eq_some_iff.1 hu).1; simpa using this
      rw [add_plain, hc j hj]
      rw [← hu]; simp [hj]) (by simp [Value.oneCell']) h63 hbytes hbase
    exact ⟨v', w', r1, r2, r3⟩
theorem wpList_append_nums {P : Program} (w : World) {ops : Array Oper} {rest : List Oper} {o : Oper} {a : Act} {Q : Exit → Act → World → Prop} (hgd : o.guard = none) (s x : Operand) (t : TypeId)
    (ho : o.op = .call { callee := .builtin .append, args := #[s, x], argTypes := #[t, t] })
    (base : Nat) (e : TypeId) (i : TypeInfo) (ht : P.underlying t = some (.slice e)) (hi : P.info? e = some i) (hz : i.zero = some (.int .i64 0))
    (hsize : i.size = 1) (hby : i.bytes = 8) (v : Value) (n : Nat) (xs : List Value) (hs : a.eval s = v) (hown : w.ownsRow base e 1 v n xs) (sv : Value) (ys : List Int) (hx : a.eval x = sv) (hS : Src w sv ys)
    (h63 : n + ys.length ≤ maxLen) (hbytes : (n + ys.length) * 8 ≤ 140737488355328) (hbase : base ≤ w.heap.size)
    (hK : ∀ v' w', w'.ownsRow base e 1 v' (n + ys.length) (xs ++ ys.map (Value.int .i64)) → w.grownBy w' v.ownBlock → wpList P ops Q rest (a.put o.dst v') w') : wpList P ops Q (o :: rest) a w := by
  obtain ⟨v', w', hrun, r1, r2⟩ := run_append_nums (P := P) w base t o.type e i ht hi hz hsize hby v n xs hown sv ys hS h63 hbytes hbase
  refine wpList_plain hgd fun K hK' => ?_
  unfold Oper.wp
  simp [execOp, ho, resolve, invoke, builtin, hs, hx, hrun, Result.andThen]
  exact hK' _ _ (hK v' w' r1 r2)
/-- Where a number belongs in a rising row. -/
theorem ins_at (x : Int) : ∀ (zs : List Int) (k : Nat), k ≤ zs.length → (∀ j, j < k → zs.getD j 0 < x) → (k < zs.length → ¬ zs.getD k 0 < x) →
    ins x zs = if k < zs.length ∧ zs.getD k 0 = x then zs else zs.take k ++ ([x] ++ zs.drop k)
  | [], k, hk, _, _ => by
    have : k = 0 := by simpa using hk
    subst this; simp [ins]
  | y :: zs, 0, _, _, h2 => by
    have h := h2 (by simp)
    simp at h
    unfold ins
    rw [if_neg (by omega)]
    by_cases hy : y = x
    · simp [hy]
    · simp [hy]
  | y :: zs, k + 1, hk, h1, h2 => by
    have hy : y < x := by simpa using h1 0 (by omega)
    have ih := ins_at x zs k (by simpa using hk) (fun j hj => by simpa using h1 (j + 1) (by omega)) (fun hk' => by simpa using h2 (by simpa using hk'))
    unfold ins
    rw [if_pos hy, ih]
    by_cases hc : k < zs.length ∧ zs.getD k 0 = x
    · rw [if_pos hc, if_pos (by simpa using hc)]
    · rw [if_neg hc, if_neg (by simpa using hc)]; simp
end Go.Proofs.Ytnllidjbehonkaa
