/- A row is appended to a row of one's own, as one step of a region whose order is drawn; no conditions. -/
import Derived.Test.YtgfdfakffkhekabRowG
import Derived.Test.YtgfdfakffkhekabReg
namespace Go.Proofs.Ytgfdfakffkhekab
open Go.ChangeShapes Go.WideShapes Go.ChangeAt Go.RowKit
set_option linter.unusedVariables false
theorem Kind.step_append {α : Type} (K : Kind α) {P : Program} (w : World) {ops : Array Oper} {o : Oper} {a : Act} {Kc : Act → World → Prop} {Q : Exit → Act → World → Prop} {E : Prop} (hgd : o.guard = none) (s x : Operand) (t : TypeId)
    (ho : o.op = .call { callee := .builtin .append, args := #[s, x], argTypes := #[t, t] })
    (base : Nat) (e : TypeId) (i : TypeInfo) (z : Value) (bytes : Nat) (ht : P.underlying t = some (.slice e)) (hi : P.info? e = some i) (hz : i.zero = some z)
    (hsize : i.size = K.k) (hby : i.bytes = bytes) (hzs : z.cells.size = K.k) (v : Value) (n : Nat) (xs : List Value) (hs : a.eval s = v) (hown : w.ownsRow base e K.k v n xs) {n₀ : Nat} (sv : Value) (es : List α) (hx : a.eval x = sv) (hE : K.Lies n₀ w sv es)
    (h63 : n + es.length ≤ maxLen) (hbytes : (n + es.length) * bytes ≤ 140737488355328) (hbase : base ≤ w.heap.size)
    (hK : ∀ v' w', w'.ownsRow base e K.k v' (n + es.length) (xs ++ K.flat es) → w.grownBy w' v.ownBlock → (v'.ownBlock = v.ownBlock ∨ v'.ownBlock = some w.heap.size) → Kc (a.put o.dst v') w') :
    if Region.wanted o (yielded ops a.tmps) = true then Oper.wp P o a w Kc Q else E := by
  have hw : Region.wanted o (yielded ops a.tmps) = true := by simp [Region.wanted, hgd]
  rw [if_pos hw]
  obtain ⟨v', w', hrun, r1, r2, r3⟩ := K.run_append (P := P) w base t o.type e i z bytes ht hi hz hsize hby hzs v n xs hown sv es hE h63 hbytes hbase
  unfold Oper.wp
  simp [execOp, ho, resolve, invoke, builtin, hs, hx, hrun, Result.andThen]
  exact hK v' w' r1 r2 r3
/-- A world behind another one in which a number still stands at its place. -/
structure RSt (n3 : Nat) (wX : World) (vb vo : Nat) (kv : Int) (V : World) : Prop where
  chn : Chn n3 wX V
  lt : vb < V.heap.size
  cell : V.cell? ⟨vb, vo, none⟩ = some (.int .i64 kv)
theorem RSt.of_chn {n3 : Nat} {wX : World} {vb vo : Nat} {kv : Int} {W V : World} (h : RSt n3 wX vb vo kv W) (hc : Chn W.heap.size W V) : RSt n3 wX vb vo kv V :=
  ⟨h.chn.below hc.out, Nat.lt_of_lt_of_le h.lt hc.le, (hc.out.cell (p := ⟨vb, vo, none⟩) h.lt).trans h.cell⟩
theorem RSt.grown {n3 : Nat} {wX : World} {vb vo : Nat} {kv : Int} {W V : World} {b : Option Nat} (h : RSt n3 wX vb vo kv W) (hg : W.grownBy V b) (hb : ∀ g, b = some g → n3 ≤ g) (hne : b ≠ some vb) : RSt n3 wX vb vo kv V := by
  refine ⟨⟨h.chn.1.grown hg h.chn.2 hb, Nat.le_trans h.chn.2 hg.size⟩, Nat.lt_of_lt_of_le h.lt hg.size, ?_⟩
  have hk := hg.block vb h.lt (fun e => hne e.symm)
  have : V.cell? ⟨vb, vo, none⟩ = W.cell? ⟨vb, vo, none⟩ := by simp only [World.cell?, hk]
  rw [this]
  exact h.cell
end Go.Proofs.Ytgfdfakffkhekab
