/- Several texts of one's own in one: what each proves, and its conditions, is said ahead of it. -/
import Derived.Test.YtcfakhfipdjnmaaBc
import Derived.RangeFuncNested
import Derived.RangeFuncBound
import Derived.RangeFuncCalls
import Derived.RangeFuncLeaves
import Derived.Shelf.Abstract
import Derived.Shelf.RegionOpen
import Derived.OwnWalkIn
import Derived.TacticsInMore
import Derived.LoopNIn
import Derived.LoopIn
import Derived.Test.YtcfakhfipdjnmaaBa
import Derived.Test.YtcfakhfipdjnmaaBd
import Derived.Maps.AppendAt
import Derived.Lib.SliceRun
import Derived.Deep.SlicePairs

/- The fixed configuration of the statements, and what is plain of it; no conditions. -/
namespace Go.Proofs.Ytcfakhfipdjnmaa
open Go.ChangeShapes Go.WideShapes Go.ChangeAt Go.RowKit
set_option linter.unusedVariables false

theorem Tab.four (w : World) (t : TypeId) (g : Nat) (hg : g = w.heap.size) : Tab (w.alloc (.cells #[.int .i64 0, .int .i64 1, .int .i64 2, .int .i64 3] t)) (some ⟨g, 0, none⟩) [0, 1, 2, 3] := by
  subst hg
  intro i hi
  refine ⟨_, rfl, ?_⟩
  have hi' : i = 0 ∨ i = 1 ∨ i = 2 ∨ i = 3 := by simp at hi; omega
  rcases hi' with rfl | rfl | rfl | rfl <;> exact World.cell?_alloc_mark w _ t _ _
theorem Tab.none (w : World) : Tab w none [] := fun i hi => absurd hi (Nat.not_lt_zero _)
theorem plainE_small : plainE 4 1 1 20 64 1 64 190 10 3 [0, 1, 2, 3] = 0 := by decide
theorem plainE_zero : plainE 0 0 0 0 0 0 0 0 0 0 [] = 7 := by decide
/-- The same call, where the answer is spelt otherwise. -/
theorem Calls.ret_to {P : Program} {F : FuncId} {args : Array Value} {w : World} {v u : Value} (h : Calls P F args w fun e w' => e = .returned v ∧ Below w.heap.size w w') (e : v = u) : Calls P F args w fun e w' => e = .returned u ∧ Below w.heap.size w w' := by
  rw [← e]; exact h
theorem val_i {a b : Int} (h : a = b) : Value.int .i64 a = .int .i64 b := by rw [h]
end Go.Proofs.Ytcfakhfipdjnmaa

/- A law of one's own on ranges over a function whose rounds all go on: the function hands so many rounds what a number gives, and what the rounds keep is counted by their number; conditions: no round leaves the loop. -/
namespace Go.Proofs.Ytcfakhfipdjnmaa
open Go.ChangeShapes Go.WideShapes Go.ChangeAt Go.RowKit Go.Shelf
set_option linter.unusedVariables false

theorem from_up {B C : Nat} {X Y : World} (h : KeepsFrom B X Y) (k : B ≤ C) : KeepsFrom C X Y := ⟨h.size, fun i o hi => h.same i o (Nat.le_trans k hi)⟩
theorem own_up {β : Type} {B C : Nat} {I : β → World → Prop} (h : OwnFrom B I) (k : B ≤ C) : OwnFrom C I := fun s X Y row hs hg hr => h s X Y row hs hg (fun r e => ⟨Nat.le_trans k (hr r e).1, (hr r e).2⟩)
theorem from_put {C l : Nat} {X : World} (o : Obj) (h : l < C) : KeepsFrom C X (X.putObj l o) := KeepsFrom.of_grownBy (grownBy_putObj' X l o) (fun j e => by cases e; exact h)
theorem below_grown {X Y : World} (h : Below X.heap.size X Y) : X.grownBy Y none := ⟨h.os, h.tape, h.output, h.size, fun k hk _ => h.block k hk⟩
theorem own_below' {β : Type} {B : Nat} {I : β → World → Prop} (h : OwnFrom B I) {s : β} {X Y : World} (hs : I s X) (hb : Below X.heap.size X Y) : I s Y := h s X Y none hs (below_grown hb) (fun r e => by cases e)
theorem own_put {β : Type} {B D : Nat} {I : β → World → Prop} (h : OwnFrom B I) {s : β} {X : World} (hs : I s X) (hB : B ≤ D) (hK : X.heap[D]? = some (.deferred (some []))) : I s (X.putObj D (.deferred none)) := h.putObj _ hs hB hK rfl
theorem cells_own {β : Type} (B b : Nat) (C : Array Value) (t : TypeId) : OwnFrom B (fun (_ : β) W => W.heap[b]? = some (.cells C t (0, 0))) := fun s X Y row hs hg hr =>
  (hg.block b (Array.getElem?_eq_some_iff.1 hs).1 (fun e => by obtain ⟨_, o, ho, hc⟩ := hr b e.symm; rw [hs] at ho; cases ho; cases hc)).trans hs
/-- A round is a round at any depth, and within another loop's round. -/
theorem round_any {m m' l l2 : Nat} {f : FuncId} {tmps : Array Value} {assign body : Code} {w : World} {R : Ending → World → Prop} (h : RoundIn Fence.wide m Try.prog l f tmps assign body w R) : RoundIn (Fence.wide.inRound l2) m' Try.prog l f tmps assign body w R := ⟨h.1, fun c cs _ => h.2 c cs (fun d hd => by cases hd)⟩
theorem round_dep {m m' l : Nat} {f : FuncId} {tmps : Array Value} {assign body : Code} {w : World} {R : Ending → World → Prop} (h : RoundIn Fence.wide m Try.prog l f tmps assign body w R) : RoundIn Fence.wide m' Try.prog l f tmps assign body w R := ⟨h.1, fun c cs _ => h.2 c cs (fun d hd => by cases hd)⟩
/-- A region whose order is drawn goes in a loop's round as it goes elsewhere, where nothing in it is deferred. -/
theorem op_round {P : Program} {n l : Nat} {ops : Array Oper} {Q : Exit → Act → World → Prop} {i : Nat} {K : Act → World → Prop} {a : Act} {w : World} (hd : ∀ o, ops[i]? = some o → ∀ c, o.op ≠ .defer c) (h : wpOpIn Fence.wide n P ops Q i K a w) : wpOpIn (Fence.wide.inRound l) n P ops Q i K a w := by
  unfold wpOpIn at h ⊢
  cases ho : ops[i]? with
  | none =>
    rw [ho] at h
    exact h
  | some o =>
    rw [ho] at h
    simp only at h ⊢
    by_cases hw : Region.wanted o (yielded ops a.tmps) = true
    · rw [if_pos hw] at h ⊢
      unfold Oper.wpIn at h ⊢
      refine ⟨fun f hf => trivial, ?_⟩
      have h2 := h.2
      rw [show (Fence.wide.inRound l).round = some l from rfl, Oper.semAt_some l a.eval o (hd o ho)]
      exact h2
    · rw [if_neg hw] at h ⊢
      exact ⟨fun f hf => trivial, h.2⟩
theorem any_round {P : Program} {n l : Nat} {md : Region.Mode} {ops : Array Oper} {Q : Exit → Act → World → Prop} (hd : ∀ (i : Nat) (o : Oper), ops[i]? = some o → ∀ c : Call, o.op ≠ Op.defer c) : ∀ (fuel : Nat) (listed : Array Bool) (a : Act) (w : World), wpAnyIn Fence.wide n P md ops Q fuel listed a w → wpAnyIn (Fence.wide.inRound l) n P md ops Q fuel listed a w
  | 0, _, _, _, h => h
  | fuel + 1, listed, a, w, h => ⟨h.1, fun i hi => wpOpIn_mono (fun a' w' h' => any_round hd fuel _ a' w' h') (op_round (hd i) (h.2 i hi))⟩
theorem no_defer {ops : Array Oper} (h : ops.toList.all (fun o => match o.op with | .defer _ => false | _ => true) = true) (i : Nat) (o : Oper) (ho : ops[i]? = some o) (c : Call) : o.op ≠ Op.defer c := by
  intro e
  have hm : o ∈ ops.toList := by
    rw [← Array.getElem?_toList] at ho
    exact List.mem_of_getElem? ho
  have := List.all_eq_true.1 h o hm
  rw [e] at this
  cases this
/-- A function that hands R values to the rounds of its loop, one after another. -/
def Gives (m gf : Nat) (lb : Array Value) (R : Nat) (encs : Nat → Array Value) (Kp : World → World → Prop) (w : World) : Prop :=
  ∀ (l : Nat) (J : Nat → World → Prop) (W : World), Below w.heap.size w W → OwnFrom W.heap.size J →
    (∀ k V, k < R → J k V → YieldAt Fence.wide (m - 1) Try.prog l (encs k) V fun e V' => e = .returned (.bool true) ∧ J (k + 1) V' ∧ Kp V V' ∧ KeepsFrom W.heap.size V V') →
    J 0 W → CallsIn Fence.wide m Try.prog gf (#[.func (.yield l) #[] #[]] ++ lb) W fun e W' => (∃ v, e = .returned v) ∧ J R W'
/-- A round that goes on. -/
def goesOn (B : Nat) (Kp : World → World → Prop) (J : World → Prop) (W : World) : Exit → Act → World → Prop
  | .normal, _, W' => KeepsFrom B W W' ∧ Kp W W' ∧ J W'
  | .ret, _, _ => False
  | .exit _, _, _ => False
  | .goto _, _, _ => False
  | .panic _, _, _ => False
  | .outgrown, _, _ => False
theorem rf_gives {g : Operand} {ps : Array Tmp} {assign body : Code} {Q : Exit → Act → World → Prop} {a : Act} {w : World} {m gf : Nat} {lb : Array Value} {R : Nat} {encs : Nat → Array Value} {Kp : World → World → Prop} {w0 : World}
    (hg : a.eval g = .func (.func gf) #[] lb) (eg : Enters Try.prog gf) (hseq : Gives (m - 1) gf lb R encs Kp w0) (hb0 : Below w0.heap.size w0 w) (hps : ∀ k, (encs k).size = ps.size)
    (hKt : ∀ {A B C : World}, Kp A B → Kp B C → Kp A C) (hKb : ∀ (W : World) (l : Nat) (o o' : Obj), w.heap.size ≤ l → W.heap[l]? = some o → o.isCells = false → Kp W (W.putObj l o'))
    (I : Nat → World → Prop) (hI : OwnFrom w.heap.size I) (h0 : I 0 w) (a₁ : Nat → Act)
    (hassign : ∀ (l k : Nat) (W : World) (K : Act → World → Prop), K (a₁ k) W → assign.wpIn (Fence.wide.inRound l) (m - 1 - 1) Try.prog (Exit.then K (fun _ _ _ => False)) { tmps := (ps.zip (encs k)).foldl (fun t (p, v) => t.setIfInBounds p v) a.tmps, defers := [] } W)
    (hbody : ∀ (l k : Nat) (W : World), w.heap.size ≤ l → k < R → I k W → body.wpIn (Fence.wide.inRound l) (m - 1 - 1) Try.prog (goesOn w.heap.size Kp (I (k + 1)) W) (a₁ k) W)
    (hdone : ∀ (D : Nat) (W : World), w.heap.size ≤ D → I R W → W.heap[D]? = some (.deferred (some [])) → Q .normal { a with defers := { target := .collected D, args := #[] } :: a.defers } W) :
    (Code.rangeFunc g ps assign body).wpIn Fence.wide m Try.prog Q a w := by
  refine wpIn_rangeFunc fun fn hfn => ?_
  obtain ⟨rec, hrec⟩ : ∃ rec : LoopState → Loop, rec = fun st => { state := st, pending := none, fn, tmps := a.tmps, params := ps, assign, body, defers := w.heap.size } := ⟨_, rfl⟩
  have hst : ∀ st st', { rec st with state := st' } = rec st' := fun st st' => by rw [hrec]
  have hne : ∀ st, (rec st).state = st := fun st => by rw [hrec]
  obtain ⟨V1, hV1⟩ : ∃ V1, (w.alloc (.deferred (some []))).alloc (.loop (rec .ready)) = V1 := ⟨_, rfl⟩
  have s1 : V1.heap.size = w.heap.size + 1 + 1 := by rw [← hV1]; simp
  have kl : V1.heap[w.heap.size + 1]? = some (.loop (rec .ready)) := by
    have h := World.alloc_heap_new (w.alloc (.deferred (some []))) (.loop (rec .ready))
    rw [← hV1]
    rwa [World.size_alloc] at h
  have kd : V1.heap[w.heap.size]? = some (.deferred (some [])) := by
    rw [← hV1]
    exact (Below.heap_alloc _ _ _ (by simp)).trans (World.alloc_heap_new w _)
  have i1 : I 0 V1 := by
    rw [← hV1]
    exact hI.alloc _ (hI.alloc _ h0)
  have bl : Below w0.heap.size w0 V1 := by
    rw [← hV1]
    exact bthen (bthen hb0 (ballc w _)) (ballc _ _)
  refine ⟨w.heap.size + 1, [{ target := .collected w.heap.size, args := #[] }], V1, { target := .fn (.func gf) lb, args := #[.func (.yield (w.heap.size + 1)) #[] #[]] }, V1, gf, #[.func (.yield (w.heap.size + 1)) #[] #[]] ++ lb, V1, ?enter, ?res, fun _ _ => trivial, ?inv, fun h => (by cases h), ?calls⟩
  case enter =>
    rw [← hV1, hrec]
    exact run_enterLoop_outer fn a.tmps ps assign body
  case res =>
    simp only [resolve, hg]
    simp [go_sem]
  case inv =>
    unfold Enters at eg
    simp [invoke, go_sem, eg]
  case calls =>
    have hJ : OwnFrom V1.heap.size (fun k W => I k W ∧ W.heap[w.heap.size + 1]? = some (.loop (rec .ready)) ∧ W.heap[w.heap.size]? = some (.deferred (some []))) := by
      intro k X Y row hs hgr hr
      have hx : ∀ j, j < V1.heap.size → some j ≠ row := fun j hj e => by have := (hr j e.symm).1; omega
      exact ⟨own_up hI (by omega) k X Y row hs.1 hgr hr, (hgr.block _ (Array.getElem?_eq_some_iff.1 hs.2.1).1 (hx _ (by omega))).trans hs.2.1, (hgr.block _ (Array.getElem?_eq_some_iff.1 hs.2.2).1 (hx _ (by omega))).trans hs.2.2⟩
    refine (hseq (w.heap.size + 1) _ V1 bl hJ ?round ⟨i1, kl, kd⟩).mono ?after
    case round =>
      rintro k V hk ⟨hi, hl, hd⟩
      have lt : w.heap.size + 1 < V.heap.size := (Array.getElem?_eq_some_iff.1 hl).1
      have hy := run_yield (P := Try.prog) (args := encs k) hl (by rw [hrec]; exact hps k)
      rw [hrec] at hy
      refine ⟨fn, _, assign, body, hy, roundIn_of_wpIn hfn (hassign _ k V _ ⟨_, run_beginRound hl (hne _), ?_⟩)⟩
      rw [hst]
      have l2 : (V.putObj (w.heap.size + 1) (.loop (rec .busy))).heap[w.heap.size + 1]? = some (.loop (rec .busy)) := World.putObj_heap_same lt
      have d2 : (V.putObj (w.heap.size + 1) (.loop (rec .busy))).heap[w.heap.size]? = some (.deferred (some [])) := (World.putObj_heap_other (by omega)).trans hd
      refine wpIn_mono (hbody _ k _ (by omega) hk (hI.putObj _ hi (by omega) hl rfl)) ?_
      intro e a3 V3 hp
      cases e with
      | normal =>
        obtain ⟨f3, p3, i3⟩ := hp
        have l3 := f3.same _ _ (by omega) l2 rfl
        have d3 := f3.same _ _ (Nat.le_refl _) d2 rfl
        have hend := run_endRound (P := Try.prog) none l3
        refine ⟨_, _, hend, rfl, ⟨hI.putObj _ i3 (by omega) l3 rfl, ?_, (World.putObj_heap_other (by omega)).trans d3⟩, hKt (hKt (hKb _ _ _ _ (by omega) hl rfl) p3) (hKb _ _ _ _ (by omega) l3 rfl), ?_⟩
        · rw [World.putObj_heap_same (Array.getElem?_eq_some_iff.1 l3).1, hrec]
          rfl
        · exact ((from_put _ (by omega)).trans (from_up f3 (by omega))).trans (from_put _ (by omega))
      | ret => exact hp.elim
      | exit id => exact hp.elim
      | goto t => exact hp.elim
      | panic ch => exact hp.elim
      | outgrown => exact hp.elim
    case after =>
      rintro e V2 ⟨⟨v, rfl⟩, hi, hl, hd⟩
      refine ⟨none, _, ?_, hdone w.heap.size _ (Nat.le_refl _) (hI.putObj (.loop (rec .exhausted)) hi (by omega) hl rfl) ((World.putObj_heap_other (by omega)).trans hd)⟩
      have h := run_endLoop (P := Try.prog) hl (by rw [hne]; decide)
      rw [hst] at h
      rw [h, hrec]
end Go.Proofs.Ytcfakhfipdjnmaa

/- The call Owned of package sched hands back an iterator over a copy of the table, which hands every round a slot that the node owns, rising; conditions: the table lies where it says, and its length fits int. -/
namespace Go.Proofs.Ytcfakhfipdjnmaa
open Go.ChangeShapes Go.WideShapes Go.ChangeAt Go.RowKit Go.Shelf
set_option linter.unusedVariables false
attribute [local go_sem] Oper.semAt_some

/-- The table of what is plain, nothing else. -/
def tabF (E : Int) (zs : List Int) : List Int := if E = 0 then zs else []
theorem tabF_ok (zs : List Int) : tabF 0 zs = zs := if_pos rfl
theorem tabF_err {E : Int} {zs : List Int} (h : ¬ E = 0) : tabF E zs = [] := if_neg h
theorem ownedF_tab (E : Int) (zs : List Int) (node : Int) : ownedF E zs node = ownL (tabF E zs) node (tabF E zs).length := by
  by_cases h : E = 0
  · subst h; rw [tabF_ok, ownedF_ok]
  · rw [tabF_err h, ownedF_err h]; rfl
theorem tabF_len {E : Int} {zs : List Int} : (tabF E zs).length ≤ zs.length := by
  by_cases h : E = 0
  · subst h; rw [tabF_ok]; exact Nat.le_refl _
  · rw [tabF_err h]; exact Nat.zero_le _

theorem Clone_none (w : World) :
    Calls Try.prog 43 #[.slice none 0 0] w fun r w' => r = .returned (.slice none 0 0) ∧ w' = w := by
  have hnil := fun a n c => Go.Lib.run_eql_slice_nil (P := Try.prog) w 22 3 a n c 0 0 Try.underlying22
  go_enter Try.func43, Try.ntmps43
  go_wp2
  go_ret
  exact ⟨rfl, rfl⟩
theorem tab_cells {w : World} {a : Addr} {zs : List Int} (hT : Tab w (some a) zs) : ∀ j u, (kInt.flat zs)[j]? = some u → w.cell? (a.add j) = some u := by
  intro j u hu
  rw [kInt_flat, List.getElem?_map] at hu
  have hj : j < zs.length := by
    by_cases h : j < zs.length
    · exact h
    · rw [List.getElem?_eq_none (by omega)] at hu; cases hu
  rw [List.getElem?_eq_getElem hj] at hu
  have h := hT.at j hj
  rw [h, ← hu]
  simp [hj]
theorem Clone_some (a : Addr) (cap : Nat) (zs : List Int) (hlen : zs.length ≤ 1000000) (w : World) (hT : Tab w (some a) zs) :
    Calls Try.prog 43 #[.slice (some a) zs.length cap] w fun r w' => ∃ v, r = .returned v ∧ w'.ownsRow w.heap.size 3 1 v zs.length (kInt.flat zs) ∧ Below w.heap.size w w' := by
  obtain ⟨i0, hi, hz0, hz1, hz2⟩ := info_of infoInt
  have hnil := fun a n c => Go.Lib.run_eql_slice_nil (P := Try.prog) w 22 3 a n c 0 0 Try.underlying22
  have hB0 : Below w.heap.size w (w.alloc (.cells #[] 3)) := ballc _ _
  have hown0 : (w.alloc (.cells #[] 3)).ownsRow w.heap.size 3 1 (.slice (some ⟨w.heap.size, 0, none⟩) 0 0) 0 [] := World.ownsRow_lit w #[] 0 (Nat.le_refl _) (Nat.zero_le _) rfl
  have hC := tab_cells (hT.below hB0)
  have HT := hidden hT
  clear hT
  go_enter Try.func43, Try.ntmps43
  go_wp2_with (at_builtin; refine wpList_append_own_at _ rfl _ _ 22 rfl w.heap.size 3 i0 (.int .i64 0) 1 8 Try.underlying22 hi hz0 hz1 hz2 rfl (by decide) (.slice (some ⟨w.heap.size, 0, none⟩) 0 0) 0 [] rfl hown0 a zs.length cap (kInt.flat zs) rfl (by rw [Kind.flat_length]; rfl) hC (kInt.flat_one zs) (by simp only [maxLen]; omega) (by omega) (by simp) ?_; intro v1 w1 hown1 hgrow1 _ _)
  go_ret
  exact ⟨v1, rfl, by simpa using hown1, hB0.grown hgrow1 hB0.size (fun k h => by simp [Value.ownBlock] at h; omega)⟩

set_option maxHeartbeats 1000000 in
theorem Owned_any (n f d p r dr o sl md fr : Int) (ad : Option Addr) (cap : Nat) (zs : List Int) (node : Int) (w : World) (hl : zs.length ≤ 9223372036854775807) (hT : Tab w ad zs) :
    Calls Try.prog 17 #[.agg #[.int .i64 n, .int .i64 f, .int .i64 d, .int .i64 p, .int .i64 r, .int .i64 dr, .int .i64 o, .int .i64 sl, .int .i64 md, .int .i64 fr, .slice ad zs.length cap], .int .i64 node] w fun e w' => ∃ gt gn ad' cap', e = .returned (.func (.func 44) #[] #[.pointer (some ⟨gt, 0, none⟩), .pointer (some ⟨gn, 0, none⟩)]) ∧ w'.heap[gt]? = some (.cells #[.slice ad' (tabF (plainE n f d p r dr o sl md fr zs) zs).length cap'] 22 (0, 0)) ∧ w'.heap[gn]? = some (.cells #[.int .i64 node] 3 (0, 0)) ∧ kInt.Lies w'.heap.size w' (.slice ad' (tabF (plainE n f d p r dr o sl md fr zs) zs).length cap') (tabF (plainE n f d p r dr o sl md fr zs) zs) ∧ Below w.heap.size w w' := by
  have HT := hidden (hT.below (Joins.below_alloc2 w (.cells #[.int .i64 n, .int .i64 f, .int .i64 d, .int .i64 p, .int .i64 r, .int .i64 dr, .int .i64 o, .int .i64 sl, .int .i64 md, .int .i64 fr, .slice ad zs.length cap] 24) (.cells #[.int .i64 node] 3)))
  have HO := hidden (owners_any n f d p r dr o sl md fr ad cap zs ((w.alloc (.cells #[.int .i64 n, .int .i64 f, .int .i64 d, .int .i64 p, .int .i64 r, .int .i64 dr, .int .i64 o, .int .i64 sl, .int .i64 md, .int .i64 fr, .slice ad zs.length cap] 24)).alloc (.cells #[.int .i64 node] 3)) hl HT.out)
  have HN := hidden (blk_newAt (w.alloc (.cells #[.int .i64 n, .int .i64 f, .int .i64 d, .int .i64 p, .int .i64 r, .int .i64 dr, .int .i64 o, .int .i64 sl, .int .i64 md, .int .i64 fr, .slice ad zs.length cap] 24)) #[.int .i64 node] 3 (b := w.heap.size + 1) (by simp))
  have HB0 := hidden (Joins.below_alloc2 w (.cells #[.int .i64 n, .int .i64 f, .int .i64 d, .int .i64 p, .int .i64 r, .int .i64 dr, .int .i64 o, .int .i64 sl, .int .i64 md, .int .i64 fr, .slice ad zs.length cap] 24) (.cells #[.int .i64 node] 3))
  clear hT
  by_cases hE : plainE n f d p r dr o sl md fr zs = 0
  · obtain ⟨_, _, _, _, _, _, _, _, _, _, _, _, _, _, _, _, _, _, _, _, _, z1, z2, _⟩ := plainE_ok hE
    rw [if_pos hE] at HO
    have hz := tabF_ok zs
    rw [hE, hz]
    clear hE hz
    obtain ⟨a, rfl, _⟩ := HT.out 0 (by omega)
    go_enter Try.func17, Try.ntmps17
    go_wp2_with fail
    refine HO.out.mono ?_
    rintro e w2 ⟨rfl, hb2⟩
    have HB2 := hidden (bthen HB0.out hb2)
    have HN2 := hidden (blk_later HN.out hb2)
    have HT2 := hidden (HT.out.below hb2)
    clear hb2
    go_wp2_with fail
    refine (Clone_some a cap zs (by omega) w2 HT2.out).mono ?_
    rintro e w3 ⟨v, rfl, hown, hb3⟩
    obtain ⟨a3, c3, rfl⟩ := own_slice hown
    have HL := hidden (Kind.Lies.of_own (K := kInt) (es := zs) hown)
    have HB3 := hidden (bthen HB2.out hb3)
    have HN3 := hidden (blk_later HN2.out hb3)
    clear hb3 hown
    go_wp2
    go_ret
    exact ⟨w3.heap.size, w.heap.size + 1, a3, c3, rfl, blk_nw w3 _ _, blk_later HN3.out (ballc _ _), HL.out.later (ballc _ _), bthen HB3.out (ballc _ _)⟩
  · rw [if_neg hE] at HO
    have hz := tabF_err (zs := zs) hE
    rw [hz]
    clear hE hz
    go_enter Try.func17, Try.ntmps17
    go_wp2_with fail
    refine HO.out.mono ?_
    rintro e w2 ⟨rfl, hb2⟩
    have HB2 := hidden (bthen HB0.out hb2)
    have HN2 := hidden (blk_later HN.out hb2)
    clear hb2
    go_wp2_with fail
    refine (Clone_none w2).mono ?_
    rintro e w3 ⟨rfl, rfl⟩
    go_wp2
    go_ret
    exact ⟨w3.heap.size, w.heap.size + 1, none, 0, rfl, blk_nw w3 _ _, blk_later HN2.out (ballc _ _), Kind.Lies.nil _ _, bthen HB2.out (ballc _ _)⟩

set_option maxRecDepth 100000 in
set_option maxHeartbeats 2000000 in
theorem owned1_in (ls : List Int) (node : Int) (hlen : ls.length ≤ 1000000) (m : Nat) (hm : 1 ≤ m) (l gt gn n₀ : Nat) (ad : Option Addr) (cap : Nat) (J Jx : List Nat → World → Prop)
    (hY : ∀ (pre : List Nat) (x : Nat) (W : World), J pre W → pre.length < ls.length → YieldAt Fence.wide (m - 1) Try.prog l #[.int .i64 (x : Int)] W fun e W' =>
      (e = .returned (.bool true) ∧ J (pre ++ [x]) W' ∧ Below n₀ W W') ∨ (e = .returned (.bool false) ∧ Jx (pre ++ [x]) W'))
    (W : World) (b1 : W.heap[gt]? = some (.cells #[.slice ad ls.length cap] 22 (0, 0))) (b2 : W.heap[gn]? = some (.cells #[.int .i64 node] 3 (0, 0))) (h2 : gn < n₀) (hE : kInt.Lies n₀ W (.slice ad ls.length cap) ls) (h0 : J [] W) :
    CallsIn Fence.wide m Try.prog 44 #[.func (.yield l) #[] #[], .pointer (some ⟨gt, 0, none⟩), .pointer (some ⟨gn, 0, none⟩)] W fun e W' => (∃ v, e = .returned v) ∧
      ((∃ ys, ys = ownL ls node ls.length ∧ J ys W') ∨ (∃ pre, pre <+: ownL ls node ls.length ∧ Jx pre W')) := by
  have c1 := blk_cell b1 0
  have HK := hidden b2
  have HE := hidden hE
  clear b2 hE
  refine callsIn_of_wp Try.func44 rfl trivial ?_ rfl
  simp only [Try.ntmps44, List.size_toArray, List.length_cons, List.length_nil, Nat.reduceAdd, Nat.reduceSub, Array.replicate_succ, Array.replicate_zero, List.push_toArray, List.append_toArray, List.nil_append, List.cons_append]
  gi_wp2
  clear c1 b1
  gi_loopw [8] (fun i wr => ∃ k : Nat, k ≤ ls.length ∧ i = .int .i64 k ∧ J (ownL ls node k) wr ∧ Below n₀ W wr)
    (fun i _ => ls.length - (intV i).toNat)
  case atStart => exact ⟨0, Nat.zero_le _, rfl, h0, Below.refl _ _⟩
  case round =>
    obtain ⟨k, hk, rfl, hJs, hB⟩ := hrel
    by_cases hlt : k < ls.length
    · have hb2 : wr.heap[gn]? = some (.cells #[.int .i64 node] 3 (0, 0)) := (hB.block gn h2).trans HK.out
      have c2 := blk_cell hb2 0
      obtain ⟨b, off, rfl, hbl, e0⟩ := kInt_at HE.out k hlt
      have f0 := (hB.cell (p := ⟨b, off + k, none⟩) hbl).trans e0
      have hgd : ls.getD k 0 = ls[k] := by simp [hlt]
      have hyes := fun h => ownL_yes (zs := ls) (node := node) (k := k) h
      have hno := fun h => ownL_no (zs := ls) (node := node) (k := k) h
      rw [hgd] at hyes hno
      have hll := ownL_len ls node k
      have hpre := ownL_pre ls node (k := k + 1) (m := ls.length) (by omega)
      have HY := hidden hyes
      have HN := hidden hno
      have HP := hidden hpre
      have i1 : (0 : Int) ≤ (k : Int) := by omega
      have i2 : (k : Int) < (ls.length : Int) := by omega
      obtain ⟨fn, tmps, assign, body, hy, hRd⟩ := hY (ownL ls node k) k wr hJs (by omega)
      clear hgd hyes hno hpre e0 hY hb2 h0 hll
      generalize ls[k] = z at *
      by_cases hz : z = node
      · have j : (z == node) = true := by simp [hz]
        gi_wp2
        refine hRd.mono ?_
        rintro e W3 (⟨rfl, hJ3, hk3⟩ | ⟨rfl, hJx3⟩)
        · gi_wp2
          go_roundw
          case rel => exact ⟨k + 1, by omega, by simp, by rw [HY.out j]; exact hJ3, hB.trans hk3⟩
          case measure => simp [intV]; omega
        · gi_wp2
          refine bodyPost_ret (results_none rfl _ _ _) rfl ?_
          exact ⟨⟨_, rfl⟩, .inr ⟨_, by rw [← HY.out j]; exact HP.out, hJx3⟩⟩
      · have j : (z == node) = false := by simp [hz]
        gi_wp2
        refine ⟨fun _ h => (by cases h), ?_⟩
        gi_wp2
        go_roundw
        case rel => exact ⟨k + 1, by omega, by simp, by rw [HN.out j]; exact hJs, hB⟩
        case measure => simp [intV]; omega
    · obtain rfl : k = ls.length := by omega
      gi_wp2
      go_end0
      exact ⟨⟨_, rfl⟩, .inl ⟨_, rfl, hJs⟩⟩

/-- The iterator's contract. -/
theorem owned_stops (ls : List Int) (node : Int) (hlen : ls.length ≤ 1000000) (m : Nat) (hm : 1 ≤ m) (gt gn n₀ : Nat) (ad : Option Addr) (cap : Nat) (w : World) (hn₀ : n₀ ≤ w.heap.size)
    (b1 : w.heap[gt]? = some (.cells #[.slice ad ls.length cap] 22 (0, 0))) (b2 : w.heap[gn]? = some (.cells #[.int .i64 node] 3 (0, 0))) (h2 : gn < n₀) (hE : kInt.Lies n₀ w (.slice ad ls.length cap) ls) :
    SeqStopsK Fence.wide m Try.prog 44 #[.pointer (some ⟨gt, 0, none⟩), .pointer (some ⟨gn, 0, none⟩)] (fun x : Nat => #[.int .i64 (x : Int)]) (Below n₀) (fun ys => ys = ownL ls node ls.length) (fun pre => pre <+: ownL ls node ls.length) ls.length w := fun l J Jx W hW hJ _ hY h0 =>
  owned1_in ls node hlen m hm l gt gn n₀ ad cap J Jx hY W ((hW.block gt (Array.getElem?_eq_some_iff.1 b1).1).trans b1) ((hW.block gn (Array.getElem?_eq_some_iff.1 b2).1).trans b2) h2 (hE.below (hW.mono hn₀)) h0
end Go.Proofs.Ytcfakhfipdjnmaa

/- The call Due of package sched returns the first slot of a node's that is due, and makes at most new memory; conditions: the table lies where it says, its length, the text's length and the numbers fit int. -/
namespace Go.Proofs.Ytcfakhfipdjnmaa
open Go.ChangeShapes Go.WideShapes Go.ChangeAt Go.RowKit Go.Shelf
set_option linter.unusedVariables false
attribute [local go_sem] Oper.semAt_some

theorem sblk_own {β : Type} (B : Nat) (C : Array Value) (t : TypeId) : Own (fun (_ : β) W => W.heap[B]? = some (.cells C t (0, 0))) := fun s X Y row hs hg hrow =>
  (hg.block B (blk_lt hs) (fun e => by obtain ⟨o, ho, hc⟩ := hrow B e.symm; rw [hs] at ho; cases ho; cases hc)).trans hs
theorem none_snoc {p : Nat → Bool} {l : List Nat} {x : Nat} (h : ∀ z ∈ l, p z = false) (hx : p x = false) : ∀ z ∈ l ++ [x], p z = false := by
  intro z hz
  rcases List.mem_append.1 hz with h1 | h1
  · exact h z h1
  · rw [List.mem_singleton.1 h1]; exact hx

set_option maxRecDepth 100000 in
set_option maxHeartbeats 4000000 in
theorem Due_in (n f d p r dr o sl md fr : Int) (ad : Option Addr) (cap : Nat) (zs : List Int) (node el : Int) (s : ByteArray) (he : -9223372036854775808 ≤ el ∧ el ≤ 9223372036854775807) (hs : s.size ≤ 9223372036854775807) (m : Nat) (hm : 3 ≤ m) (w : World) (hl : zs.length ≤ 9223372036854775807) (hT : Tab w ad zs) :
    CallsIn Fence.wide m Try.prog 14 #[.agg #[.int .i64 n, .int .i64 f, .int .i64 d, .int .i64 p, .int .i64 r, .int .i64 dr, .int .i64 o, .int .i64 sl, .int .i64 md, .int .i64 fr, .slice ad zs.length cap], .int .i64 node, .int .i64 el, .string s] w fun e W' => e = .returned (.int .i64 (dueF (plainE n f d p r dr o sl md fr zs) o sl r dr zs node el s)) ∧ Below w.heap.size w W' := by
  have h1 : 1 ≤ m := by omega
  have hro : Fence.wide.round = none := rfl
  have hB0 : Below w.heap.size w ((((w.alloc (.cells #[.int .i64 n, .int .i64 f, .int .i64 d, .int .i64 p, .int .i64 r, .int .i64 dr, .int .i64 o, .int .i64 sl, .int .i64 md, .int .i64 fr, .slice ad zs.length cap] 24)).alloc (.cells #[.int .i64 el] 3)).alloc (.cells #[.string s] 9)).alloc (.cells #[.int .i64 0] 3)) := bthen (bthen (bthen (ballc w _) (ballc _ _)) (ballc _ _)) (ballc _ _)
  have HA := hidden (fun V h => Owned_any n f d p r dr o sl md fr ad cap zs node V hl h)
  have HT := hidden (hT.below hB0)
  have hk0 := blk_later (blk_later (blk_later (blk_nw w #[.int .i64 n, .int .i64 f, .int .i64 d, .int .i64 p, .int .i64 r, .int .i64 dr, .int .i64 o, .int .i64 sl, .int .i64 md, .int .i64 fr, .slice ad zs.length cap] 24) (ballc _ (.cells #[.int .i64 el] 3))) (ballc _ (.cells #[.string s] 9))) (ballc _ (.cells #[.int .i64 0] 3))
  have hk1 : Boxed ((((w.alloc (.cells #[.int .i64 n, .int .i64 f, .int .i64 d, .int .i64 p, .int .i64 r, .int .i64 dr, .int .i64 o, .int .i64 sl, .int .i64 md, .int .i64 fr, .slice ad zs.length cap] 24)).alloc (.cells #[.int .i64 el] 3)).alloc (.cells #[.string s] 9)).alloc (.cells #[.int .i64 0] 3)) (w.heap.size + 1) 3 (.int .i64 el) := blk_later (blk_later (blk_newAt (w.alloc (.cells #[.int .i64 n, .int .i64 f, .int .i64 d, .int .i64 p, .int .i64 r, .int .i64 dr, .int .i64 o, .int .i64 sl, .int .i64 md, .int .i64 fr, .slice ad zs.length cap] 24)) #[.int .i64 el] 3 (b := w.heap.size + 1) (by simp)) (ballc _ (.cells #[.string s] 9))) (ballc _ (.cells #[.int .i64 0] 3))
  have hk2 : Boxed ((((w.alloc (.cells #[.int .i64 n, .int .i64 f, .int .i64 d, .int .i64 p, .int .i64 r, .int .i64 dr, .int .i64 o, .int .i64 sl, .int .i64 md, .int .i64 fr, .slice ad zs.length cap] 24)).alloc (.cells #[.int .i64 el] 3)).alloc (.cells #[.string s] 9)).alloc (.cells #[.int .i64 0] 3)) (w.heap.size + 1 + 1) 9 (.string s) := blk_later (blk_newAt ((w.alloc (.cells #[.int .i64 n, .int .i64 f, .int .i64 d, .int .i64 p, .int .i64 r, .int .i64 dr, .int .i64 o, .int .i64 sl, .int .i64 md, .int .i64 fr, .slice ad zs.length cap] 24)).alloc (.cells #[.int .i64 el] 3)) #[.string s] 9 (b := w.heap.size + 1 + 1) (by simp)) (ballc _ (.cells #[.int .i64 0] 3))
  have hk3 : Boxed ((((w.alloc (.cells #[.int .i64 n, .int .i64 f, .int .i64 d, .int .i64 p, .int .i64 r, .int .i64 dr, .int .i64 o, .int .i64 sl, .int .i64 md, .int .i64 fr, .slice ad zs.length cap] 24)).alloc (.cells #[.int .i64 el] 3)).alloc (.cells #[.string s] 9)).alloc (.cells #[.int .i64 0] 3)) (w.heap.size + 1 + 1 + 1) 3 (.int .i64 0) := blk_newAt (((w.alloc (.cells #[.int .i64 n, .int .i64 f, .int .i64 d, .int .i64 p, .int .i64 r, .int .i64 dr, .int .i64 o, .int .i64 sl, .int .i64 md, .int .i64 fr, .slice ad zs.length cap] 24)).alloc (.cells #[.int .i64 el] 3)).alloc (.cells #[.string s] 9)) #[.int .i64 0] 3 (b := w.heap.size + 1 + 1 + 1) (by simp)
  have HB0 := hidden hB0
  have H0 := hidden hk0
  have H1 := hidden hk1
  have H2 := hidden hk2
  have H3 := hidden hk3
  have HF : Hid (dueF (plainE n f d p r dr o sl md fr zs) o sl r dr zs node el s = firstF (dueP o sl r dr el zs.length s) (ownL (tabF (plainE n f d p r dr o sl md fr zs) zs) node (tabF (plainE n f d p r dr o sl md fr zs) zs).length)) := by
    show _ = _
    by_cases hE : plainE n f d p r dr o sl md fr zs = 0
    · rw [hE, tabF_ok, firstF_dueP]
    · rw [tabF_err hE]
      unfold dueF
      rw [ownedF_err hE]
      rfl
  have HI := hidden (fun (h : 0 < (tabF (plainE n f d p r dr o sl md fr zs) zs).length) => show plainE n f d p r dr o sl md fr zs = 0 by
    by_cases hE : plainE n f d p r dr o sl md fr zs = 0
    · exact hE
    · rw [tabF_err hE] at h; cases h)
  have HL6 : Hid ((tabF (plainE n f d p r dr o sl md fr zs) zs).length ≤ 1000000) := by
    show _ ≤ _
    by_cases hE : plainE n f d p r dr o sl md fr zs = 0
    · have := (plainE_ok hE).2.2.2.2.2.2.2.2.2.2.2.2.2.2.2.2.2.2.2.2.2.2.1
      rw [hE, tabF_ok]; omega
    · rw [tabF_err hE]; decide
  have HM := hidden (fun (k : Nat) V h (hV : Tab V ad zs) => isTime_any n f d p r dr o sl md fr ad cap zs k el V h he hl hV)
  clear hT hB0 hk0 hk1 hk2 hk3
  generalize hls : tabF (plainE n f d p r dr o sl md fr zs) zs = ls at *
  generalize hdf : dueF (plainE n f d p r dr o sl md fr zs) o sl r dr zs node el s = R at *
  generalize hpe : plainE n f d p r dr o sl md fr zs = E at *
  have HP := hidden hpe
  clear hls hdf hpe
  have HW := hidden (fun (k : Nat) V => wasSentIn_any k s V hs)
  refine callsIn_of_wp_marks Try.func14 rfl trivial ?_ hro
  simp only [Try.ntmps14, List.size_toArray, List.length_cons, List.length_nil, Nat.reduceAdd, Nat.reduceSub, Array.replicate_succ, Array.replicate_zero, List.push_toArray, List.append_toArray, List.nil_append, List.cons_append]
  have hfa : Fence.wide.fn 17 := trivial
  have hfb : Fence.wide.fn 40 := trivial
  have hfc : Fence.wide.fn 41 := trivial
  gi_wp2_with (gi_at_call 17; refine (callsIn_wide.2 (HA.out _ HT.out)).mono ?_; rintro e w0 ⟨gt, gn, ad', cap', rfl, c1, c2, hLs, hb⟩)
  have B0 := blk_later H0.out hb
  have B1 : Boxed w0 (w.heap.size + 1) 3 (.int .i64 el) := blk_later H1.out hb
  have B2 : Boxed w0 (w.heap.size + 1 + 1) 9 (.string s) := blk_later H2.out hb
  have B3 : Boxed w0 (w.heap.size + 1 + 1 + 1) 3 (.int .i64 0) := blk_later H3.out hb
  have hB := bthen HB0.out hb
  have HT0 := hidden (HT.out.below hb)
  have hs3 := B3.lt
  refine wpIn_rangeFunc_ownH hro h1 (gf := 44) (lb := #[.pointer (some ⟨gt, 0, none⟩), .pointer (some ⟨gn, 0, none⟩)]) rfl trivial (enters_of Try.func44 (by kernel_rfl) rfl)
    (owned_stops ls node HL6.out (m - 1) (by omega) gt gn w0.heap.size ad' cap' w0 (Nat.le_refl _) c1 c2 (Array.getElem?_eq_some_iff.1 c2).1 hLs) belowK_t (belowK_b (Nat.le_refl _)) (Below.refl _ _) (fun _ => rfl)
    (fun pre W => (∀ z ∈ pre, dueP o sl r dr el zs.length s z = false) ∧ (Boxed W (w.heap.size + 1) 3 (.int .i64 el) ∧ Boxed W (w.heap.size + 1 + 1) 9 (.string s) ∧ Boxed W (w.heap.size + 1 + 1 + 1) 3 (.int .i64 0) ∧ W.heap[w.heap.size]? = some (.cells #[.int .i64 n, .int .i64 f, .int .i64 d, .int .i64 p, .int .i64 r, .int .i64 dr, .int .i64 o, .int .i64 sl, .int .i64 md, .int .i64 fr, .slice ad zs.length cap] 24 (0, 0))) ∧ Below w0.heap.size w0 W)
    (fun c pre W => c = .ret ∧ ∃ (pre0 : List Nat) (y : Nat), (pre = pre0 ++ [y] ∧ (∀ z ∈ pre0, dueP o sl r dr el zs.length s z = false) ∧ dueP o sl r dr el zs.length s y = true) ∧ Boxed W (w.heap.size + 1 + 1 + 1) 3 (.int .i64 (y : Int)) ∧ Below w.heap.size w W)
    (OwnFrom.and (ownFrom_pure _ _) (OwnFrom.and (OwnFrom.and (Own.from (boxed_own _ _ _) _) (OwnFrom.and (Own.from (boxed_own _ _ _) _) (OwnFrom.and (Own.from (boxed_own _ _ _) _) (Own.from (sblk_own _ _ _) _)))) (ownFrom_below (Nat.le_refl _) (Nat.le_refl _))))
    (fun c s X Y row hs hg hr => by
      obtain ⟨hc, pre0, y, hp, hbx, hbl⟩ := hs
      exact ⟨hc, pre0, y, hp, (Own.from (boxed_own _ _ (fun (_ : Unit) => Value.int .i64 (y : Int))) _) () X Y row hbx hg hr, (ownFrom_below (Nat.le_refl _) hB.size) () X Y row hbl hg hr⟩)
    ⟨by simp, ⟨B1, B2, B3, B0⟩, Below.refl _ _⟩
    (fun x a' W => a' = { tmps := #[.agg #[.int .i64 n, .int .i64 f, .int .i64 d, .int .i64 p, .int .i64 r, .int .i64 dr, .int .i64 o, .int .i64 sl, .int .i64 md, .int .i64 fr, .slice ad zs.length cap], .int .i64 node, .int .i64 el, .string s, .pointer (some ⟨w.heap.size, 0, none⟩), undef, .pointer (some ⟨w.heap.size + 1, 0, none⟩), .pointer (some ⟨w.heap.size + 1 + 1, 0, none⟩), .pointer (some ⟨w.heap.size + 1 + 1 + 1, 0, none⟩), .int .i64 (x : Int), .agg #[.int .i64 n, .int .i64 f, .int .i64 d, .int .i64 p, .int .i64 r, .int .i64 dr, .int .i64 o, .int .i64 sl, .int .i64 md, .int .i64 fr, .slice ad zs.length cap], .int .i64 node, .func (.func 44) #[] #[.pointer (some ⟨gt, 0, none⟩), .pointer (some ⟨gn, 0, none⟩)], .int .i64 (x : Int), undef, undef, undef, undef, undef, undef, undef, undef, undef, undef, undef], defers := [] })
    (fun x a' => ownFrom_pure _ _)
    ?assign ?body ?done ?stop
  case assign =>
    rintro l pre x W K hI hK
    gi_wp2
    exact hK _ _ (KeepsFrom.refl _ _) (Below.refl _ _) hI rfl
  case body =>
    rintro l pre x a' W hl hr ⟨hp, ⟨d1, d2, d3, hk1⟩, hBw⟩ rfl hlt
    have hdp : 1 ≤ m - 1 - 1 := by omega
    have hgb : (Fence.wide.inRound l).fn 40 := trivial
    have hgc : (Fence.wide.inRound l).fn 41 := trivial
    have hE := HI.out (by omega)
    have e1 := d1.cell
    have e2 := d2.cell
    have e3 := d3.cell
    have e4 := d3.frozen
    have HK1 := hidden hk1
    have HD1 := hidden d1
    have HD2 := hidden d2
    have HD3 := hidden d3
    have HBw := hidden hBw
    have c0 := fun i => blk_cell hk1 i
    have l0 := blk_lt hk1
    have W1 := hidden (HW.out x)
    have W2 := hidden (fun V h => HM.out x V hE h)
    have HQ : Hid (dueP o sl r dr el zs.length s x = (!sentB s x && timeM (midP o sl zs.length x) r dr el)) := rfl
    have HPr := hidden hp
    clear hk1 d1 d2 d3 hp hE hBw
    generalize timeM (midP o sl zs.length x) r dr el = tb at *
    generalize sentB s x = sb at *
    cases sb with
    | true =>
      gi_wp2_with (gi_at_call 40; refine (CallsIn.inRound l (callsIn_wide.2 (W1.out _))).mono ?_; rintro e w4 ⟨rfl, rfl⟩)
      exact ⟨KeepsFrom.refl _ _, Below.refl _ _, none_snoc HPr.out (by rw [HQ.out]; rfl), ⟨HD1.out, HD2.out, HD3.out, HK1.out⟩, HBw.out⟩
    | false =>
      cases tb with
      | true =>
        gi_wp2_with (gi_at_call 40; refine (CallsIn.inRound l (callsIn_wide.2 (W1.out _))).mono ?_; rintro e w4 ⟨rfl, rfl⟩)
        gi_wp2_with (gi_at_call 41; refine (CallsIn.inRound l (callsIn_wide.2 (W2.out _ (HT0.out.below HBw.out)))).mono ?_; rintro e w5 ⟨rfl, hb5⟩; refine Hid.out ?_)
        have d3' := blk_later HD3.out hb5
        have x3 := (show Boxed w5 (w.heap.size + 1 + 1 + 1) 3 (.int .i64 0) from d3').cell
        have x4 := (show Boxed w5 (w.heap.size + 1 + 1 + 1) 3 (.int .i64 0) from d3').frozen
        have x5 := blk_lt d3'
        have HX3 := hidden d3'
        have HB5 := hidden hb5
        clear hb5 d3' e1 e2 e3 e4 c0 l0
        refine hidden ?_
        gi_wp2
        exact ⟨(KeepsFrom.of_grownBy (below_grown HB5.out) (fun j e => by cases e)).trans ((KeepsOthers.setCell _ _ _).from _), rfl, pre, x, ⟨rfl, HPr.out, by rw [HQ.out]; rfl⟩, (show Boxed w5 (w.heap.size + 1 + 1 + 1) 3 (.int .i64 0) from HX3.out).set _, (bthen hB (bthen HBw.out HB5.out)).setCell (p := ⟨w.heap.size + 1 + 1 + 1, 0, none⟩) (by simp; omega) _⟩
      | false =>
        gi_wp2_with (gi_at_call 40; refine (CallsIn.inRound l (callsIn_wide.2 (W1.out _))).mono ?_; rintro e w4 ⟨rfl, rfl⟩)
        gi_wp2_with (gi_at_call 41; refine (CallsIn.inRound l (callsIn_wide.2 (W2.out _ (HT0.out.below HBw.out)))).mono ?_; rintro e w5 ⟨rfl, hb5⟩; refine Hid.out ?_)
        have HB5 := hidden hb5
        clear hb5 e1 e2 e3 e4 c0 l0
        refine hidden ?_
        gi_wp2
        exact ⟨KeepsFrom.of_grownBy (below_grown HB5.out) (fun j e => by cases e), HB5.out.mono HBw.out.size, none_snoc HPr.out (by rw [HQ.out]; rfl), ⟨blk_later HD1.out HB5.out, blk_later HD2.out HB5.out, blk_later HD3.out HB5.out, blk_later HK1.out HB5.out⟩, bthen HBw.out HB5.out⟩
  case done =>
    rintro D ys W hD rfl ⟨hp, ⟨d1, d2, d3, hk1⟩, hBw⟩ hK
    have e2 := d3.cell
    have e3 := d3.frozen
    have hres := firstF_none hp
    have hBB : Below w.heap.size w W := bthen hB hBw
    gi_wp2
    have hK' := (KeepsOthers.setCell W ⟨w.heap.size + 1 + 1 + 1, 0, none⟩ (.int .i64 (-1))).same D _ hK rfl
    refine ⟨by simp, .inl ⟨_, _, rfl, run_takeDeferred hK', ?_⟩⟩
    have d3' := (d3.set (.int .i64 (-1))).kept (grownBy_putObj' _ D (.deferred none)) (by simp; omega)
    have c5 := d3'.cell
    refine ⟨.int .i64 (-1), ?_, by rw [HF.out, hres], ?_⟩
    · simp [results, Try.results14, go_sem, c5]
    · exact (hBB.setCell (p := ⟨w.heap.size + 1 + 1 + 1, 0, none⟩) (by simp; omega) _).trans (belowK_b (w := w) (Nat.le_refl _) _ D _ _ (by omega) hK' rfl rfl)
  case stop =>
    rintro D c pre W hD hS ⟨rfl, pre0, y, ⟨hp, hn, hy⟩, d2, hBw⟩ hK
    have hres := firstF_hit hy hn (by rw [← hp]; exact hS)
    gi_wp2
    refine ⟨by simp, .inl ⟨_, _, rfl, run_takeDeferred hK, ?_⟩⟩
    have d3 := d2.kept (grownBy_putObj' _ D (.deferred none)) (by simp; omega)
    have c5 := d3.cell
    refine ⟨.int .i64 (y : Int), ?_, by rw [HF.out, hres], ?_⟩
    · simp [results, Try.results14, go_sem, c5]
    · exact hBw.trans (belowK_b (w := w) (Nat.le_refl _) _ D _ _ (by omega) hK rfl rfl)

theorem Due_any (n f d p r dr o sl md fr : Int) (ad : Option Addr) (cap : Nat) (zs : List Int) (node el : Int) (s : ByteArray) (w : World) (he : -9223372036854775808 ≤ el ∧ el ≤ 9223372036854775807) (hs : s.size ≤ 9223372036854775807) (hl : zs.length ≤ 9223372036854775807) (hT : Tab w ad zs) :
    Calls Try.prog 14 #[.agg #[.int .i64 n, .int .i64 f, .int .i64 d, .int .i64 p, .int .i64 r, .int .i64 dr, .int .i64 o, .int .i64 sl, .int .i64 md, .int .i64 fr, .slice ad zs.length cap], .int .i64 node, .int .i64 el, .string s] w fun e W' => e = .returned (.int .i64 (dueF (plainE n f d p r dr o sl md fr zs) o sl r dr zs node el s)) ∧ Below w.heap.size w W' := (callsIn_wide (n := 3)).1 (Due_in n f d p r dr o sl md fr ad cap zs node el s he hs 3 (Nat.le_refl _) w hl hT)
end Go.Proofs.Ytcfakhfipdjnmaa

/- The fixed calls of the statements on package sched come out as they must, and make at most new memory; no conditions. -/
namespace Go.Proofs.Ytcfakhfipdjnmaa
open Go.ChangeShapes Go.WideShapes Go.ChangeAt Go.RowKit
set_option linter.unusedVariables false

theorem small21_any (w : World) :
    Calls Try.prog 35 #[] w fun e w' => ∃ g, e = .returned (.agg #[.int .i64 4, .int .i64 1, .int .i64 1, .int .i64 20, .int .i64 64, .int .i64 1, .int .i64 64, .int .i64 190, .int .i64 10, .int .i64 3, .slice (some ⟨g, 0, none⟩) 4 4]) ∧ Tab w' (some ⟨g, 0, none⟩) [0, 1, 2, 3] ∧ Below w.heap.size w w' := by
  go_enter Try.func35, Try.ntmps35
  go_wp2
  refine bodyPost_ret (v := .agg #[.int .i64 4, .int .i64 1, .int .i64 1, .int .i64 20, .int .i64 64, .int .i64 1, .int .i64 64, .int .i64 190, .int .i64 10, .int .i64 3, .slice (some ⟨w.heap.size + 1, 0, none⟩) 4 4]) (by simp [results, Try.results35, go_sem]) rfl ⟨_, rfl, Tab.four _ _ _ (by simp), Joins.below_alloc2 _ _ _⟩
set_option maxHeartbeats 4000000 in
theorem known21_any (w : World) :
    Calls Try.prog 9 #[] w fun e w' => e = .returned (.bool true) ∧ Below w.heap.size w w' := by
  go_enter Try.func9, Try.ntmps9
  go_wp2_with fail
  refine (small21_any _).mono ?_
  rintro e w1 ⟨g, rfl, hT, hb⟩
  have HB1 := hidden hb
  have HT := hidden (hT.below (ballc w1 (.cells #[.int .i64 4, .int .i64 1, .int .i64 1, .int .i64 20, .int .i64 64, .int .i64 1, .int .i64 64, .int .i64 190, .int .i64 10, .int .i64 3, .slice (some ⟨g, 0, none⟩) 4 4] 24)))
  clear hT hb
  go_wp2_with fail
  refine (Calls.ret_to (SSlot_any 4 1 1 20 64 1 64 190 10 3 (some ⟨g, 0, none⟩) 4 [0, 1, 2, 3] 63 _ (by decide) (by decide) HT.out) (val_i (b := -1) (by rw [plainE_small]; decide))).mono ?_
  rintro e v0 ⟨rfl, hb⟩
  have HC0 := hidden hb
  clear hb
  obtain ⟨hbox, hsz⟩ := box_at HC0.out
  go_wp2_with fail
  refine (Calls.ret_to (SSlot_any 4 1 1 20 64 1 64 190 10 3 (some ⟨g, 0, none⟩) 4 [0, 1, 2, 3] 64 _ (by decide) (by decide) (HT.out.below HC0.out)) (val_i (b := 0) (by rw [plainE_small]; decide))).mono ?_
  rintro e v1 ⟨rfl, hb⟩
  have HC1 := hidden (bthen HC0.out hb)
  clear hbox hsz
  clear hb
  obtain ⟨hbox, hsz⟩ := box_at HC1.out
  go_wp2_with fail
  refine (Calls.ret_to (SSlot_any 4 1 1 20 64 1 64 190 10 3 (some ⟨g, 0, none⟩) 4 [0, 1, 2, 3] 254 _ (by decide) (by decide) (HT.out.below HC1.out)) (val_i (b := 1) (by rw [plainE_small]; decide))).mono ?_
  rintro e v2 ⟨rfl, hb⟩
  have HC2 := hidden (bthen HC1.out hb)
  clear hbox hsz
  clear hb
  obtain ⟨hbox, hsz⟩ := box_at HC2.out
  go_wp2_with fail
  refine (Calls.ret_to (SOwner_any 4 1 1 20 64 1 64 190 10 3 (some ⟨g, 0, none⟩) 4 [0, 1, 2, 3] 3 _ (by decide) (by decide) (HT.out.below HC2.out)) (val_i (b := 3) (by rw [plainE_small]; decide))).mono ?_
  rintro e v3 ⟨rfl, hb⟩
  have HC3 := hidden (bthen HC2.out hb)
  clear hbox hsz
  clear hb
  obtain ⟨hbox, hsz⟩ := box_at HC3.out
  go_wp2_with fail
  refine (Calls.ret_to (SOwner_any 4 1 1 20 64 1 64 190 10 3 (some ⟨g, 0, none⟩) 4 [0, 1, 2, 3] 4 _ (by decide) (by decide) (HT.out.below HC3.out)) (val_i (b := -1) (by rw [plainE_small]; decide))).mono ?_
  rintro e v4 ⟨rfl, hb⟩
  have HC4 := hidden (bthen HC3.out hb)
  clear hbox hsz
  clear hb
  obtain ⟨hbox, hsz⟩ := box_at HC4.out
  go_wp2_with fail
  refine (Calls.ret_to (Due_any 4 1 1 20 64 1 64 190 10 3 (some ⟨g, 0, none⟩) 4 [0, 1, 2, 3] 0 159 ⟨#[]⟩ _ (by decide) (by decide) (by decide) (HT.out.below HC4.out)) (val_i (b := 0) (by rw [plainE_small]; decide))).mono ?_
  rintro e v5 ⟨rfl, hb⟩
  have HC5 := hidden (bthen HC4.out hb)
  clear hbox hsz
  clear hb
  obtain ⟨hbox, hsz⟩ := box_at HC5.out
  go_wp2_with fail
  refine (Calls.ret_to (Due_any 4 1 1 20 64 1 64 190 10 3 (some ⟨g, 0, none⟩) 4 [0, 1, 2, 3] 0 159 ⟨#[49]⟩ _ (by decide) (by decide) (by decide) (HT.out.below HC5.out)) (val_i (b := -1) (by rw [plainE_small]; decide))).mono ?_
  rintro e v6 ⟨rfl, hb⟩
  have HC6 := hidden (bthen HC5.out hb)
  clear hbox hsz
  clear hb
  obtain ⟨hbox, hsz⟩ := box_at HC6.out
  go_wp2_with fail
  refine (Calls.ret_to (Due_any 4 1 1 20 64 1 64 190 10 3 (some ⟨g, 0, none⟩) 4 [0, 1, 2, 3] 0 224 ⟨#[]⟩ _ (by decide) (by decide) (by decide) (HT.out.below HC6.out)) (val_i (b := -1) (by rw [plainE_small]; decide))).mono ?_
  rintro e v7 ⟨rfl, hb⟩
  have HC7 := hidden (bthen HC6.out hb)
  clear hbox hsz
  clear hb
  obtain ⟨hbox, hsz⟩ := box_at HC7.out
  go_wp2
  go_ret
  exact ⟨rfl, bthen HB1.out (bthen (ballc _ _) HC7.out)⟩
end Go.Proofs.Ytcfakhfipdjnmaa
