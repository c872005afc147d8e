/- Several texts of one's own in one: what each proves, and its conditions, is said ahead of it. -/
import Derived.RangeFuncNested
import Derived.RangeFuncBound
import Derived.RangeFuncCalls
import Derived.RangeFuncLeaves
import Derived.Shelf.Abstract
import Derived.Shelf.RegionOpen
import Derived.OwnWalkIn
import Derived.TacticsInMore
import Derived.LoopNIn
import Derived.LoopIn
import Derived.Test.YtkolhbacgoafcaaGreatBa
import Derived.Test.YtkolhbacgoafcaaGreatBe
import Derived.Deep.RegionHeld3
import Derived.Test.YtkolhbacgoafcaaGreatBc

/- A law of one's own on ranges over a function whose rounds all go on: the function hands so many rounds what a number gives, and what the rounds keep is counted by their number; conditions: no round leaves the loop. -/
namespace Go.Proofs.YtkolhbacgoafcaaGreat
open Go.ChangeShapes Go.WideShapes Go.ChangeAt Go.RowKit Go.Shelf
set_option linter.unusedVariables false

theorem from_up {B C : Nat} {X Y : World} (h : KeepsFrom B X Y) (k : B ≤ C) : KeepsFrom C X Y := ⟨h.size, fun i o hi => h.same i o (Nat.le_trans k hi)⟩
theorem own_up {β : Type} {B C : Nat} {I : β → World → Prop} (h : OwnFrom B I) (k : B ≤ C) : OwnFrom C I := fun s X Y row hs hg hr => h s X Y row hs hg (fun r e => ⟨Nat.le_trans k (hr r e).1, (hr r e).2⟩)
theorem from_put {C l : Nat} {X : World} (o : Obj) (h : l < C) : KeepsFrom C X (X.putObj l o) := KeepsFrom.of_grownBy (grownBy_putObj' X l o) (fun j e => by cases e; exact h)
theorem below_grown {X Y : World} (h : Below X.heap.size X Y) : X.grownBy Y none := ⟨h.os, h.tape, h.output, h.size, fun k hk _ => h.block k hk⟩
theorem own_below' {β : Type} {B : Nat} {I : β → World → Prop} (h : OwnFrom B I) {s : β} {X Y : World} (hs : I s X) (hb : Below X.heap.size X Y) : I s Y := h s X Y none hs (below_grown hb) (fun r e => by cases e)
theorem own_put {β : Type} {B D : Nat} {I : β → World → Prop} (h : OwnFrom B I) {s : β} {X : World} (hs : I s X) (hB : B ≤ D) (hK : X.heap[D]? = some (.deferred (some []))) : I s (X.putObj D (.deferred none)) := h.putObj _ hs hB hK rfl
theorem cells_own {β : Type} (B b : Nat) (C : Array Value) (t : TypeId) : OwnFrom B (fun (_ : β) W => W.heap[b]? = some (.cells C t (0, 0))) := fun s X Y row hs hg hr =>
  (hg.block b (Array.getElem?_eq_some_iff.1 hs).1 (fun e => by obtain ⟨_, o, ho, hc⟩ := hr b e.symm; rw [hs] at ho; cases ho; cases hc)).trans hs
/-- A round is a round at any depth, and within another loop's round. -/
theorem round_any {m m' l l2 : Nat} {f : FuncId} {tmps : Array Value} {assign body : Code} {w : World} {R : Ending → World → Prop} (h : RoundIn Fence.wide m Tryz.prog l f tmps assign body w R) : RoundIn (Fence.wide.inRound l2) m' Tryz.prog l f tmps assign body w R := ⟨h.1, fun c cs _ => h.2 c cs (fun d hd => by cases hd)⟩
theorem round_dep {m m' l : Nat} {f : FuncId} {tmps : Array Value} {assign body : Code} {w : World} {R : Ending → World → Prop} (h : RoundIn Fence.wide m Tryz.prog l f tmps assign body w R) : RoundIn Fence.wide m' Tryz.prog l f tmps assign body w R := ⟨h.1, fun c cs _ => h.2 c cs (fun d hd => by cases hd)⟩
/-- A region whose order is drawn goes in a loop's round as it goes elsewhere, where nothing in it is deferred. -/
theorem op_round {P : Program} {n l : Nat} {ops : Array Oper} {Q : Exit → Act → World → Prop} {i : Nat} {K : Act → World → Prop} {a : Act} {w : World} (hd : ∀ o, ops[i]? = some o → ∀ c, o.op ≠ .defer c) (h : wpOpIn Fence.wide n P ops Q i K a w) : wpOpIn (Fence.wide.inRound l) n P ops Q i K a w := by
  unfold wpOpIn at h ⊢
  cases ho : ops[i]? with
  | none =>
    rw [ho] at h
    exact h
  | some o =>
    rw [ho] at h
    simp only at h ⊢
    by_cases hw : Region.wanted o (yielded ops a.tmps) = true
    · rw [if_pos hw] at h ⊢
      unfold Oper.wpIn at h ⊢
      refine ⟨fun f hf => trivial, ?_⟩
      have h2 := h.2
      rw [show (Fence.wide.inRound l).round = some l from rfl, Oper.semAt_some l a.eval o (hd o ho)]
      exact h2
    · rw [if_neg hw] at h ⊢
      exact ⟨fun f hf => trivial, h.2⟩
theorem any_round {P : Program} {n l : Nat} {md : Region.Mode} {ops : Array Oper} {Q : Exit → Act → World → Prop} (hd : ∀ (i : Nat) (o : Oper), ops[i]? = some o → ∀ c : Call, o.op ≠ Op.defer c) : ∀ (fuel : Nat) (listed : Array Bool) (a : Act) (w : World), wpAnyIn Fence.wide n P md ops Q fuel listed a w → wpAnyIn (Fence.wide.inRound l) n P md ops Q fuel listed a w
  | 0, _, _, _, h => h
  | fuel + 1, listed, a, w, h => ⟨h.1, fun i hi => wpOpIn_mono (fun a' w' h' => any_round hd fuel _ a' w' h') (op_round (hd i) (h.2 i hi))⟩
theorem no_defer {ops : Array Oper} (h : ops.toList.all (fun o => match o.op with | .defer _ => false | _ => true) = true) (i : Nat) (o : Oper) (ho : ops[i]? = some o) (c : Call) : o.op ≠ Op.defer c := by
  intro e
  have hm : o ∈ ops.toList := by
    rw [← Array.getElem?_toList] at ho
    exact List.mem_of_getElem? ho
  have := List.all_eq_true.1 h o hm
  rw [e] at this
  cases this
/-- A function that hands R values to the rounds of its loop, one after another. -/
def Gives (m gf : Nat) (lb : Array Value) (R : Nat) (encs : Nat → Array Value) (Kp : World → World → Prop) (w : World) : Prop :=
  ∀ (l : Nat) (J : Nat → World → Prop) (W : World), Below w.heap.size w W → OwnFrom W.heap.size J →
    (∀ k V, k < R → J k V → YieldAt Fence.wide (m - 1) Tryz.prog l (encs k) V fun e V' => e = .returned (.bool true) ∧ J (k + 1) V' ∧ Kp V V' ∧ KeepsFrom W.heap.size V V') →
    J 0 W → CallsIn Fence.wide m Tryz.prog gf (#[.func (.yield l) #[] #[]] ++ lb) W fun e W' => (∃ v, e = .returned v) ∧ J R W'
/-- A round that goes on. -/
def goesOn (B : Nat) (Kp : World → World → Prop) (J : World → Prop) (W : World) : Exit → Act → World → Prop
  | .normal, _, W' => KeepsFrom B W W' ∧ Kp W W' ∧ J W'
  | .ret, _, _ => False
  | .exit _, _, _ => False
  | .goto _, _, _ => False
  | .panic _, _, _ => False
  | .outgrown, _, _ => False
theorem rf_gives {g : Operand} {ps : Array Tmp} {assign body : Code} {Q : Exit → Act → World → Prop} {a : Act} {w : World} {m gf : Nat} {lb : Array Value} {R : Nat} {encs : Nat → Array Value} {Kp : World → World → Prop} {w0 : World}
    (hg : a.eval g = .func (.func gf) #[] lb) (eg : Enters Tryz.prog gf) (hseq : Gives (m - 1) gf lb R encs Kp w0) (hb0 : Below w0.heap.size w0 w) (hps : ∀ k, (encs k).size = ps.size)
    (hKt : ∀ {A B C : World}, Kp A B → Kp B C → Kp A C) (hKb : ∀ (W : World) (l : Nat) (o o' : Obj), w.heap.size ≤ l → W.heap[l]? = some o → o.isCells = false → Kp W (W.putObj l o'))
    (I : Nat → World → Prop) (hI : OwnFrom w.heap.size I) (h0 : I 0 w) (a₁ : Nat → Act)
    (hassign : ∀ (l k : Nat) (W : World) (K : Act → World → Prop), K (a₁ k) W → assign.wpIn (Fence.wide.inRound l) (m - 1 - 1) Tryz.prog (Exit.then K (fun _ _ _ => False)) { tmps := (ps.zip (encs k)).foldl (fun t (p, v) => t.setIfInBounds p v) a.tmps, defers := [] } W)
    (hbody : ∀ (l k : Nat) (W : World), w.heap.size ≤ l → k < R → I k W → body.wpIn (Fence.wide.inRound l) (m - 1 - 1) Tryz.prog (goesOn w.heap.size Kp (I (k + 1)) W) (a₁ k) W)
    (hdone : ∀ (D : Nat) (W : World), w.heap.size ≤ D → I R W → W.heap[D]? = some (.deferred (some [])) → Q .normal { a with defers := { target := .collected D, args := #[] } :: a.defers } W) :
    (Code.rangeFunc g ps assign body).wpIn Fence.wide m Tryz.prog Q a w := by
  refine wpIn_rangeFunc fun fn hfn => ?_
  obtain ⟨rec, hrec⟩ : ∃ rec : LoopState → Loop, rec = fun st => { state := st, pending := none, fn, tmps := a.tmps, params := ps, assign, body, defers := w.heap.size } := ⟨_, rfl⟩
  have hst : ∀ st st', { rec st with state := st' } = rec st' := fun st st' => by rw [hrec]
  have hne : ∀ st, (rec st).state = st := fun st => by rw [hrec]
  obtain ⟨V1, hV1⟩ : ∃ V1, (w.alloc (.deferred (some []))).alloc (.loop (rec .ready)) = V1 := ⟨_, rfl⟩
  have s1 : V1.heap.size = w.heap.size + 1 + 1 := by rw [← hV1]; simp
  have kl : V1.heap[w.heap.size + 1]? = some (.loop (rec .ready)) := by
    have h := World.alloc_heap_new (w.alloc (.deferred (some []))) (.loop (rec .ready))
    rw [← hV1]
    rwa [World.size_alloc] at h
  have kd : V1.heap[w.heap.size]? = some (.deferred (some [])) := by
    rw [← hV1]
    exact (Below.heap_alloc _ _ _ (by simp)).trans (World.alloc_heap_new w _)
  have i1 : I 0 V1 := by
    rw [← hV1]
    exact hI.alloc _ (hI.alloc _ h0)
  have bl : Below w0.heap.size w0 V1 := by
    rw [← hV1]
    exact bthen (bthen hb0 (ballc w _)) (ballc _ _)
  refine ⟨w.heap.size + 1, [{ target := .collected w.heap.size, args := #[] }], V1, { target := .fn (.func gf) lb, args := #[.func (.yield (w.heap.size + 1)) #[] #[]] }, V1, gf, #[.func (.yield (w.heap.size + 1)) #[] #[]] ++ lb, V1, ?enter, ?res, fun _ _ => trivial, ?inv, fun h => (by cases h), ?calls⟩
  case enter =>
    rw [← hV1, hrec]
    exact run_enterLoop_outer fn a.tmps ps assign body
  case res =>
    simp only [resolve, hg]
    simp [go_sem]
  case inv =>
    unfold Enters at eg
    simp [invoke, go_sem, eg]
  case calls =>
    have hJ : OwnFrom V1.heap.size (fun k W => I k W ∧ W.heap[w.heap.size + 1]? = some (.loop (rec .ready)) ∧ W.heap[w.heap.size]? = some (.deferred (some []))) := by
      intro k X Y row hs hgr hr
      have hx : ∀ j, j < V1.heap.size → some j ≠ row := fun j hj e => by have := (hr j e.symm).1; omega
      exact ⟨own_up hI (by omega) k X Y row hs.1 hgr hr, (hgr.block _ (Array.getElem?_eq_some_iff.1 hs.2.1).1 (hx _ (by omega))).trans hs.2.1, (hgr.block _ (Array.getElem?_eq_some_iff.1 hs.2.2).1 (hx _ (by omega))).trans hs.2.2⟩
    refine (hseq (w.heap.size + 1) _ V1 bl hJ ?round ⟨i1, kl, kd⟩).mono ?after
    case round =>
      rintro k V hk ⟨hi, hl, hd⟩
      have lt : w.heap.size + 1 < V.heap.size := (Array.getElem?_eq_some_iff.1 hl).1
      have hy := run_yield (P := Tryz.prog) (args := encs k) hl (by rw [hrec]; exact hps k)
      rw [hrec] at hy
      refine ⟨fn, _, assign, body, hy, roundIn_of_wpIn hfn (hassign _ k V _ ⟨_, run_beginRound hl (hne _), ?_⟩)⟩
      rw [hst]
      have l2 : (V.putObj (w.heap.size + 1) (.loop (rec .busy))).heap[w.heap.size + 1]? = some (.loop (rec .busy)) := World.putObj_heap_same lt
      have d2 : (V.putObj (w.heap.size + 1) (.loop (rec .busy))).heap[w.heap.size]? = some (.deferred (some [])) := (World.putObj_heap_other (by omega)).trans hd
      refine wpIn_mono (hbody _ k _ (by omega) hk (hI.putObj _ hi (by omega) hl rfl)) ?_
      intro e a3 V3 hp
      cases e with
      | normal =>
        obtain ⟨f3, p3, i3⟩ := hp
        have l3 := f3.same _ _ (by omega) l2 rfl
        have d3 := f3.same _ _ (Nat.le_refl _) d2 rfl
        have hend := run_endRound (P := Tryz.prog) none l3
        refine ⟨_, _, hend, rfl, ⟨hI.putObj _ i3 (by omega) l3 rfl, ?_, (World.putObj_heap_other (by omega)).trans d3⟩, hKt (hKt (hKb _ _ _ _ (by omega) hl rfl) p3) (hKb _ _ _ _ (by omega) l3 rfl), ?_⟩
        · rw [World.putObj_heap_same (Array.getElem?_eq_some_iff.1 l3).1, hrec]
          rfl
        · exact ((from_put _ (by omega)).trans (from_up f3 (by omega))).trans (from_put _ (by omega))
      | ret => exact hp.elim
      | exit id => exact hp.elim
      | goto t => exact hp.elim
      | panic ch => exact hp.elim
      | outgrown => exact hp.elim
    case after =>
      rintro e V2 ⟨⟨v, rfl⟩, hi, hl, hd⟩
      refine ⟨none, _, ?_, hdone w.heap.size _ (Nat.le_refl _) (hI.putObj (.loop (rec .exhausted)) hi (by omega) hl rfl) ((World.putObj_heap_other (by omega)).trans hd)⟩
      have h := run_endLoop (P := Tryz.prog) hl (by rw [hne]; decide)
      rw [hst] at h
      rw [h, hrec]
end Go.Proofs.YtkolhbacgoafcaaGreat

/- The iterators of packages plan and pipe hand their rounds each exchange, with when it is told and with the codes of its stretch; conditions: what they have captured lies where it says, and a round keeps it. -/
namespace Go.Proofs.YtkolhbacgoafcaaGreat
open Go.ChangeShapes Go.WideShapes Go.ChangeAt Go.RowKit Go.Shelf
set_option linter.unusedVariables false
attribute [local go_sem] Oper.semAt_some

set_option maxRecDepth 100000 in
set_option maxHeartbeats 2000000 in
theorem ages_gives (n f d p r dr o sl md fr : Int) (ad : Option Addr) (cap : Nat) (zs : List Int) (R : Nat) (hR : R ≤ 15) (hd : R = 0 ∨ 1 ≤ d ∧ d ≤ 4) (m : Nat) (hm : 1 ≤ m) (gr gc : Nat) (Kp : World → World → Prop)
    (hKp : ∀ X Y, Kp X Y → X.heap[gc]? = some (.cells #[.int .i64 n, .int .i64 f, .int .i64 d, .int .i64 p, .int .i64 r, .int .i64 dr, .int .i64 o, .int .i64 sl, .int .i64 md, .int .i64 fr, .slice ad zs.length cap] 24 (0, 0)) → Y.heap[gc]? = some (.cells #[.int .i64 n, .int .i64 f, .int .i64 d, .int .i64 p, .int .i64 r, .int .i64 dr, .int .i64 o, .int .i64 sl, .int .i64 md, .int .i64 fr, .slice ad zs.length cap] 24 (0, 0))) (w : World)
    (b1 : w.heap[gr]? = some (.cells #[.int .i64 (R : Int)] 3 (0, 0))) (b2 : w.heap[gc]? = some (.cells #[.int .i64 n, .int .i64 f, .int .i64 d, .int .i64 p, .int .i64 r, .int .i64 dr, .int .i64 o, .int .i64 sl, .int .i64 md, .int .i64 fr, .slice ad zs.length cap] 24 (0, 0))) :
    Gives m 68 #[.pointer (some ⟨gr, 0, none⟩), .pointer (some ⟨gc, 0, none⟩)] R (fun k => #[.int .i64 (k : Int), .int .i64 ((k : Int) * d)]) Kp w := by
  intro l J W hW _ hY h0
  replace b1 := (hW.block gr (Array.getElem?_eq_some_iff.1 b1).1).trans b1
  replace b2 := (hW.block gc (Array.getElem?_eq_some_iff.1 b2).1).trans b2
  have c1 := blk_cell b1 0
  have HK := hidden b2
  clear b2 hW
  refine callsIn_of_wp Tryz.func68 rfl trivial ?_ rfl
  simp only [Tryz.ntmps68, List.size_toArray, List.length_cons, List.length_nil, Nat.reduceAdd, Nat.reduceSub, Array.replicate_succ, Array.replicate_zero, List.push_toArray, List.append_toArray, List.nil_append, List.cons_append]
  gi_wp2
  clear c1 b1
  gi_loopw [6] (fun i wr => ∃ k : Nat, k ≤ R ∧ i = .int .i64 k ∧ J k wr ∧ Hid (wr.heap[gc]? = some (.cells #[.int .i64 n, .int .i64 f, .int .i64 d, .int .i64 p, .int .i64 r, .int .i64 dr, .int .i64 o, .int .i64 sl, .int .i64 md, .int .i64 fr, .slice ad zs.length cap] 24 (0, 0))))
    (fun i _ => R - (intV i).toNat)
  case atStart => exact ⟨0, Nat.zero_le _, rfl, h0, HK⟩
  case round =>
    obtain ⟨k, hk, rfl, hJs, hb2⟩ := hrel
    by_cases hlt : k < R
    · have c2 := fun i => blk_cell hb2.out i
      obtain ⟨q1, q2⟩ := xd_bd hR hd hlt
      obtain ⟨fn, tmps, assign, body, hy, hRd⟩ := hY k wr hlt hJs
      clear hY hJs hd h0
      gi_wp2
      refine hRd.mono ?_
      rintro e W3 ⟨rfl, hJ3, hk3, _⟩
      have hb3 := hidden (hKp _ _ hk3 hb2.out)
      gi_wp2
      go_roundw
      case rel => exact ⟨k + 1, by omega, by simp, hJ3, hb3⟩
      case measure => simp [intV]; omega
    · obtain rfl : k = R := by omega
      gi_wp2
      go_end0
      exact ⟨⟨_, rfl⟩, hJs⟩
end Go.Proofs.YtkolhbacgoafcaaGreat

/- The call stretches of package pipe hands back an iterator that hands its rounds each exchange with the codes of its stretch; conditions: the table lies where it says, the codes have a place for each. -/
namespace Go.Proofs.YtkolhbacgoafcaaGreat
open Go.ChangeShapes Go.WideShapes Go.ChangeAt Go.RowKit Go.Shelf
set_option linter.unusedVariables false
attribute [local go_sem] Oper.semAt_some

/-- What a round over stretches keeps: configurations, functions, and one more block. -/
def KpT (gs : Nat) (X Y : World) : Prop := ∀ (b : Nat) (C : Array Value) (t : TypeId) (fr : Nat × Nat), X.heap[b]? = some (.cells C t fr) → (t = 24 ∨ t = 79 ∨ b = gs) → Y.heap[b]? = some (.cells C t fr)
theorem KpT.t {gs : Nat} {X Y Z : World} (h : KpT gs X Y) (k : KpT gs Y Z) : KpT gs X Z := fun b C t fr hb ht => k b C t fr (h b C t fr hb ht) ht
theorem KpT.refl (gs : Nat) (X : World) : KpT gs X X := fun _ _ _ _ h _ => h
theorem KpT.put {gs : Nat} (W : World) (l : Nat) (o o' : Obj) (hl : W.heap[l]? = some o) (ho : o.isCells = false) : KpT gs W (W.putObj l o') := fun b C t fr hb _ => by
  refine (World.putObj_heap_other (fun e => ?_)).trans hb
  subst e
  rw [hb] at hl
  cases hl
  cases ho
theorem KpT.below {gs : Nat} {X Y : World} (h : Below X.heap.size X Y) : KpT gs X Y := fun b C t fr hb _ => blk_later hb h
theorem KpT.grown {gs g : Nat} {X Y : World} {C : Array Value} {t : TypeId} {fr : Nat × Nat} (h : X.grownBy Y (some g)) (hg : X.heap[g]? = some (.cells C t fr)) (h1 : t ≠ 24) (h2 : t ≠ 79) (h3 : g ≠ gs) : KpT gs X Y := fun b C' t' fr' hb ht => by
  refine (h.block b (blk_lt hb) (fun e => ?_)).trans hb
  cases e
  rw [hg] at hb
  cases hb
  rcases ht with ht | ht | ht
  · exact h1 ht
  · exact h2 ht
  · exact h3 ht
theorem stretch_cut (g P D L cap : Nat) (hD : 1 ≤ D) (hc : P + D ≤ cap) (W : World) : (Instr.slice 52 (.slice (some ⟨g, 0, none⟩) L cap) (some (.int .i64 (P : Int))) (some (.int .i64 ((P : Int) + (D : Int)))) (some (.int .i64 ((P : Int) + (D : Int))))).run Tryz.prog W = .ok (.slice (some ⟨g, P, none⟩) D D) W := by
  have ht : Tryz.prog.underlying 52 = some (.slice (Tryz.prog.elem 52)) := by kernel_rfl
  rw [run_slice_lhm W 52 _ L cap ht .i64 .i64 .i64 (P : Int) ((P : Int) + (D : Int)) ((P : Int) + (D : Int)) (by omega) (by omega) (by omega) (by omega)]
  have hz : (sizeOf (Tryz.prog.elem 52)).run Tryz.prog W = .ok 1 W := by kernel_rfl
  rw [hz]
  have e1 : ((P : Int) + (D : Int)).toNat = P + D := by omega
  simp only [Result.andThen, sliced, e1, Int.toNat_natCast]
  rw [if_neg (by omega), show P + D - P = D by omega]
  simp [Addr.add]
  intro h
  omega

theorem stretches_any (n f d p r dr o sl md fr : Int) (ad : Option Addr) (cap : Nat) (zs : List Int) (a2 : Option Addr) (L c2 : Nat) (w : World) :
    Calls Tryz.prog 25 #[.agg #[.int .i64 n, .int .i64 f, .int .i64 d, .int .i64 p, .int .i64 r, .int .i64 dr, .int .i64 o, .int .i64 sl, .int .i64 md, .int .i64 fr, .slice ad zs.length cap], .slice a2 L c2] w fun e w' => ∃ gc gs, e = .returned (.func (.func 49) #[] #[.pointer (some ⟨gc, 0, none⟩), .pointer (some ⟨gs, 0, none⟩)]) ∧ w'.heap[gc]? = some (.cells #[.int .i64 n, .int .i64 f, .int .i64 d, .int .i64 p, .int .i64 r, .int .i64 dr, .int .i64 o, .int .i64 sl, .int .i64 md, .int .i64 fr, .slice ad zs.length cap] 24 (0, 0)) ∧ w'.heap[gs]? = some (.cells #[.slice a2 L c2] 52 (0, 0)) ∧ w.heap.size ≤ gs ∧ Below w.heap.size w w' := by
  have hmf : ∀ (fn : Fn) (first cap : Array Value) (w : World), (Instr.makeFunc fn first cap).run Tryz.prog w = .ok (.func fn first cap) w := fun _ _ _ _ => rfl
  have k1 := blk_nw w #[.int .i64 n, .int .i64 f, .int .i64 d, .int .i64 p, .int .i64 r, .int .i64 dr, .int .i64 o, .int .i64 sl, .int .i64 md, .int .i64 fr, .slice ad zs.length cap] 24
  have k2 := blk_newAt (w.alloc (.cells #[.int .i64 n, .int .i64 f, .int .i64 d, .int .i64 p, .int .i64 r, .int .i64 dr, .int .i64 o, .int .i64 sl, .int .i64 md, .int .i64 fr, .slice ad zs.length cap] 24)) #[.slice a2 L c2] 52 (b := w.heap.size + 1) (by simp)
  have K1 := hidden (blk_later k1 (ballc _ (.cells #[.slice a2 L c2] 52)))
  have K2 := hidden k2
  have HB := hidden (bthen (ballc w (.cells #[.int .i64 n, .int .i64 f, .int .i64 d, .int .i64 p, .int .i64 r, .int .i64 dr, .int .i64 o, .int .i64 sl, .int .i64 md, .int .i64 fr, .slice ad zs.length cap] 24)) (ballc _ (.cells #[.slice a2 L c2] 52)))
  clear k1 k2
  go_enter Tryz.func25, Tryz.ntmps25
  go_wp2
  go_ret
  exact ⟨_, _, rfl, K1.out, K2.out, by omega, HB.out⟩

set_option maxRecDepth 100000 in
set_option maxHeartbeats 4000000 in
theorem str_gives (n f d p r dr o sl md fr : Int) (ad : Option Addr) (cap : Nat) (zs : List Int) (R D L cap' : Nat) (hR15 : R ≤ 15) (hd : R = 0 ∨ (d = (D : Int) ∧ 1 ≤ D ∧ D ≤ 4)) (m : Nat) (hm : 4 ≤ m) (gc gs g : Nat) (w : World) (hl : zs.length ≤ 9223372036854775807) (hT : Tab w ad zs) (hR : gate (plainE n f d p r dr o sl md fr zs) (3 * (f + 1)) = (R : Int))
    (b1 : w.heap[gc]? = some (.cells #[.int .i64 n, .int .i64 f, .int .i64 d, .int .i64 p, .int .i64 r, .int .i64 dr, .int .i64 o, .int .i64 sl, .int .i64 md, .int .i64 fr, .slice ad zs.length cap] 24 (0, 0))) (b2 : w.heap[gs]? = some (.cells #[.slice (some ⟨g, 0, none⟩) L cap'] 52 (0, 0))) (hcap : R * D ≤ cap') :
    Gives m 49 #[.pointer (some ⟨gc, 0, none⟩), .pointer (some ⟨gs, 0, none⟩)] R (fun k => #[.int .i64 (k : Int), .slice (some ⟨g, k * D, none⟩) D D]) (KpT gs) w := by
  intro l J W hW hJ hY h0
  have hro : Fence.wide.round = none := rfl
  have h1 : 1 ≤ m := by omega
  have hfa : Fence.wide.fn 50 := trivial
  replace b1 := blk_later b1 hW
  replace b2 := blk_later b2 hW
  replace hT := hT.below hW
  have hJa := hJ.alloc (.cells #[.func (.yield l) #[] #[]] 79) h0
  have HB0 := hidden (ballc W (.cells #[.func (.yield l) #[] #[]] 79))
  have K1 := hidden (blk_later b1 HB0.out)
  have K2 := hidden (blk_later b2 HB0.out)
  have K3 := hidden (blk_nw W #[.func (.yield l) #[] #[]] 79)
  have HA := hidden (fun V h => Ages_any n f d p r dr o sl md fr ad cap zs R V hl h hR)
  have HT := hidden (hT.below HB0.out)
  have HJ := hidden hJa
  have c1 := fun i => blk_cell b1 i
  have l1 := blk_lt b1
  clear hT hW h0 hJa b1 b2
  refine callsIn_of_wp_marks Tryz.func49 rfl trivial ?_ hro
  simp only [Tryz.ntmps49, List.size_toArray, List.length_cons, List.length_nil, Nat.reduceAdd, Nat.reduceSub, Array.replicate_succ, Array.replicate_zero, List.push_toArray, List.append_toArray, List.nil_append, List.cons_append]
  gi_wp2_with (gi_at_call 50; refine (callsIn_wide.2 (HA.out _ HT.out)).mono ?_; rintro e w0 ⟨gr, ga, rfl, d1, d2, hb⟩)
  have E1 := hidden (blk_later K1.out hb)
  have E2 := hidden (blk_later K2.out hb)
  have E3 := hidden (blk_later K3.out hb)
  have HB := hidden (bthen HB0.out hb)
  have HJ0 : Hid (J 0 w0) := own_below' hJ HJ.out hb
  clear hb HA HT c1 K1 K2 K3 HJ
  refine rf_gives (gf := 68) (lb := #[.pointer (some ⟨gr, 0, none⟩), .pointer (some ⟨ga, 0, none⟩)]) rfl (enters_of Tryz.func68 (by kernel_rfl) rfl)
    (ages_gives n f d p r dr o sl md fr ad cap zs R hR15 (by omega) (m - 1) (by omega) gr ga (KpT gs) (fun X Y hk hx => hk ga _ _ _ hx (.inl rfl)) w0 d1 d2) (Below.refl _ _) (fun _ => rfl) KpT.t (fun V l o o' _ h1 h2 => KpT.put V l o o' h1 h2)
    (fun k V => J k V ∧ V.heap[gc]? = some (.cells #[.int .i64 n, .int .i64 f, .int .i64 d, .int .i64 p, .int .i64 r, .int .i64 dr, .int .i64 o, .int .i64 sl, .int .i64 md, .int .i64 fr, .slice ad zs.length cap] 24 (0, 0)) ∧ V.heap[gs]? = some (.cells #[.slice (some ⟨g, 0, none⟩) L cap'] 52 (0, 0)) ∧ V.heap[W.heap.size]? = some (.cells #[.func (.yield l) #[] #[]] 79 (0, 0)))
    ?own ⟨HJ0.out, E1.out, E2.out, E3.out⟩
    (fun k => { tmps := #[.func (.yield l) #[] #[], .pointer (some ⟨gc, 0, none⟩), .pointer (some ⟨gs, 0, none⟩), .pointer (some ⟨W.heap.size, 0, none⟩), .int .i64 (k : Int), .int .i64 ((k : Int) * d), undef, .agg #[.int .i64 n, .int .i64 f, .int .i64 d, .int .i64 p, .int .i64 r, .int .i64 dr, .int .i64 o, .int .i64 sl, .int .i64 md, .int .i64 fr, .slice ad zs.length cap], .func (.func 68) #[] #[.pointer (some ⟨gr, 0, none⟩), .pointer (some ⟨ga, 0, none⟩)], .int .i64 (k : Int), .int .i64 ((k : Int) * d), undef, undef, undef, undef, undef, undef, undef, undef, undef, undef, undef, undef, undef], defers := [] })
    ?assign ?body ?done
  case own => exact OwnFrom.and (own_up hJ (Nat.le_trans (by simp) HB.out.size)) (OwnFrom.and (cells_own _ _ _ _) (OwnFrom.and (cells_own _ _ _ _) (cells_own _ _ _ _)))
  case assign =>
    intro l2 k V K hK
    gi_wp2
    exact hK
  case body =>
    rintro l2 k V hl2 hk ⟨hJk, e1, e2, e3⟩
    obtain ⟨rfl, hD1, hD4⟩ : d = (D : Int) ∧ 1 ≤ D ∧ D ≤ 4 := by rcases hd with h | h; omega; exact h
    have hbd : Below V.heap.size V V.drew := (Below.refl _ V).drew
    obtain ⟨fn, tmps, assign, body, hy, hRd⟩ := hY k V.drew hk (own_below' hJ hJk hbd)
    have hmix : Tryz.prog.follows .mixedOrders = true := by kernel_rfl
    have hkD : k * D + D ≤ R * D := by rw [← Nat.succ_mul]; exact Nat.mul_le_mul_right D hk
    have hR60 : R * D ≤ 60 := Nat.mul_le_mul hR15 hD4
    have cut := stretch_cut g (k * D) D L cap' hD1 (by omega)
    have hP : (k : Int) * (D : Int) = ((k * D : Nat) : Int) := by simp
    rw [hP]
    have HF : Hid (∀ X : World, KeepsFrom W.heap.size V.drew X → KeepsFrom w0.heap.size V X) := fun X h => from_up (⟨h.size, h.same⟩ : KeepsFrom W.heap.size V X) (show W.heap.size ≤ w0.heap.size from Nat.le_trans (by simp) HB.out.size)
    have c1 : V.cell? ⟨gc, 2, none⟩ = some (.int .i64 (D : Int)) := blk_cell e1 2
    have c2 : V.cell? ⟨gs, 0, none⟩ = some (.slice (some ⟨g, 0, none⟩) L cap') := blk_cell e2 0
    have c3 : V.cell? ⟨W.heap.size, 0, none⟩ = some (.func (.yield l) #[] #[]) := blk_cell e3 0
    have HE1 := hidden e1
    have HE2 := hidden e2
    have HE3 := hidden e3
    generalize hPP : k * D = P at *
    clear hY hJk hd e1 e2 e3 hP hl hJ hR
    have hP60 : P ≤ 60 := by omega
    clear hkD hR60 hcap
    gi_wp2
    refine wpIn_region_any hmix ?_
    change wpAnyIn _ _ _ _ _ _ _ _ _ V.drew
    refine any_round (no_defer (by kernel_rfl)) _ _ _ _ ?_
    refine wpAnyIn_take (i := 1) (v := .int .i64 (k : Int)) rfl rfl (by kernel_rfl) (by kernel_rfl) (by kernel_rfl) (fun _ _ _ h => h) ⟨Or.inl ⟨by rfl, fun X => by go_simp⟩, fun _ => rfl⟩ ?_
    refine wpAnyIn_take (i := 3) (v := .int .i64 (P : Int)) rfl rfl (by kernel_rfl) (by kernel_rfl) (by kernel_rfl) (fun _ _ _ h => h) ⟨Or.inl ⟨by rfl, fun X => by go_simp⟩, fun _ => rfl⟩ ?_
    refine wpAnyIn_take (i := 4) (v := .int .i64 ((P : Int) + (D : Int))) rfl rfl (by kernel_rfl) (by kernel_rfl) (by kernel_rfl) (fun _ _ _ h => h) ⟨Or.inl ⟨by rfl, fun X => by go_simp⟩, fun _ => rfl⟩ ?_
    refine wpAnyIn_take (i := 5) (v := .int .i64 ((P : Int) + (D : Int))) rfl rfl (by kernel_rfl) (by kernel_rfl) (by kernel_rfl) (fun _ _ _ h => h) ⟨Or.inl ⟨by rfl, fun X => by go_simp⟩, fun _ => rfl⟩ ?_
    refine wpAnyIn_ready (rs := [0, 2]) (by kernel_rfl) (by simp) ?_
    refine AllReadyIn.cons rfl (fun K hK => ?_) ?_
    · rw [if_pos (by rfl)]
      go_simp
      refine hK _ _ ?_
      clear hK K
      refine wpAnyIn_ready (rs := [2]) (by kernel_rfl) (by simp) ?_
      refine AllReadyIn.cons rfl (fun K hK => ?_) ?_
      · rw [if_pos (by rfl)]
        go_simp
        refine hK _ _ ?_
        clear hK K
        refine wpAnyIn_take (i := 6) (v := .slice (some ⟨g, P, none⟩) D D) rfl rfl (by kernel_rfl) (by kernel_rfl) (by kernel_rfl) (fun _ _ _ h => h) ⟨Or.inl ⟨by rfl, fun X => by (go_simp)⟩, fun _ => rfl⟩ ?_
        refine wpAnyIn_ready (rs := [7]) (by kernel_rfl) (by simp) ?_
        refine AllReadyIn.cons rfl (fun K hK => ?_) ?_
        · rw [if_pos (by rfl)]
          go_simp
          refine ⟨fun h => (by cases h), RoundIn.mono (round_dep hRd) ?_⟩
          rintro e V' ⟨rfl, hJ', hk', hf'⟩
          refine hK _ _ ?_
          clear hK K
          refine wpAnyIn_take (i := 8) (v := .bool false) rfl rfl (by kernel_rfl) (by kernel_rfl) (by kernel_rfl) (fun _ _ _ h => h) ⟨Or.inl ⟨by rfl, fun X => by go_simp⟩, fun _ => rfl⟩ ?_
          refine wpAnyIn_done (by kernel_rfl) ?_ _
          gi_wp2
          exact ⟨HF.out _ hf', hk', hJ', hk' gc _ _ _ HE1.out (.inl rfl), hk' gs _ _ _ HE2.out (.inr (.inr rfl)), hk' _ _ _ _ HE3.out (.inr (.inl rfl))⟩
        · exact AllReadyIn.nil
      · exact AllReadyIn.nil
    · refine AllReadyIn.cons rfl (fun K hK => ?_) ?_
      · rw [if_pos (by rfl)]
        go_simp
        refine hK _ _ ?_
        clear hK K
        refine wpAnyIn_take (i := 6) (v := .slice (some ⟨g, P, none⟩) D D) rfl rfl (by kernel_rfl) (by kernel_rfl) (by kernel_rfl) (fun _ _ _ h => h) ⟨Or.inl ⟨by rfl, fun X => by (go_simp)⟩, fun _ => rfl⟩ ?_
        refine wpAnyIn_ready (rs := [0]) (by kernel_rfl) (by simp) ?_
        refine AllReadyIn.cons rfl (fun K hK => ?_) ?_
        · rw [if_pos (by rfl)]
          go_simp
          refine hK _ _ ?_
          clear hK K
          refine wpAnyIn_ready (rs := [7]) (by kernel_rfl) (by simp) ?_
          refine AllReadyIn.cons rfl (fun K hK => ?_) ?_
          · rw [if_pos (by rfl)]
            go_simp
            refine ⟨fun h => (by cases h), RoundIn.mono (round_dep hRd) ?_⟩
            rintro e V' ⟨rfl, hJ', hk', hf'⟩
            refine hK _ _ ?_
            clear hK K
            refine wpAnyIn_take (i := 8) (v := .bool false) rfl rfl (by kernel_rfl) (by kernel_rfl) (by kernel_rfl) (fun _ _ _ h => h) ⟨Or.inl ⟨by rfl, fun X => by go_simp⟩, fun _ => rfl⟩ ?_
            refine wpAnyIn_done (by kernel_rfl) ?_ _
            gi_wp2
            exact ⟨HF.out _ hf', hk', hJ', hk' gc _ _ _ HE1.out (.inl rfl), hk' gs _ _ _ HE2.out (.inr (.inr rfl)), hk' _ _ _ _ HE3.out (.inr (.inl rfl))⟩
          · exact AllReadyIn.nil
        · exact AllReadyIn.nil
      · exact AllReadyIn.nil
  case done =>
    rintro D2 V hD2 ⟨hJR, _⟩ hK
    gi_wp2
    refine ⟨by simp, .inl ⟨_, _, rfl, run_takeDeferred hK, ?_⟩⟩
    exact ⟨_, results_none rfl _ _ _, ⟨_, rfl⟩, own_put hJ hJR (Nat.le_trans (Nat.le_trans (by simp) HB.out.size) hD2) hK⟩
end Go.Proofs.YtkolhbacgoafcaaGreat

/- The call Tell of package pipe returns what is told of each exchange's code, and makes at most new memory; conditions: the table lies where it says, lengths fit int. -/
namespace Go.Proofs.YtkolhbacgoafcaaGreat
open Go.ChangeShapes Go.WideShapes Go.ChangeAt Go.RowKit Go.Shelf
set_option linter.unusedVariables false
attribute [local go_sem] Oper.semAt_some

/-- Rows of bytes. -/
def kU8 : Kind UInt8 := ⟨1, fun c => [.int .u8 (c.toNat : Int)], fun _ => rfl, by intro a u hu; simp at hu; subst hu; rfl, by decide⟩
theorem kU8_flat (l : List UInt8) : kU8.flat l = u8s l := by
  induction l with
  | nil => rfl
  | cons a l ih => simp only [Kind.flat, List.flatMap_cons, u8s, List.map_cons] at ih ⊢; rw [ih]; rfl
/-- What is told at this tick, as codes. -/
def tellL (D : Nat) (l : List UInt8) (R : Nat) : List UInt8 := (List.range R).map fun x => at8 l (x * D)
theorem tellL_s (D : Nat) (l : List UInt8) (k : Nat) : tellL D l (k + 1) = tellL D l k ++ [at8 l (k * D)] := by simp [tellL, List.range_succ]
theorem tellL_len (D : Nat) (l : List UInt8) (R : Nat) : (tellL D l R).length = R := by simp [tellL]
theorem fblk_own {β : Type} (B g : Nat) (l : List UInt8) : OwnFrom B (fun (_ : β) W => FBlk W g l) := fun s X Y row hs hg hr =>
  hs.kept hg (fun e => by
    obtain ⟨_, o, ho, hc⟩ := hr g e.symm
    obtain ⟨C, h1, _⟩ := hs
    rw [h1] at ho
    cases ho
    cases hc)
theorem KpT.set {gs : Nat} {X : World} {B : Nat} {C : Array Value} {t : TypeId} {fr : Nat × Nat} (hg : X.heap[B]? = some (.cells C t fr)) (h1 : t ≠ 24) (h2 : t ≠ 79) (h3 : B ≠ gs) (v : Value) : KpT gs X (X.setCell ⟨B, 0, none⟩ v) := KpT.grown (grownBy_setCell' X B v) hg h1 h2 h3
theorem KpT.row {gs : Nat} {X Y : World} {base n : Nat} {v : Value} {xs : List Value} {H : Array Value} {u : TypeId} {p : Nat × Nat} (hr : X.ownsRow base 5 1 v n xs) (hg : X.grownBy Y v.ownBlock) (hgs : X.heap[gs]? = some (.cells H u p)) (hu : u ≠ 5) : KpT gs X Y := by
  rcases hr.2 with ⟨rfl, _⟩ | ⟨g, cap, cur, rfl, _, hb, _⟩
  · intro b C t fr hx _
    exact (hg.block b (blk_lt hx) (by simp [Value.ownBlock])).trans hx
  · refine KpT.grown (g := g) (by simpa [Value.ownBlock] using hg) hb (by decide) (by decide) (fun e => ?_)
    subst e
    rw [hb] at hgs
    cases hgs
    exact hu rfl
theorem FBlk.row {X Y : World} {g base n : Nat} {l : List UInt8} {v : Value} {xs : List Value} (h : FBlk X g l) (hr : X.ownsRow base 5 1 v n xs) (hg : X.grownBy Y v.ownBlock) : FBlk Y g l := by
  refine h.kept hg (fun e => ?_)
  obtain ⟨C, h1, _⟩ := h
  rcases hr.2 with ⟨rfl, _⟩ | ⟨g2, cap, cur, rfl, _, hb, _⟩
  · cases e
  · have e2 : g = g2 := by simpa [Value.ownBlock] using e
    subst e2
    rw [h1] at hb
    simp at hb
theorem conv_u8 {W : World} {base n : Nat} {v : Value} {l : List UInt8} (h : W.ownsRow base 5 1 v n (kU8.flat l)) (hl : l.length = n) : (convert 52 9 v).run Tryz.prog W = .ok (.string (ba l)) W := by
  subst hl
  rcases h.2 with ⟨rfl, h0⟩ | ⟨g, cap, cur, rfl, hb, hg, h1, h2, h3, h4⟩
  · have : l = [] := List.length_eq_zero_iff.1 h0
    subst this
    rw [run_convert_bytes_string _ 52 9 5 _ _ _ Tryz.underlying52 Tryz.underlying5 Tryz.underlying9]
    rfl
  · refine run_convert_bytes_back W 52 9 5 ⟨g, 0, none⟩ _ l Tryz.underlying52 Tryz.underlying5 Tryz.underlying9 (fun j hj => ?_)
    rw [add_plain, Nat.zero_add]
    simp only [World.cell?, hg]
    have : (cur.toList.take (l.length * 1))[j]? = (u8s l)[j]? := by rw [h4, kU8_flat]
    rw [List.getElem?_take, if_pos (by omega)] at this
    rw [← Array.getElem?_toList, this]
    simp [u8s, hj]
theorem stepIn_append {P : Program} {n : Nat} {o : Oper} {a : Act} {w w' : World} {K : Act → World → Prop} {Q : Exit → Act → World → Prop} (s x : Operand) (t : TypeId) (ho : o.op = .call { callee := .builtin .append, args := #[s, x], argTypes := #[t, t] }) (vs vx v' : Value) (hs : a.eval s = vs) (hx : a.eval x = vx) (hrun : (Builtin.append_ #[t, t] o.type #[vs, vx]).run P w = .ok v' w') (h : K (a.put o.dst v') w') : Oper.wpIn Fence.wide n P o a w K Q := by
  unfold Oper.wpIn
  refine ⟨fun f hf => trivial, ?_⟩
  rw [show Fence.wide.round = none from rfl, Oper.semAt_none]
  simp [execOp, ho, resolve, invoke, builtin, hs, hx, hrun, Result.andThen]
  exact h
theorem infoU8 : (Tryz.prog.info? 5).map (fun i => (i.zero, i.size, i.bytes)) = some (some (.int .u8 0), 1, 1) := by kernel_rfl

end Go.Proofs.YtkolhbacgoafcaaGreat

/- The calls Move and Begin of package pipe return a pipe a tick later with what is done, and a pipe with a new instance in it, and make at most new memory; conditions: rows lie where they say, lengths fit int, at most a hundred thousand votes. -/
namespace Go.Proofs.YtkolhbacgoafcaaGreat
open Go.ChangeShapes Go.WideShapes Go.ChangeAt Go.RowKit Go.Shelf
set_option linter.unusedVariables false
attribute [local go_sem] Oper.semAt_some

theorem keeps_below {X Y : World} (h : Below X.heap.size X Y) : KeepsOthers X Y := ⟨h.size, fun k o hk _ => blk_later hk h⟩
theorem keeps_blk {X Y : World} {g : Nat} {l : List UInt8} (h : FBlk X g l) (hg : X.grownBy Y (some g)) : KeepsOthers X Y := KeepsOthers.of_grownBy hg fun j o e hj => by
  obtain ⟨C, h1, _⟩ := h
  cases e
  rw [h1] at hj
  cases hj
  rfl
theorem FBlk.ne {X : World} {g b : Nat} {l : List UInt8} (h : FBlk X g l) {C : Array Value} {t : TypeId} {fr : Nat × Nat} (hb : X.heap[b]? = some (.cells C t fr)) (ht : t ≠ 5) : b ≠ g := by
  obtain ⟨C2, h1, _⟩ := h
  intro e
  subst e
  rw [h1] at hb
  cases hb
  exact ht rfl
theorem FBlk.keep {X Y : World} {g b : Nat} {l : List UInt8} (h : FBlk X g l) (hg : X.grownBy Y (some g)) {C : Array Value} {t : TypeId} {fr : Nat × Nat} (hb : X.heap[b]? = some (.cells C t fr)) (ht : t ≠ 5) : Y.heap[b]? = some (.cells C t fr) :=
  (hg.block b (blk_lt hb) (fun e => h.ne hb ht (by cases e; rfl))).trans hb
theorem KpT.blk {gs : Nat} {X Y : World} {g : Nat} {l : List UInt8} (h : FBlk X g l) (hg : X.grownBy Y (some g)) (h3 : g ≠ gs) : KpT gs X Y := by
  obtain ⟨C, h1, _⟩ := h
  exact KpT.grown hg h1 (by decide) (by decide) h3
/-- What an instance ends with. -/
def endF (b : UInt8) : Int := if valG (ba [b]) 0 = 1 then 1 else 0
/-- What an exchange makes of a code, with these votes. -/
def hrdF (n f d p r dr o sl md fr : Int) (ad : Option Addr) (cap : Nat) (zs : List Int) (votes : List ByteArray) (x : Nat) (b : UInt8) : UInt8 := hrdB (plainE n f d p r dr o sl md fr zs) n f votes x b

set_option maxRecDepth 100000 in
set_option maxHeartbeats 4000000 in
theorem Move_in (n f d p r dr o sl md fr : Int) (ad : Option Addr) (cap : Nat) (zs : List Int) (R D L : Nat) (s : ByteArray) (hs : s.size ≤ 9223372036854775807) (a2 : Option Addr) (c2 : Nat) (votes : List ByteArray) (w : World) (hl : zs.length ≤ 9223372036854775807) (hT : Tab w ad zs) (hR : gate (plainE n f d p r dr o sl md fr zs) (3 * (f + 1)) = (R : Int)) (hL : gate (plainE n f d p r dr o sl md fr zs) (3 * (f + 1) * d) = (L : Int))
    (hR15 : R ≤ 15) (hL60 : L ≤ 60) (hLD : L = R * D) (hd : R = 0 ∨ (d = (D : Int) ∧ 1 ≤ D ∧ D ≤ 4)) (hn : votes.length ≤ 100000) (hV : kStr.Lies w.heap.size w (.slice a2 votes.length c2) votes) (hz : ∀ t ∈ votes, t.size ≤ 9223372036854775807) :
    CallsIn Fence.wide 8 Tryz.prog 11 #[.agg #[.int .i64 n, .int .i64 f, .int .i64 d, .int .i64 p, .int .i64 r, .int .i64 dr, .int .i64 o, .int .i64 sl, .int .i64 md, .int .i64 fr, .slice ad zs.length cap], .string s, .slice a2 votes.length c2] w fun e W' => e = .returned (.tuple #[.string (ba (newL (hrdF n f d p r dr o sl md fr ad cap zs votes) D (wellL L s))), .int .i64 (endF (newB (hrdF n f d p r dr o sl md fr ad cap zs votes) D (wellL L s) L))]) ∧ Below w.heap.size w W' := by
  have hro : Fence.wide.round = none := rfl
  have HB0 := hidden (bthen (ballc w (.cells #[.int .i64 n, .int .i64 f, .int .i64 d, .int .i64 p, .int .i64 r, .int .i64 dr, .int .i64 o, .int .i64 sl, .int .i64 md, .int .i64 fr, .slice ad zs.length cap] 24)) (ballc _ (.cells #[.slice a2 votes.length c2] 25)))
  have CC := hidden (fun V h => codesOf_any n f d p r dr o sl md fr ad cap zs L s hs V hl h hL hL60)
  have CS := hidden (fun (a2 : Option Addr) (c2 : Nat) V => stretches_any n f d p r dr o sl md fr ad cap zs a2 L c2 V)
  have CH := hidden (fun (x : Nat) (hx : x < R) (b : UInt8) V h h2 => hear_any n f d p r dr o sl md fr ad cap zs R x hx hR15 b a2 c2 votes V hl h hR hn h2 hz)
  have k0 := blk_later (blk_nw w #[.int .i64 n, .int .i64 f, .int .i64 d, .int .i64 p, .int .i64 r, .int .i64 dr, .int .i64 o, .int .i64 sl, .int .i64 md, .int .i64 fr, .slice ad zs.length cap] 24) (ballc _ (.cells #[.slice a2 votes.length c2] 25))
  have k1 := blk_newAt (w.alloc (.cells #[.int .i64 n, .int .i64 f, .int .i64 d, .int .i64 p, .int .i64 r, .int .i64 dr, .int .i64 o, .int .i64 sl, .int .i64 md, .int .i64 fr, .slice ad zs.length cap] 24)) #[.slice a2 votes.length c2] 25 (b := w.heap.size + 1) (by simp)
  have HT := hidden hT
  have HVV := hidden hV
  have HG := hidden (fun (cap' gc gs g : Nat) V (h : Tab V ad zs) b1 b2 hc => str_gives n f d p r dr o sl md fr ad cap zs R D L cap' hR15 hd 7 (by omega) gc gs g V hl h hR b1 b2 hc)
  have HWL := hidden (wellL_len L s)
  have HLD := hidden hLD
  have K0 := hidden k0
  have K1 := hidden k1
  have hsz0 : Hid (((w.alloc (.cells #[.int .i64 n, .int .i64 f, .int .i64 d, .int .i64 p, .int .i64 r, .int .i64 dr, .int .i64 o, .int .i64 sl, .int .i64 md, .int .i64 fr, .slice ad zs.length cap] 24)).alloc (.cells #[.slice a2 votes.length c2] 25)).heap.size = w.heap.size + 1 + 1) := by show _ = _; simp
  clear hT hR hL hLD hV hz k0 k1
  refine callsIn_of_wp_marks Tryz.func11 rfl trivial ?_ hro
  simp only [Tryz.ntmps11, List.size_toArray, List.length_cons, List.length_nil, Nat.reduceAdd, Nat.reduceSub, Array.replicate_succ, Array.replicate_zero, List.push_toArray, List.append_toArray, List.nil_append, List.cons_append]
  refine wpIn_wide.2 ?_
  have c0 := blk_cell K0.out
  have l0 := blk_lt K0.out
  go_wp2_with fail
  refine (CC.out _ (HT.out.below HB0.out)).mono ?_
  rintro e w2 ⟨g, cap', rfl, hF, hg, hcap, hb⟩
  have E0 := hidden (blk_later K0.out hb)
  have E1 := hidden (blk_later K1.out hb)
  have HB2 := hidden (bthen HB0.out hb)
  have hs2 : w.heap.size + 1 < w2.heap.size := by have h1 := hsz0.out; have h2 := hb.size; omega
  have hgw : w.heap.size + 1 < g := by have h1 := hsz0.out; omega
  clear hb CC c0 l0
  have c0 := blk_cell E0.out
  have l0 := blk_lt E0.out
  have lF := hF.lt
  have K3 := hidden (blk_nw w2 #[.string ⟨#[48]⟩] 9)
  have HF3 := hidden (hF.later (ballc w2 (.cells #[.string ⟨#[48]⟩] 9)))
  have HE03 := hidden (blk_later E0.out (ballc w2 (.cells #[.string ⟨#[48]⟩] 9)))
  have HE13 := hidden (blk_later E1.out (ballc w2 (.cells #[.string ⟨#[48]⟩] 9)))
  have HB3 := hidden (bthen HB2.out (ballc w2 (.cells #[.string ⟨#[48]⟩] 9)))
  have HS3 : Hid ((w2.alloc (.cells #[.string ⟨#[48]⟩] 9)).heap.size = w2.heap.size + 1) := by show _ = _; simp
  go_wp2_with fail
  refine (CS.out _ _ _).mono ?_
  rintro e w5 ⟨gc, gs, rfl, e1, e2, hgs, hb5⟩
  rw [HS3.out] at hgs
  have B9 : Boxed w5 w2.heap.size 9 (.string ⟨#[48]⟩) := blk_later K3.out hb5
  have HF5 := hidden (HF3.out.later hb5)
  have E05 := hidden (blk_later HE03.out hb5)
  have E15 := hidden (blk_later HE13.out hb5)
  have HB5 := hidden (bthen HB3.out hb5)
  have hs5 : w2.heap.size < w5.heap.size := by have h1 := hb5.size; rw [HS3.out] at h1; omega
  have hGI := HG.out cap' gc gs g w5 (HT.out.below HB5.out) e1 e2 (by rw [← HLD.out]; exact hcap)
  have HE2 := hidden e2
  clear hb5 CS HG K3 HF3 HE03 HE13 HB3 e1 e2 hF
  go_wp2
  refine (wpIn_wide (n := 8)).1 ?_
  refine rf_gives (gf := 49) (lb := #[.pointer (some ⟨gc, 0, none⟩), .pointer (some ⟨gs, 0, none⟩)]) rfl (enters_of Tryz.func49 (by kernel_rfl) rfl)
    hGI (Below.refl _ _) (fun _ => rfl) KpT.t (fun V l o o' _ h1 h2 => KpT.put V l o o' h1 h2)
    (fun k V => FBlk V g (mixL (hrdF n f d p r dr o sl md fr ad cap zs votes) D (wellL L s) k) ∧ Boxed V w2.heap.size 9 (.string (ba [newB (hrdF n f d p r dr o sl md fr ad cap zs votes) D (wellL L s) (k * D)])) ∧ V.heap[w.heap.size]? = some (.cells #[.int .i64 n, .int .i64 f, .int .i64 d, .int .i64 p, .int .i64 r, .int .i64 dr, .int .i64 o, .int .i64 sl, .int .i64 md, .int .i64 fr, .slice ad zs.length cap] 24 (0, 0)) ∧ V.heap[w.heap.size + 1]? = some (.cells #[.slice a2 votes.length c2] 25 (0, 0)) ∧ V.heap[gs]? = some (.cells #[.slice (some ⟨g, 0, none⟩) L cap'] 52 (0, 0)) ∧ Below w.heap.size w V)
    ?own ⟨by rw [mix_0]; exact HF5.out, by rw [Nat.zero_mul, newB_0]; exact B9, E05.out, E15.out, HE2.out, HB5.out⟩
    (fun k => { tmps := #[.agg #[.int .i64 n, .int .i64 f, .int .i64 d, .int .i64 p, .int .i64 r, .int .i64 dr, .int .i64 o, .int .i64 sl, .int .i64 md, .int .i64 fr, .slice ad zs.length cap], .string s, .slice a2 votes.length c2, .pointer (some ⟨w.heap.size, 0, none⟩), undef, .pointer (some ⟨w.heap.size + 1, 0, none⟩), .string ⟨#[]⟩, .int .i64 0, .slice (some ⟨g, 0, none⟩) L cap', .pointer (some ⟨w2.heap.size, 0, none⟩), .int .i64 (k : Int), .slice (some ⟨g, k * D, none⟩) D D, undef, .agg #[.int .i64 n, .int .i64 f, .int .i64 d, .int .i64 p, .int .i64 r, .int .i64 dr, .int .i64 o, .int .i64 sl, .int .i64 md, .int .i64 fr, .slice ad zs.length cap], .string s, .slice (some ⟨g, 0, none⟩) L cap', .agg #[.int .i64 n, .int .i64 f, .int .i64 d, .int .i64 p, .int .i64 r, .int .i64 dr, .int .i64 o, .int .i64 sl, .int .i64 md, .int .i64 fr, .slice ad zs.length cap], .slice (some ⟨g, 0, none⟩) L cap', .func (.func 49) #[] #[.pointer (some ⟨gc, 0, none⟩), .pointer (some ⟨gs, 0, none⟩)], .int .i64 (k : Int), .slice (some ⟨g, k * D, none⟩) D D, undef, undef, undef, undef, undef, undef, undef, undef, undef, undef, undef, undef], defers := [] })
    ?assign ?body ?done
  case own => exact OwnFrom.and (fun k X Y row hs hg hr => (fblk_own w5.heap.size g (mixL (hrdF n f d p r dr o sl md fr ad cap zs votes) D (wellL L s) k)) () X Y row hs hg hr) (OwnFrom.and (Own.from (boxed_own _ _ _) _) (OwnFrom.and (cells_own _ _ _ _) (OwnFrom.and (cells_own _ _ _ _) (OwnFrom.and (cells_own _ _ _ _) (ownFrom_below (Nat.le_refl _) (by omega))))))
  case assign =>
    intro l2 k V K hK
    gi_wp2
    exact hK
  case body =>
    rintro l2 k V hl2 hk ⟨hf, hb9, he0, he1, he2, hB⟩
    obtain ⟨rfl, hD1, hD4⟩ : d = (D : Int) ∧ 1 ≤ D ∧ D ≤ 4 := by rcases hd with h | h; omega; exact h
    have hkL : k * D + D ≤ L := by
      rw [HLD.out, ← Nat.succ_mul]
      exact Nat.mul_le_mul_right D hk
    have hsk : (k + 1) * D = k * D + D := Nat.succ_mul k D
    have SH := shift_any g (k * D) D (mixL (hrdF n f (D : Int) p r dr o sl md fr ad cap zs votes) D (wellL L s) k) (newB (hrdF n f (D : Int) p r dr o sl md fr ad cap zs votes) D (wellL L s) (k * D)) hD1 (by omega) (by rw [mixL_len, HWL.out]; exact hkL) V hf
    rw [mix_last _ _ hD1 (by rw [HWL.out]; exact hkL), mix_step _ _ hD1 (by rw [HWL.out]; exact hkL)] at SH
    have SH := hidden SH
    have HNX : Hid (newB (hrdF n f (D : Int) p r dr o sl md fr ad cap zs votes) D (wellL L s) ((k + 1) * D) = hrdF n f (D : Int) p r dr o sl md fr ad cap zs votes k (at8 (wellL L s) (k * D + D - 1))) := by show _ = _; rw [hsk]; exact mix_come _ _ k hD1
    have HHR : Hid (∀ x b, hrdF n f (D : Int) p r dr o sl md fr ad cap zs votes x b = hrdB (plainE n f (D : Int) p r dr o sl md fr zs) n f votes x b) := fun _ _ => rfl
    have CK := hidden (fun b V h h2 => CH.out k hk b V h h2)
    have c0 := blk_cell he0
    have l0 := blk_lt he0
    have c1 := blk_cell he1 0
    have l1 := blk_lt he1
    have c9 := hb9.cell
    have l9 := hb9.lt
    have hfs : (Fence.wide.inRound l2).fn 26 := trivial
    have hfh : (Fence.wide.inRound l2).fn 27 := trivial
    have HF := hidden hf
    have H9 := hidden hb9
    have H0 := hidden he0
    have H1 := hidden he1
    have H2 := hidden he2
    have HBV := hidden hB
    clear hf hb9 he0 he1 he2 hB hkL hd hGI HE2 HF5 E05 E15 HB5 CH
    gi_wp2_with fail
    refine And.intro trivial ?_
    refine (CallsIn.inRound l2 (callsIn_wide.2 SH.out)).mono ?_
    rintro e w6 ⟨rfl, hf6, hg6⟩
    have m0 := HF.out.keep hg6 H0.out (by decide)
    have m1 := HF.out.keep hg6 H1.out (by decide)
    have m2 := HF.out.keep hg6 H2.out (by decide)
    have m9 : Boxed w6 w2.heap.size 9 _ := HF.out.keep hg6 H9.out (by decide)
    have hB6 := HBV.out.grown hg6 HBV.out.size (fun j e => by cases e; omega)
    have d0 := blk_cell m0
    have d1 := blk_cell m1 0
    have k0 := blk_lt m0
    have k1 := blk_lt m1
    have M9 := hidden m9
    have HB6 := hidden hB6
    have HF6 := hidden hf6
    have HG6 := hidden hg6
    have CX := hidden (CK.out (at8 (wellL L s) (k * D + D - 1)) w6 (HT.out.below HB6.out) (HVV.out.later HB6.out))
    clear m0 m1 m2 m9 hB6 hf6 hg6 c0 l0 c1 l1 c9 l9
    gi_wp2_with fail
    refine And.intro trivial ?_
    refine (CallsIn.inRound l2 (callsIn_wide.2 CX.out)).mono ?_
    rintro e w7 ⟨rfl, hb7⟩
    have o9 : Boxed w7 w2.heap.size 9 _ := blk_later M9.out hb7
    have q9 := o9.cell
    have q8 := o9.frozen
    have q7 := o9.lt
    gi_wp2
    have hkp : KpT gs V (w7.setCell ⟨w2.heap.size, 0, none⟩ (.string (ba [hrdB (plainE n f (D : Int) p r dr o sl md fr zs) n f votes k (at8 (wellL L s) (k * D + D - 1))]))) := ((KpT.blk HF.out HG6.out (by omega)).t (KpT.below hb7)).t (KpT.set o9 (by decide) (by decide) (by omega) _)
    refine ⟨(((keeps_blk HF.out HG6.out).trans (keeps_below hb7)).trans (KeepsOthers.setCell _ _ _)).from _, hkp, (HF6.out.later hb7).kept (grownBy_setCell' _ _ _) (fun e => by cases e; omega), ?_, hkp _ _ _ _ H0.out (.inl rfl), (heap_setCell_other _ _ _ _ (by simp; omega)).trans (blk_later (HF.out.keep HG6.out H1.out (by decide)) hb7), hkp gs _ _ _ H2.out (.inr (.inr rfl)), (bthen HB6.out hb7).setCell (p := ⟨w2.heap.size, 0, none⟩) (by simp; omega) _⟩
    rw [HNX.out, HHR.out]
    exact o9.set _
  case done =>
    rintro D2 V hD2 ⟨hf, hb9, he0, he1, he2, hB⟩ hK
    rw [mix_all _ _ _ (by rw [HWL.out, HLD.out]), ] at hf
    rw [← HLD.out] at hb9
    have HNL : Hid ((newL (hrdF n f d p r dr o sl md fr ad cap zs votes) D (wellL L s)).length = L) := by show _ = _; rw [newL_len, HWL.out]
    obtain ⟨out, hout⟩ : ∃ out, out = newL (hrdF n f d p r dr o sl md fr ad cap zs votes) D (wellL L s) := ⟨_, rfl⟩
    obtain ⟨c, hc⟩ : ∃ c, c = newB (hrdF n f d p r dr o sl md fr ad cap zs votes) D (wellL L s) L := ⟨_, rfl⟩
    rw [← hout] at hf HNL
    rw [← hc] at hb9
    have HO := hidden hout
    have HC := hidden hc
    have CE : Hid (∀ V, Calls Tryz.prog 28 #[.string (ba [c])] V fun e w' => e = .returned (.int .i64 (endF c)) ∧ Below V.heap.size V w') := fun V => endOf_any c V
    have hcv : ∀ X, Below V.heap.size V X → (convert 52 9 (.slice (some ⟨g, 0, none⟩) L cap')).run Tryz.prog X = .ok (.string (ba out)) X := fun X hX => by
      have h := (hf.later hX).text cap'
      rw [HNL.out] at h
      exact h
    have hc9 := hb9.cell
    have hl9 := hb9.lt
    have HBV := hidden hB
    have HK := hidden hK
    have hS : ∀ X, Chn V.heap.size V X → X.cell? ⟨w2.heap.size, 0, none⟩ = some (.string (ba [c])) ∧ (convert 52 9 (.slice (some ⟨g, 0, none⟩) L cap')).run Tryz.prog X = .ok (.string (ba out)) X := fun X hX => ⟨(hX.1.cell (p := ⟨w2.heap.size, 0, none⟩) hl9).trans hc9, hcv X hX.1⟩
    have hC0 : Chn V.heap.size V V := Chn.refl (Nat.le_refl _)
    clear hf hb9 he0 he1 he2 hB hK hout hc hGI HE2 HF5 E05 E15 HB5 CH hcv hd
    obtain ⟨en, hen⟩ : ∃ en, en = endF c := ⟨_, rfl⟩
    rw [← hen] at CE
    have HEN := hidden hen
    clear hen
    generalize ba [c] = ct at *
    obtain ⟨ot, hot⟩ : ∃ ot, ot = ba out := ⟨_, rfl⟩
    rw [← hot] at hS
    have HOT := hidden hot
    clear hot
    go_wp2
    go_region_held3 (fun X => X.cell? ⟨w2.heap.size, 0, none⟩ = some (.string ct) ∧ (convert 52 9 (.slice (some ⟨g, 0, none⟩) L cap')).run Tryz.prog X = .ok (.string ot) X) (first | exact hS _ (by repeat (first | with_reducible assumption | with_reducible refine Chn.drew ?_)))
      (first
      | (go_at_call 28; refine (CE.out _).mono ?_; rintro e w7 ⟨rfl, hb⟩; have hC7 := Chn.below (show Chn V.heap.size V _ from (by repeat (first | with_reducible assumption | with_reducible refine Chn.drew ?_))) hb; clear hb))
    all_goals
      have hws := hsz0.out
      have hK7 := blk_later HK.out hC7.1
      go_wp2
      refine ⟨by simp, .inl ⟨_, _, rfl, run_takeDeferred hK7, ?_⟩⟩
      refine ⟨.tuple #[.string ot, .int .i64 en], by simp [results, Tryz.results11, go_sem], ?_, (bthen HBV.out hC7.1).trans (belowK_b (w := w) (Nat.le_refl _) w7 D2 _ _ (by have := HBV.out.size; omega) hK7 rfl rfl)⟩
      rw [← HO.out, ← HC.out, ← HOT.out, ← HEN.out]
theorem Move_any (n f d p r dr o sl md fr : Int) (ad : Option Addr) (cap : Nat) (zs : List Int) (R D L : Nat) (s : ByteArray) (hs : s.size ≤ 9223372036854775807) (a2 : Option Addr) (c2 : Nat) (votes : List ByteArray) (w : World) (hl : zs.length ≤ 9223372036854775807) (hT : Tab w ad zs) (hR : gate (plainE n f d p r dr o sl md fr zs) (3 * (f + 1)) = (R : Int)) (hL : gate (plainE n f d p r dr o sl md fr zs) (3 * (f + 1) * d) = (L : Int))
    (hR15 : R ≤ 15) (hL60 : L ≤ 60) (hLD : L = R * D) (hd : R = 0 ∨ (d = (D : Int) ∧ 1 ≤ D ∧ D ≤ 4)) (hn : votes.length ≤ 100000) (hV : kStr.Lies w.heap.size w (.slice a2 votes.length c2) votes) (hz : ∀ t ∈ votes, t.size ≤ 9223372036854775807) :
    Calls Tryz.prog 11 #[.agg #[.int .i64 n, .int .i64 f, .int .i64 d, .int .i64 p, .int .i64 r, .int .i64 dr, .int .i64 o, .int .i64 sl, .int .i64 md, .int .i64 fr, .slice ad zs.length cap], .string s, .slice a2 votes.length c2] w fun e W' => e = .returned (.tuple #[.string (ba (newL (hrdF n f d p r dr o sl md fr ad cap zs votes) D (wellL L s))), .int .i64 (endF (newB (hrdF n f d p r dr o sl md fr ad cap zs votes) D (wellL L s) L))]) ∧ Below w.heap.size w W' :=
  (callsIn_wide (n := 8)).1 (Move_in n f d p r dr o sl md fr ad cap zs R D L s hs a2 c2 votes w hl hT hR hL hR15 hL60 hLD hd hn hV hz)

/-- The code that an instance has at first. -/
def begC8 (bit : Int) : UInt8 := UInt8.ofNat (48 + (codeF (startF bit)).toNat)
set_option maxHeartbeats 1000000 in
theorem Begin_any (n f d p r dr o sl md fr : Int) (ad : Option Addr) (cap : Nat) (zs : List Int) (L : Nat) (s : ByteArray) (bit : Int) (hs : s.size ≤ 9223372036854775807) (w : World) (hl : zs.length ≤ 9223372036854775807) (hT : Tab w ad zs) (hL : gate (plainE n f d p r dr o sl md fr zs) (3 * (f + 1) * d) = (L : Int)) (hL60 : L ≤ 60) :
    Calls Tryz.prog 12 #[.agg #[.int .i64 n, .int .i64 f, .int .i64 d, .int .i64 p, .int .i64 r, .int .i64 dr, .int .i64 o, .int .i64 sl, .int .i64 md, .int .i64 fr, .slice ad zs.length cap], .string s, .int .i64 bit] w fun e w' => e = .returned (.string (ba ((wellL L s).set 0 (begC8 bit)))) ∧ Below w.heap.size w w' := by
  have CC := hidden (fun V h => codesOf_any n f d p r dr o sl md fr ad cap zs L s hs V hl h hL hL60)
  have HB0 := hidden (ballc w (.cells #[.int .i64 n, .int .i64 f, .int .i64 d, .int .i64 p, .int .i64 r, .int .i64 dr, .int .i64 o, .int .i64 sl, .int .i64 md, .int .i64 fr, .slice ad zs.length cap] 24))
  have HT := hidden (hT.below HB0.out)
  have C1 := hidden (fun V => Start_any bit V)
  have C2 := hidden (fun V => Code_any (startF bit) V)
  have HBC : Hid (begC8 bit = UInt8.ofNat (48 + (codeF (startF bit)).toNat)) := rfl
  have hcb := codeF_bd (startF bit)
  have HWL := hidden (wellL_len L s)
  clear hT hL
  generalize begC8 bit = bc at *
  generalize codeF (startF bit) = q at *
  generalize startF bit = sb at *
  obtain ⟨bv, bs⟩ := sb
  unfold agB at C1
  dsimp only at C1 C2
  obtain ⟨qn, rfl⟩ : ∃ qn : Nat, q = (qn : Int) := ⟨q.toNat, by omega⟩
  rw [Int.toNat_natCast] at HBC
  by_cases h0 : 0 < L
  · have j : (0 : Int) < (L : Int) := by omega
    go_enter Tryz.func12, Tryz.ntmps12
    go_wp2_with fail
    refine (CC.out _ HT.out).mono ?_
    rintro e w2 ⟨g, cap', rfl, hF, hg, hcap, hb⟩
    have HB2 := hidden (bthen HB0.out hb)
    have HF2 := hidden hF
    have hgw : w.heap.size ≤ g := by simp at hg; omega
    clear hb hF CC HT hg
    go_wp2_with fail
    refine (C1.out _).mono ?_
    rintro e w3 ⟨rfl, hb⟩
    have HB3 := hidden (bthen HB2.out hb)
    have HF3 := hidden (HF2.out.later hb)
    clear hb HF2 HB2
    go_wp2_with fail
    refine (C2.out _).mono ?_
    rintro e w4 ⟨rfl, hb⟩
    have HB4 := hidden (bthen HB3.out hb)
    have hF4 := HF3.out.later hb
    have c4 := hF4.cell 0 (by rw [HWL.out]; exact h0)
    have f4 := hF4.open 0 (by rw [HWL.out]; exact h0)
    have l4 := hF4.lt
    have hset := hF4.set 0 (by rw [HWL.out]; exact h0) bc
    have hcv := hset.text cap'
    rw [List.length_set, HWL.out] at hcv
    have hbn : ((bc.toNat : Nat) : Int) = 48 + (qn : Int) := by rw [HBC.out, UInt8.toNat_ofNat_of_lt' (by simp [UInt8.size]; omega)]; omega
    rw [hbn] at hcv
    clear hb HF3 HB3 hF4 hset hbn
    go_wp2
    go_ret
    exact ⟨rfl, HB4.out.setCell (p := ⟨g, 0, none⟩) (by simp; omega) _⟩
  · obtain rfl : L = 0 := by omega
    have hn : (wellL 0 s).set 0 bc = wellL 0 s := by
      rw [List.eq_nil_of_length_eq_zero (wellL_len 0 s)]
      rfl
    rw [hn]
    clear hn
    go_enter Tryz.func12, Tryz.ntmps12
    go_wp2_with fail
    refine (CC.out _ HT.out).mono ?_
    rintro e w2 ⟨g, cap', rfl, hF, hg, hcap, hb⟩
    have HB2 := hidden (bthen HB0.out hb)
    have hcv := hF.text cap'
    rw [HWL.out] at hcv
    clear hb hF CC HT hg
    go_wp2
    go_ret
    exact ⟨rfl, HB2.out⟩
end Go.Proofs.YtkolhbacgoafcaaGreat

/- The call Step of package beat returns what plain functions give, and makes at most new memory; conditions: rows lie where they say, numbers and lengths fit int, at most a hundred thousand votes. -/
namespace Go.Proofs.YtkolhbacgoafcaaGreat
open Go.ChangeShapes Go.WideShapes Go.ChangeAt Go.RowKit
set_option linter.unusedVariables false
attribute [local go_sem] cell_rg

theorem nxt1_bd {E P s : Int} {b : Bool} (hs : s ≤ 9223372036854775807) (hP : P ≤ 9223372036854775807) : -9223372036854775808 ≤ nxt1 E P s b ∧ nxt1 E P s b ≤ 9223372036854775807 := by
  have := satF_bd hs hP
  unfold nxt1 nxF
  split
  · split <;> omega
  · omega
/-- A tick with its votes: the pulse, Since, the pipe. -/
def stpP (n f d p r dr o sl md fr : Int) (ad : Option Addr) (cap : Nat) (zs : List Int) (D L : Nat) (votes : List ByteArray) (l : List UInt8) : Bool := endF (newB (hrdF n f d p r dr o sl md fr ad cap zs votes) D l L) == 1
def stpS (n f d p r dr o sl md fr : Int) (ad : Option Addr) (cap : Nat) (zs : List Int) (D L : Nat) (votes : List ByteArray) (l : List UInt8) (s : Int) : Int := nxt1 (plainE n f d p r dr o sl md fr zs) p s (stpP n f d p r dr o sl md fr ad cap zs D L votes l)
def stpR (n f d p r dr o sl md fr : Int) (ad : Option Addr) (cap : Nat) (zs : List Int) (D L : Nat) (votes : List ByteArray) (l : List UInt8) (s r' : Int) : Int := nxt2 (plainE n f d p r dr o sl md fr zs) p s r' (stpP n f d p r dr o sl md fr ad cap zs D L votes l)
def stpL (n f d p r dr o sl md fr : Int) (ad : Option Addr) (cap : Nat) (zs : List Int) (D L : Nat) (votes : List ByteArray) (l : List UInt8) (s : Int) : List UInt8 := (newL (hrdF n f d p r dr o sl md fr ad cap zs votes) D l).set 0 (begC8 (bitI (plainE n f d p r dr o sl md fr zs) p L (stpS n f d p r dr o sl md fr ad cap zs D L votes l s)))
theorem wellL_ba {L : Nat} {l : List UInt8} (h : l.length = L) : wellL L (ba l) = l := by
  unfold wellL
  rw [if_pos (by rw [ba_size, h]), bl_ba]
theorem stpL_len (n f d p r dr o sl md fr : Int) (ad : Option Addr) (cap : Nat) (zs : List Int) (D L : Nat) (votes : List ByteArray) (l : List UInt8) (s : Int) : (stpL n f d p r dr o sl md fr ad cap zs D L votes l s).length = l.length := by
  unfold stpL
  rw [List.length_set, newL_len]

set_option maxRecDepth 100000 in
set_option maxHeartbeats 2000000 in
theorem BStep_any (n f d p r dr o sl md fr : Int) (ad : Option Addr) (cap : Nat) (zs : List Int) (R D L : Nat) (s : ByteArray) (hs : s.size ≤ 9223372036854775807) (si ri : Int) (hsi : -9223372036854775808 ≤ si ∧ si ≤ 9223372036854775807) (hri : -9223372036854775808 ≤ ri ∧ ri ≤ 9223372036854775807) (a2 : Option Addr) (c2 : Nat) (votes : List ByteArray) (w : World) (hl : zs.length ≤ 9223372036854775807) (hT : Tab w ad zs) (hR : gate (plainE n f d p r dr o sl md fr zs) (3 * (f + 1)) = (R : Int)) (hL : gate (plainE n f d p r dr o sl md fr zs) (3 * (f + 1) * d) = (L : Int))
    (hR15 : R ≤ 15) (hL60 : L ≤ 60) (hLD : L = R * D) (hd : R = 0 ∨ (d = (D : Int) ∧ 1 ≤ D ∧ D ≤ 4)) (hn : votes.length ≤ 100000) (hV : kStr.Lies w.heap.size w (.slice a2 votes.length c2) votes) (hz : ∀ t ∈ votes, t.size ≤ 9223372036854775807) :
    Calls Tryz.prog 5 #[.agg #[.int .i64 n, .int .i64 f, .int .i64 d, .int .i64 p, .int .i64 r, .int .i64 dr, .int .i64 o, .int .i64 sl, .int .i64 md, .int .i64 fr, .slice ad zs.length cap], .string s, .int .i64 si, .int .i64 ri, .slice a2 votes.length c2] w fun e w' => e = .returned (.tuple #[.string (ba (stpL n f d p r dr o sl md fr ad cap zs D L votes (wellL L s) si)), .int .i64 (stpS n f d p r dr o sl md fr ad cap zs D L votes (wellL L s) si), .int .i64 (stpR n f d p r dr o sl md fr ad cap zs D L votes (wellL L s) si ri), .bool (stpP n f d p r dr o sl md fr ad cap zs D L votes (wellL L s))]) ∧ Below w.heap.size w w' := by
  have HB0 := hidden (ballc w (.cells #[.int .i64 n, .int .i64 f, .int .i64 d, .int .i64 p, .int .i64 r, .int .i64 dr, .int .i64 o, .int .i64 sl, .int .i64 md, .int .i64 fr, .slice ad zs.length cap] 24))
  have HT := hidden (hT.below HB0.out)
  have HK := hidden (blk_nw w #[.int .i64 n, .int .i64 f, .int .i64 d, .int .i64 p, .int .i64 r, .int .i64 dr, .int .i64 o, .int .i64 sl, .int .i64 md, .int .i64 fr, .slice ad zs.length cap] 24)
  have HM := hidden (Move_any n f d p r dr o sl md fr ad cap zs R D L s hs a2 c2 votes (w.alloc (.cells #[.int .i64 n, .int .i64 f, .int .i64 d, .int .i64 p, .int .i64 r, .int .i64 dr, .int .i64 o, .int .i64 sl, .int .i64 md, .int .i64 fr, .slice ad zs.length cap] 24)) hl HT.out hR hL hR15 hL60 hLD hd hn (hV.later HB0.out) hz)
  have hPP : Hid (stpP n f d p r dr o sl md fr ad cap zs D L votes (wellL L s) = (endF (newB (hrdF n f d p r dr o sl md fr ad cap zs votes) D (wellL L s) L) == 1)) := rfl
  have CN := hidden (fun V h => BNext_any n f d p r dr o sl md fr ad cap zs si ri (stpP n f d p r dr o sl md fr ad cap zs D L votes (wellL L s)) V hl h hsi hri)
  have hp4 : plainE n f d p r dr o sl md fr zs = 0 → p ≤ 400 := fun h => by obtain ⟨_, _, _, _, _, _, _, _, hp2, _⟩ := plainE_ok h; exact hp2
  have hsb : -9223372036854775808 ≤ stpS n f d p r dr o sl md fr ad cap zs D L votes (wellL L s) si ∧ stpS n f d p r dr o sl md fr ad cap zs D L votes (wellL L s) si ≤ 9223372036854775807 := by
    unfold stpS
    by_cases hE : plainE n f d p r dr o sl md fr zs = 0
    · exact nxt1_bd hsi.2 (by have := hp4 hE; omega)
    · unfold nxt1
      rw [if_neg hE]
      omega
  have CB := hidden (fun V h => BBit_any n f d p r dr o sl md fr ad cap zs L (stpS n f d p r dr o sl md fr ad cap zs D L votes (wellL L s) si) V hl h hL hL60 hsb)
  have CG := hidden (fun V h => Begin_any n f d p r dr o sl md fr ad cap zs L (ba (newL (hrdF n f d p r dr o sl md fr ad cap zs votes) D (wellL L s))) (bitI (plainE n f d p r dr o sl md fr zs) p L (stpS n f d p r dr o sl md fr ad cap zs D L votes (wellL L s) si)) (by rw [ba_size, newL_len, wellL_len]; omega) V hl h hL hL60)
  rw [wellL_ba (by rw [newL_len, wellL_len])] at CG
  have h1 : Hid (stpL n f d p r dr o sl md fr ad cap zs D L votes (wellL L s) si = (newL (hrdF n f d p r dr o sl md fr ad cap zs votes) D (wellL L s)).set 0 (begC8 (bitI (plainE n f d p r dr o sl md fr zs) p L (stpS n f d p r dr o sl md fr ad cap zs D L votes (wellL L s) si)))) := rfl
  have h2 : Hid (stpS n f d p r dr o sl md fr ad cap zs D L votes (wellL L s) si = nxt1 (plainE n f d p r dr o sl md fr zs) p si (stpP n f d p r dr o sl md fr ad cap zs D L votes (wellL L s))) := rfl
  have h3 : Hid (stpR n f d p r dr o sl md fr ad cap zs D L votes (wellL L s) si ri = nxt2 (plainE n f d p r dr o sl md fr zs) p si ri (stpP n f d p r dr o sl md fr ad cap zs D L votes (wellL L s))) := rfl
  rw [← h2.out, ← h3.out] at CN
  rw [← h1.out] at CG
  clear hT hV hz hR hL hLD hd h1 h2 h3 hp4 hsb
  generalize stpL n f d p r dr o sl md fr ad cap zs D L votes (wellL L s) si = o1 at *
  generalize stpS n f d p r dr o sl md fr ad cap zs D L votes (wellL L s) si = o2 at *
  generalize stpR n f d p r dr o sl md fr ad cap zs D L votes (wellL L s) si ri = o3 at *
  generalize stpP n f d p r dr o sl md fr ad cap zs D L votes (wellL L s) = o4 at *
  generalize endF (newB (hrdF n f d p r dr o sl md fr ad cap zs votes) D (wellL L s) L) = en at *
  generalize ba (newL (hrdF n f d p r dr o sl md fr ad cap zs votes) D (wellL L s)) = mv at *
  generalize bitI (plainE n f d p r dr o sl md fr zs) p L o2 = bi at *
  generalize ba o1 = ot at *
  generalize votes.length = M at *
  have hpp := hPP.out
  subst hpp
  generalize hbb : (en == 1) = bb at *
  clear hPP
  have j := hbb
  clear hbb
  go_enter Tryz.func5, Tryz.ntmps5
  go_wp2_with fail
  refine HM.out.mono ?_
  rintro e w2 ⟨rfl, hb⟩
  have HB2 := hidden (bthen HB0.out hb)
  have HT2 := hidden (HT.out.below hb)
  have HK2 := hidden (blk_later HK.out hb)
  have c0 := blk_cell HK2.out
  have l0 := blk_lt HK2.out
  clear hb HT HK HM
  go_wp2_with fail
  refine (CN.out _ HT2.out).mono ?_
  rintro e w3 ⟨rfl, hb⟩
  have HB3 := hidden (bthen HB2.out hb)
  have HT3 := hidden (HT2.out.below hb)
  have HK3 := hidden (blk_later HK2.out hb)
  clear hb HT2 HK2 CN c0 l0
  have c0 := blk_cell HK3.out
  have l0 := blk_lt HK3.out
  go_wp2
  refine wp_region_quiet_below (by kernel_rfl) (by kernel_rfl) ?_
  repeat (go_big_quiet_step (first | (go_at_call 9; exact Calls.regrown_of (CB.out _ (HT3.out.below (below_regrown _ _ _)))) | (go_at_call 12; exact Calls.regrown_of (CG.out _ (HT3.out.below (below_regrown _ _ _))))))
  refine wpQuiet_nil ?_
  intro w5 hw5
  have HB5 := hidden (bthen HB3.out (rg_below hw5))
  clear hw5 c0 l0
  go_wp2
  exact bodyPost_ret (v := .tuple #[.string ot, .int .i64 o2, .int .i64 o3, .bool bb]) (by simp [results, Tryz.results5, go_sem]) rfl ⟨rfl, HB5.out⟩
end Go.Proofs.YtkolhbacgoafcaaGreat

/- The integer calls Clamp, Mod and Sat of the document's answer for layer 1 return what plain functions on integers give, and leave the world as it was; for integers that fit int. -/
namespace Go.Proofs.YtkolhbacgoafcaaGreat
open Go.ChangeShapes Go.WideShapes Go.ChangeAt Go.RowKit
set_option linter.unusedVariables false

theorem rclamp_any (n lo hi : Int) (w : World) :
    Calls Tryz.prog 36 #[.int .i64 n, .int .i64 lo, .int .i64 hi] w fun e w' => e = .returned (.int .i64 (clampF n lo hi)) ∧ w = w' := by
  by_cases h1 : n < lo
  · have e : clampF n lo hi = lo := by unfold clampF; rw [if_pos (Or.inl h1)]
    rw [e]; clear e
    go_enter Tryz.func36, Tryz.ntmps36
    go_wp2
    go_ret
    exact ⟨by first | rfl | exact ret_i (by omega), rfl⟩
  · by_cases h2 : hi < lo
    · have e : clampF n lo hi = lo := by unfold clampF; rw [if_pos (Or.inr h2)]
      rw [e]; clear e
      go_enter Tryz.func36, Tryz.ntmps36
      go_wp2
      go_ret
      exact ⟨by first | rfl | exact ret_i (by omega), rfl⟩
    · by_cases h3 : n ≤ hi
      · have e : clampF n lo hi = n := by unfold clampF; rw [if_neg (by omega), if_pos h3]
        rw [e]; clear e
        go_enter Tryz.func36, Tryz.ntmps36
        go_wp2
        go_ret
        exact ⟨by first | rfl | exact ret_i (by omega), rfl⟩
      · have e : clampF n lo hi = hi := by unfold clampF; rw [if_neg (by omega), if_neg h3]
        rw [e]; clear e
        go_enter Tryz.func36, Tryz.ntmps36
        go_wp2
        go_ret
        exact ⟨by first | rfl | exact ret_i (by omega), rfl⟩
theorem rmod_any (n b : Int) (w : World) (hn : (Lit.int .i64 n).wf = true) (hb : (Lit.int .i64 b).wf = true) :
    Calls Tryz.prog 90 #[.int .i64 n, .int .i64 b] w fun e w' => e = .returned (.int .i64 (modF n b)) ∧ w = w' := by
  have bn := bd64 hn
  have bb := bd64 hb
  by_cases h1 : b < 1
  · have e : modF n b = 0 := by unfold modF; rw [if_pos h1]
    rw [e]; clear e
    go_enter Tryz.func90, Tryz.ntmps90
    go_wp2
    go_ret
    exact ⟨rfl, rfl⟩
  · by_cases h2 : n.tmod b < 0
    · have e : modF n b = n.tmod b + b := by unfold modF; rw [if_neg h1, if_pos h2]
      rw [e]; clear e
      have hr : -b < n.tmod b := by have := Int.lt_tmod_of_pos n (show 0 < b by omega); omega
      go_enter Tryz.func90, Tryz.ntmps90
      go_wp2
      go_ret
      exact ⟨rfl, rfl⟩
    · have e : modF n b = n.tmod b := by unfold modF; rw [if_neg h1, if_neg h2]
      rw [e]; clear e
      go_enter Tryz.func90, Tryz.ntmps90
      go_wp2
      go_ret
      exact ⟨rfl, rfl⟩
theorem rsat_any (n m : Int) (w : World) (hn : (Lit.int .i64 n).wf = true) (hm : (Lit.int .i64 m).wf = true) :
    Calls Tryz.prog 35 #[.int .i64 n, .int .i64 m] w fun e w' => e = .returned (.int .i64 (satF n m)) ∧ w = w' := by
  have bn := bd64 hn
  have bb := bd64 hm
  by_cases h1 : n < 0
  · have e : satF n m = 0 := by unfold satF; rw [if_pos (Or.inl h1)]
    rw [e]; clear e
    go_enter Tryz.func35, Tryz.ntmps35
    go_wp2
    go_ret
    exact ⟨rfl, rfl⟩
  · by_cases h2 : m < 0
    · have e : satF n m = 0 := by unfold satF; rw [if_pos (Or.inr h2)]
      rw [e]; clear e
      go_enter Tryz.func35, Tryz.ntmps35
      go_wp2
      go_ret
      exact ⟨rfl, rfl⟩
    · by_cases h3 : m ≤ n
      · have e : satF n m = m := by unfold satF; rw [if_neg (by omega), if_pos h3]
        rw [e]; clear e
        go_enter Tryz.func35, Tryz.ntmps35
        go_wp2
        go_ret
        exact ⟨rfl, rfl⟩
      · have e : satF n m = n + 1 := by unfold satF; rw [if_neg (by omega), if_neg h3]
        rw [e]; clear e
        go_enter Tryz.func35, Tryz.ntmps35
        go_wp2
        go_ret
        exact ⟨rfl, rfl⟩
end Go.Proofs.YtkolhbacgoafcaaGreat

/- The document's calls Bit and Next of layer 18 return what plain functions give, and make at most new memory; conditions: the table lies where it says, numbers fit int. -/
namespace Go.Proofs.YtkolhbacgoafcaaGreat
open Go.ChangeShapes Go.WideShapes Go.ChangeAt Go.RowKit
set_option linter.unusedVariables false
attribute [local go_sem] cell_rg

theorem bitI_c {P L s : Int} : bitI 0 P L s = if s = P - L then 1 else if P ≤ s then 1 else 0 := by
  by_cases h1 : s = P - L
  · rw [if_pos h1, bitI_at h1]
  · rw [if_neg h1]
    by_cases h2 : P ≤ s
    · rw [if_pos h2, bitI_hi h2]
    · rw [if_neg h2, bitI_lo h1 h2]
set_option maxRecDepth 100000 in
set_option maxHeartbeats 1000000 in
theorem rBit_any (n f d p r dr o sl md fr : Int) (ad : Option Addr) (cap : Nat) (zs : List Int) (L : Nat) (s : Int) (w : World) (hl : zs.length ≤ 9223372036854775807) (hT : Tab w ad zs) (hL : gate (plainE n f d p r dr o sl md fr zs) (3 * (f + 1) * d) = (L : Int)) (hL60 : L ≤ 60) (hs : -9223372036854775808 ≤ s ∧ s ≤ 9223372036854775807) :
    Calls Tryz.prog 16 #[.agg #[.int .i64 n, .int .i64 f, .int .i64 d, .int .i64 p, .int .i64 r, .int .i64 dr, .int .i64 o, .int .i64 sl, .int .i64 md, .int .i64 fr, .slice ad zs.length cap], .int .i64 s] w fun e w' => e = .returned (.int .i64 (bitI (plainE n f d p r dr o sl md fr zs) p L s)) ∧ Below w.heap.size w w' := by
  have HB0 := hidden (ballc w (.cells #[.int .i64 n, .int .i64 f, .int .i64 d, .int .i64 p, .int .i64 r, .int .i64 dr, .int .i64 o, .int .i64 sl, .int .i64 md, .int .i64 fr, .slice ad zs.length cap] 24))
  have HT := hidden (hT.below HB0.out)
  have HP := hidden (fun V h => refPlain_any n f d p r dr o sl md fr ad cap zs V hl h)
  have CL := hidden (fun V h => refLength_any n f d p r dr o sl md fr ad cap zs V hl h)
  rw [hL] at CL
  have hp4 : plainE n f d p r dr o sl md fr zs = 0 → 0 ≤ p ∧ p ≤ 400 := fun hE => by
    obtain ⟨_, _, _, _, _, _, _, hp1, hp2, _⟩ := plainE_ok hE
    have := plainE_ok hE
    have : 0 ≤ (f + 1) * d := Int.mul_nonneg (by omega) (by omega)
    omega
  by_cases hE : plainE n f d p r dr o sl md fr zs = 0
  · have hp := hp4 hE
    rw [hE] at HP ⊢
    have t1 : IntKind.i64.wrap (p - (L : Int)) = p - (L : Int) := IntWalk.i64_in _ (by omega)
    clear hT hL hE hp4
    by_cases h1 : s = p - (L : Int)
    · have hr := hidden (bitI_at h1)
      have j1 : (s == p - (L : Int)) = true := by simp [h1]
      clear h1
      go_enter Tryz.func16, Tryz.ntmps16
      go_wp2
      refine wp_region_quiet_below (by kernel_rfl) (by kernel_rfl) ?_
      repeat (go_big_quiet_step (first | (go_at_call 31; exact Calls.regrown_of (HP.out _ (HT.out.below (below_regrown _ _ _)))) | (go_at_call 40; exact Calls.regrown_of (CL.out _ (HT.out.below (below_regrown _ _ _))))))
      refine wpQuiet_nil ?_
      intro w5 hw5
      have HB5 := hidden (bthen HB0.out (rg_below hw5))
      clear hw5
      go_wp2
      go_ret
      exact ⟨ret_i hr.out.symm, HB5.out⟩
    · have j1 : (s == p - (L : Int)) = false := by simp [h1]
      by_cases h2 : p ≤ s
      · have hr := hidden (bitI_hi (L := (L : Int)) h2)
        have j2 : decide (p ≤ s) = true := decide_eq_true h2
        clear h1
        go_enter Tryz.func16, Tryz.ntmps16
        go_wp2
        refine wp_region_quiet_below (by kernel_rfl) (by kernel_rfl) ?_
        repeat (go_big_quiet_step (first | (go_at_call 31; exact Calls.regrown_of (HP.out _ (HT.out.below (below_regrown _ _ _)))) | (go_at_call 40; exact Calls.regrown_of (CL.out _ (HT.out.below (below_regrown _ _ _))))))
        refine wpQuiet_nil ?_
        intro w5 hw5
        have HB5 := hidden (bthen HB0.out (rg_below hw5))
        clear hw5
        go_wp2
        go_ret
        exact ⟨ret_i hr.out.symm, HB5.out⟩
      · have hr := hidden (bitI_lo h1 h2)
        have j2 : decide (p ≤ s) = false := decide_eq_false h2
        clear h1
        go_enter Tryz.func16, Tryz.ntmps16
        go_wp2
        refine wp_region_quiet_below (by kernel_rfl) (by kernel_rfl) ?_
        repeat (go_big_quiet_step (first | (go_at_call 31; exact Calls.regrown_of (HP.out _ (HT.out.below (below_regrown _ _ _)))) | (go_at_call 40; exact Calls.regrown_of (CL.out _ (HT.out.below (below_regrown _ _ _))))))
        refine wpQuiet_nil ?_
        intro w5 hw5
        have HB5 := hidden (bthen HB0.out (rg_below hw5))
        clear hw5
        go_wp2
        go_ret
        exact ⟨ret_i hr.out.symm, HB5.out⟩
  · have hr := hidden (bitI_no (P := p) (L := (L : Int)) (s := s) hE)
    have j1 : (plainE n f d p r dr o sl md fr zs == 0) = false := by simp [hE]
    generalize plainE n f d p r dr o sl md fr zs = E at *
    clear hE hT hL hp4
    go_enter Tryz.func16, Tryz.ntmps16
    go_wp2
    refine wp_region_quiet_below (by kernel_rfl) (by kernel_rfl) ?_
    repeat (go_big_quiet_step (first | (go_at_call 31; exact Calls.regrown_of (HP.out _ (HT.out.below (below_regrown _ _ _)))) | (go_at_call 40; exact Calls.regrown_of (CL.out _ (HT.out.below (below_regrown _ _ _))))))
    refine wpQuiet_nil ?_
    intro w5 hw5
    have HB5 := hidden (bthen HB0.out (rg_below hw5))
    clear hw5
    go_wp2
    go_ret
    exact ⟨ret_i hr.out.symm, HB5.out⟩

theorem nxt2_t {P s r : Int} : nxt2 0 P s r true = if s = P - 1 then satF r 2 else 0 := by unfold nxt2; rw [if_pos rfl, if_pos rfl]
theorem nxt2_f {P s r : Int} : nxt2 0 P s r false = if satF s P = P then 0 else clampF r 0 2 := by unfold nxt2; rw [if_pos rfl, if_neg (by decide)]
theorem nxt1_t {P s : Int} : nxt1 0 P s true = 0 := by unfold nxt1 nxF; rw [if_pos rfl, if_pos rfl]
theorem nxt1_f {P s : Int} : nxt1 0 P s false = satF s P := by unfold nxt1 nxF; rw [if_pos rfl, if_neg (by decide)]
set_option maxHeartbeats 1000000 in
theorem rNext_any (n f d p r dr o sl md fr : Int) (ad : Option Addr) (cap : Nat) (zs : List Int) (s r' : Int) (pulse : Bool) (w : World) (hl : zs.length ≤ 9223372036854775807) (hT : Tab w ad zs) (hs : -9223372036854775808 ≤ s ∧ s ≤ 9223372036854775807) (hr' : -9223372036854775808 ≤ r' ∧ r' ≤ 9223372036854775807) :
    Calls Tryz.prog 14 #[.agg #[.int .i64 n, .int .i64 f, .int .i64 d, .int .i64 p, .int .i64 r, .int .i64 dr, .int .i64 o, .int .i64 sl, .int .i64 md, .int .i64 fr, .slice ad zs.length cap], .int .i64 s, .int .i64 r', .bool pulse] w fun e w' => e = .returned (.tuple #[.int .i64 (nxt1 (plainE n f d p r dr o sl md fr zs) p s pulse), .int .i64 (nxt2 (plainE n f d p r dr o sl md fr zs) p s r' pulse)]) ∧ Below w.heap.size w w' := by
  have HB0 := hidden (ballc w (.cells #[.int .i64 n, .int .i64 f, .int .i64 d, .int .i64 p, .int .i64 r, .int .i64 dr, .int .i64 o, .int .i64 sl, .int .i64 md, .int .i64 fr, .slice ad zs.length cap] 24))
  have HT := hidden (hT.below HB0.out)
  have HK := hidden (blk_nw w #[.int .i64 n, .int .i64 f, .int .i64 d, .int .i64 p, .int .i64 r, .int .i64 dr, .int .i64 o, .int .i64 sl, .int .i64 md, .int .i64 fr, .slice ad zs.length cap] 24)
  have HP := hidden (refPlain_any n f d p r dr o sl md fr ad cap zs (w.alloc (.cells #[.int .i64 n, .int .i64 f, .int .i64 d, .int .i64 p, .int .i64 r, .int .i64 dr, .int .i64 o, .int .i64 sl, .int .i64 md, .int .i64 fr, .slice ad zs.length cap] 24)) hl HT.out)
  by_cases hE : plainE n f d p r dr o sl md fr zs = 0
  · obtain ⟨_, _, _, _, _, _, _, hp1, hp2, _⟩ := plainE_ok hE
    have hp0 : 0 ≤ p := by
      have := plainE_ok hE
      have : 0 ≤ (f + 1) * d := Int.mul_nonneg (by omega) (by omega)
      omega
    have CR := hidden (fun V => rsat_any r' 2 V (wfI hr') (by decide))
    have CS := hidden (fun V => rsat_any s p V (wfI hs) (wfI (by omega)))
    have CC := hidden (fun V => rclamp_any r' 0 2 V)
    have t1 : IntKind.i64.wrap (p - 1) = p - 1 := IntWalk.i64_in _ (by omega)
    rw [hE] at HP ⊢
    clear hT hE hp1
    cases pulse
    · rw [nxt1_f, nxt2_f]
      generalize satF s p = x at *
      generalize clampF r' 0 2 = y at *
      by_cases hx : x = p
      · have j : (x == p) = true := by simp [hx]
        rw [if_pos hx]
        clear hx
        go_enter Tryz.func14, Tryz.ntmps14
        go_wp2_with fail
        refine HP.out.mono ?_
        rintro e w2 ⟨rfl, hb⟩
        have HB2 := hidden (bthen HB0.out hb)
        have HK2 := hidden (blk_later HK.out hb)
        have c0 := blk_cell HK2.out
        have l0 := blk_lt HK2.out
        clear hb HT HK HP
        go_wp2_with fail
        refine (CS.out _).mono ?_
        rintro e w3 ⟨rfl, rfl⟩
        go_wp2
        exact bodyPost_ret (v := .tuple #[.int .i64 x, .int .i64 0]) (by simp [results, Tryz.results14, go_sem]) rfl ⟨rfl, HB2.out⟩
      · have j : (x == p) = false := by simp [hx]
        rw [if_neg hx]
        clear hx
        go_enter Tryz.func14, Tryz.ntmps14
        go_wp2_with fail
        refine HP.out.mono ?_
        rintro e w2 ⟨rfl, hb⟩
        have HB2 := hidden (bthen HB0.out hb)
        have HK2 := hidden (blk_later HK.out hb)
        have c0 := blk_cell HK2.out
        have l0 := blk_lt HK2.out
        clear hb HT HK HP
        go_wp2_with fail
        refine (CS.out _).mono ?_
        rintro e w3 ⟨rfl, rfl⟩
        go_wp2_with fail
        refine (CC.out _).mono ?_
        rintro e w4 ⟨rfl, rfl⟩
        go_wp2
        exact bodyPost_ret (v := .tuple #[.int .i64 x, .int .i64 y]) (by simp [results, Tryz.results14, go_sem]) rfl ⟨rfl, HB2.out⟩
    · rw [nxt1_t, nxt2_t]
      by_cases hx : s = p - 1
      · have j : (s == p - 1) = true := by simp [hx]
        rw [if_pos hx]
        clear hx
        generalize satF r' 2 = y at *
        go_enter Tryz.func14, Tryz.ntmps14
        go_wp2_with fail
        refine HP.out.mono ?_
        rintro e w2 ⟨rfl, hb⟩
        have HB2 := hidden (bthen HB0.out hb)
        have HK2 := hidden (blk_later HK.out hb)
        have c0 := blk_cell HK2.out
        have l0 := blk_lt HK2.out
        clear hb HT HK HP
        go_wp2_with fail
        refine (CR.out _).mono ?_
        rintro e w3 ⟨rfl, rfl⟩
        go_wp2
        exact bodyPost_ret (v := .tuple #[.int .i64 0, .int .i64 y]) (by simp [results, Tryz.results14, go_sem]) rfl ⟨rfl, HB2.out⟩
      · have j : (s == p - 1) = false := by simp [hx]
        rw [if_neg hx]
        clear hx
        go_enter Tryz.func14, Tryz.ntmps14
        go_wp2_with fail
        refine HP.out.mono ?_
        rintro e w2 ⟨rfl, hb⟩
        have HB2 := hidden (bthen HB0.out hb)
        have HK2 := hidden (blk_later HK.out hb)
        have c0 := blk_cell HK2.out
        have l0 := blk_lt HK2.out
        clear hb HT HK HP
        go_wp2
        exact bodyPost_ret (v := .tuple #[.int .i64 0, .int .i64 0]) (by simp [results, Tryz.results14, go_sem]) rfl ⟨rfl, HB2.out⟩
  · have h1 : Hid (nxt1 (plainE n f d p r dr o sl md fr zs) p s pulse = 0) := if_neg hE
    have h2 : Hid (nxt2 (plainE n f d p r dr o sl md fr zs) p s r' pulse = 0) := if_neg hE
    rw [h1.out, h2.out]
    have j1 : (plainE n f d p r dr o sl md fr zs != 0) = true := bne_iff_ne.2 hE
    clear h1 h2
    generalize plainE n f d p r dr o sl md fr zs = E at *
    clear hE hT
    go_enter Tryz.func14, Tryz.ntmps14
    go_wp2_with fail
    refine HP.out.mono ?_
    rintro e w2 ⟨rfl, hb⟩
    have HB2 := hidden (bthen HB0.out hb)
    clear hb HP
    go_wp2
    exact bodyPost_ret (v := .tuple #[.int .i64 0, .int .i64 0]) (by simp [results, Tryz.results14, go_sem]) rfl ⟨rfl, HB2.out⟩
end Go.Proofs.YtkolhbacgoafcaaGreat

/- The document's calls Quorum, Some, Count, Enough, Most and Least return what plain functions give, and make at most new memory; conditions: the table and the votes lie where they say, and lengths fit int. -/
namespace Go.Proofs.YtkolhbacgoafcaaGreat
open Go.ChangeShapes Go.WideShapes Go.ChangeAt Go.RowKit
set_option linter.unusedVariables false

theorem cntF_snoc (v : Int) (zs : List Int) (z : Int) : cntF v (zs ++ [z]) = cntF v zs + if (0 ≤ v ∧ v < 3) ∧ z = v then 1 else 0 := by
  unfold cntF
  by_cases h : 0 ≤ v ∧ v < 3
  · rw [if_pos h, if_pos h, cntL_snoc]
    by_cases h2 : z = v
    · rw [if_pos h2, if_pos ⟨h, h2⟩]; rfl
    · rw [if_neg h2, if_neg fun k => h2 k.2]; rfl
  · rw [if_neg h, if_neg h, if_neg fun k => h k.1]; rfl
set_option maxHeartbeats 2000000 in
theorem rTCount_any (v : Int) (ad : Option Addr) (len cap : Nat) (zs : List Int) (hlz : zs.length ≤ 9223372036854775807) (w : World) (hZ : kInt.Lies w.heap.size w (.slice ad len cap) zs) :
    Calls Tryz.prog 105 #[.int .i64 v, .slice ad len cap] w fun e w' => e = .returned (.int .i64 (cntF v zs)) ∧ w = w' := by
  obtain rfl := hZ.len
  go_enter Tryz.func105, Tryz.ntmps105
  go_wp2
  go_loop [5, 6] (fun c i => ∃ k : Nat, k ≤ zs.length ∧ c = .int .i64 (cntF v (zs.take k)) ∧ i = .int .i64 k) (fun _ i => zs.length - (intV i).toNat)
  case atStart => exact ⟨0, Nat.zero_le _, by rw [List.take_zero]; unfold cntF; split <;> rfl, rfl⟩
  case round =>
    obtain ⟨k, hk, rfl, rfl⟩ := hrel
    by_cases hlt : k < zs.length
    · obtain ⟨b, off, rfl, hbl, e0⟩ := kInt_at hZ k hlt
      have hsn := cntF_snoc v (zs.take k) zs[k]
      rw [← take_snocV zs hlt] at hsn
      have hle := cntF_bd v (zs.take k)
      rw [List.length_take, Nat.min_eq_left hk] at hle
      generalize zs[k] = z at e0 hsn
      generalize cntF v (zs.take k) = c at *
      have HS := hidden hsn
      have i1 : (0 : Int) ≤ (k : Int) := by omega
      have i2 : (k : Int) < (zs.length : Int) := by omega
      clear hsn hZ
      by_cases h1 : 0 ≤ v
      · have j1 : decide (0 ≤ v) = true := by simp [h1]
        by_cases h2 : v ≤ 2
        · have j2 : decide (v ≤ 2) = true := by simp [h2]
          by_cases h3 : z = v
          · subst h3
            have j3 : (z == z) = true := by simp
            have HS2 : Hid (_ = c + 1) := hidden (HS.out.trans (by rw [if_pos ⟨⟨h1, by omega⟩, rfl⟩]))
            go_wp2
            go_round
            case rel => exact ⟨k + 1, by omega, by rw [HS2.out], by go_num⟩
            case measure => simp [intV]; omega
          · have j3 : (z == v) = false := by simp [h3]
            have HS2 : Hid (_ = c) := hidden (HS.out.trans (by rw [if_neg fun k => h3 k.2]; omega))
            go_wp2
            go_round
            case rel => exact ⟨k + 1, by omega, by rw [HS2.out], by go_num⟩
            case measure => simp [intV]; omega
        · have j2 : decide (v ≤ 2) = false := by simp; omega
          have HS2 : Hid (_ = c) := hidden (HS.out.trans (by rw [if_neg fun k => h2 (by omega)]; omega))
          go_wp2
          go_round
          case rel => exact ⟨k + 1, by omega, by rw [HS2.out], by go_num⟩
          case measure => simp [intV]; omega
      · have j1 : decide (0 ≤ v) = false := by simp; omega
        have HS2 : Hid (_ = c) := hidden (HS.out.trans (by rw [if_neg fun k => h1 (by omega)]; omega))
        go_wp2
        go_round
        case rel => exact ⟨k + 1, by omega, by rw [HS2.out], by go_num⟩
        case measure => simp [intV]; omega
    · obtain rfl : k = zs.length := by omega
      rw [List.take_length]
      go_wp2
      go_ret
      exact ⟨rfl, rfl⟩

end Go.Proofs.YtkolhbacgoafcaaGreat

/- The document's calls Enough, Most and Least return what plain functions give, and make at most new memory; conditions: the table and the votes lie where they say, and lengths fit int. -/
namespace Go.Proofs.YtkolhbacgoafcaaGreat
open Go.ChangeShapes Go.WideShapes Go.ChangeAt Go.RowKit
set_option linter.unusedVariables false

attribute [local go_sem] cell_rg

set_option maxHeartbeats 2000000 in
theorem rEnough_any (n f d p r dr o sl md fr : Int) (ad : Option Addr) (cap : Nat) (zs : List Int) (v : Int) (a2 : Option Addr) (len c2 : Nat) (vs : List Int) (w : World) (hl : zs.length ≤ 9223372036854775807) (hT : Tab w ad zs) (hlv : vs.length ≤ 9223372036854775807) (hV : kInt.Lies w.heap.size w (.slice a2 len c2) vs) :
    Calls Tryz.prog 93 #[.agg #[.int .i64 n, .int .i64 f, .int .i64 d, .int .i64 p, .int .i64 r, .int .i64 dr, .int .i64 o, .int .i64 sl, .int .i64 md, .int .i64 fr, .slice ad zs.length cap], .int .i64 v, .slice a2 len c2] w fun e w' => e = .returned (.bool (enoughB (plainE n f d p r dr o sl md fr zs) n f v vs)) ∧ Below w.heap.size w w' := by
  have HT := hidden (hT.below (ballc w (.cells #[.int .i64 n, .int .i64 f, .int .i64 d, .int .i64 p, .int .i64 r, .int .i64 dr, .int .i64 o, .int .i64 sl, .int .i64 md, .int .i64 fr, .slice ad zs.length cap] 24)))
  have HQ := hidden (fun V h => refPlain_any n f d p r dr o sl md fr ad cap zs V hl h)
  have HK := hidden (fun h => plainE_ok (n := n) (f := f) (d := d) (p := p) (r := r) (dr := dr) (o := o) (sl := sl) (md := md) (fr := fr) (zs := zs) h)
  have HV := hidden (hV.later (ballc w (.cells #[.int .i64 n, .int .i64 f, .int .i64 d, .int .i64 p, .int .i64 r, .int .i64 dr, .int .i64 o, .int .i64 sl, .int .i64 md, .int .i64 fr, .slice ad zs.length cap] 24)))
  have C2 := hidden (fun V h => Calls.to_below (rTCount_any v a2 len c2 vs hlv V h))
  clear hT hV
  generalize plainE n f d p r dr o sl md fr zs = E at HQ HK
  by_cases hE : E = 0
  · obtain ⟨n1, n2, f1, f2, n3, _⟩ := HK.out hE
    subst hE
    have HE := hidden (enoughB_ok (E := 0) rfl n f v vs)
    generalize cntF v vs = c at *
    have t1 : IntKind.i64.wrap (n - f) = n - f := IntWalk.i64_in _ (by omega)
    have i0 : ((0 : Int) == 0) = true := rfl
    go_enter Tryz.func93, Tryz.ntmps93
    go_wp2
    refine wp_region_quiet_below (by kernel_rfl) (by kernel_rfl) ?_
    repeat (go_big_quiet_step (first | (go_at_call 31; exact Calls.regrown_of (HQ.out _ (HT.out.below (below_regrown _ _ _)))) | (go_at_call 105; exact Calls.regrown_of (C2.out _ (HV.out.later (below_regrown _ _ _))))))
    refine wpQuiet_nil ?_
    intro w2 hw2
    have HB2 : Hid (Below w.heap.size w w2) := bthen (ballc w _) (rg_below hw2)
    clear hw2
    go_wp2
    go_ret
    exact ⟨ret_b HE.out.symm, HB2.out⟩
  · have HE := hidden (enoughB_no hE n f v vs)
    have iE : (E == 0) = false := by simp [hE]
    clear HK
    go_enter Tryz.func93, Tryz.ntmps93
    go_wp2
    refine wp_region_quiet_below (by kernel_rfl) (by kernel_rfl) ?_
    repeat (go_big_quiet_step (first | (go_at_call 31; exact Calls.regrown_of (HQ.out _ (HT.out.below (below_regrown _ _ _))))))
    refine wpQuiet_nil ?_
    intro w2 hw2
    have HB2 : Hid (Below w.heap.size w w2) := bthen (ballc w _) (rg_below hw2)
    clear hw2
    go_wp2
    go_ret
    exact ⟨ret_b HE.out.symm, HB2.out⟩

/-- The first exchange by quorums. -/
theorem most_1 {E n f : Int} {vs : List Int} (h : enoughB E n f 1 vs = true) : mostF E n f vs = 1 := by
  have h2 := of_decide_eq_true h
  exact mostF_1 h2.1 (by rw [cntF_in (by decide) (by decide)] at h2; exact h2.2)
theorem most_0 {E n f : Int} {vs : List Int} (h1 : enoughB E n f 1 vs = false) (h : enoughB E n f 0 vs = true) : mostF E n f vs = 0 := by
  have h2 := of_decide_eq_true h
  have h3 := of_decide_eq_false h1
  rw [cntF_in (by decide) (by decide)] at h2 h3
  exact mostF_0 h2.1 (fun k => h3 ⟨h2.1, k⟩) h2.2
theorem most_2 {E n f : Int} {vs : List Int} (h1 : enoughB E n f 1 vs = false) (h : enoughB E n f 0 vs = false) : mostF E n f vs = 2 := by
  by_cases hE : E = 0
  · have h2 := of_decide_eq_false h
    have h3 := of_decide_eq_false h1
    rw [cntF_in (by decide) (by decide)] at h2 h3
    exact mostF_2 hE (fun k => h3 ⟨hE, k⟩) (fun k => h2 ⟨hE, k⟩)
  · exact mostF_no hE _ _ _

set_option maxHeartbeats 2000000 in
theorem rMost_any (n f d p r dr o sl md fr : Int) (ad : Option Addr) (cap : Nat) (zs : List Int) (a2 : Option Addr) (len c2 : Nat) (vs : List Int) (w : World) (hl : zs.length ≤ 9223372036854775807) (hT : Tab w ad zs) (hlv : vs.length ≤ 9223372036854775807) (hV : kInt.Lies w.heap.size w (.slice a2 len c2) vs) :
    Calls Tryz.prog 91 #[.agg #[.int .i64 n, .int .i64 f, .int .i64 d, .int .i64 p, .int .i64 r, .int .i64 dr, .int .i64 o, .int .i64 sl, .int .i64 md, .int .i64 fr, .slice ad zs.length cap], .slice a2 len c2] w fun e w' => e = .returned (.int .i64 (mostF (plainE n f d p r dr o sl md fr zs) n f vs)) ∧ Below w.heap.size w w' := by
  have C := fun v V h h2 => rEnough_any n f d p r dr o sl md fr ad cap zs v a2 len c2 vs V hl h hlv h2
  have HT := hidden (hT.below (ballc w (.cells #[.int .i64 n, .int .i64 f, .int .i64 d, .int .i64 p, .int .i64 r, .int .i64 dr, .int .i64 o, .int .i64 sl, .int .i64 md, .int .i64 fr, .slice ad zs.length cap] 24)))
  have HV := hidden (hV.later (ballc w (.cells #[.int .i64 n, .int .i64 f, .int .i64 d, .int .i64 p, .int .i64 r, .int .i64 dr, .int .i64 o, .int .i64 sl, .int .i64 md, .int .i64 fr, .slice ad zs.length cap] 24)))
  have C1 := C 1
  have C0 := C 0
  have m1 := fun h => most_1 (E := plainE n f d p r dr o sl md fr zs) (n := n) (f := f) (vs := vs) h
  have m0 := fun h => most_0 (E := plainE n f d p r dr o sl md fr zs) (n := n) (f := f) (vs := vs) h
  have m2 := fun h => most_2 (E := plainE n f d p r dr o sl md fr zs) (n := n) (f := f) (vs := vs) h
  clear C hT hV
  generalize mostF (plainE n f d p r dr o sl md fr zs) n f vs = M at *
  generalize enoughB (plainE n f d p r dr o sl md fr zs) n f 1 vs = q1 at *
  generalize enoughB (plainE n f d p r dr o sl md fr zs) n f 0 vs = q0 at *
  cases q1
  · cases q0
    · have HM := hidden (m2 rfl rfl)
      clear m0 m1 m2
      go_enter Tryz.func91, Tryz.ntmps91
      go_wp2_with fail
      refine (C1 _ HT.out HV.out).mono ?_
      rintro e w2 ⟨rfl, hb2⟩
      have HB2 := hidden hb2
      obtain ⟨hbox, hsz⟩ := box_at hb2
      clear hb2 C1
      go_wp2_with fail
      refine (C0 _ (HT.out.below HB2.out) (HV.out.later HB2.out)).mono ?_
      rintro e w3 ⟨rfl, hb3⟩
      have HB3 := hidden (bthen (ballc w _) (bthen HB2.out hb3))
      clear hb3 C0 hbox hsz
      go_wp2
      go_ret
      exact ⟨ret_i HM.out.symm, HB3.out⟩
    · have HM := hidden (m0 rfl rfl)
      clear m0 m1 m2
      go_enter Tryz.func91, Tryz.ntmps91
      go_wp2_with fail
      refine (C1 _ HT.out HV.out).mono ?_
      rintro e w2 ⟨rfl, hb2⟩
      have HB2 := hidden hb2
      obtain ⟨hbox, hsz⟩ := box_at hb2
      clear hb2 C1
      go_wp2_with fail
      refine (C0 _ (HT.out.below HB2.out) (HV.out.later HB2.out)).mono ?_
      rintro e w3 ⟨rfl, hb3⟩
      have HB3 := hidden (bthen (ballc w _) (bthen HB2.out hb3))
      clear hb3 C0 hbox hsz
      go_wp2
      go_ret
      exact ⟨ret_i HM.out.symm, HB3.out⟩
  · have HM := hidden (m1 rfl)
    clear m0 m1 m2
    go_enter Tryz.func91, Tryz.ntmps91
    go_wp2_with fail
    refine (C1 _ HT.out HV.out).mono ?_
    rintro e w2 ⟨rfl, hb2⟩
    have HB3 := hidden (bthen (ballc w _) hb2)
    clear hb2 C1
    go_wp2
    go_ret
    exact ⟨ret_i HM.out.symm, HB3.out⟩

set_option maxHeartbeats 4000000 in
theorem rLeast_any (n f d p r dr o sl md fr : Int) (ad : Option Addr) (cap : Nat) (zs : List Int) (now : Int) (a2 : Option Addr) (len c2 : Nat) (vs : List Int) (w : World) (hl : zs.length ≤ 9223372036854775807) (hT : Tab w ad zs) (hlv : vs.length ≤ 9223372036854775807) (hV : kInt.Lies w.heap.size w (.slice a2 len c2) vs) :
    Calls Tryz.prog 92 #[.agg #[.int .i64 n, .int .i64 f, .int .i64 d, .int .i64 p, .int .i64 r, .int .i64 dr, .int .i64 o, .int .i64 sl, .int .i64 md, .int .i64 fr, .slice ad zs.length cap], .int .i64 now, .slice a2 len c2] w fun e w' => e = .returned (.int .i64 (leastF (plainE n f d p r dr o sl md fr zs) f now vs)) ∧ Below w.heap.size w w' := by
  have HQ := hidden (refPlain_any n f d p r dr o sl md fr ad cap zs (w.alloc (.cells #[.int .i64 n, .int .i64 f, .int .i64 d, .int .i64 p, .int .i64 r, .int .i64 dr, .int .i64 o, .int .i64 sl, .int .i64 md, .int .i64 fr, .slice ad zs.length cap] 24)) hl (hT.below (ballc _ _)))
  have HK := hidden (fun h => plainE_ok (n := n) (f := f) (d := d) (p := p) (r := r) (dr := dr) (o := o) (sl := sl) (md := md) (fr := fr) (zs := zs) h)
  have HV := hidden (hV.later (ballc w (.cells #[.int .i64 n, .int .i64 f, .int .i64 d, .int .i64 p, .int .i64 r, .int .i64 dr, .int .i64 o, .int .i64 sl, .int .i64 md, .int .i64 fr, .slice ad zs.length cap] 24)))
  have C := fun v V h => Calls.to_below (rTCount_any v a2 len c2 vs hlv V h)
  have C0 := C 0
  have C1 := C 1
  have C2 := C 2
  rw [cntF_in (by decide) (by decide)] at C0 C1 C2
  have C0 := hidden C0
  have C1 := hidden C1
  have C2 := hidden C2
  clear hT hV C
  generalize plainE n f d p r dr o sl md fr zs = E at HQ HK
  by_cases hE : E = 0
  · obtain ⟨n1, n2, f1, f2, n3, _⟩ := HK.out hE
    subst hE
    have m0 := fun h => leastF_0 (E := 0) rfl (f := f) (now := now) (zs := vs) h
    have m1 := fun h => leastF_1 (E := 0) rfl (f := f) (now := now) (zs := vs) h
    have m2 := fun h => leastF_2 (E := 0) rfl (f := f) (now := now) (zs := vs) h
    have m3 := fun h => leastF_n (E := 0) rfl (f := f) (now := now) (zs := vs) h
    generalize leastF 0 f now vs = M at *
    generalize cntL 0 vs = k0 at *
    generalize cntL 1 vs = k1 at *
    generalize cntL 2 vs = k2 at *
    by_cases h0 : f + 1 ≤ (k0 : Int)
    · have g0 : f < (k0 : Int) := by omega
      have HM := hidden (m0 h0)
      clear m0 m1 m2 m3
      go_enter Tryz.func92, Tryz.ntmps92
      go_wp2_with fail
      refine HQ.out.mono ?_
      rintro e w2 ⟨rfl, hb2⟩
      have HV2 := hidden (HV.out.later hb2)
      have HBX := hidden hb2
      obtain ⟨hbox, hsz⟩ := box_at hb2
      clear hb2 HQ HK HV
      go_wp2
      refine wp_loop_rounds 4 ?_
      rw [rounds_succ]
      go_wp2
      refine wp_region_quiet_below (by kernel_rfl) (by kernel_rfl) ?_
      repeat (go_big_quiet_step (first | (go_at_call 105; exact Calls.regrown_of (C0.out _ (HV2.out.later (below_regrown _ _ _))))))
      refine wpQuiet_nil ?_
      intro w3 hw
      have HC := hidden (rg_below hw)
      clear hw
      obtain ⟨hbox, hsz⟩ := box_at (bthen HBX.out HC.out)
      have HV2 := hidden (HV2.out.later HC.out)
      have HBX := hidden (bthen HBX.out HC.out)
      clear HC
      go_wp2
      go_ret
      exact ⟨ret_i HM.out.symm, bthen (ballc w _) HBX.out⟩
    · have g0 : ¬ f < (k0 : Int) := by omega
      by_cases h1 : f + 1 ≤ (k1 : Int)
      · have g1 : f < (k1 : Int) := by omega
        have HM := hidden (m1 h0 h1)
        clear m0 m1 m2 m3
        go_enter Tryz.func92, Tryz.ntmps92
        go_wp2_with fail
        refine HQ.out.mono ?_
        rintro e w2 ⟨rfl, hb2⟩
        have HV2 := hidden (HV.out.later hb2)
        have HBX := hidden hb2
        obtain ⟨hbox, hsz⟩ := box_at hb2
        clear hb2 HQ HK HV
        go_wp2
        refine wp_loop_rounds 4 ?_
        rw [rounds_succ]
        go_wp2
        refine wp_region_quiet_below (by kernel_rfl) (by kernel_rfl) ?_
        repeat (go_big_quiet_step (first | (go_at_call 105; exact Calls.regrown_of (C0.out _ (HV2.out.later (below_regrown _ _ _))))))
        refine wpQuiet_nil ?_
        intro w3 hw
        have HC := hidden (rg_below hw)
        clear hw
        obtain ⟨hbox, hsz⟩ := box_at (bthen HBX.out HC.out)
        have HV2 := hidden (HV2.out.later HC.out)
        have HBX := hidden (bthen HBX.out HC.out)
        clear HC
        go_wp2
        rw [rounds_succ]
        go_wp2
        refine wp_region_quiet_below (by kernel_rfl) (by kernel_rfl) ?_
        repeat (go_big_quiet_step (first | (go_at_call 105; exact Calls.regrown_of (C1.out _ (HV2.out.later (below_regrown _ _ _))))))
        refine wpQuiet_nil ?_
        intro w4 hw
        have HC := hidden (rg_below hw)
        clear hw
        obtain ⟨hbox, hsz⟩ := box_at (bthen HBX.out HC.out)
        have HV2 := hidden (HV2.out.later HC.out)
        have HBX := hidden (bthen HBX.out HC.out)
        clear HC
        go_wp2
        go_ret
        exact ⟨ret_i HM.out.symm, bthen (ballc w _) HBX.out⟩
      · have g1 : ¬ f < (k1 : Int) := by omega
        by_cases h2 : f + 1 ≤ (k2 : Int)
        · have g2 : f < (k2 : Int) := by omega
          have HM := hidden (m2 h0 h1 h2)
          clear m0 m1 m2 m3
          go_enter Tryz.func92, Tryz.ntmps92
          go_wp2_with fail
          refine HQ.out.mono ?_
          rintro e w2 ⟨rfl, hb2⟩
          have HV2 := hidden (HV.out.later hb2)
          have HBX := hidden hb2
          obtain ⟨hbox, hsz⟩ := box_at hb2
          clear hb2 HQ HK HV
          go_wp2
          refine wp_loop_rounds 4 ?_
          rw [rounds_succ]
          go_wp2
          refine wp_region_quiet_below (by kernel_rfl) (by kernel_rfl) ?_
          repeat (go_big_quiet_step (first | (go_at_call 105; exact Calls.regrown_of (C0.out _ (HV2.out.later (below_regrown _ _ _))))))
          refine wpQuiet_nil ?_
          intro w3 hw
          have HC := hidden (rg_below hw)
          clear hw
          obtain ⟨hbox, hsz⟩ := box_at (bthen HBX.out HC.out)
          have HV2 := hidden (HV2.out.later HC.out)
          have HBX := hidden (bthen HBX.out HC.out)
          clear HC
          go_wp2
          rw [rounds_succ]
          go_wp2
          refine wp_region_quiet_below (by kernel_rfl) (by kernel_rfl) ?_
          repeat (go_big_quiet_step (first | (go_at_call 105; exact Calls.regrown_of (C1.out _ (HV2.out.later (below_regrown _ _ _))))))
          refine wpQuiet_nil ?_
          intro w4 hw
          have HC := hidden (rg_below hw)
          clear hw
          obtain ⟨hbox, hsz⟩ := box_at (bthen HBX.out HC.out)
          have HV2 := hidden (HV2.out.later HC.out)
          have HBX := hidden (bthen HBX.out HC.out)
          clear HC
          go_wp2
          rw [rounds_succ]
          go_wp2
          refine wp_region_quiet_below (by kernel_rfl) (by kernel_rfl) ?_
          repeat (go_big_quiet_step (first | (go_at_call 105; exact Calls.regrown_of (C2.out _ (HV2.out.later (below_regrown _ _ _))))))
          refine wpQuiet_nil ?_
          intro w5 hw
          have HC := hidden (rg_below hw)
          clear hw
          obtain ⟨hbox, hsz⟩ := box_at (bthen HBX.out HC.out)
          have HV2 := hidden (HV2.out.later HC.out)
          have HBX := hidden (bthen HBX.out HC.out)
          clear HC
          go_wp2
          go_ret
          exact ⟨ret_i HM.out.symm, bthen (ballc w _) HBX.out⟩
        · have g2 : ¬ f < (k2 : Int) := by omega
          have HM := hidden (m3 h0 h1 h2)
          clear m0 m1 m2 m3
          go_enter Tryz.func92, Tryz.ntmps92
          go_wp2_with fail
          refine HQ.out.mono ?_
          rintro e w2 ⟨rfl, hb2⟩
          have HV2 := hidden (HV.out.later hb2)
          have HBX := hidden hb2
          obtain ⟨hbox, hsz⟩ := box_at hb2
          clear hb2 HQ HK HV
          go_wp2
          refine wp_loop_rounds 4 ?_
          rw [rounds_succ]
          go_wp2
          refine wp_region_quiet_below (by kernel_rfl) (by kernel_rfl) ?_
          repeat (go_big_quiet_step (first | (go_at_call 105; exact Calls.regrown_of (C0.out _ (HV2.out.later (below_regrown _ _ _))))))
          refine wpQuiet_nil ?_
          intro w3 hw
          have HC := hidden (rg_below hw)
          clear hw
          obtain ⟨hbox, hsz⟩ := box_at (bthen HBX.out HC.out)
          have HV2 := hidden (HV2.out.later HC.out)
          have HBX := hidden (bthen HBX.out HC.out)
          clear HC
          go_wp2
          rw [rounds_succ]
          go_wp2
          refine wp_region_quiet_below (by kernel_rfl) (by kernel_rfl) ?_
          repeat (go_big_quiet_step (first | (go_at_call 105; exact Calls.regrown_of (C1.out _ (HV2.out.later (below_regrown _ _ _))))))
          refine wpQuiet_nil ?_
          intro w4 hw
          have HC := hidden (rg_below hw)
          clear hw
          obtain ⟨hbox, hsz⟩ := box_at (bthen HBX.out HC.out)
          have HV2 := hidden (HV2.out.later HC.out)
          have HBX := hidden (bthen HBX.out HC.out)
          clear HC
          go_wp2
          rw [rounds_succ]
          go_wp2
          refine wp_region_quiet_below (by kernel_rfl) (by kernel_rfl) ?_
          repeat (go_big_quiet_step (first | (go_at_call 105; exact Calls.regrown_of (C2.out _ (HV2.out.later (below_regrown _ _ _))))))
          refine wpQuiet_nil ?_
          intro w5 hw
          have HC := hidden (rg_below hw)
          clear hw
          obtain ⟨hbox, hsz⟩ := box_at (bthen HBX.out HC.out)
          have HV2 := hidden (HV2.out.later HC.out)
          have HBX := hidden (bthen HBX.out HC.out)
          clear HC
          go_wp2
          rw [rounds_succ]
          go_wp2
          go_ret
          exact ⟨ret_i HM.out.symm, bthen (ballc w _) HBX.out⟩
  · have HE := hidden (leastF_no hE f now vs)
    clear HK
    go_enter Tryz.func92, Tryz.ntmps92
    go_wp2_with fail
    refine HQ.out.mono ?_
    rintro e w2 ⟨rfl, hb2⟩
    have HB2 : Hid (Below w.heap.size w w2) := bthen (ballc w _) hb2
    clear hb2 HQ HV
    go_wp2
    go_ret
    exact ⟨ret_i HE.out.symm, HB2.out⟩
end Go.Proofs.YtkolhbacgoafcaaGreat
