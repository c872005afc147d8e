/- Several texts of one's own in one: what each proves, and its conditions, is said ahead of it. -/
import Derived.Test.YtkolhbacgoafcaaBf
import Derived.Test.YtkolhbacgoafcaaBe
import Derived.Deep.RegionHeld3
import Derived.Test.YtkolhbacgoafcaaBc

/- The call stretches of package pipe hands back an iterator that hands its rounds each exchange with the codes of its stretch; conditions: the table lies where it says, the codes have a place for each. -/
namespace Go.Proofs.Ytkolhbacgoafcaa
open Go.ChangeShapes Go.WideShapes Go.ChangeAt Go.RowKit Go.Shelf
set_option linter.unusedVariables false
attribute [local go_sem] Oper.semAt_some

/-- What a round over stretches keeps: configurations, functions, and one more block. -/
def KpT (gs : Nat) (X Y : World) : Prop := ∀ (b : Nat) (C : Array Value) (t : TypeId) (fr : Nat × Nat), X.heap[b]? = some (.cells C t fr) → (t = 24 ∨ t = 92 ∨ b = gs) → Y.heap[b]? = some (.cells C t fr)
theorem KpT.t {gs : Nat} {X Y Z : World} (h : KpT gs X Y) (k : KpT gs Y Z) : KpT gs X Z := fun b C t fr hb ht => k b C t fr (h b C t fr hb ht) ht
theorem KpT.refl (gs : Nat) (X : World) : KpT gs X X := fun _ _ _ _ h _ => h
theorem KpT.put {gs : Nat} (W : World) (l : Nat) (o o' : Obj) (hl : W.heap[l]? = some o) (ho : o.isCells = false) : KpT gs W (W.putObj l o') := fun b C t fr hb _ => by
  refine (World.putObj_heap_other (fun e => ?_)).trans hb
  subst e
  rw [hb] at hl
  cases hl
  cases ho
theorem KpT.below {gs : Nat} {X Y : World} (h : Below X.heap.size X Y) : KpT gs X Y := fun b C t fr hb _ => blk_later hb h
theorem KpT.grown {gs g : Nat} {X Y : World} {C : Array Value} {t : TypeId} {fr : Nat × Nat} (h : X.grownBy Y (some g)) (hg : X.heap[g]? = some (.cells C t fr)) (h1 : t ≠ 24) (h2 : t ≠ 92) (h3 : g ≠ gs) : KpT gs X Y := fun b C' t' fr' hb ht => by
  refine (h.block b (blk_lt hb) (fun e => ?_)).trans hb
  cases e
  rw [hg] at hb
  cases hb
  rcases ht with ht | ht | ht
  · exact h1 ht
  · exact h2 ht
  · exact h3 ht
theorem stretch_cut (g P D L cap : Nat) (hD : 1 ≤ D) (hc : P + D ≤ cap) (W : World) : (Instr.slice 48 (.slice (some ⟨g, 0, none⟩) L cap) (some (.int .i64 (P : Int))) (some (.int .i64 ((P : Int) + (D : Int)))) (some (.int .i64 ((P : Int) + (D : Int))))).run Try.prog W = .ok (.slice (some ⟨g, P, none⟩) D D) W := by
  have ht : Try.prog.underlying 48 = some (.slice (Try.prog.elem 48)) := by kernel_rfl
  rw [run_slice_lhm W 48 _ L cap ht .i64 .i64 .i64 (P : Int) ((P : Int) + (D : Int)) ((P : Int) + (D : Int)) (by omega) (by omega) (by omega) (by omega)]
  have hz : (sizeOf (Try.prog.elem 48)).run Try.prog W = .ok 1 W := by kernel_rfl
  rw [hz]
  have e1 : ((P : Int) + (D : Int)).toNat = P + D := by omega
  simp only [Result.andThen, sliced, e1, Int.toNat_natCast]
  rw [if_neg (by omega), show P + D - P = D by omega]
  simp [Addr.add]
  intro h
  omega

theorem stretches_any (n f d p r dr o sl md fr : Int) (ad : Option Addr) (cap : Nat) (zs : List Int) (a2 : Option Addr) (L c2 : Nat) (w : World) :
    Calls Try.prog 32 #[.agg #[.int .i64 n, .int .i64 f, .int .i64 d, .int .i64 p, .int .i64 r, .int .i64 dr, .int .i64 o, .int .i64 sl, .int .i64 md, .int .i64 fr, .slice ad zs.length cap], .slice a2 L c2] w fun e w' => ∃ gc gs, e = .returned (.func (.func 70) #[] #[.pointer (some ⟨gc, 0, none⟩), .pointer (some ⟨gs, 0, none⟩)]) ∧ w'.heap[gc]? = some (.cells #[.int .i64 n, .int .i64 f, .int .i64 d, .int .i64 p, .int .i64 r, .int .i64 dr, .int .i64 o, .int .i64 sl, .int .i64 md, .int .i64 fr, .slice ad zs.length cap] 24 (0, 0)) ∧ w'.heap[gs]? = some (.cells #[.slice a2 L c2] 48 (0, 0)) ∧ w.heap.size ≤ gs ∧ Below w.heap.size w w' := by
  have hmf : ∀ (fn : Fn) (first cap : Array Value) (w : World), (Instr.makeFunc fn first cap).run Try.prog w = .ok (.func fn first cap) w := fun _ _ _ _ => rfl
  have k1 := blk_nw w #[.int .i64 n, .int .i64 f, .int .i64 d, .int .i64 p, .int .i64 r, .int .i64 dr, .int .i64 o, .int .i64 sl, .int .i64 md, .int .i64 fr, .slice ad zs.length cap] 24
  have k2 := blk_newAt (w.alloc (.cells #[.int .i64 n, .int .i64 f, .int .i64 d, .int .i64 p, .int .i64 r, .int .i64 dr, .int .i64 o, .int .i64 sl, .int .i64 md, .int .i64 fr, .slice ad zs.length cap] 24)) #[.slice a2 L c2] 48 (b := w.heap.size + 1) (by simp)
  have K1 := hidden (blk_later k1 (ballc _ (.cells #[.slice a2 L c2] 48)))
  have K2 := hidden k2
  have HB := hidden (bthen (ballc w (.cells #[.int .i64 n, .int .i64 f, .int .i64 d, .int .i64 p, .int .i64 r, .int .i64 dr, .int .i64 o, .int .i64 sl, .int .i64 md, .int .i64 fr, .slice ad zs.length cap] 24)) (ballc _ (.cells #[.slice a2 L c2] 48)))
  clear k1 k2
  go_enter Try.func32, Try.ntmps32
  go_wp2
  go_ret
  exact ⟨_, _, rfl, K1.out, K2.out, by omega, HB.out⟩

set_option maxRecDepth 100000 in
set_option maxHeartbeats 4000000 in
theorem str_gives (n f d p r dr o sl md fr : Int) (ad : Option Addr) (cap : Nat) (zs : List Int) (R D L cap' : Nat) (hR15 : R ≤ 15) (hd : R = 0 ∨ (d = (D : Int) ∧ 1 ≤ D ∧ D ≤ 4)) (m : Nat) (hm : 4 ≤ m) (gc gs g : Nat) (w : World) (hl : zs.length ≤ 9223372036854775807) (hT : Tab w ad zs) (hR : gate (plainE n f d p r dr o sl md fr zs) (3 * (f + 1)) = (R : Int))
    (b1 : w.heap[gc]? = some (.cells #[.int .i64 n, .int .i64 f, .int .i64 d, .int .i64 p, .int .i64 r, .int .i64 dr, .int .i64 o, .int .i64 sl, .int .i64 md, .int .i64 fr, .slice ad zs.length cap] 24 (0, 0))) (b2 : w.heap[gs]? = some (.cells #[.slice (some ⟨g, 0, none⟩) L cap'] 48 (0, 0))) (hcap : R * D ≤ cap') :
    Gives m 70 #[.pointer (some ⟨gc, 0, none⟩), .pointer (some ⟨gs, 0, none⟩)] R (fun k => #[.int .i64 (k : Int), .slice (some ⟨g, k * D, none⟩) D D]) (KpT gs) w := by
  intro l J W hW hJ hY h0
  have hro : Fence.wide.round = none := rfl
  have h1 : 1 ≤ m := by omega
  have hfa : Fence.wide.fn 71 := trivial
  replace b1 := blk_later b1 hW
  replace b2 := blk_later b2 hW
  replace hT := hT.below hW
  have hJa := hJ.alloc (.cells #[.func (.yield l) #[] #[]] 92) h0
  have HB0 := hidden (ballc W (.cells #[.func (.yield l) #[] #[]] 92))
  have K1 := hidden (blk_later b1 HB0.out)
  have K2 := hidden (blk_later b2 HB0.out)
  have K3 := hidden (blk_nw W #[.func (.yield l) #[] #[]] 92)
  have HA := hidden (fun V h => Ages_any n f d p r dr o sl md fr ad cap zs R V hl h hR)
  have HT := hidden (hT.below HB0.out)
  have HJ := hidden hJa
  have c1 := fun i => blk_cell b1 i
  have l1 := blk_lt b1
  clear hT hW h0 hJa b1 b2
  refine callsIn_of_wp_marks Try.func70 rfl trivial ?_ hro
  simp only [Try.ntmps70, List.size_toArray, List.length_cons, List.length_nil, Nat.reduceAdd, Nat.reduceSub, Array.replicate_succ, Array.replicate_zero, List.push_toArray, List.append_toArray, List.nil_append, List.cons_append]
  gi_wp2_with (gi_at_call 71; refine (callsIn_wide.2 (HA.out _ HT.out)).mono ?_; rintro e w0 ⟨gr, ga, rfl, d1, d2, hb⟩)
  have E1 := hidden (blk_later K1.out hb)
  have E2 := hidden (blk_later K2.out hb)
  have E3 := hidden (blk_later K3.out hb)
  have HB := hidden (bthen HB0.out hb)
  have HJ0 : Hid (J 0 w0) := own_below' hJ HJ.out hb
  clear hb HA HT c1 K1 K2 K3 HJ
  refine rf_gives (gf := 97) (lb := #[.pointer (some ⟨gr, 0, none⟩), .pointer (some ⟨ga, 0, none⟩)]) rfl (enters_of Try.func97 (by kernel_rfl) rfl)
    (ages_gives n f d p r dr o sl md fr ad cap zs R hR15 (by omega) (m - 1) (by omega) gr ga (KpT gs) (fun X Y hk hx => hk ga _ _ _ hx (.inl rfl)) w0 d1 d2) (Below.refl _ _) (fun _ => rfl) KpT.t (fun V l o o' _ h1 h2 => KpT.put V l o o' h1 h2)
    (fun k V => J k V ∧ V.heap[gc]? = some (.cells #[.int .i64 n, .int .i64 f, .int .i64 d, .int .i64 p, .int .i64 r, .int .i64 dr, .int .i64 o, .int .i64 sl, .int .i64 md, .int .i64 fr, .slice ad zs.length cap] 24 (0, 0)) ∧ V.heap[gs]? = some (.cells #[.slice (some ⟨g, 0, none⟩) L cap'] 48 (0, 0)) ∧ V.heap[W.heap.size]? = some (.cells #[.func (.yield l) #[] #[]] 92 (0, 0)))
    ?own ⟨HJ0.out, E1.out, E2.out, E3.out⟩
    (fun k => { tmps := #[.func (.yield l) #[] #[], .pointer (some ⟨gc, 0, none⟩), .pointer (some ⟨gs, 0, none⟩), .pointer (some ⟨W.heap.size, 0, none⟩), .int .i64 (k : Int), .int .i64 ((k : Int) * d), undef, .agg #[.int .i64 n, .int .i64 f, .int .i64 d, .int .i64 p, .int .i64 r, .int .i64 dr, .int .i64 o, .int .i64 sl, .int .i64 md, .int .i64 fr, .slice ad zs.length cap], .func (.func 97) #[] #[.pointer (some ⟨gr, 0, none⟩), .pointer (some ⟨ga, 0, none⟩)], .int .i64 (k : Int), .int .i64 ((k : Int) * d), undef, undef, undef, undef, undef, undef, undef, undef, undef, undef, undef, undef, undef], defers := [] })
    ?assign ?body ?done
  case own => exact OwnFrom.and (own_up hJ (Nat.le_trans (by simp) HB.out.size)) (OwnFrom.and (cells_own _ _ _ _) (OwnFrom.and (cells_own _ _ _ _) (cells_own _ _ _ _)))
  case assign =>
    intro l2 k V K hK
    gi_wp2
    exact hK
  case body =>
    rintro l2 k V hl2 hk ⟨hJk, e1, e2, e3⟩
    obtain ⟨rfl, hD1, hD4⟩ : d = (D : Int) ∧ 1 ≤ D ∧ D ≤ 4 := by rcases hd with h | h; omega; exact h
    have hbd : Below V.heap.size V V.drew := (Below.refl _ V).drew
    obtain ⟨fn, tmps, assign, body, hy, hRd⟩ := hY k V.drew hk (own_below' hJ hJk hbd)
    have hmix : Try.prog.follows .mixedOrders = true := by kernel_rfl
    have hkD : k * D + D ≤ R * D := by rw [← Nat.succ_mul]; exact Nat.mul_le_mul_right D hk
    have hR60 : R * D ≤ 60 := Nat.mul_le_mul hR15 hD4
    have cut := stretch_cut g (k * D) D L cap' hD1 (by omega)
    have hP : (k : Int) * (D : Int) = ((k * D : Nat) : Int) := by simp
    rw [hP]
    have HF : Hid (∀ X : World, KeepsFrom W.heap.size V.drew X → KeepsFrom w0.heap.size V X) := fun X h => from_up (⟨h.size, h.same⟩ : KeepsFrom W.heap.size V X) (show W.heap.size ≤ w0.heap.size from Nat.le_trans (by simp) HB.out.size)
    have c1 : V.cell? ⟨gc, 2, none⟩ = some (.int .i64 (D : Int)) := blk_cell e1 2
    have c2 : V.cell? ⟨gs, 0, none⟩ = some (.slice (some ⟨g, 0, none⟩) L cap') := blk_cell e2 0
    have c3 : V.cell? ⟨W.heap.size, 0, none⟩ = some (.func (.yield l) #[] #[]) := blk_cell e3 0
    have HE1 := hidden e1
    have HE2 := hidden e2
    have HE3 := hidden e3
    generalize hPP : k * D = P at *
    clear hY hJk hd e1 e2 e3 hP hl hJ hR
    have hP60 : P ≤ 60 := by omega
    clear hkD hR60 hcap
    gi_wp2
    refine wpIn_region_any hmix ?_
    change wpAnyIn _ _ _ _ _ _ _ _ _ V.drew
    refine any_round (no_defer (by kernel_rfl)) _ _ _ _ ?_
    refine wpAnyIn_take (i := 1) (v := .int .i64 (k : Int)) rfl rfl (by kernel_rfl) (by kernel_rfl) (by kernel_rfl) (fun _ _ _ h => h) ⟨Or.inl ⟨by rfl, fun X => by go_simp⟩, fun _ => rfl⟩ ?_
    refine wpAnyIn_take (i := 3) (v := .int .i64 (P : Int)) rfl rfl (by kernel_rfl) (by kernel_rfl) (by kernel_rfl) (fun _ _ _ h => h) ⟨Or.inl ⟨by rfl, fun X => by go_simp⟩, fun _ => rfl⟩ ?_
    refine wpAnyIn_take (i := 4) (v := .int .i64 ((P : Int) + (D : Int))) rfl rfl (by kernel_rfl) (by kernel_rfl) (by kernel_rfl) (fun _ _ _ h => h) ⟨Or.inl ⟨by rfl, fun X => by go_simp⟩, fun _ => rfl⟩ ?_
    refine wpAnyIn_take (i := 5) (v := .int .i64 ((P : Int) + (D : Int))) rfl rfl (by kernel_rfl) (by kernel_rfl) (by kernel_rfl) (fun _ _ _ h => h) ⟨Or.inl ⟨by rfl, fun X => by go_simp⟩, fun _ => rfl⟩ ?_
    refine wpAnyIn_ready (rs := [0, 2]) (by kernel_rfl) (by simp) ?_
    refine AllReadyIn.cons rfl (fun K hK => ?_) ?_
    · rw [if_pos (by rfl)]
      go_simp
      refine hK _ _ ?_
      clear hK K
      refine wpAnyIn_ready (rs := [2]) (by kernel_rfl) (by simp) ?_
      refine AllReadyIn.cons rfl (fun K hK => ?_) ?_
      · rw [if_pos (by rfl)]
        go_simp
        refine hK _ _ ?_
        clear hK K
        refine wpAnyIn_take (i := 6) (v := .slice (some ⟨g, P, none⟩) D D) rfl rfl (by kernel_rfl) (by kernel_rfl) (by kernel_rfl) (fun _ _ _ h => h) ⟨Or.inl ⟨by rfl, fun X => by (go_simp)⟩, fun _ => rfl⟩ ?_
        refine wpAnyIn_ready (rs := [7]) (by kernel_rfl) (by simp) ?_
        refine AllReadyIn.cons rfl (fun K hK => ?_) ?_
        · rw [if_pos (by rfl)]
          go_simp
          refine ⟨fun h => (by cases h), RoundIn.mono (round_dep hRd) ?_⟩
          rintro e V' ⟨rfl, hJ', hk', hf'⟩
          refine hK _ _ ?_
          clear hK K
          refine wpAnyIn_take (i := 8) (v := .bool false) rfl rfl (by kernel_rfl) (by kernel_rfl) (by kernel_rfl) (fun _ _ _ h => h) ⟨Or.inl ⟨by rfl, fun X => by go_simp⟩, fun _ => rfl⟩ ?_
          refine wpAnyIn_done (by kernel_rfl) ?_ _
          gi_wp2
          exact ⟨HF.out _ hf', hk', hJ', hk' gc _ _ _ HE1.out (.inl rfl), hk' gs _ _ _ HE2.out (.inr (.inr rfl)), hk' _ _ _ _ HE3.out (.inr (.inl rfl))⟩
        · exact AllReadyIn.nil
      · exact AllReadyIn.nil
    · refine AllReadyIn.cons rfl (fun K hK => ?_) ?_
      · rw [if_pos (by rfl)]
        go_simp
        refine hK _ _ ?_
        clear hK K
        refine wpAnyIn_take (i := 6) (v := .slice (some ⟨g, P, none⟩) D D) rfl rfl (by kernel_rfl) (by kernel_rfl) (by kernel_rfl) (fun _ _ _ h => h) ⟨Or.inl ⟨by rfl, fun X => by (go_simp)⟩, fun _ => rfl⟩ ?_
        refine wpAnyIn_ready (rs := [0]) (by kernel_rfl) (by simp) ?_
        refine AllReadyIn.cons rfl (fun K hK => ?_) ?_
        · rw [if_pos (by rfl)]
          go_simp
          refine hK _ _ ?_
          clear hK K
          refine wpAnyIn_ready (rs := [7]) (by kernel_rfl) (by simp) ?_
          refine AllReadyIn.cons rfl (fun K hK => ?_) ?_
          · rw [if_pos (by rfl)]
            go_simp
            refine ⟨fun h => (by cases h), RoundIn.mono (round_dep hRd) ?_⟩
            rintro e V' ⟨rfl, hJ', hk', hf'⟩
            refine hK _ _ ?_
            clear hK K
            refine wpAnyIn_take (i := 8) (v := .bool false) rfl rfl (by kernel_rfl) (by kernel_rfl) (by kernel_rfl) (fun _ _ _ h => h) ⟨Or.inl ⟨by rfl, fun X => by go_simp⟩, fun _ => rfl⟩ ?_
            refine wpAnyIn_done (by kernel_rfl) ?_ _
            gi_wp2
            exact ⟨HF.out _ hf', hk', hJ', hk' gc _ _ _ HE1.out (.inl rfl), hk' gs _ _ _ HE2.out (.inr (.inr rfl)), hk' _ _ _ _ HE3.out (.inr (.inl rfl))⟩
          · exact AllReadyIn.nil
        · exact AllReadyIn.nil
      · exact AllReadyIn.nil
  case done =>
    rintro D2 V hD2 ⟨hJR, _⟩ hK
    gi_wp2
    refine ⟨by simp, .inl ⟨_, _, rfl, run_takeDeferred hK, ?_⟩⟩
    exact ⟨_, results_none rfl _ _ _, ⟨_, rfl⟩, own_put hJ hJR (Nat.le_trans (Nat.le_trans (by simp) HB.out.size) hD2) hK⟩
end Go.Proofs.Ytkolhbacgoafcaa

/- The call Tell of package pipe returns what is told of each exchange's code, and makes at most new memory; conditions: the table lies where it says, lengths fit int. -/
namespace Go.Proofs.Ytkolhbacgoafcaa
open Go.ChangeShapes Go.WideShapes Go.ChangeAt Go.RowKit Go.Shelf
set_option linter.unusedVariables false
attribute [local go_sem] Oper.semAt_some

/-- Rows of bytes. -/
def kU8 : Kind UInt8 := ⟨1, fun c => [.int .u8 (c.toNat : Int)], fun _ => rfl, by intro a u hu; simp at hu; subst hu; rfl, by decide⟩
theorem kU8_flat (l : List UInt8) : kU8.flat l = u8s l := by
  induction l with
  | nil => rfl
  | cons a l ih => simp only [Kind.flat, List.flatMap_cons, u8s, List.map_cons] at ih ⊢; rw [ih]; rfl
/-- What is told at this tick, as codes. -/
def tellL (D : Nat) (l : List UInt8) (R : Nat) : List UInt8 := (List.range R).map fun x => at8 l (x * D)
theorem tellL_s (D : Nat) (l : List UInt8) (k : Nat) : tellL D l (k + 1) = tellL D l k ++ [at8 l (k * D)] := by simp [tellL, List.range_succ]
theorem tellL_len (D : Nat) (l : List UInt8) (R : Nat) : (tellL D l R).length = R := by simp [tellL]
theorem fblk_own {β : Type} (B g : Nat) (l : List UInt8) : OwnFrom B (fun (_ : β) W => FBlk W g l) := fun s X Y row hs hg hr =>
  hs.kept hg (fun e => by
    obtain ⟨_, o, ho, hc⟩ := hr g e.symm
    obtain ⟨C, h1, _⟩ := hs
    rw [h1] at ho
    cases ho
    cases hc)
theorem KpT.set {gs : Nat} {X : World} {B : Nat} {C : Array Value} {t : TypeId} {fr : Nat × Nat} (hg : X.heap[B]? = some (.cells C t fr)) (h1 : t ≠ 24) (h2 : t ≠ 92) (h3 : B ≠ gs) (v : Value) : KpT gs X (X.setCell ⟨B, 0, none⟩ v) := KpT.grown (grownBy_setCell' X B v) hg h1 h2 h3
theorem KpT.row {gs : Nat} {X Y : World} {base n : Nat} {v : Value} {xs : List Value} {H : Array Value} {u : TypeId} {p : Nat × Nat} (hr : X.ownsRow base 5 1 v n xs) (hg : X.grownBy Y v.ownBlock) (hgs : X.heap[gs]? = some (.cells H u p)) (hu : u ≠ 5) : KpT gs X Y := by
  rcases hr.2 with ⟨rfl, _⟩ | ⟨g, cap, cur, rfl, _, hb, _⟩
  · intro b C t fr hx _
    exact (hg.block b (blk_lt hx) (by simp [Value.ownBlock])).trans hx
  · refine KpT.grown (g := g) (by simpa [Value.ownBlock] using hg) hb (by decide) (by decide) (fun e => ?_)
    subst e
    rw [hb] at hgs
    cases hgs
    exact hu rfl
theorem FBlk.row {X Y : World} {g base n : Nat} {l : List UInt8} {v : Value} {xs : List Value} (h : FBlk X g l) (hr : X.ownsRow base 5 1 v n xs) (hg : X.grownBy Y v.ownBlock) : FBlk Y g l := by
  refine h.kept hg (fun e => ?_)
  obtain ⟨C, h1, _⟩ := h
  rcases hr.2 with ⟨rfl, _⟩ | ⟨g2, cap, cur, rfl, _, hb, _⟩
  · cases e
  · have e2 : g = g2 := by simpa [Value.ownBlock] using e
    subst e2
    rw [h1] at hb
    simp at hb
theorem conv_u8 {W : World} {base n : Nat} {v : Value} {l : List UInt8} (h : W.ownsRow base 5 1 v n (kU8.flat l)) (hl : l.length = n) : (convert 48 9 v).run Try.prog W = .ok (.string (ba l)) W := by
  subst hl
  rcases h.2 with ⟨rfl, h0⟩ | ⟨g, cap, cur, rfl, hb, hg, h1, h2, h3, h4⟩
  · have : l = [] := List.length_eq_zero_iff.1 h0
    subst this
    rw [run_convert_bytes_string _ 48 9 5 _ _ _ Try.underlying48 Try.underlying5 Try.underlying9]
    rfl
  · refine run_convert_bytes_back W 48 9 5 ⟨g, 0, none⟩ _ l Try.underlying48 Try.underlying5 Try.underlying9 (fun j hj => ?_)
    rw [add_plain, Nat.zero_add]
    simp only [World.cell?, hg]
    have : (cur.toList.take (l.length * 1))[j]? = (u8s l)[j]? := by rw [h4, kU8_flat]
    rw [List.getElem?_take, if_pos (by omega)] at this
    rw [← Array.getElem?_toList, this]
    simp [u8s, hj]
theorem stepIn_append {P : Program} {n : Nat} {o : Oper} {a : Act} {w w' : World} {K : Act → World → Prop} {Q : Exit → Act → World → Prop} (s x : Operand) (t : TypeId) (ho : o.op = .call { callee := .builtin .append, args := #[s, x], argTypes := #[t, t] }) (vs vx v' : Value) (hs : a.eval s = vs) (hx : a.eval x = vx) (hrun : (Builtin.append_ #[t, t] o.type #[vs, vx]).run P w = .ok v' w') (h : K (a.put o.dst v') w') : Oper.wpIn Fence.wide n P o a w K Q := by
  unfold Oper.wpIn
  refine ⟨fun f hf => trivial, ?_⟩
  rw [show Fence.wide.round = none from rfl, Oper.semAt_none]
  simp [execOp, ho, resolve, invoke, builtin, hs, hx, hrun, Result.andThen]
  exact h
theorem infoU8 : (Try.prog.info? 5).map (fun i => (i.zero, i.size, i.bytes)) = some (some (.int .u8 0), 1, 1) := by kernel_rfl

set_option maxRecDepth 100000 in
set_option maxHeartbeats 4000000 in
theorem Tell_in (n f d p r dr o sl md fr : Int) (ad : Option Addr) (cap : Nat) (zs : List Int) (R D L : Nat) (s : ByteArray) (hs : s.size ≤ 9223372036854775807) (w : World) (hl : zs.length ≤ 9223372036854775807) (hT : Tab w ad zs) (hR : gate (plainE n f d p r dr o sl md fr zs) (3 * (f + 1)) = (R : Int)) (hL : gate (plainE n f d p r dr o sl md fr zs) (3 * (f + 1) * d) = (L : Int))
    (hR15 : R ≤ 15) (hL60 : L ≤ 60) (hLD : L = R * D) (hd : R = 0 ∨ (d = (D : Int) ∧ 1 ≤ D ∧ D ≤ 4)) :
    CallsIn Fence.wide 8 Try.prog 11 #[.agg #[.int .i64 n, .int .i64 f, .int .i64 d, .int .i64 p, .int .i64 r, .int .i64 dr, .int .i64 o, .int .i64 sl, .int .i64 md, .int .i64 fr, .slice ad zs.length cap], .string s] w fun e W' => e = .returned (.string (dgB R (valG (ba (tellL D (wellL L s) R))))) ∧ Below w.heap.size w W' := by
  have hro : Fence.wide.round = none := rfl
  have HB0 := hidden (bthen (ballc w (.cells #[.int .i64 n, .int .i64 f, .int .i64 d, .int .i64 p, .int .i64 r, .int .i64 dr, .int .i64 o, .int .i64 sl, .int .i64 md, .int .i64 fr, .slice ad zs.length cap] 24)) (ballc _ (.cells #[.slice none 0 0] 48)))
  have CC := hidden (fun V h => codesOf_any n f d p r dr o sl md fr ad cap zs L s hs V hl h hL hL60)
  have CS := hidden (fun (a2 : Option Addr) (c2 : Nat) V => stretches_any n f d p r dr o sl md fr ad cap zs a2 L c2 V)
  have k0 := blk_later (blk_nw w #[.int .i64 n, .int .i64 f, .int .i64 d, .int .i64 p, .int .i64 r, .int .i64 dr, .int .i64 o, .int .i64 sl, .int .i64 md, .int .i64 fr, .slice ad zs.length cap] 24) (ballc _ (.cells #[.slice none 0 0] 48))
  have k1 := blk_newAt (w.alloc (.cells #[.int .i64 n, .int .i64 f, .int .i64 d, .int .i64 p, .int .i64 r, .int .i64 dr, .int .i64 o, .int .i64 sl, .int .i64 md, .int .i64 fr, .slice ad zs.length cap] 24)) #[.slice none 0 0] 48 (b := w.heap.size + 1) (by simp)
  have HT := hidden (hT.below HB0.out)
  have HG := hidden (fun (cap' gc gs g : Nat) V (h : Tab V ad zs) b1 b2 hc => str_gives n f d p r dr o sl md fr ad cap zs R D L cap' hR15 hd 7 (by omega) gc gs g V hl h hR b1 b2 hc)
  have HWL := hidden (wellL_len L s)
  have HLD := hidden hLD
  have HBT := hidden hT
  clear hT hR hL hLD
  refine callsIn_of_wp_marks Try.func11 rfl trivial ?_ hro
  simp only [Try.ntmps11, List.size_toArray, List.length_cons, List.length_nil, Nat.reduceAdd, Nat.reduceSub, Array.replicate_succ, Array.replicate_zero, List.push_toArray, List.append_toArray, List.nil_append, List.cons_append]
  refine wpIn_wide.2 ?_
  have hsz0 : Hid (((w.alloc (.cells #[.int .i64 n, .int .i64 f, .int .i64 d, .int .i64 p, .int .i64 r, .int .i64 dr, .int .i64 o, .int .i64 sl, .int .i64 md, .int .i64 fr, .slice ad zs.length cap] 24)).alloc (.cells #[.slice none 0 0] 48)).heap.size = w.heap.size + 1 + 1) := by show _ = _; simp
  have K0 := hidden k0
  have K1 := hidden k1
  have hS : ∀ V, Chn ((w.alloc (.cells #[.int .i64 n, .int .i64 f, .int .i64 d, .int .i64 p, .int .i64 r, .int .i64 dr, .int .i64 o, .int .i64 sl, .int .i64 md, .int .i64 fr, .slice ad zs.length cap] 24)).alloc (.cells #[.slice none 0 0] 48)).heap.size ((w.alloc (.cells #[.int .i64 n, .int .i64 f, .int .i64 d, .int .i64 p, .int .i64 r, .int .i64 dr, .int .i64 o, .int .i64 sl, .int .i64 md, .int .i64 fr, .slice ad zs.length cap] 24)).alloc (.cells #[.slice none 0 0] 48)) V → (V.cell? ⟨w.heap.size, 0, none⟩ = some (.int .i64 n) ∧ V.cell? ⟨w.heap.size, 1, none⟩ = some (.int .i64 f) ∧ V.cell? ⟨w.heap.size, 2, none⟩ = some (.int .i64 d) ∧ V.cell? ⟨w.heap.size, 3, none⟩ = some (.int .i64 p) ∧ V.cell? ⟨w.heap.size, 4, none⟩ = some (.int .i64 r) ∧ V.cell? ⟨w.heap.size, 5, none⟩ = some (.int .i64 dr) ∧ V.cell? ⟨w.heap.size, 6, none⟩ = some (.int .i64 o) ∧ V.cell? ⟨w.heap.size, 7, none⟩ = some (.int .i64 sl) ∧ V.cell? ⟨w.heap.size, 8, none⟩ = some (.int .i64 md) ∧ V.cell? ⟨w.heap.size, 9, none⟩ = some (.int .i64 fr) ∧ V.cell? ⟨w.heap.size, 10, none⟩ = some (.slice ad zs.length cap)) := fun V hV => by
    have l0 := blk_cell (blk_later k0 hV.1)
    exact ⟨l0 0, l0 1, l0 2, l0 3, l0 4, l0 5, l0 6, l0 7, l0 8, l0 9, l0 10⟩
  have hC0 : Chn ((w.alloc (.cells #[.int .i64 n, .int .i64 f, .int .i64 d, .int .i64 p, .int .i64 r, .int .i64 dr, .int .i64 o, .int .i64 sl, .int .i64 md, .int .i64 fr, .slice ad zs.length cap] 24)).alloc (.cells #[.slice none 0 0] 48)).heap.size ((w.alloc (.cells #[.int .i64 n, .int .i64 f, .int .i64 d, .int .i64 p, .int .i64 r, .int .i64 dr, .int .i64 o, .int .i64 sl, .int .i64 md, .int .i64 fr, .slice ad zs.length cap] 24)).alloc (.cells #[.slice none 0 0] 48)) ((w.alloc (.cells #[.int .i64 n, .int .i64 f, .int .i64 d, .int .i64 p, .int .i64 r, .int .i64 dr, .int .i64 o, .int .i64 sl, .int .i64 md, .int .i64 fr, .slice ad zs.length cap] 24)).alloc (.cells #[.slice none 0 0] 48)) := Chn.refl (Nat.le_refl _)
  clear k0 k1
  go_wp2
  generalize (w.alloc (.cells #[.int .i64 n, .int .i64 f, .int .i64 d, .int .i64 p, .int .i64 r, .int .i64 dr, .int .i64 o, .int .i64 sl, .int .i64 md, .int .i64 fr, .slice ad zs.length cap] 24)).alloc (.cells #[.slice none 0 0] 48) = w0 at *
  go_region_held3 (fun V => V.cell? ⟨w.heap.size, 0, none⟩ = some (.int .i64 n) ∧ V.cell? ⟨w.heap.size, 1, none⟩ = some (.int .i64 f) ∧ V.cell? ⟨w.heap.size, 2, none⟩ = some (.int .i64 d) ∧ V.cell? ⟨w.heap.size, 3, none⟩ = some (.int .i64 p) ∧ V.cell? ⟨w.heap.size, 4, none⟩ = some (.int .i64 r) ∧ V.cell? ⟨w.heap.size, 5, none⟩ = some (.int .i64 dr) ∧ V.cell? ⟨w.heap.size, 6, none⟩ = some (.int .i64 o) ∧ V.cell? ⟨w.heap.size, 7, none⟩ = some (.int .i64 sl) ∧ V.cell? ⟨w.heap.size, 8, none⟩ = some (.int .i64 md) ∧ V.cell? ⟨w.heap.size, 9, none⟩ = some (.int .i64 fr) ∧ V.cell? ⟨w.heap.size, 10, none⟩ = some (.slice ad zs.length cap)) (first | exact hS _ (by repeat (first | with_reducible assumption | with_reducible refine Chn.drew ?_)))
    (first
    | (go_at_call 33; refine (CC.out _ (HT.out.below (Chn.out (by repeat (first | with_reducible assumption | with_reducible refine Chn.drew ?_))))).mono ?_; rintro e w4 ⟨g, cap', rfl, hF, hg, hcap, hb4⟩; have hC4 := Chn.below (show Chn w0.heap.size w0 _ from (by repeat (first | with_reducible assumption | with_reducible refine Chn.drew ?_))) hb4; have hgw := Nat.le_trans hC4.2 (Nat.le_refl _); clear hb4)
    | (go_at_call 32; refine (CS.out _ _ _).mono ?_; rintro e w5 ⟨gc, gs, rfl, e1, e2, hgs, hb5⟩; have hF5 := FBlk.later hF hb5; have hC5 := Chn.below hC4 hb5; clear hb5))
  have hs4 := hC4.2
  have hs5 := hC5.2
  have hgs' : w.heap.size + 1 < gs := by have := hsz0.out; omega
  have HB5 := hidden (bthen HB0.out hC5.out)
  have B5 : Boxed w5 (w.heap.size + 1) 48 (.slice none 0 0) := blk_later K1.out hC5.out
  have HF5 := hidden hF5
  have hGI := HG.out cap' gc gs g w5 (HT.out.below hC5.out) e1 e2 (by rw [← HLD.out]; exact hcap)
  have HE2 := hidden e2
  clear hS hC0 hC4 hC5 hF hF5 CC CS HG K0 K1 HBT e1 e2
  go_wp2
  refine (wpIn_wide (n := 8)).1 ?_
  refine rf_gives (gf := 70) (lb := #[.pointer (some ⟨gc, 0, none⟩), .pointer (some ⟨gs, 0, none⟩)]) rfl (enters_of Try.func70 (by kernel_rfl) rfl)
    hGI (Below.refl _ _) (fun _ => rfl) KpT.t (fun V l o o' _ h1 h2 => KpT.put V l o o' h1 h2)
    (fun k V => (∃ v, Boxed V (w.heap.size + 1) 48 v ∧ V.ownsRow w.heap.size 5 1 v k (kU8.flat (tellL D (wellL L s) k)) ∧ True) ∧ FBlk V g (wellL L s) ∧ V.heap[gs]? = some (.cells #[.slice (some ⟨g, 0, none⟩) L cap'] 48 (0, 0)) ∧ Below w.heap.size w V)
    ?own ⟨⟨_, B5, World.ownsRow_nil _ _ _ _, trivial⟩, HF5.out, HE2.out, HB5.out⟩
    (fun k => { tmps := #[.agg #[.int .i64 n, .int .i64 f, .int .i64 d, .int .i64 p, .int .i64 r, .int .i64 dr, .int .i64 o, .int .i64 sl, .int .i64 md, .int .i64 fr, .slice ad zs.length cap], .string s, .pointer (some ⟨w.heap.size, 0, none⟩), undef, .string ⟨#[]⟩, .pointer (some ⟨w.heap.size + 1, 0, none⟩), undef, .slice (some ⟨g, k * D, none⟩) D D, .agg #[.int .i64 n, .int .i64 f, .int .i64 d, .int .i64 p, .int .i64 r, .int .i64 dr, .int .i64 o, .int .i64 sl, .int .i64 md, .int .i64 fr, .slice ad zs.length cap], .agg #[.int .i64 n, .int .i64 f, .int .i64 d, .int .i64 p, .int .i64 r, .int .i64 dr, .int .i64 o, .int .i64 sl, .int .i64 md, .int .i64 fr, .slice ad zs.length cap], .string s, .slice (some ⟨g, 0, none⟩) L cap', .func (.func 70) #[] #[.pointer (some ⟨gc, 0, none⟩), .pointer (some ⟨gs, 0, none⟩)], .int .i64 (k : Int), .slice (some ⟨g, k * D, none⟩) D D, undef, undef, undef, undef, undef, undef, undef, undef, undef], defers := [] })
    ?assign ?body ?done
  case own => exact OwnFrom.and (Own.from (holdsRow_own w.heap.size (w.heap.size + 1) 48 5 1 (fun k => k) (fun k => kU8.flat (tellL D (wellL L s) k)) (fun _ _ => True)) _) (OwnFrom.and (fblk_own _ _ _) (OwnFrom.and (cells_own _ _ _ _) (ownFrom_below (Nat.le_refl _) (by have := hsz0.out; omega))))
  case assign =>
    intro l2 k V K hK
    gi_wp2
    exact hK
  case body =>
    rintro l2 k V hl2 hk ⟨⟨v, hv, hrow, _⟩, hf, he2, hB⟩
    obtain ⟨rfl, hD1, hD4⟩ : d = (D : Int) ∧ 1 ≤ D ∧ D ≤ 4 := by rcases hd with h | h; omega; exact h
    have hkL : k * D < L := by
      rw [HLD.out]
      exact Nat.mul_lt_mul_of_pos_right hk (by omega)
    have cg := hf.cell (k * D) (by rw [HWL.out]; exact hkL)
    have lg := hf.lt
    have cv := hv.cell
    have lv := hv.lt
    have hmix : Try.prog.follows .mixedOrders = true := by kernel_rfl
    have hTL := hidden (tellL_s D (wellL L s) k)
    generalize at8 (wellL L s) (k * D) = c at *
    obtain ⟨i0, hi, hz0, hz1, hz2⟩ := info_parts infoU8
    have hrowd : (V.drew.alloc (.cells #[.int .u8 (c.toNat : Int)] 5)).ownsRow w.heap.size 5 kU8.k v k (kU8.flat (tellL D (wellL L s) k)) := hrow.alloc _
    obtain ⟨v', w1, hrun, hown', hgrow, _⟩ := kU8.run_append (P := Try.prog) (V.drew.alloc (.cells #[.int .u8 (c.toNat : Int)] 5)) w.heap.size 48 48 5 i0 (.int .u8 0) 1 Try.underlying48 hi hz0 hz1 hz2 rfl v k _ hrowd (.slice (some ⟨V.drew.heap.size, 0, none⟩) 1 1) [c] (Kind.Lies.of_block (K := kU8) (es := [c]) (heap_alloc_new V.drew _) (by simp [maxLen])) (by simp only [maxLen, List.length_singleton]; omega) (by simp only [List.length_singleton]; omega) (by have := hB.size; simp; omega)
    rw [List.length_singleton] at hown'
    obtain ⟨g', cap2, rfl⟩ := ownsRow_succ hown'
    obtain ⟨hv1, hv2, hr2, hk2, hb2⟩ := (show Boxed V.drew (w.heap.size + 1) 48 v from hv).appended (by decide) (show V.drew.ownsRow w.heap.size 5 1 v k (kU8.flat (tellL D (wellL L s) k)) from hrow) (show w.heap.size ≤ V.drew.heap.size from hB.size) (Nat.le_succ _) hown' hgrow
    have cv1 := hv1.cell
    have hD0 : ¬ D = 0 := by omega
    have hD00 : (0 : Int) < (D : Int) := by omega
    have fv1 := hv1.frozen
    have lv1 := hv1.lt
    have hfa : FBlk (V.drew.alloc (.cells #[.int .u8 (c.toNat : Int)] 5)) g (wellL L s) := (show FBlk V.drew g (wellL L s) from hf).later (ballc _ _)
    have hea : (V.drew.alloc (.cells #[.int .u8 (c.toNat : Int)] 5)).heap[gs]? = some (.cells #[.slice (some ⟨g, 0, none⟩) L cap'] 48 (0, 0)) := blk_later (show V.drew.heap[gs]? = _ from he2) (ballc _ _)
    have hkp : KpT gs V (w1.setCell ⟨w.heap.size + 1, 0, none⟩ (.slice (some ⟨g', 0, none⟩) (k + 1) cap2)) := ((KpT.below (ballc V.drew (.cells #[.int .u8 (c.toNat : Int)] 5))).t (KpT.row hrowd hgrow hea (by decide))).t (KpT.set hv1 (by decide) (by decide) (by omega) _)
    have hf1 := hfa.row hrowd hgrow
    have HEND : Hid (goesOn w5.heap.size (KpT gs) (fun V => (∃ v, Boxed V (w.heap.size + 1) 48 v ∧ V.ownsRow w.heap.size 5 1 v (k + 1) (kU8.flat (tellL D (wellL L s) (k + 1))) ∧ True) ∧ FBlk V g (wellL L s) ∧ V.heap[gs]? = some (.cells #[.slice (some ⟨g, 0, none⟩) L cap'] 48 (0, 0)) ∧ Below w.heap.size w V) V .normal { tmps := #[], defers := [] } (w1.setCell ⟨w.heap.size + 1, 0, none⟩ (.slice (some ⟨g', 0, none⟩) (k + 1) cap2))) := by
      refine ⟨(⟨hk2.size, hk2.same⟩ : KeepsOthers V _).from _, hkp, ⟨_, hv2, by rw [hTL.out, Kind.flat_append]; exact hr2, trivial⟩, hf1.kept (grownBy_setCell' _ _ _) (fun e => ?_), hkp gs _ _ _ he2 (.inr (.inr rfl)), hB.trans (show Below w.heap.size V _ from ⟨hb2.os, hb2.tape, hb2.output, hb2.size, hb2.block⟩)⟩
      obtain ⟨C, h1, _⟩ := hf1
      cases e
      rw [show w1.heap[w.heap.size + 1]? = _ from hv1] at h1
      cases h1
    clear hkp hf1 hfa hea hk2 hb2 hr2 hv2 hv1 hrowd hown' hgrow hf he2 hB hrow hv hD4 hd hi hz0 hz1 hz2 HE2 HF5 hGI
    generalize hPP : k * D = P at *
    clear hPP
    gi_wp2
    refine wpIn_region_any hmix ?_
    change wpAnyIn _ _ _ _ _ _ _ _ _ V.drew
    refine any_round (no_defer (by kernel_rfl)) _ _ _ _ ?_
    refine wpAnyIn_take (i := 1) (v := .slice (some ⟨g, P, none⟩) D D) rfl rfl (by kernel_rfl) (by kernel_rfl) (by kernel_rfl) (fun _ _ _ h => h) ⟨Or.inl ⟨by rfl, fun X => by go_simp⟩, fun _ => rfl⟩ ?_
    refine wpAnyIn_take (i := 2) (v := .pointer (some ⟨g, P, none⟩)) rfl rfl (by kernel_rfl) (by kernel_rfl) (by kernel_rfl) (fun _ _ _ h => h) ⟨Or.inl ⟨by rfl, fun X => by go_simp⟩, fun _ => rfl⟩ ?_
    refine wpAnyIn_ready (rs := [0, 3]) (by kernel_rfl) (by simp) ?_
    refine AllReadyIn.cons rfl (fun K hK => ?_) ?_
    · rw [if_pos (by rfl)]
      go_simp
      refine hK _ _ ?_
      clear hK K
      refine wpAnyIn_ready (rs := [3]) (by kernel_rfl) (by simp) ?_
      refine AllReadyIn.cons rfl (fun K hK => ?_) ?_
      · rw [if_pos (by rfl)]
        go_simp
        refine hK _ _ ?_
        clear hK K
        refine wpAnyIn_ready (rs := [4]) (by kernel_rfl) (by simp) ?_
        refine AllReadyIn.cons rfl (fun K hK => ?_) ?_
        · rw [if_pos (by rfl)]
          go_simp
          refine hK _ _ ?_
          clear hK K
          refine wpAnyIn_ready (rs := [5]) (by kernel_rfl) (by simp) ?_
          refine AllReadyIn.cons rfl (fun K hK => ?_) ?_
          · rw [if_pos (by rfl)]
            refine stepIn_append (.tmp 15) (.tmp 19) 48 rfl _ _ _ rfl rfl hrun ?_
            refine hK _ _ ?_
            clear hK K
            refine wpAnyIn_ready (rs := [6]) (by kernel_rfl) (by simp) ?_
            refine AllReadyIn.cons rfl (fun K hK => ?_) ?_
            · rw [if_pos (by rfl)]
              go_simp
              refine hK _ _ ?_
              clear hK K
              refine wpAnyIn_done (by kernel_rfl) ?_ _
              gi_wp2
              exact HEND.out
            · exact AllReadyIn.nil
          · exact AllReadyIn.nil
        · exact AllReadyIn.nil
      · exact AllReadyIn.nil
    · refine AllReadyIn.cons rfl (fun K hK => ?_) ?_
      · rw [if_pos (by rfl)]
        go_simp
        refine hK _ _ ?_
        clear hK K
        refine wpAnyIn_ready (rs := [0, 4]) (by kernel_rfl) (by simp) ?_
        refine AllReadyIn.cons rfl (fun K hK => ?_) ?_
        · rw [if_pos (by rfl)]
          go_simp
          refine hK _ _ ?_
          clear hK K
          refine wpAnyIn_ready (rs := [4]) (by kernel_rfl) (by simp) ?_
          refine AllReadyIn.cons rfl (fun K hK => ?_) ?_
          · rw [if_pos (by rfl)]
            go_simp
            refine hK _ _ ?_
            clear hK K
            refine wpAnyIn_ready (rs := [5]) (by kernel_rfl) (by simp) ?_
            refine AllReadyIn.cons rfl (fun K hK => ?_) ?_
            · rw [if_pos (by rfl)]
              refine stepIn_append (.tmp 15) (.tmp 19) 48 rfl _ _ _ rfl rfl hrun ?_
              refine hK _ _ ?_
              clear hK K
              refine wpAnyIn_ready (rs := [6]) (by kernel_rfl) (by simp) ?_
              refine AllReadyIn.cons rfl (fun K hK => ?_) ?_
              · rw [if_pos (by rfl)]
                go_simp
                refine hK _ _ ?_
                clear hK K
                refine wpAnyIn_done (by kernel_rfl) ?_ _
                gi_wp2
                exact HEND.out
              · exact AllReadyIn.nil
            · exact AllReadyIn.nil
          · exact AllReadyIn.nil
        · refine AllReadyIn.cons rfl (fun K hK => ?_) ?_
          · rw [if_pos (by rfl)]
            go_simp
            refine hK _ _ ?_
            clear hK K
            refine wpAnyIn_ready (rs := [0]) (by kernel_rfl) (by simp) ?_
            refine AllReadyIn.cons rfl (fun K hK => ?_) ?_
            · rw [if_pos (by rfl)]
              go_simp
              refine hK _ _ ?_
              clear hK K
              refine wpAnyIn_ready (rs := [5]) (by kernel_rfl) (by simp) ?_
              refine AllReadyIn.cons rfl (fun K hK => ?_) ?_
              · rw [if_pos (by rfl)]
                refine stepIn_append (.tmp 15) (.tmp 19) 48 rfl _ _ _ rfl rfl hrun ?_
                refine hK _ _ ?_
                clear hK K
                refine wpAnyIn_ready (rs := [6]) (by kernel_rfl) (by simp) ?_
                refine AllReadyIn.cons rfl (fun K hK => ?_) ?_
                · rw [if_pos (by rfl)]
                  go_simp
                  refine hK _ _ ?_
                  clear hK K
                  refine wpAnyIn_done (by kernel_rfl) ?_ _
                  gi_wp2
                  exact HEND.out
                · exact AllReadyIn.nil
              · exact AllReadyIn.nil
            · exact AllReadyIn.nil
          · exact AllReadyIn.nil
      · exact AllReadyIn.nil
  case done =>
    rintro D2 V hD2 ⟨⟨v, hv, hrow, _⟩, hf, he2, hB⟩ hK
    have hv0 := hv.cell
    have hlv := hv.lt
    obtain ⟨g', cap2, rfl⟩ := own_slice hrow
    have hlen := tellL_len D (wellL L s) R
    have hconv := conv_u8 hrow hlen
    have HV := hidden (fun X => Values_any (ba (tellL D (wellL L s) R)) (by rw [ba_size, hlen]; omega) X)
    rw [ba_size, hlen] at HV
    have HB := hidden hB
    have HK := hidden hK
    clear hrow hf he2 hB hK hv hlen hGI HE2 HF5
    obtain ⟨tt, htt⟩ : ∃ tt, tt = ba (tellL D (wellL L s) R) := ⟨_, rfl⟩
    rw [← htt] at hconv HV
    have HTT := hidden htt
    clear htt
    go_wp2_with fail
    refine (HV.out _).mono ?_
    rintro e w7 ⟨rfl, hb⟩
    have hK7 := blk_later HK.out hb
    have HB7 := hidden (bthen HB.out hb)
    have hws := hsz0.out
    clear hb
    go_wp2
    refine ⟨by simp, .inl ⟨_, _, rfl, run_takeDeferred hK7, ?_⟩⟩
    exact ⟨_, results_tmp rfl _ _ _, by rw [← HTT.out]; rfl, HB7.out.trans (belowK_b (w := w) (Nat.le_refl _) w7 D2 _ _ (by omega) hK7 rfl rfl)⟩
theorem Tell_any (n f d p r dr o sl md fr : Int) (ad : Option Addr) (cap : Nat) (zs : List Int) (R D L : Nat) (s : ByteArray) (hs : s.size ≤ 9223372036854775807) (w : World) (hl : zs.length ≤ 9223372036854775807) (hT : Tab w ad zs) (hR : gate (plainE n f d p r dr o sl md fr zs) (3 * (f + 1)) = (R : Int)) (hL : gate (plainE n f d p r dr o sl md fr zs) (3 * (f + 1) * d) = (L : Int))
    (hR15 : R ≤ 15) (hL60 : L ≤ 60) (hLD : L = R * D) (hd : R = 0 ∨ (d = (D : Int) ∧ 1 ≤ D ∧ D ≤ 4)) :
    Calls Try.prog 11 #[.agg #[.int .i64 n, .int .i64 f, .int .i64 d, .int .i64 p, .int .i64 r, .int .i64 dr, .int .i64 o, .int .i64 sl, .int .i64 md, .int .i64 fr, .slice ad zs.length cap], .string s] w fun e W' => e = .returned (.string (dgB R (valG (ba (tellL D (wellL L s) R))))) ∧ Below w.heap.size w W' := (callsIn_wide (n := 8)).1 (Tell_in n f d p r dr o sl md fr ad cap zs R D L s hs w hl hT hR hL hR15 hL60 hLD hd)
end Go.Proofs.Ytkolhbacgoafcaa

/- The document's calls Blank, well, Tell, part and older of layer 17 return what plain functions give, and make at most new memory; conditions: rows lie where they say, lengths fit int. -/
namespace Go.Proofs.Ytkolhbacgoafcaa
open Go.ChangeShapes Go.WideShapes Go.ChangeAt Go.RowKit
set_option linter.unusedVariables false
attribute [local go_sem] cell_rg

theorem rPBlank_any (n f d p r dr o sl md fr : Int) (ad : Option Addr) (cap : Nat) (zs : List Int) (L : Nat) (w : World) (hl : zs.length ≤ 9223372036854775807) (hT : Tab w ad zs) (hL : gate (plainE n f d p r dr o sl md fr zs) (3 * (f + 1) * d) = (L : Int)) (hL60 : L ≤ 60) :
    Calls Try.prog 10 #[.agg #[.int .i64 n, .int .i64 f, .int .i64 d, .int .i64 p, .int .i64 r, .int .i64 dr, .int .i64 o, .int .i64 sl, .int .i64 md, .int .i64 fr, .slice ad zs.length cap]] w fun e w' => e = .returned (.string (ba (zerL L))) ∧ Below w.heap.size w w' := by
  have HC := hidden (fun V h => refLength_any n f d p r dr o sl md fr ad cap zs V hl h)
  rw [hL] at HC
  have HT := hidden (hT.below (ballc w (.cells #[.int .i64 n, .int .i64 f, .int .i64 d, .int .i64 p, .int .i64 r, .int .i64 dr, .int .i64 o, .int .i64 sl, .int .i64 md, .int .i64 fr, .slice ad zs.length cap] 24)))
  clear hT hL
  go_enter Try.func10, Try.ntmps10
  go_wp2_with fail
  refine (HC.out _ HT.out).mono ?_
  rintro e w2 ⟨rfl, hb⟩
  have HB := hidden (bthen (ballc w _) hb)
  clear hb
  go_wp2_with fail
  refine (rRepZ_any L _ (by omega)).mono ?_
  rintro e w3 ⟨rfl, rfl⟩
  go_wp2
  go_ret
  exact ⟨rfl, HB.out⟩
theorem rwell_any (n f d p r dr o sl md fr : Int) (ad : Option Addr) (cap : Nat) (zs : List Int) (L : Nat) (s : ByteArray) (w : World) (hl : zs.length ≤ 9223372036854775807) (hT : Tab w ad zs) (hL : gate (plainE n f d p r dr o sl md fr zs) (3 * (f + 1) * d) = (L : Int)) (hL60 : L ≤ 60) :
    Calls Try.prog 36 #[.agg #[.int .i64 n, .int .i64 f, .int .i64 d, .int .i64 p, .int .i64 r, .int .i64 dr, .int .i64 o, .int .i64 sl, .int .i64 md, .int .i64 fr, .slice ad zs.length cap], .string s] w fun e w' => e = .returned (.string (ba (wellL L s))) ∧ Below w.heap.size w w' := by
  have HC := hidden (fun V h => refLength_any n f d p r dr o sl md fr ad cap zs V hl h)
  rw [hL] at HC
  have HBk := hidden (fun V h => rPBlank_any n f d p r dr o sl md fr ad cap zs L V hl h hL hL60)
  have HT := hidden (hT.below (ballc w (.cells #[.int .i64 n, .int .i64 f, .int .i64 d, .int .i64 p, .int .i64 r, .int .i64 dr, .int .i64 o, .int .i64 sl, .int .i64 md, .int .i64 fr, .slice ad zs.length cap] 24)))
  clear hT hL
  by_cases he : s.size = L
  · have hw : wellL L s = bl s := if_pos he
    have j : ((s.size : Int) != (L : Int)) = false := by simp [he]
    rw [hw, ba_bl]
    clear hw he
    go_enter Try.func36, Try.ntmps36
    go_wp2_with fail
    refine (HC.out _ HT.out).mono ?_
    rintro e w2 ⟨rfl, hb⟩
    have HB := hidden (bthen (ballc w _) hb)
    clear hb HC HBk HT
    go_wp2
    go_ret
    exact ⟨rfl, HB.out⟩
  · have hw : wellL L s = zerL L := if_neg he
    have j : ((s.size : Int) != (L : Int)) = true := by simp; omega
    rw [hw]
    clear hw
    go_enter Try.func36, Try.ntmps36
    go_wp2_with fail
    refine (HC.out _ HT.out).mono ?_
    rintro e w2 ⟨rfl, hb⟩
    have HB := hidden (bthen (ballc w _) hb)
    obtain ⟨hbox, hsz⟩ := box_at hb
    have HT2 := hidden (HT.out.below hb)
    clear hb HC HT
    go_wp2_with fail
    refine (HBk.out _ HT2.out).mono ?_
    rintro e w4 ⟨rfl, hb⟩
    have HB4 := hidden (bthen HB.out hb)
    clear hb hbox hsz
    go_wp2
    go_ret
    exact ⟨rfl, HB4.out⟩
theorem rpart_any (s : ByteArray) (k : Nat) (w : World) (hs : s.size ≤ 9223372036854775807) :
    Calls Try.prog 81 #[.string s, .int .i64 (k : Int)] w fun e w' => e = .returned (.string (prt s k)) ∧ w = w' := by
  have d0 : decide ((k : Int) < 0) = false := decide_eq_false (by omega)
  by_cases h : k < s.size
  · have d1 : decide (s.size ≤ k) = false := decide_eq_false (by omega)
    have d2 : decide ((s.size : Int) ≤ (k : Int)) = false := decide_eq_false (by omega)
    have s1 := fun V => cut_one s k h V
    generalize prt s k = z at *
    go_enter Try.func81, Try.ntmps81
    go_wp2
    go_ret
    exact ⟨rfl, rfl⟩
  · have d1 : decide (s.size ≤ k) = true := decide_eq_true (by omega)
    have d2 : decide ((s.size : Int) ≤ (k : Int)) = true := decide_eq_true (by omega)
    have HP : Hid (prt s k = noB) := if_neg h
    go_enter Try.func81, Try.ntmps81
    go_wp2
    go_ret
    exact ⟨by rw [HP.out]; rfl, rfl⟩
/-- Which exchange is heard at an age. -/
theorem hear_yes {R D a : Nat} (hD : 1 ≤ D) (h : a % D = 0) (h1 : 1 ≤ a) (h2 : a ≤ R * D) : hearF R (D : Int) (a : Int) = ((a / D - 1 : Nat) : Int) ∧ a / D - 1 < R := by
  have hm := Nat.div_add_mod a D
  rw [h, Nat.add_zero] at hm
  have hq : 1 ≤ a / D := Nat.div_pos (Nat.le_of_dvd (by omega) (Nat.dvd_of_mod_eq_zero h)) (by omega)
  have hqR : a / D ≤ R := Nat.div_le_of_le_mul (by rw [Nat.mul_comm]; exact h2)
  refine ⟨first_hit (by omega) ?_ ?_, by omega⟩
  · refine decide_eq_true ?_
    obtain ⟨q, hqq⟩ : ∃ q, a / D = q + 1 := ⟨a / D - 1, by omega⟩
    rw [hqq] at hm ⊢
    rw [Nat.add_sub_cancel, ← hm, Nat.mul_comm D (q + 1), Nat.add_mul, Nat.one_mul]
    simp
  · intro j hj
    refine decide_eq_false (fun e => ?_)
    have e2 : (j + 1) * D = a := by
      have : (((j + 1) * D : Nat) : Int) = (a : Int) := by rw [Nat.add_mul, Nat.one_mul]; simpa using e
      exact Int.ofNat.inj this
    have e3 : a / D = j + 1 := by rw [← e2, Nat.mul_div_cancel _ (by omega)]
    omega
theorem hear_no {R D a : Nat} (h : ¬ a % D = 0) : hearF R (D : Int) (a : Int) = -1 := by
  refine first_none fun j hj => decide_eq_false (fun e => h ?_)
  have e2 : (j + 1) * D = a := by
    have : (((j + 1) * D : Nat) : Int) = (a : Int) := by rw [Nat.add_mul, Nat.one_mul]; simpa using e
    exact Int.ofNat.inj this
  rw [← e2, Nat.mul_mod_left]
/-- What is told of bytes. -/
theorem vdg_at8 (last : Int) (l : List UInt8) (k : Nat) (h : k < l.length) : vdg last (ba l) k = vdg last (ba [at8 l k]) 0 := by
  have h1 : k < (ba l).size := by rw [ba_size]; exact h
  have h2 : 0 < (ba [at8 l k]).size := by rw [ba_size]; simp
  have e : (ba l)[k]'h1 = (ba [at8 l k])[0]'h2 := by
    rw [at8_lt h]
    rfl
  unfold vdg
  rw [dif_pos h1, dif_pos h2, e]
theorem valG_at8 (l : List UInt8) (k : Nat) (h : k < l.length) : valG (ba l) k = valG (ba [at8 l k]) 0 := by
  unfold valG bitK
  rw [vdg_at8 5 l k h]
theorem tell_dg {R D : Nat} (l : List UInt8) (hl : l.length = R * D) (hD : R = 0 ∨ 1 ≤ D) : dgB R (valG (ba (tellL D l R))) = dgB R (fun j => valG (ba l) (j * D)) := by
  refine dgB_congr fun k hk => ?_
  have h1 : k * D < l.length := by rw [hl]; exact Nat.mul_lt_mul_of_pos_right hk (by omega)
  rw [valG_at8 _ k (by rw [tellL_len]; exact hk), valG_at8 _ _ h1]
  unfold tellL
  rw [at8_map _ hk]

set_option maxHeartbeats 2000000 in
theorem rPTell_any (n f d p r dr o sl md fr : Int) (ad : Option Addr) (cap : Nat) (zs : List Int) (R D L : Nat) (s : ByteArray) (w : World) (hl : zs.length ≤ 9223372036854775807) (hT : Tab w ad zs) (hR : gate (plainE n f d p r dr o sl md fr zs) (3 * (f + 1)) = (R : Int)) (hL : gate (plainE n f d p r dr o sl md fr zs) (3 * (f + 1) * d) = (L : Int))
    (hR15 : R ≤ 15) (hL60 : L ≤ 60) (hLD : L = R * D) (hd : R = 0 ∨ (d = (D : Int) ∧ 1 ≤ D ∧ D ≤ 4)) :
    Calls Try.prog 12 #[.agg #[.int .i64 n, .int .i64 f, .int .i64 d, .int .i64 p, .int .i64 r, .int .i64 dr, .int .i64 o, .int .i64 sl, .int .i64 md, .int .i64 fr, .slice ad zs.length cap], .string s] w fun e w' => e = .returned (.string (dgB R (valG (ba (tellL D (wellL L s) R))))) ∧ Below w.heap.size w w' := by
  rw [tell_dg _ (by rw [wellL_len, hLD]) (by omega)]
  have HW := hidden (fun V h => rwell_any n f d p r dr o sl md fr ad cap zs L s V hl h hL hL60)
  have HR := hidden (fun V h => refRounds_any n f d p r dr o sl md fr ad cap zs V hl h)
  rw [hR] at HR
  have hlen := wellL_len L s
  have HV := hidden (fun V => rValues_any (ba (wellL L s)) (by rw [ba_size, hlen]; omega) V)
  rw [ba_size, hlen] at HV
  have HB0 := hidden (ballc w (.cells #[.int .i64 n, .int .i64 f, .int .i64 d, .int .i64 p, .int .i64 r, .int .i64 dr, .int .i64 o, .int .i64 sl, .int .i64 md, .int .i64 fr, .slice ad zs.length cap] 24))
  have HT := hidden (hT.below HB0.out)
  have HK := hidden (blk_nw w #[.int .i64 n, .int .i64 f, .int .i64 d, .int .i64 p, .int .i64 r, .int .i64 dr, .int .i64 o, .int .i64 sl, .int .i64 md, .int .i64 fr, .slice ad zs.length cap] 24)
  have HLD := hidden hLD
  generalize ba (wellL L s) = ws at *
  clear hT hR hL hLD hlen
  go_enter Try.func12, Try.ntmps12
  go_wp2_with fail
  refine (HW.out _ HT.out).mono ?_
  rintro e w2 ⟨rfl, hb⟩
  have HB2 := hidden (bthen HB0.out hb)
  have HT2 := hidden (HT.out.below hb)
  have HK2 := hidden (blk_later HK.out hb)
  clear hb HT HK HW
  go_wp2_with fail
  refine (HV.out _).mono ?_
  rintro e w3 ⟨rfl, hb⟩
  have HB3 := hidden (bthen HB2.out hb)
  have HT3 := hidden (HT2.out.below hb)
  have HK3 := hidden (blk_later HK2.out hb)
  have hws : w.heap.size < w3.heap.size := blk_lt HK3.out
  have HSZ := hidden (dgB_size L (valG ws))
  clear hb HT2 HK2 HV HB2
  generalize hvv : dgB L (valG ws) = vs at *
  have HVV := hidden hvv
  clear hvv
  go_wp2
  go_loopw [6, 7] (fun a i wr => ∃ k : Nat, k ≤ R ∧ i = .int .i64 k ∧ a = .string (dgB k (fun j => valG ws (j * D))) ∧ Below w3.heap.size w3 wr) (fun _ i _ => R - (intV i).toNat)
  case atStart => exact ⟨0, Nat.zero_le _, rfl, rfl, Below.refl _ _⟩
  case round =>
    obtain ⟨k, hk, rfl, rfl, hB⟩ := hrel
    have HBr := hidden hB
    have HKr := hidden (blk_later HK3.out hB)
    have c0 := blk_cell HKr.out
    have l0 := blk_lt HKr.out
    clear hB
    go_wp2_with fail
    refine (HR.out _ (HT3.out.below HBr.out)).mono ?_
    rintro e w4 ⟨rfl, hb⟩
    have HB4 := hidden (bthen HBr.out hb)
    have HK4 := hidden (blk_later HKr.out hb)
    clear hb c0 l0 HKr HBr
    by_cases hlt : k < R
    · obtain ⟨rfl, hD1, hD4⟩ : d = (D : Int) ∧ 1 ≤ D ∧ D ≤ 4 := by rcases hd with h | h; omega; exact h
      have i2 : (k : Int) < (R : Int) := by omega
      have hkL : k * D < L := by
        rw [HLD.out]
        exact Nat.mul_lt_mul_of_pos_right hlt (by omega)
      have hP : (k : Int) * (D : Int) = ((k * D : Nat) : Int) := by simp
      have cut := fun V => cut_one vs (k * D) (by rw [HSZ.out]; exact hkL) V
      have HPR : Hid (prt vs (k * D) = ba [UInt8.ofNat (48 + valG ws (k * D))]) := by
        show _ = _
        rw [prt_in (by rw [HSZ.out]; exact hkL), ← HVV.out, dgB_extract hkL]
        rfl
      have HS := hidden (dgB_s k (fun j => valG ws (j * D)))
      have hsz1 := dgB_size k (fun j => valG ws (j * D))
      have hns : ¬ 9223372036854775807 < (dgB k (fun j => valG ws (j * D))).size + 1 := by omega
      have hns2 : (prt vs (k * D)).size = 1 := prt_one (by rw [HSZ.out]; exact hkL)
      have HOD : Hid (∀ t, dgB k (fun j => valG ws (j * D)) ++ t = dgB k (fun j => valG ws (j * D)) ++ t) := fun _ => rfl
      generalize hout : dgB k (fun j => valG ws (j * D)) = out at *
      generalize prt vs (k * D) = pc at *
      have HOUT := hidden hout
      clear hout hsz1 hd
      generalize k * D = P at *
      have hP60 : P ≤ 60 := by omega
      clear hkL
      have c0 := blk_cell HK4.out
      have l0 := blk_lt HK4.out
      go_wp2
      go_roundw
      case rel => exact ⟨k + 1, by omega, by go_num, by rw [HS.out, HPR.out], HB4.out⟩
      case measure => simp [intV]; omega
    · obtain rfl : k = R := by omega
      have i2 : ¬ (k : Int) < (k : Int) := by omega
      go_wp2
      go_ret
      exact ⟨rfl, bthen HB3.out HB4.out⟩
end Go.Proofs.Ytkolhbacgoafcaa

/- The calls Move and Begin of package pipe return a pipe a tick later with what is done, and a pipe with a new instance in it, and make at most new memory; conditions: rows lie where they say, lengths fit int, at most a hundred thousand votes. -/
namespace Go.Proofs.Ytkolhbacgoafcaa
open Go.ChangeShapes Go.WideShapes Go.ChangeAt Go.RowKit Go.Shelf
set_option linter.unusedVariables false
attribute [local go_sem] Oper.semAt_some

theorem keeps_below {X Y : World} (h : Below X.heap.size X Y) : KeepsOthers X Y := ⟨h.size, fun k o hk _ => blk_later hk h⟩
theorem keeps_blk {X Y : World} {g : Nat} {l : List UInt8} (h : FBlk X g l) (hg : X.grownBy Y (some g)) : KeepsOthers X Y := KeepsOthers.of_grownBy hg fun j o e hj => by
  obtain ⟨C, h1, _⟩ := h
  cases e
  rw [h1] at hj
  cases hj
  rfl
theorem FBlk.ne {X : World} {g b : Nat} {l : List UInt8} (h : FBlk X g l) {C : Array Value} {t : TypeId} {fr : Nat × Nat} (hb : X.heap[b]? = some (.cells C t fr)) (ht : t ≠ 5) : b ≠ g := by
  obtain ⟨C2, h1, _⟩ := h
  intro e
  subst e
  rw [h1] at hb
  cases hb
  exact ht rfl
theorem FBlk.keep {X Y : World} {g b : Nat} {l : List UInt8} (h : FBlk X g l) (hg : X.grownBy Y (some g)) {C : Array Value} {t : TypeId} {fr : Nat × Nat} (hb : X.heap[b]? = some (.cells C t fr)) (ht : t ≠ 5) : Y.heap[b]? = some (.cells C t fr) :=
  (hg.block b (blk_lt hb) (fun e => h.ne hb ht (by cases e; rfl))).trans hb
theorem KpT.blk {gs : Nat} {X Y : World} {g : Nat} {l : List UInt8} (h : FBlk X g l) (hg : X.grownBy Y (some g)) (h3 : g ≠ gs) : KpT gs X Y := by
  obtain ⟨C, h1, _⟩ := h
  exact KpT.grown hg h1 (by decide) (by decide) h3
/-- What an instance ends with. -/
def endF (b : UInt8) : Int := if valG (ba [b]) 0 = 1 then 1 else 0
/-- What an exchange makes of a code, with these votes. -/
def hrdF (n f d p r dr o sl md fr : Int) (ad : Option Addr) (cap : Nat) (zs : List Int) (votes : List ByteArray) (x : Nat) (b : UInt8) : UInt8 := hrdB (plainE n f d p r dr o sl md fr zs) n f votes x b

set_option maxRecDepth 100000 in
set_option maxHeartbeats 4000000 in
theorem Move_in (n f d p r dr o sl md fr : Int) (ad : Option Addr) (cap : Nat) (zs : List Int) (R D L : Nat) (s : ByteArray) (hs : s.size ≤ 9223372036854775807) (a2 : Option Addr) (c2 : Nat) (votes : List ByteArray) (w : World) (hl : zs.length ≤ 9223372036854775807) (hT : Tab w ad zs) (hR : gate (plainE n f d p r dr o sl md fr zs) (3 * (f + 1)) = (R : Int)) (hL : gate (plainE n f d p r dr o sl md fr zs) (3 * (f + 1) * d) = (L : Int))
    (hR15 : R ≤ 15) (hL60 : L ≤ 60) (hLD : L = R * D) (hd : R = 0 ∨ (d = (D : Int) ∧ 1 ≤ D ∧ D ≤ 4)) (hn : votes.length ≤ 100000) (hV : kStr.Lies w.heap.size w (.slice a2 votes.length c2) votes) (hz : ∀ t ∈ votes, t.size ≤ 9223372036854775807) :
    CallsIn Fence.wide 8 Try.prog 15 #[.agg #[.int .i64 n, .int .i64 f, .int .i64 d, .int .i64 p, .int .i64 r, .int .i64 dr, .int .i64 o, .int .i64 sl, .int .i64 md, .int .i64 fr, .slice ad zs.length cap], .string s, .slice a2 votes.length c2] w fun e W' => e = .returned (.tuple #[.string (ba (newL (hrdF n f d p r dr o sl md fr ad cap zs votes) D (wellL L s))), .int .i64 (endF (newB (hrdF n f d p r dr o sl md fr ad cap zs votes) D (wellL L s) L))]) ∧ Below w.heap.size w W' := by
  have hro : Fence.wide.round = none := rfl
  have HB0 := hidden (bthen (ballc w (.cells #[.int .i64 n, .int .i64 f, .int .i64 d, .int .i64 p, .int .i64 r, .int .i64 dr, .int .i64 o, .int .i64 sl, .int .i64 md, .int .i64 fr, .slice ad zs.length cap] 24)) (ballc _ (.cells #[.slice a2 votes.length c2] 30)))
  have CC := hidden (fun V h => codesOf_any n f d p r dr o sl md fr ad cap zs L s hs V hl h hL hL60)
  have CS := hidden (fun (a2 : Option Addr) (c2 : Nat) V => stretches_any n f d p r dr o sl md fr ad cap zs a2 L c2 V)
  have CH := hidden (fun (x : Nat) (hx : x < R) (b : UInt8) V h h2 => hear_any n f d p r dr o sl md fr ad cap zs R x hx hR15 b a2 c2 votes V hl h hR hn h2 hz)
  have k0 := blk_later (blk_nw w #[.int .i64 n, .int .i64 f, .int .i64 d, .int .i64 p, .int .i64 r, .int .i64 dr, .int .i64 o, .int .i64 sl, .int .i64 md, .int .i64 fr, .slice ad zs.length cap] 24) (ballc _ (.cells #[.slice a2 votes.length c2] 30))
  have k1 := blk_newAt (w.alloc (.cells #[.int .i64 n, .int .i64 f, .int .i64 d, .int .i64 p, .int .i64 r, .int .i64 dr, .int .i64 o, .int .i64 sl, .int .i64 md, .int .i64 fr, .slice ad zs.length cap] 24)) #[.slice a2 votes.length c2] 30 (b := w.heap.size + 1) (by simp)
  have HT := hidden hT
  have HVV := hidden hV
  have HG := hidden (fun (cap' gc gs g : Nat) V (h : Tab V ad zs) b1 b2 hc => str_gives n f d p r dr o sl md fr ad cap zs R D L cap' hR15 hd 7 (by omega) gc gs g V hl h hR b1 b2 hc)
  have HWL := hidden (wellL_len L s)
  have HLD := hidden hLD
  have K0 := hidden k0
  have K1 := hidden k1
  have hsz0 : Hid (((w.alloc (.cells #[.int .i64 n, .int .i64 f, .int .i64 d, .int .i64 p, .int .i64 r, .int .i64 dr, .int .i64 o, .int .i64 sl, .int .i64 md, .int .i64 fr, .slice ad zs.length cap] 24)).alloc (.cells #[.slice a2 votes.length c2] 30)).heap.size = w.heap.size + 1 + 1) := by show _ = _; simp
  clear hT hR hL hLD hV hz k0 k1
  refine callsIn_of_wp_marks Try.func15 rfl trivial ?_ hro
  simp only [Try.ntmps15, List.size_toArray, List.length_cons, List.length_nil, Nat.reduceAdd, Nat.reduceSub, Array.replicate_succ, Array.replicate_zero, List.push_toArray, List.append_toArray, List.nil_append, List.cons_append]
  refine wpIn_wide.2 ?_
  have c0 := blk_cell K0.out
  have l0 := blk_lt K0.out
  go_wp2_with fail
  refine (CC.out _ (HT.out.below HB0.out)).mono ?_
  rintro e w2 ⟨g, cap', rfl, hF, hg, hcap, hb⟩
  have E0 := hidden (blk_later K0.out hb)
  have E1 := hidden (blk_later K1.out hb)
  have HB2 := hidden (bthen HB0.out hb)
  have hs2 : w.heap.size + 1 < w2.heap.size := by have h1 := hsz0.out; have h2 := hb.size; omega
  have hgw : w.heap.size + 1 < g := by have h1 := hsz0.out; omega
  clear hb CC c0 l0
  have c0 := blk_cell E0.out
  have l0 := blk_lt E0.out
  have lF := hF.lt
  have K3 := hidden (blk_nw w2 #[.string ⟨#[48]⟩] 9)
  have HF3 := hidden (hF.later (ballc w2 (.cells #[.string ⟨#[48]⟩] 9)))
  have HE03 := hidden (blk_later E0.out (ballc w2 (.cells #[.string ⟨#[48]⟩] 9)))
  have HE13 := hidden (blk_later E1.out (ballc w2 (.cells #[.string ⟨#[48]⟩] 9)))
  have HB3 := hidden (bthen HB2.out (ballc w2 (.cells #[.string ⟨#[48]⟩] 9)))
  have HS3 : Hid ((w2.alloc (.cells #[.string ⟨#[48]⟩] 9)).heap.size = w2.heap.size + 1) := by show _ = _; simp
  go_wp2_with fail
  refine (CS.out _ _ _).mono ?_
  rintro e w5 ⟨gc, gs, rfl, e1, e2, hgs, hb5⟩
  rw [HS3.out] at hgs
  have B9 : Boxed w5 w2.heap.size 9 (.string ⟨#[48]⟩) := blk_later K3.out hb5
  have HF5 := hidden (HF3.out.later hb5)
  have E05 := hidden (blk_later HE03.out hb5)
  have E15 := hidden (blk_later HE13.out hb5)
  have HB5 := hidden (bthen HB3.out hb5)
  have hs5 : w2.heap.size < w5.heap.size := by have h1 := hb5.size; rw [HS3.out] at h1; omega
  have hGI := HG.out cap' gc gs g w5 (HT.out.below HB5.out) e1 e2 (by rw [← HLD.out]; exact hcap)
  have HE2 := hidden e2
  clear hb5 CS HG K3 HF3 HE03 HE13 HB3 e1 e2 hF
  go_wp2
  refine (wpIn_wide (n := 8)).1 ?_
  refine rf_gives (gf := 70) (lb := #[.pointer (some ⟨gc, 0, none⟩), .pointer (some ⟨gs, 0, none⟩)]) rfl (enters_of Try.func70 (by kernel_rfl) rfl)
    hGI (Below.refl _ _) (fun _ => rfl) KpT.t (fun V l o o' _ h1 h2 => KpT.put V l o o' h1 h2)
    (fun k V => FBlk V g (mixL (hrdF n f d p r dr o sl md fr ad cap zs votes) D (wellL L s) k) ∧ Boxed V w2.heap.size 9 (.string (ba [newB (hrdF n f d p r dr o sl md fr ad cap zs votes) D (wellL L s) (k * D)])) ∧ V.heap[w.heap.size]? = some (.cells #[.int .i64 n, .int .i64 f, .int .i64 d, .int .i64 p, .int .i64 r, .int .i64 dr, .int .i64 o, .int .i64 sl, .int .i64 md, .int .i64 fr, .slice ad zs.length cap] 24 (0, 0)) ∧ V.heap[w.heap.size + 1]? = some (.cells #[.slice a2 votes.length c2] 30 (0, 0)) ∧ V.heap[gs]? = some (.cells #[.slice (some ⟨g, 0, none⟩) L cap'] 48 (0, 0)) ∧ Below w.heap.size w V)
    ?own ⟨by rw [mix_0]; exact HF5.out, by rw [Nat.zero_mul, newB_0]; exact B9, E05.out, E15.out, HE2.out, HB5.out⟩
    (fun k => { tmps := #[.agg #[.int .i64 n, .int .i64 f, .int .i64 d, .int .i64 p, .int .i64 r, .int .i64 dr, .int .i64 o, .int .i64 sl, .int .i64 md, .int .i64 fr, .slice ad zs.length cap], .string s, .slice a2 votes.length c2, .pointer (some ⟨w.heap.size, 0, none⟩), undef, .pointer (some ⟨w.heap.size + 1, 0, none⟩), .string ⟨#[]⟩, .int .i64 0, .slice (some ⟨g, 0, none⟩) L cap', .pointer (some ⟨w2.heap.size, 0, none⟩), .int .i64 (k : Int), .slice (some ⟨g, k * D, none⟩) D D, undef, .agg #[.int .i64 n, .int .i64 f, .int .i64 d, .int .i64 p, .int .i64 r, .int .i64 dr, .int .i64 o, .int .i64 sl, .int .i64 md, .int .i64 fr, .slice ad zs.length cap], .string s, .slice (some ⟨g, 0, none⟩) L cap', .agg #[.int .i64 n, .int .i64 f, .int .i64 d, .int .i64 p, .int .i64 r, .int .i64 dr, .int .i64 o, .int .i64 sl, .int .i64 md, .int .i64 fr, .slice ad zs.length cap], .slice (some ⟨g, 0, none⟩) L cap', .func (.func 70) #[] #[.pointer (some ⟨gc, 0, none⟩), .pointer (some ⟨gs, 0, none⟩)], .int .i64 (k : Int), .slice (some ⟨g, k * D, none⟩) D D, undef, undef, undef, undef, undef, undef, undef, undef, undef, undef, undef, undef], defers := [] })
    ?assign ?body ?done
  case own => exact OwnFrom.and (fun k X Y row hs hg hr => (fblk_own w5.heap.size g (mixL (hrdF n f d p r dr o sl md fr ad cap zs votes) D (wellL L s) k)) () X Y row hs hg hr) (OwnFrom.and (Own.from (boxed_own _ _ _) _) (OwnFrom.and (cells_own _ _ _ _) (OwnFrom.and (cells_own _ _ _ _) (OwnFrom.and (cells_own _ _ _ _) (ownFrom_below (Nat.le_refl _) (by omega))))))
  case assign =>
    intro l2 k V K hK
    gi_wp2
    exact hK
  case body =>
    rintro l2 k V hl2 hk ⟨hf, hb9, he0, he1, he2, hB⟩
    obtain ⟨rfl, hD1, hD4⟩ : d = (D : Int) ∧ 1 ≤ D ∧ D ≤ 4 := by rcases hd with h | h; omega; exact h
    have hkL : k * D + D ≤ L := by
      rw [HLD.out, ← Nat.succ_mul]
      exact Nat.mul_le_mul_right D hk
    have hsk : (k + 1) * D = k * D + D := Nat.succ_mul k D
    have SH := shift_any g (k * D) D (mixL (hrdF n f (D : Int) p r dr o sl md fr ad cap zs votes) D (wellL L s) k) (newB (hrdF n f (D : Int) p r dr o sl md fr ad cap zs votes) D (wellL L s) (k * D)) hD1 (by omega) (by rw [mixL_len, HWL.out]; exact hkL) V hf
    rw [mix_last _ _ hD1 (by rw [HWL.out]; exact hkL), mix_step _ _ hD1 (by rw [HWL.out]; exact hkL)] at SH
    have SH := hidden SH
    have HNX : Hid (newB (hrdF n f (D : Int) p r dr o sl md fr ad cap zs votes) D (wellL L s) ((k + 1) * D) = hrdF n f (D : Int) p r dr o sl md fr ad cap zs votes k (at8 (wellL L s) (k * D + D - 1))) := by show _ = _; rw [hsk]; exact mix_come _ _ k hD1
    have HHR : Hid (∀ x b, hrdF n f (D : Int) p r dr o sl md fr ad cap zs votes x b = hrdB (plainE n f (D : Int) p r dr o sl md fr zs) n f votes x b) := fun _ _ => rfl
    have CK := hidden (fun b V h h2 => CH.out k hk b V h h2)
    have c0 := blk_cell he0
    have l0 := blk_lt he0
    have c1 := blk_cell he1 0
    have l1 := blk_lt he1
    have c9 := hb9.cell
    have l9 := hb9.lt
    have hfs : (Fence.wide.inRound l2).fn 41 := trivial
    have hfh : (Fence.wide.inRound l2).fn 42 := trivial
    have HF := hidden hf
    have H9 := hidden hb9
    have H0 := hidden he0
    have H1 := hidden he1
    have H2 := hidden he2
    have HBV := hidden hB
    clear hf hb9 he0 he1 he2 hB hkL hd hGI HE2 HF5 E05 E15 HB5 CH
    gi_wp2_with fail
    refine And.intro trivial ?_
    refine (CallsIn.inRound l2 (callsIn_wide.2 SH.out)).mono ?_
    rintro e w6 ⟨rfl, hf6, hg6⟩
    have m0 := HF.out.keep hg6 H0.out (by decide)
    have m1 := HF.out.keep hg6 H1.out (by decide)
    have m2 := HF.out.keep hg6 H2.out (by decide)
    have m9 : Boxed w6 w2.heap.size 9 _ := HF.out.keep hg6 H9.out (by decide)
    have hB6 := HBV.out.grown hg6 HBV.out.size (fun j e => by cases e; omega)
    have d0 := blk_cell m0
    have d1 := blk_cell m1 0
    have k0 := blk_lt m0
    have k1 := blk_lt m1
    have M9 := hidden m9
    have HB6 := hidden hB6
    have HF6 := hidden hf6
    have HG6 := hidden hg6
    have CX := hidden (CK.out (at8 (wellL L s) (k * D + D - 1)) w6 (HT.out.below HB6.out) (HVV.out.later HB6.out))
    clear m0 m1 m2 m9 hB6 hf6 hg6 c0 l0 c1 l1 c9 l9
    gi_wp2_with fail
    refine And.intro trivial ?_
    refine (CallsIn.inRound l2 (callsIn_wide.2 CX.out)).mono ?_
    rintro e w7 ⟨rfl, hb7⟩
    have o9 : Boxed w7 w2.heap.size 9 _ := blk_later M9.out hb7
    have q9 := o9.cell
    have q8 := o9.frozen
    have q7 := o9.lt
    gi_wp2
    have hkp : KpT gs V (w7.setCell ⟨w2.heap.size, 0, none⟩ (.string (ba [hrdB (plainE n f (D : Int) p r dr o sl md fr zs) n f votes k (at8 (wellL L s) (k * D + D - 1))]))) := ((KpT.blk HF.out HG6.out (by omega)).t (KpT.below hb7)).t (KpT.set o9 (by decide) (by decide) (by omega) _)
    refine ⟨(((keeps_blk HF.out HG6.out).trans (keeps_below hb7)).trans (KeepsOthers.setCell _ _ _)).from _, hkp, (HF6.out.later hb7).kept (grownBy_setCell' _ _ _) (fun e => by cases e; omega), ?_, hkp _ _ _ _ H0.out (.inl rfl), (heap_setCell_other _ _ _ _ (by simp; omega)).trans (blk_later (HF.out.keep HG6.out H1.out (by decide)) hb7), hkp gs _ _ _ H2.out (.inr (.inr rfl)), (bthen HB6.out hb7).setCell (p := ⟨w2.heap.size, 0, none⟩) (by simp; omega) _⟩
    rw [HNX.out, HHR.out]
    exact o9.set _
  case done =>
    rintro D2 V hD2 ⟨hf, hb9, he0, he1, he2, hB⟩ hK
    rw [mix_all _ _ _ (by rw [HWL.out, HLD.out]), ] at hf
    rw [← HLD.out] at hb9
    have HNL : Hid ((newL (hrdF n f d p r dr o sl md fr ad cap zs votes) D (wellL L s)).length = L) := by show _ = _; rw [newL_len, HWL.out]
    obtain ⟨out, hout⟩ : ∃ out, out = newL (hrdF n f d p r dr o sl md fr ad cap zs votes) D (wellL L s) := ⟨_, rfl⟩
    obtain ⟨c, hc⟩ : ∃ c, c = newB (hrdF n f d p r dr o sl md fr ad cap zs votes) D (wellL L s) L := ⟨_, rfl⟩
    rw [← hout] at hf HNL
    rw [← hc] at hb9
    have HO := hidden hout
    have HC := hidden hc
    have CE : Hid (∀ V, Calls Try.prog 43 #[.string (ba [c])] V fun e w' => e = .returned (.int .i64 (endF c)) ∧ Below V.heap.size V w') := fun V => endOf_any c V
    have hcv : ∀ X, Below V.heap.size V X → (convert 48 9 (.slice (some ⟨g, 0, none⟩) L cap')).run Try.prog X = .ok (.string (ba out)) X := fun X hX => by
      have h := (hf.later hX).text cap'
      rw [HNL.out] at h
      exact h
    have hc9 := hb9.cell
    have hl9 := hb9.lt
    have HBV := hidden hB
    have HK := hidden hK
    have hS : ∀ X, Chn V.heap.size V X → X.cell? ⟨w2.heap.size, 0, none⟩ = some (.string (ba [c])) ∧ (convert 48 9 (.slice (some ⟨g, 0, none⟩) L cap')).run Try.prog X = .ok (.string (ba out)) X := fun X hX => ⟨(hX.1.cell (p := ⟨w2.heap.size, 0, none⟩) hl9).trans hc9, hcv X hX.1⟩
    have hC0 : Chn V.heap.size V V := Chn.refl (Nat.le_refl _)
    clear hf hb9 he0 he1 he2 hB hK hout hc hGI HE2 HF5 E05 E15 HB5 CH hcv hd
    obtain ⟨en, hen⟩ : ∃ en, en = endF c := ⟨_, rfl⟩
    rw [← hen] at CE
    have HEN := hidden hen
    clear hen
    generalize ba [c] = ct at *
    obtain ⟨ot, hot⟩ : ∃ ot, ot = ba out := ⟨_, rfl⟩
    rw [← hot] at hS
    have HOT := hidden hot
    clear hot
    go_wp2
    go_region_held3 (fun X => X.cell? ⟨w2.heap.size, 0, none⟩ = some (.string ct) ∧ (convert 48 9 (.slice (some ⟨g, 0, none⟩) L cap')).run Try.prog X = .ok (.string ot) X) (first | exact hS _ (by repeat (first | with_reducible assumption | with_reducible refine Chn.drew ?_)))
      (first
      | (go_at_call 43; refine (CE.out _).mono ?_; rintro e w7 ⟨rfl, hb⟩; have hC7 := Chn.below (show Chn V.heap.size V _ from (by repeat (first | with_reducible assumption | with_reducible refine Chn.drew ?_))) hb; clear hb))
    all_goals
      have hws := hsz0.out
      have hK7 := blk_later HK.out hC7.1
      go_wp2
      refine ⟨by simp, .inl ⟨_, _, rfl, run_takeDeferred hK7, ?_⟩⟩
      refine ⟨.tuple #[.string ot, .int .i64 en], by simp [results, Try.results15, go_sem], ?_, (bthen HBV.out hC7.1).trans (belowK_b (w := w) (Nat.le_refl _) w7 D2 _ _ (by have := HBV.out.size; omega) hK7 rfl rfl)⟩
      rw [← HO.out, ← HC.out, ← HOT.out, ← HEN.out]
theorem Move_any (n f d p r dr o sl md fr : Int) (ad : Option Addr) (cap : Nat) (zs : List Int) (R D L : Nat) (s : ByteArray) (hs : s.size ≤ 9223372036854775807) (a2 : Option Addr) (c2 : Nat) (votes : List ByteArray) (w : World) (hl : zs.length ≤ 9223372036854775807) (hT : Tab w ad zs) (hR : gate (plainE n f d p r dr o sl md fr zs) (3 * (f + 1)) = (R : Int)) (hL : gate (plainE n f d p r dr o sl md fr zs) (3 * (f + 1) * d) = (L : Int))
    (hR15 : R ≤ 15) (hL60 : L ≤ 60) (hLD : L = R * D) (hd : R = 0 ∨ (d = (D : Int) ∧ 1 ≤ D ∧ D ≤ 4)) (hn : votes.length ≤ 100000) (hV : kStr.Lies w.heap.size w (.slice a2 votes.length c2) votes) (hz : ∀ t ∈ votes, t.size ≤ 9223372036854775807) :
    Calls Try.prog 15 #[.agg #[.int .i64 n, .int .i64 f, .int .i64 d, .int .i64 p, .int .i64 r, .int .i64 dr, .int .i64 o, .int .i64 sl, .int .i64 md, .int .i64 fr, .slice ad zs.length cap], .string s, .slice a2 votes.length c2] w fun e W' => e = .returned (.tuple #[.string (ba (newL (hrdF n f d p r dr o sl md fr ad cap zs votes) D (wellL L s))), .int .i64 (endF (newB (hrdF n f d p r dr o sl md fr ad cap zs votes) D (wellL L s) L))]) ∧ Below w.heap.size w W' :=
  (callsIn_wide (n := 8)).1 (Move_in n f d p r dr o sl md fr ad cap zs R D L s hs a2 c2 votes w hl hT hR hL hR15 hL60 hLD hd hn hV hz)

/-- The code that an instance has at first. -/
def begC8 (bit : Int) : UInt8 := UInt8.ofNat (48 + (codeF (startF bit)).toNat)
set_option maxHeartbeats 1000000 in
theorem Begin_any (n f d p r dr o sl md fr : Int) (ad : Option Addr) (cap : Nat) (zs : List Int) (L : Nat) (s : ByteArray) (bit : Int) (hs : s.size ≤ 9223372036854775807) (w : World) (hl : zs.length ≤ 9223372036854775807) (hT : Tab w ad zs) (hL : gate (plainE n f d p r dr o sl md fr zs) (3 * (f + 1) * d) = (L : Int)) (hL60 : L ≤ 60) :
    Calls Try.prog 13 #[.agg #[.int .i64 n, .int .i64 f, .int .i64 d, .int .i64 p, .int .i64 r, .int .i64 dr, .int .i64 o, .int .i64 sl, .int .i64 md, .int .i64 fr, .slice ad zs.length cap], .string s, .int .i64 bit] w fun e w' => e = .returned (.string (ba ((wellL L s).set 0 (begC8 bit)))) ∧ Below w.heap.size w w' := by
  have CC := hidden (fun V h => codesOf_any n f d p r dr o sl md fr ad cap zs L s hs V hl h hL hL60)
  have HB0 := hidden (ballc w (.cells #[.int .i64 n, .int .i64 f, .int .i64 d, .int .i64 p, .int .i64 r, .int .i64 dr, .int .i64 o, .int .i64 sl, .int .i64 md, .int .i64 fr, .slice ad zs.length cap] 24))
  have HT := hidden (hT.below HB0.out)
  have C1 := hidden (fun V => Start_any bit V)
  have C2 := hidden (fun V => Code_any (startF bit) V)
  have HBC : Hid (begC8 bit = UInt8.ofNat (48 + (codeF (startF bit)).toNat)) := rfl
  have hcb := codeF_bd (startF bit)
  have HWL := hidden (wellL_len L s)
  clear hT hL
  generalize begC8 bit = bc at *
  generalize codeF (startF bit) = q at *
  generalize startF bit = sb at *
  obtain ⟨bv, bs⟩ := sb
  unfold agB at C1
  dsimp only at C1 C2
  obtain ⟨qn, rfl⟩ : ∃ qn : Nat, q = (qn : Int) := ⟨q.toNat, by omega⟩
  rw [Int.toNat_natCast] at HBC
  by_cases h0 : 0 < L
  · have j : (0 : Int) < (L : Int) := by omega
    go_enter Try.func13, Try.ntmps13
    go_wp2_with fail
    refine (CC.out _ HT.out).mono ?_
    rintro e w2 ⟨g, cap', rfl, hF, hg, hcap, hb⟩
    have HB2 := hidden (bthen HB0.out hb)
    have HF2 := hidden hF
    have hgw : w.heap.size ≤ g := by simp at hg; omega
    clear hb hF CC HT hg
    go_wp2_with fail
    refine (C1.out _).mono ?_
    rintro e w3 ⟨rfl, hb⟩
    have HB3 := hidden (bthen HB2.out hb)
    have HF3 := hidden (HF2.out.later hb)
    clear hb HF2 HB2
    go_wp2_with fail
    refine (C2.out _).mono ?_
    rintro e w4 ⟨rfl, hb⟩
    have HB4 := hidden (bthen HB3.out hb)
    have hF4 := HF3.out.later hb
    have c4 := hF4.cell 0 (by rw [HWL.out]; exact h0)
    have f4 := hF4.open 0 (by rw [HWL.out]; exact h0)
    have l4 := hF4.lt
    have hset := hF4.set 0 (by rw [HWL.out]; exact h0) bc
    have hcv := hset.text cap'
    rw [List.length_set, HWL.out] at hcv
    have hbn : ((bc.toNat : Nat) : Int) = 48 + (qn : Int) := by rw [HBC.out, UInt8.toNat_ofNat_of_lt' (by simp [UInt8.size]; omega)]; omega
    rw [hbn] at hcv
    clear hb HF3 HB3 hF4 hset hbn
    go_wp2
    go_ret
    exact ⟨rfl, HB4.out.setCell (p := ⟨g, 0, none⟩) (by simp; omega) _⟩
  · obtain rfl : L = 0 := by omega
    have hn : (wellL 0 s).set 0 bc = wellL 0 s := by
      rw [List.eq_nil_of_length_eq_zero (wellL_len 0 s)]
      rfl
    rw [hn]
    clear hn
    go_enter Try.func13, Try.ntmps13
    go_wp2_with fail
    refine (CC.out _ HT.out).mono ?_
    rintro e w2 ⟨g, cap', rfl, hF, hg, hcap, hb⟩
    have HB2 := hidden (bthen HB0.out hb)
    have hcv := hF.text cap'
    rw [HWL.out] at hcv
    clear hb hF CC HT hg
    go_wp2
    go_ret
    exact ⟨rfl, HB2.out⟩
end Go.Proofs.Ytkolhbacgoafcaa

/- The document's call older of layer 17 returns a code at an age, and makes at most new memory; conditions: rows lie where they say, lengths fit int, at most a hundred thousand votes. -/
namespace Go.Proofs.Ytkolhbacgoafcaa
open Go.ChangeShapes Go.WideShapes Go.ChangeAt Go.RowKit
set_option linter.unusedVariables false
attribute [local go_sem] cell_rg

theorem digs_s (votes : List ByteArray) (q k : Nat) (hk : k < votes.length) : (digsP votes q).take (k + 1) = (digsP votes q).take k ++ [prt (votes.getD k noB) q] := by
  unfold digsP
  rw [List.take_add_one, List.getElem?_map, List.getElem?_eq_getElem hk, List.getD_eq_getElem?_getD, List.getElem?_eq_getElem hk]
  rfl

set_option maxRecDepth 100000 in
set_option maxHeartbeats 4000000 in
theorem rolder_hear (n f d p r dr o sl md fr : Int) (ad : Option Addr) (cap : Nat) (zs : List Int) (R q : Nat) (hq : q < R) (hR15 : R ≤ 15) (b : UInt8) (a : Nat) (ha : a ≤ 1000) (hh : hearF R d (a : Int) = (q : Int)) (hd : R = 0 ∨ 1 ≤ d ∧ d ≤ 4) (a2 : Option Addr) (c2 : Nat) (votes : List ByteArray) (w : World) (hl : zs.length ≤ 9223372036854775807) (hT : Tab w ad zs) (hR : gate (plainE n f d p r dr o sl md fr zs) (3 * (f + 1)) = (R : Int))
    (hn : votes.length ≤ 100000) (hV : kStr.Lies w.heap.size w (.slice a2 votes.length c2) votes) (hz : ∀ t ∈ votes, t.size ≤ 9223372036854775807) :
    Calls Try.prog 44 #[.agg #[.int .i64 n, .int .i64 f, .int .i64 d, .int .i64 p, .int .i64 r, .int .i64 dr, .int .i64 o, .int .i64 sl, .int .i64 md, .int .i64 fr, .slice ad zs.length cap], .string (ba [b]), .int .i64 (a : Int), .slice a2 votes.length c2] w fun e w' => e = .returned (.string (ba [hrdB (plainE n f d p r dr o sl md fr zs) n f votes q b])) ∧ Below w.heap.size w w' := by
  have HB0 := hidden (ballc w (.cells #[.int .i64 n, .int .i64 f, .int .i64 d, .int .i64 p, .int .i64 r, .int .i64 dr, .int .i64 o, .int .i64 sl, .int .i64 md, .int .i64 fr, .slice ad zs.length cap] 24))
  have HT := hidden (hT.below HB0.out)
  have HK := hidden (blk_nw w #[.int .i64 n, .int .i64 f, .int .i64 d, .int .i64 p, .int .i64 r, .int .i64 dr, .int .i64 o, .int .i64 sl, .int .i64 md, .int .i64 fr, .slice ad zs.length cap] 24)
  have CH := hidden (fun V h => rHears_any n f d p r dr o sl md fr ad cap zs (a : Int) R hR15 hd V hl h hR)
  rw [hh] at CH
  have CK := hidden (fun V h => rPKing_any n f d p r dr o sl md fr ad cap zs (q : Int) R (by omega) V hl h hR)
  rw [kingF_in (by omega) (by omega), show (q : Int) / 3 = ((q / 3 : Nat) : Int) by omega] at CK
  have HV := hidden hV
  have HZ := hidden hz
  have CS := hidden (fun (told : ByteArray) (ht : told = toldP votes q) (V : World) (hB : Tab V ad zs) (a3 : Option Addr) (c3 : Nat) (hg : kStr.Lies V.heap.size V (.slice a3 (digsP votes q).length c3) (digsP votes q)) => rVStep_any n f d p r dr o sl md fr ad cap zs (q : Int) (ba [b]) told a3 c3 (digsP votes q) V hl hB (wfNat q (by omega)) (by rw [ba_size]; simp) (by rw [ht]; exact told_size votes q) (by rw [digsP_len]; exact hn) hg (digs_size votes q))
  rw [show (ba [b]).size = 1 by rw [ba_size]; rfl] at CS
  have CS2 : Hid (∀ (told : ByteArray) (ht : told = toldP votes q) (V : World) (hB : Tab V ad zs) (a3 : Option Addr) (c3 : Nat) (hg : kStr.Lies V.heap.size V (.slice a3 votes.length c3) (digsP votes q)), Calls Try.prog 83 #[.agg #[.int .i64 n, .int .i64 f, .int .i64 d, .int .i64 p, .int .i64 r, .int .i64 dr, .int .i64 o, .int .i64 sl, .int .i64 md, .int .i64 fr, .slice ad zs.length cap], .int .i64 (q : Int), .string (ba [b]), .string told, .slice a3 votes.length c3] V fun e w' => e = .returned (.string (ba [hrdB (plainE n f d p r dr o sl md fr zs) n f votes q b])) ∧ Below V.heap.size V w') := fun told ht V hB a3 c3 hg => by
    have h := CS.out told ht V hB a3 c3 (by rw [digsP_len]; exact hg)
    rw [dg_one, digsP_len, ht] at h
    rw [ht]
    exact h
  have HM := hidden (digsP_len votes q)
  obtain ⟨i0, hi, hz0, hz1, hz2⟩ := info_of infoStr
  clear hT hV hz hR hd hh CS
  generalize ba [hrdB (plainE n f d p r dr o sl md fr zs) n f votes q b] = out at *
  generalize ba [b] = code at *
  have q1 : decide ((q : Int) < 0) = false := decide_eq_false (by omega)
  go_enter Try.func44, Try.ntmps44
  go_wp2_with fail
  refine (CH.out _ HT.out).mono ?_
  rintro e w2 ⟨rfl, hb⟩
  have HB2 := hidden (bthen HB0.out hb)
  have HT2 := hidden (HT.out.below hb)
  have HK2 := hidden (blk_later HK.out hb)
  have hws : w.heap.size < w2.heap.size := blk_lt HK2.out
  have HV2 := hidden (HV.out.later HB2.out)
  clear hb HT HK CH HV
  go_wp2
  clear q1
  go_loopw [10, 11] (fun x i wr => ∃ k : Nat, k ≤ votes.length ∧ i = .int .i64 k ∧ wr.ownsRow w2.heap.size 9 1 x k (kStr.flat ((digsP votes q).take k)) ∧ Below w2.heap.size w2 wr) (fun _ i _ => votes.length - (intV i).toNat)
  case atStart => exact ⟨0, Nat.zero_le _, rfl, World.ownsRow_nil _ _ _ _, Below.refl _ _⟩
  case round =>
    obtain ⟨k, hk, rfl, hown, hB⟩ := hrel
    have HBr := hidden hB
    have HO := hidden hown
    by_cases hlt : k < votes.length
    · have i1 : (0 : Int) ≤ (k : Int) := by omega
      have i2 : (k : Int) < (votes.length : Int) := by omega
      obtain ⟨bb, off, rfl, hbl, e0⟩ := kStr_at (HV2.out.below hB) k hlt
      have hm : votes.getD k noB ∈ votes := by rw [List.getD_eq_getElem?_getD, List.getElem?_eq_getElem hlt, Option.getD_some]; exact List.getElem_mem hlt
      have CP := hidden (fun V => rpart_any (votes.getD k noB) q V (HZ.out _ hm))
      have HDS := hidden (digs_s votes q k hlt)
      have lb := Nat.lt_of_lt_of_le hbl hB.size
      clear hB hown hm
      generalize prt (votes.getD k noB) q = on at *
      generalize votes.getD k noB = tk at *
      go_wp2_with fail
      refine (CP.out _).mono ?_
      rintro e w7 ⟨rfl, rfl⟩
      go_wp2_with (at_builtin; refine kStr.wpList_append _ rfl (.tmp 26) (.tmp 33) 30 rfl w2.heap.size 9 i0 (.string noB) 16 Try.underlying30 hi hz0 hz1 hz2 rfl u10 k _ rfl (HO.out.alloc _) (.slice (some ⟨wr.heap.size, 0, none⟩) 1 1) [on] rfl (Kind.Lies.of_block (K := kStr) (es := [on]) (heap_alloc_new wr _) (by simp [maxLen])) (by simp only [maxLen, List.length_singleton]; omega) (by simp only [List.length_singleton]; omega) (by have := HBr.out.size; simp; omega) ?_; intro v3 w3 hown3 hgrow3 _)
      have hB3 : Below w2.heap.size w2 w3 := (HBr.out.alloc HBr.out.size _).grown hgrow3 (by have := HBr.out.size; simp; omega) (own_from HO.out)
      have hrow : w3.ownsRow w2.heap.size 9 1 v3 (k + 1) (kStr.flat ((digsP votes q).take (k + 1))) := by
        rw [HDS.out, Kind.flat_append]
        exact hown3
      go_roundw
      case rel => exact ⟨k + 1, by omega, by go_num, hrow, hB3⟩
      case measure => simp [intV]; omega
    · have hkM : k = votes.length := by omega
      subst hkM
      have i2 : ¬ (votes.length : Int) < (votes.length : Int) := by omega
      have hdt : (digsP votes q).take votes.length = digsP votes q := by rw [← HM.out]; exact List.take_length
      rw [hdt] at hown
      obtain ⟨xa, xc, rfl⟩ := own_slice hown
      have hX : kStr.Lies wr.heap.size wr (.slice xa votes.length xc) (digsP votes q) := by
        have h := Kind.Lies.of_own (K := kStr) (base := w2.heap.size) (e := 9) (v := .slice xa votes.length xc) (es := digsP votes q) (by rw [HM.out]; exact hown)
        exact h
      have HX := hidden hX
      have HKr := hidden (blk_later HK2.out hB)
      have c0 := blk_cell HKr.out
      have l0 := blk_lt HKr.out
      clear hB hown hX hdt HO
      go_wp2_with fail
      refine (CK.out _ (HT2.out.below HBr.out)).mono ?_
      rintro e w6 ⟨rfl, hb⟩
      have HB6 := hidden (bthen HBr.out hb)
      have HX6 := hidden (HX.out.later hb)
      have HK6 := hidden (blk_later HKr.out hb)
      clear hb c0 l0 HKr CK
      have c0 := blk_cell HK6.out
      have l0 := blk_lt HK6.out
      have q0 : decide ((0 : Int) ≤ ((q / 3 : Nat) : Int)) = true := decide_eq_true (by omega)
      have q00 : (0 : Int) ≤ ((q / 3 : Nat) : Int) := by omega
      by_cases hq3 : q / 3 < votes.length
      · have q2 : decide (((q / 3 : Nat) : Int) < (votes.length : Int)) = true := decide_eq_true (by omega)
        have q3 : ((q / 3 : Nat) : Int) < (votes.length : Int) := by omega
        obtain ⟨bb, off, rfl, hbl, e0⟩ := kStr_at HX6.out (q / 3) (by rw [HM.out]; exact hq3)
        have CX := hidden (CS2.out (toldP votes q) rfl w6 (HT2.out.below HB6.out) _ _ HX6.out)
        have HTD : Hid (toldP votes q = (digsP votes q).getD (q / 3) noB) := rfl
        rw [← HTD.out] at e0
        clear CS2 HX HX6 HTD
        generalize toldP votes q = told at *
        generalize q / 3 = kk at *
        go_wp2_with fail
        refine CX.out.mono ?_
        rintro e w9 ⟨rfl, hb⟩
        have HB9 := hidden (bthen HB2.out (bthen HB6.out hb))
        clear hb
        go_wp2
        go_ret
        exact ⟨rfl, HB9.out⟩
      · have q2 : decide (((q / 3 : Nat) : Int) < (votes.length : Int)) = false := decide_eq_false (by omega)
        have q3 : ¬ ((q / 3 : Nat) : Int) < (votes.length : Int) := by omega
        have htd : (⟨#[]⟩ : ByteArray) = toldP votes q := by
          unfold toldP
          rw [List.getD_eq_getElem?_getD, List.getElem?_eq_none (by rw [HM.out]; omega)]
          rfl
        have CX := hidden (CS2.out ⟨#[]⟩ htd w6 (HT2.out.below HB6.out) _ _ HX6.out)
        clear CS2 HX HX6 htd
        generalize q / 3 = kk at *
        go_wp2_with fail
        refine CX.out.mono ?_
        rintro e w9 ⟨rfl, hb⟩
        have HB9 := hidden (bthen HB2.out (bthen HB6.out hb))
        clear hb
        go_wp2
        go_ret
        exact ⟨rfl, HB9.out⟩
theorem rolder_not (n f d p r dr o sl md fr : Int) (ad : Option Addr) (cap : Nat) (zs : List Int) (R : Nat) (hR15 : R ≤ 15) (b : UInt8) (a : Nat) (hh : hearF R d (a : Int) = -1) (hd : R = 0 ∨ 1 ≤ d ∧ d ≤ 4) (a2 : Option Addr) (c2 M : Nat) (w : World) (hl : zs.length ≤ 9223372036854775807) (hT : Tab w ad zs) (hR : gate (plainE n f d p r dr o sl md fr zs) (3 * (f + 1)) = (R : Int)) :
    Calls Try.prog 44 #[.agg #[.int .i64 n, .int .i64 f, .int .i64 d, .int .i64 p, .int .i64 r, .int .i64 dr, .int .i64 o, .int .i64 sl, .int .i64 md, .int .i64 fr, .slice ad zs.length cap], .string (ba [b]), .int .i64 (a : Int), .slice a2 M c2] w fun e w' => e = .returned (.string (ba [b])) ∧ Below w.heap.size w w' := by
  have HB0 := hidden (ballc w (.cells #[.int .i64 n, .int .i64 f, .int .i64 d, .int .i64 p, .int .i64 r, .int .i64 dr, .int .i64 o, .int .i64 sl, .int .i64 md, .int .i64 fr, .slice ad zs.length cap] 24))
  have HT := hidden (hT.below HB0.out)
  have CH := hidden (fun V h => rHears_any n f d p r dr o sl md fr ad cap zs (a : Int) R hR15 hd V hl h hR)
  rw [hh] at CH
  clear hT hR hd hh
  generalize ba [b] = code at *
  go_enter Try.func44, Try.ntmps44
  go_wp2_with fail
  refine (CH.out _ HT.out).mono ?_
  rintro e w2 ⟨rfl, hb⟩
  have HB2 := hidden (bthen HB0.out hb)
  clear hb
  go_wp2
  go_ret
  exact ⟨rfl, HB2.out⟩
theorem rolder_any (n f d p r dr o sl md fr : Int) (ad : Option Addr) (cap : Nat) (zs : List Int) (R D : Nat) (hR15 : R ≤ 15) (hD : d = (D : Int) ∧ 1 ≤ D ∧ D ≤ 4) (b : UInt8) (a : Nat) (ha1 : 1 ≤ a) (ha : a ≤ R * D) (a2 : Option Addr) (c2 : Nat) (votes : List ByteArray) (w : World) (hl : zs.length ≤ 9223372036854775807) (hT : Tab w ad zs) (hR : gate (plainE n f d p r dr o sl md fr zs) (3 * (f + 1)) = (R : Int))
    (hn : votes.length ≤ 100000) (hV : kStr.Lies w.heap.size w (.slice a2 votes.length c2) votes) (hz : ∀ t ∈ votes, t.size ≤ 9223372036854775807) :
    Calls Try.prog 44 #[.agg #[.int .i64 n, .int .i64 f, .int .i64 d, .int .i64 p, .int .i64 r, .int .i64 dr, .int .i64 o, .int .i64 sl, .int .i64 md, .int .i64 fr, .slice ad zs.length cap], .string (ba [b]), .int .i64 (a : Int), .slice a2 votes.length c2] w fun e w' => e = .returned (.string (ba [oldB (hrdF n f d p r dr o sl md fr ad cap zs votes) D a b])) ∧ Below w.heap.size w w' := by
  obtain ⟨hdD, hD1, hD4⟩ := hD
  have h60 : R * D ≤ 60 := Nat.mul_le_mul hR15 hD4
  by_cases h : a % D = 0
  · obtain ⟨h1, h2⟩ := hear_yes (R := R) hD1 h ha1 ha
    have e : oldB (hrdF n f d p r dr o sl md fr ad cap zs votes) D a b = hrdB (plainE n f d p r dr o sl md fr zs) n f votes (a / D - 1) b := if_pos h
    rw [e]
    exact rolder_hear n f d p r dr o sl md fr ad cap zs R (a / D - 1) h2 hR15 b a (by omega) (by rw [hdD]; exact h1) (by omega) a2 c2 votes w hl hT hR hn hV hz
  · have e : oldB (hrdF n f d p r dr o sl md fr ad cap zs votes) D a b = b := if_neg h
    rw [e]
    exact rolder_not n f d p r dr o sl md fr ad cap zs R hR15 b a (by rw [hdD]; exact hear_no h) (by omega) a2 c2 votes.length w hl hT hR
end Go.Proofs.Ytkolhbacgoafcaa

/- The document's calls Move and Begin of layer 17 return a pipe a tick later with what is done, and a pipe with a new instance in it, and make at most new memory; conditions: rows lie where they say, lengths fit int, at most a hundred thousand votes. -/
namespace Go.Proofs.Ytkolhbacgoafcaa
open Go.ChangeShapes Go.WideShapes Go.ChangeAt Go.RowKit
set_option linter.unusedVariables false
attribute [local go_sem] cell_rg

/-- A part of a text of bytes. -/
theorem cut8_mid (l : List UInt8) (k : Nat) (h : k < l.length) (W : World) : (Instr.slice 9 (.string (ba l)) (some (.int .i64 (k : Int))) (some (.int .i64 ((k : Int) + 1))) none).run Try.prog W = .ok (.string (ba [at8 l k])) W := by
  have hs : k < (ba l).size := by rw [ba_size]; exact h
  rw [cut_one (ba l) k hs W, prt_in hs]
  congr 2
  apply ByteArray.ext
  rw [ByteArray.data_extract]
  simp only [ba]
  rw [List.extract_toArray, List.extract_eq_take_drop]
  congr 1
  rw [at8_lt h, show k + 1 - k = 1 by omega, List.drop_eq_getElem_cons h]
  rfl
theorem cut8_end (l : List UInt8) (k : Nat) (h : l.length = k + 1) (W : World) : (Instr.slice 9 (.string (ba l)) (some (.int .i64 (k : Int))) none none).run Try.prog W = .ok (.string (ba [at8 l k])) W := by
  rw [run_slice_string_l W 9 (ba l) Try.underlying9 .i64 (k : Int) (by omega) (by rw [ba_size, h]; omega)]
  congr 2
  apply ByteArray.ext
  simp only [ba, ByteArray.data_extract, Int.toNat_natCast]
  rw [List.extract_toArray, List.extract_eq_take_drop]
  congr 1
  rw [at8_lt (by omega), List.drop_eq_getElem_cons (by omega), List.drop_eq_nil_of_le (by omega)]
  have : (ByteArray.mk l.toArray).size = k + 1 := by rw [← h]; exact ba_size l
  rw [this, show k + 1 - k = 1 by omega]
  rfl
/-- The bytes so far. -/
def newK (h : Nat → UInt8 → UInt8) (D : Nat) (l : List UInt8) (k : Nat) : List UInt8 := (List.range k).map (newB h D l)
theorem newK_s (h : Nat → UInt8 → UInt8) (D : Nat) (l : List UInt8) (k : Nat) : ba (newK h D l k) ++ ba [newB h D l k] = ba (newK h D l (k + 1)) := by
  rw [ba_append]
  simp [newK, List.range_succ]
theorem newK_len (h : Nat → UInt8 → UInt8) (D : Nat) (l : List UInt8) (k : Nat) : (newK h D l k).length = k := by simp [newK]
theorem endF_yes {b : UInt8} (h : valG (ba [b]) 0 = 1) : endF b = 1 := if_pos h
theorem endF_no {b : UInt8} (h : ¬ valG (ba [b]) 0 = 1) : endF b = 0 := if_neg h
theorem toL_one (v : Nat) (hv : v ≤ 2) : ((ba [UInt8.ofNat (48 + v)]).toList == [49]) = decide (v = 1) := by
  rw [ByteArray.toList_eq]
  have : v = 0 ∨ v = 1 ∨ v = 2 := by omega
  rcases this with rfl | rfl | rfl <;> decide

set_option maxRecDepth 100000 in
set_option maxHeartbeats 4000000 in
theorem rPMove_yes (n f d p r dr o sl md fr : Int) (ad : Option Addr) (cap : Nat) (zs : List Int) (R D K : Nat) (s : ByteArray) (a2 : Option Addr) (c2 : Nat) (votes : List ByteArray) (w : World) (hl : zs.length ≤ 9223372036854775807) (hT : Tab w ad zs) (hE : plainE n f d p r dr o sl md fr zs = 0) (hR : gate (plainE n f d p r dr o sl md fr zs) (3 * (f + 1)) = (R : Int)) (hL : gate (plainE n f d p r dr o sl md fr zs) (3 * (f + 1) * d) = ((K + 1 : Nat) : Int))
    (hR15 : R ≤ 15) (hL60 : K + 1 ≤ 60) (hLD : K + 1 = R * D) (hD : d = (D : Int) ∧ 1 ≤ D ∧ D ≤ 4) (hn : votes.length ≤ 100000) (hV : kStr.Lies w.heap.size w (.slice a2 votes.length c2) votes) (hz : ∀ t ∈ votes, t.size ≤ 9223372036854775807) :
    Calls Try.prog 16 #[.agg #[.int .i64 n, .int .i64 f, .int .i64 d, .int .i64 p, .int .i64 r, .int .i64 dr, .int .i64 o, .int .i64 sl, .int .i64 md, .int .i64 fr, .slice ad zs.length cap], .string s, .slice a2 votes.length c2] w fun e w' => e = .returned (.tuple #[.string (ba (newL (hrdF n f d p r dr o sl md fr ad cap zs votes) D (wellL (K + 1) s))), .int .i64 (endF (newB (hrdF n f d p r dr o sl md fr ad cap zs votes) D (wellL (K + 1) s) (K + 1)))]) ∧ Below w.heap.size w w' := by
  have HB0 := hidden (ballc w (.cells #[.int .i64 n, .int .i64 f, .int .i64 d, .int .i64 p, .int .i64 r, .int .i64 dr, .int .i64 o, .int .i64 sl, .int .i64 md, .int .i64 fr, .slice ad zs.length cap] 24))
  have HP := hidden (fun V h => refPlain_any n f d p r dr o sl md fr ad cap zs V hl h)
  rw [hE] at HP
  have HW := hidden (fun V h => rwell_any n f d p r dr o sl md fr ad cap zs (K + 1) s V hl h hL hL60)
  have HNL : Hid (newL (hrdF n f d p r dr o sl md fr ad cap zs votes) D (wellL (K + 1) s) = newK (hrdF n f d p r dr o sl md fr ad cap zs votes) D (wellL (K + 1) s) (K + 1)) := by show _ = _; unfold newL newK; rw [wellL_len]
  have HLN := hidden (wellL_len (K + 1) s)
  have CO : Hid (∀ k, k ≤ K → ∀ V, Tab V ad zs → kStr.Lies V.heap.size V (.slice a2 votes.length c2) votes → Calls Try.prog 44 #[.agg #[.int .i64 n, .int .i64 f, .int .i64 d, .int .i64 p, .int .i64 r, .int .i64 dr, .int .i64 o, .int .i64 sl, .int .i64 md, .int .i64 fr, .slice ad zs.length cap], .string (ba [at8 (wellL (K + 1) s) k]), .int .i64 ((k : Int) + 1), .slice a2 votes.length c2] V fun e w' => e = .returned (.string (ba [newB (hrdF n f d p r dr o sl md fr ad cap zs votes) D (wellL (K + 1) s) (k + 1)])) ∧ Below V.heap.size V w') := fun k hk V h1 h2 => by
    have h := rolder_any n f d p r dr o sl md fr ad cap zs R D hR15 hD (at8 (wellL (K + 1) s) k) (k + 1) (by omega) (by omega) a2 c2 votes V hl h1 hR hn h2 hz
    rw [← newB_s] at h
    exact h
  have CV : Hid (∀ b V, Calls Try.prog 35 #[.string (ba [b])] V fun e w' => e = .returned (.string (ba [UInt8.ofNat (48 + valG (ba [b]) 0)])) ∧ Below V.heap.size V w') := fun b V => by
    have h := rValues_any (ba [b]) (by rw [ba_size]; simp) V
    rw [show (ba [b]).size = 1 by rw [ba_size]; rfl, dg_one] at h
    exact h
  have HT := hidden (hT.below HB0.out)
  have HK := hidden (blk_nw w #[.int .i64 n, .int .i64 f, .int .i64 d, .int .i64 p, .int .i64 r, .int .i64 dr, .int .i64 o, .int .i64 sl, .int .i64 md, .int .i64 fr, .slice ad zs.length cap] 24)
  have HV := hidden (hV.later HB0.out)
  have CU := hidden (fun (k : Nat) (hk : k < K + 1) V => cut8_mid (wellL (K + 1) s) k (by rw [wellL_len]; exact hk) V)
  have CE := hidden (fun V => cut8_end (wellL (K + 1) s) K (wellL_len _ _) V)
  have hsz : (ba (wellL (K + 1) s)).size = K + 1 := by rw [ba_size, wellL_len]
  rw [HNL.out]
  clear hT hR hL hLD hV hz hE HNL hD
  generalize hrdF n f d p r dr o sl md fr ad cap zs votes = hf at *
  generalize wellL (K + 1) s = ll at *
  generalize hws : ba ll = ws at *
  clear hws
  go_enter Try.func16, Try.ntmps16
  go_wp2_with fail
  refine (HP.out _ HT.out).mono ?_
  rintro e w2 ⟨rfl, hb⟩
  have HB2 := hidden (bthen HB0.out hb)
  have HT2 := hidden (HT.out.below hb)
  have HK2 := hidden (blk_later HK.out hb)
  have HV2 := hidden (HV.out.later hb)
  have c0 := blk_cell HK2.out
  have l0 := blk_lt HK2.out
  clear hb HT HK HV HP
  go_wp2_with fail
  refine (HW.out _ HT2.out).mono ?_
  rintro e w3 ⟨rfl, hb⟩
  have HB3 := hidden (bthen HB2.out hb)
  have HT3 := hidden (HT2.out.below hb)
  have HK3 := hidden (blk_later HK2.out hb)
  have HV3 := hidden (HV2.out.later hb)
  clear hb HT2 HK2 HV2 c0 l0 HW HB2
  have hws3 : w.heap.size < w3.heap.size := blk_lt HK3.out
  go_wp2
  go_loopw [9, 10] (fun a i wr => ∃ k : Nat, k ≤ K ∧ i = .int .i64 ((k : Int) + 1) ∧ a = .string (ba (newK hf D ll (k + 1))) ∧ Below w3.heap.size w3 wr) (fun _ i _ => K + 1 - (intV i).toNat)
  case atStart => exact ⟨0, Nat.zero_le _, rfl, rfl, Below.refl _ _⟩
  case round =>
    obtain ⟨k, hk, rfl, rfl, hB⟩ := hrel
    have HBr := hidden hB
    have HKr := hidden (blk_later HK3.out hB)
    have HTr := hidden (HT3.out.below hB)
    have HVr := hidden (HV3.out.later hB)
    have c0 := blk_cell HKr.out
    have l0 := blk_lt HKr.out
    clear hB
    by_cases hlt : k < K
    · have i2 : (k : Int) + 1 < (K : Int) + 1 := by omega
      have i3 : (k : Int) < (K : Int) := by omega
      have cut := CU.out k (by omega)
      have CX := hidden (CO.out k (by omega))
      have HS := hidden (newK_s hf D ll (k + 1))
      have hns1 : (ba (newK hf D ll (k + 1))).size = k + 1 := by rw [ba_size, newK_len]
      have hns2 : (ba [newB hf D ll (k + 1)]).size = 1 := by rw [ba_size]; rfl
      have t1 : IntKind.i64.wrap ((k : Int) + 1 - 1) = (k : Int) := IntWalk.i64_in _ (by omega) |>.trans (by omega)
      have t2 : IntKind.i64.wrap (k : Int) = (k : Int) := IntWalk.i64_in _ (by omega)
      generalize hou : ba (newK hf D ll (k + 1)) = out at *
      have HOU := hidden hou
      clear hou
      generalize ba [newB hf D ll (k + 1)] = pc at *
      generalize ba [at8 ll k] = cc at *
      go_wp2
      refine wp_region_quiet_below (by kernel_rfl) (by kernel_rfl) ?_
      repeat (go_big_quiet_step (first | (go_at_call 44; exact Calls.regrown_of (CX.out _ (HTr.out.below (below_regrown _ _ _)) (HVr.out.later (below_regrown _ _ _))))))
      refine wpQuiet_nil ?_
      intro w5 hw5
      have HB5 := hidden (bthen HBr.out (rg_below hw5))
      clear hw5 c0 l0
      go_wp2
      go_roundw
      case rel => exact ⟨k + 1, by omega, by go_num, by rw [HS.out], HB5.out⟩
      case measure => simp [intV]; omega
    · obtain rfl : k = K := by omega
      have i2 : ¬ (k : Int) + 1 < (k : Int) + 1 := by omega
      have cut := CE.out
      have CX := hidden (CO.out k (Nat.le_refl _))
      have CW := hidden (CV.out (newB hf D ll (k + 1)))
      have t1 : IntKind.i64.wrap ((k : Int) + 1 - 1) = (k : Int) := IntWalk.i64_in _ (by omega) |>.trans (by omega)
      have t2 : IntKind.i64.wrap (k : Int) = (k : Int) := IntWalk.i64_in _ (by omega)
      have hv2 := valG_bd (ba [newB hf D ll (k + 1)]) 0
      have HTL := hidden (toL_one (valG (ba [newB hf D ll (k + 1)]) 0) hv2)
      have HEY := hidden (endF_yes (b := newB hf D ll (k + 1)))
      have HEN := hidden (endF_no (b := newB hf D ll (k + 1)))
      generalize hen : endF (newB hf D ll (k + 1)) = en at *
      have HENF := hidden hen
      clear hen
      generalize valG (ba [newB hf D ll (k + 1)]) 0 = v at *
      generalize ba [newB hf D ll (k + 1)] = pc at *
      generalize ba [UInt8.ofNat (48 + v)] = vt at *
      generalize hou : ba (newK hf D ll (k + 1)) = out at *
      have HOU := hidden hou
      clear hou
      generalize ba [at8 ll k] = cc at *
      by_cases hv1 : v = 1
      · have e3 : (vt.toList == [49]) = true := by rw [HTL.out]; exact decide_eq_true hv1
        have he := HEY.out hv1
        subst he
        clear HTL HEY HEN hv1
        go_wp2
        refine wp_region_quiet_below (by kernel_rfl) (by kernel_rfl) ?_
        repeat (go_big_quiet_step (first | (go_at_call 44; exact Calls.regrown_of (CX.out _ (HTr.out.below (below_regrown _ _ _)) (HVr.out.later (below_regrown _ _ _)))) | (go_at_call 35; exact Calls.regrown_of (CW.out _))))
        refine wpQuiet_nil ?_
        intro w5 hw5
        have HB5 := hidden (bthen HB3.out (bthen HBr.out (rg_below hw5)))
        clear hw5 c0 l0
        go_wp2
        exact bodyPost_ret (v := .tuple #[.string out, .int .i64 1]) (by simp [results, Try.results16, go_sem]) rfl ⟨by rw [HOU.out, HENF.out], HB5.out⟩
      · have e3 : (vt.toList == [49]) = false := by rw [HTL.out]; exact decide_eq_false hv1
        have he := HEN.out hv1
        subst he
        clear HTL HEY HEN hv1
        go_wp2
        refine wp_region_quiet_below (by kernel_rfl) (by kernel_rfl) ?_
        repeat (go_big_quiet_step (first | (go_at_call 44; exact Calls.regrown_of (CX.out _ (HTr.out.below (below_regrown _ _ _)) (HVr.out.later (below_regrown _ _ _)))) | (go_at_call 35; exact Calls.regrown_of (CW.out _))))
        refine wpQuiet_nil ?_
        intro w5 hw5
        have HB5 := hidden (bthen HB3.out (bthen HBr.out (rg_below hw5)))
        clear hw5 c0 l0
        go_wp2
        exact bodyPost_ret (v := .tuple #[.string out, .int .i64 0]) (by simp [results, Try.results16, go_sem]) rfl ⟨by rw [HOU.out, HENF.out], HB5.out⟩
theorem rPMove_no (n f d p r dr o sl md fr : Int) (ad : Option Addr) (cap : Nat) (zs : List Int) (s : ByteArray) (a2 : Option Addr) (c2 M : Nat) (w : World) (hl : zs.length ≤ 9223372036854775807) (hT : Tab w ad zs) (hE : ¬ plainE n f d p r dr o sl md fr zs = 0) :
    Calls Try.prog 16 #[.agg #[.int .i64 n, .int .i64 f, .int .i64 d, .int .i64 p, .int .i64 r, .int .i64 dr, .int .i64 o, .int .i64 sl, .int .i64 md, .int .i64 fr, .slice ad zs.length cap], .string s, .slice a2 M c2] w fun e w' => e = .returned (.tuple #[.string ⟨#[]⟩, .int .i64 0]) ∧ Below w.heap.size w w' := by
  have HB0 := hidden (ballc w (.cells #[.int .i64 n, .int .i64 f, .int .i64 d, .int .i64 p, .int .i64 r, .int .i64 dr, .int .i64 o, .int .i64 sl, .int .i64 md, .int .i64 fr, .slice ad zs.length cap] 24))
  have HP := hidden (refPlain_any n f d p r dr o sl md fr ad cap zs (w.alloc (.cells #[.int .i64 n, .int .i64 f, .int .i64 d, .int .i64 p, .int .i64 r, .int .i64 dr, .int .i64 o, .int .i64 sl, .int .i64 md, .int .i64 fr, .slice ad zs.length cap] 24)) hl (hT.below (ballc _ _)))
  have j1 : (plainE n f d p r dr o sl md fr zs != 0) = true := bne_iff_ne.2 hE
  generalize plainE n f d p r dr o sl md fr zs = E at *
  clear hE hT
  go_enter Try.func16, Try.ntmps16
  go_wp2_with fail
  refine HP.out.mono ?_
  rintro e w2 ⟨rfl, hb⟩
  have HB2 := hidden (bthen HB0.out hb)
  clear hb HP
  go_wp2
  exact bodyPost_ret (v := .tuple #[.string ⟨#[]⟩, .int .i64 0]) (by simp [results, Try.results16, go_sem]) rfl ⟨rfl, HB2.out⟩
theorem rPMove_any (n f d p r dr o sl md fr : Int) (ad : Option Addr) (cap : Nat) (zs : List Int) (R D L : Nat) (s : ByteArray) (a2 : Option Addr) (c2 : Nat) (votes : List ByteArray) (w : World) (hl : zs.length ≤ 9223372036854775807) (hT : Tab w ad zs) (hR : gate (plainE n f d p r dr o sl md fr zs) (3 * (f + 1)) = (R : Int)) (hL : gate (plainE n f d p r dr o sl md fr zs) (3 * (f + 1) * d) = (L : Int))
    (hR15 : R ≤ 15) (hL60 : L ≤ 60) (hLD : L = R * D) (hd : plainE n f d p r dr o sl md fr zs = 0 → (R : Int) = 3 * (f + 1) ∧ d = (D : Int) ∧ 1 ≤ D ∧ D ≤ 4) (hd0 : ¬ plainE n f d p r dr o sl md fr zs = 0 → R = 0) (hn : votes.length ≤ 100000) (hV : kStr.Lies w.heap.size w (.slice a2 votes.length c2) votes) (hz : ∀ t ∈ votes, t.size ≤ 9223372036854775807) :
    Calls Try.prog 16 #[.agg #[.int .i64 n, .int .i64 f, .int .i64 d, .int .i64 p, .int .i64 r, .int .i64 dr, .int .i64 o, .int .i64 sl, .int .i64 md, .int .i64 fr, .slice ad zs.length cap], .string s, .slice a2 votes.length c2] w fun e w' => e = .returned (.tuple #[.string (ba (newL (hrdF n f d p r dr o sl md fr ad cap zs votes) D (wellL L s))), .int .i64 (endF (newB (hrdF n f d p r dr o sl md fr ad cap zs votes) D (wellL L s) L))]) ∧ Below w.heap.size w w' := by
  by_cases hE : plainE n f d p r dr o sl md fr zs = 0
  · obtain ⟨h1, h2, h3, h4⟩ := hd hE
    obtain ⟨_, _, f1, _⟩ := plainE_ok hE
    have hL1 : 1 ≤ L := by
      rw [hLD]
      exact Nat.mul_pos (by omega) h3
    obtain ⟨K, rfl⟩ : ∃ K, L = K + 1 := ⟨L - 1, by omega⟩
    exact rPMove_yes n f d p r dr o sl md fr ad cap zs R D K s a2 c2 votes w hl hT hE hR hL hR15 hL60 hLD ⟨h2, h3, h4⟩ hn hV hz
  · have hR0 := hd0 hE
    subst hR0
    have hL0 : L = 0 := by rw [hLD, Nat.zero_mul]
    subst hL0
    have e1 : newL (hrdF n f d p r dr o sl md fr ad cap zs votes) D (wellL 0 s) = [] := List.eq_nil_of_length_eq_zero (by rw [newL_len, wellL_len])
    have e2 : endF (newB (hrdF n f d p r dr o sl md fr ad cap zs votes) D (wellL 0 s) 0) = 0 := by rw [newB_0]; rfl
    rw [e1, e2]
    exact rPMove_no n f d p r dr o sl md fr ad cap zs s a2 c2 votes.length w hl hT hE

set_option maxHeartbeats 1000000 in
theorem rPBegin_any (n f d p r dr o sl md fr : Int) (ad : Option Addr) (cap : Nat) (zs : List Int) (L : Nat) (s : ByteArray) (bit : Int) (w : World) (hl : zs.length ≤ 9223372036854775807) (hT : Tab w ad zs) (hL : gate (plainE n f d p r dr o sl md fr zs) (3 * (f + 1) * d) = (L : Int)) (hL60 : L ≤ 60) (hL1 : plainE n f d p r dr o sl md fr zs = 0 → 1 ≤ L) :
    Calls Try.prog 14 #[.agg #[.int .i64 n, .int .i64 f, .int .i64 d, .int .i64 p, .int .i64 r, .int .i64 dr, .int .i64 o, .int .i64 sl, .int .i64 md, .int .i64 fr, .slice ad zs.length cap], .string s, .int .i64 bit] w fun e w' => e = .returned (.string (ba ((wellL L s).set 0 (begC8 bit)))) ∧ Below w.heap.size w w' := by
  have HB0 := hidden (ballc w (.cells #[.int .i64 n, .int .i64 f, .int .i64 d, .int .i64 p, .int .i64 r, .int .i64 dr, .int .i64 o, .int .i64 sl, .int .i64 md, .int .i64 fr, .slice ad zs.length cap] 24))
  have HP := hidden (refPlain_any n f d p r dr o sl md fr ad cap zs (w.alloc (.cells #[.int .i64 n, .int .i64 f, .int .i64 d, .int .i64 p, .int .i64 r, .int .i64 dr, .int .i64 o, .int .i64 sl, .int .i64 md, .int .i64 fr, .slice ad zs.length cap] 24)) hl (hT.below (ballc _ _)))
  by_cases hE : plainE n f d p r dr o sl md fr zs = 0
  · obtain ⟨K, rfl⟩ : ∃ K, L = K + 1 := ⟨L - 1, by have := hL1 hE; omega⟩
    rw [hE] at HP
    have HW := hidden (fun V h => rwell_any n f d p r dr o sl md fr ad cap zs (K + 1) s V hl h hL hL60)
    have C1 := hidden (fun V => rStart_any bit V)
    have C2 := hidden (fun V => rCode_any (startF bit) V)
    have hcb := codeF_bd (startF bit)
    have HBC : Hid (begC8 bit = UInt8.ofNat (48 + (codeF (startF bit)).toNat)) := rfl
    have HT := hidden (hT.below HB0.out)
    have HK := hidden (blk_nw w #[.int .i64 n, .int .i64 f, .int .i64 d, .int .i64 p, .int .i64 r, .int .i64 dr, .int .i64 o, .int .i64 sl, .int .i64 md, .int .i64 fr, .slice ad zs.length cap] 24)
    have hlen := wellL_len (K + 1) s
    obtain ⟨c0', rest, hwl⟩ : ∃ c0' rest, wellL (K + 1) s = c0' :: rest := by
      cases h : wellL (K + 1) s with
      | nil => rw [h] at hlen; cases hlen
      | cons a b => exact ⟨a, b, rfl⟩
    rw [hwl] at HW hlen ⊢
    have hrl : rest.length = K := by simpa using hlen
    have hcut : ∀ X : World, (Instr.slice 9 (.string (ba (c0' :: rest))) (some (.int .i64 1)) none none).run Try.prog X = .ok (.string (ba rest)) X := fun X => by
      rw [run_slice_string_l X 9 (ba (c0' :: rest)) Try.underlying9 .i64 1 (by omega) (by rw [ba_size, List.length_cons]; omega)]
      congr 2
      apply ByteArray.ext
      rw [ByteArray.data_extract]
      simp only [ba]
      rw [List.extract_toArray, List.extract_eq_take_drop]
      congr 1
      have : (ByteArray.mk (c0' :: rest).toArray).size = K + 1 := by rw [← hlen]; exact ba_size _
      rw [this]
      simp
      exact List.take_of_length_le (by omega)
    have hfin : Hid (ba [begC8 bit] ++ ba rest = ba ((c0' :: rest).set 0 (begC8 bit))) := by
      show _ = _
      rw [ba_append]
      rfl
    rw [← hfin.out]
    have hns1 : (ba [begC8 bit]).size = 1 := by rw [ba_size]; rfl
    have hns2 : (ba rest).size = K := by rw [ba_size, hrl]
    have HNS : Hid (numStr [(48 + codeF (startF bit)) % 256] = ba [begC8 bit]) := by
      show _ = _
      rw [HBC.out]
      show ba [UInt8.ofNat ((48 + codeF (startF bit)) % 256).toNat] = _
      congr 3
      omega
    have C3 := hidden (fun V => rbyte_any (48 + codeF (startF bit)) V)
    rw [HNS.out] at C3
    clear hT hL hE hwl hfin HNS HBC hlen hrl hL1
    generalize ba [begC8 bit] = bt at *
    generalize codeF (startF bit) = q at *
    generalize startF bit = sb at *
    obtain ⟨bv, bs⟩ := sb
    unfold agB at C1
    dsimp only at C1 C2
    have t1 : IntKind.i64.wrap (48 + q) = 48 + q := IntWalk.i64_in _ (by omega)
    generalize ba (c0' :: rest) = ws at *
    generalize ba rest = rs at *
    go_enter Try.func14, Try.ntmps14
    go_wp2_with fail
    refine HP.out.mono ?_
    rintro e w2 ⟨rfl, hb⟩
    have HB2 := hidden (bthen HB0.out hb)
    have HT2 := hidden (HT.out.below hb)
    have HK2 := hidden (blk_later HK.out hb)
    have c0 := blk_cell HK2.out
    have l0 := blk_lt HK2.out
    clear hb HT HK HP
    go_wp2
    refine wp_region_quiet_below (by kernel_rfl) (by kernel_rfl) ?_
    repeat (go_big_quiet_step (first | (go_at_call 19; exact Calls.regrown_of (C1.out _)) | (go_at_call 22; exact Calls.regrown_of (C2.out _)) | (go_at_call 40; exact Calls.regrown_of (C3.out _)) | (go_at_call 36; exact Calls.regrown_of (HW.out _ (HT2.out.below (below_regrown _ _ _))))))
    refine wpQuiet_nil ?_
    intro w5 hw5
    have HB5 := hidden (bthen HB2.out (rg_below hw5))
    clear hw5 c0 l0
    go_wp2
    go_ret
    exact ⟨rfl, HB5.out⟩
  · have hL0 : L = 0 := by
      rw [gate_no hE] at hL
      omega
    subst hL0
    have hn : (wellL 0 s).set 0 (begC8 bit) = [] := List.eq_nil_of_length_eq_zero (by rw [List.length_set, wellL_len])
    rw [hn]
    have j1 : (plainE n f d p r dr o sl md fr zs != 0) = true := bne_iff_ne.2 hE
    generalize plainE n f d p r dr o sl md fr zs = E at *
    clear hE hT hL hL1 hn
    go_enter Try.func14, Try.ntmps14
    go_wp2_with fail
    refine HP.out.mono ?_
    rintro e w2 ⟨rfl, hb⟩
    have HB2 := hidden (bthen HB0.out hb)
    clear hb HP
    go_wp2
    go_ret
    exact ⟨rfl, HB2.out⟩
end Go.Proofs.Ytkolhbacgoafcaa

/- The fixed configuration of the statements, and what is plain of it; no conditions. -/
namespace Go.Proofs.Ytkolhbacgoafcaa
open Go.ChangeShapes Go.WideShapes Go.ChangeAt Go.RowKit
set_option linter.unusedVariables false

theorem Tab.four (w : World) (t : TypeId) (g : Nat) (hg : g = w.heap.size) : Tab (w.alloc (.cells #[.int .i64 0, .int .i64 1, .int .i64 2, .int .i64 3] t)) (some ⟨g, 0, none⟩) [0, 1, 2, 3] := by
  subst hg
  intro i hi
  refine ⟨_, rfl, ?_⟩
  have hi' : i = 0 ∨ i = 1 ∨ i = 2 ∨ i = 3 := by simp at hi; omega
  rcases hi' with rfl | rfl | rfl | rfl <;> exact World.cell?_alloc_mark w _ t _ _
theorem Tab.none (w : World) : Tab w none [] := fun i hi => absurd hi (Nat.not_lt_zero _)
theorem plainE_small : plainE 4 1 1 20 64 1 64 190 10 3 [0, 1, 2, 3] = 0 := by decide
theorem plainE_zero : plainE 0 0 0 0 0 0 0 0 0 0 [] = 7 := by decide
/-- The same call, where the answer is spelt otherwise. -/
theorem Calls.ret_to {P : Program} {F : FuncId} {args : Array Value} {w : World} {v u : Value} (h : Calls P F args w fun e w' => e = .returned v ∧ Below w.heap.size w w') (e : v = u) : Calls P F args w fun e w' => e = .returned u ∧ Below w.heap.size w w' := by
  rw [← e]; exact h
theorem val_i {a b : Int} (h : a = b) : Value.int .i64 a = .int .i64 b := by rw [h]
end Go.Proofs.Ytkolhbacgoafcaa
