/- The call Purge of package log hands back the notes that are alive, in their order, in memory of its own; for rows of notes that lie in memory, at most a million. -/
import Derived.Test.YtjmeeklaclidbaaLogA
namespace Go.Proofs.Ytjmeeklaclidbaa
open Go.ChangeShapes Go.WideShapes Go.ChangeAt Go.RowKit Go.Shelf
set_option linter.unusedVariables false
attribute [local go_sem] Oper.semAt_some

theorem infoEnt : (Try.prog.info? 54).map (fun i => (i.zero, i.size, i.bytes)) = some (some (.agg #[.int .i64 0, .int .i64 0]), 2, 16) := by kernel_rfl

/-- A box of a note. -/
def Boxed2 (W : World) (B : Nat) (x : Note) : Prop := W.heap[B]? = some (.cells #[.int .i64 x.1.1, .int .i64 x.1.2] 54 (0, 0))
theorem Boxed2.kept {W W' : World} {row : Option Nat} {B : Nat} {x : Note} (h : Boxed2 W B x) (hg : W.grownBy W' row) (hne : some B ≠ row) : Boxed2 W' B x := (hg.block B (Array.getElem?_eq_some_iff.1 h).1 hne).trans h
theorem Boxed2.new (W : World) (x : Note) : Boxed2 (W.alloc (.cells #[.int .i64 x.1.1, .int .i64 x.1.2] 54)) W.heap.size x := World.alloc_heap_new W _
theorem Boxed2.cell {W : World} {B : Nat} {x : Note} (h : Boxed2 W B x) : W.cell? ⟨B, 0, none⟩ = some (.int .i64 x.1.1) ∧ W.cell? ⟨B, 1, none⟩ = some (.int .i64 x.1.2) := by
  simp [World.cell?, show W.heap[B]? = _ from h]
theorem boxed2_own {β : Type} (B : Nat) (f : β → Note) : Own (fun s W => Boxed2 W B (f s)) := fun s X Y row hs hg hrow =>
  hs.kept hg (fun e' => by obtain ⟨o, ho, hc⟩ := hrow B e'.symm; rw [show X.heap[B]? = _ from hs] at ho; cases ho; cases hc)
theorem cell_two_new (W : World) (u v : Value) (t : TypeId) : ∀ j x, [u, v][j]? = some x → (W.alloc (.cells #[u, v] t)).cell? ((⟨W.heap.size, 0, none⟩ : Addr).add j) = some x := by
  intro j x hx
  match j, hx with
  | 0, hx => simp at hx; subst hx; rw [add_plain]; exact World.cell?_alloc_mark W #[u, v] t _ 0
  | 1, hx => simp at hx; subst hx; rw [add_plain]; exact World.cell?_alloc_mark W #[u, v] t _ 1

set_option maxRecDepth 100000 in
set_option maxHeartbeats 2000000 in
theorem Purge_in (n : Nat) (hn : 3 ≤ n) (ad : Option Addr) (len cap : Nat) (now width : Int) (es : List Note) (hlen : es.length ≤ 1000000) (w : World) (hE : Ents w.heap.size w (.slice ad len cap) es) :
    CallsIn Fence.wide n Try.prog 28 #[.slice ad len cap, .int .i64 now, .int .i64 width] w fun e W' => ∃ v, e = .returned v ∧ W'.ownsRow w.heap.size 54 2 v (live now width es).length (cells2 (live now width es)) ∧ Below w.heap.size w W' := by
  have h1 : 1 ≤ n := by omega
  have hro : Fence.wide.round = none := rfl
  obtain ⟨i0, hi, hz0, hz1, hz2⟩ := info_parts infoEnt
  have hfa : Fence.wide.fn 41 := trivial
  refine callsIn_of_wp_marks Try.func28 rfl trivial ?_ hro
  simp only [Try.ntmps28, List.size_toArray, List.length_cons, List.length_nil, Nat.reduceAdd, Nat.reduceSub, Array.replicate_succ, Array.replicate_zero, List.push_toArray, List.append_toArray, List.nil_append, List.cons_append]
  gi_wp2_with (gi_at_call 41; refine (alive_in Fence.wide (n - 1) trivial hro _ _ _ _ _ _).mono ?_; rintro e w' ⟨rfl, rfl⟩)
  have bO := (((Boxed.new w 22 (.slice none 0 0)).alloc (.cells #[.slice ad len cap] 22)).alloc (.cells #[.int .i64 now] 3)).alloc (.cells #[.int .i64 width] 3)
  have b0 := ((Boxed.new (w.alloc (.cells #[.slice none 0 0] 22)) 22 (.slice ad len cap)).alloc (.cells #[.int .i64 now] 3)).alloc (.cells #[.int .i64 width] 3)
  have b1 := (Boxed.new ((w.alloc (.cells #[.slice none 0 0] 22)).alloc (.cells #[.slice ad len cap] 22)) 3 (.int .i64 now)).alloc (.cells #[.int .i64 width] 3)
  have b2 := Boxed.new (((w.alloc (.cells #[.slice none 0 0] 22)).alloc (.cells #[.slice ad len cap] 22)).alloc (.cells #[.int .i64 now] 3)) 3 (.int .i64 width)
  simp only [World.size_alloc] at bO b0 b1 b2
  have hB0 : Below w.heap.size w ((((w.alloc (.cells #[.slice none 0 0] 22)).alloc (.cells #[.slice ad len cap] 22)).alloc (.cells #[.int .i64 now] 3)).alloc (.cells #[.int .i64 width] 3)) := ((((Below.refl _ w).alloc (Nat.le_refl _) _).alloc (by simp) _).alloc (by simp; omega) _).alloc (by simp; omega) _
  have hs0 : ((((w.alloc (.cells #[.slice none 0 0] 22)).alloc (.cells #[.slice ad len cap] 22)).alloc (.cells #[.int .i64 now] 3)).alloc (.cells #[.int .i64 width] 3)).heap.size = w.heap.size + 4 := by simp
  generalize ((((w.alloc (.cells #[.slice none 0 0] 22)).alloc (.cells #[.slice ad len cap] 22)).alloc (.cells #[.int .i64 now] 3)).alloc (.cells #[.int .i64 width] 3)) = w0 at bO b0 b1 b2 hB0 hs0 ⊢
  refine wpIn_rangeFunc_ownH hro h1 (gf := 47) (lb := #[.pointer (some ⟨w.heap.size + 1, 0, none⟩), .pointer (some ⟨w.heap.size + 1 + 1, 0, none⟩), .pointer (some ⟨w.heap.size + 1 + 1 + 1, 0, none⟩)]) rfl trivial (enters_of Try.func47 (by kernel_rfl) rfl)
    (alive_stops (n - 1) (by omega) (w.heap.size + 1) w.heap.size _ es now width hlen w0 (by omega) (by omega) b0 b1 b2 (hE.below hB0)) KpA.t (KpA.b (by omega) (by omega)) (Below.refl _ _) (fun _ => rfl)
    (fun pre W => (∃ v, Boxed W w.heap.size 22 v ∧ W.ownsRow w.heap.size 54 2 v pre.length (cells2 pre) ∧ True) ∧ Below w.heap.size w W ∧ (Boxed W (w.heap.size + 1 + 1) 3 (.int .i64 now) ∧ Boxed W (w.heap.size + 1 + 1 + 1) 3 (.int .i64 width)))
    (fun _ _ _ => False)
    (OwnFrom.and (Own.from (holdsRow_own w.heap.size w.heap.size 22 54 2 (fun pre => pre.length) (fun pre => cells2 pre) (fun _ _ => True)) _) (OwnFrom.and (ownFrom_below (Nat.le_refl _) (by omega)) (OwnFrom.and (Own.from (boxed_own _ _ _) _) (Own.from (boxed_own _ _ _) _))))
    (fun _ _ _ _ _ hs _ _ => hs)
    ⟨⟨_, bO, World.ownsRow_nil _ _ _ _, trivial⟩, hB0, b1, b2⟩
    (fun x a' W => ∃ Bx, w.heap.size + 4 ≤ Bx ∧ Boxed2 W Bx x ∧ a' = { tmps := #[.slice ad len cap, .int .i64 now, .int .i64 width, undef, undef, undef, .slice none 0 0, .pointer (some ⟨w.heap.size, 0, none⟩), .pointer (some ⟨Bx, 0, none⟩), .slice ad len cap, .int .i64 now, .int .i64 width, .func (.func 47) #[] #[.pointer (some ⟨w.heap.size + 1, 0, none⟩), .pointer (some ⟨w.heap.size + 1 + 1, 0, none⟩), .pointer (some ⟨w.heap.size + 1 + 1 + 1, 0, none⟩)], agg2 x, undef, undef, undef, undef, undef], defers := [] })
    (fun x a' s X Y row hs hg hr => by
      obtain ⟨Bx, hle, hb, ha⟩ := hs
      exact ⟨Bx, hle, (Own.from (boxed2_own Bx (fun (_ : Unit) => x)) _) () X Y row hb hg hr, ha⟩)
    ?assign ?body ?done ?stop
  case assign =>
    rintro l pre x W K ⟨⟨v, hv, hrow, _⟩, hB, d1, d2⟩ hK
    simp only [agg2]
    gi_wp2
    exact hK _ _ ((KeepsOthers.alloc _ _).from _) ⟨(Below.refl _ W).alloc hB.size _, fun b => b.alloc _, fun b => b.alloc _⟩ ⟨⟨v, hv.alloc _, hrow.alloc _, trivial⟩, hB.alloc hB.size _, d1.alloc _, d2.alloc _⟩ ⟨W.heap.size, by have := d2.lt; omega, Boxed2.new W x, rfl⟩
  case body =>
    rintro l pre x a' W hl hr ⟨⟨v, hv, hrow, _⟩, hB, d1, d2⟩ ⟨Bx, hBx, bX, rfl⟩ hlt
    have hc := hv.cell
    obtain ⟨x0, x1⟩ := bX.cell
    gi_wp2_with (gi_at_builtin; refine wpListIn_append_own _ rfl _ _ 22 rfl w.heap.size 54 i0 (.agg #[.int .i64 0, .int .i64 0]) 2 16 Try.underlying22 hi hz0 hz1 hz2 rfl (by decide) _ _ _ rfl (hrow.alloc _) ⟨W.heap.size, 0, none⟩ 1 1 [.int .i64 x.1.1, .int .i64 x.1.2] rfl rfl (cell_two_new _ _ _ _) (by simp [Value.oneCell']) (by simp only [maxLen]; omega) (by omega) (by have := hB.size; simp; omega) ?_; intro v' w1 hown' hgrow _; obtain ⟨g', cap', rfl⟩ := ownsRow_succ hown'; obtain ⟨hv1, hv2, hr2, hk2, hb2⟩ := hv.appended (by decide) hrow hB.size (Nat.le_refl _) hown' hgrow; have hc1 := hv1.cell; have hf1 := hv1.frozen)
    have d1' := ((d1.alloc _).kept hgrow (d1.not_row (by decide) hrow)).other (B' := w.heap.size) (by omega) (.slice (some ⟨g', 0, none⟩) (pre.length + 1) cap')
    have d2' := ((d2.alloc _).kept hgrow (d2.not_row (by decide) hrow)).other (B' := w.heap.size) (by omega) (.slice (some ⟨g', 0, none⟩) (pre.length + 1) cap')
    exact ⟨hk2.from _, ⟨hb2, fun _ => d1', fun _ => d2'⟩, ⟨⟨_, hv2, by rw [cells2_append, List.length_append]; exact hr2, trivial⟩, hB.trans hb2, d1', d2'⟩⟩
  case done =>
    rintro D ys W hD rfl ⟨⟨v, hv, hrow, _⟩, hB, d1, d2⟩ hK
    have hc := hv.cell
    gi_wp2
    refine ⟨by simp, .inl ⟨_, _, rfl, run_takeDeferred hK, ?_⟩⟩
    exact ⟨_, results_tmp rfl _ _ _, v, rfl, ownsRow_putObj hrow _ hK rfl, hB.trans (belowK_b (w := w) (Nat.le_refl _) W D _ _ (by omega) hK rfl rfl)⟩
  case stop =>
    rintro D c pre W _ _ h _
    exact h.elim

theorem Purge_any (ad : Option Addr) (len cap : Nat) (now width : Int) (es : List Note) (hlen : es.length ≤ 1000000) (w : World) (hE : Ents w.heap.size w (.slice ad len cap) es) :
    Calls Try.prog 28 #[.slice ad len cap, .int .i64 now, .int .i64 width] w fun e w' => ∃ ad' cap', e = .returned (.slice ad' (live now width es).length cap') ∧ Ents w'.heap.size w' (.slice ad' (live now width es).length cap') (live now width es) ∧ Below w.heap.size w w' :=
  ((callsIn_wide (n := 3)).1 (Purge_in 3 (Nat.le_refl _) ad len cap now width es hlen w hE)).mono fun e w' ⟨v, he, hr, hb⟩ => by
    have hE' := Ents.of_own hr
    obtain ⟨ad', cap', rfl, h⟩ := id hE'
    exact ⟨ad', cap', he, hE', hb⟩
end Go.Proofs.Ytjmeeklaclidbaa
