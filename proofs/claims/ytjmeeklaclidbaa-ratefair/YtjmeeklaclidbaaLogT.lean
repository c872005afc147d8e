/- The call told of package log hands back a new map that counts the notes that are alive by their nodes; Count and Of of it; for rows of notes that lie in memory, at most a million. -/
import Derived.Test.YtjmeeklaclidbaaLogP
namespace Go.Proofs.Ytjmeeklaclidbaa
open Go.ChangeShapes Go.WideShapes Go.ChangeAt Go.RowKit Go.Shelf
set_option linter.unusedVariables false
attribute [local go_sem] Oper.semAt_some

def numD {H : Type} : DataW H → Int
  | .lit (.int _ c) => c
  | _ => 0
def bumpD {H : Type} (D : DataW H) (x : Int) : DataW H := D.put (.int .i64 x) (.lit (.int .i64 (wrap64 (numD (D.atKey (.int .i64 x) (.lit (.int .i64 0))) + 1))))
def tallyD {H : Type} (xs : List Note) : DataW H := xs.foldl (fun D x => bumpD D x.1.1) (.map [])
theorem tallyD_snoc {H : Type} (pre : List Note) (x : Note) : tallyD (H := H) (pre ++ [x]) = bumpD (tallyD pre) x.1.1 := by simp [tallyD]

set_option maxRecDepth 100000 in
set_option maxHeartbeats 2000000 in
theorem told_in {H : Type} (n : Nat) (hn : 3 ≤ n) (ad : Option Addr) (len cap : Nat) (now width : Int) (es : List Note) (hlen : es.length ≤ 1000000) (w : World) (hE : Ents w.heap.size w (.slice ad len cap) es) :
    CallsIn Fence.wide n Try.prog 42 #[.slice ad len cap, .int .i64 now, .int .i64 width] w fun e W' => e = .returned (.map (some w.heap.size)) ∧ W'.ownsMap Try.prog 3 (plainElem (H := H) Try.prog 3) w.heap.size (live now width es).length (tallyD (live now width es)) ∧ Below w.heap.size w W' := by
  have h1 : 1 ≤ n := by omega
  have hro : Fence.wide.round = none := rfl
  have hmm := @run_makeMap Try.prog
  have hfa : Fence.wide.fn 41 := trivial
  refine callsIn_of_wp_marks Try.func42 rfl trivial ?_ hro
  simp only [Try.ntmps42, List.size_toArray, List.length_cons, List.length_nil, Nat.reduceAdd, Nat.reduceSub, Array.replicate_succ, Array.replicate_zero, List.push_toArray, List.append_toArray, List.nil_append, List.cons_append]
  gi_wp2_with (gi_at_call 41; refine (alive_in Fence.wide (n - 1) trivial hro _ _ _ _ _ _).mono ?_; rintro e w' ⟨rfl, rfl⟩)
  have hm0 := ((((World.ownsMap_made w Try.prog 3 (plainElem (H := H) Try.prog 3)).alloc (.cells #[.map (some w.heap.size)] 67)).alloc (.cells #[.slice ad len cap] 22)).alloc (.cells #[.int .i64 now] 3)).alloc (.cells #[.int .i64 width] 3)
  have bO := (((Boxed.new (w.alloc (.map #[] 0)) 67 (.map (some w.heap.size))).alloc (.cells #[.slice ad len cap] 22)).alloc (.cells #[.int .i64 now] 3)).alloc (.cells #[.int .i64 width] 3)
  have b0 := ((Boxed.new ((w.alloc (.map #[] 0)).alloc (.cells #[.map (some w.heap.size)] 67)) 22 (.slice ad len cap)).alloc (.cells #[.int .i64 now] 3)).alloc (.cells #[.int .i64 width] 3)
  have b1 := (Boxed.new (((w.alloc (.map #[] 0)).alloc (.cells #[.map (some w.heap.size)] 67)).alloc (.cells #[.slice ad len cap] 22)) 3 (.int .i64 now)).alloc (.cells #[.int .i64 width] 3)
  have b2 := Boxed.new ((((w.alloc (.map #[] 0)).alloc (.cells #[.map (some w.heap.size)] 67)).alloc (.cells #[.slice ad len cap] 22)).alloc (.cells #[.int .i64 now] 3)) 3 (.int .i64 width)
  simp only [World.size_alloc] at bO b0 b1 b2
  have hB0 : Below w.heap.size w (((((w.alloc (.map #[] 0)).alloc (.cells #[.map (some w.heap.size)] 67)).alloc (.cells #[.slice ad len cap] 22)).alloc (.cells #[.int .i64 now] 3)).alloc (.cells #[.int .i64 width] 3)) := (((((Below.refl _ w).alloc (Nat.le_refl _) _).alloc (by simp) _).alloc (by simp; omega) _).alloc (by simp; omega) _).alloc (by simp; omega) _
  have hs0 : (((((w.alloc (.map #[] 0)).alloc (.cells #[.map (some w.heap.size)] 67)).alloc (.cells #[.slice ad len cap] 22)).alloc (.cells #[.int .i64 now] 3)).alloc (.cells #[.int .i64 width] 3)).heap.size = w.heap.size + 5 := by simp
  generalize (((((w.alloc (.map #[] 0)).alloc (.cells #[.map (some w.heap.size)] 67)).alloc (.cells #[.slice ad len cap] 22)).alloc (.cells #[.int .i64 now] 3)).alloc (.cells #[.int .i64 width] 3)) = w0 at hm0 bO b0 b1 b2 hB0 hs0 ⊢
  refine wpIn_rangeFunc_ownH hro h1 (gf := 47) (lb := #[.pointer (some ⟨w.heap.size + 1 + 1, 0, none⟩), .pointer (some ⟨w.heap.size + 1 + 1 + 1, 0, none⟩), .pointer (some ⟨w.heap.size + 1 + 1 + 1 + 1, 0, none⟩)]) rfl trivial (enters_of Try.func47 (by kernel_rfl) rfl)
    (alive_stops (n - 1) (by omega) (w.heap.size + 1 + 1) w.heap.size _ es now width hlen w0 (by omega) (by omega) b0 b1 b2 (hE.below hB0)) KpA.t (KpA.b (by omega) (by omega)) (Below.refl _ _) (fun _ => rfl)
    (fun pre W => (Boxed W (w.heap.size + 1) 67 (.map (some w.heap.size)) ∧ W.ownsMap Try.prog 3 (plainElem (H := H) Try.prog 3) w.heap.size pre.length (tallyD pre)) ∧ Below w.heap.size w W ∧ (Boxed W (w.heap.size + 1 + 1 + 1) 3 (.int .i64 now) ∧ Boxed W (w.heap.size + 1 + 1 + 1 + 1) 3 (.int .i64 width)))
    (fun _ _ _ => False)
    (OwnFrom.and (OwnFrom.and (Own.from (boxed_own _ _ _) _) (fun s A B row hs hg hr => hs.kept hg (fun e => by have := (hr _ e.symm).1; omega))) (OwnFrom.and (ownFrom_below (Nat.le_refl _) (by omega)) (OwnFrom.and (Own.from (boxed_own _ _ _) _) (Own.from (boxed_own _ _ _) _))))
    (fun _ _ _ _ _ hs _ _ => hs)
    ⟨⟨bO, hm0⟩, hB0, b1, b2⟩
    (fun x a' W => ∃ Bx, w.heap.size + 5 ≤ Bx ∧ Boxed2 W Bx x ∧ a' = { tmps := #[.slice ad len cap, .int .i64 now, .int .i64 width, undef, undef, undef, .map none, .pointer (some ⟨w.heap.size + 1, 0, none⟩), .pointer (some ⟨Bx, 0, none⟩), .map (some w.heap.size), .slice ad len cap, .int .i64 now, .int .i64 width, .func (.func 47) #[] #[.pointer (some ⟨w.heap.size + 1 + 1, 0, none⟩), .pointer (some ⟨w.heap.size + 1 + 1 + 1, 0, none⟩), .pointer (some ⟨w.heap.size + 1 + 1 + 1 + 1, 0, none⟩)], agg2 x, undef, undef, undef, undef, undef, undef], defers := [] })
    (fun x a' s X Y row hs hg hr => by
      obtain ⟨Bx, hle, hb, ha⟩ := hs
      exact ⟨Bx, hle, (Own.from (boxed2_own Bx (fun (_ : Unit) => x)) _) () X Y row hb hg hr, ha⟩)
    ?assign ?body ?done ?stop
  case assign =>
    rintro l pre x W K ⟨⟨hv, hown⟩, hB, d1, d2⟩ hK
    simp only [agg2]
    gi_wp2
    exact hK _ _ ((KeepsOthers.alloc _ _).from _) ⟨(Below.refl _ W).alloc hB.size _, fun b => b.alloc _, fun b => b.alloc _⟩ ⟨⟨hv.alloc _, hown.alloc _⟩, hB.alloc hB.size _, d1.alloc _, d2.alloc _⟩ ⟨W.heap.size, by have := d2.lt; omega, Boxed2.new W x, rfl⟩
  case body =>
    rintro l pre x a' W hl hr ⟨⟨hv, hown⟩, hB, d1, d2⟩ ⟨Bx, hBx, bX, rfl⟩ hlt
    have hc := hv.cell
    obtain ⟨x0, x1⟩ := bX.cell
    have hkey := Maps.keyOf_int_mk Try.underlying3 x.2.1
    gi_wp2_with (first
      | (gi_at_lookup; refine wpListIn_lookup_own_int _ rfl _ _ 67 rfl 3 3 .i64 (Maps.int_keyed Try.underlying3) Try.underlying67 Try.underlying3 (Try.zeroValue3 _) w.heap.size pre.length _ rfl hown _ _ rfl hkey ?_; intro c hat hwc)
      | (gi_at_mapUpdate; refine wpListIn_mapUpdate_own _ rfl _ _ _ 67 rfl 3 3 (Maps.int_keyed Try.underlying3) Try.underlying67 _ w.heap.size pre.length _ rfl hown (by simp only [maxLen]; omega) _ _ _ rfl rfl hkey _ [] (plainElem_int Try.underlying3 (wrap64_wf _)) ?_; intro w1 hown1 hgrow1))
    have hBb : Below w.heap.size W w1 := (Below.refl _ W).grown hgrow1 hB.size (fun k e => by cases e; exact Nat.le_refl _)
    have d1' := d1.kept hgrow1 (by simp; omega)
    have d2' := d2.kept hgrow1 (by simp; omega)
    exact ⟨KeepsFrom.of_grownBy hgrow1 (fun j e => by cases e; omega), ⟨hBb, fun _ => d1', fun _ => d2'⟩, ⟨hv.kept hgrow1 (by simp), by rw [tallyD_snoc, List.length_append, bumpD, hat]; exact hown1⟩, hB.trans hBb, d1', d2'⟩
  case done =>
    rintro D ys W hD rfl ⟨⟨hv, hown⟩, hB, d1, d2⟩ hK
    have hc := hv.cell
    gi_wp2
    refine ⟨by simp, .inl ⟨_, _, rfl, run_takeDeferred hK, ?_⟩⟩
    exact ⟨_, results_tmp rfl _ _ _, rfl, hown.kept (grownBy_putObj' _ D _) (fun e => by cases e; omega), hB.trans (belowK_b (w := w) (Nat.le_refl _) W D _ _ (by omega) hK rfl rfl)⟩
  case stop =>
    rintro D c pre W _ _ h _
    exact h.elim
end Go.Proofs.Ytjmeeklaclidbaa
