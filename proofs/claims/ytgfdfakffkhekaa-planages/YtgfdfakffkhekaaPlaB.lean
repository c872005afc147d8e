/- The calls Tells and Hears of package plan return the exchange that is told, and heard, at an age, and make at most new memory; conditions: the table lies where it says. -/
import Derived.Test.YtgfdfakffkhekaaPlaA
namespace Go.Proofs.Ytgfdfakffkhekaa
open Go.ChangeShapes Go.WideShapes Go.ChangeAt Go.RowKit Go.Shelf
set_option linter.unusedVariables false
attribute [local go_sem] Oper.semAt_some

theorem mem_upto {R i : Nat} : ∀ {k : Nat}, k ≤ R → (h : i < k) → (hR : i < R) → (⟨i, hR⟩ : Exn R) ∈ upto R k
  | k + 1, hk, h, hR => by
    rw [upto_succ (by omega)]
    by_cases e : i = k
    · subst e; simp
    · exact List.mem_append.2 (.inl (mem_upto (by omega) (by omega) hR))
/-- Where a round has stopped. -/
theorem stop_first {R : Nat} {p : Nat → Bool} {pre pre0 : List (Exn R)} {y : Exn R} (hs : ∃ k, k ≤ R ∧ pre = upto R k) (hp : pre = pre0 ++ [y]) (hn : ∀ z ∈ pre0, p z.1 = false) (hy : p y.1 = true) : firstF R p = (y.1 : Int) := by
  obtain ⟨k, hk, rfl⟩ := hs
  cases k with
  | zero => rw [upto_zero] at hp; simp at hp
  | succ j =>
    rw [upto_succ (by omega)] at hp
    obtain ⟨h1, h2⟩ := List.append_inj' hp rfl
    subst h1
    simp at h2
    have hj : y.1 = j := by rw [← h2]
    rw [hj] at hy ⊢
    exact first_hit (by omega) hy fun i hi => hn ⟨i, by omega⟩ (mem_upto (by omega) hi (by omega))
theorem done_first {R : Nat} {p : Nat → Bool} (hn : ∀ z ∈ upto R R, p z.1 = false) : firstF R p = -1 := first_none fun j hj => hn ⟨j, hj⟩ (mem_upto (Nat.le_refl _) hj hj)
theorem all_snoc {R : Nat} {p : Nat → Bool} {pre : List (Exn R)} {x : Exn R} (h : ∀ z ∈ pre, p z.1 = false) (hx : p x.1 = false) : ∀ z ∈ pre ++ [x], p z.1 = false := fun z hz => by
  rcases List.mem_append.1 hz with h1 | h1
  · exact h z h1
  · simp at h1; subst h1; exact hx

set_option maxRecDepth 100000 in
set_option maxHeartbeats 2000000 in
theorem Tells_in (n f d p r dr o sl md fr : Int) (ad : Option Addr) (cap : Nat) (zs : List Int) (age : Int) (R : Nat) (hR15 : R ≤ 15) (hd : R = 0 ∨ 1 ≤ d ∧ d ≤ 4) (m : Nat) (hm : 3 ≤ m) (w : World) (hl : zs.length ≤ 9223372036854775807) (hT : Tab w ad zs) (hR : gate (plainE n f d p r dr o sl md fr zs) (3 * (f + 1)) = (R : Int)) :
    CallsIn Fence.wide m Try.prog 9 #[.agg #[.int .i64 n, .int .i64 f, .int .i64 d, .int .i64 p, .int .i64 r, .int .i64 dr, .int .i64 o, .int .i64 sl, .int .i64 md, .int .i64 fr, .slice ad zs.length cap], .int .i64 age] w fun e W' => e = .returned (.int .i64 (tellF R d age)) ∧ Below w.heap.size w W' := by
  have h1 : 1 ≤ m := by omega
  have hro : Fence.wide.round = none := rfl
  have hB0 : Below w.heap.size w (((w.alloc (.cells #[.int .i64 n, .int .i64 f, .int .i64 d, .int .i64 p, .int .i64 r, .int .i64 dr, .int .i64 o, .int .i64 sl, .int .i64 md, .int .i64 fr, .slice ad zs.length cap] 24)).alloc (.cells #[.int .i64 age] 3)).alloc (.cells #[.int .i64 0] 3)) := bthen (bthen (ballc w _) (ballc _ _)) (ballc _ _)
  have HA := hidden (fun V h => Ages_any n f d p r dr o sl md fr ad cap zs R V hl h hR)
  have HT := hidden (hT.below hB0)
  have b1 : Boxed (((w.alloc (.cells #[.int .i64 n, .int .i64 f, .int .i64 d, .int .i64 p, .int .i64 r, .int .i64 dr, .int .i64 o, .int .i64 sl, .int .i64 md, .int .i64 fr, .slice ad zs.length cap] 24)).alloc (.cells #[.int .i64 age] 3)).alloc (.cells #[.int .i64 0] 3)) (w.heap.size + 1) 3 (.int .i64 age) := blk_later (blk_newAt (w.alloc (.cells #[.int .i64 n, .int .i64 f, .int .i64 d, .int .i64 p, .int .i64 r, .int .i64 dr, .int .i64 o, .int .i64 sl, .int .i64 md, .int .i64 fr, .slice ad zs.length cap] 24)) #[.int .i64 age] 3 (b := w.heap.size + 1) (by simp)) (ballc _ _)
  have b2 : Boxed (((w.alloc (.cells #[.int .i64 n, .int .i64 f, .int .i64 d, .int .i64 p, .int .i64 r, .int .i64 dr, .int .i64 o, .int .i64 sl, .int .i64 md, .int .i64 fr, .slice ad zs.length cap] 24)).alloc (.cells #[.int .i64 age] 3)).alloc (.cells #[.int .i64 0] 3)) (w.heap.size + 1 + 1) 3 (.int .i64 0) := blk_newAt ((w.alloc (.cells #[.int .i64 n, .int .i64 f, .int .i64 d, .int .i64 p, .int .i64 r, .int .i64 dr, .int .i64 o, .int .i64 sl, .int .i64 md, .int .i64 fr, .slice ad zs.length cap] 24)).alloc (.cells #[.int .i64 age] 3)) #[.int .i64 0] 3 (b := w.heap.size + 1 + 1) (by simp)
  have HB0 := hidden hB0
  have H1 := hidden b1
  have H2 := hidden b2
  clear hT hB0 b1 b2
  refine callsIn_of_wp_marks Try.func9 rfl trivial ?_ hro
  simp only [Try.ntmps9, List.size_toArray, List.length_cons, List.length_nil, Nat.reduceAdd, Nat.reduceSub, Array.replicate_succ, Array.replicate_zero, List.push_toArray, List.append_toArray, List.nil_append, List.cons_append]
  have hfa : Fence.wide.fn 17 := trivial
  gi_wp2_with (gi_at_call 17; refine (callsIn_wide.2 (HA.out _ HT.out)).mono ?_; rintro e w0 ⟨gr, gc, rfl, c1, c2, hb⟩)
  have B1 : Boxed w0 (w.heap.size + 1) 3 (.int .i64 age) := (hb.block _ H1.out.lt).trans H1.out
  have B2 : Boxed w0 (w.heap.size + 1 + 1) 3 (.int .i64 0) := (hb.block _ H2.out.lt).trans H2.out
  have hB := bthen HB0.out hb
  have hs2 := B2.lt
  refine wpIn_rangeFunc_ownH hro h1 (gf := 34) (lb := #[.pointer (some ⟨gr, 0, none⟩), .pointer (some ⟨gc, 0, none⟩)]) rfl trivial (enters_of Try.func34 (by kernel_rfl) rfl)
    (ages_stops n f d p r dr o sl md fr ad cap zs R hR15 hd (m - 1) (by omega) gr gc w0.heap.size w0 (Nat.le_refl _) c1 c2 (Array.getElem?_eq_some_iff.1 c2).1) belowK_t (belowK_b (Nat.le_refl _)) (Below.refl _ _) (fun _ => rfl)
    (fun pre W => (∀ z ∈ pre, tellB d age z.1 = false) ∧ (Boxed W (w.heap.size + 1) 3 (.int .i64 age) ∧ Boxed W (w.heap.size + 1 + 1) 3 (.int .i64 0)) ∧ Below w.heap.size w W)
    (fun c pre W => c = .ret ∧ ∃ (pre0 : List (Exn R)) (y : Exn R), (pre = pre0 ++ [y] ∧ (∀ z ∈ pre0, tellB d age z.1 = false) ∧ tellB d age y.1 = true) ∧ Boxed W (w.heap.size + 1 + 1) 3 (.int .i64 (y.1 : Int)) ∧ Below w.heap.size w W)
    (OwnFrom.and (ownFrom_pure _ _) (OwnFrom.and (OwnFrom.and (Own.from (boxed_own _ _ _) _) (Own.from (boxed_own _ _ _) _)) (ownFrom_below (Nat.le_refl _) hB.size)))
    (fun c s X Y row hs hg hr => by
      obtain ⟨hc, pre0, y, hp, hbx, hbl⟩ := hs
      exact ⟨hc, pre0, y, hp, (Own.from (boxed_own _ _ (fun (_ : Unit) => Value.int .i64 (y.1 : Int))) _) () X Y row hbx hg hr, (ownFrom_below (Nat.le_refl _) hB.size) () X Y row hbl hg hr⟩)
    ⟨by simp, ⟨B1, B2⟩, hB⟩
    (fun x a' W => a' = { tmps := #[.agg #[.int .i64 n, .int .i64 f, .int .i64 d, .int .i64 p, .int .i64 r, .int .i64 dr, .int .i64 o, .int .i64 sl, .int .i64 md, .int .i64 fr, .slice ad zs.length cap], .int .i64 age, .pointer (some ⟨w.heap.size, 0, none⟩), .pointer (some ⟨w.heap.size + 1, 0, none⟩), .pointer (some ⟨w.heap.size + 1 + 1, 0, none⟩), .int .i64 (x.1 : Int), .int .i64 ((x.1 : Int) * d), .agg #[.int .i64 n, .int .i64 f, .int .i64 d, .int .i64 p, .int .i64 r, .int .i64 dr, .int .i64 o, .int .i64 sl, .int .i64 md, .int .i64 fr, .slice ad zs.length cap], .func (.func 34) #[] #[.pointer (some ⟨gr, 0, none⟩), .pointer (some ⟨gc, 0, none⟩)], .int .i64 (x.1 : Int), .int .i64 ((x.1 : Int) * d), undef, undef, undef, undef], defers := [] })
    (fun x a' => ownFrom_pure _ _)
    ?assign ?body ?done ?stop
  case assign =>
    rintro l pre x W K hI hK
    gi_wp2
    exact hK _ _ (KeepsFrom.refl _ _) (Below.refl _ _) hI rfl
  case body =>
    rintro l pre x a' W hl hr ⟨hp, ⟨d1, d2⟩, hBw⟩ rfl hlt
    have e1 := d1.cell
    have e2 := d2.cell
    have e3 := d2.frozen
    by_cases ht : (x.1 : Int) * d = age
    · have j : (((x.1 : Int) * d) == age) = true := by simp [ht]
      gi_wp2
      exact ⟨(KeepsOthers.setCell _ _ _).from _, rfl, pre, x, ⟨rfl, hp, decide_eq_true ht⟩, d2.set _, hBw.setCell (p := ⟨w.heap.size + 1 + 1, 0, none⟩) (by simp; omega) _⟩
    · have j : (((x.1 : Int) * d) == age) = false := by simp [ht]
      gi_wp2
      exact ⟨KeepsFrom.refl _ _, Below.refl _ _, all_snoc hp (decide_eq_false ht), ⟨d1, d2⟩, hBw⟩
  case done =>
    rintro D ys W hD rfl ⟨hp, ⟨d1, d2⟩, hBw⟩ hK
    have e2 := d2.cell
    have e3 := d2.frozen
    have hres := done_first hp
    gi_wp2
    have hK' := (KeepsOthers.setCell W ⟨w.heap.size + 1 + 1, 0, none⟩ (.int .i64 (-1))).same D _ hK rfl
    refine ⟨by simp, .inl ⟨_, _, rfl, run_takeDeferred hK', ?_⟩⟩
    have d3 := (d2.set (.int .i64 (-1))).kept (grownBy_putObj' _ D (.deferred none)) (by simp; omega)
    have c5 := d3.cell
    refine ⟨.int .i64 (-1), ?_, by rw [show tellF R d age = -1 from hres], ?_⟩
    · simp [results, Try.results9, go_sem, c5]
    · exact (hBw.setCell (p := ⟨w.heap.size + 1 + 1, 0, none⟩) (by simp; omega) _).trans (belowK_b (w := w) (Nat.le_refl _) _ D _ _ (by omega) hK' rfl rfl)
  case stop =>
    rintro D c pre W hD hS ⟨rfl, pre0, y, ⟨hp, hn, hy⟩, d2, hBw⟩ hK
    have hres := stop_first hS hp hn hy
    gi_wp2
    refine ⟨by simp, .inl ⟨_, _, rfl, run_takeDeferred hK, ?_⟩⟩
    have d3 := d2.kept (grownBy_putObj' _ D (.deferred none)) (by simp; omega)
    have c5 := d3.cell
    refine ⟨.int .i64 (y.1 : Int), ?_, by rw [show tellF R d age = _ from hres], ?_⟩
    · simp [results, Try.results9, go_sem, c5]
    · exact hBw.trans (belowK_b (w := w) (Nat.le_refl _) _ D _ _ (by omega) hK rfl rfl)
end Go.Proofs.Ytgfdfakffkhekaa
