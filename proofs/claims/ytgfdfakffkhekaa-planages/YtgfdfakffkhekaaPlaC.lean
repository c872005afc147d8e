/- The calls Hears, Tells and King of package plan return the exchange that is heard and told at an age, and whose an exchange is, and make at most new memory; conditions: the table lies where it says. -/
import Derived.Test.YtgfdfakffkhekaaPlaB
namespace Go.Proofs.Ytgfdfakffkhekaa
open Go.ChangeShapes Go.WideShapes Go.ChangeAt Go.RowKit Go.Shelf
set_option linter.unusedVariables false
attribute [local go_sem] Oper.semAt_some

theorem blk_own {β : Type} (B : Nat) (C : Array Value) (t : TypeId) : Own (fun (_ : β) W => W.heap[B]? = some (.cells C t (0, 0))) := fun s X Y row hs hg hrow =>
  (hg.block B (blk_lt hs) (fun e => by obtain ⟨o, ho, hc⟩ := hrow B e.symm; rw [hs] at ho; cases ho; cases hc)).trans hs

set_option maxRecDepth 100000 in
set_option maxHeartbeats 2000000 in
theorem Hears_in (n f d p r dr o sl md fr : Int) (ad : Option Addr) (cap : Nat) (zs : List Int) (age : Int) (R : Nat) (hR15 : R ≤ 15) (hd : R = 0 ∨ 1 ≤ d ∧ d ≤ 4) (m : Nat) (hm : 3 ≤ m) (w : World) (hl : zs.length ≤ 9223372036854775807) (hT : Tab w ad zs) (hR : gate (plainE n f d p r dr o sl md fr zs) (3 * (f + 1)) = (R : Int)) :
    CallsIn Fence.wide m Try.prog 11 #[.agg #[.int .i64 n, .int .i64 f, .int .i64 d, .int .i64 p, .int .i64 r, .int .i64 dr, .int .i64 o, .int .i64 sl, .int .i64 md, .int .i64 fr, .slice ad zs.length cap], .int .i64 age] w fun e W' => e = .returned (.int .i64 (hearF R d age)) ∧ Below w.heap.size w W' := by
  have h1 : 1 ≤ m := by omega
  have hro : Fence.wide.round = none := rfl
  have hB0 : Below w.heap.size w (((w.alloc (.cells #[.int .i64 n, .int .i64 f, .int .i64 d, .int .i64 p, .int .i64 r, .int .i64 dr, .int .i64 o, .int .i64 sl, .int .i64 md, .int .i64 fr, .slice ad zs.length cap] 24)).alloc (.cells #[.int .i64 age] 3)).alloc (.cells #[.int .i64 0] 3)) := bthen (bthen (ballc w _) (ballc _ _)) (ballc _ _)
  have HA := hidden (fun V h => Ages_any n f d p r dr o sl md fr ad cap zs R V hl h hR)
  have HT := hidden (hT.below hB0)
  have b1 : Boxed (((w.alloc (.cells #[.int .i64 n, .int .i64 f, .int .i64 d, .int .i64 p, .int .i64 r, .int .i64 dr, .int .i64 o, .int .i64 sl, .int .i64 md, .int .i64 fr, .slice ad zs.length cap] 24)).alloc (.cells #[.int .i64 age] 3)).alloc (.cells #[.int .i64 0] 3)) (w.heap.size + 1) 3 (.int .i64 age) := blk_later (blk_newAt (w.alloc (.cells #[.int .i64 n, .int .i64 f, .int .i64 d, .int .i64 p, .int .i64 r, .int .i64 dr, .int .i64 o, .int .i64 sl, .int .i64 md, .int .i64 fr, .slice ad zs.length cap] 24)) #[.int .i64 age] 3 (b := w.heap.size + 1) (by simp)) (ballc _ _)
  have b2 : Boxed (((w.alloc (.cells #[.int .i64 n, .int .i64 f, .int .i64 d, .int .i64 p, .int .i64 r, .int .i64 dr, .int .i64 o, .int .i64 sl, .int .i64 md, .int .i64 fr, .slice ad zs.length cap] 24)).alloc (.cells #[.int .i64 age] 3)).alloc (.cells #[.int .i64 0] 3)) (w.heap.size + 1 + 1) 3 (.int .i64 0) := blk_newAt ((w.alloc (.cells #[.int .i64 n, .int .i64 f, .int .i64 d, .int .i64 p, .int .i64 r, .int .i64 dr, .int .i64 o, .int .i64 sl, .int .i64 md, .int .i64 fr, .slice ad zs.length cap] 24)).alloc (.cells #[.int .i64 age] 3)) #[.int .i64 0] 3 (b := w.heap.size + 1 + 1) (by simp)
  have HB0 := hidden hB0
  have H1 := hidden b1
  have H2 := hidden b2
  clear hT hB0 b1 b2
  refine callsIn_of_wp_marks Try.func11 rfl trivial ?_ hro
  simp only [Try.ntmps11, List.size_toArray, List.length_cons, List.length_nil, Nat.reduceAdd, Nat.reduceSub, Array.replicate_succ, Array.replicate_zero, List.push_toArray, List.append_toArray, List.nil_append, List.cons_append]
  have hfa : Fence.wide.fn 17 := trivial
  gi_wp2_with (gi_at_call 17; refine (callsIn_wide.2 (HA.out _ HT.out)).mono ?_; rintro e w0 ⟨gr, gc, rfl, c1, c2, hb⟩)
  have B1 : Boxed w0 (w.heap.size + 1) 3 (.int .i64 age) := (hb.block _ H1.out.lt).trans H1.out
  have hk0 := blk_later (blk_later (blk_later (blk_nw w #[.int .i64 n, .int .i64 f, .int .i64 d, .int .i64 p, .int .i64 r, .int .i64 dr, .int .i64 o, .int .i64 sl, .int .i64 md, .int .i64 fr, .slice ad zs.length cap] 24) (ballc _ (.cells #[.int .i64 age] 3))) (ballc _ (.cells #[.int .i64 0] 3))) hb
  have B2 : Boxed w0 (w.heap.size + 1 + 1) 3 (.int .i64 0) := (hb.block _ H2.out.lt).trans H2.out
  have hB := bthen HB0.out hb
  have hs2 := B2.lt
  refine wpIn_rangeFunc_ownH hro h1 (gf := 34) (lb := #[.pointer (some ⟨gr, 0, none⟩), .pointer (some ⟨gc, 0, none⟩)]) rfl trivial (enters_of Try.func34 (by kernel_rfl) rfl)
    (ages_stops n f d p r dr o sl md fr ad cap zs R hR15 hd (m - 1) (by omega) gr gc w0.heap.size w0 (Nat.le_refl _) c1 c2 (Array.getElem?_eq_some_iff.1 c2).1) belowK_t (belowK_b (Nat.le_refl _)) (Below.refl _ _) (fun _ => rfl)
    (fun pre W => (∀ z ∈ pre, hearB d age z.1 = false) ∧ (Boxed W (w.heap.size + 1) 3 (.int .i64 age) ∧ Boxed W (w.heap.size + 1 + 1) 3 (.int .i64 0) ∧ W.heap[w.heap.size]? = some (.cells #[.int .i64 n, .int .i64 f, .int .i64 d, .int .i64 p, .int .i64 r, .int .i64 dr, .int .i64 o, .int .i64 sl, .int .i64 md, .int .i64 fr, .slice ad zs.length cap] 24 (0, 0))) ∧ Below w.heap.size w W)
    (fun c pre W => c = .ret ∧ ∃ (pre0 : List (Exn R)) (y : Exn R), (pre = pre0 ++ [y] ∧ (∀ z ∈ pre0, hearB d age z.1 = false) ∧ hearB d age y.1 = true) ∧ Boxed W (w.heap.size + 1 + 1) 3 (.int .i64 (y.1 : Int)) ∧ Below w.heap.size w W)
    (OwnFrom.and (ownFrom_pure _ _) (OwnFrom.and (OwnFrom.and (Own.from (boxed_own _ _ _) _) (OwnFrom.and (Own.from (boxed_own _ _ _) _) (Own.from (blk_own _ _ _) _))) (ownFrom_below (Nat.le_refl _) hB.size)))
    (fun c s X Y row hs hg hr => by
      obtain ⟨hc, pre0, y, hp, hbx, hbl⟩ := hs
      exact ⟨hc, pre0, y, hp, (Own.from (boxed_own _ _ (fun (_ : Unit) => Value.int .i64 (y.1 : Int))) _) () X Y row hbx hg hr, (ownFrom_below (Nat.le_refl _) hB.size) () X Y row hbl hg hr⟩)
    ⟨by simp, ⟨B1, B2, hk0⟩, hB⟩
    (fun x a' W => a' = { tmps := #[.agg #[.int .i64 n, .int .i64 f, .int .i64 d, .int .i64 p, .int .i64 r, .int .i64 dr, .int .i64 o, .int .i64 sl, .int .i64 md, .int .i64 fr, .slice ad zs.length cap], .int .i64 age, .pointer (some ⟨w.heap.size, 0, none⟩), .pointer (some ⟨w.heap.size + 1, 0, none⟩), .pointer (some ⟨w.heap.size + 1 + 1, 0, none⟩), .int .i64 (x.1 : Int), .int .i64 ((x.1 : Int) * d), .agg #[.int .i64 n, .int .i64 f, .int .i64 d, .int .i64 p, .int .i64 r, .int .i64 dr, .int .i64 o, .int .i64 sl, .int .i64 md, .int .i64 fr, .slice ad zs.length cap], .func (.func 34) #[] #[.pointer (some ⟨gr, 0, none⟩), .pointer (some ⟨gc, 0, none⟩)], .int .i64 (x.1 : Int), .int .i64 ((x.1 : Int) * d), undef, undef, undef, undef, undef, undef, undef], defers := [] })
    (fun x a' => ownFrom_pure _ _)
    ?assign ?body ?done ?stop
  case assign =>
    rintro l pre x W K hI hK
    gi_wp2
    exact hK _ _ (KeepsFrom.refl _ _) (Below.refl _ _) hI rfl
  case body =>
    rintro l pre x a' W hl hr ⟨hp, ⟨d1, d2, hk1⟩, hBw⟩ rfl hlt
    have e1 := d1.cell
    have e2 := d2.cell
    have e3 := d2.frozen
    have HK1 := hidden hk1
    have c0 := fun i => blk_cell hk1 i
    have l0 := blk_lt hk1
    obtain ⟨q1, q2⟩ := xd_bd hR15 hd x.2
    have q3 : 1 ≤ d ∧ d ≤ 4 := by have := x.2; omega
    clear hk1
    by_cases ht : (x.1 : Int) * d + d = age
    · have j : (((x.1 : Int) * d + d) == age) = true := by simp [ht]
      gi_wp2
      exact ⟨(KeepsOthers.setCell _ _ _).from _, rfl, pre, x, ⟨rfl, hp, decide_eq_true ht⟩, d2.set _, hBw.setCell (p := ⟨w.heap.size + 1 + 1, 0, none⟩) (by simp; omega) _⟩
    · have j : (((x.1 : Int) * d + d) == age) = false := by simp [ht]
      gi_wp2
      exact ⟨KeepsFrom.refl _ _, Below.refl _ _, all_snoc hp (decide_eq_false ht), ⟨d1, d2, HK1.out⟩, hBw⟩
  case done =>
    rintro D ys W hD rfl ⟨hp, ⟨d1, d2, hk1⟩, hBw⟩ hK
    have e2 := d2.cell
    have e3 := d2.frozen
    have hres := done_first hp
    gi_wp2
    have hK' := (KeepsOthers.setCell W ⟨w.heap.size + 1 + 1, 0, none⟩ (.int .i64 (-1))).same D _ hK rfl
    refine ⟨by simp, .inl ⟨_, _, rfl, run_takeDeferred hK', ?_⟩⟩
    have d3 := (d2.set (.int .i64 (-1))).kept (grownBy_putObj' _ D (.deferred none)) (by simp; omega)
    have c5 := d3.cell
    refine ⟨.int .i64 (-1), ?_, by rw [show hearF R d age = -1 from hres], ?_⟩
    · simp [results, Try.results11, go_sem, c5]
    · exact (hBw.setCell (p := ⟨w.heap.size + 1 + 1, 0, none⟩) (by simp; omega) _).trans (belowK_b (w := w) (Nat.le_refl _) _ D _ _ (by omega) hK' rfl rfl)
  case stop =>
    rintro D c pre W hD hS ⟨rfl, pre0, y, ⟨hp, hn, hy⟩, d2, hBw⟩ hK
    have hres := stop_first hS hp hn hy
    gi_wp2
    refine ⟨by simp, .inl ⟨_, _, rfl, run_takeDeferred hK, ?_⟩⟩
    have d3 := d2.kept (grownBy_putObj' _ D (.deferred none)) (by simp; omega)
    have c5 := d3.cell
    refine ⟨.int .i64 (y.1 : Int), ?_, by rw [show hearF R d age = _ from hres], ?_⟩
    · simp [results, Try.results11, go_sem, c5]
    · exact hBw.trans (belowK_b (w := w) (Nat.le_refl _) _ D _ _ (by omega) hK rfl rfl)

theorem Tells_any (n f d p r dr o sl md fr : Int) (ad : Option Addr) (cap : Nat) (zs : List Int) (age : Int) (R : Nat) (hR15 : R ≤ 15) (hd : R = 0 ∨ 1 ≤ d ∧ d ≤ 4) (w : World) (hl : zs.length ≤ 9223372036854775807) (hT : Tab w ad zs) (hR : gate (plainE n f d p r dr o sl md fr zs) (3 * (f + 1)) = (R : Int)) :
    Calls Try.prog 9 #[.agg #[.int .i64 n, .int .i64 f, .int .i64 d, .int .i64 p, .int .i64 r, .int .i64 dr, .int .i64 o, .int .i64 sl, .int .i64 md, .int .i64 fr, .slice ad zs.length cap], .int .i64 age] w fun e W' => e = .returned (.int .i64 (tellF R d age)) ∧ Below w.heap.size w W' := (callsIn_wide (n := 3)).1 (Tells_in n f d p r dr o sl md fr ad cap zs age R hR15 hd 3 (Nat.le_refl _) w hl hT hR)
theorem Hears_any (n f d p r dr o sl md fr : Int) (ad : Option Addr) (cap : Nat) (zs : List Int) (age : Int) (R : Nat) (hR15 : R ≤ 15) (hd : R = 0 ∨ 1 ≤ d ∧ d ≤ 4) (w : World) (hl : zs.length ≤ 9223372036854775807) (hT : Tab w ad zs) (hR : gate (plainE n f d p r dr o sl md fr zs) (3 * (f + 1)) = (R : Int)) :
    Calls Try.prog 11 #[.agg #[.int .i64 n, .int .i64 f, .int .i64 d, .int .i64 p, .int .i64 r, .int .i64 dr, .int .i64 o, .int .i64 sl, .int .i64 md, .int .i64 fr, .slice ad zs.length cap], .int .i64 age] w fun e W' => e = .returned (.int .i64 (hearF R d age)) ∧ Below w.heap.size w W' := (callsIn_wide (n := 3)).1 (Hears_in n f d p r dr o sl md fr ad cap zs age R hR15 hd 3 (Nat.le_refl _) w hl hT hR)

theorem PKing_any (n f d p r dr o sl md fr : Int) (ad : Option Addr) (cap : Nat) (zs : List Int) (x : Int) (R : Nat) (hx : -9223372036854775808 ≤ x ∧ x ≤ 9223372036854775807) (w : World) (hl : zs.length ≤ 9223372036854775807) (hT : Tab w ad zs) (hR : gate (plainE n f d p r dr o sl md fr zs) (3 * (f + 1)) = (R : Int)) :
    Calls Try.prog 13 #[.agg #[.int .i64 n, .int .i64 f, .int .i64 d, .int .i64 p, .int .i64 r, .int .i64 dr, .int .i64 o, .int .i64 sl, .int .i64 md, .int .i64 fr, .slice ad zs.length cap], .int .i64 x] w fun e W' => e = .returned (.int .i64 (kingF R x)) ∧ Below w.heap.size w W' := by
  have HC := hidden (fun V h => Rounds_any n f d p r dr o sl md fr ad cap zs V hl h)
  rw [hR] at HC
  have HT := hidden (hT.below (ballc w (.cells #[.int .i64 n, .int .i64 f, .int .i64 d, .int .i64 p, .int .i64 r, .int .i64 dr, .int .i64 o, .int .i64 sl, .int .i64 md, .int .i64 fr, .slice ad zs.length cap] 24)))
  clear hT hR
  by_cases h0 : x < 0
  · have e1 : decide (x < 0) = true := decide_eq_true h0
    have hr := hidden (kingF_lo (R := R) h0)
    clear h0
    go_enter Try.func13, Try.ntmps13
    go_wp2
    go_ret
    exact ⟨ret_i hr.out.symm, ballc _ _⟩
  · have e1 : decide (x < 0) = false := decide_eq_false h0
    by_cases h1 : (R : Int) ≤ x
    · have e2 : decide ((R : Int) ≤ x) = true := decide_eq_true h1
      have hr := hidden (kingF_hi h1)
      clear h1
      go_enter Try.func13, Try.ntmps13
      go_wp2_with fail
      refine (HC.out _ HT.out).mono ?_
      rintro e w2 ⟨rfl, hb⟩
      have HB := hidden (bthen (ballc w _) hb)
      clear hb
      go_wp2
      go_ret
      exact ⟨ret_i hr.out.symm, HB.out⟩
    · have e2 : decide ((R : Int) ≤ x) = false := decide_eq_false h1
      have hr := hidden (kingF_in (R := R) (x := x) (by omega) (by omega))
      have e3 : x.tdiv 3 = x / 3 := by rw [Int.tdiv_eq_ediv_of_nonneg (by omega)]
      clear h1
      go_enter Try.func13, Try.ntmps13
      go_wp2_with fail
      refine (HC.out _ HT.out).mono ?_
      rintro e w2 ⟨rfl, hb⟩
      have HB := hidden (bthen (ballc w _) hb)
      clear hb
      go_wp2
      go_ret
      exact ⟨ret_i hr.out.symm, HB.out⟩
end Go.Proofs.Ytgfdfakffkhekaa
