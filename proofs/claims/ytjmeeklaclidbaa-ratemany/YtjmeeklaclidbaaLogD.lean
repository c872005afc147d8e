/- The call Add of package log hands back the notes with one more, at most the last 64, in memory of its own, and tells whether that left any out; for rows of notes that lie in memory. -/
import Derived.Test.YtjmeeklaclidbaaLogC
import Derived.Deep.RegionHeld3
import Derived.Deep.DrawnRows
namespace Go.Proofs.Ytjmeeklaclidbaa
open Go.ChangeShapes Go.WideShapes Go.ChangeAt Go.RowKit Go.Shelf
set_option linter.unusedVariables false
attribute [local go_sem ↓] Go.wp_at_zero Go.wp_at_succ

theorem own_base {W : World} {base : Nat} {e : TypeId} {size : Nat} {v : Value} {n : Nat} {xs : List Value} (h : W.ownsRow base e size v n xs) : ∀ k, v.ownBlock = some k → base ≤ k := by
  intro k hk
  rcases h.2 with ⟨rfl, _⟩ | ⟨g, cap, cur, rfl, hb, _⟩
  · simp [Value.ownBlock] at hk
  · simp [Value.ownBlock] at hk; omega
theorem below_draws {A B : World} {n : Nat} (h : Below n A B) (d : Nat) : Below n A { B with drawn := d } := ⟨h.os, h.tape, h.output, h.size, h.block⟩

/-- The first of Add's two appends: all of the row, onto what was made. -/
theorem step_add1 {ops : Array Oper} {o : Oper} {a : Act} {K : Act → World → Prop} {Q : Exit → Act → World → Prop} {E : Prop} (w w1 W : World) (base g c : Nat) (sv : Value) (es : List Note) (e : Note) (i : TypeInfo)
    (hi : Try.prog.info? 54 = some i) (hz : i.zero = some (.agg #[.int .i64 0, .int .i64 0])) (hsize : i.size = 2) (hby : i.bytes = 16)
    (hown : w1.ownsRow (base + 1) 54 2 (.slice (some ⟨g, 0, none⟩) 0 c) 0 []) (hE : Ents base w1 sv es) (hl : es.length ≤ 1000000) (hB : Below base w w1) (hx : Boxed2 w1 base e) (hg : base < g) (hg1 : g < w1.heap.size) (hwb : base ≤ w.heap.size)
    (hb : Below w1.heap.size w1 W)
    (hgd : o.guard = none) (s x : Operand) (ho : o.op = .call { callee := .builtin .append, args := #[s, x], argTypes := #[22, 22] }) (hs : a.eval s = .slice (some ⟨g, 0, none⟩) 0 c) (hxv : a.eval x = sv)
    (hK : ∀ v' w', w'.ownsRow (base + 1) 54 2 v' es.length (cells2 es) → Below base w w' → Boxed2 w' base e → w'.cell? ⟨base, 0, none⟩ = some (.int .i64 e.1.1) → w'.cell? ⟨base, 1, none⟩ = some (.int .i64 e.1.2) → (∀ T, T < W.heap.size → T ≠ g → w'.heap[T]? = W.heap[T]?) → K (a.put o.dst v') w') :
    if Region.wanted o (yielded ops a.tmps) = true then Oper.wp Try.prog o a W K Q else E := by
  have hs1 := hB.size
  have hs2 := hb.size
  refine step_append_ents W hgd s x _ ho (base + 1) _ i _ 16 Try.underlying22 hi hz hsize hby rfl _ 0 [] hs (ownsRow_below hown hb) (n₀ := base) sv es hxv (hE.below (hb.mono (by omega))) (by simp only [maxLen]; omega) (by omega) (by omega) ?_
  intro v' w' r1 r2 r3
  have hB' : Below base W w' := (Below.refl base W).grown r2 (by omega) (fun k h => by simp [Value.ownBlock] at h; omega)
  have hx' : Boxed2 w' base e := (Boxed2.kept ((hb.block base (Array.getElem?_eq_some_iff.1 hx).1).trans hx) r2 (by simp [Value.ownBlock]; omega))
  obtain ⟨c0, c1⟩ := hx'.cell
  refine hK v' w' (by simpa using r1) ((hB.trans (hb.mono (by omega))).trans hB') hx' c0 c1 (fun T hT hne => r2.block T hT (by simp [Value.ownBlock]; exact hne))
/-- The second one: the new note behind it. -/
theorem step_add2 {ops : Array Oper} {o : Oper} {a : Act} {K : Act → World → Prop} {Q : Exit → Act → World → Prop} {E : Prop} (w w2 W : World) (base T n : Nat) (v : Value) (xs : List Value) (e : Note) (i : TypeInfo)
    (hi : Try.prog.info? 54 = some i) (hz : i.zero = some (.agg #[.int .i64 0, .int .i64 0])) (hsize : i.size = 2) (hby : i.bytes = 16)
    (hown : w2.ownsRow (base + 1) 54 2 v n xs) (hl : n ≤ 1000000) (hB : Below base w w2) (hwb : base ≤ w.heap.size) (hx : Boxed2 w2 base e)
    (hb : Below w2.heap.size w2 W) (hT : W.heap[T]? = some (.cells #[.int .i64 e.1.1, .int .i64 e.1.2] 54 (0, 0)))
    (hgd : o.guard = none) (s x : Operand) (ho : o.op = .call { callee := .builtin .append, args := #[s, x], argTypes := #[22, 22] }) (hs : a.eval s = v) (hxv : a.eval x = .slice (some ⟨T, 0, none⟩) 1 1)
    (hK : ∀ v' w', w'.ownsRow (base + 1) 54 2 v' (n + 1) (xs ++ cells2 [e]) → Below base w w' → w'.cell? ⟨base, 0, none⟩ = some (.int .i64 e.1.1) → w'.cell? ⟨base, 1, none⟩ = some (.int .i64 e.1.2) → K (a.put o.dst v') w') :
    if Region.wanted o (yielded ops a.tmps) = true then Oper.wp Try.prog o a W K Q else E := by
  have hs1 := hB.size
  have hs2 := hb.size
  have hs3 : base < w2.heap.size := (Array.getElem?_eq_some_iff.1 hx).1
  have hE := Ents.of_block (es := [e]) hT (by simp only [maxLen, List.length_singleton]; omega)
  refine step_append_ents W hgd s x _ ho (base + 1) _ i _ 16 Try.underlying22 hi hz hsize hby rfl v n xs hs (ownsRow_below hown hb) _ [e] hxv hE (by simp only [maxLen, List.length_singleton]; omega) (by simp only [List.length_singleton]; omega) (by omega) ?_
  intro v' w' r1 r2 r3
  have hB' : Below base W w' := (Below.refl base W).grown r2 (by omega) (fun k h => by have := own_base hown k h; omega)
  have hx' : Boxed2 w' base e := (Boxed2.kept ((hb.block base (Array.getElem?_eq_some_iff.1 hx).1).trans hx) r2 (fun h => by have := own_base hown base h.symm; omega))
  obtain ⟨c0, c1⟩ := hx'.cell
  exact hK v' w' r1 ((hB.trans (hb.mono (by omega))).trans hB') c0 c1

set_option maxHeartbeats 1000000 in
theorem Add_few (ad : Option Addr) (len cap : Nat) (es : List Note) (e : Note) (hl : es.length < 64) (w : World) (hE : Ents w.heap.size w (.slice ad len cap) es) :
    Calls Try.prog 30 #[.slice ad len cap, agg2 e] w fun r w' => ∃ v, r = .returned (.tuple #[v, .bool false]) ∧ w'.ownsRow w.heap.size 54 2 v (es ++ [e]).length (cells2 (es ++ [e])) ∧ Below w.heap.size w w' := by
  obtain ⟨_, _, hv, _, _, _, hc⟩ := id hE
  obtain ⟨rfl, rfl, rfl⟩ : ad = _ ∧ len = _ ∧ cap = _ := by simpa using hv
  clear hv hc
  obtain ⟨i0, hi, hz0, hz1, hz2⟩ := info_parts infoEnt
  have hq : decide (64 ≤ (es.length : Int)) = false := by simp; omega
  simp only [agg2]
  go_enter Try.func30, Try.ntmps30
  go_wp2_with (at_make; refine wpList_make_own _ rfl _ _ 22 rfl (w.heap.size + 1) 54 i0 (.agg #[.int .i64 0, .int .i64 0]) 2 Try.underlying22 hi hz0 hz1 .i64 .i64 _ (es.length + 1) rfl rfl (by simp) (by rw [hz2]; omega) (by simp only [maxLen]; omega) (by simp) ?_; intro w1 hown hgrow)
  have hB0 : Below w.heap.size w (w.alloc (.cells #[.int .i64 e.1.1, .int .i64 e.1.2] 54)) := (Below.refl _ w).alloc (Nat.le_refl _) _
  have hB1 : Below w.heap.size w w1 := hB0.grown hgrow hB0.size (fun k h => by cases h)
  have hx : Boxed2 w1 w.heap.size e := (Boxed2.new w e).kept hgrow (by simp)
  have hE1 := hE.below hB1
  obtain ⟨x0, x1⟩ := hx.cell
  simp only [World.size_alloc] at hown
  have hlt1 : w.heap.size + 1 < w1.heap.size := by
    rcases hown.2 with ⟨h, _⟩ | ⟨g, c, cur, h, _, h2, _⟩
    · cases h
    · cases h; exact (Array.getElem?_eq_some_iff.1 h2).1
  clear hgrow hB0
  go_region_held3 (fun w' => w'.cell? ⟨w.heap.size, 0, none⟩ = some (.int .i64 e.1.1) ∧ w'.cell? ⟨w.heap.size, 1, none⟩ = some (.int .i64 e.1.2)) (go_keep)
    (first
      | (refine step_add1 w w1 _ w.heap.size (w.heap.size + 1) _ _ es e i0 hi hz0 hz1 hz2 hown hE1 (by omega) hB1 hx (by omega) hlt1 (Nat.le_refl _) (by repeat (first | exact Below.refl _ _ | refine Below.drew ?_ | refine Below.alloc ?_ (by simp) _)) (by rfl) _ _ (by rfl) (by rfl) (by rfl) ?_; intro v1 w2 hown2 hB2 hx2 y0 y1 hk2)
      | (refine step_add2 w w2 _ w.heap.size _ es.length _ _ e i0 hi hz0 hz1 hz2 hown2 (by omega) hB2 (Nat.le_refl _) hx2 (by repeat (first | exact Below.refl _ _ | refine Below.drew ?_ | refine Below.alloc ?_ (by simp) _)) (by first | exact World.alloc_heap_new _ _ | exact (hk2 _ (by simp) (by omega)).trans (World.alloc_heap_new _ _)) (by rfl) _ _ (by rfl) (by rfl) (by rfl) ?_; intro v3 w3 hown3 hB3 z0 z1))
  all_goals (go_wp2; go_ret2; refine ⟨v3, rfl, ?_, hB3⟩; rw [cells2_append, List.length_append]; exact own_lower hown3 (by omega))
set_option maxHeartbeats 1000000 in
theorem Add_many (ad : Option Addr) (len cap : Nat) (es : List Note) (e : Note) (hl : 64 ≤ es.length) (hl2 : es.length ≤ 1000000) (w : World) (hE : Ents w.heap.size w (.slice ad len cap) es) :
    Calls Try.prog 30 #[.slice ad len cap, agg2 e] w fun r w' => ∃ v, r = .returned (.tuple #[v, .bool true]) ∧ w'.ownsRow w.heap.size 54 2 v (es.drop (es.length - 64 + 1) ++ [e]).length (cells2 (es.drop (es.length - 64 + 1) ++ [e])) ∧ Below w.heap.size w w' := by
  obtain ⟨_, _, hv, _, _, _, hc⟩ := id hE
  obtain ⟨rfl, rfl, rfl⟩ : ad = _ ∧ len = _ ∧ cap = _ := by simpa using hv
  obtain ⟨b, off, rfl, _⟩ := hc 0 (by omega)
  have hD := hE.drop (es.length - 64 + 1) (by omega)
  clear hv hc
  have hl3 : (es.drop (es.length - 64 + 1)).length = 63 := by rw [List.length_drop]; omega
  have t1 : IntKind.i64.wrap ((es.length : Int) - 64) = (es.length : Int) - 64 := IntWalk.i64_in _ (by omega)
  have t2 : IntKind.i64.wrap ((es.length : Int) - 64 + 1) = (es.length : Int) - 64 + 1 := IntWalk.i64_in _ (by omega)
  obtain ⟨i0, hi, hz0, hz1, hz2⟩ := info_parts infoEnt
  have hq : decide (64 ≤ (es.length : Int)) = true := by simp; omega
  simp only [agg2]
  go_enter Try.func30, Try.ntmps30
  go_wp2_with (at_make; refine wpList_make_own _ rfl _ _ 22 rfl (w.heap.size + 1) 54 i0 (.agg #[.int .i64 0, .int .i64 0]) 2 Try.underlying22 hi hz0 hz1 .i64 .i64 _ (es.length - (es.length - 64 + 1) + 1) rfl rfl (by simp) (by rw [hz2]; omega) (by simp only [maxLen]; omega) (by simp) ?_; intro w1 hown hgrow)
  have hB0 : Below w.heap.size w (w.alloc (.cells #[.int .i64 e.1.1, .int .i64 e.1.2] 54)) := (Below.refl _ w).alloc (Nat.le_refl _) _
  have hB1 : Below w.heap.size w w1 := hB0.grown hgrow hB0.size (fun k h => by cases h)
  have hx : Boxed2 w1 w.heap.size e := (Boxed2.new w e).kept hgrow (by simp)
  have hE1 := hD.below hB1
  obtain ⟨x0, x1⟩ := hx.cell
  simp only [World.size_alloc] at hown
  have hlt1 : w.heap.size + 1 < w1.heap.size := by
    rcases hown.2 with ⟨h, _⟩ | ⟨g, c, cur, h, _, h2, _⟩
    · cases h
    · cases h; exact (Array.getElem?_eq_some_iff.1 h2).1
  clear hgrow hB0
  go_region_held3 (fun w' => w'.cell? ⟨w.heap.size, 0, none⟩ = some (.int .i64 e.1.1) ∧ w'.cell? ⟨w.heap.size, 1, none⟩ = some (.int .i64 e.1.2)) (go_keep)
    (first
      | (refine step_add1 w w1 _ w.heap.size (w.heap.size + 1) _ _ (es.drop (es.length - 64 + 1)) e i0 hi hz0 hz1 hz2 hown hE1 (by rw [hl3]; omega) hB1 hx (by omega) hlt1 (Nat.le_refl _) (by repeat (first | exact Below.refl _ _ | refine Below.drew ?_ | refine Below.alloc ?_ (by simp) _)) (by rfl) _ _ (by rfl) (by rfl) (by rfl) ?_; intro v1 w2 hown2 hB2 hx2 y0 y1 hk2)
      | (refine step_add2 w w2 _ w.heap.size _ (es.drop (es.length - 64 + 1)).length _ _ e i0 hi hz0 hz1 hz2 hown2 (by rw [hl3]; omega) hB2 (Nat.le_refl _) hx2 (by repeat (first | exact Below.refl _ _ | refine Below.drew ?_ | refine Below.alloc ?_ (by simp) _)) (by first | exact World.alloc_heap_new _ _ | exact (hk2 _ (by simp) (by omega)).trans (World.alloc_heap_new _ _)) (by rfl) _ _ (by rfl) (by rfl) (by rfl) ?_; intro v3 w3 hown3 hB3 z0 z1))
  all_goals (go_wp2; go_ret2; refine ⟨v3, rfl, ?_, hB3⟩; rw [cells2_append, List.length_append]; exact own_lower hown3 (by omega))
/-- The notes with one more, at most the last 64. -/
def addL (es : List Note) (e : Note) : List Note := (if 64 ≤ es.length then es.drop (es.length - 64 + 1) else es) ++ [e]
theorem addL_few {es : List Note} (e : Note) (h : es.length < 64) : addL es e = es ++ [e] := by unfold addL; rw [if_neg (by omega)]
theorem addL_many {es : List Note} (e : Note) (h : 64 ≤ es.length) : addL es e = es.drop (es.length - 64 + 1) ++ [e] := by unfold addL; rw [if_pos h]
theorem addL_length (es : List Note) (e : Note) : (addL es e).length = min (es.length + 1) 64 := by
  by_cases h : 64 ≤ es.length
  · rw [addL_many e h]; simp; omega
  · rw [addL_few e (by omega)]; simp; omega
theorem LAdd_any (ad : Option Addr) (len cap : Nat) (es : List Note) (e : Note) (hl : es.length ≤ 1000000) (w : World) (hE : Ents w.heap.size w (.slice ad len cap) es) :
    Calls Try.prog 30 #[.slice ad len cap, agg2 e] w fun r w' => ∃ ad' cap', r = .returned (.tuple #[.slice ad' (addL es e).length cap', .bool (decide (64 ≤ es.length))]) ∧ Ents w'.heap.size w' (.slice ad' (addL es e).length cap') (addL es e) ∧ Below w.heap.size w w' := by
  by_cases h : 64 ≤ es.length
  · refine (Add_many ad len cap es e h hl w hE).mono fun r w' ⟨v, hr, ho, hb⟩ => ?_
    rw [addL_many e h]
    have hE' := Ents.of_own ho
    obtain ⟨ad', cap', rfl, _⟩ := id hE'
    exact ⟨ad', cap', by rw [hr, decide_eq_true h], hE', hb⟩
  · refine (Add_few ad len cap es e (by omega) w hE).mono fun r w' ⟨v, hr, ho, hb⟩ => ?_
    rw [addL_few e (by omega)]
    have hE' := Ents.of_own ho
    obtain ⟨ad', cap', rfl, _⟩ := id hE'
    exact ⟨ad', cap', by rw [hr, decide_eq_false h], hE', hb⟩
end Go.Proofs.Ytjmeeklaclidbaa
