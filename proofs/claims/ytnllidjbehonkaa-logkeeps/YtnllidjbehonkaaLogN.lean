/- The fixed calls of the statements on package log come out as they must, and make at most new memory; no conditions. -/
import Derived.Test.YtnllidjbehonkaaLogD
import Derived.Test.YtnllidjbehonkaaLogS
namespace Go.Proofs.Ytnllidjbehonkaa
open Go.ChangeShapes Go.WideShapes Go.ChangeAt Go.RowKit Go.Shelf
set_option linter.unusedVariables false
attribute [local go_sem ↓] Go.wp_at_zero Go.wp_at_succ

theorem hidden {q : Prop} (h : q) : Hid q := h
theorem Hid.out {q : Prop} (h : Hid q) : q := h
def kn1 : Note := ⟨(1, 10), by decide⟩
def kn2 : Note := ⟨(2, 12), by decide⟩
def kn3 : Note := ⟨(1, 13), by decide⟩
theorem klive4 : live 14 4 [kn1, kn2, kn3] = [kn2, kn3] := by decide
theorem klive9 : live 14 9 [kn1, kn2, kn3] = [kn1, kn2, kn3] := by decide
/-- A row that lay there lies there. -/
theorem Ents.later {A B : World} {sv : Value} {es : List Note} (h : Ents A.heap.size A sv es) (hb : Below A.heap.size A B) : Ents B.heap.size B sv es := (h.below hb).mono hb.size
theorem Nums.later {A B : World} {sv : Value} {zs : List Int} (h : Nums A.heap.size A sv zs) (hb : Below A.heap.size A B) : Nums B.heap.size B sv zs := (h.below hb).mono hb.size
theorem Nums.of_block {W : World} {g : Nat} {zs : List Int} {t : TypeId} (h : W.heap[g]? = some (.cells (zs.map encZ).toArray t (0, 0))) (hl : zs.length ≤ maxLen) : Nums W.heap.size W (.slice (some ⟨g, 0, none⟩) zs.length zs.length) zs := by
  refine ⟨_, _, rfl, Nat.le_refl _, hl, fun j hj => ?_⟩
  exact ⟨g, 0, rfl, (Array.getElem?_eq_some_iff.1 h).1, by simp [World.cell?, h, hj]⟩

set_option maxHeartbeats 4000000 in
theorem known6_any (w : World) :
    Calls Try.prog 20 #[] w fun e w' => e = .returned (.bool true) ∧ Below w.heap.size w w' := by
  go_enter Try.func20, Try.ntmps20
  go_wp2
  have hB0 : Below w.heap.size w (w.alloc (.cells (cells2 [kn1, kn2, kn3]).toArray 29)) := (Below.refl _ w).alloc (Nat.le_refl _) _
  have hE0 := Ents.of_block (W := w.alloc (.cells (cells2 [kn1, kn2, kn3]).toArray 29)) (es := [kn1, kn2, kn3]) (World.alloc_heap_new w _) (by decide)
  have hs0 : w.heap.size < (w.alloc (.cells (cells2 [kn1, kn2, kn3]).toArray 29)).heap.size := by simp
  change Code.wp _ _ _ _ (w.alloc (.cells (cells2 [kn1, kn2, kn3]).toArray 29))
  have x0 : (w.alloc (.cells (cells2 [kn1, kn2, kn3]).toArray 29)).cell? ⟨w.heap.size, 2, none⟩ = some (.int .i64 2) := World.cell?_alloc_mark w (cells2 [kn1, kn2, kn3]).toArray _ _ 2
  have x1 : (w.alloc (.cells (cells2 [kn1, kn2, kn3]).toArray 29)).cell? ⟨w.heap.size, 3, none⟩ = some (.int .i64 12) := World.cell?_alloc_mark w (cells2 [kn1, kn2, kn3]).toArray _ _ 3
  generalize (w.alloc (.cells (cells2 [kn1, kn2, kn3]).toArray 29)) = W0 at hB0 hE0 hs0 x0 x1 ⊢
  have hwg := hB0.size
  generalize hg : w.heap.size = g at hE0 hs0 x0 x1 ⊢
  have cA : ∀ W, Below W0.heap.size W0 W → Calls Try.prog 21 #[.slice (some ⟨g, 0, none⟩) 1 3, .agg #[.int .i64 2, .int .i64 12]] W fun r w' => ∃ ad' cap', r = .returned (.tuple #[.slice ad' 2 cap', .bool false]) ∧ Ents w'.heap.size w' (.slice ad' 2 cap') [kn1, kn2] ∧ Below W0.heap.size W0 w' := fun W hW =>
    (LAdd_any _ _ _ [kn1] kn2 (by decide) W ((hE0.take 1 (by decide)).later hW)).mono fun r w' ⟨ad', cap', hr, hE, hb⟩ => ⟨ad', cap', hr, hE, bthen hW hb⟩
  go_region_held3 (fun w' => w'.cell? ⟨g, 2, none⟩ = some (.int .i64 2) ∧ w'.cell? ⟨g, 3, none⟩ = some (.int .i64 12)) (first | go_keep | exact ⟨y0, y1⟩)
    (first
      | (go_at_call 21; refine (cA _ (by repeat (first | exact Below.refl _ _ | refine Below.drew ?_))).mono ?_; rintro e w1 ⟨ad1, cap1, rfl, hM, hb1⟩; have y0 := (hb1.cell (p := ⟨g, 2, none⟩) hs0).trans x0; have y1 := (hb1.cell (p := ⟨g, 3, none⟩) hs0).trans x1))
  go_wp2
  have hB1 : Below w.heap.size w w1 := hB0.trans (hb1.mono hwg)
  have hL := hE0.later hb1
  clear cA hb1 hE0 x0 x1 y0 y1 hB0 hs0
  have cP : ∀ W, Below w1.heap.size w1 W → Calls Try.prog 24 #[.slice (some ⟨g, 0, none⟩) 3 3, .int .i64 14, .int .i64 4] W fun r w' => ∃ ad' cap', r = .returned (.slice ad' 2 cap') ∧ Ents w'.heap.size w' (.slice ad' 2 cap') [kn2, kn3] ∧ Below w1.heap.size w1 w' := fun W hW =>
    (Purge_any _ _ _ 14 4 _ (by decide) W (hL.later hW)).mono fun r w' ⟨ad', cap', hr, hE, hb⟩ => by rw [klive4] at hr hE; exact ⟨ad', cap', hr, hE, bthen hW hb⟩
  have cC : ∀ W, Below w1.heap.size w1 W → Calls Try.prog 26 #[.slice (some ⟨g, 0, none⟩) 3 3, .int .i64 14, .int .i64 4] W fun r w' => r = .returned (.int .i64 2) ∧ Below w1.heap.size w1 w' := fun W hW =>
    (Count_any _ _ _ 14 4 _ (by decide) W (hL.later hW)).mono fun r w' ⟨hr, hb⟩ => by rw [klive4] at hr; exact ⟨hr, bthen hW hb⟩
  have cO : ∀ W, Below w1.heap.size w1 W → Calls Try.prog 28 #[.slice (some ⟨g, 0, none⟩) 3 3, .int .i64 1, .int .i64 14, .int .i64 9] W fun r w' => r = .returned (.int .i64 2) ∧ Below w1.heap.size w1 w' := fun W hW =>
    (Of_any _ _ _ 1 14 9 _ (by decide) (by decide) W (hL.later hW)).mono fun r w' ⟨hr, hb⟩ => by rw [klive9] at hr; exact ⟨hr, bthen hW hb⟩
  have cW : ∀ W, Below w1.heap.size w1 W → Calls Try.prog 31 #[.slice (some ⟨g, 0, none⟩) 3 3, .int .i64 14, .int .i64 9] W fun r w' => ∃ ad' cap', r = .returned (.slice ad' 2 cap') ∧ Nums w'.heap.size w' (.slice ad' 2 cap') [1, 2] ∧ Below w1.heap.size w1 w' ∧ Below W.heap.size W w' := fun W hW =>
    (Who_any _ _ _ 14 9 _ (by decide) W (hL.later hW)).mono fun r w' ⟨ad', cap', hr, hE, hb⟩ => by rw [klive9] at hr hE; exact ⟨ad', cap', hr, hE, bthen hW hb, hb⟩
  have cM : ∀ W, Below w1.heap.size w1 W → Calls Try.prog 23 #[.slice ad1 2 cap1, .slice (some ⟨g, 0, none⟩) 2 3] W fun r w' => r = .returned (.bool true) ∧ Below w1.heap.size w1 w' := fun W hW =>
    (Same_any _ _ _ _ _ _ [kn1, kn2] W (by decide) (hM.later hW) ((hL.take 2 (by decide)).later hW)).mono fun r w' ⟨hr, hb⟩ => ⟨hr, bthen hW hb⟩
  have cS : ∀ ad cap W2 W, Ents W2.heap.size W2 (.slice ad 2 cap) [kn2, kn3] → Below w1.heap.size w1 W2 → Below W2.heap.size W2 W → Calls Try.prog 23 #[.slice ad 2 cap, .slice (some ⟨g, 2, none⟩) 2 2] W fun r w' => r = .returned (.bool true) ∧ Below w1.heap.size w1 w' := fun ad cap W2 W hE hB hW =>
    (Same_any _ _ _ _ _ _ [kn2, kn3] W (by decide) (hE.later hW) ((hL.drop 1 (by decide)).later (bthen hB hW))).mono fun r w' ⟨hr, hb⟩ => ⟨hr, bthen (bthen hB hW) hb⟩
  have cI : ∀ ad cap T W2 W, Nums W2.heap.size W2 (.slice ad 2 cap) [1, 2] → Below w1.heap.size w1 W2 → Below W2.heap.size W2 W → W.heap[T]? = some (.cells #[.int .i64 1, .int .i64 2] 3 (0, 0)) → Calls Try.prog 30 #[.slice ad 2 cap, .slice (some ⟨T, 0, none⟩) 2 2] W fun r w' => r = .returned (.bool true) ∧ Below w1.heap.size w1 w' := fun ad cap T W2 W hE hB hW hT =>
    (Ints_any _ _ _ _ _ _ [1, 2] W (by decide) (hE.later hW) (Nums.of_block (zs := [1, 2]) hT (by decide))).mono fun r w' ⟨hr, hb⟩ => ⟨hr, bthen (bthen hB hW) hb⟩
  clear hL hM
  go_region_held3 (fun _ => True) (trivial)
    (first
      | (go_at_call 24; refine (cP _ (by repeat (first | exact Below.refl _ _ | refine Below.drew ?_ | refine Below.alloc ?_ (by simp) _))).mono ?_; rintro e w2 ⟨ad2, cap2, rfl, hP, hb2⟩)
      | (go_at_call 23; refine (cS _ _ w2 _ hP hb2 (by repeat (first | exact Below.refl _ _ | refine Below.drew ?_ | refine Below.alloc ?_ (by simp) _))).mono ?_; clear cS; rintro e w3 ⟨rfl, hb3⟩)
      | (go_at_call 26; refine (cC _ (hb3.trans (Below.mono (B := w3.heap.size) (by repeat (first | exact Below.refl _ _ | refine Below.drew ?_ | refine Below.alloc ?_ (by simp) _)) hb3.size))).mono ?_; rintro e w4 ⟨rfl, hb4⟩)
      | (go_at_call 28; refine (cO _ (hb4.trans (Below.mono (B := w4.heap.size) (by repeat (first | exact Below.refl _ _ | refine Below.drew ?_ | refine Below.alloc ?_ (by simp) _)) hb4.size))).mono ?_; rintro e w5 ⟨rfl, hb5⟩)
      | (go_at_call 31; refine (cW _ (hb5.trans (Below.mono (B := w5.heap.size) (by repeat (first | exact Below.refl _ _ | refine Below.drew ?_ | refine Below.alloc ?_ (by simp) _)) hb5.size))).mono ?_; rintro e w6 ⟨ad6, cap6, rfl, hW6, hb6, hk6⟩)
      | (go_at_call 30; refine (cI _ _ _ w6 _ hW6 hb6 (by repeat (first | exact Below.refl _ _ | refine Below.drew ?_ | refine Below.alloc ?_ (by simp) _)) (by first | exact World.alloc_heap_new _ _ | exact (hk6.block _ (by simp)).trans (World.alloc_heap_new _ _))).mono ?_; rintro e w7 ⟨rfl, hb7⟩)
      | (go_at_call 23; refine (cM _ (hb7.trans (Below.mono (B := w7.heap.size) (by repeat (first | exact Below.refl _ _ | refine Below.drew ?_ | refine Below.alloc ?_ (by simp) _)) hb7.size))).mono ?_; rintro e w8 ⟨rfl, hb8⟩))
  all_goals (go_wp2; go_ret; exact ⟨rfl, hB1.trans (hb8.mono hB1.size)⟩)
end Go.Proofs.Ytnllidjbehonkaa
