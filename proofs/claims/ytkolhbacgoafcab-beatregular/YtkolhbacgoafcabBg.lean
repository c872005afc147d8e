/- Several texts of one's own in one: what each proves, and its conditions, is said ahead of it. -/
import Derived.Test.YtkolhbacgoafcabBc
import Derived.Test.YtkolhbacgoafcabBf

/- The fixed configuration of the statements, and what is plain of it; no conditions. -/
namespace Go.Proofs.Ytkolhbacgoafcab
open Go.ChangeShapes Go.WideShapes Go.ChangeAt Go.RowKit
set_option linter.unusedVariables false

theorem Tab.four (w : World) (t : TypeId) (g : Nat) (hg : g = w.heap.size) : Tab (w.alloc (.cells #[.int .i64 0, .int .i64 1, .int .i64 2, .int .i64 3] t)) (some ⟨g, 0, none⟩) [0, 1, 2, 3] := by
  subst hg
  intro i hi
  refine ⟨_, rfl, ?_⟩
  have hi' : i = 0 ∨ i = 1 ∨ i = 2 ∨ i = 3 := by simp at hi; omega
  rcases hi' with rfl | rfl | rfl | rfl <;> exact World.cell?_alloc_mark w _ t _ _
theorem Tab.none (w : World) : Tab w none [] := fun i hi => absurd hi (Nat.not_lt_zero _)
theorem plainE_small : plainE 4 1 1 20 64 1 64 190 10 3 [0, 1, 2, 3] = 0 := by decide
theorem plainE_zero : plainE 0 0 0 0 0 0 0 0 0 0 [] = 7 := by decide
/-- The same call, where the answer is spelt otherwise. -/
theorem Calls.ret_to {P : Program} {F : FuncId} {args : Array Value} {w : World} {v u : Value} (h : Calls P F args w fun e w' => e = .returned v ∧ Below w.heap.size w w') (e : v = u) : Calls P F args w fun e w' => e = .returned u ∧ Below w.heap.size w w' := by
  rw [← e]; exact h
theorem val_i {a b : Int} (h : a = b) : Value.int .i64 a = .int .i64 b := by rw [h]
end Go.Proofs.Ytkolhbacgoafcab

/- The fixed calls of the statements on package pipe come out as they must, and make at most new memory; no conditions. -/
namespace Go.Proofs.Ytkolhbacgoafcab
open Go.ChangeShapes Go.WideShapes Go.ChangeAt Go.RowKit
set_option linter.unusedVariables false

theorem pval_s {a b : ByteArray} (h : a = b) : Value.string a = .string b := by rw [h]
theorem pval_t {a b : ByteArray} {i j : Int} (h : a = b) (k : i = j) : Value.tuple #[.string a, .int .i64 i] = .tuple #[.string b, .int .i64 j] := by rw [h, k]
theorem hrdF_small (ad : Option Addr) (votes : List ByteArray) : hrdF 4 1 1 20 64 1 64 190 10 3 ad 4 [0, 1, 2, 3] votes = hrdB 0 4 1 votes := by
  funext x b
  unfold hrdF
  rw [plainE_small]
theorem blank_small17 : ba (zerL 6) = ⟨#[48, 48, 48, 48, 48, 48]⟩ := by decide +kernel
theorem tell_small17 : dgB 6 (valG (ba (tellL 1 (wellL 6 ⟨#[48, 49, 51, 52, 53, 50]⟩) 6))) = ⟨#[48, 49, 48, 49, 50, 50]⟩ := by decide +kernel
theorem begin_small17 : ba ((wellL 6 ⟨#[50, 50, 50, 50, 50, 50]⟩).set 0 (begC8 1)) = ⟨#[49, 50, 50, 50, 50, 50]⟩ := by decide +kernel
theorem move_small17 : ba (newL (hrdB 0 4 1 [⟨#[49, 49, 49, 49, 49, 49]⟩, ⟨#[49, 49, 49, 49, 49, 49]⟩, ⟨#[49, 49, 49, 49, 49, 49]⟩]) 1 (wellL 6 ⟨#[48, 48, 48, 48, 48, 49]⟩)) = ⟨#[48, 49, 52, 49, 49, 52]⟩ := by decide +kernel
theorem end_small17 : endF (newB (hrdB 0 4 1 [⟨#[49, 49, 49, 49, 49, 49]⟩, ⟨#[49, 49, 49, 49, 49, 49]⟩, ⟨#[49, 49, 49, 49, 49, 49]⟩]) 1 (wellL 6 ⟨#[48, 48, 48, 48, 48, 49]⟩) 6) = 1 := by decide +kernel
theorem move17_any (g : Nat) (a2 : Option Addr) (w : World) (hT : Tab w (some ⟨g, 0, none⟩) [0, 1, 2, 3]) (hV : kStr.Lies w.heap.size w (.slice a2 3 3) [⟨#[49, 49, 49, 49, 49, 49]⟩, ⟨#[49, 49, 49, 49, 49, 49]⟩, ⟨#[49, 49, 49, 49, 49, 49]⟩]) :
    Calls Try.prog 32 #[.agg #[.int .i64 4, .int .i64 1, .int .i64 1, .int .i64 20, .int .i64 64, .int .i64 1, .int .i64 64, .int .i64 190, .int .i64 10, .int .i64 3, .slice (some ⟨g, 0, none⟩) 4 4], .string ⟨#[48, 48, 48, 48, 48, 49]⟩, .slice a2 3 3] w fun e w' => e = .returned (.tuple #[.string ⟨#[48, 49, 52, 49, 49, 52]⟩, .int .i64 1]) ∧ Below w.heap.size w w' :=
  Calls.ret_to (Move_any 4 1 1 20 64 1 64 190 10 3 (some ⟨g, 0, none⟩) 4 [0, 1, 2, 3] 6 1 6 ⟨#[48, 48, 48, 48, 48, 49]⟩ (by decide) a2 3 [⟨#[49, 49, 49, 49, 49, 49]⟩, ⟨#[49, 49, 49, 49, 49, 49]⟩, ⟨#[49, 49, 49, 49, 49, 49]⟩] w (by decide) hT (by rw [plainE_small]; rfl) (by rw [plainE_small]; rfl) (by decide) (by decide) (by decide) (.inr ⟨rfl, by decide, by decide⟩) (by decide) hV (by decide))
    (by rw [hrdF_small]; exact pval_t move_small17 end_small17)
end Go.Proofs.Ytkolhbacgoafcab

/- The fixed calls of the statements on package beat come out as they must, and make at most new memory; no conditions. -/
namespace Go.Proofs.Ytkolhbacgoafcab
open Go.ChangeShapes Go.WideShapes Go.ChangeAt Go.RowKit
set_option linter.unusedVariables false

theorem small18_any (w : World) :
    Calls Try.prog 15 #[] w fun e w' => ∃ g, e = .returned (.agg #[.int .i64 4, .int .i64 1, .int .i64 1, .int .i64 20, .int .i64 64, .int .i64 1, .int .i64 64, .int .i64 190, .int .i64 10, .int .i64 3, .slice (some ⟨g, 0, none⟩) 4 4]) ∧ Tab w' (some ⟨g, 0, none⟩) [0, 1, 2, 3] ∧ Below w.heap.size w w' := by
  go_enter Try.func15, Try.ntmps15
  go_wp2
  refine bodyPost_ret (v := .agg #[.int .i64 4, .int .i64 1, .int .i64 1, .int .i64 20, .int .i64 64, .int .i64 1, .int .i64 64, .int .i64 190, .int .i64 10, .int .i64 3, .slice (some ⟨w.heap.size + 1, 0, none⟩) 4 4]) (by simp [results, Try.results15, go_sem]) rfl ⟨_, rfl, Tab.four _ _ _ (by simp), Joins.below_alloc2 _ _ _⟩
theorem bval_2 {a b c d : Int} (h : a = c) (k : b = d) : Value.tuple #[.int .i64 a, .int .i64 b] = .tuple #[.int .i64 c, .int .i64 d] := by rw [h, k]
theorem bval_4 {a b : ByteArray} {i j k l : Int} {x y : Bool} (h1 : a = b) (h2 : i = j) (h3 : k = l) (h4 : x = y) : Value.tuple #[.string a, .int .i64 i, .int .i64 k, .bool x] = .tuple #[.string b, .int .i64 j, .int .i64 l, .bool y] := by rw [h1, h2, h3, h4]
theorem bval_i {a b : Int} (h : a = b) : Value.int .i64 a = .int .i64 b := by rw [h]
theorem stpP_small (ad : Option Addr) : stpP 4 1 1 20 64 1 64 190 10 3 ad 4 [0, 1, 2, 3] 1 6 [⟨#[49, 49, 49, 49, 49, 49]⟩, ⟨#[49, 49, 49, 49, 49, 49]⟩, ⟨#[49, 49, 49, 49, 49, 49]⟩] (wellL 6 ⟨#[48, 48, 48, 48, 48, 49]⟩) = true := by
  unfold stpP
  rw [hrdF_small, end_small17]
  rfl
theorem stpS_small (ad : Option Addr) : stpS 4 1 1 20 64 1 64 190 10 3 ad 4 [0, 1, 2, 3] 1 6 [⟨#[49, 49, 49, 49, 49, 49]⟩, ⟨#[49, 49, 49, 49, 49, 49]⟩, ⟨#[49, 49, 49, 49, 49, 49]⟩] (wellL 6 ⟨#[48, 48, 48, 48, 48, 49]⟩) 19 = 0 := by
  unfold stpS
  rw [stpP_small, plainE_small]
  rfl
theorem stpR_small (ad : Option Addr) : stpR 4 1 1 20 64 1 64 190 10 3 ad 4 [0, 1, 2, 3] 1 6 [⟨#[49, 49, 49, 49, 49, 49]⟩, ⟨#[49, 49, 49, 49, 49, 49]⟩, ⟨#[49, 49, 49, 49, 49, 49]⟩] (wellL 6 ⟨#[48, 48, 48, 48, 48, 49]⟩) 19 1 = 2 := by
  unfold stpR
  rw [stpP_small, plainE_small]
  rfl
theorem begin_small18 : ba ((newL (hrdB 0 4 1 [⟨#[49, 49, 49, 49, 49, 49]⟩, ⟨#[49, 49, 49, 49, 49, 49]⟩, ⟨#[49, 49, 49, 49, 49, 49]⟩]) 1 (wellL 6 ⟨#[48, 48, 48, 48, 48, 49]⟩)).set 0 (begC8 0)) = ⟨#[48, 49, 52, 49, 49, 52]⟩ := by decide +kernel
theorem stpL_small (ad : Option Addr) : ba (stpL 4 1 1 20 64 1 64 190 10 3 ad 4 [0, 1, 2, 3] 1 6 [⟨#[49, 49, 49, 49, 49, 49]⟩, ⟨#[49, 49, 49, 49, 49, 49]⟩, ⟨#[49, 49, 49, 49, 49, 49]⟩] (wellL 6 ⟨#[48, 48, 48, 48, 48, 49]⟩) 19) = ⟨#[48, 49, 52, 49, 49, 52]⟩ := by
  unfold stpL
  rw [stpS_small, hrdF_small, plainE_small, show bitI 0 20 ((6 : Nat) : Int) 0 = 0 by decide]
  exact begin_small18
theorem alone_small18 : aloT 0 20 6 13 (penF ⟨#[]⟩) 8 = ⟨#[48, 48, 48, 48, 48, 48, 49, 48]⟩ := by decide +kernel
theorem step18_any (g : Nat) (a2 : Option Addr) (w : World) (hT : Tab w (some ⟨g, 0, none⟩) [0, 1, 2, 3]) (hV : kStr.Lies w.heap.size w (.slice a2 3 3) [⟨#[49, 49, 49, 49, 49, 49]⟩, ⟨#[49, 49, 49, 49, 49, 49]⟩, ⟨#[49, 49, 49, 49, 49, 49]⟩]) :
    Calls Try.prog 17 #[.agg #[.int .i64 4, .int .i64 1, .int .i64 1, .int .i64 20, .int .i64 64, .int .i64 1, .int .i64 64, .int .i64 190, .int .i64 10, .int .i64 3, .slice (some ⟨g, 0, none⟩) 4 4], .string ⟨#[48, 48, 48, 48, 48, 49]⟩, .int .i64 19, .int .i64 1, .slice a2 3 3] w fun e w' => e = .returned (.tuple #[.string ⟨#[48, 49, 52, 49, 49, 52]⟩, .int .i64 0, .int .i64 2, .bool true]) ∧ Below w.heap.size w w' :=
  Calls.ret_to (BStep_any 4 1 1 20 64 1 64 190 10 3 (some ⟨g, 0, none⟩) 4 [0, 1, 2, 3] 6 1 6 ⟨#[48, 48, 48, 48, 48, 49]⟩ (by decide) 19 1 (by decide) (by decide) a2 3 [⟨#[49, 49, 49, 49, 49, 49]⟩, ⟨#[49, 49, 49, 49, 49, 49]⟩, ⟨#[49, 49, 49, 49, 49, 49]⟩] w (by decide) hT (by rw [plainE_small]; rfl) (by rw [plainE_small]; rfl) (by decide) (by decide) (by decide) (.inr ⟨rfl, by decide, by decide⟩) (by decide) hV (by decide))
    (bval_4 (stpL_small _) (stpS_small _) (stpR_small _) (stpP_small _))
set_option maxHeartbeats 4000000 in
theorem known18_any (w : World) :
    Calls Try.prog 6 #[] w fun e w' => e = .returned (.bool true) ∧ Below w.heap.size w w' := by
  go_enter Try.func6, Try.ntmps6
  go_wp2_with fail
  refine (small18_any _).mono ?_
  rintro e w3 ⟨g, rfl, hT, hb⟩
  have HB3 := hidden hb
  have HC := hidden (blk_nw w3 #[.int .i64 4, .int .i64 1, .int .i64 1, .int .i64 20, .int .i64 64, .int .i64 1, .int .i64 64, .int .i64 190, .int .i64 10, .int .i64 3, .slice (some ⟨g, 0, none⟩) 4 4] 24)
  have hC := ballc w3 (.cells #[.int .i64 4, .int .i64 1, .int .i64 1, .int .i64 20, .int .i64 64, .int .i64 1, .int .i64 64, .int .i64 190, .int .i64 10, .int .i64 3, .slice (some ⟨g, 0, none⟩) 4 4] 24)
  have HT3 := hidden (hT.below hC)
  have HBC := hidden (bthen HB3.out hC)
  clear hT hb hC
  go_wp2_with fail
  refine (Calls.ret_to (BNext_any 4 1 1 20 64 1 64 190 10 3 (some ⟨g, 0, none⟩) 4 [0, 1, 2, 3] 19 1 true _ (by decide) HT3.out (by decide) (by decide)) (bval_2 (c := 0) (d := 2) (by rw [plainE_small]; rfl) (by rw [plainE_small]; rfl))).mono ?_
  rintro e w4 ⟨rfl, hb⟩
  have HB4 := hidden (bthen HBC.out hb)
  have HT4 := hidden (HT3.out.below hb)
  have HC4 := hidden (blk_later HC.out hb)
  clear hb HT3
  have c0 := blk_cell HC4.out
  have l0 := blk_lt HC4.out
  go_wp2_with fail
  refine (Calls.ret_to (BNext_any 4 1 1 20 64 1 64 190 10 3 (some ⟨g, 0, none⟩) 4 [0, 1, 2, 3] 19 2 false _ (by decide) HT4.out (by decide) (by decide)) (bval_2 (c := 20) (d := 0) (by rw [plainE_small]; rfl) (by rw [plainE_small]; rfl))).mono ?_
  rintro e w5 ⟨rfl, hb⟩
  have HB5 := hidden (bthen HB4.out hb)
  have HT5 := hidden (HT4.out.below hb)
  have HC5 := hidden (blk_later HC4.out hb)
  clear hb HT4 c0 l0
  have c0 := blk_cell HC5.out
  have l0 := blk_lt HC5.out
  have hV : kStr.Lies (w5.alloc (.cells #[.string ⟨#[49, 49, 49, 49, 49, 49]⟩, .string ⟨#[49, 49, 49, 49, 49, 49]⟩, .string ⟨#[49, 49, 49, 49, 49, 49]⟩] 9)).heap.size (w5.alloc (.cells #[.string ⟨#[49, 49, 49, 49, 49, 49]⟩, .string ⟨#[49, 49, 49, 49, 49, 49]⟩, .string ⟨#[49, 49, 49, 49, 49, 49]⟩] 9)) (.slice (some ⟨w5.heap.size, 0, none⟩) 3 3) [⟨#[49, 49, 49, 49, 49, 49]⟩, ⟨#[49, 49, 49, 49, 49, 49]⟩, ⟨#[49, 49, 49, 49, 49, 49]⟩] :=
    Kind.Lies.of_block (K := kStr) (es := [⟨#[49, 49, 49, 49, 49, 49]⟩, ⟨#[49, 49, 49, 49, 49, 49]⟩, ⟨#[49, 49, 49, 49, 49, 49]⟩]) (heap_alloc_new w5 (.cells #[.string ⟨#[49, 49, 49, 49, 49, 49]⟩, .string ⟨#[49, 49, 49, 49, 49, 49]⟩, .string ⟨#[49, 49, 49, 49, 49, 49]⟩] 9)) (by simp [maxLen])
  have CM := hidden (step18_any g (some ⟨w5.heap.size, 0, none⟩) (w5.alloc (.cells #[.string ⟨#[49, 49, 49, 49, 49, 49]⟩, .string ⟨#[49, 49, 49, 49, 49, 49]⟩, .string ⟨#[49, 49, 49, 49, 49, 49]⟩] 9)) (HT5.out.below (ballc _ _)) hV)
  have HB6 := hidden (bthen HB5.out (ballc _ (.cells #[.string ⟨#[49, 49, 49, 49, 49, 49]⟩, .string ⟨#[49, 49, 49, 49, 49, 49]⟩, .string ⟨#[49, 49, 49, 49, 49, 49]⟩] 9)))
  have HT6 := hidden (HT5.out.below (ballc _ (.cells #[.string ⟨#[49, 49, 49, 49, 49, 49]⟩, .string ⟨#[49, 49, 49, 49, 49, 49]⟩, .string ⟨#[49, 49, 49, 49, 49, 49]⟩] 9)))
  have HC6 := hidden (blk_later HC5.out (ballc _ (.cells #[.string ⟨#[49, 49, 49, 49, 49, 49]⟩, .string ⟨#[49, 49, 49, 49, 49, 49]⟩, .string ⟨#[49, 49, 49, 49, 49, 49]⟩] 9)))
  clear hV HT5
  go_wp2_with fail
  refine CM.out.mono ?_
  rintro e w7 ⟨rfl, hb⟩
  have HB7 := hidden (bthen HB6.out hb)
  have HT7 := hidden (HT6.out.below hb)
  have HC7 := hidden (blk_later HC6.out hb)
  clear hb HT6 CM c0 l0
  have c0 := blk_cell HC7.out
  have l0 := blk_lt HC7.out
  go_wp2_with fail
  refine (Calls.ret_to (BBit_any 4 1 1 20 64 1 64 190 10 3 (some ⟨g, 0, none⟩) 4 [0, 1, 2, 3] 6 14 _ (by decide) HT7.out (by rw [plainE_small]; rfl) (by decide) (by decide)) (bval_i (b := 1) (by rw [plainE_small]; decide))).mono ?_
  rintro e w8 ⟨rfl, hb⟩
  have HB8 := hidden (bthen HB7.out hb)
  have HT8 := hidden (HT7.out.below hb)
  have HC8 := hidden (blk_later HC7.out hb)
  clear hb HT7 c0 l0
  have c0 := blk_cell HC8.out
  have l0 := blk_lt HC8.out
  go_wp2_with fail
  refine (Calls.ret_to (BBit_any 4 1 1 20 64 1 64 190 10 3 (some ⟨g, 0, none⟩) 4 [0, 1, 2, 3] 6 15 _ (by decide) HT8.out (by rw [plainE_small]; rfl) (by decide) (by decide)) (bval_i (b := 0) (by rw [plainE_small]; decide))).mono ?_
  rintro e w9 ⟨rfl, hb⟩
  have HB9 := hidden (bthen HB8.out hb)
  have HT9 := hidden (HT8.out.below hb)
  have HC9 := hidden (blk_later HC8.out hb)
  clear hb HT8 c0 l0
  have c0 := blk_cell HC9.out
  have l0 := blk_lt HC9.out
  go_wp2_with fail
  refine (Calls.ret_to (BBit_any 4 1 1 20 64 1 64 190 10 3 (some ⟨g, 0, none⟩) 4 [0, 1, 2, 3] 6 20 _ (by decide) HT9.out (by rw [plainE_small]; rfl) (by decide) (by decide)) (bval_i (b := 1) (by rw [plainE_small]; decide))).mono ?_
  rintro e w10 ⟨rfl, hb⟩
  have HB10 := hidden (bthen HB9.out hb)
  have HT10 := hidden (HT9.out.below hb)
  have HC10 := hidden (blk_later HC9.out hb)
  clear hb HT9 c0 l0
  have c0 := blk_cell HC10.out
  have l0 := blk_lt HC10.out
  go_wp2_with fail
  refine (Calls.ret_to (Alone_any 4 1 1 20 64 1 64 190 10 3 (some ⟨g, 0, none⟩) 4 [0, 1, 2, 3] 6 13 (by decide) ⟨#[]⟩ (by decide) 8 8 (by decide) _ (by decide) HT10.out (by rw [plainE_small]; rfl) (by decide)) (pval_s (b := ⟨#[48, 48, 48, 48, 48, 48, 49, 48]⟩) (by rw [plainE_small]; exact alone_small18))).mono ?_
  rintro e w11 ⟨rfl, hb⟩
  have HB11 := hidden (bthen HB10.out hb)
  clear hb c0 l0
  go_wp2
  go_ret
  exact ⟨rfl, HB11.out⟩
end Go.Proofs.Ytkolhbacgoafcab
