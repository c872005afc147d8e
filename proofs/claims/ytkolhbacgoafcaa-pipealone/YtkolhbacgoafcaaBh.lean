/- Several texts of one's own in one: what each proves, and its conditions, is said ahead of it. -/
import Derived.Test.YtkolhbacgoafcaaBg
import Derived.Test.YtkolhbacgoafcaaBa
import Derived.Test.YtkolhbacgoafcaaBd

/- The fixed calls of the statements on package pipe come out as they must, and make at most new memory; no conditions. -/
namespace Go.Proofs.Ytkolhbacgoafcaa
open Go.ChangeShapes Go.WideShapes Go.ChangeAt Go.RowKit
set_option linter.unusedVariables false

theorem small17_any (w : World) :
    Calls Try.prog 28 #[] w fun e w' => ∃ g, e = .returned (.agg #[.int .i64 4, .int .i64 1, .int .i64 1, .int .i64 20, .int .i64 64, .int .i64 1, .int .i64 64, .int .i64 190, .int .i64 10, .int .i64 3, .slice (some ⟨g, 0, none⟩) 4 4]) ∧ Tab w' (some ⟨g, 0, none⟩) [0, 1, 2, 3] ∧ Below w.heap.size w w' := by
  go_enter Try.func28, Try.ntmps28
  go_wp2
  refine bodyPost_ret (v := .agg #[.int .i64 4, .int .i64 1, .int .i64 1, .int .i64 20, .int .i64 64, .int .i64 1, .int .i64 64, .int .i64 190, .int .i64 10, .int .i64 3, .slice (some ⟨w.heap.size + 1, 0, none⟩) 4 4]) (by simp [results, Try.results28, go_sem]) rfl ⟨_, rfl, Tab.four _ _ _ (by simp), Joins.below_alloc2 _ _ _⟩
theorem pval_s {a b : ByteArray} (h : a = b) : Value.string a = .string b := by rw [h]
theorem pval_t {a b : ByteArray} {i j : Int} (h : a = b) (k : i = j) : Value.tuple #[.string a, .int .i64 i] = .tuple #[.string b, .int .i64 j] := by rw [h, k]
theorem hrdF_small (ad : Option Addr) (votes : List ByteArray) : hrdF 4 1 1 20 64 1 64 190 10 3 ad 4 [0, 1, 2, 3] votes = hrdB 0 4 1 votes := by
  funext x b
  unfold hrdF
  rw [plainE_small]
theorem blank_small17 : ba (zerL 6) = ⟨#[48, 48, 48, 48, 48, 48]⟩ := by decide +kernel
theorem tell_small17 : dgB 6 (valG (ba (tellL 1 (wellL 6 ⟨#[48, 49, 51, 52, 53, 50]⟩) 6))) = ⟨#[48, 49, 48, 49, 50, 50]⟩ := by decide +kernel
theorem begin_small17 : ba ((wellL 6 ⟨#[50, 50, 50, 50, 50, 50]⟩).set 0 (begC8 1)) = ⟨#[49, 50, 50, 50, 50, 50]⟩ := by decide +kernel
theorem move_small17 : ba (newL (hrdB 0 4 1 [⟨#[49, 49, 49, 49, 49, 49]⟩, ⟨#[49, 49, 49, 49, 49, 49]⟩, ⟨#[49, 49, 49, 49, 49, 49]⟩]) 1 (wellL 6 ⟨#[48, 48, 48, 48, 48, 49]⟩)) = ⟨#[48, 49, 52, 49, 49, 52]⟩ := by decide +kernel
theorem end_small17 : endF (newB (hrdB 0 4 1 [⟨#[49, 49, 49, 49, 49, 49]⟩, ⟨#[49, 49, 49, 49, 49, 49]⟩, ⟨#[49, 49, 49, 49, 49, 49]⟩]) 1 (wellL 6 ⟨#[48, 48, 48, 48, 48, 49]⟩) 6) = 1 := by decide +kernel
theorem move17_any (g : Nat) (a2 : Option Addr) (w : World) (hT : Tab w (some ⟨g, 0, none⟩) [0, 1, 2, 3]) (hV : kStr.Lies w.heap.size w (.slice a2 3 3) [⟨#[49, 49, 49, 49, 49, 49]⟩, ⟨#[49, 49, 49, 49, 49, 49]⟩, ⟨#[49, 49, 49, 49, 49, 49]⟩]) :
    Calls Try.prog 15 #[.agg #[.int .i64 4, .int .i64 1, .int .i64 1, .int .i64 20, .int .i64 64, .int .i64 1, .int .i64 64, .int .i64 190, .int .i64 10, .int .i64 3, .slice (some ⟨g, 0, none⟩) 4 4], .string ⟨#[48, 48, 48, 48, 48, 49]⟩, .slice a2 3 3] w fun e w' => e = .returned (.tuple #[.string ⟨#[48, 49, 52, 49, 49, 52]⟩, .int .i64 1]) ∧ Below w.heap.size w w' :=
  Calls.ret_to (Move_any 4 1 1 20 64 1 64 190 10 3 (some ⟨g, 0, none⟩) 4 [0, 1, 2, 3] 6 1 6 ⟨#[48, 48, 48, 48, 48, 49]⟩ (by decide) a2 3 [⟨#[49, 49, 49, 49, 49, 49]⟩, ⟨#[49, 49, 49, 49, 49, 49]⟩, ⟨#[49, 49, 49, 49, 49, 49]⟩] w (by decide) hT (by rw [plainE_small]; rfl) (by rw [plainE_small]; rfl) (by decide) (by decide) (by decide) (.inr ⟨rfl, by decide, by decide⟩) (by decide) hV (by decide))
    (by rw [hrdF_small]; exact pval_t move_small17 end_small17)
set_option maxHeartbeats 4000000 in
theorem known17_any (w : World) :
    Calls Try.prog 8 #[] w fun e w' => e = .returned (.bool true) ∧ Below w.heap.size w w' := by
  go_enter Try.func8, Try.ntmps8
  go_wp2_with fail
  refine (small17_any _).mono ?_
  rintro e w3 ⟨g, rfl, hT, hb⟩
  have HB3 := hidden hb
  have hC := ballc w3 (.cells #[.int .i64 4, .int .i64 1, .int .i64 1, .int .i64 20, .int .i64 64, .int .i64 1, .int .i64 64, .int .i64 190, .int .i64 10, .int .i64 3, .slice (some ⟨g, 0, none⟩) 4 4] 24)
  have HC := hidden (blk_nw w3 #[.int .i64 4, .int .i64 1, .int .i64 1, .int .i64 20, .int .i64 64, .int .i64 1, .int .i64 64, .int .i64 190, .int .i64 10, .int .i64 3, .slice (some ⟨g, 0, none⟩) 4 4] 24)
  have HT3 := hidden (hT.below hC)
  have HBC := hidden (bthen HB3.out hC)
  have hV : kStr.Lies ((w3.alloc (.cells #[.int .i64 4, .int .i64 1, .int .i64 1, .int .i64 20, .int .i64 64, .int .i64 1, .int .i64 64, .int .i64 190, .int .i64 10, .int .i64 3, .slice (some ⟨g, 0, none⟩) 4 4] 24)).alloc (.cells #[.string ⟨#[49, 49, 49, 49, 49, 49]⟩, .string ⟨#[49, 49, 49, 49, 49, 49]⟩, .string ⟨#[49, 49, 49, 49, 49, 49]⟩] 9)).heap.size ((w3.alloc (.cells #[.int .i64 4, .int .i64 1, .int .i64 1, .int .i64 20, .int .i64 64, .int .i64 1, .int .i64 64, .int .i64 190, .int .i64 10, .int .i64 3, .slice (some ⟨g, 0, none⟩) 4 4] 24)).alloc (.cells #[.string ⟨#[49, 49, 49, 49, 49, 49]⟩, .string ⟨#[49, 49, 49, 49, 49, 49]⟩, .string ⟨#[49, 49, 49, 49, 49, 49]⟩] 9)) (.slice (some ⟨w3.heap.size + 1, 0, none⟩) 3 3) [⟨#[49, 49, 49, 49, 49, 49]⟩, ⟨#[49, 49, 49, 49, 49, 49]⟩, ⟨#[49, 49, 49, 49, 49, 49]⟩] := by
    have h := Kind.Lies.of_block (K := kStr) (es := [⟨#[49, 49, 49, 49, 49, 49]⟩, ⟨#[49, 49, 49, 49, 49, 49]⟩, ⟨#[49, 49, 49, 49, 49, 49]⟩]) (heap_alloc_new (w3.alloc (.cells #[.int .i64 4, .int .i64 1, .int .i64 1, .int .i64 20, .int .i64 64, .int .i64 1, .int .i64 64, .int .i64 190, .int .i64 10, .int .i64 3, .slice (some ⟨g, 0, none⟩) 4 4] 24)) (.cells #[.string ⟨#[49, 49, 49, 49, 49, 49]⟩, .string ⟨#[49, 49, 49, 49, 49, 49]⟩, .string ⟨#[49, 49, 49, 49, 49, 49]⟩] 9)) (by simp [maxLen])
    have e : (w3.alloc (.cells #[.int .i64 4, .int .i64 1, .int .i64 1, .int .i64 20, .int .i64 64, .int .i64 1, .int .i64 64, .int .i64 190, .int .i64 10, .int .i64 3, .slice (some ⟨g, 0, none⟩) 4 4] 24)).heap.size = w3.heap.size + 1 := by simp
    rw [← e]
    exact h
  have CM := hidden (move17_any g (some ⟨w3.heap.size + 1, 0, none⟩) ((w3.alloc (.cells #[.int .i64 4, .int .i64 1, .int .i64 1, .int .i64 20, .int .i64 64, .int .i64 1, .int .i64 64, .int .i64 190, .int .i64 10, .int .i64 3, .slice (some ⟨g, 0, none⟩) 4 4] 24)).alloc (.cells #[.string ⟨#[49, 49, 49, 49, 49, 49]⟩, .string ⟨#[49, 49, 49, 49, 49, 49]⟩, .string ⟨#[49, 49, 49, 49, 49, 49]⟩] 9)) (HT3.out.below (ballc _ _)) hV)
  have HB4 := hidden (bthen HBC.out (ballc _ (.cells #[.string ⟨#[49, 49, 49, 49, 49, 49]⟩, .string ⟨#[49, 49, 49, 49, 49, 49]⟩, .string ⟨#[49, 49, 49, 49, 49, 49]⟩] 9)))
  have HT4 := hidden (HT3.out.below (ballc _ (.cells #[.string ⟨#[49, 49, 49, 49, 49, 49]⟩, .string ⟨#[49, 49, 49, 49, 49, 49]⟩, .string ⟨#[49, 49, 49, 49, 49, 49]⟩] 9)))
  have HC4 := hidden (blk_later HC.out (ballc _ (.cells #[.string ⟨#[49, 49, 49, 49, 49, 49]⟩, .string ⟨#[49, 49, 49, 49, 49, 49]⟩, .string ⟨#[49, 49, 49, 49, 49, 49]⟩] 9)))
  clear hT hb hV hC HT3 HC HBC
  go_wp2_with fail
  refine CM.out.mono ?_
  rintro e w5 ⟨rfl, hb⟩
  have HB5 := hidden (bthen HB4.out hb)
  have HT5 := hidden (HT4.out.below hb)
  have HC5 := hidden (blk_later HC4.out hb)
  have c0 := blk_cell HC5.out
  have l0 := blk_lt HC5.out
  clear hb CM HT4 HC4
  go_wp2_with fail
  refine (Calls.ret_to (PBlank_any 4 1 1 20 64 1 64 190 10 3 (some ⟨g, 0, none⟩) 4 [0, 1, 2, 3] 6 _ (by decide) HT5.out (by rw [plainE_small]; rfl) (by decide)) (pval_s blank_small17)).mono ?_
  rintro e w6 ⟨rfl, hb⟩
  have HB6 := hidden (bthen HB5.out hb)
  have HT6 := hidden (HT5.out.below hb)
  have HC6 := hidden (blk_later HC5.out hb)
  clear hb HT5 c0 l0
  have c0 := blk_cell HC6.out
  have l0 := blk_lt HC6.out
  go_wp2_with fail
  refine (Calls.ret_to (Tell_any 4 1 1 20 64 1 64 190 10 3 (some ⟨g, 0, none⟩) 4 [0, 1, 2, 3] 6 1 6 ⟨#[48, 49, 51, 52, 53, 50]⟩ (by decide) _ (by decide) HT6.out (by rw [plainE_small]; rfl) (by rw [plainE_small]; rfl) (by decide) (by decide) (by decide) (.inr ⟨rfl, by decide, by decide⟩)) (pval_s tell_small17)).mono ?_
  rintro e w7 ⟨rfl, hb⟩
  have HB7 := hidden (bthen HB6.out hb)
  have HT7 := hidden (HT6.out.below hb)
  have HC7 := hidden (blk_later HC6.out hb)
  clear hb HT6 c0 l0
  have c0 := blk_cell HC7.out
  have l0 := blk_lt HC7.out
  go_wp2_with fail
  refine (Calls.ret_to (Begin_any 4 1 1 20 64 1 64 190 10 3 (some ⟨g, 0, none⟩) 4 [0, 1, 2, 3] 6 ⟨#[50, 50, 50, 50, 50, 50]⟩ 1 (by decide) _ (by decide) HT7.out (by rw [plainE_small]; rfl) (by decide)) (pval_s begin_small17)).mono ?_
  rintro e w8 ⟨rfl, hb⟩
  have HB8 := hidden (bthen HB7.out hb)
  clear hb c0 l0
  go_wp2
  go_ret
  exact ⟨rfl, HB8.out⟩
end Go.Proofs.Ytkolhbacgoafcaa

/- A configuration that came in as an argument, opened: ten numbers, and a table that lies behind its address; no conditions. -/
namespace Go.Proofs.Ytkolhbacgoafcaa
open Go.ChangeShapes Go.WideShapes Go.ChangeAt Go.RowKit
set_option linter.unusedVariables false

theorem array11 {α : Type} {cs : Array α} (h : cs.size = 11) : ∃ c0 c1 c2 c3 c4 c5 c6 c7 c8 c9 c10, cs = #[c0, c1, c2, c3, c4, c5, c6, c7, c8, c9, c10] := by
  obtain ⟨l⟩ := cs
  match l, h with
  | [c0, c1, c2, c3, c4, c5, c6, c7, c8, c9, c10], _ => exact ⟨c0, c1, c2, c3, c4, c5, c6, c7, c8, c9, c10, rfl⟩
theorem some_of_lt {α : Type} {xs : List α} {i m : Nat} {x : Option α} (h : xs.length = m) (hi : i < m) (e : x = xs[i]?) : ∃ y, x = some y := by
  subst h
  exact ⟨_, by rw [e, List.getElem?_eq_getElem hi]⟩

section
variable {H : Type} {enc : TypeId × Value → H} {w : World} {base : Nat} {spare : Nat → Bool} {held : Bool}
set_option maxRecDepth 100000 in
/-- A row of numbers that came in: where its cells lie. -/
theorem open_row {fuel : Nat} {c : Value} {x : DataW H × List MemPlace} (h : DataW.trod enc Try.prog w base spare held fuel 22 [c] = some x) :
    ∃ (ad : Option Addr) (cap : Nat) (zs : List Int), c = .slice ad zs.length cap ∧ zs.length ≤ 9223372036854775807 ∧ Tab w ad zs ∧ (∀ z ∈ zs, (Lit.int .i64 z).wf = true) := by
  rcases open_ints Try.underlying22 Try.underlying3 (by kernel_rfl) h with ⟨hcs, _⟩ | ⟨a, len, cap, zs, hcs, _, hl, hm, hz, _, hcell, hw⟩
  · exact ⟨none, 0, [], by simpa using hcs, by simp, fun i hi => absurd hi (Nat.not_lt_zero _), fun z hz => by cases hz⟩
  · unfold maxLen at hm
    have hle : len ≤ zs.length := by rw [hz]; split <;> omega
    have hlen : (zs.take len).length = len := by rw [List.length_take]; omega
    refine ⟨some a, cap, zs.take len, ?_, by omega, ?_, fun z hz => hw z (List.mem_of_mem_take hz)⟩
    · rw [hlen]; simpa using hcs
    · intro i hi
      rw [hlen] at hi
      refine ⟨a, rfl, ?_⟩
      rw [hcell i (by omega)]
      simp [List.getD_eq_getElem?_getD, hi]
set_option maxRecDepth 100000 in
theorem open_row_arg {r : Reach} {b0 : Nat} {v : Value} {dt : DataW H} {ps : List MemPlace} (hv : Value.okWide Try.prog w r b0 22 v) (h : DataW.Trod enc Try.prog w base spare held 22 v dt ps) :
    ∃ (ad : Option Addr) (cap : Nat) (zs : List Int), v = .slice ad zs.length cap ∧ zs.length ≤ 9223372036854775807 ∧ Tab w ad zs ∧ (∀ z ∈ zs, (Lit.int .i64 z).wf = true) := by
  obtain ⟨x, y, c, rfl⟩ := okWide_slice Try.underlying22 hv
  obtain ⟨fu, hf⟩ := h
  exact open_row (by simpa [Value.cells] using hf)
set_option maxRecDepth 100000 in
theorem open_conf {r : Reach} {b0 : Nat} {v : Value} {dt : DataW H} {ps : List MemPlace} (hv : Value.okWide Try.prog w r b0 24 v) (h : DataW.Trod enc Try.prog w base spare held 24 v dt ps) :
    ∃ (n f d p r dr o sl md fr : Int) (ad : Option Addr) (cap : Nat) (zs : List Int), v = .agg #[.int .i64 n, .int .i64 f, .int .i64 d, .int .i64 p, .int .i64 r, .int .i64 dr, .int .i64 o, .int .i64 sl, .int .i64 md, .int .i64 fr, .slice ad zs.length cap] ∧ zs.length ≤ 9223372036854775807 ∧ Tab w ad zs := by
  have hs := Try.underlying24
  obtain ⟨cs, rfl, hsz⟩ := okWide_struct hs hv
  obtain ⟨c0, c1, c2, c3, c4, c5, c6, c7, c8, c9, c10, rfl⟩ := array11 (hsz.trans (by kernel_rfl))
  obtain ⟨fuel, hf⟩ := h
  obtain ⟨xs, m, _, _, _, hxl, hfs⟩ := DataW.trod_struct hs hf
  have k3 : Try.prog.cellsOf 3 = 1 := by kernel_rfl
  have k22 : Try.prog.cellsOf 22 = 1 := by kernel_rfl
  obtain ⟨y0, q0⟩ := some_of_lt hxl (by decide : 0 < 11) (hfs 0 _ rfl)
  have z0 : DataW.trod enc Try.prog w base spare held m 3 [c0] = some y0 := by simpa [Value.cells, k3] using q0
  obtain ⟨x0, h0, _⟩ := DataW.trod_int Try.underlying3 z0
  simp only [List.cons.injEq, and_true] at h0
  subst h0
  obtain ⟨y1, q1⟩ := some_of_lt hxl (by decide : 1 < 11) (hfs 1 _ rfl)
  have z1 : DataW.trod enc Try.prog w base spare held m 3 [c1] = some y1 := by simpa [Value.cells, k3] using q1
  obtain ⟨x1, h1, _⟩ := DataW.trod_int Try.underlying3 z1
  simp only [List.cons.injEq, and_true] at h1
  subst h1
  obtain ⟨y2, q2⟩ := some_of_lt hxl (by decide : 2 < 11) (hfs 2 _ rfl)
  have z2 : DataW.trod enc Try.prog w base spare held m 3 [c2] = some y2 := by simpa [Value.cells, k3] using q2
  obtain ⟨x2, h2, _⟩ := DataW.trod_int Try.underlying3 z2
  simp only [List.cons.injEq, and_true] at h2
  subst h2
  obtain ⟨y3, q3⟩ := some_of_lt hxl (by decide : 3 < 11) (hfs 3 _ rfl)
  have z3 : DataW.trod enc Try.prog w base spare held m 3 [c3] = some y3 := by simpa [Value.cells, k3] using q3
  obtain ⟨x3, h3, _⟩ := DataW.trod_int Try.underlying3 z3
  simp only [List.cons.injEq, and_true] at h3
  subst h3
  obtain ⟨y4, q4⟩ := some_of_lt hxl (by decide : 4 < 11) (hfs 4 _ rfl)
  have z4 : DataW.trod enc Try.prog w base spare held m 3 [c4] = some y4 := by simpa [Value.cells, k3] using q4
  obtain ⟨x4, h4, _⟩ := DataW.trod_int Try.underlying3 z4
  simp only [List.cons.injEq, and_true] at h4
  subst h4
  obtain ⟨y5, q5⟩ := some_of_lt hxl (by decide : 5 < 11) (hfs 5 _ rfl)
  have z5 : DataW.trod enc Try.prog w base spare held m 3 [c5] = some y5 := by simpa [Value.cells, k3] using q5
  obtain ⟨x5, h5, _⟩ := DataW.trod_int Try.underlying3 z5
  simp only [List.cons.injEq, and_true] at h5
  subst h5
  obtain ⟨y6, q6⟩ := some_of_lt hxl (by decide : 6 < 11) (hfs 6 _ rfl)
  have z6 : DataW.trod enc Try.prog w base spare held m 3 [c6] = some y6 := by simpa [Value.cells, k3] using q6
  obtain ⟨x6, h6, _⟩ := DataW.trod_int Try.underlying3 z6
  simp only [List.cons.injEq, and_true] at h6
  subst h6
  obtain ⟨y7, q7⟩ := some_of_lt hxl (by decide : 7 < 11) (hfs 7 _ rfl)
  have z7 : DataW.trod enc Try.prog w base spare held m 3 [c7] = some y7 := by simpa [Value.cells, k3] using q7
  obtain ⟨x7, h7, _⟩ := DataW.trod_int Try.underlying3 z7
  simp only [List.cons.injEq, and_true] at h7
  subst h7
  obtain ⟨y8, q8⟩ := some_of_lt hxl (by decide : 8 < 11) (hfs 8 _ rfl)
  have z8 : DataW.trod enc Try.prog w base spare held m 3 [c8] = some y8 := by simpa [Value.cells, k3] using q8
  obtain ⟨x8, h8, _⟩ := DataW.trod_int Try.underlying3 z8
  simp only [List.cons.injEq, and_true] at h8
  subst h8
  obtain ⟨y9, q9⟩ := some_of_lt hxl (by decide : 9 < 11) (hfs 9 _ rfl)
  have z9 : DataW.trod enc Try.prog w base spare held m 3 [c9] = some y9 := by simpa [Value.cells, k3] using q9
  obtain ⟨x9, h9, _⟩ := DataW.trod_int Try.underlying3 z9
  simp only [List.cons.injEq, and_true] at h9
  subst h9
  obtain ⟨y10, q10⟩ := some_of_lt hxl (by decide : 10 < 11) (hfs 10 _ rfl)
  have z10 : DataW.trod enc Try.prog w base spare held m 22 [c10] = some y10 := by simpa [Value.cells, k22] using q10
  obtain ⟨ad, cap, zs, h10, hl, hT, _⟩ := open_row z10
  subst h10
  exact ⟨x0, x1, x2, x3, x4, x5, x6, x7, x8, x9, ad, cap, zs, rfl, hl, hT⟩
end
end Go.Proofs.Ytkolhbacgoafcaa

/- A row of texts that came in as an argument, opened: where its texts lie, and that their lengths fit int; no conditions. -/
namespace Go.Proofs.Ytkolhbacgoafcaa
open Go.ChangeShapes Go.WideShapes Go.ChangeAt Go.RowKit
set_option linter.unusedVariables false

/-- Rows of texts whose lengths fit int. -/
def kStrz : Kind { s : ByteArray // s.size ≤ 9223372036854775807 } := ⟨1, fun s => [.string s.1], fun _ => rfl, by intro a u hu; simp at hu; subst hu; rfl, by decide⟩
theorem kStrz_flat (l : List { s : ByteArray // s.size ≤ 9223372036854775807 }) : kStrz.flat l = kStr.flat (l.map Subtype.val) := by
  induction l with
  | nil => rfl
  | cons a l ih => simp only [Kind.flat, List.flatMap_cons, List.map_cons] at ih ⊢; rw [ih]; rfl
section
variable {H : Type} {enc : TypeId × Value → H} {w : World} {base : Nat} {spare : Nat → Bool} {held : Bool}
theorem dec_strz (n : Nat) (cs : List Value) (y : DataW H × List MemPlace) (hl : cs.length = kStrz.k) (h : DataW.trod enc Try.prog w base spare held n 9 cs = some y) : ∃ a, cs = kStrz.enc a := by
  obtain ⟨c0, rfl⟩ : ∃ c0, cs = [c0] := by
    have h2 : cs.length = 1 := hl
    match cs, h2 with
    | [c0], _ => exact ⟨c0, rfl⟩
  obtain ⟨x0, h0, _, w0⟩ := DataW.trod_string Try.underlying9 h
  unfold maxLen at w0
  exact ⟨⟨x0, w0⟩, h0⟩
set_option maxRecDepth 100000 in
theorem open_strz {r : Reach} {b0 : Nat} {v : Value} {dt : DataW H} {ps : List MemPlace} (hv : Value.okWide Try.prog w r b0 30 v) (h : DataW.Trod enc Try.prog w base spare held 30 v dt ps) :
    ∃ (ad : Option Addr) (cap : Nat) (es : List ByteArray), v = .slice ad es.length cap ∧ es.length ≤ 9223372036854775807 ∧ kStr.Lies w.heap.size w (.slice ad es.length cap) es ∧ ∀ t ∈ es, t.size ≤ 9223372036854775807 := by
  obtain ⟨ad, cap, es, rfl, hl, hE⟩ := kStrz.open_arg Try.underlying30 (by kernel_rfl) dec_strz hv h
  refine ⟨ad, cap, es.map Subtype.val, by rw [List.length_map], by rw [List.length_map]; exact hl, ?_, ?_⟩
  · obtain ⟨ad', c, hv, h1, h2, h3, hc⟩ := hE
    refine ⟨ad', c, by rw [List.length_map]; exact hv, by rw [List.length_map]; exact h1, h2, h3, fun hj => ?_⟩
    rw [← kStrz_flat]
    exact hc (by simpa using hj)
  · intro t ht
    obtain ⟨q, _, rfl⟩ := List.mem_map.1 ht
    exact q.2
end
end Go.Proofs.Ytkolhbacgoafcaa
