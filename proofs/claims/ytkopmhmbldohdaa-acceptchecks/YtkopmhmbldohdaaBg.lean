/- Several texts of one's own in one: what each proves, and its conditions, is said ahead of it. -/
import Derived.Test.YtkopmhmbldohdaaBa
import Derived.Test.YtkopmhmbldohdaaBf

/- A packet that came in as an argument, opened: its texts and numbers; no conditions. -/
namespace Go.Proofs.Ytkopmhmbldohdaa
open Go.ChangeShapes Go.WideShapes Go.ChangeAt Go.RowKit
set_option linter.unusedVariables false

section
variable {H : Type} {enc : TypeId × Value → H} {w : World} {base : Nat} {spare : Nat → Bool} {held : Bool}
set_option maxRecDepth 100000 in
theorem open_packet {r : Reach} {b0 : Nat} {v : Value} {dt : DataW H} {pl : List MemPlace} (hv : Value.okWide Try.prog w r b0 38 v) (h : DataW.Trod enc Try.prog w base spare held 38 v dt pl) :
    ∃ (vo : ByteArray) (ex : Int) (ve : ByteArray) (ps cy : Int) (te : ByteArray), v = .agg #[.string vo, .int .i64 ex, .string ve, .int .i64 ps, .int .i64 cy, .string te] ∧ vo.size ≤ 9223372036854775807 ∧ (Lit.int .i64 ex).wf = true ∧ ve.size ≤ 9223372036854775807 ∧ (Lit.int .i64 ps).wf = true ∧ (Lit.int .i64 cy).wf = true ∧ te.size ≤ 9223372036854775807 := by
  have hs := Try.underlying38
  obtain ⟨cs, rfl, hsz⟩ := okWide_struct hs hv
  obtain ⟨c0, c1, c2, c3, c4, c5, rfl⟩ : ∃ c0 c1 c2 c3 c4 c5, cs = #[c0, c1, c2, c3, c4, c5] := by
    obtain ⟨l⟩ := cs
    have h2 : l.length = 6 := hsz.trans (by kernel_rfl)
    match l, h2 with
    | [c0, c1, c2, c3, c4, c5], _ => exact ⟨c0, c1, c2, c3, c4, c5, rfl⟩
  obtain ⟨fuel, hf⟩ := h
  obtain ⟨xs, m, _, _, _, hxl, hfs⟩ := DataW.trod_struct hs hf
  have k3 : Try.prog.cellsOf 3 = 1 := by kernel_rfl
  have k9 : Try.prog.cellsOf 9 = 1 := by kernel_rfl
  obtain ⟨y0, q0⟩ := some_of_lt hxl (by decide : 0 < 6) (hfs 0 _ rfl)
  obtain ⟨x0, h0, _, w0⟩ := DataW.trod_string Try.underlying9 (show DataW.trod enc Try.prog w base spare held m 9 [c0] = some y0 by simpa [Value.cells, k9] using q0)
  obtain ⟨y1, q1⟩ := some_of_lt hxl (by decide : 1 < 6) (hfs 1 _ rfl)
  obtain ⟨x1, h1, _, w1⟩ := DataW.trod_int Try.underlying3 (show DataW.trod enc Try.prog w base spare held m 3 [c1] = some y1 by simpa [Value.cells, k3] using q1)
  obtain ⟨y2, q2⟩ := some_of_lt hxl (by decide : 2 < 6) (hfs 2 _ rfl)
  obtain ⟨x2, h2, _, w2⟩ := DataW.trod_string Try.underlying9 (show DataW.trod enc Try.prog w base spare held m 9 [c2] = some y2 by simpa [Value.cells, k9] using q2)
  obtain ⟨y3, q3⟩ := some_of_lt hxl (by decide : 3 < 6) (hfs 3 _ rfl)
  obtain ⟨x3, h3, _, w3⟩ := DataW.trod_int Try.underlying3 (show DataW.trod enc Try.prog w base spare held m 3 [c3] = some y3 by simpa [Value.cells, k3] using q3)
  obtain ⟨y4, q4⟩ := some_of_lt hxl (by decide : 4 < 6) (hfs 4 _ rfl)
  obtain ⟨x4, h4, _, w4⟩ := DataW.trod_int Try.underlying3 (show DataW.trod enc Try.prog w base spare held m 3 [c4] = some y4 by simpa [Value.cells, k3] using q4)
  obtain ⟨y5, q5⟩ := some_of_lt hxl (by decide : 5 < 6) (hfs 5 _ rfl)
  obtain ⟨x5, h5, _, w5⟩ := DataW.trod_string Try.underlying9 (show DataW.trod enc Try.prog w base spare held m 9 [c5] = some y5 by simpa [Value.cells, k9] using q5)
  simp only [List.cons.injEq, and_true] at h0 h1 h2 h3 h4 h5
  subst h0 h1 h2 h3 h4 h5
  unfold maxLen at w0 w2 w5
  exact ⟨x0, x1, x2, x3, x4, x5, rfl, w0, w1, w2, w3, w4, w5⟩
end
end Go.Proofs.Ytkopmhmbldohdaa

/- The document's call Guard of layer 23 returns what plain functions give, and makes at most new memory; conditions: the table lies where it says, lengths and numbers fit int. -/
namespace Go.Proofs.Ytkopmhmbldohdaa
open Go.ChangeShapes Go.WideShapes Go.ChangeAt Go.RowKit
set_option linter.unusedVariables false
attribute [local go_sem] cell_rg
attribute [local go_sem ↓] ldM_eq

set_option maxHeartbeats 1000000 in
theorem rGuard_any (n f d p r dr o sl md fr : Int) (ad : Option Addr) (cap : Nat) (zs : List Int) (mm : Array Value) (mc ma mn mr : Int) (mz mh mt ml : ByteArray) (hM : MemW mm mc ma mn mr mz mh mt ml) (node : Int) (vo : ByteArray) (ex : Int) (ve : ByteArray) (ps cy : Int) (te : ByteArray) (K : Int) (w : World) (hl : zs.length ≤ 9223372036854775807) (hT : Tab w ad zs) (hm : mt.size ≤ 9223372036854775807) (hK : K = openF (plainE n f d p r dr o sl md fr zs) o sl r dr zs mr ((mc - ma) % 65536) mt node) :
    Calls Try.prog 19 #[.agg #[.int .i64 n, .int .i64 f, .int .i64 d, .int .i64 p, .int .i64 r, .int .i64 dr, .int .i64 o, .int .i64 sl, .int .i64 md, .int .i64 fr, .slice ad zs.length cap], .agg mm, .int .i64 node, .agg #[.string vo, .int .i64 ex, .string ve, .int .i64 ps, .int .i64 cy, .string te]] w fun e w' => e = .returned (.agg #[.string vo, .int .i64 ex, .string ve, .int .i64 (gdS (passB K ps cy te mn ml) ps), .int .i64 (gdS (passB K ps cy te mn ml) cy), .string (gdT (passB K ps cy te mn ml) te)]) ∧ Below w.heap.size w w' := by
  obtain ⟨k0, k1, k2, k3, hb0⟩ := blk4 w #[.int .i64 n, .int .i64 f, .int .i64 d, .int .i64 p, .int .i64 r, .int .i64 dr, .int .i64 o, .int .i64 sl, .int .i64 md, .int .i64 fr, .slice ad zs.length cap] 24 mm 30 #[.string vo, .int .i64 ex, .string ve, .int .i64 ps, .int .i64 cy, .string te] 38 #[.string ⟨#[]⟩, .int .i64 0, .string ⟨#[]⟩, .int .i64 0, .int .i64 0, .string ⟨#[]⟩] 38
  have HB0 := hidden hb0
  have HT := hidden (hT.below hb0)
  have CO := hidden (fun V h => rOpen_any n f d p r dr o sl md fr ad cap zs mm mc ma mn mr mz mh mt ml hM node V hl h hm)
  have CS := hidden (fun V => rStrip_any vo ex ve ps cy te V)
  have HKK := hidden (open_32 (E := plainE n f d p r dr o sl md fr zs) (o := o) (sl := sl) (r := r) (dr := dr) (zs := zs) (mr := mr) (el := (mc - ma) % 65536) (s := mt) (node := node) (fun h => by have := (plainE_ok h).2.2.2.2.2.2.2.2.2.2.2.2.2.2.2.2.2.2.2.2.2.2.1; omega))
  rw [← hK] at CO HKK
  have hs := hM.size
  have c7 := hM.c7
  have c14 := hM.c14
  have HP : Hid (passB K ps cy te mn ml = decide (ps = 0 ∨ (0 ≤ K ∧ ps = K + 1 ∧ cy = mn ∧ te = ml))) := rfl
  generalize passB K ps cy te mn ml = B at *
  have hld := ldM_run hs k1
  have HK1 := hidden k1
  have HK2 := hidden k2
  have HK3 := hidden k3
  have q1 : IntKind.i64.wrap (K + 1) = K + 1 := IntWalk.i64_in _ (by have := HKK.out; omega)
  clear hT hb0 hM k0 k1 k2 k3 hK HKK hs
  go_enter Try.func19, Try.ntmps19
  go_wp2_with fail
  generalize (((w.alloc (.cells #[.int .i64 n, .int .i64 f, .int .i64 d, .int .i64 p, .int .i64 r, .int .i64 dr, .int .i64 o, .int .i64 sl, .int .i64 md, .int .i64 fr, .slice ad zs.length cap] 24)).alloc (.cells mm 30)).alloc (.cells #[.string vo, .int .i64 ex, .string ve, .int .i64 ps, .int .i64 cy, .string te] 38)).alloc (.cells #[.string ⟨#[]⟩, .int .i64 0, .string ⟨#[]⟩, .int .i64 0, .int .i64 0, .string ⟨#[]⟩] 38) = W0 at *
  refine (CO.out _ HT.out).mono ?_
  rintro e w1 ⟨rfl, hb1⟩
  have k1 := blk_later HK1.out hb1
  have k2 := blk_later HK2.out hb1
  have k3 := blk_later HK3.out hb1
  have HB1 := hidden (bthen HB0.out hb1)
  clear hb1 HK1 HK2 HK3 HT CO hld HB0
  have b1 := blk_cell k1
  have l1 := blk_lt k1
  have b2 := blk_cell k2
  have l2 := blk_lt k2
  have b3 := blk_cell k3
  have f3 := blk_frozen k3
  have l3 := blk_lt k3
  have HK3 := hidden k3
  clear k1 k2 k3
  by_cases h0 : ps = 0
  · have e0 : (ps == 0) = true := beq_iff_eq.2 h0
    have H0 := hidden h0
    clear h0
    have HBt : Hid (B = true) := by rw [HP.out]; exact decide_eq_true (.inl H0.out)
    have H6 := hidden (blk_cell (set6T HK3.out (.string vo) (.int .i64 ex) (.string ve) (.int .i64 ps) (.int .i64 cy) (.string te)))
    have HB3 := hidden (below6T HB1.out (show w.heap.size ≤ w.heap.size + 1 + 1 + 1 by omega) (.string vo) (.int .i64 ex) (.string ve) (.int .i64 ps) (.int .i64 cy) (.string te))
    have HR : Hid (Ending.returned (.agg #[.string vo, .int .i64 ex, .string ve, .int .i64 ps, .int .i64 cy, .string te]) = .returned (.agg #[.string vo, .int .i64 ex, .string ve, .int .i64 (gdS B ps), .int .i64 (gdS B cy), .string (gdT B te)])) := by
      show _ = _
      rw [HBt.out]; rfl
    go_wp2
    have h6 := H6.out
    exact bodyPost_ret (v := .agg #[.string vo, .int .i64 ex, .string ve, .int .i64 ps, .int .i64 cy, .string te]) (by simp [results, Try.results19, go_sem, h6]) rfl ⟨HR.out, HB3.out⟩
  have e0 : (ps == 0) = false := beq_eq_false_iff_ne.2 h0
  by_cases h1 : 0 ≤ K
  case neg =>
    have e1 : decide (0 ≤ K) = false := decide_eq_false h1
    have HBt : Hid (B = false) := by
      show _ = _
      rw [HP.out]
      refine decide_eq_false fun c => ?_
      rcases c with c | ⟨c1, c2, c3, c4⟩
      · exact absurd c h0
      · exact absurd c1 h1
    go_wp2_with fail
    refine (CS.out _).mono ?_
    rintro e w4 ⟨rfl, hb4⟩
    have k4 := blk_later HK3.out hb4
    clear b3 f3 l3
    have b3 := blk_cell k4
    have f3 := blk_frozen k4
    have l3 := blk_lt k4
    have H6 := hidden (blk_cell (set6T k4 (.string vo) (.int .i64 ex) (.string ve) (.int .i64 0) (.int .i64 0) (.string ⟨#[]⟩)))
    have HB4 := hidden (below6T (bthen HB1.out hb4) (show w.heap.size ≤ w.heap.size + 1 + 1 + 1 by omega) (.string vo) (.int .i64 ex) (.string ve) (.int .i64 0) (.int .i64 0) (.string ⟨#[]⟩))
    clear hb4 k4 b2 l2 b1 l1
    have HR : Hid (Ending.returned (.agg #[.string vo, .int .i64 ex, .string ve, .int .i64 0, .int .i64 0, .string ⟨#[]⟩]) = .returned (.agg #[.string vo, .int .i64 ex, .string ve, .int .i64 (gdS B ps), .int .i64 (gdS B cy), .string (gdT B te)])) := by
      show _ = _
      rw [HBt.out]; rfl
    go_wp2
    have h6 := H6.out
    exact bodyPost_ret (v := .agg #[.string vo, .int .i64 ex, .string ve, .int .i64 0, .int .i64 0, .string ⟨#[]⟩]) (by simp [results, Try.results19, go_sem, h6]) rfl ⟨HR.out, HB4.out⟩
  have e1 : decide (0 ≤ K) = true := decide_eq_true h1
  have H1 := hidden h1
  clear h1
  by_cases h2 : ps = K + 1
  case neg =>
    have e2 : (ps == K + 1) = false := beq_eq_false_iff_ne.2 h2
    have HBt : Hid (B = false) := by
      show _ = _
      rw [HP.out]
      refine decide_eq_false fun c => ?_
      rcases c with c | ⟨c1, c2, c3, c4⟩
      · exact absurd c h0
      · exact absurd c2 h2
    go_wp2_with fail
    refine (CS.out _).mono ?_
    rintro e w4 ⟨rfl, hb4⟩
    have k4 := blk_later HK3.out hb4
    clear b3 f3 l3
    have b3 := blk_cell k4
    have f3 := blk_frozen k4
    have l3 := blk_lt k4
    have H6 := hidden (blk_cell (set6T k4 (.string vo) (.int .i64 ex) (.string ve) (.int .i64 0) (.int .i64 0) (.string ⟨#[]⟩)))
    have HB4 := hidden (below6T (bthen HB1.out hb4) (show w.heap.size ≤ w.heap.size + 1 + 1 + 1 by omega) (.string vo) (.int .i64 ex) (.string ve) (.int .i64 0) (.int .i64 0) (.string ⟨#[]⟩))
    clear hb4 k4 b2 l2 b1 l1
    have HR : Hid (Ending.returned (.agg #[.string vo, .int .i64 ex, .string ve, .int .i64 0, .int .i64 0, .string ⟨#[]⟩]) = .returned (.agg #[.string vo, .int .i64 ex, .string ve, .int .i64 (gdS B ps), .int .i64 (gdS B cy), .string (gdT B te)])) := by
      show _ = _
      rw [HBt.out]; rfl
    go_wp2
    have h6 := H6.out
    exact bodyPost_ret (v := .agg #[.string vo, .int .i64 ex, .string ve, .int .i64 0, .int .i64 0, .string ⟨#[]⟩]) (by simp [results, Try.results19, go_sem, h6]) rfl ⟨HR.out, HB4.out⟩
  have e2 : (ps == K + 1) = true := beq_iff_eq.2 h2
  have H2 := hidden h2
  clear h2
  by_cases h3 : cy = mn
  case neg =>
    have e3 : (cy == mn) = false := beq_eq_false_iff_ne.2 h3
    have HBt : Hid (B = false) := by
      show _ = _
      rw [HP.out]
      refine decide_eq_false fun c => ?_
      rcases c with c | ⟨c1, c2, c3, c4⟩
      · exact absurd c h0
      · exact absurd c3 h3
    go_wp2_with fail
    refine (CS.out _).mono ?_
    rintro e w4 ⟨rfl, hb4⟩
    have k4 := blk_later HK3.out hb4
    clear b3 f3 l3
    have b3 := blk_cell k4
    have f3 := blk_frozen k4
    have l3 := blk_lt k4
    have H6 := hidden (blk_cell (set6T k4 (.string vo) (.int .i64 ex) (.string ve) (.int .i64 0) (.int .i64 0) (.string ⟨#[]⟩)))
    have HB4 := hidden (below6T (bthen HB1.out hb4) (show w.heap.size ≤ w.heap.size + 1 + 1 + 1 by omega) (.string vo) (.int .i64 ex) (.string ve) (.int .i64 0) (.int .i64 0) (.string ⟨#[]⟩))
    clear hb4 k4 b2 l2 b1 l1
    have HR : Hid (Ending.returned (.agg #[.string vo, .int .i64 ex, .string ve, .int .i64 0, .int .i64 0, .string ⟨#[]⟩]) = .returned (.agg #[.string vo, .int .i64 ex, .string ve, .int .i64 (gdS B ps), .int .i64 (gdS B cy), .string (gdT B te)])) := by
      show _ = _
      rw [HBt.out]; rfl
    go_wp2
    have h6 := H6.out
    exact bodyPost_ret (v := .agg #[.string vo, .int .i64 ex, .string ve, .int .i64 0, .int .i64 0, .string ⟨#[]⟩]) (by simp [results, Try.results19, go_sem, h6]) rfl ⟨HR.out, HB4.out⟩
  have e3 : (cy == mn) = true := beq_iff_eq.2 h3
  have H3 := hidden h3
  clear h3
  by_cases h4 : te = ml
  case neg =>
    have e4 : (te.toList == ml.toList) = false := (bq te ml).trans (decide_eq_false h4)
    have HBt : Hid (B = false) := by
      show _ = _
      rw [HP.out]
      refine decide_eq_false fun c => ?_
      rcases c with c | ⟨c1, c2, c3, c4⟩
      · exact absurd c h0
      · exact absurd c4 h4
    go_wp2_with fail
    refine (CS.out _).mono ?_
    rintro e w4 ⟨rfl, hb4⟩
    have k4 := blk_later HK3.out hb4
    clear b3 f3 l3
    have b3 := blk_cell k4
    have f3 := blk_frozen k4
    have l3 := blk_lt k4
    have H6 := hidden (blk_cell (set6T k4 (.string vo) (.int .i64 ex) (.string ve) (.int .i64 0) (.int .i64 0) (.string ⟨#[]⟩)))
    have HB4 := hidden (below6T (bthen HB1.out hb4) (show w.heap.size ≤ w.heap.size + 1 + 1 + 1 by omega) (.string vo) (.int .i64 ex) (.string ve) (.int .i64 0) (.int .i64 0) (.string ⟨#[]⟩))
    clear hb4 k4 b2 l2 b1 l1
    have HR : Hid (Ending.returned (.agg #[.string vo, .int .i64 ex, .string ve, .int .i64 0, .int .i64 0, .string ⟨#[]⟩]) = .returned (.agg #[.string vo, .int .i64 ex, .string ve, .int .i64 (gdS B ps), .int .i64 (gdS B cy), .string (gdT B te)])) := by
      show _ = _
      rw [HBt.out]; rfl
    go_wp2
    have h6 := H6.out
    exact bodyPost_ret (v := .agg #[.string vo, .int .i64 ex, .string ve, .int .i64 0, .int .i64 0, .string ⟨#[]⟩]) (by simp [results, Try.results19, go_sem, h6]) rfl ⟨HR.out, HB4.out⟩
  have e4 : (te.toList == ml.toList) = true := (bq te ml).trans (decide_eq_true h4)
  have H4 := hidden h4
  clear h4
  have HBt : Hid (B = true) := by rw [HP.out]; exact decide_eq_true (.inr ⟨H1.out, H2.out, H3.out, H4.out⟩)
  have H6 := hidden (blk_cell (set6T HK3.out (.string vo) (.int .i64 ex) (.string ve) (.int .i64 ps) (.int .i64 cy) (.string te)))
  have HB3 := hidden (below6T HB1.out (show w.heap.size ≤ w.heap.size + 1 + 1 + 1 by omega) (.string vo) (.int .i64 ex) (.string ve) (.int .i64 ps) (.int .i64 cy) (.string te))
  have HR : Hid (Ending.returned (.agg #[.string vo, .int .i64 ex, .string ve, .int .i64 ps, .int .i64 cy, .string te]) = .returned (.agg #[.string vo, .int .i64 ex, .string ve, .int .i64 (gdS B ps), .int .i64 (gdS B cy), .string (gdT B te)])) := by
    show _ = _
    rw [HBt.out]; rfl
  go_wp2
  have h6 := H6.out
  exact bodyPost_ret (v := .agg #[.string vo, .int .i64 ex, .string ve, .int .i64 ps, .int .i64 cy, .string te]) (by simp [results, Try.results19, go_sem, h6]) rfl ⟨HR.out, HB3.out⟩
end Go.Proofs.Ytkopmhmbldohdaa
