/- Several texts of one's own in one: what each proves, and its conditions, is said ahead of it. -/
import Derived.Test.YtkopmhmbldohdaaBa
import Derived.Test.YtkopmhmbldohdaaBc
import Derived.Test.YtkopmhmbldohdaaBh
import Derived.Deep.RegionHeld3
import Derived.Deep.DeepCutAuto

/- A row of packets that came in as an argument, opened: where its packets lie, and that their texts' lengths fit int; no conditions. -/
namespace Go.Proofs.Ytkopmhmbldohdaa
open Go.ChangeShapes Go.WideShapes Go.ChangeAt Go.RowKit
set_option linter.unusedVariables false

/-- Rows of packets whose Vec fits int. -/
def kPktz : Kind { q : Pkt // q.ve.size ≤ 9223372036854775807 } := ⟨6, fun q => pktC q.1, fun _ => rfl, by intro a u hu; simp [pktC] at hu; rcases hu with rfl | rfl | rfl | rfl | rfl | rfl <;> rfl, by decide⟩
theorem kPktz_flat (l : List { q : Pkt // q.ve.size ≤ 9223372036854775807 }) : kPktz.flat l = kPkt.flat (l.map Subtype.val) := by
  induction l with
  | nil => rfl
  | cons a l ih => simp only [Kind.flat, List.flatMap_cons, List.map_cons] at ih ⊢; rw [ih]; rfl
section
variable {H : Type} {enc : TypeId × Value → H} {w : World} {base : Nat} {spare : Nat → Bool} {held : Bool}
set_option maxRecDepth 100000 in
theorem dec_pktz (n : Nat) (cs : List Value) (y : DataW H × List MemPlace) (hl : cs.length = kPktz.k) (h : DataW.trod enc Try.prog w base spare held n 38 cs = some y) : ∃ a, cs = kPktz.enc a := by
  obtain ⟨c0, c1, c2, c3, c4, c5, rfl⟩ : ∃ c0 c1 c2 c3 c4 c5, cs = [c0, c1, c2, c3, c4, c5] := by
    have h2 : cs.length = 6 := hl
    match cs, h2 with
    | [c0, c1, c2, c3, c4, c5], _ => exact ⟨c0, c1, c2, c3, c4, c5, rfl⟩
  obtain ⟨xs, m, _, _, _, hxl, hfs⟩ := DataW.trod_struct Try.underlying38 h
  have k3 : Try.prog.cellsOf 3 = 1 := by kernel_rfl
  have k9 : Try.prog.cellsOf 9 = 1 := by kernel_rfl
  obtain ⟨y0, q0⟩ := some_of_lt hxl (by decide : 0 < 6) (hfs 0 _ rfl)
  obtain ⟨x0, h0, _, w0⟩ := DataW.trod_string Try.underlying9 (show DataW.trod enc Try.prog w base spare held m 9 [c0] = some y0 by simpa [Value.cells, k9] using q0)
  obtain ⟨y1, q1⟩ := some_of_lt hxl (by decide : 1 < 6) (hfs 1 _ rfl)
  obtain ⟨x1, h1, _, w1⟩ := DataW.trod_int Try.underlying3 (show DataW.trod enc Try.prog w base spare held m 3 [c1] = some y1 by simpa [Value.cells, k3] using q1)
  obtain ⟨y2, q2⟩ := some_of_lt hxl (by decide : 2 < 6) (hfs 2 _ rfl)
  obtain ⟨x2, h2, _, w2⟩ := DataW.trod_string Try.underlying9 (show DataW.trod enc Try.prog w base spare held m 9 [c2] = some y2 by simpa [Value.cells, k9] using q2)
  obtain ⟨y3, q3⟩ := some_of_lt hxl (by decide : 3 < 6) (hfs 3 _ rfl)
  obtain ⟨x3, h3, _, w3⟩ := DataW.trod_int Try.underlying3 (show DataW.trod enc Try.prog w base spare held m 3 [c3] = some y3 by simpa [Value.cells, k3] using q3)
  obtain ⟨y4, q4⟩ := some_of_lt hxl (by decide : 4 < 6) (hfs 4 _ rfl)
  obtain ⟨x4, h4, _, w4⟩ := DataW.trod_int Try.underlying3 (show DataW.trod enc Try.prog w base spare held m 3 [c4] = some y4 by simpa [Value.cells, k3] using q4)
  obtain ⟨y5, q5⟩ := some_of_lt hxl (by decide : 5 < 6) (hfs 5 _ rfl)
  obtain ⟨x5, h5, _, w5⟩ := DataW.trod_string Try.underlying9 (show DataW.trod enc Try.prog w base spare held m 9 [c5] = some y5 by simpa [Value.cells, k9] using q5)
  simp only [List.cons.injEq, and_true] at h0 h1 h2 h3 h4 h5
  subst h0 h1 h2 h3 h4 h5
  unfold maxLen at w0 w2 w5
  exact ⟨⟨⟨x0, x1, x2, x3, x4, x5⟩, w2⟩, rfl⟩
theorem pktz_out {ad : Option Addr} {cap : Nat} {es : List { q : Pkt // q.ve.size ≤ 9223372036854775807 }} (hl : es.length ≤ 9223372036854775807) (hE : kPktz.Lies w.heap.size w (.slice ad es.length cap) es) :
    (es.map Subtype.val).length ≤ 9223372036854775807 ∧ kPkt.Lies w.heap.size w (.slice ad (es.map Subtype.val).length cap) (es.map Subtype.val) ∧ ∀ q ∈ es.map Subtype.val, q.ve.size ≤ 9223372036854775807 := by
  refine ⟨by rw [List.length_map]; exact hl, ?_, ?_⟩
  · obtain ⟨ad', c, hv, h1, h2, h3, hc⟩ := hE
    refine ⟨ad', c, by rw [List.length_map]; exact hv, by rw [List.length_map]; exact h1, h2, h3, fun hj => ?_⟩
    rw [← kPktz_flat]
    exact hc (by simpa using hj)
  · intro t ht
    obtain ⟨q, _, rfl⟩ := List.mem_map.1 ht
    exact q.2
set_option maxRecDepth 100000 in
theorem open_pks {r : Reach} {b0 : Nat} {v : Value} {dt : DataW H} {ps : List MemPlace} (hv : Value.okWide Try.prog w r b0 52 v) (h : DataW.Trod enc Try.prog w base spare held 52 v dt ps) :
    ∃ (ad : Option Addr) (cap : Nat) (es : List Pkt), v = .slice ad es.length cap ∧ es.length ≤ 9223372036854775807 ∧ kPkt.Lies w.heap.size w (.slice ad es.length cap) es ∧ ∀ q ∈ es, q.ve.size ≤ 9223372036854775807 := by
  obtain ⟨ad, cap, es, rfl, hl, hE⟩ := kPktz.open_arg Try.underlying52 (by kernel_rfl) dec_pktz hv h
  obtain ⟨h1, h2, h3⟩ := pktz_out hl hE
  exact ⟨ad, cap, es.map Subtype.val, by rw [List.length_map], h1, h2, h3⟩
theorem rows_pks {c : Value} {fuel : Nat} {y : DataW H × List MemPlace} (h : DataW.trod enc Try.prog w base spare held fuel 52 [c] = some y) :
    ∃ (ad : Option Addr) (cap : Nat) (es : List Pkt), c = .slice ad es.length cap ∧ es.length ≤ 9223372036854775807 ∧ kPkt.Lies w.heap.size w (.slice ad es.length cap) es ∧ ∀ q ∈ es, q.ve.size ≤ 9223372036854775807 := by
  obtain ⟨ad, cap, es, rfl, hl, hE⟩ := kPktz.open_rows Try.underlying52 (by kernel_rfl) dec_pktz h
  obtain ⟨h1, h2, h3⟩ := pktz_out hl hE
  exact ⟨ad, cap, es.map Subtype.val, by rw [List.length_map], h1, h2, h3⟩
end
end Go.Proofs.Ytkopmhmbldohdaa

/- The document's call All of layer 24 returns what plain functions give, and makes at most new memory; conditions: the table and the row lie where they say, lengths and numbers fit int. -/
namespace Go.Proofs.Ytkopmhmbldohdaa
open Go.ChangeShapes Go.WideShapes Go.ChangeAt Go.RowKit
set_option linter.unusedVariables false
attribute [local go_sem] cell_rg
attribute [local go_sem ↓] ldM_eq

set_option maxRecDepth 100000 in
set_option maxHeartbeats 8000000 in
theorem rAll_any (n f d p r dr o sl md fr : Int) (ad : Option Addr) (cap : Nat) (zs : List Int) (mm : Array Value) (mc ma mn mr : Int) (mz mh mt ml : ByteArray) (hM : MemW mm mc ma mn mr mz mh mt ml) (a2 : Option Addr) (c2 : Nat) (qs : List Pkt) (w : World) (hl : zs.length ≤ 9223372036854775807) (hT : Tab w ad zs) (hm : mh.size ≤ 9223372036854775807) (hm2 : mz.size ≤ 9223372036854775807) (hq : qs.length ≤ 1000) (hV : kPkt.Lies w.heap.size w (.slice a2 qs.length c2) qs) (A : StT)
    (hA : A = allF (plainE n f d p r dr o sl md fr zs) (fun i q h => chkC n f d p r dr o sl md fr zs mc ma mn mr i q.ps q.cy q.te h) zs.length n mh mz qs) :
    Calls Try.prog 29 #[.agg #[.int .i64 n, .int .i64 f, .int .i64 d, .int .i64 p, .int .i64 r, .int .i64 dr, .int .i64 o, .int .i64 sl, .int .i64 md, .int .i64 fr, .slice ad zs.length cap], .agg mm, .slice a2 qs.length c2] w fun e w' => ∃ v, e = .returned (.tuple #[.string A.hd, .string A.sn, v, .int .i64 (A.no : Int)]) ∧ w'.ownsRow w.heap.size 47 4 v A.got.length (kDlv.flat A.got) ∧ Below w.heap.size w w' := by
  obtain ⟨k0, k1⟩ := blk2 w #[.int .i64 n, .int .i64 f, .int .i64 d, .int .i64 p, .int .i64 r, .int .i64 dr, .int .i64 o, .int .i64 sl, .int .i64 md, .int .i64 fr, .slice ad zs.length cap] 24 mm 30
  have hb0 := bthen (ballc w (.cells #[.int .i64 n, .int .i64 f, .int .i64 d, .int .i64 p, .int .i64 r, .int .i64 dr, .int .i64 o, .int .i64 sl, .int .i64 md, .int .i64 fr, .slice ad zs.length cap] 24)) (ballc _ (.cells mm 30))
  have HB0 := hidden hb0
  have HT := hidden (hT.below hb0)
  have HTw := hidden hT
  have HV := hidden hV
  have CP := hidden (fun V h => refPlain_any n f d p r dr o sl md fr ad cap zs V hl h)
  have CT := hidden (fun mk sn hd (hMk : MemW mk mc ma mn mr sn hd mt ml) (k : Nat) (q : Pkt) V h h1 h2 => rTake_any n f d p r dr o sl md fr ad cap zs mk mc ma mn mr sn hd mt ml hMk (k : Int) q.vo q.ex q.ve q.ps q.cy q.te ((fun i (q : Pkt) h => chkC n f d p r dr o sl md fr zs mc ma mn mr i q.ps q.cy q.te h) (k : Int) q hd) V hl h h1 h2 rfl)
  generalize (fun i (q : Pkt) h => chkC n f d p r dr o sl md fr zs mc ma mn mr i q.ps q.cy q.te h) = chk at *
  obtain ⟨i0, hi, hz0, hz1, hz2⟩ := info_of infoDlv
  have HM0 := hidden hM
  have HSZ := hidden (fun k => all_sz (chk := chk) (m := zs.length) (n := n) (qs := qs) hm hm2 k)
  have HBD := hidden (fun k => all_bd chk zs.length n mh mz qs k)
  have HK0 := hidden k0
  have HK1 := hidden k1
  have b0 := blk_cell k0
  have l0 := blk_lt k0
  have hld := ldM_run hM.size k1
  clear hT hV hM k0 k1 hm hm2 hb0
  by_cases hE : plainE n f d p r dr o sl md fr zs = 0
  case neg =>
    obtain rfl : A = ⟨⟨#[]⟩, ⟨#[]⟩, [], 0⟩ := by rw [hA]; exact if_neg hE
    have e0 : (plainE n f d p r dr o sl md fr zs != 0) = true := bne_iff_ne.2 hE
    generalize plainE n f d p r dr o sl md fr zs = E at *
    clear hE hA
    go_enter Try.func29, Try.ntmps29
    go_wp2_with fail
    refine (CP.out _ HT.out).mono ?_
    rintro e w1 ⟨rfl, hb1⟩
    have HB1 := hidden (bthen HB0.out hb1)
    clear hb1 b0 l0 hld
    go_wp2
    refine bodyPost_ret (v := .tuple #[.string ⟨#[]⟩, .string ⟨#[]⟩, .slice none 0 0, .int .i64 0]) (by simp [results, Try.results29, go_sem]) rfl ⟨_, rfl, (World.ownsRow_nil _ _ _ _ : w1.ownsRow w.heap.size 47 4 (.slice none 0 0) 0 []), HB1.out⟩
  have e0 : (plainE n f d p r dr o sl md fr zs != 0) = false := by rw [hE]; rfl
  have HA : Hid (A = allT chk zs.length n mh mz qs qs.length) := by rw [hA]; exact if_pos hE
  clear hA hE
  generalize plainE n f d p r dr o sl md fr zs = E at *
  go_enter Try.func29, Try.ntmps29
  go_wp2_with fail
  refine (CP.out _ HT.out).mono ?_
  rintro e w1 ⟨rfl, hb1⟩
  have HB1 := hidden (bthen HB0.out hb1)
  have HK01 := hidden (blk_later HK0.out hb1)
  have HK11 := hidden (blk_later HK1.out hb1)
  clear hb1 b0 l0 hld HK0 HK1 HT HB0
  go_wp2
  go_loopw [10, 11, 12] (fun gv no i wr => ∃ (k : Nat) (mk : Array Value), k ≤ qs.length ∧ i = .int .i64 k ∧ no = .int .i64 ((allT chk zs.length n mh mz qs k).no : Int) ∧ wr.ownsRow (w.heap.size + 1 + 1) 47 4 gv (allT chk zs.length n mh mz qs k).got.length (kDlv.flat (allT chk zs.length n mh mz qs k).got) ∧ MemW mk mc ma mn mr (allT chk zs.length n mh mz qs k).sn (allT chk zs.length n mh mz qs k).hd mt ml ∧ wr.heap[w.heap.size]? = some (.cells #[.int .i64 n, .int .i64 f, .int .i64 d, .int .i64 p, .int .i64 r, .int .i64 dr, .int .i64 o, .int .i64 sl, .int .i64 md, .int .i64 fr, .slice ad zs.length cap] 24 (0, 0)) ∧ wr.heap[w.heap.size + 1]? = some (.cells mk 30 (0, 0)) ∧ Below w.heap.size w wr) (fun _ _ i _ => qs.length - (intV i).toNat)
  case atStart => exact ⟨0, mm, Nat.zero_le _, rfl, rfl, (World.ownsRow_nil _ _ _ _ : w1.ownsRow (w.heap.size + 1 + 1) 47 4 (.slice none 0 0) 0 []), HM0.out, HK01.out, HK11.out, HB1.out⟩
  case round =>
    obtain ⟨k, mk, hk, rfl, rfl, hown, hMk, k0, k1, hB⟩ := hrel
    have HB := hidden hB
    have HO := hidden hown
    have HMk := hidden hMk
    have HK0 := hidden k0
    have HK1 := hidden k1
    have c10 := hMk.c10
    have c11 := hMk.c11
    have hbd := HBD.out k
    have hsz := HSZ.out k
    have HTr := hidden (HTw.out.below hB)
    clear HB1 HK01 HK11 HSZ HBD hMk hown k0 k1
    by_cases hlt : k < qs.length
    · obtain ⟨b, off, rfl, hbl, e0, e1, e2, e3, e4, e5⟩ := kPkt_six (HV.out.below hB) k hlt
      clear hB
      have HS1 := hidden (fun h => all_skip (chk := chk) (m := zs.length) (n := n) (mh := mh) (mz := mz) (qs := qs) (k := k) h)
      have HS2 := hidden (fun h e => all_take (chk := chk) (m := zs.length) (n := n) (mh := mh) (mz := mz) (qs := qs) (k := k) h e)
      have HS3 := hidden (fun h e => all_no (chk := chk) (m := zs.length) (n := n) (mh := mh) (mz := mz) (qs := qs) (k := k) h e)
      generalize hst : allT chk zs.length n mh mz qs k = st at *
      generalize hqk : qs.getD k noQ = q at *
      clear hst hqk
      obtain ⟨hd, sn, got, no⟩ := st
      obtain ⟨vo, ex, ve, ps, cy, te⟩ := q
      dsimp only at *
      have CTk := hidden (fun V h => CT.out mk sn hd HMk.out k ⟨vo, ex, ve, ps, cy, te⟩ V h hsz.1 hsz.2)
      dsimp only at CTk
      generalize chk (k : Int) ⟨vo, ex, ve, ps, cy, te⟩ hd = C at *
      have i1 : (0 : Int) ≤ (k : Int) := by omega
      have i2 : (k : Int) < (qs.length : Int) := by omega
      have hbw : b < wr.heap.size := by have := HB.out.size; omega
      have b0 := blk_cell HK0.out
      have l0 := blk_lt HK0.out
      have hld := ldM_run HMk.out.size HK1.out
      by_cases hp : ps = 0
      · have j0 : (ps == 0) = true := beq_iff_eq.2 hp
        have HX := hidden (HS1.out hp)
        clear hp HS1 HS2 HS3 CTk
        go_wp2
        go_roundw
        case rel => exact ⟨k + 1, mk, by omega, by go_num, by rw [HX.out], by rw [HX.out]; exact HO.out, by rw [HX.out]; exact HMk.out, HK0.out, HK1.out, HB.out⟩
        case measure => simp [intV]; omega
      have j0 : (ps == 0) = false := beq_eq_false_iff_ne.2 hp
      have HP := hidden hp
      clear hp HS1
      have hC1 : Chn wr.heap.size wr wr := Chn.refl (Nat.le_refl _)
      have hS : ∀ V, Chn wr.heap.size wr V → V.cell? ⟨w.heap.size, 0, none⟩ = some (.int .i64 n) ∧ V.cell? ⟨w.heap.size, 1, none⟩ = some (.int .i64 f) ∧ V.cell? ⟨w.heap.size, 2, none⟩ = some (.int .i64 d) ∧ V.cell? ⟨w.heap.size, 3, none⟩ = some (.int .i64 p) ∧ V.cell? ⟨w.heap.size, 4, none⟩ = some (.int .i64 r) ∧ V.cell? ⟨w.heap.size, 5, none⟩ = some (.int .i64 dr) ∧ V.cell? ⟨w.heap.size, 6, none⟩ = some (.int .i64 o) ∧ V.cell? ⟨w.heap.size, 7, none⟩ = some (.int .i64 sl) ∧ V.cell? ⟨w.heap.size, 8, none⟩ = some (.int .i64 md) ∧ V.cell? ⟨w.heap.size, 9, none⟩ = some (.int .i64 fr) ∧ V.cell? ⟨w.heap.size, 10, none⟩ = some (.slice ad zs.length cap) ∧ (ldM (.pointer (some ⟨w.heap.size + 1, 0, none⟩))).run Try.prog V = .ok (.agg mk) V ∧ V.cell? ⟨b, off + k * 6, none⟩ = some (.string vo) ∧ V.cell? ⟨b, off + k * 6 + 1, none⟩ = some (.int .i64 ex) ∧ V.cell? ⟨b, off + k * 6 + 2, none⟩ = some (.string ve) ∧ V.cell? ⟨b, off + k * 6 + 3, none⟩ = some (.int .i64 ps) ∧ V.cell? ⟨b, off + k * 6 + 4, none⟩ = some (.int .i64 cy) ∧ V.cell? ⟨b, off + k * 6 + 5, none⟩ = some (.string te) := by
        intro V hV
        have a0 := blk_cell (blk_later HK0.out hV.1)
        have a1 := ldM_run HMk.out.size (blk_later HK1.out hV.1)
        have zz : ∀ j u, wr.cell? ⟨b, j, none⟩ = some u → V.cell? ⟨b, j, none⟩ = some u := fun j u hu => (hV.1.cell (p := ⟨b, j, none⟩) hbw).trans hu
        exact ⟨a0 0, a0 1, a0 2, a0 3, a0 4, a0 5, a0 6, a0 7, a0 8, a0 9, a0 10, a1, zz _ _ e0, zz _ _ e1, zz _ _ e2, zz _ _ e3, zz _ _ e4, zz _ _ e5⟩
      go_upto_region 9 with fail
      go_cut [13, 14, 15, 16] (fun va vb pt vc wx => ∃ g : Nat, va = .string (tkM C hd zs.length (ps - 1)) ∧ vb = .string (tkM C sn n (k : Int)) ∧ pt = .pointer (some ⟨g, 0, none⟩) ∧ vc = .int .i64 C ∧ wx.heap[g]? = some (.cells #[.int .i64 (tkI C (k : Int)), .int .i64 (tkI C (ps - 1)), .int .i64 (tkI C cy), .string (tkT C te)] 47 (0, 0)) ∧ wr.heap.size ≤ g ∧ Below wr.heap.size wr wx)
      case first =>
        go_region_held3 (fun V => V.cell? ⟨w.heap.size, 0, none⟩ = some (.int .i64 n) ∧ V.cell? ⟨w.heap.size, 1, none⟩ = some (.int .i64 f) ∧ V.cell? ⟨w.heap.size, 2, none⟩ = some (.int .i64 d) ∧ V.cell? ⟨w.heap.size, 3, none⟩ = some (.int .i64 p) ∧ V.cell? ⟨w.heap.size, 4, none⟩ = some (.int .i64 r) ∧ V.cell? ⟨w.heap.size, 5, none⟩ = some (.int .i64 dr) ∧ V.cell? ⟨w.heap.size, 6, none⟩ = some (.int .i64 o) ∧ V.cell? ⟨w.heap.size, 7, none⟩ = some (.int .i64 sl) ∧ V.cell? ⟨w.heap.size, 8, none⟩ = some (.int .i64 md) ∧ V.cell? ⟨w.heap.size, 9, none⟩ = some (.int .i64 fr) ∧ V.cell? ⟨w.heap.size, 10, none⟩ = some (.slice ad zs.length cap) ∧ (ldM (.pointer (some ⟨w.heap.size + 1, 0, none⟩))).run Try.prog V = .ok (.agg mk) V ∧ V.cell? ⟨b, off + k * 6, none⟩ = some (.string vo) ∧ V.cell? ⟨b, off + k * 6 + 1, none⟩ = some (.int .i64 ex) ∧ V.cell? ⟨b, off + k * 6 + 2, none⟩ = some (.string ve) ∧ V.cell? ⟨b, off + k * 6 + 3, none⟩ = some (.int .i64 ps) ∧ V.cell? ⟨b, off + k * 6 + 4, none⟩ = some (.int .i64 cy) ∧ V.cell? ⟨b, off + k * 6 + 5, none⟩ = some (.string te)) (first | exact hS _ (by repeat (first | with_reducible assumption | with_reducible refine Chn.drew ?_ | with_reducible refine Chn.alloc ?_ _ | with_reducible refine Chn.set ?_ _ _ (by first | exact Nat.le_refl _ | exact Chn.le hC4) _)))
          ((go_at_call 25; refine (CTk.out _ (HTr.out.below (Chn.out (by repeat (first | with_reducible assumption | with_reducible refine Chn.drew ?_ | with_reducible refine Chn.alloc ?_ _ | with_reducible refine Chn.set ?_ _ _ (by first | exact Nat.le_refl _ | exact Chn.le hC4) _))))).mono ?_; rintro e w4 ⟨rfl, hb4⟩; have hC4 := Chn.below (show Chn wr.heap.size wr _ from (by repeat (first | with_reducible assumption | with_reducible refine Chn.drew ?_ | with_reducible refine Chn.alloc ?_ _ | with_reducible refine Chn.set ?_ _ _ (by first | exact Nat.le_refl _ | exact Chn.le hC4) _))) hb4; (first | (have kz : w4.heap[wr.heap.size]? = some (.cells #[.int .i64 0, .int .i64 0, .int .i64 0, .string ⟨#[]⟩] 47 (0, 0)) := (by first | with_reducible exact blkV_new hb4 | with_reducible exact blkV_newD hb4 | with_reducible exact blkV_newE hb4); have yz := blk_cell kz; have fz := blk_frozen kz; have lz := blk_lt kz) | skip); clear hb4))
        all_goals
          go_wp2_with fail
          go_meet
          case rel =>
            refine ⟨_, rfl, rfl, rfl, rfl, ?_, ?_, ?_⟩
            · first
                | with_reducible exact set4T kz _ _ _ _
                | with_reducible exact blk_nw _ _ _
                | with_reducible exact set4T (blk_nw _ _ _) _ _ _ _
                | exact heap_alloc_new _ _
            · first
                | with_reducible exact Nat.le_refl _
                | exact hC4.2
            · exact Chn.out (by repeat (first | with_reducible assumption | with_reducible refine Chn.drew ?_ | with_reducible refine Chn.alloc ?_ _ | with_reducible refine Chn.set ?_ _ _ (by first | exact Nat.le_refl _ | exact Chn.le hC4) _))
      case rest =>
       obtain ⟨g, rfl, rfl, rfl, rfl, k5, hg, hbx⟩ := hcut
       have HK5 := hidden k5
       have HKA5 := hidden (blk_later HK0.out hbx)
       have HKB5 := hidden (blk_later HK1.out hbx)
       have HO5 := hidden (own_below HO.out hbx)
       have HB5 := hidden (bthen HB.out hbx)
       have HL5 : Hid (w.heap.size + 1 < g) := by
         have h1 := blk_lt HK1.out
         show _ < _
         omega
       have HLC : Hid (w.heap.size + 1 + 1 ≤ wc.heap.size) := by
         have h1 := blk_lt HK1.out
         have h2 := hbx.size
         show _ ≤ _
         omega
       have HLG := hidden (blk_lt k5)
       clear k5 hg hbx b0 l0 hld CTk hS hC1
       by_cases hC : C = 0
       case neg =>
         have j1 : (C != 0) = true := bne_iff_ne.2 hC
         have HX := hidden (HS3.out HP.out hC)
         have hno : (no : Int) ≤ 1000 := by omega
         generalize tkI C (k : Int) = t1 at *
         generalize tkI C (ps - 1) = t2 at *
         generalize tkI C cy = t3 at *
         generalize tkT C te = t4 at *
         clear hC HS2 HS3
         go_wp2
         go_roundw
         case rel => exact ⟨k + 1, mk, by omega, by go_num, by rw [HX.out]; go_num, by rw [HX.out]; exact HO5.out, by rw [HX.out]; exact HMk.out, HKA5.out, HKB5.out, HB5.out⟩
         case measure => simp [intV]; omega
       subst hC
       have j1 : ((0 : Int) != 0) = false := rfl
       have HX := hidden (HS2.out HP.out rfl)
       clear HS2 HS3
       simp only [tkI, tkT, tkM, if_true] at HK5 HKA5 HKB5 HO5 HB5 ⊢
       obtain ⟨z, hz⟩ : ∃ z, ps - 1 = z := ⟨_, rfl⟩
       simp only [hz] at HX HK5 ⊢
       clear hz
       generalize markB hd zs.length [z] = M1 at *
       generalize markB sn n [(k : Int)] = M2 at *
       have kb := HKB5.out
       have b1 := blk_cell kb
       have f1 := blk_frozen kb
       have l1 := blk_lt kb
       have hS1 := heap_setCell_same wc (w.heap.size + 1) 11 _ _ (.string M1) kb
       have b1' := blk_cell hS1
       have f1' := blk_frozen hS1
       have l1' := blk_lt hS1
       have KB := hidden (heap_setCell_same (wc.setCell ⟨w.heap.size + 1, 11, none⟩ (.string M1)) (w.heap.size + 1) 10 _ _ (.string M2) hS1)
       have g10 : (mk.setIfInBounds 11 (.string M1))[10]? = some (.string sn) := (HMk.out.heard M1).c10
       have KA := hidden ((heap_setCell_other (wc.setCell ⟨w.heap.size + 1, 11, none⟩ (.string M1)) ⟨w.heap.size + 1, 10, none⟩ w.heap.size (.string M2) (show w.heap.size ≠ w.heap.size + 1 by omega)).trans ((heap_setCell_other wc ⟨w.heap.size + 1, 11, none⟩ w.heap.size (.string M1) (show w.heap.size ≠ w.heap.size + 1 by omega)).trans HKA5.out))
       have k5 := (heap_setCell_other (wc.setCell ⟨w.heap.size + 1, 11, none⟩ (.string M1)) ⟨w.heap.size + 1, 10, none⟩ g (.string M2) (show g ≠ w.heap.size + 1 by have := HL5.out; omega)).trans ((heap_setCell_other wc ⟨w.heap.size + 1, 11, none⟩ g (.string M1) (show g ≠ w.heap.size + 1 by have := HL5.out; omega)).trans HK5.out)
       have b5 := blk_cell k5
       have l5 := blk_lt k5
       have HO6 := hidden (ownsRow_setCell_below (ownsRow_setCell_below HO5.out (a := ⟨w.heap.size + 1, 11, none⟩) (by show w.heap.size + 1 < _; omega) (.string M1)) (a := ⟨w.heap.size + 1, 10, none⟩) (by show w.heap.size + 1 < _; omega) (.string M2))
       have HB6 := hidden ((HB5.out.setCell (p := ⟨w.heap.size + 1, 11, none⟩) (show w.heap.size ≤ w.heap.size + 1 by omega) (.string M1)).setCell (p := ⟨w.heap.size + 1, 10, none⟩) (show w.heap.size ≤ w.heap.size + 1 by omega) (.string M2))
       have HM6 := hidden ((HMk.out.heard M1).seen M2)
       clear kb hS1 k5 HK5 HKA5 HKB5 HO5 HB5
       have HS6 : Hid (((wc.setCell ⟨w.heap.size + 1, 11, none⟩ (.string M1)).setCell ⟨w.heap.size + 1, 10, none⟩ (.string M2)).heap.size = wc.heap.size) := by show _ = _; simp
       have HL6 := hidden HLC.out
       go_wp2_with (at_builtin; generalize ((wc.setCell ⟨w.heap.size + 1, 11, none⟩ (.string M1)).setCell ⟨w.heap.size + 1, 10, none⟩ (.string M2)) = W6 at *; refine kDlv.wpList_append _ rfl (.tmp 53) (.tmp 55) 53 rfl (w.heap.size + 1 + 1) 47 i0 (.agg #[.int .i64 0, .int .i64 0, .int .i64 0, .string ⟨#[]⟩]) 40 Try.underlying53 hi hz0 hz1 hz2 rfl u10 got.length _ rfl (HO6.out.alloc _) (.slice (some ⟨wc.heap.size, 0, none⟩) 1 1) [(⟨(k : Int), z, cy, te⟩ : Dlv)] rfl (Kind.Lies.of_block (K := kDlv) (es := [(⟨(k : Int), z, cy, te⟩ : Dlv)]) (blk_newAt W6 _ _ HS6.out.symm) (by simp [maxLen])) (by simp only [maxLen, List.length_singleton]; omega) (by simp only [List.length_singleton]; omega) (by have := HS6.out; have := HL6.out; simp; omega) ?_; intro v3 w3 hown3 hgrow3 _)
       have hrow := own_from HO6.out
       have hA6 := ballc W6 (.cells #[.int .i64 (k : Int), .int .i64 z, .int .i64 cy, .string te] 47)
       have hB7 : Below w.heap.size w w3 := (bthen HB6.out hA6).grown hgrow3 (by have := (bthen HB6.out hA6).size; omega) (fun i hi => by have := hrow i hi; omega)
       have kA := blk_grown (blk_later KA.out hA6) hgrow3 hrow (by omega)
       have kB := blk_grown (blk_later KB.out hA6) hgrow3 hrow (by omega)
       have hown7 : w3.ownsRow (w.heap.size + 1 + 1) 47 4 v3 (got ++ [(⟨(k : Int), z, cy, te⟩ : Dlv)]).length (kDlv.flat (got ++ [(⟨(k : Int), z, cy, te⟩ : Dlv)])) := by
         rw [Kind.flat_append, List.length_append]
         exact hown3
       go_roundw
       case rel => exact ⟨k + 1, _, by omega, by go_num, by rw [HX.out], by rw [HX.out]; exact hown7, by rw [HX.out]; exact HM6.out, kA, kB, hB7⟩
       case measure => simp [intV]; omega
    · obtain rfl : k = qs.length := by omega
      have i2 : ¬ (qs.length : Int) < (qs.length : Int) := by omega
      rw [← HA.out] at HO HMk c10 c11 ⊢
      obtain ⟨hd, sn, got, no⟩ := A
      dsimp only at *
      have HBf := hidden hB
      have b1 := blk_cell HK1.out
      have l1 := blk_lt HK1.out
      clear hB HK0 HK1 HMk
      go_wp2
      refine wp_region_quiet_below (by kernel_rfl) (by kernel_rfl) ?_
      repeat (go_big_quiet_step (fail))
      refine wpQuiet_nil ?_
      intro w5 hw5
      have hb5 := rg_below hw5
      have HO5 := hidden (own_low (own_below HO.out hb5) (show w.heap.size ≤ w.heap.size + 1 + 1 by omega))
      have HB5 := hidden (bthen HBf.out hb5)
      clear hw5 hb5 b1 l1
      go_wp2
      refine bodyPost_ret (v := .tuple #[.string hd, .string sn, u10, .int .i64 (no : Int)]) (by simp [results, Try.results29, go_sem]) rfl ⟨_, rfl, HO5.out, HB5.out⟩
end Go.Proofs.Ytkopmhmbldohdaa
