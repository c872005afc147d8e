/- Of an instance the calls exchange and ends do what plain functions say; conditions: at most 13 nodes, rows lie where they say, and lengths fit int. -/
import Derived.Test.YtklcjfbdneallaaKinD
import Derived.Deep.RegionHeld3
namespace Go.Proofs.Ytklcjfbdneallaa
open Go.ChangeShapes Go.WideShapes Go.ChangeAt Go.RowKit
set_option linter.unusedVariables false

theorem wfN (x : Nat) (hx : x ≤ 100) : (Lit.int .i64 (x : Int)).wf = true := by
  have := wrap64_wf (x : Int)
  rwa [IntWalk.wrap64_in (x : Int) (by omega)] at this
/-- What stands in memory while a node's bit is made. -/
structure Exg (w : World) (N : Nat) (f d p r dr o sl md fr : Int) (ad : Option Addr) (cap : Nat) (zs : List Int) (fa : Nat → Bool) (gl gc gb gv : Nat) (bs : List (Int × Bool)) (vts : List Int) (V : World) (l : List (Int × Bool)) : Prop where
  ins : InsB V w.heap.size N f d p r dr o sl md fr ad cap zs fa gl gc gb
  old : BBlk V gb bs
  row : IBlk V gv vts
  out : BBlk V (w.heap.size + 1) l
  bel : Below w.heap.size w V
  n1 : gb ≠ w.heap.size + 1
  n2 : gv ≠ w.heap.size + 1
variable {w : World} {N : Nat} {f d p r dr o sl md fr : Int} {ad : Option Addr} {cap : Nat} {zs : List Int} {fa : Nat → Bool} {gl gc gb gv : Nat} {bs : List (Int × Bool)} {vts : List Int} in
theorem Exg.drew {V : World} {l : List (Int × Bool)} (h : Exg w N f d p r dr o sl md fr ad cap zs fa gl gc gb gv bs vts V l) : Exg w N f d p r dr o sl md fr ad cap zs fa gl gc gb gv bs vts V.drew l := ⟨h.ins, h.old, h.row, h.out, h.bel.drew, h.n1, h.n2⟩
variable {w : World} {N : Nat} {f d p r dr o sl md fr : Int} {ad : Option Addr} {cap : Nat} {zs : List Int} {fa : Nat → Bool} {gl gc gb gv : Nat} {bs : List (Int × Bool)} {vts : List Int} in
theorem Exg.below {V V' : World} {l : List (Int × Bool)} (h : Exg w N f d p r dr o sl md fr ad cap zs fa gl gc gb gv bs vts V l) (hb : Below V.heap.size V V') : Exg w N f d p r dr o sl md fr ad cap zs fa gl gc gb gv bs vts V' l := ⟨blk_later h.ins hb, h.old.later hb, h.row.later hb, h.out.later hb, h.bel.trans (hb.mono h.bel.size), h.n1, h.n2⟩
variable {w : World} {N : Nat} {f d p r dr o sl md fr : Int} {ad : Option Addr} {cap : Nat} {zs : List Int} {fa : Nat → Bool} {gl gc gb gv : Nat} {bs : List (Int × Bool)} {vts : List Int} in
theorem Exg.set {V : World} {l : List (Int × Bool)} (h : Exg w N f d p r dr o sl md fr ad cap zs fa gl gc gb gv bs vts V l) (k : Nat) (b : Int × Bool) : Exg w N f d p r dr o sl md fr ad cap zs fa gl gc gb gv bs vts ((V.setCell ⟨w.heap.size + 1, k * 2, none⟩ (.int .i64 b.1)).setCell ⟨w.heap.size + 1, k * 2 + 1, none⟩ (.bool b.2)) (l.set k b) :=
  ⟨blk_other (blk_other h.ins ⟨w.heap.size + 1, k * 2, none⟩ _ (by simp)) ⟨w.heap.size + 1, k * 2 + 1, none⟩ _ (by simp), blk_other (blk_other h.old ⟨w.heap.size + 1, k * 2, none⟩ _ h.n1) ⟨w.heap.size + 1, k * 2 + 1, none⟩ _ h.n1,
   blk_other (blk_other h.row ⟨w.heap.size + 1, k * 2, none⟩ _ h.n2) ⟨w.heap.size + 1, k * 2 + 1, none⟩ _ h.n2, h.out.set k b, (h.bel.setCell (p := ⟨w.heap.size + 1, k * 2, none⟩) (by simp) _).setCell (p := ⟨w.heap.size + 1, k * 2 + 1, none⟩) (by simp) _, h.n1, h.n2⟩
set_option maxHeartbeats 4000000 in
theorem exchange_any (N : Nat) (f d p r dr o sl md fr : Int) (ad : Option Addr) (cap : Nat) (zs : List Int) (hN2 : N ≤ 13) (fa : Nat → Bool) (gl gc gb : Nat) (a2 : Option Addr) (c2 : Nat) (vs : List Int) (bs : List (Int × Bool)) (hbl : bs.length = N) (x : Nat) (hx : x ≤ 100) (hx2 : x / 3 < N) (w : World) (hl : zs.length ≤ 9223372036854775807) (hT : Tab w ad zs) (hE : plainE (N : Int) f d p r dr o sl md fr zs = 0) (hlv : vs.length ≤ 9223372036854775807) (hL : kInt.Lies w.heap.size w (.slice a2 vs.length c2) vs) (h1 : w.heap[gl]? = some (.cells #[.slice a2 vs.length c2] 22 (0, 0))) (h2 : w.heap[gc]? = some (.cells #[.int .i64 (N : Int), .int .i64 f, .int .i64 d, .int .i64 p, .int .i64 r, .int .i64 dr, .int .i64 o, .int .i64 sl, .int .i64 md, .int .i64 fr, .slice ad zs.length cap] 24 (0, 0))) (h3 : BBlk w gb bs) :
    Calls Try.prog 53 #[.agg #[.int .i64 (N : Int), .int .i64 f, .int .i64 d, .int .i64 p, .int .i64 r, .int .i64 dr, .int .i64 o, .int .i64 sl, .int .i64 md, .int .i64 fr, .slice ad zs.length cap, .bool (fa 0), .bool (fa 1), .bool (fa 2), .bool (fa 3), .bool (fa 4), .bool (fa 5), .bool (fa 6), .bool (fa 7), .bool (fa 8), .bool (fa 9), .bool (fa 10), .bool (fa 11), .bool (fa 12), .func (.func 61) #[] #[.pointer (some ⟨gl, 0, none⟩), .pointer (some ⟨gc, 0, none⟩)], .slice (some ⟨gb, 0, none⟩) N N], .int .i64 (x : Int)] w fun e w' => ∃ g, e = .returned (.slice (some ⟨g, 0, none⟩) N N) ∧ BBlk w' g (exchL fa vs N f x bs) ∧ w.heap.size ≤ g ∧ Below w.heap.size w w' := by
  have hmk := fun V => make_bits N rfl (by omega) V
  have hB0 : Below w.heap.size w ((w.alloc (.cells #[.int .i64 (N : Int), .int .i64 f, .int .i64 d, .int .i64 p, .int .i64 r, .int .i64 dr, .int .i64 o, .int .i64 sl, .int .i64 md, .int .i64 fr, .slice ad zs.length cap, .bool (fa 0), .bool (fa 1), .bool (fa 2), .bool (fa 3), .bool (fa 4), .bool (fa 5), .bool (fa 6), .bool (fa 7), .bool (fa 8), .bool (fa 9), .bool (fa 10), .bool (fa 11), .bool (fa 12), .func (.func 61) #[] #[.pointer (some ⟨gl, 0, none⟩), .pointer (some ⟨gc, 0, none⟩)], .slice (some ⟨gb, 0, none⟩) N N] 66)).alloc (.cells (kBit.flat (List.replicate N ((0 : Int), false))).toArray 41)) := bthen (ballc w _) (ballc _ _)
  have hk0 : InsB _ w.heap.size N f d p r dr o sl md fr ad cap zs fa gl gc gb := blk_later (blk_nw w #[.int .i64 (N : Int), .int .i64 f, .int .i64 d, .int .i64 p, .int .i64 r, .int .i64 dr, .int .i64 o, .int .i64 sl, .int .i64 md, .int .i64 fr, .slice ad zs.length cap, .bool (fa 0), .bool (fa 1), .bool (fa 2), .bool (fa 3), .bool (fa 4), .bool (fa 5), .bool (fa 6), .bool (fa 7), .bool (fa 8), .bool (fa 9), .bool (fa 10), .bool (fa 11), .bool (fa 12), .func (.func 61) #[] #[.pointer (some ⟨gl, 0, none⟩), .pointer (some ⟨gc, 0, none⟩)], .slice (some ⟨gb, 0, none⟩) N N] 66) (ballc _ (.cells (kBit.flat (List.replicate N ((0 : Int), false))).toArray 41))
  have hk1 : BBlk ((w.alloc (.cells #[.int .i64 (N : Int), .int .i64 f, .int .i64 d, .int .i64 p, .int .i64 r, .int .i64 dr, .int .i64 o, .int .i64 sl, .int .i64 md, .int .i64 fr, .slice ad zs.length cap, .bool (fa 0), .bool (fa 1), .bool (fa 2), .bool (fa 3), .bool (fa 4), .bool (fa 5), .bool (fa 6), .bool (fa 7), .bool (fa 8), .bool (fa 9), .bool (fa 10), .bool (fa 11), .bool (fa 12), .func (.func 61) #[] #[.pointer (some ⟨gl, 0, none⟩), .pointer (some ⟨gc, 0, none⟩)], .slice (some ⟨gb, 0, none⟩) N N] 66)).alloc (.cells (kBit.flat (List.replicate N ((0 : Int), false))).toArray 41)) (w.heap.size + 1) (fillL (0, false) N (stepN fa vs N f x bs) 0) := by
    rw [fillL_0]
    exact blk_newAt (w.alloc (.cells #[.int .i64 (N : Int), .int .i64 f, .int .i64 d, .int .i64 p, .int .i64 r, .int .i64 dr, .int .i64 o, .int .i64 sl, .int .i64 md, .int .i64 fr, .slice ad zs.length cap, .bool (fa 0), .bool (fa 1), .bool (fa 2), .bool (fa 3), .bool (fa 4), .bool (fa 5), .bool (fa 6), .bool (fa 7), .bool (fa 8), .bool (fa 9), .bool (fa 10), .bool (fa 11), .bool (fa 12), .func (.func 61) #[] #[.pointer (some ⟨gl, 0, none⟩), .pointer (some ⟨gc, 0, none⟩)], .slice (some ⟨gb, 0, none⟩) N N] 66)) (kBit.flat (List.replicate N ((0 : Int), false))).toArray 41 (b := w.heap.size + 1) (by simp)
  have HK0 := hidden hk0
  have HK1 := hidden hk1
  have HB0 := hidden hB0
  have H1 := hidden h1
  have H2 := hidden h2
  have H3 := hidden h3
  have HL := hidden hL
  have HT := hidden hT
  have HE := hidden hE
  obtain ⟨q, hq⟩ : ∃ q, x / 3 = q := ⟨_, rfl⟩
  have tq : (x : Int) / 3 = (q : Int) := by omega
  rw [hq] at hx2
  have HQ := hidden hq
  clear hq
  clear hk0 hk1 hB0 h1 h2 h3 hL hT hE
  go_enter Try.func53, Try.ntmps53
  go_wp2
  generalize ((w.alloc (.cells #[.int .i64 (N : Int), .int .i64 f, .int .i64 d, .int .i64 p, .int .i64 r, .int .i64 dr, .int .i64 o, .int .i64 sl, .int .i64 md, .int .i64 fr, .slice ad zs.length cap, .bool (fa 0), .bool (fa 1), .bool (fa 2), .bool (fa 3), .bool (fa 4), .bool (fa 5), .bool (fa 6), .bool (fa 7), .bool (fa 8), .bool (fa 9), .bool (fa 10), .bool (fa 11), .bool (fa 12), .func (.func 61) #[] #[.pointer (some ⟨gl, 0, none⟩), .pointer (some ⟨gc, 0, none⟩)], .slice (some ⟨gb, 0, none⟩) N N] 66)).alloc (.cells (kBit.flat (List.replicate N ((0 : Int), false))).toArray 41)) = W0 at *
  go_loopw [17] (fun i wr => ∃ k : Nat, k ≤ N ∧ i = .int .i64 k ∧ InsB wr w.heap.size N f d p r dr o sl md fr ad cap zs fa gl gc gb ∧ BBlk wr (w.heap.size + 1) (fillL (0, false) N (stepN fa vs N f x bs) k) ∧ Below w.heap.size w wr) (fun i _ => N - (intV i).toNat)
  case atStart => exact ⟨0, Nat.zero_le _, rfl, HK0.out, HK1.out, HB0.out⟩
  case round =>
    obtain ⟨k, hk, rfl, hI, hX, hB⟩ := hrel
    have QI := hidden hI
    have QX := hidden hX
    have QB := hidden hB
    have HIb := hidden (show wr.heap[w.heap.size]? = some (.cells #[.int .i64 (N : Int), .int .i64 f, .int .i64 d, .int .i64 p, .int .i64 r, .int .i64 dr, .int .i64 o, .int .i64 sl, .int .i64 md, .int .i64 fr, .slice ad zs.length cap, .bool (fa 0), .bool (fa 1), .bool (fa 2), .bool (fa 3), .bool (fa 4), .bool (fa 5), .bool (fa 6), .bool (fa 7), .bool (fa 8), .bool (fa 9), .bool (fa 10), .bool (fa 11), .bool (fa 12), .func (.func 61) #[] #[.pointer (some ⟨gl, 0, none⟩), .pointer (some ⟨gc, 0, none⟩)], .slice (some ⟨gb, 0, none⟩) N N] 66 (0, 0)) from hI)
    have l0 := blk_lt hI
    clear HK0 HK1 HB0 hmk
    by_cases hlt : k < N
    · have i1 : (0 : Int) ≤ (k : Int) := by omega
      have i2 : (k : Int) < (N : Int) := by omega
      have j1 : (0 : Int) ≤ (q : Int) := by omega
      have j2 : (q : Int) < (N : Int) := by omega
      have HS := hidden (fillL_set (0, false) N (stepN fa vs N f x bs) k hlt)
      have hBk : BBlk wr gb bs := (hB.block gb H3.out.lt).trans H3.out
      have CV := hidden (votes_any N f d p r dr o sl md fr ad cap zs hN2 fa gl gc gb a2 c2 vs bs hbl x k hx (by omega) wr hlv ((HL.out.below hB).mono hB.size) ((hB.block gl (blk_lt H1.out)).trans H1.out) ((hB.block gc (blk_lt H2.out)).trans H2.out) hBk)
      have hvl := votesL_len fa vs N x k bs
      have HSN : Hid (stepN fa vs N f x bs k = stepF 0 N f x (bs.getD k (0, false)) ((votesL fa vs N x k bs).getD q 0) (votesL fa vs N x k bs)) := by show _ = _; unfold stepN; rw [HQ.out]
      have hgb : gb ≠ w.heap.size + 1 := by have := H3.out.lt; omega
      have hl0 := hX.lt
      go_wp2_with (refine wpList_load_row rfl 66 _ rfl w.heap.size rfl _ _ _ _ HIb.out Try.underlying66 rfl (by kernel_rfl) ?_)
      refine CV.out.mono ?_
      rintro e w2 ⟨gv, rfl, hrow, hgv, hb⟩
      have hEx : Exg w N f d p r dr o sl md fr ad cap zs fa gl gc gb gv bs (votesL fa vs N x k bs) w2 (fillL (0, false) N (stepN fa vs N f x bs) k) := ⟨blk_later hI hb, hBk.later hb, hrow, hX.later hb, bthen hB hb, hgb, by omega⟩
      have HLI := hidden (hrow.lies (by rw [hvl]; simp only [maxLen]; omega))
      rw [hvl] at HLI
      clear hb CV l0 hI hX hB hBk hrow HIb
      generalize votesL fa vs N x k bs = vts at *
      generalize hkv : vts.getD (q) 0 = kv at *
      generalize hbk : bs.getD k (0, false) = bk at *
      have hS : ∀ V l, Exg w N f d p r dr o sl md fr ad cap zs fa gl gc gb gv bs vts V l → V.cell? ⟨w.heap.size, 0, none⟩ = some (.int .i64 (N : Int)) ∧ V.cell? ⟨w.heap.size, 1, none⟩ = some (.int .i64 f) ∧ V.cell? ⟨w.heap.size, 2, none⟩ = some (.int .i64 d) ∧ V.cell? ⟨w.heap.size, 3, none⟩ = some (.int .i64 p) ∧ V.cell? ⟨w.heap.size, 4, none⟩ = some (.int .i64 r) ∧ V.cell? ⟨w.heap.size, 5, none⟩ = some (.int .i64 dr) ∧ V.cell? ⟨w.heap.size, 6, none⟩ = some (.int .i64 o) ∧ V.cell? ⟨w.heap.size, 7, none⟩ = some (.int .i64 sl) ∧ V.cell? ⟨w.heap.size, 8, none⟩ = some (.int .i64 md) ∧ V.cell? ⟨w.heap.size, 9, none⟩ = some (.int .i64 fr) ∧ V.cell? ⟨w.heap.size, 10, none⟩ = some (.slice ad zs.length cap) ∧ V.cell? ⟨w.heap.size, 25, none⟩ = some (.slice (some ⟨gb, 0, none⟩) N N) ∧ V.cell? ⟨gb, k * 2, none⟩ = some (.int .i64 bk.1) ∧ V.cell? ⟨gb, k * 2 + 1, none⟩ = some (.bool bk.2) ∧ V.cell? ⟨gv, q, none⟩ = some (.int .i64 kv) := by
        intro V l h
        obtain ⟨l1_0, l1_1, l1_2, l1_3, l1_4, l1_5, l1_6, l1_7, l1_8, l1_9, l1_10, l1_11, l1_12, l1_13, l1_14, l1_15, l1_16, l1_17, l1_18, l1_19, l1_20, l1_21, l1_22, l1_23, l1_24, l1_25⟩ := h.ins.cells
        have l2 := h.old.cell0 k (by omega)
        have l3 := h.old.cell1 k (by omega)
        have l4 := h.row.cell (q) (by omega)
        rw [hbk] at l2 l3
        rw [hkv] at l4
        exact ⟨l1_0, l1_1, l1_2, l1_3, l1_4, l1_5, l1_6, l1_7, l1_8, l1_9, l1_10, l1_25, l2, l3, l4⟩
      have CS : ∀ V l, Exg w N f d p r dr o sl md fr ad cap zs fa gl gc gb gv bs vts V l → Calls Try.prog 27 #[.agg #[.int .i64 (N : Int), .int .i64 f, .int .i64 d, .int .i64 p, .int .i64 r, .int .i64 dr, .int .i64 o, .int .i64 sl, .int .i64 md, .int .i64 fr, .slice ad zs.length cap], .int .i64 (x : Int), .agg #[.int .i64 bk.1, .bool bk.2], .int .i64 kv, .slice (some ⟨gv, 0, none⟩) N N] V fun e w' => e = .returned (agB (stepF 0 N f x bk kv vts)) ∧ Below V.heap.size V w' := by
        intro V l h
        have hli := h.row.lies (by rw [hvl]; simp only [maxLen]; omega)
        rw [hvl] at hli
        have := KStep_any (N : Int) f d p r dr o sl md fr ad cap zs (x : Int) bk kv (some ⟨gv, 0, none⟩) N N vts V hl (HT.out.below h.bel) (wfN x hx) (by omega) hli
        rw [HE.out] at this
        exact this
      generalize stepF 0 N f x bk kv vts = stp at *
      have hLl : (fillL (0, false) N (stepN fa vs N f x bs) k).length = N := fillL_len _ _ _ _
      generalize (fillL (0, false) N (stepN fa vs N f x bs) k) = L0 at *
      have HCS := hidden CS
      have hC0 := hEx
      have i3 : gb < w2.heap.size := hEx.old.lt
      have i4 : gv < w2.heap.size := hEx.row.lt
      clear CS hEx HLI
      go_wp2_with fail
      go_region_held3 (fun V => V.cell? ⟨w.heap.size, 0, none⟩ = some (.int .i64 (N : Int)) ∧ V.cell? ⟨w.heap.size, 1, none⟩ = some (.int .i64 f) ∧ V.cell? ⟨w.heap.size, 2, none⟩ = some (.int .i64 d) ∧ V.cell? ⟨w.heap.size, 3, none⟩ = some (.int .i64 p) ∧ V.cell? ⟨w.heap.size, 4, none⟩ = some (.int .i64 r) ∧ V.cell? ⟨w.heap.size, 5, none⟩ = some (.int .i64 dr) ∧ V.cell? ⟨w.heap.size, 6, none⟩ = some (.int .i64 o) ∧ V.cell? ⟨w.heap.size, 7, none⟩ = some (.int .i64 sl) ∧ V.cell? ⟨w.heap.size, 8, none⟩ = some (.int .i64 md) ∧ V.cell? ⟨w.heap.size, 9, none⟩ = some (.int .i64 fr) ∧ V.cell? ⟨w.heap.size, 10, none⟩ = some (.slice ad zs.length cap) ∧ V.cell? ⟨w.heap.size, 25, none⟩ = some (.slice (some ⟨gb, 0, none⟩) N N) ∧ V.cell? ⟨gb, k * 2, none⟩ = some (.int .i64 bk.1) ∧ V.cell? ⟨gb, k * 2 + 1, none⟩ = some (.bool bk.2) ∧ V.cell? ⟨gv, q, none⟩ = some (.int .i64 kv)) (first | with_reducible exact hS _ (L0.set k stp) (Exg.set (by assumption) k stp) | exact hS _ L0 (by repeat (first | with_reducible assumption | with_reducible refine Exg.drew ?_)))
        (first
        | (go_at_call 27; refine (HCS.out _ L0 (by repeat (first | with_reducible assumption | with_reducible refine Exg.drew ?_))).mono ?_; rintro e w5 ⟨rfl, hb5⟩; have hC5 := Exg.below (show Exg w N f d p r dr o sl md fr ad cap zs fa gl gc gb gv bs vts _ L0 from (by repeat (first | with_reducible assumption | with_reducible refine Exg.drew ?_))) hb5; have hg0 := hC5.out.cell0 k (by rw [hLl]; exact hlt); have hg1 := hC5.out.cell1 k (by rw [hLl]; exact hlt); have hg2 := hC5.out.open (k * 2); have hg3 := hC5.out.open (k * 2 + 1); have hg4 := hC5.out.lt; clear hb5; unfold agB))
      have hC6 := hC5.set k stp
      go_wp2
      go_roundw
      case rel => exact ⟨k + 1, by omega, by go_num, hC6.ins, by rw [← HS.out, HSN.out]; exact hC6.out, hC6.bel⟩
      case measure => simp [intV]; omega
    · obtain rfl : k = N := by omega
      rw [fillL_all] at hX QX
      go_wp2
      go_ret
      exact ⟨w.heap.size + 1, rfl, QX.out, by omega, QB.out⟩
set_option maxHeartbeats 4000000 in
theorem ends_any (N : Nat) (f d p r dr o sl md fr : Int) (ad : Option Addr) (cap : Nat) (zs : List Int) (hN2 : N ≤ 13) (fa : Nat → Bool) (gl gc gb : Nat) (bs : List (Int × Bool)) (hbl : bs.length = N) (w : World) (h3 : BBlk w gb bs) :
    Calls Try.prog 54 #[.agg #[.int .i64 (N : Int), .int .i64 f, .int .i64 d, .int .i64 p, .int .i64 r, .int .i64 dr, .int .i64 o, .int .i64 sl, .int .i64 md, .int .i64 fr, .slice ad zs.length cap, .bool (fa 0), .bool (fa 1), .bool (fa 2), .bool (fa 3), .bool (fa 4), .bool (fa 5), .bool (fa 6), .bool (fa 7), .bool (fa 8), .bool (fa 9), .bool (fa 10), .bool (fa 11), .bool (fa 12), .func (.func 61) #[] #[.pointer (some ⟨gl, 0, none⟩), .pointer (some ⟨gc, 0, none⟩)], .slice (some ⟨gb, 0, none⟩) N N]] w fun e w' => ∃ g, e = .returned (.slice (some ⟨g, 0, none⟩) N N) ∧ IBlk w' g (endsL fa N bs) ∧ Below w.heap.size w w' := by
  have hmk := fun V => make_ints N rfl (by omega) V
  have hB0 : Below w.heap.size w ((w.alloc (.cells #[.int .i64 (N : Int), .int .i64 f, .int .i64 d, .int .i64 p, .int .i64 r, .int .i64 dr, .int .i64 o, .int .i64 sl, .int .i64 md, .int .i64 fr, .slice ad zs.length cap, .bool (fa 0), .bool (fa 1), .bool (fa 2), .bool (fa 3), .bool (fa 4), .bool (fa 5), .bool (fa 6), .bool (fa 7), .bool (fa 8), .bool (fa 9), .bool (fa 10), .bool (fa 11), .bool (fa 12), .func (.func 61) #[] #[.pointer (some ⟨gl, 0, none⟩), .pointer (some ⟨gc, 0, none⟩)], .slice (some ⟨gb, 0, none⟩) N N] 66)).alloc (.cells (kInt.flat (List.replicate N 0)).toArray 3)) := bthen (ballc w _) (ballc _ _)
  have hk0 : InsB _ w.heap.size N f d p r dr o sl md fr ad cap zs fa gl gc gb := blk_later (blk_nw w #[.int .i64 (N : Int), .int .i64 f, .int .i64 d, .int .i64 p, .int .i64 r, .int .i64 dr, .int .i64 o, .int .i64 sl, .int .i64 md, .int .i64 fr, .slice ad zs.length cap, .bool (fa 0), .bool (fa 1), .bool (fa 2), .bool (fa 3), .bool (fa 4), .bool (fa 5), .bool (fa 6), .bool (fa 7), .bool (fa 8), .bool (fa 9), .bool (fa 10), .bool (fa 11), .bool (fa 12), .func (.func 61) #[] #[.pointer (some ⟨gl, 0, none⟩), .pointer (some ⟨gc, 0, none⟩)], .slice (some ⟨gb, 0, none⟩) N N] 66) (ballc _ (.cells (kInt.flat (List.replicate N 0)).toArray 3))
  have hk1 : IBlk ((w.alloc (.cells #[.int .i64 (N : Int), .int .i64 f, .int .i64 d, .int .i64 p, .int .i64 r, .int .i64 dr, .int .i64 o, .int .i64 sl, .int .i64 md, .int .i64 fr, .slice ad zs.length cap, .bool (fa 0), .bool (fa 1), .bool (fa 2), .bool (fa 3), .bool (fa 4), .bool (fa 5), .bool (fa 6), .bool (fa 7), .bool (fa 8), .bool (fa 9), .bool (fa 10), .bool (fa 11), .bool (fa 12), .func (.func 61) #[] #[.pointer (some ⟨gl, 0, none⟩), .pointer (some ⟨gc, 0, none⟩)], .slice (some ⟨gb, 0, none⟩) N N] 66)).alloc (.cells (kInt.flat (List.replicate N 0)).toArray 3)) (w.heap.size + 1) (fillL 0 N (endN fa bs) 0) := by
    rw [fillL_0]
    exact blk_newAt (w.alloc (.cells #[.int .i64 (N : Int), .int .i64 f, .int .i64 d, .int .i64 p, .int .i64 r, .int .i64 dr, .int .i64 o, .int .i64 sl, .int .i64 md, .int .i64 fr, .slice ad zs.length cap, .bool (fa 0), .bool (fa 1), .bool (fa 2), .bool (fa 3), .bool (fa 4), .bool (fa 5), .bool (fa 6), .bool (fa 7), .bool (fa 8), .bool (fa 9), .bool (fa 10), .bool (fa 11), .bool (fa 12), .func (.func 61) #[] #[.pointer (some ⟨gl, 0, none⟩), .pointer (some ⟨gc, 0, none⟩)], .slice (some ⟨gb, 0, none⟩) N N] 66)) (kInt.flat (List.replicate N 0)).toArray 3 (b := w.heap.size + 1) (by simp)
  have HK0 := hidden hk0
  have HK1 := hidden hk1
  have HB0 := hidden hB0
  have H3 := hidden h3
  clear hk0 hk1 hB0 h3
  go_enter Try.func54, Try.ntmps54
  go_wp2
  generalize ((w.alloc (.cells #[.int .i64 (N : Int), .int .i64 f, .int .i64 d, .int .i64 p, .int .i64 r, .int .i64 dr, .int .i64 o, .int .i64 sl, .int .i64 md, .int .i64 fr, .slice ad zs.length cap, .bool (fa 0), .bool (fa 1), .bool (fa 2), .bool (fa 3), .bool (fa 4), .bool (fa 5), .bool (fa 6), .bool (fa 7), .bool (fa 8), .bool (fa 9), .bool (fa 10), .bool (fa 11), .bool (fa 12), .func (.func 61) #[] #[.pointer (some ⟨gl, 0, none⟩), .pointer (some ⟨gc, 0, none⟩)], .slice (some ⟨gb, 0, none⟩) N N] 66)).alloc (.cells (kInt.flat (List.replicate N 0)).toArray 3)) = W0 at *
  go_loopw [13] (fun i wr => ∃ k : Nat, k ≤ N ∧ i = .int .i64 k ∧ InsB wr w.heap.size N f d p r dr o sl md fr ad cap zs fa gl gc gb ∧ IBlk wr (w.heap.size + 1) (fillL 0 N (endN fa bs) k) ∧ Below w.heap.size w wr) (fun i _ => N - (intV i).toNat)
  case atStart => exact ⟨0, Nat.zero_le _, rfl, HK0.out, HK1.out, HB0.out⟩
  case round =>
    obtain ⟨k, hk, rfl, hI, hX, hB⟩ := hrel
    have QI := hidden hI
    have QX := hidden hX
    have QB := hidden hB
    have l0 := blk_lt hI
    clear HK0 HK1 HB0 hmk
    by_cases hlt : k < N
    · have HS := hidden (fillL_set 0 N (endN fa bs) k hlt)
      have i1 : (0 : Int) ≤ (k : Int) := by omega
      have i2 : (k : Int) < (N : Int) := by omega
      have i3 : (k : Int) < 13 := by omega
      have hBk : BBlk wr gb bs := (hB.block gb H3.out.lt).trans H3.out
      have d0 := hBk.cell0 k (by omega)
      have d1 := hBk.cell1 k (by omega)
      have d2 := hBk.lt
      have HE : Hid (endN fa bs k = if fa k = true then -1 else valF (bs.getD k (0, false))) := rfl
      generalize bs.getD k (0, false) = bk at *
      have hl1 := hX.lt
      clear hI hX hB hBk
      go_wp2_with fail
      refine (valueOf_any bk _).mono ?_
      rintro e w2 ⟨rfl, hb⟩
      have hb' := bthen (ballc wr _) hb
      have QI2 := hidden (show InsB w2 w.heap.size N f d p r dr o sl md fr ad cap zs fa gl gc gb from blk_later QI.out hb')
      have QX2 := hidden (QX.out.later hb')
      have QB2 := hidden (bthen QB.out hb')
      have g1 := QX2.out.cell k (by rw [fillL_len]; exact hlt)
      have g3 := QX2.out.open k
      have hl2 := QX2.out.lt
      have c11 := QI2.out.fa k (by omega)
      have hl3 := blk_lt QI2.out
      generalize valF bk = z at *
      clear hb hb'
      by_cases hf : fa k = true
      · rw [hf] at c11
        have HE2 : Hid (endN fa bs k = -1) := HE.out.trans (if_pos hf)
        have HX3 := hidden ((QX2.out.set k z).set k (-1))
        rw [List.set_set] at HX3
        clear HE
        go_wp2
        go_roundw
        case rel => exact ⟨k + 1, by omega, by go_num, blk_other (blk_other QI2.out ⟨w.heap.size + 1, k, none⟩ _ (by simp)) ⟨w.heap.size + 1, k, none⟩ _ (by simp), by rw [← HS.out, HE2.out]; exact HX3.out, (QB2.out.setCell (p := ⟨w.heap.size + 1, k, none⟩) (by simp) _).setCell (p := ⟨w.heap.size + 1, k, none⟩) (by simp) _⟩
        case measure => simp [intV]; omega
      · have hf' : fa k = false := by simpa using hf
        rw [hf'] at c11
        have HE2 : Hid (endN fa bs k = z) := HE.out.trans (if_neg hf)
        clear HE
        go_wp2
        go_roundw
        case rel => exact ⟨k + 1, by omega, by go_num, blk_other QI2.out ⟨w.heap.size + 1, k, none⟩ _ (by simp), by rw [← HS.out, HE2.out]; exact QX2.out.set k z, QB2.out.setCell (p := ⟨w.heap.size + 1, k, none⟩) (by simp) _⟩
        case measure => simp [intV]; omega
    · obtain rfl : k = N := by omega
      rw [fillL_all] at hX QX
      go_wp2
      go_ret
      exact ⟨w.heap.size + 1, rfl, QX.out, QB.out⟩
end Go.Proofs.Ytklcjfbdneallaa
