/- The calls started and, of an instance, votes, exchange and ends, do what plain functions say; conditions: at most 13 nodes, rows lie where they say, and lengths fit int. -/
import Derived.Test.YtklcjfbdneallaaKinC
namespace Go.Proofs.Ytklcjfbdneallaa
open Go.ChangeShapes Go.WideShapes Go.ChangeAt Go.RowKit
set_option linter.unusedVariables false
attribute [local go_sem] cell_rg

theorem startF_0 : startF 0 = (0, false) := rfl
/-- A row of first bits that is filled up to k. -/
theorem start_fill (N : Nat) (vs : List Int) (k : Nat) (hk : vs.length ≤ k ∨ N ≤ k) : fillL (0, false) N (fun i => startF (vs.getD i 0)) k = startL N vs := by
  unfold fillL startL
  apply List.map_congr_left
  intro j hj
  have hj := List.mem_range.1 hj
  by_cases h : j < k
  · rw [if_pos h]
  · rw [if_neg h]
    have : vs.getD j 0 = 0 := by simp; rw [List.getElem?_eq_none (by omega)]; rfl
    rw [this]; rfl
set_option maxHeartbeats 2000000 in
theorem started_any (N : Nat) (f d p r dr o sl md fr : Int) (ad : Option Addr) (cap : Nat) (zs : List Int) (hN2 : N ≤ 13) (a2 : Option Addr) (c2 : Nat) (vs : List Int) (w : World) (hlv : vs.length ≤ 9223372036854775807) (hV : kInt.Lies w.heap.size w (.slice a2 vs.length c2) vs) :
    Calls Try.prog 51 #[.agg #[.int .i64 (N : Int), .int .i64 f, .int .i64 d, .int .i64 p, .int .i64 r, .int .i64 dr, .int .i64 o, .int .i64 sl, .int .i64 md, .int .i64 fr, .slice ad zs.length cap], .slice a2 vs.length c2] w fun e w' => ∃ g, e = .returned (.slice (some ⟨g, 0, none⟩) N N) ∧ BBlk w' g (startL N vs) ∧ w.heap.size ≤ g ∧ Below w.heap.size w w' := by
  have hmk := fun V => make_bits N rfl (by omega) V
  have hB0 : Below w.heap.size w ((w.alloc (.cells #[.int .i64 (N : Int), .int .i64 f, .int .i64 d, .int .i64 p, .int .i64 r, .int .i64 dr, .int .i64 o, .int .i64 sl, .int .i64 md, .int .i64 fr, .slice ad zs.length cap] 24)).alloc (.cells (kBit.flat (List.replicate N ((0 : Int), false))).toArray 41)) := bthen (ballc w _) (ballc _ _)
  have hk0 := blk_later (blk_nw w #[.int .i64 (N : Int), .int .i64 f, .int .i64 d, .int .i64 p, .int .i64 r, .int .i64 dr, .int .i64 o, .int .i64 sl, .int .i64 md, .int .i64 fr, .slice ad zs.length cap] 24) (ballc _ (.cells (kBit.flat (List.replicate N ((0 : Int), false))).toArray 41))
  have hk1 : BBlk ((w.alloc (.cells #[.int .i64 (N : Int), .int .i64 f, .int .i64 d, .int .i64 p, .int .i64 r, .int .i64 dr, .int .i64 o, .int .i64 sl, .int .i64 md, .int .i64 fr, .slice ad zs.length cap] 24)).alloc (.cells (kBit.flat (List.replicate N ((0 : Int), false))).toArray 41)) (w.heap.size + 1) (fillL (0, false) N (fun i => startF (vs.getD i 0)) 0) := by
    rw [fillL_0]
    exact blk_newAt (w.alloc (.cells #[.int .i64 (N : Int), .int .i64 f, .int .i64 d, .int .i64 p, .int .i64 r, .int .i64 dr, .int .i64 o, .int .i64 sl, .int .i64 md, .int .i64 fr, .slice ad zs.length cap] 24)) (kBit.flat (List.replicate N ((0 : Int), false))).toArray 41 (b := w.heap.size + 1) (by simp)
  have HK0 := hidden hk0
  have HK1 := hidden hk1
  have HB0 := hidden hB0
  have HL := hidden hV
  clear hk0 hk1 hB0 hV
  go_enter Try.func51, Try.ntmps51
  go_wp2
  all_goals
    generalize ((w.alloc (.cells #[.int .i64 (N : Int), .int .i64 f, .int .i64 d, .int .i64 p, .int .i64 r, .int .i64 dr, .int .i64 o, .int .i64 sl, .int .i64 md, .int .i64 fr, .slice ad zs.length cap] 24)).alloc (.cells (kBit.flat (List.replicate N ((0 : Int), false))).toArray 41)) = W0 at *
    go_loopw [15] (fun i wr => ∃ k : Nat, k ≤ N ∧ k ≤ vs.length ∧ i = .int .i64 k ∧ BBlk wr (w.heap.size + 1) (fillL (0, false) N (fun i => startF (vs.getD i 0)) k) ∧ Below w.heap.size w wr) (fun i _ => N - (intV i).toNat)
    case atStart => exact ⟨0, Nat.zero_le _, Nat.zero_le _, rfl, HK1.out, HB0.out⟩
    case round =>
      obtain ⟨k, hk1, hk2, rfl, hX, hB⟩ := hrel
      have QX := hidden hX
      have QB := hidden hB
      clear HK0 HK1 HB0 hmk
      by_cases hlt : k < N ∧ k < vs.length
      · obtain ⟨hlt1, hlt2⟩ := hlt
        obtain ⟨b, off, rfl, hbl, e0⟩ := kInt_at HL.out k hlt2
        have f0 := (hB.cell (p := ⟨b, off + k, none⟩) hbl).trans e0
        have hbl' : b < wr.heap.size := Nat.lt_of_lt_of_le hbl hB.size
        have HS := hidden (fillL_set (0, false) N (fun i => startF (vs.getD i 0)) k hlt1)
        have HE : Hid (vs.getD k 0 = vs[k]) := by show _ = _; simp [hlt2]
        have i1 : (0 : Int) ≤ (k : Int) := by omega
        have i2 : (k : Int) < (vs.length : Int) := by omega
        have i3 : (k : Int) < (N : Int) := by omega
        clear e0
        generalize vs[k] = z at f0 HE
        go_wp2_with fail
        refine (Start_any z _).mono ?_
        rintro e w2 ⟨rfl, hb⟩
        have QX2 := hidden (hX.later hb)
        have QB2 := hidden (bthen hB hb)
        have g1 := QX2.out.cell0 k (by rw [fillL_len]; exact hlt1)
        have g2 := QX2.out.cell1 k (by rw [fillL_len]; exact hlt1)
        have g3 := QX2.out.open (k * 2)
        have g4 := QX2.out.open (k * 2 + 1)
        have hl2 := QX2.out.lt
        clear hb hX hB
        unfold agB
        go_wp2
        go_roundw
        case rel => exact ⟨k + 1, by omega, by omega, by go_num, by rw [← HS.out, HE.out]; exact QX2.out.set k (startF z), (QB2.out.setCell (p := ⟨w.heap.size + 1, k * 2, none⟩) (by simp) _).setCell (p := ⟨w.heap.size + 1, k * 2 + 1, none⟩) (by simp) _⟩
        case measure => simp [intV]; omega
      · have HF := hidden (start_fill N vs k (by omega))
        try have n1 : ¬ (k : Int) < (N : Int) := by omega
        try have n2 : ¬ (k : Int) < (vs.length : Int) := by omega
        go_wp2
        go_ret
        exact ⟨w.heap.size + 1, rfl, by rw [← HF.out]; exact QX.out, by omega, QB.out⟩
/-- An instance in memory. -/
def InsB (W : World) (g : Nat) (N : Nat) (f d p r dr o sl md fr : Int) (ad : Option Addr) (cap : Nat) (zs : List Int) (fa : Nat → Bool) (gl gc gb : Nat) : Prop := W.heap[g]? = some (.cells #[.int .i64 (N : Int), .int .i64 f, .int .i64 d, .int .i64 p, .int .i64 r, .int .i64 dr, .int .i64 o, .int .i64 sl, .int .i64 md, .int .i64 fr, .slice ad zs.length cap, .bool (fa 0), .bool (fa 1), .bool (fa 2), .bool (fa 3), .bool (fa 4), .bool (fa 5), .bool (fa 6), .bool (fa 7), .bool (fa 8), .bool (fa 9), .bool (fa 10), .bool (fa 11), .bool (fa 12), .func (.func 61) #[] #[.pointer (some ⟨gl, 0, none⟩), .pointer (some ⟨gc, 0, none⟩)], .slice (some ⟨gb, 0, none⟩) N N] 66 (0, 0))
theorem InsB.fa {W : World} {g N : Nat} {f d p r dr o sl md fr : Int} {ad : Option Addr} {cap : Nat} {zs : List Int} {fa : Nat → Bool} {gl gc gb : Nat} (h : InsB W g N f d p r dr o sl md fr ad cap zs fa gl gc gb) (k : Nat) (hk : k < 13) : W.cell? ⟨g, 11 + k, none⟩ = some (.bool (fa k)) := by
  rw [blk_cell h]
  have hj' : k = 0 ∨ k = 1 ∨ k = 2 ∨ k = 3 ∨ k = 4 ∨ k = 5 ∨ k = 6 ∨ k = 7 ∨ k = 8 ∨ k = 9 ∨ k = 10 ∨ k = 11 ∨ k = 12 := by omega
  rcases hj' with rfl | rfl | rfl | rfl | rfl | rfl | rfl | rfl | rfl | rfl | rfl | rfl | rfl <;> rfl
theorem InsB.cells {W : World} {g N : Nat} {f d p r dr o sl md fr : Int} {ad : Option Addr} {cap : Nat} {zs : List Int} {fa : Nat → Bool} {gl gc gb : Nat} (h : InsB W g N f d p r dr o sl md fr ad cap zs fa gl gc gb) : W.cell? ⟨g, 0, none⟩ = some (.int .i64 (N : Int)) ∧ W.cell? ⟨g, 1, none⟩ = some (.int .i64 f) ∧ W.cell? ⟨g, 2, none⟩ = some (.int .i64 d) ∧ W.cell? ⟨g, 3, none⟩ = some (.int .i64 p) ∧ W.cell? ⟨g, 4, none⟩ = some (.int .i64 r) ∧ W.cell? ⟨g, 5, none⟩ = some (.int .i64 dr) ∧ W.cell? ⟨g, 6, none⟩ = some (.int .i64 o) ∧ W.cell? ⟨g, 7, none⟩ = some (.int .i64 sl) ∧ W.cell? ⟨g, 8, none⟩ = some (.int .i64 md) ∧ W.cell? ⟨g, 9, none⟩ = some (.int .i64 fr) ∧ W.cell? ⟨g, 10, none⟩ = some (.slice ad zs.length cap) ∧ W.cell? ⟨g, 11, none⟩ = some (.bool (fa 0)) ∧ W.cell? ⟨g, 12, none⟩ = some (.bool (fa 1)) ∧ W.cell? ⟨g, 13, none⟩ = some (.bool (fa 2)) ∧ W.cell? ⟨g, 14, none⟩ = some (.bool (fa 3)) ∧ W.cell? ⟨g, 15, none⟩ = some (.bool (fa 4)) ∧ W.cell? ⟨g, 16, none⟩ = some (.bool (fa 5)) ∧ W.cell? ⟨g, 17, none⟩ = some (.bool (fa 6)) ∧ W.cell? ⟨g, 18, none⟩ = some (.bool (fa 7)) ∧ W.cell? ⟨g, 19, none⟩ = some (.bool (fa 8)) ∧ W.cell? ⟨g, 20, none⟩ = some (.bool (fa 9)) ∧ W.cell? ⟨g, 21, none⟩ = some (.bool (fa 10)) ∧ W.cell? ⟨g, 22, none⟩ = some (.bool (fa 11)) ∧ W.cell? ⟨g, 23, none⟩ = some (.bool (fa 12)) ∧ W.cell? ⟨g, 24, none⟩ = some (.func (.func 61) #[] #[.pointer (some ⟨gl, 0, none⟩), .pointer (some ⟨gc, 0, none⟩)]) ∧ W.cell? ⟨g, 25, none⟩ = some (.slice (some ⟨gb, 0, none⟩) N N) :=
  ⟨blk_cell h 0, blk_cell h 1, blk_cell h 2, blk_cell h 3, blk_cell h 4, blk_cell h 5, blk_cell h 6, blk_cell h 7, blk_cell h 8, blk_cell h 9, blk_cell h 10, blk_cell h 11, blk_cell h 12, blk_cell h 13, blk_cell h 14, blk_cell h 15, blk_cell h 16, blk_cell h 17, blk_cell h 18, blk_cell h 19, blk_cell h 20, blk_cell h 21, blk_cell h 22, blk_cell h 23, blk_cell h 24, blk_cell h 25⟩
set_option maxHeartbeats 2000000 in
theorem votes_any (N : Nat) (f d p r dr o sl md fr : Int) (ad : Option Addr) (cap : Nat) (zs : List Int) (hN2 : N ≤ 13) (fa : Nat → Bool) (gl gc gb : Nat) (a2 : Option Addr) (c2 : Nat) (vs : List Int) (bs : List (Int × Bool)) (hbl : bs.length = N) (x t : Nat) (hx : x ≤ 100) (ht : t < 13) (w : World) (hlv : vs.length ≤ 9223372036854775807) (hL : kInt.Lies w.heap.size w (.slice a2 vs.length c2) vs) (h1 : w.heap[gl]? = some (.cells #[.slice a2 vs.length c2] 22 (0, 0))) (h2 : w.heap[gc]? = some (.cells #[.int .i64 (N : Int), .int .i64 f, .int .i64 d, .int .i64 p, .int .i64 r, .int .i64 dr, .int .i64 o, .int .i64 sl, .int .i64 md, .int .i64 fr, .slice ad zs.length cap] 24 (0, 0))) (h3 : BBlk w gb bs) :
    Calls Try.prog 64 #[.agg #[.int .i64 (N : Int), .int .i64 f, .int .i64 d, .int .i64 p, .int .i64 r, .int .i64 dr, .int .i64 o, .int .i64 sl, .int .i64 md, .int .i64 fr, .slice ad zs.length cap, .bool (fa 0), .bool (fa 1), .bool (fa 2), .bool (fa 3), .bool (fa 4), .bool (fa 5), .bool (fa 6), .bool (fa 7), .bool (fa 8), .bool (fa 9), .bool (fa 10), .bool (fa 11), .bool (fa 12), .func (.func 61) #[] #[.pointer (some ⟨gl, 0, none⟩), .pointer (some ⟨gc, 0, none⟩)], .slice (some ⟨gb, 0, none⟩) N N], .int .i64 (x : Int), .int .i64 (t : Int)] w fun e w' => ∃ g, e = .returned (.slice (some ⟨g, 0, none⟩) N N) ∧ IBlk w' g (votesL fa vs N x t bs) ∧ w.heap.size ≤ g ∧ Below w.heap.size w w' := by
  have hmk := fun V => make_ints N rfl (by omega) V
  have hB0 : Below w.heap.size w ((w.alloc (.cells #[.int .i64 (N : Int), .int .i64 f, .int .i64 d, .int .i64 p, .int .i64 r, .int .i64 dr, .int .i64 o, .int .i64 sl, .int .i64 md, .int .i64 fr, .slice ad zs.length cap, .bool (fa 0), .bool (fa 1), .bool (fa 2), .bool (fa 3), .bool (fa 4), .bool (fa 5), .bool (fa 6), .bool (fa 7), .bool (fa 8), .bool (fa 9), .bool (fa 10), .bool (fa 11), .bool (fa 12), .func (.func 61) #[] #[.pointer (some ⟨gl, 0, none⟩), .pointer (some ⟨gc, 0, none⟩)], .slice (some ⟨gb, 0, none⟩) N N] 66)).alloc (.cells (kInt.flat (List.replicate N 0)).toArray 3)) := bthen (ballc w _) (ballc _ _)
  have hk0 : InsB _ w.heap.size N f d p r dr o sl md fr ad cap zs fa gl gc gb := blk_later (blk_nw w #[.int .i64 (N : Int), .int .i64 f, .int .i64 d, .int .i64 p, .int .i64 r, .int .i64 dr, .int .i64 o, .int .i64 sl, .int .i64 md, .int .i64 fr, .slice ad zs.length cap, .bool (fa 0), .bool (fa 1), .bool (fa 2), .bool (fa 3), .bool (fa 4), .bool (fa 5), .bool (fa 6), .bool (fa 7), .bool (fa 8), .bool (fa 9), .bool (fa 10), .bool (fa 11), .bool (fa 12), .func (.func 61) #[] #[.pointer (some ⟨gl, 0, none⟩), .pointer (some ⟨gc, 0, none⟩)], .slice (some ⟨gb, 0, none⟩) N N] 66) (ballc _ (.cells (kInt.flat (List.replicate N 0)).toArray 3))
  have hk1 : IBlk ((w.alloc (.cells #[.int .i64 (N : Int), .int .i64 f, .int .i64 d, .int .i64 p, .int .i64 r, .int .i64 dr, .int .i64 o, .int .i64 sl, .int .i64 md, .int .i64 fr, .slice ad zs.length cap, .bool (fa 0), .bool (fa 1), .bool (fa 2), .bool (fa 3), .bool (fa 4), .bool (fa 5), .bool (fa 6), .bool (fa 7), .bool (fa 8), .bool (fa 9), .bool (fa 10), .bool (fa 11), .bool (fa 12), .func (.func 61) #[] #[.pointer (some ⟨gl, 0, none⟩), .pointer (some ⟨gc, 0, none⟩)], .slice (some ⟨gb, 0, none⟩) N N] 66)).alloc (.cells (kInt.flat (List.replicate N 0)).toArray 3)) (w.heap.size + 1) (fillL 0 N (sayF fa vs N x t bs) 0) := by
    rw [fillL_0]
    exact blk_newAt (w.alloc (.cells #[.int .i64 (N : Int), .int .i64 f, .int .i64 d, .int .i64 p, .int .i64 r, .int .i64 dr, .int .i64 o, .int .i64 sl, .int .i64 md, .int .i64 fr, .slice ad zs.length cap, .bool (fa 0), .bool (fa 1), .bool (fa 2), .bool (fa 3), .bool (fa 4), .bool (fa 5), .bool (fa 6), .bool (fa 7), .bool (fa 8), .bool (fa 9), .bool (fa 10), .bool (fa 11), .bool (fa 12), .func (.func 61) #[] #[.pointer (some ⟨gl, 0, none⟩), .pointer (some ⟨gc, 0, none⟩)], .slice (some ⟨gb, 0, none⟩) N N] 66)) (kInt.flat (List.replicate N 0)).toArray 3 (b := w.heap.size + 1) (by simp)
  have HK0 := hidden hk0
  have HK1 := hidden hk1
  have HB0 := hidden hB0
  have H1 := hidden h1
  have H2 := hidden h2
  have H3 := hidden h3
  have HL := hidden hL
  clear hk0 hk1 hB0 h1 h2 h3 hL
  go_enter Try.func64, Try.ntmps64
  go_wp2
  generalize ((w.alloc (.cells #[.int .i64 (N : Int), .int .i64 f, .int .i64 d, .int .i64 p, .int .i64 r, .int .i64 dr, .int .i64 o, .int .i64 sl, .int .i64 md, .int .i64 fr, .slice ad zs.length cap, .bool (fa 0), .bool (fa 1), .bool (fa 2), .bool (fa 3), .bool (fa 4), .bool (fa 5), .bool (fa 6), .bool (fa 7), .bool (fa 8), .bool (fa 9), .bool (fa 10), .bool (fa 11), .bool (fa 12), .func (.func 61) #[] #[.pointer (some ⟨gl, 0, none⟩), .pointer (some ⟨gc, 0, none⟩)], .slice (some ⟨gb, 0, none⟩) N N] 66)).alloc (.cells (kInt.flat (List.replicate N 0)).toArray 3)) = W0 at *
  go_loopw [15] (fun i wr => ∃ k : Nat, k ≤ N ∧ i = .int .i64 k ∧ InsB wr w.heap.size N f d p r dr o sl md fr ad cap zs fa gl gc gb ∧ IBlk wr (w.heap.size + 1) (fillL 0 N (sayF fa vs N x t bs) k) ∧ Below w.heap.size w wr) (fun i _ => N - (intV i).toNat)
  case atStart => exact ⟨0, Nat.zero_le _, rfl, HK0.out, HK1.out, HB0.out⟩
  case round =>
    obtain ⟨k, hk, rfl, hI, hX, hB⟩ := hrel
    have QI := hidden hI
    have QX := hidden hX
    have QB := hidden hB
    have e24 : wr.cell? ⟨w.heap.size, 24, none⟩ = some (.func (.func 61) #[] #[.pointer (some ⟨gl, 0, none⟩), .pointer (some ⟨gc, 0, none⟩)]) := blk_cell hI 24
    have e25 : wr.cell? ⟨w.heap.size, 25, none⟩ = some (.slice (some ⟨gb, 0, none⟩) N N) := blk_cell hI 25
    have l0 := blk_lt hI
    clear HK0 HK1 HB0 hmk
    by_cases hlt : k < N
    · have c11 := hI.fa k (by omega)
      have HS := hidden (fillL_set 0 N (sayF fa vs N x t bs) k hlt)
      have i1 : (0 : Int) ≤ (k : Int) := by omega
      have i2 : (k : Int) < (N : Int) := by omega
      have i3 : (k : Int) < 13 := by omega
      have hb0 := hB.size
      by_cases hf : fa k = true
      · rw [hf] at c11
        have HE : Hid (sayF fa vs N x t bs k = lieF vs N x k t) := if_pos hf
        have CL := hidden (lie_any N f d p r dr o sl md fr ad cap zs hN2 gl gc a2 c2 vs x k t hx (by omega) ht wr hlv ((HL.out.below hB).mono hb0) ((hB.block gl (blk_lt H1.out)).trans H1.out) ((hB.block gc (blk_lt H2.out)).trans H2.out))
        generalize lieF vs N x k t = z at *
        clear hI hX hB
        go_wp2_with fail
        refine CL.out.mono ?_
        rintro e w2 ⟨rfl, hb⟩
        have QI2 := hidden (show InsB w2 w.heap.size N f d p r dr o sl md fr ad cap zs fa gl gc gb from blk_later QI.out hb)
        have QX2 := hidden (QX.out.later hb)
        have QB2 := hidden (bthen QB.out hb)
        have g1 := QX2.out.cell k (by rw [fillL_len]; exact hlt)
        have g3 := QX2.out.open k
        have hl2 := QX2.out.lt
        clear hb
        go_wp2
        go_roundw
        case rel => exact ⟨k + 1, by omega, by go_num, blk_other QI2.out ⟨w.heap.size + 1, k, none⟩ _ (by simp), by rw [← HS.out, HE.out]; exact QX2.out.set k z, QB2.out.setCell (p := ⟨w.heap.size + 1, k, none⟩) (by simp) _⟩
        case measure => simp [intV]; omega
      · have hf' : fa k = false := by simpa using hf
        rw [hf'] at c11
        have HE : Hid (sayF fa vs N x t bs k = valF (bs.getD k (0, false))) := if_neg hf
        have hBk : BBlk wr gb bs := (hB.block gb H3.out.lt).trans H3.out
        have d0 := hBk.cell0 k (by omega)
        have d1 := hBk.cell1 k (by omega)
        have d2 := hBk.lt
        generalize bs.getD k (0, false) = bk at *
        clear hI hX hB hBk
        go_wp2_with fail
        refine (valueOf_any bk _).mono ?_
        rintro e w2 ⟨rfl, hb⟩
        have QI2 := hidden (show InsB w2 w.heap.size N f d p r dr o sl md fr ad cap zs fa gl gc gb from blk_later QI.out hb)
        have QX2 := hidden (QX.out.later hb)
        have QB2 := hidden (bthen QB.out hb)
        have g1 := QX2.out.cell k (by rw [fillL_len]; exact hlt)
        have g3 := QX2.out.open k
        have hl2 := QX2.out.lt
        generalize valF bk = z at *
        clear hb
        go_wp2
        go_roundw
        case rel => exact ⟨k + 1, by omega, by go_num, blk_other QI2.out ⟨w.heap.size + 1, k, none⟩ _ (by simp), by rw [← HS.out, HE.out]; exact QX2.out.set k z, QB2.out.setCell (p := ⟨w.heap.size + 1, k, none⟩) (by simp) _⟩
        case measure => simp [intV]; omega
    · obtain rfl : k = N := by omega
      rw [fillL_all] at hX QX
      go_wp2
      go_ret
      exact ⟨w.heap.size + 1, rfl, QX.out, by omega, QB.out⟩
end Go.Proofs.Ytklcjfbdneallaa
