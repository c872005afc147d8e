/- The walk of the statement HoldWaits: the call returns true, and makes at most new memory; conditions: the table and the row lie where they say, lengths fit int. -/
import Derived.Test.YtcnmbpgjgjncdabHoldK
namespace Go.Proofs.Ytcnmbpgjgjncdab.LawHoldWaits
open Go.ChangeShapes Go.WideShapes Go.ChangeAt Go.RowKit
set_option linter.unusedVariables false
attribute [local go_sem] cell_rg

/-- Two boxes of a call's own, in a later world. -/
theorem box_two3 {w wl : World} {C D : Array Value} {t u : TypeId} (hb : Below ((w.alloc (.cells C t)).alloc (.cells D u)).heap.size ((w.alloc (.cells C t)).alloc (.cells D u)) wl) :
    (∀ i, wl.cell? ⟨w.heap.size, i, none⟩ = C[i]?) ∧ (∀ i, wl.cell? ⟨w.heap.size + 1, i, none⟩ = D[i]?) ∧ w.heap.size < wl.heap.size ∧ w.heap.size + 1 < wl.heap.size := by
  have hs := hb.size
  simp at hs
  refine ⟨fun i => ?_, fun i => ?_, by omega, by omega⟩
  · rw [hb.cell (p := ⟨w.heap.size, i, none⟩) (by simp; omega)]
    rw [(ballc (w.alloc (.cells C t)) (.cells D u)).cell (p := ⟨w.heap.size, i, none⟩) (by simp)]
    exact World.cell?_alloc_mark w C t _ i
  · rw [hb.cell (p := ⟨w.heap.size + 1, i, none⟩) (by simp)]
    have := World.cell?_alloc_mark (w.alloc (.cells C t)) D u (0, 0) i
    rw [World.size_alloc] at this
    exact this
/-- What is held with the frame, where without it this is held. -/
def withF (D i g : Nat) (s : ByteArray) (L : List ByteArray) : List ByteArray := if g ≤ D then L.set (i * D + (D - g)) s else L
theorem withF_len (D i g : Nat) (s : ByteArray) (L : List ByteArray) : (withF D i g s L).length = L.length := by
  unfold withF
  split
  · rw [List.length_set]
  · rfl
theorem withF_take {N D i g : Nat} (s : ByteArray) (L : List ByteArray) (hL : L.length = N * D) (hi : i < N) (h1 : 1 ≤ g) (h2 : g ≤ D) : takeR (N * D) D (withF D i g s L) = withF D i (g + 1) s (takeR (N * D) D L) := by
  have e0 : withF D i g s L = L.set (i * D + (D - g)) s := if_pos h2
  rw [e0, takeR_set L s hL hi (by omega)]
  by_cases hg : g = D
  · have e : D - g = 0 := by omega
    rw [if_pos e]
    exact (if_neg (by omega)).symm
  · rw [if_neg (by omega)]
    have e1 : withF D i (g + 1) s (takeR (N * D) D L) = (takeR (N * D) D L).set (i * D + (D - (g + 1))) s := if_pos (by omega)
    rw [e1]
    have e2 : D - g - 1 = D - (g + 1) := by omega
    rw [e2]
theorem withF_now {N D i g : Nat} (s : ByteArray) (L : List ByteArray) (hL : L.length = N * D) (hi : i < N) (h1 : 1 ≤ g) (h2 : g ≤ D) (j : Nat) (hj : j < N) : (takeN N D (withF D i g s L)).getD j noB = if j = i ∧ g = D then s else (takeN N D L).getD j noB := by
  have e0 : withF D i g s L = L.set (i * D + (D - g)) s := if_pos h2
  rw [e0, takeN_set L s hL hi (by omega) j hj]
  by_cases h : j = i ∧ g = D
  · rw [if_pos h, if_pos ⟨h.1, by omega⟩]
  · rw [if_neg h, if_neg (fun k => h ⟨k.1, by omega⟩)]
/-- The frame's place is empty without it. -/
def Free (D i g : Nat) (L : List ByteArray) : Prop := g ≤ D → emt (L.getD (i * D + (D - g)) noB) = true
theorem Free.succ {N D i g : Nat} {L : List ByteArray} (h : Free D i g L) (hi : i < N) (h1 : 1 ≤ g) (h2 : g ≤ D) : Free D i (g + 1) (takeR (N * D) D L) := by
  intro hg
  have e := takeR_near (N := N) (D := D) (f := i) (k := D - g) L hi (by omega) (by omega)
  have e2 : D - g - 1 = D - (g + 1) := by omega
  rw [e2] at e
  rw [e]
  exact h h2
set_option maxHeartbeats 2000000 in
theorem walk_early (n f d p r dr o sl md fr : Int) (ad : Option Addr) (cap : Nat) (zs : List Int) (a2 : Option Addr) (c2 : Nat) (hs : List ByteArray) (fm ag : Int) (s : ByteArray) (w : World) (hl : zs.length ≤ 9223372036854775807) (hT : Tab w ad zs) (hlen : hs.length ≤ 9223372036854775807) (hf : 100 < hs.length ∨ ¬ plainE n f d p r dr o sl md fr zs = 0) :
    Calls Try.prog 4 #[.agg #[.int .i64 n, .int .i64 f, .int .i64 d, .int .i64 p, .int .i64 r, .int .i64 dr, .int .i64 o, .int .i64 sl, .int .i64 md, .int .i64 fr, .slice ad zs.length cap], .slice a2 hs.length c2, .agg #[.int .i64 fm, .int .i64 ag, .string s]] w fun e w' => e = .returned (.bool true) ∧ Below w.heap.size w w' := by
  have C1 := fun V h => refPlain_any n f d p r dr o sl md fr ad cap zs V hl h
  have HT := hidden (hT.below (bthen (ballc w (.cells #[.int .i64 n, .int .i64 f, .int .i64 d, .int .i64 p, .int .i64 r, .int .i64 dr, .int .i64 o, .int .i64 sl, .int .i64 md, .int .i64 fr, .slice ad zs.length cap] 24)) (ballc _ (.cells #[.int .i64 fm, .int .i64 ag, .string s] 33))))
  have HW0 := hidden (bthen (ballc w (.cells #[.int .i64 n, .int .i64 f, .int .i64 d, .int .i64 p, .int .i64 r, .int .i64 dr, .int .i64 o, .int .i64 sl, .int .i64 md, .int .i64 fr, .slice ad zs.length cap] 24)) (ballc _ (.cells #[.int .i64 fm, .int .i64 ag, .string s] 33)))
  generalize plainE n f d p r dr o sl md fr zs = E at *
  clear hT
  by_cases h100 : 100 < hs.length
  · have i1 : (100 : Int) < (hs.length : Int) := by omega
    have i1' : decide ((100 : Int) < (hs.length : Int)) = true := by simp; omega
    clear hf
    go_enter Try.func4, Try.ntmps4
    go_wp2_with fail
    refine (known12_any _).mono ?_
    rintro e w1 ⟨rfl, hb⟩
    go_wp2
    go_ret
    exact ⟨rfl, bthen HW0.out hb⟩
  · have i1 : ¬ (100 : Int) < (hs.length : Int) := by omega
    have i1' : decide ((100 : Int) < (hs.length : Int)) = false := by simp; omega
    have hE : ¬ E = 0 := by rcases hf with h | h; exact absurd h h100; exact h
    have hE' : (E != 0) = true := by simp [hE]
    clear hf hE
    go_enter Try.func4, Try.ntmps4
    go_wp2_with fail
    refine (C1 _ HT.out).mono ?_
    rintro e w1 ⟨rfl, hb⟩
    have HB1 := hidden hb
    clear hb
    go_wp2_with fail
    refine (known12_any _).mono ?_
    rintro e w2 ⟨rfl, hb⟩
    go_wp2
    go_ret
    exact ⟨rfl, bthen HW0.out (bthen HB1.out hb)⟩
set_option maxHeartbeats 2000000 in
theorem walk_none (n f d p r dr o sl md fr : Int) (ad : Option Addr) (cap : Nat) (zs : List Int) (a2 : Option Addr) (c2 : Nat) (hs : List ByteArray) (fm ag : Int) (s : ByteArray) (w : World) (hl : zs.length ≤ 9223372036854775807) (hT : Tab w ad zs) (h100 : ¬ 100 < hs.length) (hsz : s.size ≤ 9223372036854775807) (hL : kStr.Lies w.heap.size w (.slice a2 hs.length c2) hs) (hE : plainE n f d p r dr o sl md fr zs = 0) (hp : ¬ (putF (plainE n f d p r dr o sl md fr zs) n d fm ag s hs).2 = 0) :
    Calls Try.prog 4 #[.agg #[.int .i64 n, .int .i64 f, .int .i64 d, .int .i64 p, .int .i64 r, .int .i64 dr, .int .i64 o, .int .i64 sl, .int .i64 md, .int .i64 fr, .slice ad zs.length cap], .slice a2 hs.length c2, .agg #[.int .i64 fm, .int .i64 ag, .string s]] w fun e w' => e = .returned (.bool true) ∧ Below w.heap.size w w' := by
  have C1 := fun V h => refPlain_any n f d p r dr o sl md fr ad cap zs V hl h
  have C2 := fun V h h2 => Put_any n f d p r dr o sl md fr ad cap zs a2 hs.length c2 hs fm ag s V hl h (by omega) hsz h2
  have HT := hidden (hT.below (bthen (ballc w (.cells #[.int .i64 n, .int .i64 f, .int .i64 d, .int .i64 p, .int .i64 r, .int .i64 dr, .int .i64 o, .int .i64 sl, .int .i64 md, .int .i64 fr, .slice ad zs.length cap] 24)) (ballc _ (.cells #[.int .i64 fm, .int .i64 ag, .string s] 33))))
  have HW0 := hidden (bthen (ballc w (.cells #[.int .i64 n, .int .i64 f, .int .i64 d, .int .i64 p, .int .i64 r, .int .i64 dr, .int .i64 o, .int .i64 sl, .int .i64 md, .int .i64 fr, .slice ad zs.length cap] 24)) (ballc _ (.cells #[.int .i64 fm, .int .i64 ag, .string s] 33)))
  have HL := hidden (hL.later HW0.out)
  generalize putF (plainE n f d p r dr o sl md fr zs) n d fm ag s hs = X at *
  obtain ⟨X1, X2⟩ := X
  dsimp only at *
  rw [hE] at C1
  have i1 : ¬ (100 : Int) < (hs.length : Int) := by omega
  have i1' : decide ((100 : Int) < (hs.length : Int)) = false := by simp; omega
  have i2 : (X2 != 0) = true := by simp [hp]
  clear hT hL hE hp
  go_enter Try.func4, Try.ntmps4
  go_wp2_with fail
  refine (C1 _ HT.out).mono ?_
  rintro e w1 ⟨rfl, hb⟩
  obtain ⟨hbox, hbox2, hsz0, hsz1⟩ := box_two3 hb
  have HB1 := hidden hb
  clear hb C1
  go_wp2_with fail
  refine (C2 _ (HT.out.below HB1.out) (HL.out.later HB1.out)).mono ?_
  rintro e w2 ⟨a3, c3, rfl, _, hb⟩
  have HB2 := hidden (bthen HB1.out hb)
  clear hb C2 HB1 hbox hbox2 hsz0 hsz1
  go_wp2_with fail
  refine (known12_any _).mono ?_
  rintro e w3 ⟨rfl, hb⟩
  go_wp2
  go_ret
  exact ⟨rfl, bthen HW0.out (bthen HB2.out hb)⟩
set_option maxRecDepth 100000 in
set_option maxHeartbeats 8000000 in
theorem walk_ok (N : Nat) (f : Int) (D : Nat) (p r dr o sl md fr : Int) (ad : Option Addr) (cap : Nat) (zs : List Int) (a2 : Option Addr) (c2 : Nat) (hs : List ByteArray) (i g : Nat) (s : ByteArray) (w : World) (hl : zs.length ≤ 9223372036854775807) (hT : Tab w ad zs) (hE : plainE (N : Int) f (D : Int) p r dr o sl md fr zs = 0) (hf : hs.length = N * D) (hi : i < N) (hg1 : 1 ≤ g) (hg2 : g ≤ D) (hwr : wrE 0 N D hs.length i g s = 0) (hsz : s.size ≤ 9223372036854775807) (hfree : emt (hs.getD (i * D + (D - g)) noB) = true) (hL : kStr.Lies w.heap.size w (.slice a2 hs.length c2) hs) :
    Calls Try.prog 4 #[.agg #[.int .i64 (N : Int), .int .i64 f, .int .i64 (D : Int), .int .i64 p, .int .i64 r, .int .i64 dr, .int .i64 o, .int .i64 sl, .int .i64 md, .int .i64 fr, .slice ad zs.length cap], .slice a2 hs.length c2, .agg #[.int .i64 (i : Int), .int .i64 (g : Int), .string s]] w fun e w' => e = .returned (.bool true) ∧ Below w.heap.size w w' := by
  obtain ⟨n1, n2, d1, d2⟩ := ND_caps N f D p r dr o sl md fr ad cap zs hE
  have hm := mul_cast n2 d2
  have C1 := fun V h => refPlain_any (N : Int) f (D : Int) p r dr o sl md fr ad cap zs V hl h
  rw [hE] at C1
  have C2 := fun V h h2 => Put_late N f D p r dr o sl md fr ad cap zs a2 hs.length c2 hs i g s V hl h hE hf hi hg1 hg2 hwr hsz h2
  have C3 := fun a c L V h (hLf : L.length = N * D) h2 => Take_ok N f D p r dr o sl md fr ad cap zs a (N * D) c L V hl h hE hLf h2
  have HW0 := hidden (bthen (ballc w (.cells #[.int .i64 (N : Int), .int .i64 f, .int .i64 (D : Int), .int .i64 p, .int .i64 r, .int .i64 dr, .int .i64 o, .int .i64 sl, .int .i64 md, .int .i64 fr, .slice ad zs.length cap] 24)) (ballc _ (.cells #[.int .i64 (i : Int), .int .i64 (g : Int), .string s] 33)))
  have HT := hidden (hT.below HW0.out)
  have HL := hidden (hL.later HW0.out)
  have i1 : ¬ (100 : Int) < (hs.length : Int) := by omega
  have i1' : decide ((100 : Int) < (hs.length : Int)) = false := by simp; omega
  have HF := hidden hf
  have HFREE := hidden hfree
  clear hT hE hL hf hwr hfree
  go_enter Try.func4, Try.ntmps4
  go_wp2_with fail
  refine (C1 _ HT.out).mono ?_
  rintro e w1 ⟨rfl, hb⟩
  obtain ⟨hbox, hbox2, hsz0, hsz1⟩ := box_two3 hb
  have HB1 := hidden hb
  clear hb C1
  go_wp2_with fail
  refine (C2 _ (HT.out.below HB1.out) (HL.out.later HB1.out)).mono ?_
  rintro e w2 ⟨_, k2, hb⟩
  obtain ⟨G, rfl, hkG⟩ := k2 HFREE.out
  have hb2 := bthen HB1.out hb
  have hbk1 : w2.heap[w.heap.size]? = some (.cells #[.int .i64 (N : Int), .int .i64 f, .int .i64 (D : Int), .int .i64 p, .int .i64 r, .int .i64 dr, .int .i64 o, .int .i64 sl, .int .i64 md, .int .i64 fr, .slice ad zs.length cap] 24 (0, 0)) := (hb2.block _ (by simp; omega)).trans (((ballc (w.alloc (.cells #[.int .i64 (N : Int), .int .i64 f, .int .i64 (D : Int), .int .i64 p, .int .i64 r, .int .i64 dr, .int .i64 o, .int .i64 sl, .int .i64 md, .int .i64 fr, .slice ad zs.length cap] 24)) (.cells #[.int .i64 (i : Int), .int .i64 (g : Int), .string s] 33)).block _ (by simp)).trans (heap_alloc_new w _))
  have hbk2 : w2.heap[w.heap.size + 1]? = some (.cells #[.int .i64 (i : Int), .int .i64 (g : Int), .string s] 33 (0, 0)) := blk_second _ _ _ _ hb2
  have hs1 := (Array.getElem?_eq_some_iff.1 hbk1).1
  have hs2 := (Array.getElem?_eq_some_iff.1 hbk2).1
  have HK1 := hidden hbk1
  have HK2 := hidden hbk2
  have HT2 := hidden (HT.out.below hb2)
  have hL2 := HL.out.later hb2
  rw [HF.out] at hL2
  have HL2 := hidden hL2
  have HB2 := hidden (bthen HW0.out hb2)
  have hkl : kStr.Lies w2.heap.size w2 (.slice (some ⟨G, 0, none⟩) (N * D) (N * D)) (hs.set (i * D + (D - g)) s) := lies_lit (by rw [List.length_set, HF.out]) hkG (by omega)
  have HKL := hidden hkl
  clear hb hb2 k2 hkG C2 HB1 hbox hbox2 hsz0 hsz1 HT hL2 hkl
  have lc := blk_cell HK1.out
  have lf := blk_cell HK2.out
  clear hbk1 hbk2
  go_wp2
  go_loopw [7, 9, 10, 11, 12, 13, 14, 15] (fun a b ag _ _ _ _ _ wr => ∃ (q : Nat) (L : List ByteArray) (aA : Option Addr) (cA : Nat) (aB : Option Addr) (cB : Nat), g ≤ q ∧ q ≤ D + 1 ∧ ag = .int .i64 (q : Int) ∧ a = .slice aA (N * D) cA ∧ b = .slice aB (N * D) cB ∧ L.length = N * D ∧ kStr.Lies wr.heap.size wr (.slice aA (N * D) cA) (withF D i q s L) ∧ kStr.Lies wr.heap.size wr (.slice aB (N * D) cB) L ∧ Free D i q L ∧ Below w2.heap.size w2 wr) (fun _ _ ag _ _ _ _ _ _ => D + 1 - (intV ag).toNat)
  case atStart =>
    refine ⟨g, hs, some ⟨G, 0, none⟩, N * D, a2, c2, Nat.le_refl _, by omega, rfl, rfl, by rw [HF.out], HF.out, ?_, HL2.out, fun _ => HFREE.out, Below.refl _ _⟩
    have e : withF D i g s hs = hs.set (i * D + (D - g)) s := if_pos hg2
    rw [e]
    exact HKL.out
  case round =>
    clear lc lf
    obtain ⟨q, L, aA, cA, aB, cB, hq1, hq2, rfl, rfl, rfl, hLf, hLA, hLB, hFr, hB⟩ := hrel
    have lc := blk_cell ((hB.block _ hs1).trans HK1.out)
    have HLA := hidden hLA
    have HLB := hidden hLB
    have HLF := hidden hLf
    have HFR := hidden hFr
    have HB := hidden hB
    clear hLA hLB hLf hFr hB
    by_cases hlt : q ≤ D
    · have i5 : (q : Int) ≤ (D : Int) := by omega
      go_wp2_with fail
      refine (C3 aA cA (withF D i q s L) _ (HT2.out.below HB.out) (by rw [withF_len]; exact HLF.out) HLA.out).mono ?_
      rintro e w3 ⟨x1, x2, rfl, hx1, hx2, _, _, hb⟩
      have hb3 := bthen HB.out hb
      have HB3 := hidden hb3
      have HX1 := hidden hx1
      have HX2 := hidden hx2
      have HLB3 := hidden (HLB.out.later hb)
      clear lc hb hb3 hx1 hx2 HB HLB HLA
      have lc := blk_cell ((HB3.out.block _ hs1).trans HK1.out)
      go_wp2_with fail
      refine (C3 aB cB L _ (HT2.out.below HB3.out) HLF.out HLB3.out).mono ?_
      rintro e w4 ⟨y1, y2, rfl, hy1, hy2, _, _, hb⟩
      have hb4 := bthen HB3.out hb
      have HB4 := hidden hb4
      have hX1 := HX1.out.later hb
      have HX1' := hidden hX1
      have HX2' := hidden (HX2.out.later hb)
      have HY1 := hidden hy1
      have HY2 := hidden hy2
      clear lc hb hb4 hX1 hy1 hy2 HB3 HX1 HX2 HLB3
      have lc := blk_cell ((HB4.out.block _ hs1).trans HK1.out)
      have lf := blk_cell ((HB4.out.block _ hs2).trans HK2.out)
      have i6 : decide ((i : Int) < 0) = false := by simp
      have i7 : decide ((N : Int) ≤ (i : Int)) = false := by simp; omega
      have i8 : ¬ (N : Int) ≤ (i : Int) := by omega
      go_wp2
      go_loopw [15] (fun c wr => ∃ j : Nat, j ≤ N ∧ c = .int .i64 (j : Int) ∧ Below w4.heap.size w4 wr) (fun c _ => N - (intV c).toNat)
      case atStart => exact ⟨0, Nat.zero_le _, rfl, Below.refl _ _⟩
      case round =>
        clear lc lf
        obtain ⟨j, hj, rfl, hBi⟩ := hrel
        have hBw := bthen HB4.out hBi
        have lc := blk_cell ((hBw.block _ hs1).trans HK1.out)
        have lf := blk_cell ((hBw.block _ hs2).trans HK2.out)
        by_cases hjl : j < N
        · have i9 : (j : Int) < (N : Int) := by omega
          have i10 : (0 : Int) ≤ (j : Int) := by omega
          have hX := HX1'.out.later hBi
          have hY := HY1.out.later hBi
          have hcx := hX.cell j (by rw [takeN_length]; exact hjl)
          have hcy := hY.cell j (by rw [takeN_length]; exact hjl)
          have hxl := hX.lt
          have hyl := hY.lt
          have hwn := withF_now (N := N) (D := D) (i := i) (g := q) s L HLF.out hi (by omega) hlt j hjl
          rw [hwn] at hcx
          have hz1 : w.heap.size < wr.heap.size := Nat.lt_of_lt_of_le hs1 hBw.size
          have hz2 : w.heap.size + 1 < wr.heap.size := Nat.lt_of_lt_of_le hs2 hBw.size
          have HBi := hidden hBi
          clear hX hY hwn hBi hBw
          by_cases hc : j = i ∧ q = D
          · rw [if_pos hc] at hcx
            have hemp : emt ((takeN N D L).getD j noB) = true := by
              rw [takeN_at _ _ _ _ hjl, hc.1]
              have h := HFR.out hlt
              have e : i * D + (D - q) = i * D := by have := hc.2; omega
              rw [e] at h
              exact h
            have e1 : ((j : Int) == (i : Int)) = true := by rw [hc.1]; simp
            have e2 : ((q : Int) == (D : Int)) = true := by rw [hc.2]; simp
            generalize (takeN N D L).getD j noB = Y at hcy hemp
            have e3 : Y.toList.isEmpty = true := hemp
            have e4 : (s.toList == s.toList) = true := by simp
            clear hc hemp
            go_wp2
            refine wp_region_quiet_below (by kernel_rfl) (by kernel_rfl) ?_
            repeat (go_big_quiet_step (fail))
            refine wpQuiet_nil ?_
            intro w6 hw6
            have HB6 := hidden (bthen HBi.out (rg_below hw6))
            clear hw6
            go_wp2
            go_roundw
            case rel => exact ⟨j + 1, by omega, by go_num, HB6.out⟩
            case measure => simp [intV]; omega
          · rw [if_neg hc] at hcx
            generalize (takeN N D L).getD j noB = Y at hcx hcy
            have e4 : (Y.toList == Y.toList) = true := by simp
            by_cases hji : j = i
            · have e1 : ((j : Int) == (i : Int)) = true := by rw [hji]; simp
              have e2 : ((q : Int) == (D : Int)) = false := by
                have : ¬ q = D := fun k => hc ⟨hji, k⟩
                simp; omega
              clear hc hji
              go_wp2
              refine wp_region_quiet_below (by kernel_rfl) (by kernel_rfl) ?_
              repeat (go_big_quiet_step (fail))
              refine wpQuiet_nil ?_
              intro w6 hw6
              have HB6 := hidden (bthen HBi.out (rg_below hw6))
              clear hw6
              go_wp2
              go_roundw
              case rel => exact ⟨j + 1, by omega, by go_num, HB6.out⟩
              case measure => simp [intV]; omega
            · have e1 : ((j : Int) == (i : Int)) = false := by simp; omega
              clear hc hji
              go_wp2
              refine wp_region_quiet_below (by kernel_rfl) (by kernel_rfl) ?_
              repeat (go_big_quiet_step (fail))
              refine wpQuiet_nil ?_
              intro w6 hw6
              have HB6 := hidden (bthen HBi.out (rg_below hw6))
              clear hw6
              go_wp2
              go_roundw
              case rel => exact ⟨j + 1, by omega, by go_num, HB6.out⟩
              case measure => simp [intV]; omega
        · have i9 : ¬ (j : Int) < (N : Int) := by omega
          have hXr := HX2'.out.later hBi
          have hYr := HY2.out.later hBi
          rw [withF_take (N := N) s L HLF.out hi (by omega) hlt] at hXr
          have l1 := lies_lit (by rw [withF_len, takeR_length]) hXr (show N * D ≤ 1000 by omega)
          have l2 := lies_lit (takeR_length (N * D) D L) hYr (by omega)
          have HL1 := hidden l1
          have HL3 := hidden l2
          have HB5 := hidden hBw
          have HFR2 := hidden (HFR.out.succ (N := N) hi (by omega) hlt)
          clear hXr hYr l1 l2 hBi hBw
          go_wp2
          go_roundw
          case rel => exact ⟨q + 1, takeR (N * D) D L, _, _, _, _, by omega, by omega, by go_num, rfl, rfl, takeR_length _ _ _, HL1.out, HL3.out, HFR2.out, HB5.out⟩
          case measure => simp [intV]; omega
    · have i5 : ¬ (q : Int) ≤ (D : Int) := by omega
      have e : withF D i q s L = L := if_neg hlt
      have hLA := HLA.out
      rw [e] at hLA
      have HLA' := hidden hLA
      clear hLA e HLA
      go_wp2_with fail
      refine (Same_eq _ _ _ _ _ _ L _ (by rw [HLF.out]; omega) HLA'.out HLB.out).mono ?_
      rintro e w3 ⟨rfl, hb⟩
      have HB3 := hidden (bthen HB.out hb)
      clear hb
      go_wp2_with fail
      refine (known12_any _).mono ?_
      rintro e w4 ⟨rfl, hb⟩
      go_wp2
      go_ret
      exact ⟨rfl, bthen HB2.out (bthen HB3.out hb)⟩
theorem walk (n f d p r dr o sl md fr : Int) (ad : Option Addr) (cap : Nat) (zs : List Int) (a2 : Option Addr) (c2 : Nat) (hs : List ByteArray) (fm ag : Int) (s : ByteArray) (w : World) (hl : zs.length ≤ 9223372036854775807) (hT : Tab w ad zs) (hlen : hs.length ≤ 9223372036854775807) (hL : kStr.Lies w.heap.size w (.slice a2 hs.length c2) hs) (k1 : (Lit.int .i64 fm).wf = true) (k2 : (Lit.int .i64 ag).wf = true) (hsz : s.size ≤ 9223372036854775807) :
    Calls Try.prog 4 #[.agg #[.int .i64 n, .int .i64 f, .int .i64 d, .int .i64 p, .int .i64 r, .int .i64 dr, .int .i64 o, .int .i64 sl, .int .i64 md, .int .i64 fr, .slice ad zs.length cap], .slice a2 hs.length c2, .agg #[.int .i64 fm, .int .i64 ag, .string s]] w fun e w' => e = .returned (.bool true) ∧ Below w.heap.size w w' := by
  by_cases hf : 100 < hs.length ∨ ¬ plainE n f d p r dr o sl md fr zs = 0
  · exact walk_early n f d p r dr o sl md fr ad cap zs a2 c2 hs fm ag s w hl hT hlen hf
  · have h100 : ¬ 100 < hs.length := fun k => hf (.inl k)
    have hE : plainE n f d p r dr o sl md fr zs = 0 := by
      by_cases e : plainE n f d p r dr o sl md fr zs = 0
      · exact e
      · exact absurd (.inr e) hf
    by_cases hp : (putF (plainE n f d p r dr o sl md fr zs) n d fm ag s hs).2 = 0
    · have hwr : wrE (plainE n f d p r dr o sl md fr zs) n d hs.length fm ag s = 0 := by
        by_cases e : wrE (plainE n f d p r dr o sl md fr zs) n d hs.length fm ag s = 0
        · exact e
        · rw [putF_wrong e] at hp; exact hp
      have hem : emt (hs.getD (putAt d fm ag) noB) = true := by
        by_cases e : emt (hs.getD (putAt d fm ag) noB) = true
        · exact e
        · rw [putF_full hwr e] at hp; simp at hp
      obtain ⟨_, h1, h2, h3⟩ := wr_ok hwr
      have hk := plainE_ok hE
      obtain ⟨N, rfl⟩ : ∃ N : Nat, n = (N : Int) := ⟨n.toNat, by omega⟩
      obtain ⟨D, rfl⟩ : ∃ D : Nat, d = (D : Int) := ⟨d.toNat, by omega⟩
      obtain ⟨i, rfl⟩ : ∃ i : Nat, fm = (i : Int) := ⟨fm.toNat, by omega⟩
      obtain ⟨g, rfl⟩ : ∃ g : Nat, ag = (g : Int) := ⟨ag.toNat, by omega⟩
      rw [hE] at hwr
      exact walk_ok N f D p r dr o sl md fr ad cap zs a2 c2 hs i g s w hl hT hE (len_cast.1 h1) (by omega) (by omega) (by omega) hwr hsz hem hL
    · exact walk_none n f d p r dr o sl md fr ad cap zs a2 c2 hs fm ag s w hl hT h100 hsz hL hE hp
end Go.Proofs.Ytcnmbpgjgjncdab.LawHoldWaits
