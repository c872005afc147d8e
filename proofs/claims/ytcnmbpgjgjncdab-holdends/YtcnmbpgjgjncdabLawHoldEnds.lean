/- The walk of the statement HoldEnds: the call returns true, and makes at most new memory; conditions: the table and the row lie where they say, lengths fit int. -/
import Derived.Test.YtcnmbpgjgjncdabHoldK
namespace Go.Proofs.Ytcnmbpgjgjncdab.LawHoldEnds
open Go.ChangeShapes Go.WideShapes Go.ChangeAt Go.RowKit
set_option linter.unusedVariables false
attribute [local go_sem] cell_rg

set_option maxHeartbeats 2000000 in
theorem walk_no (n f d p r dr o sl md fr : Int) (ad : Option Addr) (cap : Nat) (zs : List Int) (a2 : Option Addr) (c2 : Nat) (hs : List ByteArray) (fm : Int) (w : World) (hl : zs.length ≤ 9223372036854775807) (hT : Tab w ad zs) (hlen : hs.length ≤ 9223372036854775807) (hE : ¬ plainE n f d p r dr o sl md fr zs = 0) :
    Calls Try.prog 5 #[.agg #[.int .i64 n, .int .i64 f, .int .i64 d, .int .i64 p, .int .i64 r, .int .i64 dr, .int .i64 o, .int .i64 sl, .int .i64 md, .int .i64 fr, .slice ad zs.length cap], .slice a2 hs.length c2, .int .i64 fm] w fun e w' => e = .returned (.bool true) ∧ Below w.heap.size w w' := by
  have C1 := fun V h => rFits_no n f d p r dr o sl md fr ad cap zs a2 hs.length c2 V hl h hE
  have HT := hidden (hT.below (ballc w (.cells #[.int .i64 n, .int .i64 f, .int .i64 d, .int .i64 p, .int .i64 r, .int .i64 dr, .int .i64 o, .int .i64 sl, .int .i64 md, .int .i64 fr, .slice ad zs.length cap] 24)))
  clear hT hE
  by_cases h100 : 100 < hs.length
  · have i1 : (100 : Int) < (hs.length : Int) := by omega
    have i1' : decide ((100 : Int) < (hs.length : Int)) = true := by simp; omega
    go_enter Try.func5, Try.ntmps5
    go_wp2_with fail
    refine (known12_any _).mono ?_
    rintro e w1 ⟨rfl, hb⟩
    go_wp2
    go_ret
    exact ⟨rfl, bthen (ballc w _) hb⟩
  · have i1 : ¬ (100 : Int) < (hs.length : Int) := by omega
    have i1' : decide ((100 : Int) < (hs.length : Int)) = false := by simp; omega
    go_enter Try.func5, Try.ntmps5
    go_wp2_with fail
    refine (C1 _ HT.out).mono ?_
    rintro e w1 ⟨rfl, hb⟩
    have HB1 := hidden hb
    clear hb
    go_wp2_with fail
    refine (known12_any _).mono ?_
    rintro e w2 ⟨rfl, hb⟩
    go_wp2
    go_ret
    exact ⟨rfl, bthen (ballc w _) (bthen HB1.out hb)⟩
set_option maxHeartbeats 2000000 in
theorem walk_out (N : Nat) (f : Int) (D : Nat) (p r dr o sl md fr : Int) (ad : Option Addr) (cap : Nat) (zs : List Int) (a2 : Option Addr) (c2 : Nat) (hs : List ByteArray) (fm : Int) (w : World) (hl : zs.length ≤ 9223372036854775807) (hT : Tab w ad zs) (hlen : hs.length ≤ 9223372036854775807) (hE : plainE (N : Int) f (D : Int) p r dr o sl md fr zs = 0) (hf : ¬ hs.length = N * D ∨ fm < 0 ∨ (N : Int) ≤ fm) :
    Calls Try.prog 5 #[.agg #[.int .i64 (N : Int), .int .i64 f, .int .i64 (D : Int), .int .i64 p, .int .i64 r, .int .i64 dr, .int .i64 o, .int .i64 sl, .int .i64 md, .int .i64 fr, .slice ad zs.length cap], .slice a2 hs.length c2, .int .i64 fm] w fun e w' => e = .returned (.bool true) ∧ Below w.heap.size w w' := by
  have C1 := fun V h => rFits_ok N f D p r dr o sl md fr ad cap zs a2 hs.length c2 V hl h hE hlen
  have HT := hidden (hT.below (ballc w (.cells #[.int .i64 (N : Int), .int .i64 f, .int .i64 (D : Int), .int .i64 p, .int .i64 r, .int .i64 dr, .int .i64 o, .int .i64 sl, .int .i64 md, .int .i64 fr, .slice ad zs.length cap] 24)))
  clear hT hE
  by_cases h100 : 100 < hs.length
  · have i1 : (100 : Int) < (hs.length : Int) := by omega
    have i1' : decide ((100 : Int) < (hs.length : Int)) = true := by simp; omega
    go_enter Try.func5, Try.ntmps5
    go_wp2_with fail
    refine (known12_any _).mono ?_
    rintro e w1 ⟨rfl, hb⟩
    go_wp2
    go_ret
    exact ⟨rfl, bthen (ballc w _) hb⟩
  · have i1 : ¬ (100 : Int) < (hs.length : Int) := by omega
    have i1' : decide ((100 : Int) < (hs.length : Int)) = false := by simp; omega
    by_cases h1 : hs.length = N * D
    · rw [decide_eq_true h1] at C1
      by_cases h2 : fm < 0
      · have i2 : decide (fm < 0) = true := by simp [h2]
        clear hf h1
        go_enter Try.func5, Try.ntmps5
        go_wp2_with fail
        refine (C1 _ HT.out).mono ?_
        rintro e w1 ⟨rfl, hb⟩
        have HB1 := hidden hb
        clear hb
        go_wp2_with fail
        refine (known12_any _).mono ?_
        rintro e w2 ⟨rfl, hb⟩
        go_wp2
        go_ret
        exact ⟨rfl, bthen (ballc w _) (bthen HB1.out hb)⟩
      · have i2 : decide (fm < 0) = false := by simp; omega
        have h3 : (N : Int) ≤ fm := by omega
        have i3 : decide ((N : Int) ≤ fm) = true := by simp [h3]
        clear hf h1
        go_enter Try.func5, Try.ntmps5
        go_wp2_with fail
        refine (C1 _ HT.out).mono ?_
        rintro e w1 ⟨rfl, hb⟩
        obtain ⟨hbox, hsz⟩ := box_at hb
        have HB1 := hidden hb
        clear hb
        go_wp2_with fail
        refine (known12_any _).mono ?_
        rintro e w2 ⟨rfl, hb⟩
        go_wp2
        go_ret
        exact ⟨rfl, bthen (ballc w _) (bthen HB1.out hb)⟩
    · rw [decide_eq_false h1] at C1
      clear hf h1
      go_enter Try.func5, Try.ntmps5
      go_wp2_with fail
      refine (C1 _ HT.out).mono ?_
      rintro e w1 ⟨rfl, hb⟩
      have HB1 := hidden hb
      clear hb
      go_wp2_with fail
      refine (known12_any _).mono ?_
      rintro e w2 ⟨rfl, hb⟩
      go_wp2
      go_ret
      exact ⟨rfl, bthen (ballc w _) (bthen HB1.out hb)⟩
set_option maxHeartbeats 4000000 in
theorem walk_ok (N : Nat) (f : Int) (D : Nat) (p r dr o sl md fr : Int) (ad : Option Addr) (cap : Nat) (zs : List Int) (a2 : Option Addr) (c2 : Nat) (hs : List ByteArray) (i : Nat) (w : World) (hl : zs.length ≤ 9223372036854775807) (hT : Tab w ad zs) (hE : plainE (N : Int) f (D : Int) p r dr o sl md fr zs = 0) (hf : hs.length = N * D) (hi : i < N) (hL : kStr.Lies w.heap.size w (.slice a2 hs.length c2) hs) :
    Calls Try.prog 5 #[.agg #[.int .i64 (N : Int), .int .i64 f, .int .i64 (D : Int), .int .i64 p, .int .i64 r, .int .i64 dr, .int .i64 o, .int .i64 sl, .int .i64 md, .int .i64 fr, .slice ad zs.length cap], .slice a2 hs.length c2, .int .i64 (i : Int)] w fun e w' => e = .returned (.bool true) ∧ Below w.heap.size w w' := by
  obtain ⟨n1, n2, d1, d2⟩ := ND_caps N f D p r dr o sl md fr ad cap zs hE
  have hm := mul_cast n2 d2
  have C1 := fun V h => rFits_ok N f D p r dr o sl md fr ad cap zs a2 hs.length c2 V hl h hE (by omega)
  rw [decide_eq_true hf] at C1
  have C2 := fun V h h2 => Held_ok N f D p r dr o sl md fr ad cap zs a2 hs.length c2 hs i V hl h hE hf hi h2
  have C3 := fun a c L V h (hLf : L.length = N * D) h2 => Take_ok N f D p r dr o sl md fr ad cap zs a (N * D) c L V hl h hE hLf h2
  have C4 := fun V h => rEmpty_ok N f D p r dr o sl md fr ad cap zs V hl h hE
  have HT := hidden (hT.below (ballc w (.cells #[.int .i64 (N : Int), .int .i64 f, .int .i64 (D : Int), .int .i64 p, .int .i64 r, .int .i64 dr, .int .i64 o, .int .i64 sl, .int .i64 md, .int .i64 fr, .slice ad zs.length cap] 24)))
  have HL := hidden (hL.later (ballc w (.cells #[.int .i64 (N : Int), .int .i64 f, .int .i64 (D : Int), .int .i64 p, .int .i64 r, .int .i64 dr, .int .i64 o, .int .i64 sl, .int .i64 md, .int .i64 fr, .slice ad zs.length cap] 24)))
  have i1 : ¬ (100 : Int) < (hs.length : Int) := by omega
  have i1' : decide ((100 : Int) < (hs.length : Int)) = false := by simp; omega
  have i2 : decide ((i : Int) < 0) = false := by simp
  have i3 : decide ((N : Int) ≤ (i : Int)) = false := by simp; omega
  have i4 : ¬ (N : Int) ≤ (i : Int) := by omega
  have HF := hidden hf
  clear hT hE hL hf
  go_enter Try.func5, Try.ntmps5
  go_wp2_with fail
  refine (C1 _ HT.out).mono ?_
  rintro e w1 ⟨rfl, hb⟩
  obtain ⟨hbox, hsz⟩ := box_at hb
  have HB1 := hidden hb
  clear hb C1
  go_wp2_with fail
  refine (C2 _ (HT.out.below HB1.out) (HL.out.later HB1.out)).mono ?_
  rintro e w2 ⟨rfl, hb⟩
  have hb2 := bthen HB1.out hb
  have hbk := (hb2.block w.heap.size (by simp)).trans (heap_alloc_new w _)
  have hsz2 := (Array.getElem?_eq_some_iff.1 hbk).1
  have HK := hidden hbk
  have HT2 := hidden (HT.out.below hb2)
  have hL2 := HL.out.later hb2
  rw [HF.out] at hL2
  have HL2 := hidden hL2
  have HB2 := hidden (bthen (ballc w _) hb2)
  clear hb hb2 hbk C2 HB1 hbox hsz HT hL2
  go_wp2
  go_loopw [7, 8, 9] (fun v r c wr => ∃ (k : Nat) (L : List ByteArray) (a : Option Addr) (cc : Nat), k ≤ D ∧ c = .int .i64 (k : Int) ∧ r = .slice a (N * D) cc ∧ L.length = N * D ∧ kStr.Lies wr.heap.size wr (.slice a (N * D) cc) L ∧ v = .int .i64 (heldK D L i D : Int) ∧ Gone D k L ∧ Below w2.heap.size w2 wr) (fun _ _ c _ => D - (intV c).toNat)
  case atStart =>
    exact ⟨0, hs, a2, c2, Nat.zero_le _, rfl, by rw [HF.out], HF.out, HL2.out, rfl, Gone.zero D (by omega) hs, Below.refl _ _⟩
  case round =>
    obtain ⟨k, L, a, cc, hk, rfl, rfl, hLf, hLL, rfl, hG, hB⟩ := hrel
    have lc := blk_cell ((hB.block _ hsz2).trans HK.out)
    have hHl := heldK_le D L i D
    by_cases hlt : k < D
    · have i5 : (k : Int) < (D : Int) := by omega
      have hst := held_take L hi (show 0 < D by omega)
      have hG2 := hG.succ (show 0 < D by omega) hLf
      have HLF := hidden hLf
      have HST := hidden hst
      have HG := hidden hG2
      have HLL := hidden hLL
      clear hG hG2 hst hLL hLf
      go_wp2_with fail
      refine (C3 a cc L _ (HT2.out.below hB) HLF.out HLL.out).mono ?_
      rintro e w3 ⟨g1, g2, rfl, hk1, hk2, _, _, hb⟩
      have hb3 := bthen hB hb
      have lc3 := blk_cell ((hb3.block _ hsz2).trans HK.out)
      have hx := hk1.cell i (by rw [takeN_length]; exact hi)
      rw [takeN_at N D L i hi] at hx
      have hL3 := lies_lit (takeR_length (N * D) D L) hk2 (by omega)
      have HL3 := hidden hL3
      have HB3 := hidden hb3
      have hH2 := heldK_le D (takeR (N * D) D L) i D
      clear hb lc hk1 hk2 hL3 hb3 hB HLL
      generalize L.getD (i * D) noB = X at hx HST
      have i6 : (0 : Int) ≤ (i : Int) := by omega
      have i7 : (i : Int) < (N : Int) := by omega
      cases hX : emt X
      · have e1 : X.toList.isEmpty = false := hX
        have hst := HST.out
        rw [hX] at hst
        simp only [Bool.false_eq_true, if_false] at hst
        have HH : Hid ((heldK D L i D : Int) - 1 = (heldK D (takeR (N * D) D L) i D : Int)) := by show _ = _; omega
        have hpos : 0 < heldK D L i D := by omega
        clear hX hst HST
        generalize heldK D L i D = H at *
        go_wp2
        go_roundw
        case rel => exact ⟨k + 1, _, _, _, by omega, by go_num, rfl, takeR_length _ _ _, HL3.out, by rw [← HH.out], HG.out, HB3.out⟩
        case measure => simp [intV]; omega
      · have e1 : X.toList.isEmpty = true := hX
        have hst := HST.out
        rw [hX] at hst
        simp only [if_true, Nat.add_zero] at hst
        have HH := hidden hst
        clear hX hst HST
        generalize heldK D L i D = H at *
        go_wp2
        go_roundw
        case rel => exact ⟨k + 1, _, _, _, by omega, by go_num, rfl, takeR_length _ _ _, HL3.out, by rw [HH.out], HG.out, HB3.out⟩
        case measure => simp [intV]; omega
    · obtain rfl : k = D := by omega
      have hLe := hG.all hLf
      rw [hLe, held_none]
      rw [hLe] at hLL
      have HLL := hidden hLL
      have HB := hidden hB
      clear hLL hG hLf hB
      go_wp2_with fail
      refine (C4 _ (HT2.out.below HB.out)).mono ?_
      rintro e w3 ⟨a3, c3, rfl, hk3, hb⟩
      have HK3 := hidden hk3
      have HL3 := hidden (HLL.out.later hb)
      have HB3 := hidden (bthen HB.out hb)
      clear hb hk3 HLL
      go_wp2_with fail
      refine (Same_eq _ _ _ _ _ _ (List.replicate (N * k) noB) _ (by rw [List.length_replicate]; omega) HL3.out HK3.out).mono ?_
      rintro e w4 ⟨rfl, hb⟩
      have HB4 := hidden (bthen HB3.out hb)
      clear hb
      go_wp2_with fail
      refine (known12_any _).mono ?_
      rintro e w5 ⟨rfl, hb⟩
      go_wp2
      go_ret
      exact ⟨rfl, bthen HB2.out (bthen HB4.out hb)⟩
theorem walk (n f d p r dr o sl md fr : Int) (ad : Option Addr) (cap : Nat) (zs : List Int) (a2 : Option Addr) (c2 : Nat) (hs : List ByteArray) (fm : Int) (w : World) (hl : zs.length ≤ 9223372036854775807) (hT : Tab w ad zs) (hlen : hs.length ≤ 9223372036854775807) (hL : kStr.Lies w.heap.size w (.slice a2 hs.length c2) hs) (hfm : -9223372036854775808 ≤ fm ∧ fm ≤ 9223372036854775807) :
    Calls Try.prog 5 #[.agg #[.int .i64 n, .int .i64 f, .int .i64 d, .int .i64 p, .int .i64 r, .int .i64 dr, .int .i64 o, .int .i64 sl, .int .i64 md, .int .i64 fr, .slice ad zs.length cap], .slice a2 hs.length c2, .int .i64 fm] w fun e w' => e = .returned (.bool true) ∧ Below w.heap.size w w' := by
  by_cases hE : plainE n f d p r dr o sl md fr zs = 0
  · have hk := plainE_ok hE
    obtain ⟨N, rfl⟩ : ∃ N : Nat, n = (N : Int) := ⟨n.toNat, by omega⟩
    obtain ⟨D, rfl⟩ : ∃ D : Nat, d = (D : Int) := ⟨d.toNat, by omega⟩
    by_cases h : ¬ hs.length = N * D ∨ fm < 0 ∨ (N : Int) ≤ fm
    · exact walk_out N f D p r dr o sl md fr ad cap zs a2 c2 hs fm w hl hT hlen hE h
    · have hf : hs.length = N * D := by
        by_cases e : hs.length = N * D
        · exact e
        · exact absurd (.inl e) h
      have h2 : 0 ≤ fm ∧ fm < (N : Int) := by
        refine ⟨Int.not_lt.1 fun k => h (.inr (.inl k)), Int.not_le.1 fun k => h (.inr (.inr k))⟩
      obtain ⟨i, rfl⟩ : ∃ i : Nat, fm = (i : Int) := ⟨fm.toNat, by omega⟩
      exact walk_ok N f D p r dr o sl md fr ad cap zs a2 c2 hs i w hl hT hE hf (by omega) hL
  · exact walk_no n f d p r dr o sl md fr ad cap zs a2 c2 hs fm w hl hT hlen hE
end Go.Proofs.Ytcnmbpgjgjncdab.LawHoldEnds
