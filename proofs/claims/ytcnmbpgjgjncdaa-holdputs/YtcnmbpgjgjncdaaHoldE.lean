/- The calls Empty and Take of package hold return what plain functions give, in memory of their own, and make at most new memory; conditions: the table and the row lie where they say, and their lengths fit int. -/
import Derived.Test.YtcnmbpgjgjncdaaHoldO
import Derived.Test.YtcnmbpgjgjncdaaHoldP
import Derived.Test.YtcnmbpgjgjncdaaHoldC
import Derived.Test.YtcnmbpgjgjncdaaConfQ
import Derived.Test.YtcnmbpgjgjncdaaChain
import Derived.Test.YtcnmbpgjgjncdaaSix
import Derived.Deep.RegionHeld3
import Derived.Deep.DeepCutAuto
namespace Go.Proofs.Ytcnmbpgjgjncdaa
open Go.ChangeShapes Go.WideShapes Go.ChangeAt Go.RowKit
set_option linter.unusedVariables false

theorem ND_caps (N : Nat) (f : Int) (D : Nat) (p r dr o sl md fr : Int) (ad : Option Addr) (cap : Nat) (zs : List Int) (hE : plainE (N : Int) f (D : Int) p r dr o sl md fr zs = 0) : 4 ≤ N ∧ N ≤ 13 ∧ 1 ≤ D ∧ D ≤ 4 := by
  obtain ⟨h1, h2, h3, h4, h5, h6, h7, _⟩ := plainE_ok hE
  omega
set_option maxHeartbeats 1000000 in
theorem Empty_ok (N : Nat) (f : Int) (D : Nat) (p r dr o sl md fr : Int) (ad : Option Addr) (cap : Nat) (zs : List Int) (w : World) (hl : zs.length ≤ 9223372036854775807) (hT : Tab w ad zs) (hE : plainE (N : Int) f (D : Int) p r dr o sl md fr zs = 0) :
    Calls Try.prog 21 #[.agg #[.int .i64 (N : Int), .int .i64 f, .int .i64 (D : Int), .int .i64 p, .int .i64 r, .int .i64 dr, .int .i64 o, .int .i64 sl, .int .i64 md, .int .i64 fr, .slice ad zs.length cap]] w fun e w' => ∃ g, e = .returned (.slice (some ⟨g, 0, none⟩) (N * D) (N * D)) ∧ SBlk w' g (List.replicate (N * D) noB) ∧ w.heap.size ≤ g ∧ Below w.heap.size w w' := by
  obtain ⟨n1, n2, d1, d2⟩ := ND_caps N f D p r dr o sl md fr ad cap zs hE
  have hm := mul_cast n2 d2
  have C1 := fun V h => plain_any (N : Int) f (D : Int) p r dr o sl md fr ad cap zs V hl h
  rw [hE] at C1
  obtain ⟨M, hM⟩ : ∃ M, M = N * D := ⟨_, rfl⟩
  have e1 : (N : Int) * (D : Int) = (M : Int) := by rw [hM]; rfl
  rw [← hM] at hm ⊢
  have hmk := fun w => make_strs M (by omega) w
  have t1 := wr64 e1 (by omega)
  have HT := hidden (hT.below (ballc w (.cells #[.int .i64 (N : Int), .int .i64 f, .int .i64 (D : Int), .int .i64 p, .int .i64 r, .int .i64 dr, .int .i64 o, .int .i64 sl, .int .i64 md, .int .i64 fr, .slice ad zs.length cap] 24)))
  clear hT hE hM e1 n1 n2 d1 d2
  go_enter Try.func21, Try.ntmps21
  go_wp2_with fail
  refine (C1 _ HT.out).mono ?_
  rintro e w1 ⟨rfl, hb⟩
  obtain ⟨hbox, hsz⟩ := box_at hb
  have HB := hidden (bthen (ballc w _) hb)
  clear hb C1
  go_wp2
  go_ret
  exact ⟨_, rfl, heap_alloc_new _ _, by omega, bthen HB.out (ballc _ _)⟩
set_option maxHeartbeats 1000000 in
theorem Empty_no (n f d p r dr o sl md fr : Int) (ad : Option Addr) (cap : Nat) (zs : List Int) (w : World) (hl : zs.length ≤ 9223372036854775807) (hT : Tab w ad zs) (hE : ¬ plainE n f d p r dr o sl md fr zs = 0) :
    Calls Try.prog 21 #[.agg #[.int .i64 n, .int .i64 f, .int .i64 d, .int .i64 p, .int .i64 r, .int .i64 dr, .int .i64 o, .int .i64 sl, .int .i64 md, .int .i64 fr, .slice ad zs.length cap]] w fun e w' => e = .returned (.slice none 0 0) ∧ Below w.heap.size w w' := by
  have C1 := fun V h => plain_any n f d p r dr o sl md fr ad cap zs V hl h
  generalize plainE n f d p r dr o sl md fr zs = E at *
  have hE' : (E != 0) = true := by simp [hE]
  have HT := hidden (hT.below (ballc w (.cells #[.int .i64 n, .int .i64 f, .int .i64 d, .int .i64 p, .int .i64 r, .int .i64 dr, .int .i64 o, .int .i64 sl, .int .i64 md, .int .i64 fr, .slice ad zs.length cap] 24)))
  clear hT hE
  go_enter Try.func21, Try.ntmps21
  go_wp2_with fail
  refine (C1 _ HT.out).mono ?_
  rintro e w1 ⟨rfl, hb⟩
  go_wp2
  go_ret
  exact ⟨rfl, bthen (ballc w _) hb⟩
set_option maxHeartbeats 1000000 in
theorem Take_nil (n f d p r dr o sl md fr : Int) (ad : Option Addr) (cap : Nat) (zs : List Int) (a2 : Option Addr) (len c2 : Nat) (w : World) (hl : zs.length ≤ 9223372036854775807) (hT : Tab w ad zs) (hE : ¬ plainE n f d p r dr o sl md fr zs = 0) :
    Calls Try.prog 41 #[.agg #[.int .i64 n, .int .i64 f, .int .i64 d, .int .i64 p, .int .i64 r, .int .i64 dr, .int .i64 o, .int .i64 sl, .int .i64 md, .int .i64 fr, .slice ad zs.length cap], .slice a2 len c2] w fun e w' => e = .returned (.tuple #[.slice none 0 0, .slice none 0 0]) ∧ Below w.heap.size w w' := by
  have C1 := fun V h => plain_any n f d p r dr o sl md fr ad cap zs V hl h
  generalize plainE n f d p r dr o sl md fr zs = E at *
  have hE' : (E != 0) = true := by simp [hE]
  have HT := hidden (hT.below (ballc w (.cells #[.int .i64 n, .int .i64 f, .int .i64 d, .int .i64 p, .int .i64 r, .int .i64 dr, .int .i64 o, .int .i64 sl, .int .i64 md, .int .i64 fr, .slice ad zs.length cap] 24)))
  clear hT hE
  go_enter Try.func41, Try.ntmps41
  go_wp2_with fail
  refine (C1 _ HT.out).mono ?_
  rintro e w1 ⟨rfl, hb⟩
  go_wp2
  go_ret2
  exact ⟨rfl, bthen (ballc w _) hb⟩
set_option maxHeartbeats 1000000 in
theorem Take_unfit (N : Nat) (f : Int) (D : Nat) (p r dr o sl md fr : Int) (ad : Option Addr) (cap : Nat) (zs : List Int) (a2 : Option Addr) (len c2 : Nat) (w : World) (hl : zs.length ≤ 9223372036854775807) (hT : Tab w ad zs) (hE : plainE (N : Int) f (D : Int) p r dr o sl md fr zs = 0) (hlen : len ≤ 9223372036854775807) (hf : ¬ len = N * D) :
    Calls Try.prog 41 #[.agg #[.int .i64 (N : Int), .int .i64 f, .int .i64 (D : Int), .int .i64 p, .int .i64 r, .int .i64 dr, .int .i64 o, .int .i64 sl, .int .i64 md, .int .i64 fr, .slice ad zs.length cap], .slice a2 len c2] w fun e w' => e = .returned (.tuple #[.slice none 0 0, .slice none 0 0]) ∧ Below w.heap.size w w' := by
  obtain ⟨n1, n2, d1, d2⟩ := ND_caps N f D p r dr o sl md fr ad cap zs hE
  have C1 := fun V h => plain_any (N : Int) f (D : Int) p r dr o sl md fr ad cap zs V hl h
  have C2 := fun V => fits_any N f D p r dr o sl md fr ad cap zs a2 len c2 V n2 d2 hlen
  rw [hE] at C1
  rw [decide_eq_false hf] at C2
  have HT := hidden (hT.below (ballc w (.cells #[.int .i64 (N : Int), .int .i64 f, .int .i64 (D : Int), .int .i64 p, .int .i64 r, .int .i64 dr, .int .i64 o, .int .i64 sl, .int .i64 md, .int .i64 fr, .slice ad zs.length cap] 24)))
  clear hT hE hf n1 n2 d1 d2
  go_enter Try.func41, Try.ntmps41
  go_wp2_with fail
  refine (C1 _ HT.out).mono ?_
  rintro e w1 ⟨rfl, hb⟩
  obtain ⟨hbox, hsz⟩ := box_at hb
  have HB := hidden (bthen (ballc w _) hb)
  clear hb C1
  go_wp2_with fail
  refine (C2 _).mono ?_
  rintro e w2 ⟨rfl, hb⟩
  go_wp2
  go_ret2
  exact ⟨rfl, bthen HB.out hb⟩
set_option maxHeartbeats 4000000 in
theorem Take_ok (N : Nat) (f : Int) (D : Nat) (p r dr o sl md fr : Int) (ad : Option Addr) (cap : Nat) (zs : List Int) (a2 : Option Addr) (len c2 : Nat) (hs : List ByteArray) (w : World) (hl : zs.length ≤ 9223372036854775807) (hT : Tab w ad zs) (hE : plainE (N : Int) f (D : Int) p r dr o sl md fr zs = 0) (hf : hs.length = N * D) (hL : kStr.Lies w.heap.size w (.slice a2 len c2) hs) :
    Calls Try.prog 41 #[.agg #[.int .i64 (N : Int), .int .i64 f, .int .i64 (D : Int), .int .i64 p, .int .i64 r, .int .i64 dr, .int .i64 o, .int .i64 sl, .int .i64 md, .int .i64 fr, .slice ad zs.length cap], .slice a2 len c2] w fun e w' => ∃ g1 g2, e = .returned (.tuple #[.slice (some ⟨g1, 0, none⟩) N N, .slice (some ⟨g2, 0, none⟩) (N * D) (N * D)]) ∧ SBlk w' g1 (takeN N D hs) ∧ SBlk w' g2 (takeR (N * D) D hs) ∧ w.heap.size ≤ g1 ∧ w.heap.size ≤ g2 ∧ Below w.heap.size w w' := by
  obtain ⟨n1, n2, d1, d2⟩ := ND_caps N f D p r dr o sl md fr ad cap zs hE
  have hm := mul_cast n2 d2
  obtain rfl := hL.len
  have hpos : 0 < hs.length := by rw [hf]; exact Nat.mul_pos (by omega) (by omega)
  obtain ⟨hc1, hc2⟩ := kStr_caps hL
  obtain ⟨b, off, rfl, hbl, _⟩ := kStr_at hL 0 hpos
  have C1 := fun V h => plain_any (N : Int) f (D : Int) p r dr o sl md fr ad cap zs V hl h
  have C2 := fun V => fits_any N f D p r dr o sl md fr ad cap zs (some ⟨b, off, none⟩) hs.length c2 V n2 d2 (by omega)
  have C3 := fun V h => Empty_ok N f D p r dr o sl md fr ad cap zs V hl h hE
  have C4 := fun i V hi => ofNode_any N f D p r dr o sl md fr ad cap zs b off hs.length c2 i V n2 d2 d1 hi hf hc1 hc2
  have C5 := fun g i V hi => ofNode_any N f D p r dr o sl md fr ad cap zs g 0 (N * D) (N * D) i V n2 d2 d1 hi rfl (Nat.le_refl _) (by omega)
  rw [hE] at C1
  rw [decide_eq_true hf] at C2
  have HT := hidden (hT.below (ballc w (.cells #[.int .i64 (N : Int), .int .i64 f, .int .i64 (D : Int), .int .i64 p, .int .i64 r, .int .i64 dr, .int .i64 o, .int .i64 sl, .int .i64 md, .int .i64 fr, .slice ad zs.length cap] 24)))
  have HL := hidden hL
  have HF := hidden hf
  clear hT hE hf hL
  go_enter Try.func41, Try.ntmps41
  go_wp2_with fail
  refine (C1 _ HT.out).mono ?_
  rintro e w1 ⟨rfl, hb⟩
  have HB1 := hidden hb
  obtain ⟨hbox, hsz⟩ := box_at hb
  clear hb C1
  go_wp2_with fail
  refine (C2 _).mono ?_
  rintro e w2 ⟨rfl, hb⟩
  have HB2 := hidden (bthen HB1.out hb)
  clear hb C2 HB1 hbox hsz
  have hblk : w2.heap[w.heap.size]? = some (.cells #[.int .i64 (N : Int), .int .i64 f, .int .i64 (D : Int), .int .i64 p, .int .i64 r, .int .i64 dr, .int .i64 o, .int .i64 sl, .int .i64 md, .int .i64 fr, .slice ad zs.length cap] 24 (0, 0)) := (HB2.out.block _ (by simp)).trans (heap_alloc_new w _)
  have hsz0 := (Array.getElem?_eq_some_iff.1 hblk).1
  have HK1 := hidden hblk
  have hbx := blk_cell hblk
  have HT2 := hidden (HT.out.below HB2.out)
  have hC0 : Chn w2.heap.size w2 w2 := Chn.refl (Nat.le_refl _)
  have hmk := fun w => make_strs N (by omega) w
  clear hblk HT
  go_wp2
  go_cut [4, 5] (fun p1 p2 wx => ∃ g1 g2 : Nat, p1 = .slice (some ⟨g1, 0, none⟩) N N ∧ p2 = .slice (some ⟨g2, 0, none⟩) (N * D) (N * D) ∧ SBlk wx g1 (List.replicate N noB) ∧ SBlk wx g2 (List.replicate (N * D) noB) ∧ g1 ≠ g2 ∧ w2.heap.size ≤ g1 ∧ w2.heap.size ≤ g2 ∧ Chn w2.heap.size w2 wx)
  case first =>
    have hS : ∀ w', Chn w2.heap.size w2 w' → w'.cell? ⟨w.heap.size, 0, none⟩ = some (.int .i64 (N : Int)) ∧ w'.cell? ⟨w.heap.size, 1, none⟩ = some (.int .i64 f) ∧ w'.cell? ⟨w.heap.size, 2, none⟩ = some (.int .i64 (D : Int)) ∧ w'.cell? ⟨w.heap.size, 3, none⟩ = some (.int .i64 p) ∧ w'.cell? ⟨w.heap.size, 4, none⟩ = some (.int .i64 r) ∧ w'.cell? ⟨w.heap.size, 5, none⟩ = some (.int .i64 dr) ∧ w'.cell? ⟨w.heap.size, 6, none⟩ = some (.int .i64 o) ∧ w'.cell? ⟨w.heap.size, 7, none⟩ = some (.int .i64 sl) ∧ w'.cell? ⟨w.heap.size, 8, none⟩ = some (.int .i64 md) ∧ w'.cell? ⟨w.heap.size, 9, none⟩ = some (.int .i64 fr) ∧ w'.cell? ⟨w.heap.size, 10, none⟩ = some (.slice ad zs.length cap) := by
      intro V hV
      have l1 := blk_cell ((hV.1.block _ hsz0).trans HK1.out)
      exact ⟨l1 0, l1 1, l1 2, l1 3, l1 4, l1 5, l1 6, l1 7, l1 8, l1 9, l1 10⟩
    go_region_held3 (fun w' => w'.cell? ⟨w.heap.size, 0, none⟩ = some (.int .i64 (N : Int)) ∧ w'.cell? ⟨w.heap.size, 1, none⟩ = some (.int .i64 f) ∧ w'.cell? ⟨w.heap.size, 2, none⟩ = some (.int .i64 (D : Int)) ∧ w'.cell? ⟨w.heap.size, 3, none⟩ = some (.int .i64 p) ∧ w'.cell? ⟨w.heap.size, 4, none⟩ = some (.int .i64 r) ∧ w'.cell? ⟨w.heap.size, 5, none⟩ = some (.int .i64 dr) ∧ w'.cell? ⟨w.heap.size, 6, none⟩ = some (.int .i64 o) ∧ w'.cell? ⟨w.heap.size, 7, none⟩ = some (.int .i64 sl) ∧ w'.cell? ⟨w.heap.size, 8, none⟩ = some (.int .i64 md) ∧ w'.cell? ⟨w.heap.size, 9, none⟩ = some (.int .i64 fr) ∧ w'.cell? ⟨w.heap.size, 10, none⟩ = some (.slice ad zs.length cap)) (first | exact hS _ (by repeat (first | with_reducible assumption | with_reducible refine Chn.drew ?_ | with_reducible refine Chn.alloc ?_ _)))
      (first
      | (go_at_call 21; refine (C3 _ (HT2.out.below (Chn.out (by repeat (first | with_reducible assumption | with_reducible refine Chn.drew ?_ | with_reducible refine Chn.alloc ?_ _))))).mono ?_; rintro e w4 ⟨g4, rfl, hk4, hg4, hb4⟩; clear C3; have hC4 := Chn.below (show Chn w2.heap.size w2 _ from (by repeat (first | with_reducible assumption | with_reducible refine Chn.drew ?_ | with_reducible refine Chn.alloc ?_ _))) hb4))
    all_goals
      go_wp2_with fail
      go_meet
      case rel =>
        simp only [World.size_alloc, World.size_drew] at hg4
        refine ⟨_, _, rfl, rfl, ?_, ?_, ?_, ?_, ?_, (by repeat (first | with_reducible assumption | with_reducible refine Chn.drew ?_ | with_reducible refine Chn.alloc ?_ _))⟩
        · first
            | exact (hb4.block w2.heap.size (by simp)).trans (heap_alloc_new _ _)
            | exact heap_alloc_new w4 _
        · first
            | exact hk4
            | exact SBlk.later hk4 (ballc _ _)
        · have := hk4.lt
          omega
        · first
            | with_reducible exact Nat.le_refl _
            | with_reducible exact Chn.le hC4
        · omega
  case rest =>
    obtain ⟨g1, g2, rfl, rfl, hk1, hk2, hne, hl1, hl2, hC⟩ := hcut
    have lc := blk_cell ((hC.1.block _ hsz0).trans HK1.out)
    clear hbx hmk
    go_wp2
    go_loopw [24] (fun i wr => ∃ k : Nat, k ≤ N ∧ i = .int .i64 (k : Int) ∧ SBlk wr g1 (nowP N D k hs) ∧ SBlk wr g2 (restP N D k hs) ∧ Chn w2.heap.size w2 wr) (fun i _ => N - (intV i).toNat)
    case atStart => exact ⟨0, Nat.zero_le _, rfl, by rw [nowP_zero]; exact hk1, by rw [restP_zero]; exact hk2, hC⟩
    case round =>
      clear lc hk1 hk2 hC
      obtain ⟨k, hk, rfl, hk1, hk2, hC⟩ := hrel
      by_cases hlt : k < N
      · have lc := blk_cell ((hC.1.block _ hsz0).trans HK1.out)
        have i2 : (k : Int) < (N : Int) := by omega
        have i0 : (0 : Int) ≤ (k : Int) := by omega
        go_wp2_with fail
        refine (C4 k _ hlt).mono ?_
        rintro e w3 ⟨rfl, hb⟩
        have hp : k * D < hs.length := by rw [HF.out]; exact mul_lt_place (k := 0) hlt (by omega)
        have hBw : Below w.heap.size w w3 := bthen (bthen (ballc w _) (bthen HB2.out hC.1)) hb
        obtain ⟨b', off', hbo, _, hx⟩ := kStr_at HL.out (k * D) hp
        obtain ⟨rfl, rfl⟩ : b = b' ∧ off = off' := by simpa using hbo
        have hx3 := (hBw.cell (p := ⟨b, off + k * D, none⟩) hbl).trans hx
        have HS1 := hidden (nowP_set N D k hs hlt)
        have hk1' := hk1.later hb
        have hk2' := hk2.later hb
        have c1 := hk1'.cell k (by rw [nowP_length]; exact hlt)
        have c2' := hk1'.open k
        have hC3 := hC.below hb
        have lc3 := blk_cell ((hC3.1.block _ hsz0).trans HK1.out)
        generalize hs.getD (k * D) noB = X at hx3 HS1
        generalize (nowP N D k hs).getD k noB = Xo at c1
        have HK1' := hidden hk1'
        have HK2' := hidden hk2'
        clear hb hk1 hk2 hk1' hk2' hx hbo lc hC hBw
        have hd0 : (0 : Int) < (D : Int) := by omega
        go_wp2
        have hC4 : Chn w2.heap.size w2 (w3.setCell ⟨g1, k, none⟩ (.string X)) := hC3.set g1 k hl1 _
        have hkW1 : SBlk (w3.setCell ⟨g1, k, none⟩ (.string X)) g1 (nowP N D (k + 1) hs) := by rw [← HS1.out]; exact HK1'.out.set k X
        have hkW2 : SBlk (w3.setCell ⟨g1, k, none⟩ (.string X)) g2 (restP N D k hs) := HK2'.out.other _ _ (fun e => hne e.symm)
        clear lc3 c1 c2' hx3 HK1' HK2' hC3
        generalize w3.setCell ⟨g1, k, none⟩ (.string X) = W at *
        have hsrc : ∀ V, Chn w2.heap.size w2 V → ∀ j v, (((hs.drop (k * D + 1)).take (D - 1)).map Value.string)[j]? = some v → V.cell? ((⟨b, off + k * D + 1, none⟩ : Addr).add j) = some v := by
          intro V hV j v hv
          rw [List.getElem?_map] at hv
          have hj : j < ((hs.drop (k * D + 1)).take (D - 1)).length := by
            by_cases h : j < ((hs.drop (k * D + 1)).take (D - 1)).length
            · exact h
            · rw [List.getElem?_eq_none (by omega)] at hv; cases hv
          rw [List.length_take, List.length_drop] at hj
          obtain ⟨b', off', hbo, _, hx⟩ := kStr_at HL.out (k * D + 1 + j) (by omega)
          obtain ⟨rfl, rfl⟩ : b = b' ∧ off = off' := by simpa using hbo
          have hBw : Below w.heap.size w V := bthen (bthen (ballc w _) HB2.out) hV.1
          have hx4 := (hBw.cell (p := ⟨b, off + (k * D + 1 + j), none⟩) hbl).trans hx
          rw [add_plain]
          have e : off + k * D + 1 + j = off + (k * D + 1 + j) := by omega
          rw [e, hx4, ← hv]
          have e2 := drop_at hs (k * D + 1) (D - 1) j (by omega)
          rw [← e2, List.getD_eq_getElem?_getD]
          rw [List.getElem?_eq_getElem (by rw [List.length_take, List.length_drop]; omega)]
          rfl
        have hsp : k * D + D ≤ N * D := by
          have h1 : (k + 1) * D ≤ N * D := Nat.mul_le_mul_right D hlt
          rw [Nat.add_mul] at h1
          omega
        have hcl : (((hs.drop (k * D + 1)).take (D - 1)).map Value.string).length = D - 1 := by rw [List.length_map, List.length_take, List.length_drop, HF.out]; omega
        have HCL := hidden hcl
        have HSP := hidden (restP_splice N D k hs (by omega) hlt HF.out)
        have hS : ∀ w', Chn w2.heap.size w2 w' → w'.cell? ⟨w.heap.size, 0, none⟩ = some (.int .i64 (N : Int)) ∧ w'.cell? ⟨w.heap.size, 1, none⟩ = some (.int .i64 f) ∧ w'.cell? ⟨w.heap.size, 2, none⟩ = some (.int .i64 (D : Int)) ∧ w'.cell? ⟨w.heap.size, 3, none⟩ = some (.int .i64 p) ∧ w'.cell? ⟨w.heap.size, 4, none⟩ = some (.int .i64 r) ∧ w'.cell? ⟨w.heap.size, 5, none⟩ = some (.int .i64 dr) ∧ w'.cell? ⟨w.heap.size, 6, none⟩ = some (.int .i64 o) ∧ w'.cell? ⟨w.heap.size, 7, none⟩ = some (.int .i64 sl) ∧ w'.cell? ⟨w.heap.size, 8, none⟩ = some (.int .i64 md) ∧ w'.cell? ⟨w.heap.size, 9, none⟩ = some (.int .i64 fr) ∧ w'.cell? ⟨w.heap.size, 10, none⟩ = some (.slice ad zs.length cap) := by
          intro V hV
          have l1 := blk_cell ((hV.1.block _ hsz0).trans HK1.out)
          exact ⟨l1 0, l1 1, l1 2, l1 3, l1 4, l1 5, l1 6, l1 7, l1 8, l1 9, l1 10⟩
        have HRL := hidden (restP_length N D k hs)
        clear hcl
        obtain ⟨sp, hsl, hspA⟩ := slice_one b (off + k * D) D (by omega)
        have HSA := hidden hspA
        clear hspA
        go_region_held3 (fun w' => w'.cell? ⟨w.heap.size, 0, none⟩ = some (.int .i64 (N : Int)) ∧ w'.cell? ⟨w.heap.size, 1, none⟩ = some (.int .i64 f) ∧ w'.cell? ⟨w.heap.size, 2, none⟩ = some (.int .i64 (D : Int)) ∧ w'.cell? ⟨w.heap.size, 3, none⟩ = some (.int .i64 p) ∧ w'.cell? ⟨w.heap.size, 4, none⟩ = some (.int .i64 r) ∧ w'.cell? ⟨w.heap.size, 5, none⟩ = some (.int .i64 dr) ∧ w'.cell? ⟨w.heap.size, 6, none⟩ = some (.int .i64 o) ∧ w'.cell? ⟨w.heap.size, 7, none⟩ = some (.int .i64 sl) ∧ w'.cell? ⟨w.heap.size, 8, none⟩ = some (.int .i64 md) ∧ w'.cell? ⟨w.heap.size, 9, none⟩ = some (.int .i64 fr) ∧ w'.cell? ⟨w.heap.size, 10, none⟩ = some (.slice ad zs.length cap)) (first | exact hS _ (by repeat (first | with_reducible assumption | with_reducible refine Chn.drew ?_ | with_reducible refine Chn.alloc ?_ _)))
            (first
            | (go_at_call 44; refine (C5 g2 k _ hlt).mono ?_; rintro e w5 ⟨rfl, hb5⟩; have hC5 := Chn.below (show Chn w2.heap.size w2 _ from (by repeat (first | with_reducible assumption | with_reducible refine Chn.drew ?_ | with_reducible refine Chn.alloc ?_ _))) hb5; have hk5a : SBlk w5 g1 (nowP N D (k + 1) hs) := (by first | exact SBlk.later hkW1 hb5 | exact SBlk.later (SBlk.drew hkW1) hb5); have hk5 : SBlk w5 g2 (restP N D k hs) := (by first | exact SBlk.later hkW2 hb5 | exact SBlk.later (SBlk.drew hkW2) hb5); clear hb5)
            | (refine step_copy rfl (.tmp 40) (.tmp 42) 39 39 rfl 9 Try.underlying39 infoStr1 _ _ _ _ _ _ rfl rfl g2 (k * D) ((restP N D k hs).map Value.string) 9 hk5 (((hs.drop (k * D + 1)).take (D - 1)).map Value.string) (by rw [HCL.out]; exact (Nat.min_eq_left (by omega)).symm) (fun h => ⟨by simp, _, HSA.out (by rw [HCL.out] at h; omega), hsrc _ hC5⟩) (by rw [HCL.out, List.length_map, HRL.out]; omega) (strs_one _) ?_; intro w6 hg6 hgr6; have hk6a := SBlk.grown hk5a hgr6 hne; have hC6 := Chn.grown hC5 hgr6 hl2))
        have hk6 : SBlk w6 g2 (restP N D (k + 1) hs) := by
          have h := hg6.out
          rw [splice_map, HSP.out] at h
          exact h
        clear hg6
        go_wp2
        go_roundw
        case rel => exact ⟨k + 1, by omega, by go_num, hk6a, hk6, hC6⟩
        case measure => simp [intV]; omega
      · obtain rfl : k = N := by omega
        rw [nowP_all] at hk1
        rw [restP_all] at hk2
        go_wp2
        go_ret2
        exact ⟨g1, g2, rfl, hk1, hk2, by omega, by omega, bthen (bthen (ballc w _) HB2.out) hC.1⟩
end Go.Proofs.Ytcnmbpgjgjncdaa
