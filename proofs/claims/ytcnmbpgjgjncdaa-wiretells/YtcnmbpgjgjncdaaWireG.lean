/- The call Decode of package wire returns what a plain function decodes of bytes, and makes at most new memory; conditions: the table lies where it says, and lengths fit int. -/
import Derived.Test.YtcnmbpgjgjncdaaWireF
import Derived.Test.YtcnmbpgjgjncdaaWireC
import Derived.Test.YtcnmbpgjgjncdaaChain
import Derived.Deep.RegionHeld3
import Derived.Deep.DeepCutAuto
namespace Go.Proofs.Ytcnmbpgjgjncdaa
open Go.ChangeShapes Go.WideShapes Go.ChangeAt Go.RowKit
set_option linter.unusedVariables false

theorem read_any (b : Nat) (s : ByteArray) (R B : Nat) (w : World) (h : Rd b s 0 (R : Int) (B : Int) w) (hs : s.size ≤ 255) (hR : R ≤ 255) (hB : B ≤ 255) :
    Calls Try.prog 33 #[.pointer (some ⟨b, 0, none⟩)] w fun e w' => e = .returned (.agg #[.string (readF (bl s) R B).vo, .int .i64 (readF (bl s) R B).ex, .string (readF (bl s) R B).ve, .int .i64 (readF (bl s) R B).ps, .int .i64 (readF (bl s) R B).cy, .string (readF (bl s) R B).te]) ∧ But b w w' := by
  by_cases h1 : nb (bl s) 0 % 2 = 1
  · by_cases h2 : nb (bl s) 0 / 2 % 2 = 1
    · exact read_11 b s R B w h hs hR hB h1 h2
    · exact read_10 b s R B w h hs hR hB h1 h2
  · by_cases h2 : nb (bl s) 0 / 2 % 2 = 1
    · exact read_01 b s R B w h hs hR hB h1 h2
    · exact read_00 b s R B w h hs hR hB h1 h2
theorem openF_size (s : ByteArray) : (openF s).1.size ≤ s.size := by
  unfold openF
  split
  · exact Nat.zero_le _
  · split
    · simp [ByteArray.size_extract]
    · exact Nat.zero_le _
theorem readF_sizes (l : List UInt8) (R B : Nat) (hR : R ≤ 255) (hB : B ≤ 255) : (readF l R B).vo.size ≤ 255 ∧ (readF l R B).ve.size ≤ 255 ∧ (readF l R B).te.size ≤ 255 := by
  refine ⟨?_, ?_, ?_⟩
  · show (ba (unL l (adv l 0 1) R)).size ≤ 255
    rw [ba_size, unL_length]; exact hR
  · show (if nb l 0 % 2 = 1 then ba (unL l (adv l (rdA l R) 1) B) else ⟨#[]⟩ : ByteArray).size ≤ 255
    split
    · rw [ba_size, unL_length]; exact hB
    · exact Nat.zero_le _
  · show (if nb l 0 / 2 % 2 = 1 then ba (rdT l (adv l (adv l (adv l (rdB l R B) 1) 1) 1) (nb l (adv l (adv l (rdB l R B) 1) 1))) else ⟨#[]⟩ : ByteArray).size ≤ 255
    split
    · rw [ba_size]
      unfold rdT
      have := nb_lt l (adv l (adv l (rdB l R B) 1) 1)
      rw [List.length_take]; omega
    · exact Nat.zero_le _
theorem blk_new {w w' : World} {C : Array Value} {t : TypeId} (hb : Below (w.alloc (.cells C t)).heap.size (w.alloc (.cells C t)) w') : w'.heap[w.heap.size]? = some (.cells C t (0, 0)) := (hb.block _ (by simp)).trans (heap_alloc_new w _)
theorem blk_newD {w w' : World} {C : Array Value} {t : TypeId} (hb : Below (w.alloc (.cells C t)).drew.heap.size (w.alloc (.cells C t)).drew w') : w'.heap[w.heap.size]? = some (.cells C t (0, 0)) := (hb.block _ (by simp)).trans (heap_alloc_new w _)
theorem blk_newE {w w' : World} {C : Array Value} {t : TypeId} (hb : Below (w.alloc (.cells C t)).drew.drew.heap.size (w.alloc (.cells C t)).drew.drew w') : w'.heap[w.heap.size]? = some (.cells C t (0, 0)) := (hb.block _ (by simp)).trans (heap_alloc_new w _)
theorem Rd.four {w : World} {g : Nat} {z0 z1 z2 z3 : Value} (h : w.heap[g]? = some (.cells #[z0, z1, z2, z3] 56 (0, 0))) (s : ByteArray) (R B : Int) :
    Rd g s 0 R B ((((w.setCell ⟨g, 0, none⟩ (.string s)).setCell ⟨g, 1, none⟩ (.int .i64 0)).setCell ⟨g, 2, none⟩ (.int .i64 R)).setCell ⟨g, 3, none⟩ (.int .i64 B)) := by
  have h1 := heap_setCell_same _ g 0 _ _ (.string s) h
  have h2 := heap_setCell_same _ g 1 _ _ (.int .i64 0) h1
  have h3 := heap_setCell_same _ g 2 _ _ (.int .i64 R) h2
  have h4 := heap_setCell_same _ g 3 _ _ (.int .i64 B) h3
  unfold Rd
  simpa using h4
set_option maxHeartbeats 4000000 in
theorem Decode_late (n f d p r dr o sl md fr : Int) (ad : Option Addr) (cap : Nat) (zs : List Int) (s : ByteArray) (w : World) (hl : zs.length ≤ 9223372036854775807) (hT : Tab w ad zs) (hE : plainE n f d p r dr o sl md fr zs = 0) (hs : ¬ 40 < s.size) (ho : (openF s).2 = 0) (X : ByteArray × Int)
    (hX : encF 0 (3 * (f + 1)) (8 + n) zs.length md (readF (bl (openF s).1) (3 * (f + 1)).toNat (8 + n).toNat) = X) (q : Pk) (v : Int) (hq : (if X.2 = 0 ∧ X.1 = s then (readF (bl (openF s).1) (3 * (f + 1)).toNat (8 + n).toNat, (0 : Int)) else (pk0, 3)) = (q, v)) :
    Calls Try.prog 14 #[.agg #[.int .i64 n, .int .i64 f, .int .i64 d, .int .i64 p, .int .i64 r, .int .i64 dr, .int .i64 o, .int .i64 sl, .int .i64 md, .int .i64 fr, .slice ad zs.length cap], .string s] w fun e w' => e = .returned (.tuple #[.agg #[.string q.vo, .int .i64 q.ex, .string q.ve, .int .i64 q.ps, .int .i64 q.cy, .string q.te], .int .i64 v]) ∧ Below w.heap.size w w' := by
  have hcap := conf_caps hE
  have C1 := fun V h => plain_any n f d p r dr o sl md fr ad cap zs V hl h
  have C2 := fun V => open_any s V (by omega)
  have C3 := fun V h => Rounds_any n f d p r dr o sl md fr ad cap zs V hl h
  have C4 := fun V h => Bits_any n f d p r dr o sl md fr ad cap zs V hl h
  rw [hE] at C1
  rw [hE, gate_ok] at C3 C4
  rw [ho] at C2
  have hbz := openF_size s
  generalize (openF s).1 = body at *
  obtain ⟨R, hR⟩ : ∃ R : Nat, 3 * (f + 1) = (R : Int) := ⟨(3 * (f + 1)).toNat, by omega⟩
  obtain ⟨B, hB⟩ : ∃ B : Nat, 8 + n = (B : Int) := ⟨(8 + n).toNat, by omega⟩
  have C6 := fun V h => Encode_any n f d p r dr o sl md fr ad cap zs (readF (bl body) R B) V hl h (by have := readF_sizes (bl body) R B (by omega) (by omega); omega) (by have := readF_sizes (bl body) R B (by omega) (by omega); omega) (by have := readF_sizes (bl body) R B (by omega) (by omega); omega)
  rw [hE] at C6
  rw [hR, hB] at hX hq C6
  rw [hR] at C3
  rw [hB] at C4
  simp only [Int.toNat_natCast] at hX hq
  rw [hX] at C6
  have C5 := fun b V h => read_any b body R B V h (by omega) (by omega) (by omega)
  generalize readF (bl body) R B = g at *
  obtain ⟨gv, ge, gw, gs, gc, gt⟩ := g
  obtain ⟨X1, X2⟩ := X
  dsimp only at *
  have HT := hidden (hT.below (bthen (ballc w (.cells #[.int .i64 n, .int .i64 f, .int .i64 d, .int .i64 p, .int .i64 r, .int .i64 dr, .int .i64 o, .int .i64 sl, .int .i64 md, .int .i64 fr, .slice ad zs.length cap] 24)) (ballc _ (.cells #[.string ⟨#[]⟩, .int .i64 0, .string ⟨#[]⟩, .int .i64 0, .int .i64 0, .string ⟨#[]⟩] 26))))
  have HQ := hidden hq
  clear hX hq hT ho hE hR hB
  have hs' : ¬ (40 : Int) < (s.size : Int) := by omega
  go_enter Try.func14, Try.ntmps14
  go_wp2_with fail
  refine (C1 _ HT.out).mono ?_
  rintro e w1 ⟨rfl, hb⟩
  have HB1 := hidden hb
  clear hb C1
  go_wp2_with fail
  refine (C2 _).mono ?_
  rintro e w2 ⟨rfl, hb⟩
  have HB2 := hidden (bthen HB1.out hb)
  clear hb C2 HB1
  obtain ⟨hbox, hbox2, hsz0, hsz⟩ := box_two HB2.out
  have hblk : w2.heap[w.heap.size]? = some (.cells #[.int .i64 n, .int .i64 f, .int .i64 d, .int .i64 p, .int .i64 r, .int .i64 dr, .int .i64 o, .int .i64 sl, .int .i64 md, .int .i64 fr, .slice ad zs.length cap] 24 (0, 0)) := (HB2.out.block _ (by simp; omega)).trans (((ballc (w.alloc (.cells #[.int .i64 n, .int .i64 f, .int .i64 d, .int .i64 p, .int .i64 r, .int .i64 dr, .int .i64 o, .int .i64 sl, .int .i64 md, .int .i64 fr, .slice ad zs.length cap] 24)) _).block _ (by simp)).trans (heap_alloc_new w _))
  have hC0 : Chn w2.heap.size w2 w2 := Chn.refl (Nat.le_refl _)
  have HT2 := hidden (HT.out.below HB2.out)
  have hblz : w2.heap[w.heap.size + 1]? = some (.cells #[.string ⟨#[]⟩, .int .i64 0, .string ⟨#[]⟩, .int .i64 0, .int .i64 0, .string ⟨#[]⟩] 26 (0, 0)) := blk_second _ _ _ _ HB2.out
  have HK1 := hidden hblk
  have HK2 := hidden hblz
  have HBW := hidden (bthen (bthen (ballc w _) (ballc _ _)) HB2.out)
  clear hblk hblz hbox2 HT HB2
  go_wp2
  go_cut [9] (fun pt wx => ∃ g : Nat, pt = .pointer (some ⟨g, 0, none⟩) ∧ Rd g body 0 R B wx ∧ w2.heap.size ≤ g ∧ Chn w2.heap.size w2 wx)
  case first =>
    have hS : ∀ w', Chn w2.heap.size w2 w' → w'.cell? ⟨w.heap.size, 0, none⟩ = some (.int .i64 n) ∧ w'.cell? ⟨w.heap.size, 1, none⟩ = some (.int .i64 f) ∧ w'.cell? ⟨w.heap.size, 2, none⟩ = some (.int .i64 d) ∧ w'.cell? ⟨w.heap.size, 3, none⟩ = some (.int .i64 p) ∧ w'.cell? ⟨w.heap.size, 4, none⟩ = some (.int .i64 r) ∧ w'.cell? ⟨w.heap.size, 5, none⟩ = some (.int .i64 dr) ∧ w'.cell? ⟨w.heap.size, 6, none⟩ = some (.int .i64 o) ∧ w'.cell? ⟨w.heap.size, 7, none⟩ = some (.int .i64 sl) ∧ w'.cell? ⟨w.heap.size, 8, none⟩ = some (.int .i64 md) ∧ w'.cell? ⟨w.heap.size, 9, none⟩ = some (.int .i64 fr) ∧ w'.cell? ⟨w.heap.size, 10, none⟩ = some (.slice ad zs.length cap) := by
      intro V hV
      have l1 := blk_cell ((hV.1.block _ hsz0).trans HK1.out)
      exact ⟨l1 0, l1 1, l1 2, l1 3, l1 4, l1 5, l1 6, l1 7, l1 8, l1 9, l1 10⟩
    go_region_held3 (fun w' => w'.cell? ⟨w.heap.size, 0, none⟩ = some (.int .i64 n) ∧ w'.cell? ⟨w.heap.size, 1, none⟩ = some (.int .i64 f) ∧ w'.cell? ⟨w.heap.size, 2, none⟩ = some (.int .i64 d) ∧ w'.cell? ⟨w.heap.size, 3, none⟩ = some (.int .i64 p) ∧ w'.cell? ⟨w.heap.size, 4, none⟩ = some (.int .i64 r) ∧ w'.cell? ⟨w.heap.size, 5, none⟩ = some (.int .i64 dr) ∧ w'.cell? ⟨w.heap.size, 6, none⟩ = some (.int .i64 o) ∧ w'.cell? ⟨w.heap.size, 7, none⟩ = some (.int .i64 sl) ∧ w'.cell? ⟨w.heap.size, 8, none⟩ = some (.int .i64 md) ∧ w'.cell? ⟨w.heap.size, 9, none⟩ = some (.int .i64 fr) ∧ w'.cell? ⟨w.heap.size, 10, none⟩ = some (.slice ad zs.length cap)) (first | exact hS _ (by repeat (first | with_reducible assumption | with_reducible refine Chn.drew ?_ | with_reducible refine Chn.alloc ?_ _ | with_reducible refine Chn.set ?_ _ _ (by first | exact Nat.le_refl _ | exact Chn.le hC4 | exact Chn.le hC5) _)))
      (first
      | (go_at_call 31; refine (C3 _ (HT2.out.below (Chn.out (by repeat (first | with_reducible assumption | with_reducible refine Chn.drew ?_ | with_reducible refine Chn.alloc ?_ _ | with_reducible refine Chn.set ?_ _ _ (by first | exact Nat.le_refl _ | exact Chn.le hC4 | exact Chn.le hC5) _))))).mono ?_; rintro e w4 ⟨rfl, hb4⟩; clear C3; have hC4 := Chn.below (show Chn w2.heap.size w2 _ from (by repeat (first | with_reducible assumption | with_reducible refine Chn.drew ?_ | with_reducible refine Chn.alloc ?_ _ | with_reducible refine Chn.set ?_ _ _ (by first | exact Nat.le_refl _ | exact Chn.le hC4 | exact Chn.le hC5) _))) hb4; first | (have kx4 := (hb4.block _ (Array.getElem?_eq_some_iff.1 kx5).1).trans kx5; have ky4 := blk_cell kx4; have kz4 := blk_frozen kx4; clear hb4) | (have kx4 := blk_new hb4; have ky4 := blk_cell kx4; have kz4 := blk_frozen kx4; clear hb4) | (have kx4 := blk_newD hb4; have ky4 := blk_cell kx4; have kz4 := blk_frozen kx4; clear hb4) | (have kx4 := blk_newE hb4; have ky4 := blk_cell kx4; have kz4 := blk_frozen kx4; clear hb4) | clear hb4)
      | (go_at_call 32; refine (C4 _ (HT2.out.below (Chn.out (by repeat (first | with_reducible assumption | with_reducible refine Chn.drew ?_ | with_reducible refine Chn.alloc ?_ _ | with_reducible refine Chn.set ?_ _ _ (by first | exact Nat.le_refl _ | exact Chn.le hC4 | exact Chn.le hC5) _))))).mono ?_; rintro e w5 ⟨rfl, hb5⟩; clear C4; have hC5 := Chn.below (show Chn w2.heap.size w2 _ from (by repeat (first | with_reducible assumption | with_reducible refine Chn.drew ?_ | with_reducible refine Chn.alloc ?_ _ | with_reducible refine Chn.set ?_ _ _ (by first | exact Nat.le_refl _ | exact Chn.le hC4 | exact Chn.le hC5) _))) hb5; first | (have kx5 := (hb5.block _ (Array.getElem?_eq_some_iff.1 kx4).1).trans kx4; have ky5 := blk_cell kx5; have kz5 := blk_frozen kx5; clear hb5) | (have kx5 := blk_new hb5; have ky5 := blk_cell kx5; have kz5 := blk_frozen kx5; clear hb5) | (have kx5 := blk_newD hb5; have ky5 := blk_cell kx5; have kz5 := blk_frozen kx5; clear hb5) | (have kx5 := blk_newE hb5; have ky5 := blk_cell kx5; have kz5 := blk_frozen kx5; clear hb5) | clear hb5))
    all_goals
      go_wp2_with fail
      go_meet
      case rel =>
        refine ⟨_, rfl, ?_, ?_, (by repeat (first | with_reducible assumption | with_reducible refine Chn.drew ?_ | with_reducible refine Chn.alloc ?_ _ | with_reducible refine Chn.set ?_ _ _ (by first | exact Nat.le_refl _ | exact Chn.le hC4 | exact Chn.le hC5) _))⟩
        · first
            | with_reducible exact Rd.four kx5 _ _ _
            | exact heap_alloc_new _ _
        · first
            | with_reducible exact Nat.le_refl _
            | with_reducible exact Chn.le hC4
            | with_reducible exact Chn.le hC5
  case rest =>
    obtain ⟨g, rfl, hRd, hg, hC⟩ := hcut
    have lc := blk_cell ((hC.1.block _ hsz0).trans HK1.out)
    have hglt := hRd.lt
    go_wp2_with fail
    refine (C5 g _ hRd).mono ?_
    rintro e w6 ⟨rfl, hB6⟩
    have hC6 : Chn w2.heap.size w2 w6 := ⟨hC.1.trans (hB6.to_below hg hC.2), Nat.le_trans hC.2 hB6.size⟩
    clear lc hB6 hC hRd C5
    have lc6 := blk_cell ((hC6.1.block _ hsz0).trans HK1.out)
    have hz6 := hC6.2
    have hsz6 : w.heap.size < w6.heap.size := by omega
    go_wp2_with fail
    refine (C6 _ (HT2.out.below (hC6.alloc _).1)).mono ?_
    rintro e w7 ⟨rfl, hb7⟩
    have hC7 := (hC6.alloc _).below hb7
    have kp := blk_new hb7
    have kpc := blk_cell kp
    have KZ := hidden ((hC7.1.block _ hsz).trans HK2.out)
    have kzc := blk_cell KZ.out
    have kzf := blk_frozen KZ.out
    clear hb7 kp C6 lc6
    by_cases hX2 : X2 = 0
    · have i2 : (X2 != 0) = false := by simp [hX2]
      by_cases hX1 : X1 = s
      · have i1 : (X1.toList == s.toList) = true := by rw [hX1]; simp
        have HX1 := hidden hX1
        have HX2 := hidden hX2
        clear hX1 hX2
        go_wp2
        have hX1 := HX1.out
        have hX2 := HX2.out
        obtain ⟨r0, r1, r2, r3, r4, r5⟩ := read6T KZ.out (.string gv) (.int .i64 ge) (.string gw) (.int .i64 gs) (.int .i64 gc) (.string gt)
        refine bodyPost_ret (v := .tuple #[.agg #[.string gv, .int .i64 ge, .string gw, .int .i64 gs, .int .i64 gc, .string gt], .int .i64 0]) (by simp [results, Try.results14, go_sem, r0, r1, r2, r3, r4, r5]) rfl ⟨?_, ?_⟩
        · have e := HQ.out
          rw [if_pos ⟨hX2, hX1⟩] at e
          cases e
          rfl
        · exact below6T (bthen HBW.out hC7.1) (by omega) _ _ _ _ _ _
      · have i1 : (X1.toList == s.toList) = false := bytes_ne hX1
        have HX1 := hidden hX1
        have HX2 := hidden hX2
        clear hX1 hX2
        go_wp2
        have hX1 := HX1.out
        have hX2 := HX2.out
        obtain ⟨r0, r1, r2, r3, r4, r5⟩ := read6T KZ.out (.string ⟨#[]⟩) (.int .i64 0) (.string ⟨#[]⟩) (.int .i64 0) (.int .i64 0) (.string ⟨#[]⟩)
        refine bodyPost_ret (v := .tuple #[.agg #[.string ⟨#[]⟩, .int .i64 0, .string ⟨#[]⟩, .int .i64 0, .int .i64 0, .string ⟨#[]⟩], .int .i64 3]) (by simp [results, Try.results14, go_sem, r0, r1, r2, r3, r4, r5]) rfl ⟨?_, ?_⟩
        · have e := HQ.out
          rw [if_neg (fun k => hX1 k.2)] at e
          cases e
          rfl
        · exact below6T (bthen HBW.out hC7.1) (by omega) _ _ _ _ _ _
    · have i2 : (X2 != 0) = true := by simp [hX2]
      have HX2 := hidden hX2
      clear hX2
      go_wp2
      have hX2 := HX2.out
      obtain ⟨r0, r1, r2, r3, r4, r5⟩ := read6T KZ.out (.string ⟨#[]⟩) (.int .i64 0) (.string ⟨#[]⟩) (.int .i64 0) (.int .i64 0) (.string ⟨#[]⟩)
      refine bodyPost_ret (v := .tuple #[.agg #[.string ⟨#[]⟩, .int .i64 0, .string ⟨#[]⟩, .int .i64 0, .int .i64 0, .string ⟨#[]⟩], .int .i64 3]) (by simp [results, Try.results14, go_sem, r0, r1, r2, r3, r4, r5]) rfl ⟨?_, ?_⟩
      · have e := HQ.out
        rw [if_neg (fun k => hX2 k.1)] at e
        cases e
        rfl
      · exact below6T (bthen HBW.out hC7.1) (by omega) _ _ _ _ _ _
end Go.Proofs.Ytcnmbpgjgjncdaa
