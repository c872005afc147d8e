/- The walk of the statement WireTells: the call returns true, and makes at most new memory; conditions: the table lies where it says, lengths fit int. -/
import Derived.Test.YtcnmbpgjgjncdaaWireK
import Derived.Deep.DrawnRows
namespace Go.Proofs.Ytcnmbpgjgjncdaa.LawWireTells
open Go.ChangeShapes Go.WideShapes Go.ChangeAt Go.RowKit
set_option linter.unusedVariables false
attribute [local go_sem ↓] Go.wp_at_zero Go.wp_at_succ

set_option maxHeartbeats 4000000 in
theorem walk_early (n f d p r dr o sl md fr : Int) (ad : Option Addr) (cap : Nat) (zs : List Int) (vo : ByteArray) (ex : Int) (ve : ByteArray) (ps cy : Int) (te : ByteArray) (k : Int) (c : Int) (w : World) (hT : Tab w ad zs) (X1 : ByteArray) (X2 : Int)
    (C1 : ∀ V, Tab V ad zs → Calls Try.prog 9 #[.agg #[.int .i64 n, .int .i64 f, .int .i64 d, .int .i64 p, .int .i64 r, .int .i64 dr, .int .i64 o, .int .i64 sl, .int .i64 md, .int .i64 fr, .slice ad zs.length cap], .agg #[.string vo, .int .i64 ex, .string ve, .int .i64 ps, .int .i64 cy, .string te]] V fun e w' => e = .returned (.tuple #[.string X1, .int .i64 X2]) ∧ Below V.heap.size V w')
    (h : ¬ X2 = 0 ∨ k < 0 ∨ (X1.size : Int) ≤ k) :
    Calls Try.prog 7 #[.agg #[.int .i64 n, .int .i64 f, .int .i64 d, .int .i64 p, .int .i64 r, .int .i64 dr, .int .i64 o, .int .i64 sl, .int .i64 md, .int .i64 fr, .slice ad zs.length cap], .agg #[.string vo, .int .i64 ex, .string ve, .int .i64 ps, .int .i64 cy, .string te], .int .i64 k, .int .u8 c] w fun e w' => e = .returned (.bool true) ∧ Below w.heap.size w w' := by
  have HT := hidden (hT.below (bthen (ballc w (.cells #[.int .i64 n, .int .i64 f, .int .i64 d, .int .i64 p, .int .i64 r, .int .i64 dr, .int .i64 o, .int .i64 sl, .int .i64 md, .int .i64 fr, .slice ad zs.length cap] 24)) (ballc _ (.cells #[.string vo, .int .i64 ex, .string ve, .int .i64 ps, .int .i64 cy, .string te] 26))))
  have HW0 := hidden (bthen (ballc w (.cells #[.int .i64 n, .int .i64 f, .int .i64 d, .int .i64 p, .int .i64 r, .int .i64 dr, .int .i64 o, .int .i64 sl, .int .i64 md, .int .i64 fr, .slice ad zs.length cap] 24)) (ballc _ (.cells #[.string vo, .int .i64 ex, .string ve, .int .i64 ps, .int .i64 cy, .string te] 26)))
  clear hT
  by_cases h1 : X2 = 0
  · have i1 : (X2 != 0) = false := by simp [h1]
    by_cases h2 : k < 0
    · have i2 : decide (k < 0) = true := by simp [h2]
      clear h h1
      go_enter Try.func7, Try.ntmps7
      go_wp2_with fail
      refine (C1 _ HT.out).mono ?_
      rintro e w1 ⟨rfl, hb1⟩
      go_wp2_with fail
      refine (known11_any _).mono ?_
      rintro e w2 ⟨rfl, hb2⟩
      go_wp2
      go_ret
      exact ⟨rfl, bthen HW0.out (bthen hb1 hb2)⟩
    · have i2 : decide (k < 0) = false := by simp; omega
      have h3 : (X1.size : Int) ≤ k := by omega
      have i3 : decide ((X1.size : Int) ≤ k) = true := by simp [h3]
      clear h h1
      go_enter Try.func7, Try.ntmps7
      go_wp2_with fail
      refine (C1 _ HT.out).mono ?_
      rintro e w1 ⟨rfl, hb1⟩
      go_wp2_with fail
      refine (known11_any _).mono ?_
      rintro e w2 ⟨rfl, hb2⟩
      go_wp2
      go_ret
      exact ⟨rfl, bthen HW0.out (bthen hb1 hb2)⟩
  · have i1 : (X2 != 0) = true := by simp [h1]
    clear h h1
    go_enter Try.func7, Try.ntmps7
    go_wp2_with fail
    refine (C1 _ HT.out).mono ?_
    rintro e w1 ⟨rfl, hb1⟩
    go_wp2_with fail
    refine (known11_any _).mono ?_
    rintro e w2 ⟨rfl, hb2⟩
    go_wp2
    go_ret
    exact ⟨rfl, bthen HW0.out (bthen hb1 hb2)⟩
set_option maxHeartbeats 4000000 in
theorem walk_same (n f d p r dr o sl md fr : Int) (ad : Option Addr) (cap : Nat) (zs : List Int) (vo : ByteArray) (ex : Int) (ve : ByteArray) (ps cy : Int) (te : ByteArray) (k : Nat) (c : UInt8) (w : World) (hT : Tab w ad zs) (X : ByteArray)
    (C1 : ∀ V, Tab V ad zs → Calls Try.prog 9 #[.agg #[.int .i64 n, .int .i64 f, .int .i64 d, .int .i64 p, .int .i64 r, .int .i64 dr, .int .i64 o, .int .i64 sl, .int .i64 md, .int .i64 fr, .slice ad zs.length cap], .agg #[.string vo, .int .i64 ex, .string ve, .int .i64 ps, .int .i64 cy, .string te]] V fun e w' => e = .returned (.tuple #[.string X, .int .i64 0]) ∧ Below V.heap.size V w')
    (hX : X.size ≤ 40) (hk : k < X.size) (hE : X[k] = c) :
    Calls Try.prog 7 #[.agg #[.int .i64 n, .int .i64 f, .int .i64 d, .int .i64 p, .int .i64 r, .int .i64 dr, .int .i64 o, .int .i64 sl, .int .i64 md, .int .i64 fr, .slice ad zs.length cap], .agg #[.string vo, .int .i64 ex, .string ve, .int .i64 ps, .int .i64 cy, .string te], .int .i64 k, .int .u8 c.toNat] w fun e w' => e = .returned (.bool true) ∧ Below w.heap.size w w' := by
  have HT := hidden (hT.below (bthen (ballc w (.cells #[.int .i64 n, .int .i64 f, .int .i64 d, .int .i64 p, .int .i64 r, .int .i64 dr, .int .i64 o, .int .i64 sl, .int .i64 md, .int .i64 fr, .slice ad zs.length cap] 24)) (ballc _ (.cells #[.string vo, .int .i64 ex, .string ve, .int .i64 ps, .int .i64 cy, .string te] 26))))
  have HW0 := hidden (bthen (ballc w (.cells #[.int .i64 n, .int .i64 f, .int .i64 d, .int .i64 p, .int .i64 r, .int .i64 dr, .int .i64 o, .int .i64 sl, .int .i64 md, .int .i64 fr, .slice ad zs.length cap] 24)) (ballc _ (.cells #[.string vo, .int .i64 ex, .string ve, .int .i64 ps, .int .i64 cy, .string te] 26)))
  have hq : ((X[k].toNat : Int) == (c.toNat : Int)) = true := by rw [hE]; simp
  have hd0 : decide ((k : Int) < 0) = false := by simp
  have hd1 : decide ((X.size : Int) ≤ k) = false := by simp; omega
  have HE := hidden hE
  clear hT hE
  go_enter Try.func7, Try.ntmps7
  go_wp2_with fail
  refine (C1 _ HT.out).mono ?_
  rintro e w1 ⟨rfl, hb1⟩
  go_wp2_with fail
  refine (known11_any _).mono ?_
  rintro e w2 ⟨rfl, hb2⟩
  go_wp2
  go_ret
  exact ⟨rfl, bthen HW0.out (bthen hb1 hb2)⟩
theorem conv_one {W : World} {g : Nat} {c : UInt8} (h : W.cell? ⟨g, 0, none⟩ = some (.int .u8 (c.toNat : Int))) :
    (convert 37 9 (.slice (some ⟨g, 0, none⟩) 1 1)).run Try.prog W = .ok (.string (ba [c])) W := by
  refine run_convert_bytes_back W 37 9 5 _ _ [c] Try.underlying37 Try.underlying5 Try.underlying9 ?_
  intro j hj
  have : j = 0 := by simp at hj; omega
  subst this
  rw [add_plain, h]
  rfl
set_option maxHeartbeats 8000000 in
theorem walk_late (n f d p r dr o sl md fr : Int) (ad : Option Addr) (cap : Nat) (zs : List Int) (vo : ByteArray) (ex : Int) (ve : ByteArray) (ps cy : Int) (te : ByteArray) (k : Nat) (c : UInt8) (w : World) (hT : Tab w ad zs) (X : ByteArray)
    (C1 : ∀ V, Tab V ad zs → Calls Try.prog 9 #[.agg #[.int .i64 n, .int .i64 f, .int .i64 d, .int .i64 p, .int .i64 r, .int .i64 dr, .int .i64 o, .int .i64 sl, .int .i64 md, .int .i64 fr, .slice ad zs.length cap], .agg #[.string vo, .int .i64 ex, .string ve, .int .i64 ps, .int .i64 cy, .string te]] V fun e w' => e = .returned (.tuple #[.string X, .int .i64 0]) ∧ Below V.heap.size V w')
    (hX : X.size ≤ 40) (hk : k < X.size) (hE : ¬ X[k] = c) (g : Pk)
    (C2 : ∀ V, Tab V ad zs → Calls Try.prog 14 #[.agg #[.int .i64 n, .int .i64 f, .int .i64 d, .int .i64 p, .int .i64 r, .int .i64 dr, .int .i64 o, .int .i64 sl, .int .i64 md, .int .i64 fr, .slice ad zs.length cap], .string (changed X k c)] V fun e w' => e = .returned (.tuple #[.agg #[.string g.vo, .int .i64 g.ex, .string g.ve, .int .i64 g.ps, .int .i64 g.cy, .string g.te], .int .i64 4]) ∧ Below V.heap.size V w') :
    Calls Try.prog 7 #[.agg #[.int .i64 n, .int .i64 f, .int .i64 d, .int .i64 p, .int .i64 r, .int .i64 dr, .int .i64 o, .int .i64 sl, .int .i64 md, .int .i64 fr, .slice ad zs.length cap], .agg #[.string vo, .int .i64 ex, .string ve, .int .i64 ps, .int .i64 cy, .string te], .int .i64 k, .int .u8 c.toNat] w fun e w' => e = .returned (.bool true) ∧ Below w.heap.size w w' := by
  have HT := hidden (hT.below (bthen (ballc w (.cells #[.int .i64 n, .int .i64 f, .int .i64 d, .int .i64 p, .int .i64 r, .int .i64 dr, .int .i64 o, .int .i64 sl, .int .i64 md, .int .i64 fr, .slice ad zs.length cap] 24)) (ballc _ (.cells #[.string vo, .int .i64 ex, .string ve, .int .i64 ps, .int .i64 cy, .string te] 26))))
  have HW0 := hidden (bthen (ballc w (.cells #[.int .i64 n, .int .i64 f, .int .i64 d, .int .i64 p, .int .i64 r, .int .i64 dr, .int .i64 o, .int .i64 sl, .int .i64 md, .int .i64 fr, .slice ad zs.length cap] 24)) (ballc _ (.cells #[.string vo, .int .i64 ex, .string ve, .int .i64 ps, .int .i64 cy, .string te] 26)))
  have hq : ((X[k].toNat : Int) == (c.toNat : Int)) = false := by
    apply Bool.eq_false_iff.2
    intro h
    have h' : (X[k].toNat : Int) = (c.toNat : Int) := by simpa using h
    exact hE (UInt8.toNat.inj (by omega))
  have hd0 : decide ((k : Int) < 0) = false := by simp
  have hd1 : decide ((X.size : Int) ≤ k) = false := by simp; omega
  have hch : changed X k c = X.extract 0 k ++ ba [c] ++ X.extract (k + 1) X.size := rfl
  rw [hch] at C2
  obtain ⟨gv, ge, gw, gs, gc, gt⟩ := g
  dsimp only at C2
  have hcvA : ∀ W : World, (convert 37 9 (.slice (some ⟨W.heap.size, 0, none⟩) 1 1)).run Try.prog (W.alloc (.cells #[.int .u8 (c.toNat : Int)] 5)) = .ok (.string (ba [c])) (W.alloc (.cells #[.int .u8 (c.toNat : Int)] 5)) := fun W => conv_one (blk_cell (heap_alloc_new W _) 0)
  have hcvB : ∀ W : World, (convert 37 9 (.slice (some ⟨W.heap.size, 0, none⟩) 1 1)).run Try.prog (W.alloc (.cells #[.int .u8 (c.toNat : Int)] 5)).drew = .ok (.string (ba [c])) (W.alloc (.cells #[.int .u8 (c.toNat : Int)] 5)).drew := fun W => hcvA W.drew
  have hcvC : ∀ W : World, (convert 37 9 (.slice (some ⟨W.heap.size, 0, none⟩) 1 1)).run Try.prog ((W.alloc (.cells #[.int .u8 (c.toNat : Int)] 5)).alloc (.cells #[.string ⟨#[]⟩, .int .i64 0, .string ⟨#[]⟩, .int .i64 0, .int .i64 0, .string ⟨#[]⟩] 26)).drew = .ok (.string (ba [c])) ((W.alloc (.cells #[.int .u8 (c.toNat : Int)] 5)).alloc (.cells #[.string ⟨#[]⟩, .int .i64 0, .string ⟨#[]⟩, .int .i64 0, .int .i64 0, .string ⟨#[]⟩] 26)).drew := fun W => conv_one (blk_cell (((ballc (W.alloc (.cells #[.int .u8 (c.toNat : Int)] 5)) (.cells #[.string ⟨#[]⟩, .int .i64 0, .string ⟨#[]⟩, .int .i64 0, .int .i64 0, .string ⟨#[]⟩] 26)).block _ (by simp)).trans (heap_alloc_new W (.cells #[.int .u8 (c.toNat : Int)] 5))) 0)
  have hcvD : ∀ W : World, (convert 37 9 (.slice (some ⟨W.heap.size + 1, 0, none⟩) 1 1)).run Try.prog ((W.alloc (.cells #[.string ⟨#[]⟩, .int .i64 0, .string ⟨#[]⟩, .int .i64 0, .int .i64 0, .string ⟨#[]⟩] 26)).alloc (.cells #[.int .u8 (c.toNat : Int)] 5)).drew = .ok (.string (ba [c])) ((W.alloc (.cells #[.string ⟨#[]⟩, .int .i64 0, .string ⟨#[]⟩, .int .i64 0, .int .i64 0, .string ⟨#[]⟩] 26)).alloc (.cells #[.int .u8 (c.toNat : Int)] 5)).drew := fun W => by
    have h := heap_alloc_new (W.alloc (.cells #[.string ⟨#[]⟩, .int .i64 0, .string ⟨#[]⟩, .int .i64 0, .int .i64 0, .string ⟨#[]⟩] 26)) (.cells #[.int .u8 (c.toNat : Int)] 5)
    rw [World.size_alloc] at h
    exact conv_one (blk_cell h 0)
  have hi1 : (k : Int) + 1 ≤ (X.size : Int) := by omega
  have hi0 : (0 : Int) ≤ (k : Int) + 1 := by omega
  have hi2 : (k : Int) ≤ (X.size : Int) := by omega
  have hi3 : (0 : Int) ≤ (k : Int) := by omega
  have hw : IntKind.i64.wrap ((k : Int) + 1) = (k : Int) + 1 := by rw [IntKind.wrap_i64]; omega
  have hs2 : ∀ W : World, (Instr.slice 9 (.string X) (some (.int .i64 ((k : Int) + 1))) none none).run Try.prog W = .ok (.string (X.extract (k + 1) X.size)) W := fun W => by
    rw [run_slice_string_from_if W 9 X .i64 _ Try.underlying9, if_pos ⟨hi0, by omega⟩]; rfl
  have hs1 : ∀ W : World, (Instr.slice 9 (.string X) none (some (.int .i64 (k : Int))) none).run Try.prog W = .ok (.string (X.extract 0 k)) W := fun W => by
    rw [run_slice_string_to_if W 9 X .i64 _ Try.underlying9, if_pos ⟨hi3, by omega⟩]; rfl
  have hone := one_size c
  have z1 : (X.extract 0 k).size ≤ 40 := by rw [ByteArray.size_extract]; omega
  have z2 : (X.extract (k + 1) X.size).size ≤ 40 := by rw [ByteArray.size_extract]; omega
  clear hT hE hch
  generalize X.extract 0 k = Y1 at *
  generalize X.extract (k + 1) X.size = Y2 at *
  have n1 : ¬ 9223372036854775807 < Y1.size + 1 := by omega
  have n2 : ¬ 9223372036854775807 < Y1.size + 1 + Y2.size := by omega
  go_enter Try.func7, Try.ntmps7
  go_wp2_with fail
  refine (C1 _ HT.out).mono ?_
  rintro e w1 ⟨rfl, hb1⟩
  have HB1 := hidden hb1
  obtain ⟨hbox, hbox2, hsz0, hsz⟩ := box_two HB1.out
  have HT1 := hidden (HT.out.below hb1)
  have hblk : w1.heap[w.heap.size]? = some (.cells #[.int .i64 n, .int .i64 f, .int .i64 d, .int .i64 p, .int .i64 r, .int .i64 dr, .int .i64 o, .int .i64 sl, .int .i64 md, .int .i64 fr, .slice ad zs.length cap] 24 (0, 0)) := (HB1.out.block _ (by simp; omega)).trans (((ballc (w.alloc (.cells #[.int .i64 n, .int .i64 f, .int .i64 d, .int .i64 p, .int .i64 r, .int .i64 dr, .int .i64 o, .int .i64 sl, .int .i64 md, .int .i64 fr, .slice ad zs.length cap] 24)) _).block _ (by simp)).trans (heap_alloc_new w _))
  have HK1 := hidden hblk
  have hC0 : Chn w1.heap.size w1 w1 := Chn.refl (Nat.le_refl _)
  clear hb1 C1 hblk HT
  go_wp2
  go_cut [12] (fun pv wx => pv = .int .i64 4 ∧ Chn w1.heap.size w1 wx)
  case first =>
    have hS : ∀ w', Chn w1.heap.size w1 w' → w'.cell? ⟨w.heap.size, 0, none⟩ = some (.int .i64 n) ∧ w'.cell? ⟨w.heap.size, 1, none⟩ = some (.int .i64 f) ∧ w'.cell? ⟨w.heap.size, 2, none⟩ = some (.int .i64 d) ∧ w'.cell? ⟨w.heap.size, 3, none⟩ = some (.int .i64 p) ∧ w'.cell? ⟨w.heap.size, 4, none⟩ = some (.int .i64 r) ∧ w'.cell? ⟨w.heap.size, 5, none⟩ = some (.int .i64 dr) ∧ w'.cell? ⟨w.heap.size, 6, none⟩ = some (.int .i64 o) ∧ w'.cell? ⟨w.heap.size, 7, none⟩ = some (.int .i64 sl) ∧ w'.cell? ⟨w.heap.size, 8, none⟩ = some (.int .i64 md) ∧ w'.cell? ⟨w.heap.size, 9, none⟩ = some (.int .i64 fr) ∧ w'.cell? ⟨w.heap.size, 10, none⟩ = some (.slice ad zs.length cap) := by
      intro V hV
      have l1 := blk_cell ((hV.1.block _ hsz0).trans HK1.out)
      exact ⟨l1 0, l1 1, l1 2, l1 3, l1 4, l1 5, l1 6, l1 7, l1 8, l1 9, l1 10⟩
    go_region_with (first
      | (go_at_call 14; refine (C2 _ (HT1.out.below (Chn.out (by repeat (first | with_reducible assumption | with_reducible refine Chn.drew ?_ | with_reducible refine Chn.alloc ?_ _ | with_reducible refine Chn.set ?_ _ _ (by first | exact Nat.le_refl _ | exact Chn.le hC4 | (simp; done) | (simp; omega)) _))))).mono ?_; rintro e w4 ⟨rfl, hb4⟩; clear C2; have hC4 := Chn.below (show Chn w1.heap.size w1 _ from (by repeat (first | with_reducible assumption | with_reducible refine Chn.drew ?_ | with_reducible refine Chn.alloc ?_ _ | with_reducible refine Chn.set ?_ _ _ (by first | exact Nat.le_refl _ | exact Chn.le hC4 | (simp; done) | (simp; omega)) _))) hb4; obtain ⟨hc4, hf4⟩ := bcell hb4; clear hb4))
    all_goals
      go_wp2_with fail
      go_meet
      case rel => exact ⟨rfl, (by repeat (first | with_reducible assumption | with_reducible refine Chn.drew ?_ | with_reducible refine Chn.alloc ?_ _ | with_reducible refine Chn.set ?_ _ _ (by first | exact Nat.le_refl _ | exact Chn.le hC4 | (simp; done) | (simp; omega)) _))⟩
  case rest =>
    obtain ⟨rfl, hC⟩ := hcut
    go_wp2_with fail
    refine (known11_any _).mono ?_
    rintro e w3 ⟨rfl, hb⟩
    go_wp2
    go_ret
    exact ⟨rfl, bthen HW0.out (bthen HB1.out (bthen hC.1 hb))⟩
theorem walk (n f d p r dr o sl md fr : Int) (ad : Option Addr) (cap : Nat) (zs : List Int) (vo : ByteArray) (ex : Int) (ve : ByteArray) (ps cy : Int) (te : ByteArray) (k : Int) (c : Int) (w : World) (hl : zs.length ≤ 9223372036854775807) (hT : Tab w ad zs) (sv : vo.size ≤ 9223372036854775807) (kx : (Lit.int .i64 ex).wf = true) (se : ve.size ≤ 9223372036854775807) (kp : (Lit.int .i64 ps).wf = true) (kc : (Lit.int .i64 cy).wf = true) (st : te.size ≤ 9223372036854775807) (hk : -9223372036854775808 ≤ k ∧ k ≤ 9223372036854775807) (hc : (Lit.int .u8 c).wf = true) :
    Calls Try.prog 7 #[.agg #[.int .i64 n, .int .i64 f, .int .i64 d, .int .i64 p, .int .i64 r, .int .i64 dr, .int .i64 o, .int .i64 sl, .int .i64 md, .int .i64 fr, .slice ad zs.length cap], .agg #[.string vo, .int .i64 ex, .string ve, .int .i64 ps, .int .i64 cy, .string te], .int .i64 k, .int .u8 c] w fun e w' => e = .returned (.bool true) ∧ Below w.heap.size w w' := by
  have C1 := fun V h => Encode_any n f d p r dr o sl md fr ad cap zs ⟨vo, ex, ve, ps, cy, te⟩ V hl h sv se st
  by_cases h : ¬ (encF (plainE n f d p r dr o sl md fr zs) (3 * (f + 1)) (8 + n) zs.length md ⟨vo, ex, ve, ps, cy, te⟩).2 = 0 ∨ k < 0 ∨ ((encF (plainE n f d p r dr o sl md fr zs) (3 * (f + 1)) (8 + n) zs.length md ⟨vo, ex, ve, ps, cy, te⟩).1.size : Int) ≤ k
  · exact walk_early n f d p r dr o sl md fr ad cap zs vo ex ve ps cy te k c w hT _ _ C1 h
  · have hX2 : (encF (plainE n f d p r dr o sl md fr zs) (3 * (f + 1)) (8 + n) zs.length md ⟨vo, ex, ve, ps, cy, te⟩).2 = 0 := by
      by_cases e : (encF (plainE n f d p r dr o sl md fr zs) (3 * (f + 1)) (8 + n) zs.length md ⟨vo, ex, ve, ps, cy, te⟩).2 = 0
      · exact e
      · exact absurd (.inl e) h
    have hK : pkR (plainE n f d p r dr o sl md fr zs) (3 * (f + 1)) (8 + n) zs.length md ⟨vo, ex, ve, ps, cy, te⟩ = 0 := by
      unfold encF at hX2
      by_cases e : pkR (plainE n f d p r dr o sl md fr zs) (3 * (f + 1)) (8 + n) zs.length md ⟨vo, ex, ve, ps, cy, te⟩ = 0
      · exact e
      · rw [if_neg e] at hX2; exact hX2
    have hen : encF (plainE n f d p r dr o sl md fr zs) (3 * (f + 1)) (8 + n) zs.length md ⟨vo, ex, ve, ps, cy, te⟩ = (sealB ⟨vo, ex, ve, ps, cy, te⟩, 0) := if_pos hK
    have hcap := conf_caps (pkR_E hK)
    have hs40 : (sealB ⟨vo, ex, ve, ps, cy, te⟩).size ≤ 40 := (seal_size (rightP_of hK (by omega) (by omega) (by omega)) (by omega) (by omega)).1
    rw [hen] at h C1
    dsimp only at h C1
    obtain ⟨q, rfl⟩ : ∃ q : Nat, k = (q : Int) := ⟨k.toNat, by omega⟩
    have hq : q < (sealB ⟨vo, ex, ve, ps, cy, te⟩).size := by omega
    have hcb := bounds_u8 hc
    have ec : c = ((UInt8.ofNat c.toNat).toNat : Int) := by simp; omega
    rw [ec]
    by_cases hE : (sealB ⟨vo, ex, ve, ps, cy, te⟩)[q] = UInt8.ofNat c.toNat
    · exact walk_same n f d p r dr o sl md fr ad cap zs vo ex ve ps cy te q _ w hT _ C1 hs40 hq hE
    · have ht := dec_tells hK (fun h => by have := conf_caps h; omega) q (UInt8.ofNat c.toNat) hq hE
      have hcs : (changed (sealB ⟨vo, ex, ve, ps, cy, te⟩) q (UInt8.ofNat c.toNat)).size ≤ 9223372036854775807 := by
        have h1 : (changed (sealB ⟨vo, ex, ve, ps, cy, te⟩) q (UInt8.ofNat c.toNat)).size = (changed (sealB ⟨vo, ex, ve, ps, cy, te⟩) q (UInt8.ofNat c.toNat)).data.toList.length := by simp
        rw [h1, changed_data _ _ _ hq, List.length_set]
        simp
        omega
      have C2 := fun V h => Decode_any n f d p r dr o sl md fr ad cap zs (changed (sealB ⟨vo, ex, ve, ps, cy, te⟩) q (UInt8.ofNat c.toNat)) V hl h hcs
      rw [ht] at C2
      exact walk_late n f d p r dr o sl md fr ad cap zs vo ex ve ps cy te q _ w hT _ C1 hs40 hq hE _ C2
end Go.Proofs.Ytcnmbpgjgjncdaa.LawWireTells
