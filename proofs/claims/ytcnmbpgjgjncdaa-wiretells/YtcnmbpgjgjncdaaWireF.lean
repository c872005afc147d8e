/- The call read of package wire's reader of packets returns what a plain function reads of bytes, and leaves all memory but the reader's as it was; conditions: the reader lies where it says, at the begin of its bytes, of which there are at most 1000. -/
import Derived.Test.YtcnmbpgjgjncdaaWireE
namespace Go.Proofs.Ytcnmbpgjgjncdaa
open Go.ChangeShapes Go.WideShapes Go.ChangeAt Go.RowKit
set_option linter.unusedVariables false

theorem and1_all : ∀ x, x < 256 → bits .and .i64 ((x : Nat) : Int) 1 = ((x % 2 : Nat) : Int) := by decide +kernel
theorem and2_all : ∀ x, x < 256 → bits .and .i64 ((x : Nat) : Int) 2 = ((2 * (x / 2 % 2) : Nat) : Int) := by decide +kernel
/-- What a reading of a packet has made so far: the reader, the packet's box, the result's box. -/
structure RS (w0 : World) (b : Nat) (s : ByteArray) (a : Nat) (R B : Int) (z pb : Nat) (C : Array Value) (w : World) : Prop where
  rd : Rd b s a R B w
  pk : w.heap[pb]? = some (.cells C 26 (0, 0))
  rz : w.heap[z]? = some (.cells #[.string ⟨#[]⟩, .int .i64 0, .string ⟨#[]⟩, .int .i64 0, .int .i64 0, .string ⟨#[]⟩] 26 (0, 0))
  bt : But b w0 w
  n0 : b < w0.heap.size
  n1 : w0.heap.size ≤ z
  n2 : z < pb
theorem RS.call {w0 : World} {b : Nat} {s : ByteArray} {a a' : Nat} {R B : Int} {z pb : Nat} {C : Array Value} {w w' : World} (h : RS w0 b s a R B z pb C w) (hR : Rd b s a' R B w') (hB : But b w w') : RS w0 b s a' R B z pb C w' := by
  have n0 := h.n0
  have n1 := h.n1
  have n2 := h.n2
  exact ⟨hR, (hB.block pb (Array.getElem?_eq_some_iff.1 h.pk).1 (by simp; omega)).trans h.pk, (hB.block z (Array.getElem?_eq_some_iff.1 h.rz).1 (by simp; omega)).trans h.rz, h.bt.trans hB, n0, n1, n2⟩
theorem RS.set {w0 : World} {b : Nat} {s : ByteArray} {a : Nat} {R B : Int} {z pb : Nat} {C : Array Value} {w : World} (h : RS w0 b s a R B z pb C w) (i : Nat) (v : Value) : RS w0 b s a R B z pb (C.setIfInBounds i v) (w.setCell ⟨pb, i, none⟩ v) := by
  have n0 := h.n0
  have n1 := h.n1
  have n2 := h.n2
  exact ⟨(heap_setCell_other w ⟨pb, i, none⟩ b v (by simp; omega)).trans h.rd, heap_setCell_same w pb i C _ v h.pk, (heap_setCell_other w ⟨pb, i, none⟩ z v (by simp; omega)).trans h.rz, h.bt.set_new pb i (by omega) v, n0, n1, n2⟩
theorem But.six {b : Nat} {u w : World} (h : But b u w) (g : Nat) (hg : u.heap.size ≤ g) (v0 v1 v2 v3 v4 v5 : Value) : But b u ((((((w.setCell ⟨g, 0, none⟩ v0).setCell ⟨g, 1, none⟩ v1).setCell ⟨g, 2, none⟩ v2).setCell ⟨g, 3, none⟩ v3).setCell ⟨g, 4, none⟩ v4).setCell ⟨g, 5, none⟩ v5) :=
  (((((h.set_new g 0 hg v0).set_new g 1 hg v1).set_new g 2 hg v2).set_new g 3 hg v3).set_new g 4 hg v4).set_new g 5 hg v5
theorem Rd.drew {b : Nat} {s : ByteArray} {a : Nat} {R B : Int} {w : World} (h : Rd b s a R B w) : Rd b s a R B w.drew := h
theorem But.of_drew {b : Nat} {u w : World} (h : But b u.drew w) : But b u w := ⟨h.os, h.tape, h.output, h.size, h.block⟩
theorem adv_le (l : List UInt8) (a n : Nat) : adv l a n ≤ l.length := by unfold adv; omega
set_option maxHeartbeats 4000000 in
theorem read_00 (b : Nat) (s : ByteArray) (R B : Nat) (w : World) (h : Rd b s 0 (R : Int) (B : Int) w) (hs : s.size ≤ 255) (hR : R ≤ 255) (hB : B ≤ 255) (h1 : ¬ nb (bl s) 0 % 2 = 1) (h2 : ¬ nb (bl s) 0 / 2 % 2 = 1) :
    Calls Try.prog 33 #[.pointer (some ⟨b, 0, none⟩)] w fun e w' => e = .returned (.agg #[.string (readF (bl s) R B).vo, .int .i64 (readF (bl s) R B).ex, .string (readF (bl s) R B).ve, .int .i64 (readF (bl s) R B).ps, .int .i64 (readF (bl s) R B).cy, .string (readF (bl s) R B).te]) ∧ But b w w' := by
  have hb := h.lt
  have hal : ∀ a n, adv (bl s) a n ≤ s.size := fun a n => by have := adv_le (bl s) a n; rw [bl_length] at this; exact this
  have hnl := nb_lt (bl s)
  have a1 : bits .and .i64 (nb (bl s) 0 : Int) 1 = 0 := by rw [and1_all _ (hnl 0)]; omega
  have a2 : bits .and .i64 (nb (bl s) 0 : Int) 2 = 0 := by rw [and2_all _ (hnl 0)]; omega
  have f0 : (readF (bl s) R B).vo = ba (unL (bl s) (adv (bl s) 0 1) R) := rfl
  have f1 : (readF (bl s) R B).ex = 0 := if_neg h1
  have f2 : (readF (bl s) R B).ve = ⟨#[]⟩ := if_neg h1
  have fB : rdB (bl s) R B = rdA (bl s) R := if_neg h1
  have f3 : (readF (bl s) R B).ps = 0 := if_neg h2
  have f4 : (readF (bl s) R B).cy = 0 := if_neg h2
  have f5 : (readF (bl s) R B).te = ⟨#[]⟩ := if_neg h2
  rw [f0, f1, f2, f3, f4, f5]
  clear f0 f1 f2 f3 f4 f5 h1 h2
  try rw [fB]
  have hRA : rdA (bl s) R = adv (bl s) (adv (bl s) 0 1) ((R + 3) / 4) := rfl
  try rw [hRA]
  clear fB hRA
  have N0 := hnl 0
  go_enter Try.func33, Try.ntmps33
  go_wp2_with fail
  refine (number_any b s 0 R B _ (h.later (ballc w _)) (by omega) (by omega)).mono ?_
  rintro e w1 ⟨rfl, hR1, hB1⟩
  have hz1 := (hB1.block w.heap.size (by simp) (by simp; omega)).trans (heap_alloc_new w _)
  have hB1' := (But.of_below (b := b) (ballc w _)).trans hB1
  have k1 := blk_cell hR1
  have HR1 := hidden hR1
  have HB1 := hidden hB1'
  have HZ1 := hidden hz1
  clear hR1 hB1 hB1' hz1
  generalize hA1 : adv (bl s) 0 1 = A1 at *
  have HA1 : A1 ≤ s.size := by rw [← hA1]; exact hal _ _
  have EA1 := hidden hA1
  clear hA1
  generalize nb (bl s) 0 = H0 at *
  go_wp2_with fail
  refine (digits_any b s A1 R B R _ HR1.out HA1 (by omega) (by omega)).mono ?_
  rintro e w2 ⟨rfl, hR2, hB2⟩
  have hz2 := (hB2.block w.heap.size (Array.getElem?_eq_some_iff.1 HZ1.out).1 (by simp; omega)).trans HZ1.out
  have hB2' := HB1.out.trans hB2
  clear hB2 HR1 HB1 HZ1 k1
  generalize hV : ba (unL (bl s) A1 R) = V at *
  have EV := hidden hV
  clear hV
  generalize hA2 : adv (bl s) A1 ((R + 3) / 4) = A2 at *
  have HA2 : A2 ≤ s.size := by rw [← hA2]; exact hal _ _
  have EA2 := hidden hA2
  clear hA2
  have hS : RS w b s A2 R B w.heap.size w2.heap.size #[.string V, .int .i64 0, .string ⟨#[]⟩, .int .i64 0, .int .i64 0, .string ⟨#[]⟩] (w2.alloc (.cells #[.string V, .int .i64 0, .string ⟨#[]⟩, .int .i64 0, .int .i64 0, .string ⟨#[]⟩] 26)) :=
    ⟨hR2.later (ballc _ _), heap_alloc_new _ _, ((ballc w2 _).block _ (Array.getElem?_eq_some_iff.1 hz2).1).trans hz2, hB2'.below (ballc _ _), hb, Nat.le_refl _, (Array.getElem?_eq_some_iff.1 hz2).1⟩
  have kz0 := (Array.getElem?_eq_some_iff.1 hz2).1
  have HS := hidden hS
  have kq := blk_cell hz2
  have ke := blk_frozen hz2
  have HZ2 := hidden hz2
  have HB2 := hidden hB2'
  clear hS hR2 hz2 hB2'
  have kr := blk_cell HS.out.rd
  go_wp2
  obtain ⟨r0, r1, r2, r3, r4, r5⟩ := read6A HZ2.out (.cells #[.string V, .int .i64 0, .string ⟨#[]⟩, .int .i64 0, .int .i64 0, .string ⟨#[]⟩] 26) (.string V) (.int .i64 0) (.string ⟨#[]⟩) (.int .i64 0) (.int .i64 0) (.string ⟨#[]⟩)
  refine bodyPost_ret (v := .agg #[.string V, .int .i64 0, .string ⟨#[]⟩, .int .i64 0, .int .i64 0, .string ⟨#[]⟩]) (by simp [results, Try.results33, go_sem, r0, r1, r2, r3, r4, r5]) rfl ⟨?_, (HB2.out.six _ (Nat.le_refl _) _ _ _ _ _ _).below (ballc _ _)⟩
  have e1 := EV.out
  have e2 := EA1.out
  have e3 := EA2.out
  clear EV EA1 EA2
  subst e3 e1 e2
  rfl
set_option maxHeartbeats 4000000 in
theorem read_10 (b : Nat) (s : ByteArray) (R B : Nat) (w : World) (h : Rd b s 0 (R : Int) (B : Int) w) (hs : s.size ≤ 255) (hR : R ≤ 255) (hB : B ≤ 255) (h1 : nb (bl s) 0 % 2 = 1) (h2 : ¬ nb (bl s) 0 / 2 % 2 = 1) :
    Calls Try.prog 33 #[.pointer (some ⟨b, 0, none⟩)] w fun e w' => e = .returned (.agg #[.string (readF (bl s) R B).vo, .int .i64 (readF (bl s) R B).ex, .string (readF (bl s) R B).ve, .int .i64 (readF (bl s) R B).ps, .int .i64 (readF (bl s) R B).cy, .string (readF (bl s) R B).te]) ∧ But b w w' := by
  have hb := h.lt
  have hal : ∀ a n, adv (bl s) a n ≤ s.size := fun a n => by have := adv_le (bl s) a n; rw [bl_length] at this; exact this
  have hnl := nb_lt (bl s)
  have a1 : bits .and .i64 (nb (bl s) 0 : Int) 1 = 1 := by rw [and1_all _ (hnl 0)]; omega
  have a2 : bits .and .i64 (nb (bl s) 0 : Int) 2 = 0 := by rw [and2_all _ (hnl 0)]; omega
  have f0 : (readF (bl s) R B).vo = ba (unL (bl s) (adv (bl s) 0 1) R) := rfl
  have f1 : (readF (bl s) R B).ex = nb (bl s) (rdA (bl s) R) := if_pos h1
  have f2 : (readF (bl s) R B).ve = ba (unL (bl s) (adv (bl s) (rdA (bl s) R) 1) B) := if_pos h1
  have fB : rdB (bl s) R B = adv (bl s) (adv (bl s) (rdA (bl s) R) 1) ((B + 3) / 4) := if_pos h1
  have f3 : (readF (bl s) R B).ps = 0 := if_neg h2
  have f4 : (readF (bl s) R B).cy = 0 := if_neg h2
  have f5 : (readF (bl s) R B).te = ⟨#[]⟩ := if_neg h2
  rw [f0, f1, f2, f3, f4, f5]
  clear f0 f1 f2 f3 f4 f5 h1 h2
  try rw [fB]
  have hRA : rdA (bl s) R = adv (bl s) (adv (bl s) 0 1) ((R + 3) / 4) := rfl
  try rw [hRA]
  clear fB hRA
  have N0 := hnl 0
  go_enter Try.func33, Try.ntmps33
  go_wp2_with fail
  refine (number_any b s 0 R B _ (h.later (ballc w _)) (by omega) (by omega)).mono ?_
  rintro e w1 ⟨rfl, hR1, hB1⟩
  have hz1 := (hB1.block w.heap.size (by simp) (by simp; omega)).trans (heap_alloc_new w _)
  have hB1' := (But.of_below (b := b) (ballc w _)).trans hB1
  have k1 := blk_cell hR1
  have HR1 := hidden hR1
  have HB1 := hidden hB1'
  have HZ1 := hidden hz1
  clear hR1 hB1 hB1' hz1
  generalize hA1 : adv (bl s) 0 1 = A1 at *
  have HA1 : A1 ≤ s.size := by rw [← hA1]; exact hal _ _
  have EA1 := hidden hA1
  clear hA1
  generalize nb (bl s) 0 = H0 at *
  go_wp2_with fail
  refine (digits_any b s A1 R B R _ HR1.out HA1 (by omega) (by omega)).mono ?_
  rintro e w2 ⟨rfl, hR2, hB2⟩
  have hz2 := (hB2.block w.heap.size (Array.getElem?_eq_some_iff.1 HZ1.out).1 (by simp; omega)).trans HZ1.out
  have hB2' := HB1.out.trans hB2
  clear hB2 HR1 HB1 HZ1 k1
  generalize hV : ba (unL (bl s) A1 R) = V at *
  have EV := hidden hV
  clear hV
  generalize hA2 : adv (bl s) A1 ((R + 3) / 4) = A2 at *
  have HA2 : A2 ≤ s.size := by rw [← hA2]; exact hal _ _
  have EA2 := hidden hA2
  clear hA2
  have hS : RS w b s A2 R B w.heap.size w2.heap.size #[.string V, .int .i64 0, .string ⟨#[]⟩, .int .i64 0, .int .i64 0, .string ⟨#[]⟩] (w2.alloc (.cells #[.string V, .int .i64 0, .string ⟨#[]⟩, .int .i64 0, .int .i64 0, .string ⟨#[]⟩] 26)) :=
    ⟨hR2.later (ballc _ _), heap_alloc_new _ _, ((ballc w2 _).block _ (Array.getElem?_eq_some_iff.1 hz2).1).trans hz2, hB2'.below (ballc _ _), hb, Nat.le_refl _, (Array.getElem?_eq_some_iff.1 hz2).1⟩
  have kz0 := (Array.getElem?_eq_some_iff.1 hz2).1
  have HS := hidden hS
  have kq := blk_cell hz2
  have ke := blk_frozen hz2
  have HZ2 := hidden hz2
  have HB2 := hidden hB2'
  clear hS hR2 hz2 hB2'
  have kr := blk_cell HS.out.rd
  go_wp2_with fail
  refine (number_any b s A2 R B _ HS.out.rd (by omega) (by omega)).mono ?_
  rintro e w3 ⟨rfl, hRn, hBn⟩
  have hS := HS.out.call hRn hBn
  clear hRn hBn HS
  clear kr kq ke
  have NX := hnl A2
  generalize hX : nb (bl s) A2 = X at *
  have EX := hidden hX
  clear hX
  generalize hA3 : adv (bl s) A2 1 = A3 at *
  have HA3 : A3 ≤ s.size := by rw [← hA3]; exact hal _ _
  have EA3 := hidden hA3
  clear hA3
  try simp only [List.setIfInBounds_toArray, List.set_cons_zero, List.set_cons_succ] at hS
  have kp := blk_cell hS.pk
  have kf := blk_frozen hS.pk
  have kr := blk_cell hS.rd
  have kq := blk_cell hS.rz
  have ke := blk_frozen hS.rz
  have HS := hidden (hS.set 1 (.int .i64 (X : Int)))
  clear hS
  go_wp2_with fail
  refine (digits_any b s A3 R B B _ HS.out.rd (by omega) (by omega) (by omega)).mono ?_
  rintro e w4 ⟨rfl, hRn, hBn⟩
  have hS := HS.out.call hRn hBn
  clear hRn hBn HS
  clear kp kf kr kq ke
  generalize hP : ba (unL (bl s) A3 B) = P at *
  have EP := hidden hP
  clear hP
  generalize hA4 : adv (bl s) A3 ((B + 3) / 4) = A4 at *
  have HA4 : A4 ≤ s.size := by rw [← hA4]; exact hal _ _
  have EA4 := hidden hA4
  clear hA4
  try simp only [List.setIfInBounds_toArray, List.set_cons_zero, List.set_cons_succ] at hS
  have kp := blk_cell hS.pk
  have kf := blk_frozen hS.pk
  have kr := blk_cell hS.rd
  have kq := blk_cell hS.rz
  have ke := blk_frozen hS.rz
  have HS := hidden (hS.set 2 (.string P))
  clear hS
  go_wp2
  obtain ⟨r0, r1, r2, r3, r4, r5⟩ := read6T HS.out.rz (.string V) (.int .i64 (X : Int)) (.string P) (.int .i64 0) (.int .i64 0) (.string ⟨#[]⟩)
  refine bodyPost_ret (v := .agg #[.string V, .int .i64 (X : Int), .string P, .int .i64 0, .int .i64 0, .string ⟨#[]⟩]) (by simp [results, Try.results33, go_sem, r0, r1, r2, r3, r4, r5]) rfl ⟨?_, HS.out.bt.six _ (Nat.le_refl _) _ _ _ _ _ _⟩
  have e1 := EV.out
  have e2 := EA1.out
  have e3 := EA2.out
  have e4 := EX.out
  have e5 := EP.out
  have e6 := EA3.out
  have e7 := EA4.out
  clear EV EA1 EA2 EX EP EA3 EA4
  subst e7 e6 e5 e4 e3 e1 e2
  rfl
set_option maxHeartbeats 4000000 in
theorem read_01 (b : Nat) (s : ByteArray) (R B : Nat) (w : World) (h : Rd b s 0 (R : Int) (B : Int) w) (hs : s.size ≤ 255) (hR : R ≤ 255) (hB : B ≤ 255) (h1 : ¬ nb (bl s) 0 % 2 = 1) (h2 : nb (bl s) 0 / 2 % 2 = 1) :
    Calls Try.prog 33 #[.pointer (some ⟨b, 0, none⟩)] w fun e w' => e = .returned (.agg #[.string (readF (bl s) R B).vo, .int .i64 (readF (bl s) R B).ex, .string (readF (bl s) R B).ve, .int .i64 (readF (bl s) R B).ps, .int .i64 (readF (bl s) R B).cy, .string (readF (bl s) R B).te]) ∧ But b w w' := by
  have hb := h.lt
  have hal : ∀ a n, adv (bl s) a n ≤ s.size := fun a n => by have := adv_le (bl s) a n; rw [bl_length] at this; exact this
  have hnl := nb_lt (bl s)
  have a1 : bits .and .i64 (nb (bl s) 0 : Int) 1 = 0 := by rw [and1_all _ (hnl 0)]; omega
  have a2 : bits .and .i64 (nb (bl s) 0 : Int) 2 = 2 := by rw [and2_all _ (hnl 0)]; omega
  have f0 : (readF (bl s) R B).vo = ba (unL (bl s) (adv (bl s) 0 1) R) := rfl
  have f1 : (readF (bl s) R B).ex = 0 := if_neg h1
  have f2 : (readF (bl s) R B).ve = ⟨#[]⟩ := if_neg h1
  have fB : rdB (bl s) R B = rdA (bl s) R := if_neg h1
  have f3 : (readF (bl s) R B).ps = nb (bl s) (rdB (bl s) R B) := if_pos h2
  have f4 : (readF (bl s) R B).cy = nb (bl s) (adv (bl s) (rdB (bl s) R B) 1) := if_pos h2
  have f5 : (readF (bl s) R B).te = ba (rdT (bl s) (adv (bl s) (adv (bl s) (adv (bl s) (rdB (bl s) R B) 1) 1) 1) (nb (bl s) (adv (bl s) (adv (bl s) (rdB (bl s) R B) 1) 1))) := if_pos h2
  rw [f0, f1, f2, f3, f4, f5]
  clear f0 f1 f2 f3 f4 f5 h1 h2
  try rw [fB]
  have hRA : rdA (bl s) R = adv (bl s) (adv (bl s) 0 1) ((R + 3) / 4) := rfl
  try rw [hRA]
  clear fB hRA
  have N0 := hnl 0
  go_enter Try.func33, Try.ntmps33
  go_wp2_with fail
  refine (number_any b s 0 R B _ (h.later (ballc w _)) (by omega) (by omega)).mono ?_
  rintro e w1 ⟨rfl, hR1, hB1⟩
  have hz1 := (hB1.block w.heap.size (by simp) (by simp; omega)).trans (heap_alloc_new w _)
  have hB1' := (But.of_below (b := b) (ballc w _)).trans hB1
  have k1 := blk_cell hR1
  have HR1 := hidden hR1
  have HB1 := hidden hB1'
  have HZ1 := hidden hz1
  clear hR1 hB1 hB1' hz1
  generalize hA1 : adv (bl s) 0 1 = A1 at *
  have HA1 : A1 ≤ s.size := by rw [← hA1]; exact hal _ _
  have EA1 := hidden hA1
  clear hA1
  generalize nb (bl s) 0 = H0 at *
  go_wp2_with fail
  refine (digits_any b s A1 R B R _ HR1.out HA1 (by omega) (by omega)).mono ?_
  rintro e w2 ⟨rfl, hR2, hB2⟩
  have hz2 := (hB2.block w.heap.size (Array.getElem?_eq_some_iff.1 HZ1.out).1 (by simp; omega)).trans HZ1.out
  have hB2' := HB1.out.trans hB2
  clear hB2 HR1 HB1 HZ1 k1
  generalize hV : ba (unL (bl s) A1 R) = V at *
  have EV := hidden hV
  clear hV
  generalize hA2 : adv (bl s) A1 ((R + 3) / 4) = A2 at *
  have HA2 : A2 ≤ s.size := by rw [← hA2]; exact hal _ _
  have EA2 := hidden hA2
  clear hA2
  have hS : RS w b s A2 R B w.heap.size w2.heap.size #[.string V, .int .i64 0, .string ⟨#[]⟩, .int .i64 0, .int .i64 0, .string ⟨#[]⟩] (w2.alloc (.cells #[.string V, .int .i64 0, .string ⟨#[]⟩, .int .i64 0, .int .i64 0, .string ⟨#[]⟩] 26)) :=
    ⟨hR2.later (ballc _ _), heap_alloc_new _ _, ((ballc w2 _).block _ (Array.getElem?_eq_some_iff.1 hz2).1).trans hz2, hB2'.below (ballc _ _), hb, Nat.le_refl _, (Array.getElem?_eq_some_iff.1 hz2).1⟩
  have kz0 := (Array.getElem?_eq_some_iff.1 hz2).1
  have HS := hidden hS
  have kq := blk_cell hz2
  have ke := blk_frozen hz2
  have HZ2 := hidden hz2
  have HB2 := hidden hB2'
  clear hS hR2 hz2 hB2'
  have kr := blk_cell HS.out.rd
  go_wp2_with fail
  refine (number_any b s A2 R B _ HS.out.rd (by omega) (by omega)).mono ?_
  rintro e w3 ⟨rfl, hRn, hBn⟩
  have hS := HS.out.call hRn hBn
  clear hRn hBn HS
  clear kr kq ke
  have NS := hnl A2
  generalize hS : nb (bl s) A2 = S at *
  have ES := hidden hS
  clear hS
  generalize hA5 : adv (bl s) A2 1 = A5 at *
  have HA5 : A5 ≤ s.size := by rw [← hA5]; exact hal _ _
  have EA5 := hidden hA5
  clear hA5
  try simp only [List.setIfInBounds_toArray, List.set_cons_zero, List.set_cons_succ] at hS
  have kp := blk_cell hS.pk
  have kf := blk_frozen hS.pk
  have kr := blk_cell hS.rd
  have kq := blk_cell hS.rz
  have ke := blk_frozen hS.rz
  have HS := hidden (hS.set 3 (.int .i64 (S : Int)))
  clear hS
  go_wp2_with fail
  refine (number_any b s A5 R B _ HS.out.rd (by omega) (by omega)).mono ?_
  rintro e w4 ⟨rfl, hRn, hBn⟩
  have hS := HS.out.call hRn hBn
  clear hRn hBn HS
  clear kp kf kr kq ke
  have NY := hnl A5
  generalize hY : nb (bl s) A5 = Y at *
  have EY := hidden hY
  clear hY
  generalize hA6 : adv (bl s) A5 1 = A6 at *
  have HA6 : A6 ≤ s.size := by rw [← hA6]; exact hal _ _
  have EA6 := hidden hA6
  clear hA6
  try simp only [List.setIfInBounds_toArray, List.set_cons_zero, List.set_cons_succ] at hS
  have kp := blk_cell hS.pk
  have kf := blk_frozen hS.pk
  have kr := blk_cell hS.rd
  have kq := blk_cell hS.rz
  have ke := blk_frozen hS.rz
  have HS := hidden (hS.set 4 (.int .i64 (Y : Int)))
  clear hS
  go_wp2
  clear kp kf kr kq ke
  go_region_with (first
    | (go_at_call 58; refine (number_any b s A6 R B _ (by first | exact HS.out.rd | exact Rd.drew HS.out.rd) (by omega) (by omega)).mono ?_; rintro e w8 ⟨rfl, hR8, hB8⟩)
    | (go_at_call 60; refine (text_any b s (adv (bl s) A6 1) R B (nb (bl s) A6) _ hR8 (hal _ _) (by omega) (by have := hnl A6; omega)).mono ?_; rintro e w9 ⟨rfl, hR9, hB9⟩; have hS := RS.call HS.out hR9 (But.trans (by first | exact hB8 | exact But.of_drew hB8) hB9); simp only [List.setIfInBounds_toArray, List.set_cons_zero, List.set_cons_succ] at hS; have kp := blk_cell hS.pk; have kf := blk_frozen hS.pk; have kq := blk_cell hS.rz; have ke := blk_frozen hS.rz; have HS9 := hidden hS; clear hS))
  all_goals
    go_wp2
    have HS := hidden (HS9.out.set 5 (.string (ba (rdT (bl s) (adv (bl s) A6 1) (nb (bl s) A6)))))
    obtain ⟨r0, r1, r2, r3, r4, r5⟩ := read6T HS.out.rz (.string V) (.int .i64 0) (.string ⟨#[]⟩) (.int .i64 (S : Int)) (.int .i64 (Y : Int)) (.string (ba (rdT (bl s) (adv (bl s) A6 1) (nb (bl s) A6))))
    refine bodyPost_ret (v := .agg #[.string V, .int .i64 0, .string ⟨#[]⟩, .int .i64 (S : Int), .int .i64 (Y : Int), .string (ba (rdT (bl s) (adv (bl s) A6 1) (nb (bl s) A6)))]) (by simp [results, Try.results33, go_sem, r0, r1, r2, r3, r4, r5]) rfl ⟨?_, HS.out.bt.six _ (Nat.le_refl _) _ _ _ _ _ _⟩
    have e1 := EV.out
    have e2 := EA1.out
    have e3 := EA2.out
    have e8 := ES.out
    have e9 := EY.out
    have e10 := EA5.out
    have e11 := EA6.out
    clear EV EA1 EA2 ES EY EA5 EA6
    subst e11 e10 e9 e8
    subst e3 e1 e2
    rfl
set_option maxHeartbeats 4000000 in
theorem read_11 (b : Nat) (s : ByteArray) (R B : Nat) (w : World) (h : Rd b s 0 (R : Int) (B : Int) w) (hs : s.size ≤ 255) (hR : R ≤ 255) (hB : B ≤ 255) (h1 : nb (bl s) 0 % 2 = 1) (h2 : nb (bl s) 0 / 2 % 2 = 1) :
    Calls Try.prog 33 #[.pointer (some ⟨b, 0, none⟩)] w fun e w' => e = .returned (.agg #[.string (readF (bl s) R B).vo, .int .i64 (readF (bl s) R B).ex, .string (readF (bl s) R B).ve, .int .i64 (readF (bl s) R B).ps, .int .i64 (readF (bl s) R B).cy, .string (readF (bl s) R B).te]) ∧ But b w w' := by
  have hb := h.lt
  have hal : ∀ a n, adv (bl s) a n ≤ s.size := fun a n => by have := adv_le (bl s) a n; rw [bl_length] at this; exact this
  have hnl := nb_lt (bl s)
  have a1 : bits .and .i64 (nb (bl s) 0 : Int) 1 = 1 := by rw [and1_all _ (hnl 0)]; omega
  have a2 : bits .and .i64 (nb (bl s) 0 : Int) 2 = 2 := by rw [and2_all _ (hnl 0)]; omega
  have f0 : (readF (bl s) R B).vo = ba (unL (bl s) (adv (bl s) 0 1) R) := rfl
  have f1 : (readF (bl s) R B).ex = nb (bl s) (rdA (bl s) R) := if_pos h1
  have f2 : (readF (bl s) R B).ve = ba (unL (bl s) (adv (bl s) (rdA (bl s) R) 1) B) := if_pos h1
  have fB : rdB (bl s) R B = adv (bl s) (adv (bl s) (rdA (bl s) R) 1) ((B + 3) / 4) := if_pos h1
  have f3 : (readF (bl s) R B).ps = nb (bl s) (rdB (bl s) R B) := if_pos h2
  have f4 : (readF (bl s) R B).cy = nb (bl s) (adv (bl s) (rdB (bl s) R B) 1) := if_pos h2
  have f5 : (readF (bl s) R B).te = ba (rdT (bl s) (adv (bl s) (adv (bl s) (adv (bl s) (rdB (bl s) R B) 1) 1) 1) (nb (bl s) (adv (bl s) (adv (bl s) (rdB (bl s) R B) 1) 1))) := if_pos h2
  rw [f0, f1, f2, f3, f4, f5]
  clear f0 f1 f2 f3 f4 f5 h1 h2
  try rw [fB]
  have hRA : rdA (bl s) R = adv (bl s) (adv (bl s) 0 1) ((R + 3) / 4) := rfl
  try rw [hRA]
  clear fB hRA
  have N0 := hnl 0
  go_enter Try.func33, Try.ntmps33
  go_wp2_with fail
  refine (number_any b s 0 R B _ (h.later (ballc w _)) (by omega) (by omega)).mono ?_
  rintro e w1 ⟨rfl, hR1, hB1⟩
  have hz1 := (hB1.block w.heap.size (by simp) (by simp; omega)).trans (heap_alloc_new w _)
  have hB1' := (But.of_below (b := b) (ballc w _)).trans hB1
  have k1 := blk_cell hR1
  have HR1 := hidden hR1
  have HB1 := hidden hB1'
  have HZ1 := hidden hz1
  clear hR1 hB1 hB1' hz1
  generalize hA1 : adv (bl s) 0 1 = A1 at *
  have HA1 : A1 ≤ s.size := by rw [← hA1]; exact hal _ _
  have EA1 := hidden hA1
  clear hA1
  generalize nb (bl s) 0 = H0 at *
  go_wp2_with fail
  refine (digits_any b s A1 R B R _ HR1.out HA1 (by omega) (by omega)).mono ?_
  rintro e w2 ⟨rfl, hR2, hB2⟩
  have hz2 := (hB2.block w.heap.size (Array.getElem?_eq_some_iff.1 HZ1.out).1 (by simp; omega)).trans HZ1.out
  have hB2' := HB1.out.trans hB2
  clear hB2 HR1 HB1 HZ1 k1
  generalize hV : ba (unL (bl s) A1 R) = V at *
  have EV := hidden hV
  clear hV
  generalize hA2 : adv (bl s) A1 ((R + 3) / 4) = A2 at *
  have HA2 : A2 ≤ s.size := by rw [← hA2]; exact hal _ _
  have EA2 := hidden hA2
  clear hA2
  have hS : RS w b s A2 R B w.heap.size w2.heap.size #[.string V, .int .i64 0, .string ⟨#[]⟩, .int .i64 0, .int .i64 0, .string ⟨#[]⟩] (w2.alloc (.cells #[.string V, .int .i64 0, .string ⟨#[]⟩, .int .i64 0, .int .i64 0, .string ⟨#[]⟩] 26)) :=
    ⟨hR2.later (ballc _ _), heap_alloc_new _ _, ((ballc w2 _).block _ (Array.getElem?_eq_some_iff.1 hz2).1).trans hz2, hB2'.below (ballc _ _), hb, Nat.le_refl _, (Array.getElem?_eq_some_iff.1 hz2).1⟩
  have kz0 := (Array.getElem?_eq_some_iff.1 hz2).1
  have HS := hidden hS
  have kq := blk_cell hz2
  have ke := blk_frozen hz2
  have HZ2 := hidden hz2
  have HB2 := hidden hB2'
  clear hS hR2 hz2 hB2'
  have kr := blk_cell HS.out.rd
  go_wp2_with fail
  refine (number_any b s A2 R B _ HS.out.rd (by omega) (by omega)).mono ?_
  rintro e w3 ⟨rfl, hRn, hBn⟩
  have hS := HS.out.call hRn hBn
  clear hRn hBn HS
  clear kr kq ke
  have NX := hnl A2
  generalize hX : nb (bl s) A2 = X at *
  have EX := hidden hX
  clear hX
  generalize hA3 : adv (bl s) A2 1 = A3 at *
  have HA3 : A3 ≤ s.size := by rw [← hA3]; exact hal _ _
  have EA3 := hidden hA3
  clear hA3
  try simp only [List.setIfInBounds_toArray, List.set_cons_zero, List.set_cons_succ] at hS
  have kp := blk_cell hS.pk
  have kf := blk_frozen hS.pk
  have kr := blk_cell hS.rd
  have kq := blk_cell hS.rz
  have ke := blk_frozen hS.rz
  have HS := hidden (hS.set 1 (.int .i64 (X : Int)))
  clear hS
  go_wp2_with fail
  refine (digits_any b s A3 R B B _ HS.out.rd (by omega) (by omega) (by omega)).mono ?_
  rintro e w4 ⟨rfl, hRn, hBn⟩
  have hS := HS.out.call hRn hBn
  clear hRn hBn HS
  clear kp kf kr kq ke
  generalize hP : ba (unL (bl s) A3 B) = P at *
  have EP := hidden hP
  clear hP
  generalize hA4 : adv (bl s) A3 ((B + 3) / 4) = A4 at *
  have HA4 : A4 ≤ s.size := by rw [← hA4]; exact hal _ _
  have EA4 := hidden hA4
  clear hA4
  try simp only [List.setIfInBounds_toArray, List.set_cons_zero, List.set_cons_succ] at hS
  have kp := blk_cell hS.pk
  have kf := blk_frozen hS.pk
  have kr := blk_cell hS.rd
  have kq := blk_cell hS.rz
  have ke := blk_frozen hS.rz
  have HS := hidden (hS.set 2 (.string P))
  clear hS
  go_wp2_with fail
  refine (number_any b s A4 R B _ HS.out.rd (by omega) (by omega)).mono ?_
  rintro e w5 ⟨rfl, hRn, hBn⟩
  have hS := HS.out.call hRn hBn
  clear hRn hBn HS
  clear kp kf kr kq ke
  have NS := hnl A4
  generalize hS : nb (bl s) A4 = S at *
  have ES := hidden hS
  clear hS
  generalize hA5 : adv (bl s) A4 1 = A5 at *
  have HA5 : A5 ≤ s.size := by rw [← hA5]; exact hal _ _
  have EA5 := hidden hA5
  clear hA5
  try simp only [List.setIfInBounds_toArray, List.set_cons_zero, List.set_cons_succ] at hS
  have kp := blk_cell hS.pk
  have kf := blk_frozen hS.pk
  have kr := blk_cell hS.rd
  have kq := blk_cell hS.rz
  have ke := blk_frozen hS.rz
  have HS := hidden (hS.set 3 (.int .i64 (S : Int)))
  clear hS
  go_wp2_with fail
  refine (number_any b s A5 R B _ HS.out.rd (by omega) (by omega)).mono ?_
  rintro e w6 ⟨rfl, hRn, hBn⟩
  have hS := HS.out.call hRn hBn
  clear hRn hBn HS
  clear kp kf kr kq ke
  have NY := hnl A5
  generalize hY : nb (bl s) A5 = Y at *
  have EY := hidden hY
  clear hY
  generalize hA6 : adv (bl s) A5 1 = A6 at *
  have HA6 : A6 ≤ s.size := by rw [← hA6]; exact hal _ _
  have EA6 := hidden hA6
  clear hA6
  try simp only [List.setIfInBounds_toArray, List.set_cons_zero, List.set_cons_succ] at hS
  have kp := blk_cell hS.pk
  have kf := blk_frozen hS.pk
  have kr := blk_cell hS.rd
  have kq := blk_cell hS.rz
  have ke := blk_frozen hS.rz
  have HS := hidden (hS.set 4 (.int .i64 (Y : Int)))
  clear hS
  go_wp2
  clear kp kf kr kq ke
  go_region_with (first
    | (go_at_call 58; refine (number_any b s A6 R B _ (by first | exact HS.out.rd | exact Rd.drew HS.out.rd) (by omega) (by omega)).mono ?_; rintro e w8 ⟨rfl, hR8, hB8⟩)
    | (go_at_call 60; refine (text_any b s (adv (bl s) A6 1) R B (nb (bl s) A6) _ hR8 (hal _ _) (by omega) (by have := hnl A6; omega)).mono ?_; rintro e w9 ⟨rfl, hR9, hB9⟩; have hS := RS.call HS.out hR9 (But.trans (by first | exact hB8 | exact But.of_drew hB8) hB9); simp only [List.setIfInBounds_toArray, List.set_cons_zero, List.set_cons_succ] at hS; have kp := blk_cell hS.pk; have kf := blk_frozen hS.pk; have kq := blk_cell hS.rz; have ke := blk_frozen hS.rz; have HS9 := hidden hS; clear hS))
  all_goals
    go_wp2
    have HS := hidden (HS9.out.set 5 (.string (ba (rdT (bl s) (adv (bl s) A6 1) (nb (bl s) A6)))))
    obtain ⟨r0, r1, r2, r3, r4, r5⟩ := read6T HS.out.rz (.string V) (.int .i64 (X : Int)) (.string P) (.int .i64 (S : Int)) (.int .i64 (Y : Int)) (.string (ba (rdT (bl s) (adv (bl s) A6 1) (nb (bl s) A6))))
    refine bodyPost_ret (v := .agg #[.string V, .int .i64 (X : Int), .string P, .int .i64 (S : Int), .int .i64 (Y : Int), .string (ba (rdT (bl s) (adv (bl s) A6 1) (nb (bl s) A6)))]) (by simp [results, Try.results33, go_sem, r0, r1, r2, r3, r4, r5]) rfl ⟨?_, HS.out.bt.six _ (Nat.le_refl _) _ _ _ _ _ _⟩
    have e1 := EV.out
    have e2 := EA1.out
    have e3 := EA2.out
    have e4 := EX.out
    have e5 := EP.out
    have e6 := EA3.out
    have e7 := EA4.out
    have e8 := ES.out
    have e9 := EY.out
    have e10 := EA5.out
    have e11 := EA6.out
    clear EV EA1 EA2 ES EY EA5 EA6
    subst e11 e10 e9 e8
    clear EX EP EA3 EA4
    subst e7 e6 e5 e4
    subst e3 e1 e2
    rfl
end Go.Proofs.Ytcnmbpgjgjncdaa
