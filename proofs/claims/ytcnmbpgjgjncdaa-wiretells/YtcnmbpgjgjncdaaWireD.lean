/- The calls number, text and digits of package wire's readers return what plain functions give, move the reader's place on, and leave all other memory as it was; conditions: the reader lies where it says, its place is not beyond its bytes, of which there are at most 1000. -/
import Derived.Test.YtcnmbpgjgjncdaaWireA
import Derived.Test.YtcnmbpgjgjncdaaGetOne
import Derived.Laws.AppendOwn
namespace Go.Proofs.Ytcnmbpgjgjncdaa
open Go.ChangeShapes Go.WideShapes Go.ChangeAt Go.RowKit
set_option linter.unusedVariables false
attribute [local go_sem] cell_rg

/-- A packet's reader lies in a block. -/
def Rd (b : Nat) (s : ByteArray) (a : Nat) (R B : Int) (w : World) : Prop := w.heap[b]? = some (.cells #[.string s, .int .i64 (a : Int), .int .i64 R, .int .i64 B] 56 (0, 0))
/-- Nothing that was there has turned but one block. -/
def But (b : Nat) (w w' : World) : Prop := w.grownBy w' (some b)
theorem But.of_below {b : Nat} {w w' : World} (h : Below w.heap.size w w') : But b w w' := ⟨h.os, h.tape, h.output, h.size, fun k hk _ => h.block k hk⟩
theorem But.trans {b : Nat} {u v w : World} (h : But b u v) (k : But b v w) : But b u w :=
  ⟨k.os.trans h.os, k.tape.trans h.tape, k.output.trans h.output, Nat.le_trans h.size k.size, fun i hi hne => (k.block i (Nat.lt_of_lt_of_le hi h.size) hne).trans (h.block i hi hne)⟩
theorem But.set {b : Nat} {u w : World} (h : But b u w) (i : Nat) (v : Value) : But b u (w.setCell ⟨b, i, none⟩ v) :=
  ⟨h.os, h.tape, h.output, by simpa using h.size, fun k hk hne => (heap_setCell_other w ⟨b, i, none⟩ k v (fun e => hne (by rw [e]))).trans (h.block k hk hne)⟩
theorem But.below {b : Nat} {u v w : World} (h : But b u v) (k : Below v.heap.size v w) : But b u w := h.trans (But.of_below k)
theorem But.drew {b : Nat} {u w : World} (h : But b u w) : But b u w.drew := ⟨h.os, h.tape, h.output, h.size, h.block⟩
theorem But.to_below {b n : Nat} {u w : World} (h : But b u w) (hn : n ≤ b) (hu : n ≤ u.heap.size) : Below n u w := ⟨h.os, h.tape, h.output, h.size, fun k hk => h.block k (by omega) (by simp; omega)⟩
theorem Rd.lt {b : Nat} {s : ByteArray} {a : Nat} {R B : Int} {w : World} (h : Rd b s a R B w) : b < w.heap.size := (Array.getElem?_eq_some_iff.1 h).1
theorem Rd.later {b : Nat} {s : ByteArray} {a : Nat} {R B : Int} {w w' : World} (h : Rd b s a R B w) (k : Below w.heap.size w w') : Rd b s a R B w' := (k.block b h.lt).trans h
theorem Rd.go {b : Nat} {s : ByteArray} {a : Nat} {R B : Int} {w : World} (h : Rd b s a R B w) (c : Nat) : Rd b s c R B (w.setCell ⟨b, 1, none⟩ (.int .i64 (c : Int))) := by
  have := heap_setCell_same w b 1 _ _ (.int .i64 (c : Int)) h
  unfold Rd
  simpa using this
theorem get_nb (s : ByteArray) (a : Nat) : leNum (bytesAt s a 1) = (nb (bl s) a : Int) := by
  simp only [bytesAt, leNum, bt, nb, bl]
  omega
theorem nb_out (l : List UInt8) (a : Nat) (h : l.length ≤ a) : nb l a = 0 := by
  unfold nb
  rw [List.getD_eq_getElem?_getD, List.getElem?_eq_none h]
  rfl
theorem nb_lt (l : List UInt8) (a : Nat) : nb l a < 256 := (l.getD a 0).toNat_lt
set_option maxHeartbeats 1000000 in
theorem number_any (b : Nat) (s : ByteArray) (a : Nat) (R B : Int) (w : World) (h : Rd b s a R B w) (ha : a ≤ s.size) (hs : s.size ≤ 1000) :
    Calls Try.prog 58 #[.pointer (some ⟨b, 0, none⟩)] w fun e w' => e = .returned (.int .i64 (nb (bl s) a : Int)) ∧ Rd b s (adv (bl s) a 1) R B w' ∧ But b w w' := by
  have hlt := h.lt
  have k0 := blk_cell h
  by_cases hin : a < s.size
  · have C := fun V => Calls.to_below (get_1 s a V (by unfold maxLen; omega) (by omega))
    rw [get_nb] at C
    have e : adv (bl s) a 1 = a + 1 := adv_in _ _ _ (by rw [bl_length]; omega)
    rw [e]
    have HH := hidden h
    have hw1 : IntKind.i64.wrap ((a : Int) + 1) = (a : Int) + 1 := IntWalk.i64_in _ (by omega)
    have hnl := nb_lt (bl s) a
    clear h e
    generalize nb (bl s) a = N at *
    go_enter Try.func58, Try.ntmps58
    go_wp2
    refine wp_region_quiet_below (by kernel_rfl) (by kernel_rfl) ?_
    repeat (go_big_quiet_step ((go_at_call 71; exact Calls.regrown_of (C _))))
    refine wpQuiet_nil ?_
    intro w2 hw2
    have hb := rg_below hw2
    clear hw2 k0
    have h2 := HH.out.later hb
    have k0 := blk_cell h2
    have f0 := blk_frozen h2
    have hlt2 := h2.lt
    have HH2 := hidden h2
    have HB := hidden hb
    clear h2 hb
    go_wp2
    go_ret
    exact ⟨rfl, HH2.out.go (a + 1), (But.of_below HB.out).set 1 _⟩
  · have C := fun V => Calls.to_below (get_short s (a : Int) 1 V (by unfold maxLen; omega) (by omega) (by omega) (by omega) (by omega))
    have e : adv (bl s) a 1 = a := by unfold adv; rw [bl_length]; omega
    rw [e, nb_out (bl s) a (by rw [bl_length]; omega)]
    have HH := hidden h
    clear h e
    go_enter Try.func58, Try.ntmps58
    go_wp2
    refine wp_region_quiet_below (by kernel_rfl) (by kernel_rfl) ?_
    repeat (go_big_quiet_step ((go_at_call 71; exact Calls.regrown_of (C _))))
    refine wpQuiet_nil ?_
    intro w2 hw2
    have hb := rg_below hw2
    have h2 := hidden (HH.out.later hb)
    have HB := hidden hb
    clear hw2 k0 hb
    go_wp2
    go_ret
    exact ⟨rfl, h2.out, But.of_below HB.out⟩
set_option maxHeartbeats 1000000 in
theorem text_any (b : Nat) (s : ByteArray) (a : Nat) (R B : Int) (n : Nat) (w : World) (h : Rd b s a R B w) (ha : a ≤ s.size) (hs : s.size ≤ 1000) (hn : n ≤ 1000) :
    Calls Try.prog 60 #[.pointer (some ⟨b, 0, none⟩), .int .i64 (n : Int)] w fun e w' => e = .returned (.string (ba (rdT (bl s) a n))) ∧ Rd b s (adv (bl s) a n) R B w' ∧ But b w w' := by
  have hlt := h.lt
  have k0 := blk_cell h
  have f0 := blk_frozen h
  have HH := hidden h
  clear h
  by_cases hin : a + n ≤ s.size
  · have e : adv (bl s) a n = a + n := adv_in _ _ _ (by rw [bl_length]; omega)
    have e2 : ba (rdT (bl s) a n) = s.extract a (a + n) := by
      apply bl_inj
      rw [bl_ba]
      simp only [bl, rdT, Lib.extract_data, Nat.add_sub_cancel_left]
    rw [e, e2]
    have hm : (a : Int) + (n : Int) ≤ (s.size : Int) := by omega
    clear e e2
    go_enter Try.func60, Try.ntmps60
    go_wp2
    go_region
    go_wp2
    go_ret
    exact ⟨rfl, HH.out.go (a + n), ((But.of_below (Below.refl _ _)).set 1 _).drew⟩
  · have e : adv (bl s) a n = s.size := by unfold adv; rw [bl_length]; omega
    have e2 : ba (rdT (bl s) a n) = s.extract a s.size := by
      apply bl_inj
      rw [bl_ba]
      simp only [bl, rdT, Lib.extract_data]
      rw [List.take_of_length_le (by simp; omega), List.take_of_length_le (by simp)]
    rw [e, e2]
    have hm : ¬ (a : Int) + (n : Int) ≤ (s.size : Int) := by omega
    have hm2 : (s.size : Int) < (a : Int) + (n : Int) := by omega
    clear e e2
    go_enter Try.func60, Try.ntmps60
    go_wp2
    go_region
    go_wp2
    go_ret
    exact ⟨rfl, HH.out.go s.size, ((But.of_below (Below.refl _ _)).set 1 _).drew⟩
end Go.Proofs.Ytcnmbpgjgjncdaa
