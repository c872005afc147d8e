/- The fixed calls of the statements on package queue come out as they must, and make at most new memory; two rows that hold the same are alike; no conditions. -/
import Derived.Test.YtjmeeklaclidbaaQueB
import Derived.Test.YtjmeeklaclidbaaQueS
namespace Go.Proofs.Ytjmeeklaclidbaa
open Go.ChangeShapes Go.WideShapes Go.ChangeAt Go.RowKit
set_option linter.unusedVariables false

set_option maxHeartbeats 1000000 in
theorem SameI_any (ad ad' : Option Addr) (len len' cap cap' : Nat) (es : List Item) (w : World) (hl : es.length ≤ 1000000) (hE : kItem.Lies w.heap.size w (.slice ad len cap) es) (hF : kItem.Lies w.heap.size w (.slice ad' len' cap') es) :
    Calls Try.prog 25 #[.slice ad len cap, .slice ad' len' cap'] w fun e w' => e = .returned (.bool true) ∧ Below w.heap.size w w' := by
  obtain rfl := hE.len
  obtain rfl := hF.len
  go_enter Try.func25, Try.ntmps25
  go_wp2
  go_loopw [5] (fun i wr => ∃ k : Nat, k ≤ es.length ∧ i = .int .i64 k ∧ Below w.heap.size w wr) (fun i _ => es.length - (intV i).toNat)
  case atStart => exact ⟨0, Nat.zero_le _, rfl, Below.refl _ _⟩
  case round =>
    obtain ⟨k, hk, rfl, hB⟩ := hrel
    by_cases hlt : k < es.length
    · obtain ⟨b, off, rfl, hbl, e0, e1, e2⟩ := Lies_item hE k hlt
      obtain ⟨b', off', rfl, hbl', e0', e1', e2'⟩ := Lies_item hF k hlt
      have f0 := (hB.cell (p := ⟨b, off + k * 3, none⟩) hbl).trans e0
      have f1 := (hB.cell (p := ⟨b, off + k * 3 + 1, none⟩) hbl).trans e1
      have f2 := (hB.cell (p := ⟨b, off + k * 3 + 2, none⟩) hbl).trans e2
      have f0' := (hB.cell (p := ⟨b', off' + k * 3, none⟩) hbl').trans e0'
      have f1' := (hB.cell (p := ⟨b', off' + k * 3 + 1, none⟩) hbl').trans e1'
      have f2' := (hB.cell (p := ⟨b', off' + k * 3 + 2, none⟩) hbl').trans e2'
      clear e0 e1 e2 e0' e1' e2' hE hF
      generalize es[k] = z at f0 f1 f2 f0' f1' f2'
      have i1 : (0 : Int) ≤ (k : Int) := by omega
      have i2 : (k : Int) < (es.length : Int) := by omega
      go_wp2
      go_quiet (fail)
      go_wp2
      go_roundw
      case rel => exact ⟨k + 1, by omega, by simp, ⟨hB.os, hB.tape, hB.output, hB.size, hB.block⟩⟩
      case measure => simp [intV]; omega
    · obtain rfl : k = es.length := by omega
      go_wp2
      go_ret
      exact ⟨rfl, hB⟩

def qi1 : Item := ⟨(0, 1, ⟨#[97]⟩), by decide, by decide, by decide⟩
def qi2 : Item := ⟨(0, 3, ⟨#[98]⟩), by decide, by decide, by decide⟩
def qc1 : Item := ⟨(1, 0, ⟨#[97]⟩), by decide, by decide, by decide⟩
def qr2 : Item := ⟨(1, 2, ⟨#[98]⟩), by decide, by decide, by decide⟩
theorem kpush : pushL [] [qi1, qi2] = [qi1, qi2] := rfl
theorem kcome : comeL [qi1, qi2] = [qc1] := rfl
theorem krest : restL [qi1, qi2] = [qr2] := rfl
theorem kdue : dueN [qi1, qi2] 2 = 1 := rfl

set_option maxHeartbeats 2000000 in
theorem known8_any (w : World) :
    Calls Try.prog 20 #[] w fun e w' => e = .returned (.bool true) ∧ Below w.heap.size w w' := by
  have CP := fun a l c W h1 h2 => Push_any none 0 0 a l c [] [qi1, qi2] (by decide) W h1 h2
  have CS := fun a l c W h => Step_any a l c [qi1, qi2] (by decide) W h
  have CD := fun a l c W h => Due_any a l c 2 [qi1, qi2] (by decide) W h
  rw [kpush] at CP
  rw [kcome, krest] at CS
  rw [kdue] at CD
  have hB0 : Below w.heap.size w (w.alloc (.cells #[.int .i64 0, .int .i64 1, .string ⟨#[97]⟩, .int .i64 0, .int .i64 3, .string ⟨#[98]⟩] 52)) := ballc _ _
  have hN0 : kItem.Lies (w.alloc (.cells #[.int .i64 0, .int .i64 1, .string ⟨#[97]⟩, .int .i64 0, .int .i64 3, .string ⟨#[98]⟩] 52)).heap.size (w.alloc (.cells #[.int .i64 0, .int .i64 1, .string ⟨#[97]⟩, .int .i64 0, .int .i64 3, .string ⟨#[98]⟩] 52)) (.slice (some ⟨w.heap.size, 0, none⟩) 2 2) [qi1, qi2] := Kind.Lies.of_block (K := kItem) (es := [qi1, qi2]) (heap_alloc_new w _) (by decide)
  go_enter Try.func20, Try.ntmps20
  go_wp2_with fail
  refine (CP _ _ _ _ (Kind.Lies.nil _ _) hN0).mono ?_
  rintro r w1 ⟨a1, c1, rfl, hL1, hb1⟩
  have hB1 := bthen hB0 hb1
  clear hN0 hB0 hb1 CP
  go_wp2_with fail
  refine (CS _ _ _ _ hL1).mono ?_
  rintro r w2 ⟨a2, c2, b2, d2, rfl, hC2, hR2, hb2⟩
  have hL2 := hL1.later hb2
  have hB2 := bthen hB1 hb2
  clear hL1 hb2 hB1 CS
  go_wp2_with fail
  refine (SameI_any _ _ _ _ _ _ [qc1] _ (by decide) (hC2.later (ballc _ _)) (Kind.Lies.of_block (K := kItem) (es := [qc1]) (heap_alloc_new w2 _) (by decide))).mono ?_
  rintro r w3 ⟨rfl, hb3⟩
  have hB3' := bthen (ballc _ _) hb3
  have hL3 := hL2.later hB3'
  have hR3 := hR2.later hB3'
  have hB3 := bthen hB2 hB3'
  clear hL2 hR2 hC2 hb3 hB3' hB2
  go_wp2_with fail
  refine (SameI_any _ _ _ _ _ _ [qr2] _ (by decide) (hR3.later (ballc _ _)) (Kind.Lies.of_block (K := kItem) (es := [qr2]) (heap_alloc_new w3 _) (by decide))).mono ?_
  rintro r w4 ⟨rfl, hb4⟩
  have hB4' := bthen (ballc _ _) hb4
  have hL4 := hL3.later hB4'
  have hB4 := bthen hB3 hB4'
  clear hL3 hR3 hb4 hB4' hB3
  go_wp2_with fail
  refine (CD _ _ _ _ hL4).mono ?_
  rintro r w5 ⟨rfl, hb5⟩
  go_wp2
  go_ret
  exact ⟨rfl, bthen hB4 hb5⟩
end Go.Proofs.Ytjmeeklaclidbaa
