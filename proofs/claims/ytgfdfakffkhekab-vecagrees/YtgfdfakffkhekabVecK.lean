/- The fixed calls of the statements on package vec come out as they must, and make at most new memory; no conditions. -/
import Derived.Test.YtgfdfakffkhekabConfK
import Derived.Test.YtgfdfakffkhekabVecC
namespace Go.Proofs.Ytgfdfakffkhekab
open Go.ChangeShapes Go.WideShapes Go.ChangeAt Go.RowKit
set_option linter.unusedVariables false

theorem small16_any (w : World) :
    Calls Try.prog 14 #[] w fun e w' => ∃ g, e = .returned (.agg #[.int .i64 4, .int .i64 1, .int .i64 1, .int .i64 20, .int .i64 64, .int .i64 1, .int .i64 64, .int .i64 190, .int .i64 10, .int .i64 3, .slice (some ⟨g, 0, none⟩) 4 4]) ∧ Tab w' (some ⟨g, 0, none⟩) [0, 1, 2, 3] ∧ Below w.heap.size w w' := by
  go_enter Try.func14, Try.ntmps14
  go_wp2
  refine bodyPost_ret (v := .agg #[.int .i64 4, .int .i64 1, .int .i64 1, .int .i64 20, .int .i64 64, .int .i64 1, .int .i64 64, .int .i64 190, .int .i64 10, .int .i64 3, .slice (some ⟨w.heap.size + 1, 0, none⟩) 4 4]) (by simp [results, Try.results14, go_sem]) rfl ⟨_, rfl, Tab.four _ _ _ (by simp), Joins.below_alloc2 _ _ _⟩
theorem val_s {a b : ByteArray} (h : a = b) : Value.string a = .string b := by rw [h]
theorem of_small : dgB (ByteArray.size ⟨#[49, 48, 120]⟩) (ofG ⟨#[49, 48, 120]⟩) = ⟨#[49, 48, 48]⟩ := by decide +kernel
theorem values_small : dgB (ByteArray.size ⟨#[51, 53, 52, 63]⟩) (valG ⟨#[51, 53, 52, 63]⟩) = ⟨#[48, 50, 49, 50]⟩ := by decide +kernel
theorem step_small : dgB (ByteArray.size ⟨#[48, 48]⟩) (stpG 0 4 1 0 ⟨#[48, 48]⟩ ⟨#[]⟩ [⟨#[49, 48]⟩, ⟨#[49, 49]⟩, ⟨#[49]⟩]) = ⟨#[49, 50]⟩ := by decide +kernel
theorem number_small : (numG ⟨#[49, 48, 49]⟩ 8 : Int) = 5 := by decide +kernel
theorem bits_small : dgB (widF 4) (bitG (Int.toNat 5)) = ⟨#[49, 48, 49, 48]⟩ := by decide +kernel
set_option maxHeartbeats 4000000 in
theorem known16_any (w : World) :
    Calls Try.prog 5 #[] w fun e w' => e = .returned (.bool true) ∧ Below w.heap.size w w' := by
  go_enter Try.func5, Try.ntmps5
  go_wp2_with fail
  refine (Calls.ret_to (Of_any ⟨#[49, 48, 120]⟩ (by decide) _) (val_s of_small)).mono ?_
  rintro e w1 ⟨rfl, hb⟩
  have HB1 := hidden hb
  clear hb
  go_wp2_with fail
  refine (Calls.ret_to (Values_any ⟨#[51, 53, 52, 63]⟩ (by decide) _) (val_s values_small)).mono ?_
  rintro e w2 ⟨rfl, hb⟩
  have HB2 := hidden (bthen HB1.out hb)
  clear hb
  go_wp2_with fail
  refine (small16_any _).mono ?_
  rintro e w3 ⟨g, rfl, hT, hb⟩
  have HB3 := hidden (bthen HB2.out hb)
  have hV : kStr.Lies (w3.alloc (.cells #[.string ⟨#[49, 48]⟩, .string ⟨#[49, 49]⟩, .string ⟨#[49]⟩] 9)).heap.size (w3.alloc (.cells #[.string ⟨#[49, 48]⟩, .string ⟨#[49, 49]⟩, .string ⟨#[49]⟩] 9)) (.slice (some ⟨w3.heap.size, 0, none⟩) 3 3) [⟨#[49, 48]⟩, ⟨#[49, 49]⟩, ⟨#[49]⟩] := Kind.Lies.of_block (K := kStr) (es := [⟨#[49, 48]⟩, ⟨#[49, 49]⟩, ⟨#[49]⟩]) (blk_nw w3 #[.string ⟨#[49, 48]⟩, .string ⟨#[49, 49]⟩, .string ⟨#[49]⟩] 9) (by decide)
  have CS := VStep_any 4 1 1 20 64 1 64 190 10 3 (some ⟨g, 0, none⟩) 4 [0, 1, 2, 3] 0 ⟨#[48, 48]⟩ ⟨#[]⟩ (some ⟨w3.heap.size, 0, none⟩) 3 [⟨#[49, 48]⟩, ⟨#[49, 49]⟩, ⟨#[49]⟩] _ (by decide) (hT.below (ballc w3 (.cells #[.string ⟨#[49, 48]⟩, .string ⟨#[49, 49]⟩, .string ⟨#[49]⟩] 9))) (by decide) (by decide) (by decide) (by decide) hV (by decide)
  rw [plainE_small, step_small] at CS
  have CS := hidden CS
  clear hT hV hb
  go_wp2_with fail
  refine CS.out.mono ?_
  rintro e w4 ⟨rfl, hb⟩
  have HB4 := hidden (bthen HB3.out (bthen (ballc w3 _) hb))
  clear hb
  go_wp2_with fail
  refine (Number_any ⟨#[49, 48, 49]⟩ (by decide) _).mono ?_
  rintro e w5 ⟨rfl, rfl⟩
  rw [number_small]
  go_wp2_with fail
  refine (Calls.ret_to (Bits_any2 5 4 (by decide) _) (val_s bits_small)).mono ?_
  rintro e w6 ⟨rfl, hb⟩
  have HB6 := hidden (bthen HB4.out hb)
  clear hb
  go_wp2
  go_ret
  exact ⟨rfl, HB6.out⟩
end Go.Proofs.Ytgfdfakffkhekab
