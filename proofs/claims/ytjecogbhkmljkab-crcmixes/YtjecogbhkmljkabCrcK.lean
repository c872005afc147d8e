/- The fixed calls of the statements of layer 2 ('known') all answer as they must, and make at most new memory; no conditions. -/
import Derived.Test.YtjecogbhkmljkabCrc
namespace Go.Proofs.Ytjecogbhkmljkab
open Go.ChangeShapes Go.WideShapes Go.ChangeAt Go.RowKit
set_option linter.unusedVariables false
theorem crc_nine : (crcOf (ByteArray.mk #[49, 50, 51, 52, 53, 54, 55, 56, 57]).data.toList : Int) = 3421780262 := by decide +kernel
theorem crc_none : tailOf ⟨#[]⟩ = ⟨#[0, 0, 0, 0]⟩ := by decide +kernel
theorem crc_seal : (ByteArray.mk #[97, 98]) ++ tailOf ⟨#[97, 98]⟩ = ⟨#[97, 98, 109, 72, 131, 158]⟩ := by decide +kernel
theorem crc_open : openF ⟨#[97, 98, 109, 72, 131, 158]⟩ = (⟨#[97, 98]⟩, 0) := by decide +kernel
theorem crc_seal0 : (ByteArray.mk #[]) ++ tailOf ⟨#[]⟩ = ⟨#[0, 0, 0, 0]⟩ := by decide +kernel
set_option maxHeartbeats 400000 in
theorem cknown_any (w : World) : Calls Try.prog 6 #[] w fun e w' => e = .returned (.bool true) ∧ Below w.heap.size w w' := by
  go_enter Try.func6, Try.ntmps6
  go_wp2_with fail
  refine (seal_any ⟨#[97, 98]⟩ _ (by decide)).mono ?_
  rintro e w1 ⟨rfl, hb1⟩
  rw [crc_seal]
  go_wp2_with fail
  refine (open_any ⟨#[97, 98, 109, 72, 131, 158]⟩ _ (by decide)).mono ?_
  rintro e w2 ⟨rfl, hb2⟩
  rw [crc_open]
  go_wp2_with fail
  refine (sum_any ⟨#[49, 50, 51, 52, 53, 54, 55, 56, 57]⟩ _ (by decide)).mono ?_
  rintro e w3 ⟨rfl, hb3⟩
  rw [crc_nine]
  go_wp2_with fail
  refine (seal_any ⟨#[]⟩ _ (by decide)).mono ?_
  rintro e w4 ⟨rfl, hb4⟩
  rw [crc_seal0]
  go_wp2
  go_ret
  have g2 := hb1.trans (hb2.mono hb1.size)
  have g3 := g2.trans (hb3.mono g2.size)
  exact ⟨rfl, g3.trans (hb4.mono g3.size)⟩
end Go.Proofs.Ytjecogbhkmljkab
