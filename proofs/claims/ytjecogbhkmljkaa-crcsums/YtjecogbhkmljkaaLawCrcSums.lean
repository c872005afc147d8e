/- The law CrcSums returns true at every text, and makes at most new memory; condition: the text's length fits int. -/
import Derived.Test.YtjecogbhkmljkaaCrcRef
import Derived.Test.YtjecogbhkmljkaaCrcK
namespace Go.Proofs.Ytjecogbhkmljkaa.LawCrcSums
open Go.ChangeShapes Go.WideShapes Go.ChangeAt Go.RowKit
set_option linter.unusedVariables false
set_option maxHeartbeats 800000 in
theorem walk (s : ByteArray) (w0 : s.size ≤ maxLen) (w : World) :
    Calls Try.prog 7 #[.string s] w fun e w' => e = .returned (.bool true) ∧ Below w.heap.size w w' := by
  have hm := w0
  unfold maxLen at hm
  by_cases h : 400 < s.size
  · go_enter Try.func7, Try.ntmps7
    go_wp2_with (go_at_call 20; refine (cknown_any _).mono ?_; rintro e w' ⟨rfl, hb⟩)
    go_ret
    exact ⟨rfl, hb⟩
  · have hs : s.size ≤ 281474976710656 := by omega
    go_enter Try.func7, Try.ntmps7
    go_wp2_with fail
    refine (open_any s _ hs).mono ?_
    rintro e w1 ⟨rfl, hb1⟩
    go_wp2_with fail
    refine (ropen_any s _ hs).mono ?_
    rintro e w2 ⟨rfl, hb2⟩
    go_wp2_with fail
    refine (sum_any s _ w0).mono ?_
    rintro e w3 ⟨rfl, hb3⟩
    go_wp2_with fail
    refine (rsum_any s _ w0).mono ?_
    rintro e w4 ⟨rfl, rfl⟩
    go_wp2_with fail
    refine (seal_any s _ hs).mono ?_
    rintro e w5 ⟨rfl, hb5⟩
    go_wp2_with fail
    refine (rseal_any s _ hs).mono ?_
    rintro e w6 ⟨rfl, hb6⟩
    go_wp2_with fail
    refine (cknown_any _).mono ?_
    rintro e w7 ⟨rfl, hb7⟩
    go_wp2
    go_ret
    have g2 := hb1.trans (hb2.mono hb1.size)
    have g3 := g2.trans (hb3.mono g2.size)
    have g5 := g3.trans (hb5.mono g3.size)
    have g6 := g5.trans (hb6.mono g5.size)
    exact ⟨rfl, g6.trans (hb7.mono g6.size)⟩
end Go.Proofs.Ytjecogbhkmljkaa.LawCrcSums
