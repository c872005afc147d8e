/- The law NumPuts returns true at every input, and makes at most new memory; conditions: the integers fit int, the text's length too. -/
import Derived.Test.YtjecogbhkmljkaaKnown
namespace Go.Proofs.Ytjecogbhkmljkaa.LawNumPuts
open Go.ChangeShapes Go.WideShapes Go.ChangeAt Go.RowKit
set_option linter.unusedVariables false
set_option maxHeartbeats 800000 in
theorem walk (n b : Int) (s : ByteArray) (a : Int) (w0 : (Lit.int .i64 n).wf = true) (w1 : (Lit.int .i64 b).wf = true) (ws : s.size ≤ maxLen) (w3 : (Lit.int .i64 a).wf = true) (w : World) :
    Calls Try.prog 3 #[.int .i64 n, .int .i64 b, .string s, .int .i64 a] w fun e w' => e = .returned (.bool true) ∧ Below w.heap.size w w' := by
  go_enter Try.func3, Try.ntmps3
  go_wp2_with fail
  refine (put_any n b _ w0).mono ?_
  rintro e w1 ⟨rfl, hb1⟩
  go_wp2_with fail
  refine (rput_any n b _ w0).mono ?_
  rintro e w2 ⟨rfl, hb2⟩
  go_wp2_with fail
  refine (get_any s a b _ ws).mono ?_
  rintro e w3 ⟨rfl, rfl⟩
  go_wp2_with fail
  refine (rget_any s a b _ ws).mono ?_
  rintro e w4 ⟨rfl, rfl⟩
  go_wp2_with (go_at_call 13; refine (known_any _).mono ?_; rintro e w' ⟨rfl, hb⟩)
  go_ret
  exact ⟨rfl, (hb1.trans (hb2.mono hb1.size)).trans (hb.mono (hb1.trans (hb2.mono hb1.size)).size)⟩
end Go.Proofs.Ytjecogbhkmljkaa.LawNumPuts
