/- The walk of the statement WireWrites: the call returns true, and makes at most new memory; conditions: the table lies where it says, lengths fit int. -/
import Derived.Test.YtcnmbpgjgjncdaaWireK
import Derived.Test.YtcnmbpgjgjncdaaWireQ
namespace Go.Proofs.Ytcnmbpgjgjncdaa.LawWireWrites
open Go.ChangeShapes Go.WideShapes Go.ChangeAt Go.RowKit
set_option linter.unusedVariables false
attribute [local go_sem] cell_rg

set_option maxHeartbeats 4000000 in
theorem walk (n f d p r dr o sl md fr : Int) (ad : Option Addr) (cap : Nat) (zs : List Int) (vo : ByteArray) (ex : Int) (ve : ByteArray) (ps cy : Int) (te : ByteArray) (w : World) (hl : zs.length ≤ 9223372036854775807) (hT : Tab w ad zs) (sv : vo.size ≤ 9223372036854775807) (kx : (Lit.int .i64 ex).wf = true) (se : ve.size ≤ 9223372036854775807) (kp : (Lit.int .i64 ps).wf = true) (kc : (Lit.int .i64 cy).wf = true) (st : te.size ≤ 9223372036854775807) :
    Calls Try.prog 3 #[.agg #[.int .i64 n, .int .i64 f, .int .i64 d, .int .i64 p, .int .i64 r, .int .i64 dr, .int .i64 o, .int .i64 sl, .int .i64 md, .int .i64 fr, .slice ad zs.length cap], .agg #[.string vo, .int .i64 ex, .string ve, .int .i64 ps, .int .i64 cy, .string te]] w fun e w' => e = .returned (.bool true) ∧ Below w.heap.size w w' := by
  have HT := hidden (hT.below (bthen (ballc w (.cells #[.int .i64 n, .int .i64 f, .int .i64 d, .int .i64 p, .int .i64 r, .int .i64 dr, .int .i64 o, .int .i64 sl, .int .i64 md, .int .i64 fr, .slice ad zs.length cap] 24)) (ballc _ (.cells #[.string vo, .int .i64 ex, .string ve, .int .i64 ps, .int .i64 cy, .string te] 26))))
  have HW0 := hidden (bthen (ballc w (.cells #[.int .i64 n, .int .i64 f, .int .i64 d, .int .i64 p, .int .i64 r, .int .i64 dr, .int .i64 o, .int .i64 sl, .int .i64 md, .int .i64 fr, .slice ad zs.length cap] 24)) (ballc _ (.cells #[.string vo, .int .i64 ex, .string ve, .int .i64 ps, .int .i64 cy, .string te] 26)))
  have C1 := fun V h => Encode_any n f d p r dr o sl md fr ad cap zs ⟨vo, ex, ve, ps, cy, te⟩ V hl h sv se st
  have C2 := fun V h => rEncode_any n f d p r dr o sl md fr ad cap zs ⟨vo, ex, ve, ps, cy, te⟩ V hl h sv se st
  have C3 := fun V h => Size_any n f d p r dr o sl md fr ad cap zs ⟨vo, ex, ve, ps, cy, te⟩ V hl h sv se st
  have C4 := fun V h => rSize_any n f d p r dr o sl md fr ad cap zs ⟨vo, ex, ve, ps, cy, te⟩ V hl h sv se st
  generalize encF (plainE n f d p r dr o sl md fr zs) (3 * (f + 1)) (8 + n) zs.length md ⟨vo, ex, ve, ps, cy, te⟩ = X at *
  obtain ⟨X1, X2⟩ := X
  dsimp only at *
  have i1 : (X1.toList == X1.toList) = true := by simp
  clear hT
  go_enter Try.func3, Try.ntmps3
  go_wp2_with fail
  refine (C1 _ HT.out).mono ?_
  rintro e w1 ⟨rfl, hb⟩
  have HB1 := hidden hb
  obtain ⟨hbox, hbox2, hsz0, hsz⟩ := box_two HB1.out
  clear hb C1
  go_wp2_with fail
  refine (C2 _ (HT.out.below HB1.out)).mono ?_
  rintro e w2 ⟨rfl, hb⟩
  have HB2 := hidden (bthen HB1.out hb)
  clear hb C2 HB1 hbox hbox2 hsz0 hsz
  obtain ⟨hbox, hbox2, hsz0, hsz⟩ := box_two HB2.out
  have HT2 := hidden (HT.out.below HB2.out)
  go_wp2
  refine wp_region_quiet_below (by kernel_rfl) (by kernel_rfl) ?_
  repeat (go_big_quiet_step (first
    | (go_at_call 11; exact Calls.regrown_of (C3 _ (HT2.out.below (below_regrown _ _ _))))
    | (go_at_call 12; exact Calls.regrown_of (C4 _ (HT2.out.below (below_regrown _ _ _))))
    | (go_at_call 13; exact Calls.regrown_of (known11_any _))))
  refine wpQuiet_nil ?_
  intro w3 hw3
  have HB3 := hidden (bthen HW0.out (bthen HB2.out (rg_below hw3)))
  clear hw3
  go_wp2
  go_ret
  exact ⟨rfl, HB3.out⟩
end Go.Proofs.Ytcnmbpgjgjncdaa.LawWireWrites
