/- The walk of the statement WireReads: the call returns true, and makes at most new memory; conditions: the table lies where it says, lengths fit int. -/
import Derived.Test.YtcnmbpgjgjncdaaWireK
import Derived.Test.YtcnmbpgjgjncdaaWireT
namespace Go.Proofs.Ytcnmbpgjgjncdaa.LawWireReads
open Go.ChangeShapes Go.WideShapes Go.ChangeAt Go.RowKit
set_option linter.unusedVariables false
attribute [local go_sem] cell_rg

set_option maxHeartbeats 4000000 in
theorem walk (n f d p r dr o sl md fr : Int) (ad : Option Addr) (cap : Nat) (zs : List Int) (s : ByteArray) (w : World) (hl : zs.length ≤ 9223372036854775807) (hT : Tab w ad zs) (hs0 : s.size ≤ maxLen) :
    Calls Try.prog 4 #[.agg #[.int .i64 n, .int .i64 f, .int .i64 d, .int .i64 p, .int .i64 r, .int .i64 dr, .int .i64 o, .int .i64 sl, .int .i64 md, .int .i64 fr, .slice ad zs.length cap], .string s] w fun e w' => e = .returned (.bool true) ∧ Below w.heap.size w w' := by
  have hs : s.size ≤ 9223372036854775807 := hs0
  have HT := hidden (hT.below (ballc w (.cells #[.int .i64 n, .int .i64 f, .int .i64 d, .int .i64 p, .int .i64 r, .int .i64 dr, .int .i64 o, .int .i64 sl, .int .i64 md, .int .i64 fr, .slice ad zs.length cap] 24)))
  have C1 := fun V h => Decode_any n f d p r dr o sl md fr ad cap zs s V hl h hs
  have C2 := fun V h => rDecode_any n f d p r dr o sl md fr ad cap zs s V hl h hs
  rw [dec_eq s (fun h => by have := conf_caps h; omega)] at C2
  generalize decP (plainE n f d p r dr o sl md fr zs) (3 * (f + 1)) (8 + n) zs.length md s = X at *
  obtain ⟨⟨gv, ge, gw, gs, gc, gt⟩, X2⟩ := X
  dsimp only at *
  clear hT hs0 hs
  go_enter Try.func4, Try.ntmps4
  go_wp2_with fail
  refine (C1 _ HT.out).mono ?_
  rintro e w1 ⟨rfl, hb⟩
  have HB1 := hidden hb
  obtain ⟨hbox, hsz⟩ := box_at hb
  clear hb C1
  go_wp2_with fail
  refine (C2 _ (HT.out.below (bthen HB1.out (ballc _ _)))).mono ?_
  rintro e w2 ⟨rfl, hb⟩
  have kp := blk_cell (blk_new hb)
  have hs2 : w1.heap.size < w2.heap.size := by have := hb.size; simp at this; omega
  have HB2 := hidden (bthen HB1.out (bthen (ballc _ _) hb))
  clear hb C2 HB1 hbox hsz
  go_wp2_with fail
  refine (known11_any _).mono ?_
  rintro e w3 ⟨rfl, hb⟩
  have HB3 := hidden (bthen (ballc w _) (bthen HB2.out (bthen (ballc _ _) hb)))
  clear hb
  go_wp2
  go_ret
  exact ⟨rfl, HB3.out⟩
end Go.Proofs.Ytcnmbpgjgjncdaa.LawWireReads
