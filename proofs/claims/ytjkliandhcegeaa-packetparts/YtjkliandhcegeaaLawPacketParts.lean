/- The walk of the statement PacketParts: the call returns true, and makes at most new memory; conditions: the table lies where it says, lengths fit int. -/
import Derived.Test.YtjkliandhcegeaaPacK
import Derived.Test.YtjkliandhcegeaaPacB
namespace Go.Proofs.Ytjkliandhcegeaa.LawPacketParts
open Go.ChangeShapes Go.WideShapes Go.ChangeAt Go.RowKit
set_option linter.unusedVariables false
attribute [local go_sem] cell_rg

set_option maxHeartbeats 4000000 in
theorem walk (n f d p r dr o sl md fr : Int) (ad : Option Addr) (cap : Nat) (zs : List Int) (vo : ByteArray) (ex : Int) (ve : ByteArray) (ps cy : Int) (te : ByteArray) (x k : Int) (w : World) (hl : zs.length ≤ 9223372036854775807) (hT : Tab w ad zs) (sv : vo.size ≤ 9223372036854775807) (kx : (Lit.int .i64 ex).wf = true) (se : ve.size ≤ 9223372036854775807) (kp : (Lit.int .i64 ps).wf = true) (kc : (Lit.int .i64 cy).wf = true) (st : te.size ≤ 9223372036854775807)
    (hx : -9223372036854775808 ≤ x ∧ x ≤ 9223372036854775807) (hk : -9223372036854775808 ≤ k ∧ k ≤ 9223372036854775807) :
    Calls Try.prog 7 #[.agg #[.int .i64 n, .int .i64 f, .int .i64 d, .int .i64 p, .int .i64 r, .int .i64 dr, .int .i64 o, .int .i64 sl, .int .i64 md, .int .i64 fr, .slice ad zs.length cap], .agg #[.string vo, .int .i64 ex, .string ve, .int .i64 ps, .int .i64 cy, .string te], .int .i64 x, .int .i64 k] w fun e w' => e = .returned (.bool true) ∧ Below w.heap.size w w' := by
  have HT := hidden (hT.below (bthen (ballc w (.cells #[.int .i64 n, .int .i64 f, .int .i64 d, .int .i64 p, .int .i64 r, .int .i64 dr, .int .i64 o, .int .i64 sl, .int .i64 md, .int .i64 fr, .slice ad zs.length cap] 36)) (ballc _ (.cells #[.string vo, .int .i64 ex, .string ve, .int .i64 ps, .int .i64 cy, .string te] 38))))
  have HW0 := hidden (bthen (ballc w (.cells #[.int .i64 n, .int .i64 f, .int .i64 d, .int .i64 p, .int .i64 r, .int .i64 dr, .int .i64 o, .int .i64 sl, .int .i64 md, .int .i64 fr, .slice ad zs.length cap] 36)) (ballc _ (.cells #[.string vo, .int .i64 ex, .string ve, .int .i64 ps, .int .i64 cy, .string te] 38)))
  have C1 := fun V h => Blank_any n f d p r dr o sl md fr ad cap zs V hl h
  have C2 := fun V h => rBlank_any n f d p r dr o sl md fr ad cap zs V hl h
  have C3 := fun V => Vote_any vo ex ve ps cy te x V sv
  have C4 := fun V => rVote_any vo ex ve ps cy te x V sv
  have C5 := fun V => Bit_any vo ex ve ps cy te x k V se
  have C6 := fun V => rBit_any vo ex ve ps cy te x k V se
  have C7 := fun V => Strip_any vo ex ve ps cy te V
  have C8 := fun V => rStrip_any vo ex ve ps cy te V
  have C9 := fun V => Carry_any vo ex ve ps cy te x k vo V
  have C0 := fun V => rCarry_any vo ex ve ps cy te x k vo V
  generalize zerosB (gate (plainE n f d p r dr o sl md fr zs) (3 * (f + 1))).toNat = Z at C1 C2
  generalize dgAt vo x = D at C3 C4
  generalize bitF ex ve x k = B at C5 C6
  generalize carS x = S at C9 C0
  generalize carC x k = K at C9 C0
  generalize carT x vo = T at C9 C0
  clear hT hx hk
  go_enter Try.func7, Try.ntmps7
  go_wp2
  refine wp_region_quiet_below (by kernel_rfl) (by kernel_rfl) ?_
  repeat (go_big_quiet_step (first
    | (go_at_call 23; exact Calls.regrown_of (C1 _ (HT.out.below (below_regrown _ _ _))))
    | (go_at_call 24; exact Calls.regrown_of (C2 _ (HT.out.below (below_regrown _ _ _))))
    | (go_at_call 25; exact Calls.regrown_of (C3 _))
    | (go_at_call 26; exact Calls.regrown_of (C4 _))
    | (go_at_call 27; exact Calls.regrown_of (C5 _))
    | (go_at_call 28; exact Calls.regrown_of (C6 _))
    | (go_at_call 29; exact Calls.regrown_of (C7 _))
    | (go_at_call 30; exact Calls.regrown_of (C8 _))
    | (go_at_call 31; exact Calls.regrown_of (C9 _))
    | (go_at_call 32; exact Calls.regrown_of (C0 _))
    | (go_at_call 22; exact Calls.regrown_of (known10_any _))))
  refine wpQuiet_nil ?_
  intro w2 hw2
  have HB2 : Hid (Below w.heap.size w w2) := bthen HW0.out (rg_below hw2)
  clear hw2
  go_wp2
  go_ret
  exact ⟨rfl, HB2.out⟩
end Go.Proofs.Ytjkliandhcegeaa.LawPacketParts
