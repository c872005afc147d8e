/- The call Bits of package conf returns what the document says, of what is plain, else 0, and makes at most new memory; conditions: the table lies where it says, and its length fits int. -/
import Derived.Test.YtcnmbpgjgjncdaaConfF
namespace Go.Proofs.Ytcnmbpgjgjncdaa
open Go.ChangeShapes Go.WideShapes Go.ChangeAt Go.RowKit
set_option linter.unusedVariables false

theorem Bits_any (n f d p r dr o sl md fr : Int) (ad : Option Addr) (cap : Nat) (zs : List Int) (w : World) (hl : zs.length ≤ 9223372036854775807) (hT : Tab w ad zs) :
    Calls Try.prog 32 #[.agg #[.int .i64 n, .int .i64 f, .int .i64 d, .int .i64 p, .int .i64 r, .int .i64 dr, .int .i64 o, .int .i64 sl, .int .i64 md, .int .i64 fr, .slice ad zs.length cap]] w fun e w' => e = .returned (.int .i64 (gate (plainE n f d p r dr o sl md fr zs) (8 + n))) ∧ Below w.heap.size w w' := by
  have HG : Hid (gate (plainE n f d p r dr o sl md fr zs) (8 + n) = gate (plainE n f d p r dr o sl md fr zs) (wrap64 (8 + n))) := gate_congr fun h => by
    obtain ⟨h1, h2, _⟩ := plainE_ok h
    unfold wrap64; omega
  have HQ := hidden (ofPlain_any n f d p r dr o sl md fr ad cap zs (wrap64 (8 + n)) (w.alloc (.cells #[.int .i64 n, .int .i64 f, .int .i64 d, .int .i64 p, .int .i64 r, .int .i64 dr, .int .i64 o, .int .i64 sl, .int .i64 md, .int .i64 fr, .slice ad zs.length cap] 24)) hl (hT.below (ballc _ _)))
  clear hT
  go_enter Try.func32, Try.ntmps32
  go_wp2_with fail
  refine HQ.out.mono ?_
  rintro e w2 ⟨rfl, hb2⟩
  have HB2 : Hid (Below w.heap.size w w2) := bthen (ballc w _) hb2
  clear hb2 HQ
  go_wp2
  go_ret
  exact ⟨ret_i HG.out.symm, HB2.out⟩
end Go.Proofs.Ytcnmbpgjgjncdaa
