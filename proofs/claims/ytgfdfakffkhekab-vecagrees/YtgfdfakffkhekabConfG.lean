/- The document's Rounds, Length and Bits return what they say, of what is plain, else 0, and make at most new memory; conditions: the table lies where it says, and its length fits int. -/
import Derived.Test.YtgfdfakffkhekabConfRef
import Derived.Test.YtgfdfakffkhekabConfF
namespace Go.Proofs.Ytgfdfakffkhekab
open Go.ChangeShapes Go.WideShapes Go.ChangeAt Go.RowKit
set_option linter.unusedVariables false

theorem refRounds_any (n f d p r dr o sl md fr : Int) (ad : Option Addr) (cap : Nat) (zs : List Int) (w : World) (hl : zs.length ≤ 9223372036854775807) (hT : Tab w ad zs) :
    Calls Try.prog 10 #[.agg #[.int .i64 n, .int .i64 f, .int .i64 d, .int .i64 p, .int .i64 r, .int .i64 dr, .int .i64 o, .int .i64 sl, .int .i64 md, .int .i64 fr, .slice ad zs.length cap]] w fun e w' => e = .returned (.int .i64 (gate (plainE n f d p r dr o sl md fr zs) (3 * (f + 1)))) ∧ Below w.heap.size w w' := by
  have HQ := hidden (refPlain_any n f d p r dr o sl md fr ad cap zs (w.alloc (.cells #[.int .i64 n, .int .i64 f, .int .i64 d, .int .i64 p, .int .i64 r, .int .i64 dr, .int .i64 o, .int .i64 sl, .int .i64 md, .int .i64 fr, .slice ad zs.length cap] 24)) hl (hT.below (ballc _ _)))
  have HK := hidden (fun h => plainE_ok (n := n) (f := f) (d := d) (p := p) (r := r) (dr := dr) (o := o) (sl := sl) (md := md) (fr := fr) (zs := zs) h)
  clear hT
  generalize plainE n f d p r dr o sl md fr zs = E at HQ HK
  by_cases hE : E = 0
  · subst hE
    obtain ⟨n1, n2, f1, f2, _, d1, d2, _⟩ := HK.out rfl
    have hm0 : 0 ≤ 3 * (f + 1) * d := Int.mul_nonneg (by omega) (by omega)
    have hm1 : 3 * (f + 1) * d ≤ 15 * 4 := Int.mul_le_mul (by omega) d2 (by omega) (by omega)
    go_enter Try.func10, Try.ntmps10
    go_wp2_with fail
    refine HQ.out.mono ?_
    rintro e w2 ⟨rfl, hb2⟩
    have HB2 : Hid (Below w.heap.size w w2) := bthen (ballc w _) hb2
    obtain ⟨hbox, hsz⟩ := box_at hb2
    clear hb2 HQ HK
    go_wp2
    go_ret
    exact ⟨ret_i (gate_ok _).symm, HB2.out⟩
  · go_enter Try.func10, Try.ntmps10
    go_wp2_with fail
    refine HQ.out.mono ?_
    rintro e w2 ⟨rfl, hb2⟩
    have HB2 : Hid (Below w.heap.size w w2) := bthen (ballc w _) hb2
    clear hb2 HQ HK
    go_wp2
    go_ret
    exact ⟨ret_i (gate_no hE _).symm, HB2.out⟩
end Go.Proofs.Ytgfdfakffkhekab
