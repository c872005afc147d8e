/- The walk of the statement WireOnly: the call returns true, and makes at most new memory; conditions: the table lies where it says, lengths fit int. -/
import Derived.Test.YtcnmbpgjgjncdaaWireK
import Derived.Test.YtcnmbpgjgjncdaaPacQ
namespace Go.Proofs.Ytcnmbpgjgjncdaa.LawWireOnly
open Go.ChangeShapes Go.WideShapes Go.ChangeAt Go.RowKit
set_option linter.unusedVariables false
attribute [local go_sem] cell_rg

set_option maxHeartbeats 4000000 in
theorem walk (n f d p r dr o sl md fr : Int) (ad : Option Addr) (cap : Nat) (zs : List Int) (s : ByteArray) (w : World) (hl : zs.length ≤ 9223372036854775807) (hT : Tab w ad zs) (hs0 : s.size ≤ maxLen) :
    Calls Try.prog 6 #[.agg #[.int .i64 n, .int .i64 f, .int .i64 d, .int .i64 p, .int .i64 r, .int .i64 dr, .int .i64 o, .int .i64 sl, .int .i64 md, .int .i64 fr, .slice ad zs.length cap], .string s] w fun e w' => e = .returned (.bool true) ∧ Below w.heap.size w w' := by
  have hs : s.size ≤ 9223372036854775807 := hs0
  have HT := hidden (hT.below (ballc w (.cells #[.int .i64 n, .int .i64 f, .int .i64 d, .int .i64 p, .int .i64 r, .int .i64 dr, .int .i64 o, .int .i64 sl, .int .i64 md, .int .i64 fr, .slice ad zs.length cap] 24)))
  have C1 := fun V h => Decode_any n f d p r dr o sl md fr ad cap zs s V hl h hs
  by_cases hX : (decP (plainE n f d p r dr o sl md fr zs) (3 * (f + 1)) (8 + n) zs.length md s).2 = 0
  · obtain ⟨h1, h2⟩ := dec_only hX
    have hcap := conf_caps (pkR_E h1)
    have hp := rightP_of h1 (by omega) (by omega) (by omega)
    have z1 : (decP (plainE n f d p r dr o sl md fr zs) (3 * (f + 1)) (8 + n) zs.length md s).1.vo.size ≤ 9223372036854775807 := by have := hp.vl; rw [bl_length] at this; omega
    have z2 : (decP (plainE n f d p r dr o sl md fr zs) (3 * (f + 1)) (8 + n) zs.length md s).1.ve.size ≤ 9223372036854775807 := by
      by_cases hx : (decP (plainE n f d p r dr o sl md fr zs) (3 * (f + 1)) (8 + n) zs.length md s).1.ex = 0
      · rw [hp.ez hx]; decide
      · have := hp.vb hx; rw [bl_length] at this; omega
    have z3 : (decP (plainE n f d p r dr o sl md fr zs) (3 * (f + 1)) (8 + n) zs.length md s).1.te.size ≤ 9223372036854775807 := by have := hp.te; omega
    have C2 := fun V h => Encode_any n f d p r dr o sl md fr ad cap zs (decP (plainE n f d p r dr o sl md fr zs) (3 * (f + 1)) (8 + n) zs.length md s).1 V hl h z1 z2 z3
    have C3 := fun V h => rRight_any n f d p r dr o sl md fr ad cap zs (decP (plainE n f d p r dr o sl md fr zs) (3 * (f + 1)) (8 + n) zs.length md s).1.vo (decP (plainE n f d p r dr o sl md fr zs) (3 * (f + 1)) (8 + n) zs.length md s).1.ex (decP (plainE n f d p r dr o sl md fr zs) (3 * (f + 1)) (8 + n) zs.length md s).1.ve (decP (plainE n f d p r dr o sl md fr zs) (3 * (f + 1)) (8 + n) zs.length md s).1.ps (decP (plainE n f d p r dr o sl md fr zs) (3 * (f + 1)) (8 + n) zs.length md s).1.cy (decP (plainE n f d p r dr o sl md fr zs) (3 * (f + 1)) (8 + n) zs.length md s).1.te V hl h z1 z2 z3
    have hK : pRight (plainE n f d p r dr o sl md fr zs) (3 * (f + 1)) (8 + n) zs.length md (decP (plainE n f d p r dr o sl md fr zs) (3 * (f + 1)) (8 + n) zs.length md s).1.vo (decP (plainE n f d p r dr o sl md fr zs) (3 * (f + 1)) (8 + n) zs.length md s).1.ex (decP (plainE n f d p r dr o sl md fr zs) (3 * (f + 1)) (8 + n) zs.length md s).1.ve (decP (plainE n f d p r dr o sl md fr zs) (3 * (f + 1)) (8 + n) zs.length md s).1.ps (decP (plainE n f d p r dr o sl md fr zs) (3 * (f + 1)) (8 + n) zs.length md s).1.cy (decP (plainE n f d p r dr o sl md fr zs) (3 * (f + 1)) (8 + n) zs.length md s).1.te = pkR (plainE n f d p r dr o sl md fr zs) (3 * (f + 1)) (8 + n) zs.length md (decP (plainE n f d p r dr o sl md fr zs) (3 * (f + 1)) (8 + n) zs.length md s).1 := rfl
    have hen : encF (plainE n f d p r dr o sl md fr zs) (3 * (f + 1)) (8 + n) zs.length md (decP (plainE n f d p r dr o sl md fr zs) (3 * (f + 1)) (8 + n) zs.length md s).1 = (s, 0) := by
      unfold encF
      rw [if_pos h1, h2]
    rw [hK, h1] at C3
    rw [hen] at C2
    rw [hX] at C1
    clear hK hen h1 h2 hp z1 z2 z3 hcap hX
    generalize (decP (plainE n f d p r dr o sl md fr zs) (3 * (f + 1)) (8 + n) zs.length md s).1 = X at *
    obtain ⟨gv, ge, gw, gs, gc, gt⟩ := X
    dsimp only at *
    have i1 : (s.toList == s.toList) = true := by simp
    clear hT hs0
    go_enter Try.func6, Try.ntmps6
    go_wp2_with fail
    refine (C1 _ HT.out).mono ?_
    rintro e w1 ⟨rfl, hb⟩
    have HB1 := hidden hb
    obtain ⟨hbox, hsz⟩ := box_at hb
    clear hb C1
    go_wp2_with fail
    refine (C2 _ (HT.out.below (bthen HB1.out (ballc _ _)))).mono ?_
    rintro e w2 ⟨rfl, hb⟩
    have kp := blk_cell (blk_new hb)
    have HB2 := hidden (bthen HB1.out (bthen (ballc _ _) hb))
    clear hb C2 hbox hsz
    obtain ⟨hbox, hsz⟩ := box_at HB2.out
    go_wp2_with fail
    refine (C3 _ (HT.out.below HB2.out)).mono ?_
    rintro e w3 ⟨rfl, hb⟩
    have HB3 := hidden (bthen HB2.out hb)
    clear hb C3 HB2 HB1 hbox hsz kp
    go_wp2_with fail
    refine (known11_any _).mono ?_
    rintro e w4 ⟨rfl, hb⟩
    have HB4 := hidden (bthen (ballc w _) (bthen HB3.out hb))
    clear hb
    go_wp2
    go_ret
    exact ⟨rfl, HB4.out⟩
  · have h1 := dec_no hX
    rw [h1] at C1
    generalize (decP (plainE n f d p r dr o sl md fr zs) (3 * (f + 1)) (8 + n) zs.length md s).2 = X at *
    dsimp only [pk0] at C1
    have hX' : (X != 0) = true := by simp [hX]
    clear hT hs0 h1 hX
    go_enter Try.func6, Try.ntmps6
    go_wp2_with fail
    refine (C1 _ HT.out).mono ?_
    rintro e w1 ⟨rfl, hb⟩
    have HB1 := hidden hb
    clear hb C1
    go_wp2_with fail
    refine (known11_any _).mono ?_
    rintro e w2 ⟨rfl, hb⟩
    have HB2 := hidden (bthen (ballc w _) (bthen HB1.out (bthen (ballc _ _) hb)))
    clear hb
    go_wp2
    go_ret
    exact ⟨rfl, HB2.out⟩
end Go.Proofs.Ytcnmbpgjgjncdaa.LawWireOnly
