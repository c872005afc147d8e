/- The walk of the statement WireBack: the call returns true, and makes at most new memory; conditions: the table lies where it says, lengths fit int. -/
import Derived.Test.YtcnmbpgjgjncdaaWireK
import Derived.Test.YtcnmbpgjgjncdaaPacQ
namespace Go.Proofs.Ytcnmbpgjgjncdaa.LawWireBack
open Go.ChangeShapes Go.WideShapes Go.ChangeAt Go.RowKit
set_option linter.unusedVariables false
attribute [local go_sem] cell_rg

set_option maxHeartbeats 4000000 in
theorem walk (n f d p r dr o sl md fr : Int) (ad : Option Addr) (cap : Nat) (zs : List Int) (vo : ByteArray) (ex : Int) (ve : ByteArray) (ps cy : Int) (te : ByteArray) (w : World) (hl : zs.length ≤ 9223372036854775807) (hT : Tab w ad zs) (sv : vo.size ≤ 9223372036854775807) (kx : (Lit.int .i64 ex).wf = true) (se : ve.size ≤ 9223372036854775807) (kp : (Lit.int .i64 ps).wf = true) (kc : (Lit.int .i64 cy).wf = true) (st : te.size ≤ 9223372036854775807) :
    Calls Try.prog 5 #[.agg #[.int .i64 n, .int .i64 f, .int .i64 d, .int .i64 p, .int .i64 r, .int .i64 dr, .int .i64 o, .int .i64 sl, .int .i64 md, .int .i64 fr, .slice ad zs.length cap], .agg #[.string vo, .int .i64 ex, .string ve, .int .i64 ps, .int .i64 cy, .string te]] w fun e w' => e = .returned (.bool true) ∧ Below w.heap.size w w' := by
  have HT := hidden (hT.below (bthen (ballc w (.cells #[.int .i64 n, .int .i64 f, .int .i64 d, .int .i64 p, .int .i64 r, .int .i64 dr, .int .i64 o, .int .i64 sl, .int .i64 md, .int .i64 fr, .slice ad zs.length cap] 24)) (ballc _ (.cells #[.string vo, .int .i64 ex, .string ve, .int .i64 ps, .int .i64 cy, .string te] 26))))
  have HW0 := hidden (bthen (ballc w (.cells #[.int .i64 n, .int .i64 f, .int .i64 d, .int .i64 p, .int .i64 r, .int .i64 dr, .int .i64 o, .int .i64 sl, .int .i64 md, .int .i64 fr, .slice ad zs.length cap] 24)) (ballc _ (.cells #[.string vo, .int .i64 ex, .string ve, .int .i64 ps, .int .i64 cy, .string te] 26)))
  have C1 := fun V h => Encode_any n f d p r dr o sl md fr ad cap zs ⟨vo, ex, ve, ps, cy, te⟩ V hl h sv se st
  have C3 := fun V h => Size_any n f d p r dr o sl md fr ad cap zs ⟨vo, ex, ve, ps, cy, te⟩ V hl h sv se st
  have C5 := fun V h => rRight_any n f d p r dr o sl md fr ad cap zs vo ex ve ps cy te V hl h sv se st
  have hcap := fun h => conf_caps (n := n) (f := f) (d := d) (p := p) (r := r) (dr := dr) (o := o) (sl := sl) (md := md) (fr := fr) (zs := zs) h
  have hK : pRight (plainE n f d p r dr o sl md fr zs) (3 * (f + 1)) (8 + n) zs.length md vo ex ve ps cy te = pkR (plainE n f d p r dr o sl md fr zs) (3 * (f + 1)) (8 + n) zs.length md ⟨vo, ex, ve, ps, cy, te⟩ := rfl
  rw [hK] at C5
  by_cases hX : pkR (plainE n f d p r dr o sl md fr zs) (3 * (f + 1)) (8 + n) zs.length md ⟨vo, ex, ve, ps, cy, te⟩ = 0
  · have hs40 : (sealB ⟨vo, ex, ve, ps, cy, te⟩).size ≤ 40 := by
      have := hcap (pkR_E hX)
      exact (seal_size (rightP_of hX (by omega) (by omega) (by omega)) (by omega) (by omega)).1
    have C6 := fun V h => Decode_any n f d p r dr o sl md fr ad cap zs (sealB ⟨vo, ex, ve, ps, cy, te⟩) V hl h (by omega)
    rw [dec_enc hX (fun h => by have := hcap h; omega)] at C6
    have hen : encF (plainE n f d p r dr o sl md fr zs) (3 * (f + 1)) (8 + n) zs.length md ⟨vo, ex, ve, ps, cy, te⟩ = (sealB ⟨vo, ex, ve, ps, cy, te⟩, 0) := if_pos hX
    rw [hen] at C1 C3
    rw [hX] at C5
    generalize sealB ⟨vo, ex, ve, ps, cy, te⟩ = SB at *
    dsimp only at *
    have j40 : (SB.size : Int) ≤ 40 := by omega
    have j40' : decide ((SB.size : Int) ≤ 40) = true := by simp; omega
    clear hT hcap hK hX hen
    go_enter Try.func5, Try.ntmps5
    go_wp2_with fail
    refine (C5 _ HT.out).mono ?_
    rintro e w1 ⟨rfl, hb⟩
    have HB1 := hidden hb
    obtain ⟨hbox, hbox2, hsz0, hsz⟩ := box_two HB1.out
    clear hb C5
    go_wp2_with fail
    refine (C1 _ (HT.out.below HB1.out)).mono ?_
    rintro e w2 ⟨rfl, hb⟩
    have HB2 := hidden (bthen HB1.out hb)
    clear hb C1 HB1 hbox hbox2 hsz0 hsz
    obtain ⟨hbox, hbox2, hsz0, hsz⟩ := box_two HB2.out
    go_wp2_with fail
    refine (C6 _ (HT.out.below HB2.out)).mono ?_
    rintro e w3 ⟨rfl, hb⟩
    have HB3 := hidden (bthen HB2.out hb)
    clear hb C6 HB2 hbox hbox2 hsz0 hsz
    obtain ⟨hbox, hbox2, hsz0, hsz⟩ := box_two HB3.out
    go_wp2_with fail
    refine (C3 _ (HT.out.below (bthen HB3.out (ballc _ _)))).mono ?_
    rintro e w4 ⟨rfl, hb⟩
    have HB4 := hidden (bthen HB3.out (bthen (ballc _ _) hb))
    clear hb C3 HB3 hbox hbox2 hsz0 hsz
    go_wp2_with fail
    refine (known11_any _).mono ?_
    rintro e w5 ⟨rfl, hb⟩
    have HB5 := hidden (bthen HW0.out (bthen HB4.out hb))
    clear hb
    go_wp2
    go_ret
    exact ⟨rfl, HB5.out⟩
  · have hen : encF (plainE n f d p r dr o sl md fr zs) (3 * (f + 1)) (8 + n) zs.length md ⟨vo, ex, ve, ps, cy, te⟩ = (⟨#[]⟩, pkR (plainE n f d p r dr o sl md fr zs) (3 * (f + 1)) (8 + n) zs.length md ⟨vo, ex, ve, ps, cy, te⟩) := if_neg hX
    rw [hen] at C1 C3
    generalize pkR (plainE n f d p r dr o sl md fr zs) (3 * (f + 1)) (8 + n) zs.length md ⟨vo, ex, ve, ps, cy, te⟩ = X at *
    dsimp only at *
    have hX' : (X != 0) = true := by simp [hX]
    have j0 : (({ data := #[] } : ByteArray).size : Int) = 0 := rfl
    rw [j0] at C3
    clear hT hcap hK hX hen j0
    go_enter Try.func5, Try.ntmps5
    go_wp2_with fail
    refine (C5 _ HT.out).mono ?_
    rintro e w1 ⟨rfl, hb⟩
    have HB1 := hidden hb
    obtain ⟨hbox, hbox2, hsz0, hsz⟩ := box_two HB1.out
    clear hb
    go_wp2_with fail
    refine (C1 _ (HT.out.below HB1.out)).mono ?_
    rintro e w2 ⟨rfl, hb⟩
    have HB2 := hidden (bthen HB1.out hb)
    clear hb C1 HB1 hbox hbox2 hsz0 hsz
    obtain ⟨hbox, hbox2, hsz0, hsz⟩ := box_two HB2.out
    go_wp2_with fail
    refine (C5 _ (HT.out.below HB2.out)).mono ?_
    rintro e w3 ⟨rfl, hb⟩
    have HB3 := hidden (bthen HB2.out hb)
    clear hb C5 HB2 hbox hbox2 hsz0 hsz
    obtain ⟨hbox, hbox2, hsz0, hsz⟩ := box_two HB3.out
    go_wp2_with fail
    refine (C3 _ (HT.out.below HB3.out)).mono ?_
    rintro e w4 ⟨rfl, hb⟩
    have HB4 := hidden (bthen HB3.out hb)
    clear hb C3 HB3 hbox hbox2 hsz0 hsz
    go_wp2_with fail
    refine (known11_any _).mono ?_
    rintro e w5 ⟨rfl, hb⟩
    have HB5 := hidden (bthen HW0.out (bthen HB4.out hb))
    clear hb
    go_wp2
    go_ret
    exact ⟨rfl, HB5.out⟩
end Go.Proofs.Ytcnmbpgjgjncdaa.LawWireBack
