/- The calls Encode and Size of package wire return what plain functions give, and make at most new memory; conditions: the table lies where it says, and lengths fit int. -/
import Derived.Test.YtcnmbpgjgjncdaaWireB
import Derived.Test.YtcnmbpgjgjncdaaPacR
import Derived.Test.YtcnmbpgjgjncdaaConfK
namespace Go.Proofs.Ytcnmbpgjgjncdaa
open Go.ChangeShapes Go.WideShapes Go.ChangeAt Go.RowKit
set_option linter.unusedVariables false

/-- A packet's bytes, and why there are none. -/
def encF (E R B L M : Int) (p : Pk) : ByteArray × Int := if pkR E R B L M p = 0 then (sealB p, 0) else (⟨#[]⟩, pkR E R B L M p)
theorem conf_caps {n f d p r dr o sl md fr : Int} {zs : List Int} (h : plainE n f d p r dr o sl md fr zs = 0) : 0 ≤ 3 * (f + 1) ∧ 3 * (f + 1) ≤ 15 ∧ 0 ≤ 8 + n ∧ 8 + n ≤ 21 ∧ (zs.length : Int) ≤ 255 ∧ md ≤ 256 := by
  obtain ⟨h1, h2, h3, h4, h5, h6, h7, h8, h9, h10, h11, h12, h13, h14, h15, h16, h17, h18, h19, h20, h21, h22, h23, h24⟩ := plainE_ok h
  omega
theorem pkR_E {E R B L M : Int} {p : Pk} (h : pkR E R B L M p = 0) : E = 0 := (pr_ok _ _ _ _ _ _ h).1
set_option maxHeartbeats 2000000 in
theorem Encode_any (n f d p r dr o sl md fr : Int) (ad : Option Addr) (cap : Nat) (zs : List Int) (q : Pk) (w : World) (hl : zs.length ≤ 9223372036854775807) (hT : Tab w ad zs) (sv : q.vo.size ≤ 9223372036854775807) (se : q.ve.size ≤ 9223372036854775807) (st : q.te.size ≤ 9223372036854775807) :
    Calls Try.prog 9 #[.agg #[.int .i64 n, .int .i64 f, .int .i64 d, .int .i64 p, .int .i64 r, .int .i64 dr, .int .i64 o, .int .i64 sl, .int .i64 md, .int .i64 fr, .slice ad zs.length cap], .agg #[.string q.vo, .int .i64 q.ex, .string q.ve, .int .i64 q.ps, .int .i64 q.cy, .string q.te]] w fun e w' => e = .returned (.tuple #[.string (encF (plainE n f d p r dr o sl md fr zs) (3 * (f + 1)) (8 + n) zs.length md q).1, .int .i64 (encF (plainE n f d p r dr o sl md fr zs) (3 * (f + 1)) (8 + n) zs.length md q).2]) ∧ Below w.heap.size w w' := by
  have HT := hidden (hT.below (bthen (ballc w (.cells #[.int .i64 n, .int .i64 f, .int .i64 d, .int .i64 p, .int .i64 r, .int .i64 dr, .int .i64 o, .int .i64 sl, .int .i64 md, .int .i64 fr, .slice ad zs.length cap] 24)) (ballc _ (.cells #[.string q.vo, .int .i64 q.ex, .string q.ve, .int .i64 q.ps, .int .i64 q.cy, .string q.te] 26))))
  have C1 := fun V h => Right_any n f d p r dr o sl md fr ad cap zs q.vo q.ex q.ve q.ps q.cy q.te V hl h sv se st
  have hE : ∀ x, x = pkR (plainE n f d p r dr o sl md fr zs) (3 * (f + 1)) (8 + n) zs.length md q → encF (plainE n f d p r dr o sl md fr zs) (3 * (f + 1)) (8 + n) zs.length md q = if x = 0 then (sealB q, 0) else (⟨#[]⟩, x) := fun x hx => by subst hx; rfl
  have hcap := fun h => conf_caps (n := n) (f := f) (d := d) (p := p) (r := r) (dr := dr) (o := o) (sl := sl) (md := md) (fr := fr) (zs := zs) h
  have hrp : pkR (plainE n f d p r dr o sl md fr zs) (3 * (f + 1)) (8 + n) zs.length md q = 0 → ∃ R B, R ≤ 15 ∧ B ≤ 21 ∧ RightP R B q := fun h => by
    have := hcap (pkR_E h)
    exact ⟨_, _, by omega, by omega, rightP_of h (by omega) (by omega) (by omega)⟩
  rw [show pRight (plainE n f d p r dr o sl md fr zs) (3 * (f + 1)) (8 + n) zs.length md q.vo q.ex q.ve q.ps q.cy q.te = pkR (plainE n f d p r dr o sl md fr zs) (3 * (f + 1)) (8 + n) zs.length md q from rfl] at C1
  rw [hE _ rfl]
  generalize pkR (plainE n f d p r dr o sl md fr zs) (3 * (f + 1)) (8 + n) zs.length md q = X at *
  clear hE hcap hT
  by_cases hX : X = 0
  · obtain ⟨R, B, hR, hB, hP⟩ := hrp hX
    have C2 := fun V => unsealed_any q V hP (by omega) (by omega)
    have C3 := fun V => seal_any (plainB q) V (by have := (seal_size hP hR hB).2; omega)
    have hs : (.string (plainB q ++ tailOf (plainB q)) : Value) = .string (sealB q) := rfl
    have C4 := fun V => Calls.ret_to (C3 V) hs
    clear C3 hs hrp hP sv se st
    rw [if_pos hX]
    subst hX
    obtain ⟨vo, ex, ve, ps, cy, te⟩ := q
    dsimp only at *
    generalize plainB ⟨vo, ex, ve, ps, cy, te⟩ = PB at *
    generalize sealB ⟨vo, ex, ve, ps, cy, te⟩ = SB at *
    go_enter Try.func9, Try.ntmps9
    go_wp2_with fail
    refine (C1 _ HT.out).mono ?_
    rintro e w1 ⟨rfl, hb⟩
    obtain ⟨hbox, hbox2, hsz0, hsz⟩ := box_two hb
    have HB := hidden (bthen (bthen (ballc w _) (ballc _ _)) hb)
    clear hb C1
    go_wp2_with fail
    refine (C2 _).mono ?_
    rintro e w2 ⟨rfl, hb⟩
    have HB2 := hidden (bthen HB.out hb)
    clear hb HB hbox hbox2 hsz0 hsz
    go_wp2_with fail
    refine (C4 _).mono ?_
    rintro e w3 ⟨rfl, hb⟩
    go_wp2
    go_ret2
    exact ⟨rfl, bthen HB2.out hb⟩
  · rw [if_neg hX]
    clear hrp
    have hX' : (X != 0) = true := by simp [hX]
    obtain ⟨vo, ex, ve, ps, cy, te⟩ := q
    dsimp only at *
    go_enter Try.func9, Try.ntmps9
    go_wp2_with fail
    refine (C1 _ HT.out).mono ?_
    rintro e w1 ⟨rfl, hb⟩
    have HB := hidden (bthen (bthen (ballc w _) (ballc _ _)) hb)
    clear hb C1
    go_wp2
    go_ret2
    exact ⟨rfl, HB.out⟩
set_option maxHeartbeats 1000000 in
theorem Size_any (n f d p r dr o sl md fr : Int) (ad : Option Addr) (cap : Nat) (zs : List Int) (q : Pk) (w : World) (hl : zs.length ≤ 9223372036854775807) (hT : Tab w ad zs) (sv : q.vo.size ≤ 9223372036854775807) (se : q.ve.size ≤ 9223372036854775807) (st : q.te.size ≤ 9223372036854775807) :
    Calls Try.prog 11 #[.agg #[.int .i64 n, .int .i64 f, .int .i64 d, .int .i64 p, .int .i64 r, .int .i64 dr, .int .i64 o, .int .i64 sl, .int .i64 md, .int .i64 fr, .slice ad zs.length cap], .agg #[.string q.vo, .int .i64 q.ex, .string q.ve, .int .i64 q.ps, .int .i64 q.cy, .string q.te]] w fun e w' => e = .returned (.int .i64 ((encF (plainE n f d p r dr o sl md fr zs) (3 * (f + 1)) (8 + n) zs.length md q).1.size : Int)) ∧ Below w.heap.size w w' := by
  have HT := hidden (hT.below (bthen (ballc w (.cells #[.int .i64 n, .int .i64 f, .int .i64 d, .int .i64 p, .int .i64 r, .int .i64 dr, .int .i64 o, .int .i64 sl, .int .i64 md, .int .i64 fr, .slice ad zs.length cap] 24)) (ballc _ (.cells #[.string q.vo, .int .i64 q.ex, .string q.ve, .int .i64 q.ps, .int .i64 q.cy, .string q.te] 26))))
  have C1 := fun V h => Encode_any n f d p r dr o sl md fr ad cap zs q V hl h sv se st
  generalize encF (plainE n f d p r dr o sl md fr zs) (3 * (f + 1)) (8 + n) zs.length md q = X at *
  obtain ⟨X1, X2⟩ := X
  obtain ⟨vo, ex, ve, ps, cy, te⟩ := q
  dsimp only at *
  clear hT
  go_enter Try.func11, Try.ntmps11
  go_wp2_with fail
  refine (C1 _ HT.out).mono ?_
  rintro e w1 ⟨rfl, hb⟩
  have HB := hidden (bthen (bthen (ballc w _) (ballc _ _)) hb)
  clear hb C1
  go_wp2
  go_ret
  exact ⟨rfl, HB.out⟩
end Go.Proofs.Ytcnmbpgjgjncdaa
