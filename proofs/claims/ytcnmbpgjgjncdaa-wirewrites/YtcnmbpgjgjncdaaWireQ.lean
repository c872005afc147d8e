/- The document's calls plain, Encode and Size for wires return what plain functions give, and make at most new memory; conditions: the packet is right as far as its bytes ask; the table lies where it says, and lengths fit int. -/
import Derived.Test.YtcnmbpgjgjncdaaWireP
namespace Go.Proofs.Ytcnmbpgjgjncdaa
open Go.ChangeShapes Go.WideShapes Go.ChangeAt Go.RowKit
set_option linter.unusedVariables false
attribute [local go_sem] cell_rg

theorem rn_00 {p : Pk} (hx : p.ex = 0) (hp : p.ps = 0) : ba [UInt8.ofNat (64 : Int).toNat] ++ ba (pkL (bl p.vo)) = ba (plainL p) := by
  rw [ba_append]
  simp [plainL, tagN, partL, msgL, hx, hp]
theorem rn_10 {p : Pk} (hx : ¬ p.ex = 0) (hp : p.ps = 0) : ba [UInt8.ofNat (65 : Int).toNat] ++ ba (pkL (bl p.vo)) ++ ba [UInt8.ofNat p.ex.toNat] ++ ba (pkL (bl p.ve)) = ba (plainL p) := by
  simp only [ba_append]
  simp [plainL, tagN, partL, msgL, hx, hp]
theorem rn_01 {p : Pk} (hx : p.ex = 0) (hp : ¬ p.ps = 0) : ba [UInt8.ofNat (66 : Int).toNat] ++ ba (pkL (bl p.vo)) ++ ba [UInt8.ofNat p.ps.toNat] ++ ba [UInt8.ofNat p.cy.toNat] ++ ba [UInt8.ofNat (p.te.size : Int).toNat] ++ p.te = ba (plainL p) := by
  have e := ba_bl p.te
  rw [← e]
  simp only [ba_append]
  rw [e]
  simp [plainL, tagN, partL, msgL, hx, hp]
theorem rn_11 {p : Pk} (hx : ¬ p.ex = 0) (hp : ¬ p.ps = 0) : ba [UInt8.ofNat (67 : Int).toNat] ++ ba (pkL (bl p.vo)) ++ ba [UInt8.ofNat p.ex.toNat] ++ ba (pkL (bl p.ve)) ++ ba [UInt8.ofNat p.ps.toNat] ++ ba [UInt8.ofNat p.cy.toNat] ++ ba [UInt8.ofNat (p.te.size : Int).toNat] ++ p.te = ba (plainL p) := by
  have e := ba_bl p.te
  rw [← e]
  simp only [ba_append]
  rw [e]
  simp [plainL, tagN, partL, msgL, hx, hp]
set_option maxHeartbeats 4000000 in
theorem rplain_any {R B : Nat} (p : Pk) (w : World) (h : RightP R B p) (hR : R ≤ 255) (hB : B ≤ 255) :
    Calls Try.prog 27 #[.agg #[.string p.vo, .int .i64 p.ex, .string p.ve, .int .i64 p.ps, .int .i64 p.cy, .string p.te]] w fun e w' => e = .returned (.string (plainB p)) ∧ Below w.heap.size w w' := by
  have l1 : p.vo.size ≤ 255 := by have := h.vl; rw [bl_length] at this; omega
  have l2 : p.ve.size ≤ 255 ∧ DigL (bl p.ve) := by
    by_cases hx : p.ex = 0
    · rw [h.ez hx]; exact ⟨by decide, fun b hb => by simp [bl] at hb⟩
    · have := h.vb hx; rw [bl_length] at this; exact ⟨by omega, h.ve hx⟩
  have l3 := h.te
  have C1 := fun W => rpack_any p.vo W h.vo (by omega)
  have C2 := fun W => rpack_any p.ve W l2.2 (by omega)
  have z1 := pk_size p.vo l1
  have z2 := pk_size p.ve l2.1
  have hone := one_size
  have e0 := h.e0
  have e1 := h.e1
  have s0 := h.s0
  have s1 := h.s1
  have c0 := h.c0
  have c1 := h.c1
  have HU00 := hidden (@rn_00 p)
  have HU10 := hidden (@rn_10 p)
  have HU01 := hidden (@rn_01 p)
  have HU11 := hidden (@rn_11 p)
  have HPB : Hid (plainB p = ba (plainL p)) := rfl
  generalize plainB p = PB at HPB ⊢
  generalize ba (plainL p) = PL at *
  obtain ⟨vo, ex, ve, ps, cy, te⟩ := p
  clear h
  dsimp only at *
  generalize ba (pkL (bl vo)) = V at *
  generalize ba (pkL (bl ve)) = P at *
  clear l1 l2
  by_cases hx : ex = 0
  · by_cases hp : ps = 0
    · have HU := hidden (HU00.out hx hp)
      have hx' : ¬ 0 < ex := by omega
      have hp' : ¬ 0 < ps := by omega
      clear hx hp HU00 HU10 HU01 HU11
      go_enter Try.func27, Try.ntmps27
      go_wp2
      refine wp_region_quiet_below (by kernel_rfl) (by kernel_rfl) ?_
      repeat (go_big_quiet_step (first | (go_at_call 51; exact Calls.regrown_of (rbyte_ba _ _ (by omega) (by omega))) | (go_at_call 52; exact Calls.regrown_of (C1 _))))
      refine wpQuiet_nil ?_
      intro w1 hw
      have hb1 := rg_below hw
      obtain ⟨hbox, hsz⟩ := box_at hb1
      have HB1 := hidden hb1
      clear hw hb1
      go_wp2
      go_ret
      exact ⟨ret_s (HU.out.trans HPB.out.symm), bthen (ballc w _) HB1.out⟩
    · have HU := hidden (HU01.out hx hp)
      have hx' : ¬ 0 < ex := by omega
      have hp' : 0 < ps := by omega
      clear hx hp HU00 HU10 HU01 HU11
      go_enter Try.func27, Try.ntmps27
      go_wp2
      refine wp_region_quiet_below (by kernel_rfl) (by kernel_rfl) ?_
      repeat (go_big_quiet_step (first | (go_at_call 51; exact Calls.regrown_of (rbyte_ba _ _ (by omega) (by omega))) | (go_at_call 52; exact Calls.regrown_of (C1 _))))
      refine wpQuiet_nil ?_
      intro w1 hw
      have hb1 := rg_below hw
      obtain ⟨hbox, hsz⟩ := box_at hb1
      have HB1 := hidden hb1
      clear hw hb1
      go_wp2
      refine wp_region_quiet_below (by kernel_rfl) (by kernel_rfl) ?_
      repeat (go_big_quiet_step ((go_at_call 51; exact Calls.regrown_of (rbyte_ba _ _ (by omega) (by omega)))))
      refine wpQuiet_nil ?_
      intro w3 hw
      have HB3 := hidden (bthen HB1.out (rg_below hw))
      clear hw
      go_wp2
      go_ret
      exact ⟨ret_s (HU.out.trans HPB.out.symm), bthen (ballc w _) HB3.out⟩
  · by_cases hp : ps = 0
    · have HU := hidden (HU10.out hx hp)
      have hx' : 0 < ex := by omega
      have hp' : ¬ 0 < ps := by omega
      clear hx hp HU00 HU10 HU01 HU11
      go_enter Try.func27, Try.ntmps27
      go_wp2
      refine wp_region_quiet_below (by kernel_rfl) (by kernel_rfl) ?_
      repeat (go_big_quiet_step (first | (go_at_call 51; exact Calls.regrown_of (rbyte_ba _ _ (by omega) (by omega))) | (go_at_call 52; exact Calls.regrown_of (C1 _))))
      refine wpQuiet_nil ?_
      intro w1 hw
      have hb1 := rg_below hw
      obtain ⟨hbox, hsz⟩ := box_at hb1
      have HB1 := hidden hb1
      clear hw hb1
      go_wp2
      refine wp_region_quiet_below (by kernel_rfl) (by kernel_rfl) ?_
      repeat (go_big_quiet_step (first | (go_at_call 51; exact Calls.regrown_of (rbyte_ba _ _ (by omega) (by omega))) | (go_at_call 52; exact Calls.regrown_of (C2 _))))
      refine wpQuiet_nil ?_
      intro w2 hw
      have hb2 := bthen HB1.out (rg_below hw)
      clear hbox hsz
      obtain ⟨hbox, hsz⟩ := box_at hb2
      have HB2 := hidden hb2
      clear hw hb2
      go_wp2
      go_ret
      exact ⟨ret_s (HU.out.trans HPB.out.symm), bthen (ballc w _) HB2.out⟩
    · have HU := hidden (HU11.out hx hp)
      have hx' : 0 < ex := by omega
      have hp' : 0 < ps := by omega
      clear hx hp HU00 HU10 HU01 HU11
      go_enter Try.func27, Try.ntmps27
      go_wp2
      refine wp_region_quiet_below (by kernel_rfl) (by kernel_rfl) ?_
      repeat (go_big_quiet_step (first | (go_at_call 51; exact Calls.regrown_of (rbyte_ba _ _ (by omega) (by omega))) | (go_at_call 52; exact Calls.regrown_of (C1 _))))
      refine wpQuiet_nil ?_
      intro w1 hw
      have hb1 := rg_below hw
      obtain ⟨hbox, hsz⟩ := box_at hb1
      have HB1 := hidden hb1
      clear hw hb1
      go_wp2
      refine wp_region_quiet_below (by kernel_rfl) (by kernel_rfl) ?_
      repeat (go_big_quiet_step (first | (go_at_call 51; exact Calls.regrown_of (rbyte_ba _ _ (by omega) (by omega))) | (go_at_call 52; exact Calls.regrown_of (C2 _))))
      refine wpQuiet_nil ?_
      intro w2 hw
      have hb2 := bthen HB1.out (rg_below hw)
      clear hbox hsz
      obtain ⟨hbox, hsz⟩ := box_at hb2
      have HB2 := hidden hb2
      clear hw hb2
      go_wp2
      refine wp_region_quiet_below (by kernel_rfl) (by kernel_rfl) ?_
      repeat (go_big_quiet_step ((go_at_call 51; exact Calls.regrown_of (rbyte_ba _ _ (by omega) (by omega)))))
      refine wpQuiet_nil ?_
      intro w3 hw
      have HB3 := hidden (bthen HB2.out (rg_below hw))
      clear hw
      go_wp2
      go_ret
      exact ⟨ret_s (HU.out.trans HPB.out.symm), bthen (ballc w _) HB3.out⟩
set_option maxHeartbeats 2000000 in
theorem rEncode_any (n f d p r dr o sl md fr : Int) (ad : Option Addr) (cap : Nat) (zs : List Int) (q : Pk) (w : World) (hl : zs.length ≤ 9223372036854775807) (hT : Tab w ad zs) (sv : q.vo.size ≤ 9223372036854775807) (se : q.ve.size ≤ 9223372036854775807) (st : q.te.size ≤ 9223372036854775807) :
    Calls Try.prog 10 #[.agg #[.int .i64 n, .int .i64 f, .int .i64 d, .int .i64 p, .int .i64 r, .int .i64 dr, .int .i64 o, .int .i64 sl, .int .i64 md, .int .i64 fr, .slice ad zs.length cap], .agg #[.string q.vo, .int .i64 q.ex, .string q.ve, .int .i64 q.ps, .int .i64 q.cy, .string q.te]] w fun e w' => e = .returned (.tuple #[.string (encF (plainE n f d p r dr o sl md fr zs) (3 * (f + 1)) (8 + n) zs.length md q).1, .int .i64 (encF (plainE n f d p r dr o sl md fr zs) (3 * (f + 1)) (8 + n) zs.length md q).2]) ∧ Below w.heap.size w w' := by
  have HT := hidden (hT.below (bthen (ballc w (.cells #[.int .i64 n, .int .i64 f, .int .i64 d, .int .i64 p, .int .i64 r, .int .i64 dr, .int .i64 o, .int .i64 sl, .int .i64 md, .int .i64 fr, .slice ad zs.length cap] 24)) (ballc _ (.cells #[.string q.vo, .int .i64 q.ex, .string q.ve, .int .i64 q.ps, .int .i64 q.cy, .string q.te] 26))))
  have C1 := fun V h => rRight_any n f d p r dr o sl md fr ad cap zs q.vo q.ex q.ve q.ps q.cy q.te V hl h sv se st
  have hE : ∀ x, x = pkR (plainE n f d p r dr o sl md fr zs) (3 * (f + 1)) (8 + n) zs.length md q → encF (plainE n f d p r dr o sl md fr zs) (3 * (f + 1)) (8 + n) zs.length md q = if x = 0 then (sealB q, 0) else (⟨#[]⟩, x) := fun x hx => by subst hx; rfl
  have hcap := fun h => conf_caps (n := n) (f := f) (d := d) (p := p) (r := r) (dr := dr) (o := o) (sl := sl) (md := md) (fr := fr) (zs := zs) h
  have hrp : pkR (plainE n f d p r dr o sl md fr zs) (3 * (f + 1)) (8 + n) zs.length md q = 0 → ∃ R B, R ≤ 15 ∧ B ≤ 21 ∧ RightP R B q := fun h => by
    have := hcap (pkR_E h)
    exact ⟨_, _, by omega, by omega, rightP_of h (by omega) (by omega) (by omega)⟩
  rw [show pRight (plainE n f d p r dr o sl md fr zs) (3 * (f + 1)) (8 + n) zs.length md q.vo q.ex q.ve q.ps q.cy q.te = pkR (plainE n f d p r dr o sl md fr zs) (3 * (f + 1)) (8 + n) zs.length md q from rfl] at C1
  rw [hE _ rfl]
  generalize pkR (plainE n f d p r dr o sl md fr zs) (3 * (f + 1)) (8 + n) zs.length md q = X at *
  clear hE hcap hT
  by_cases hX : X = 0
  · obtain ⟨R, B, hR, hB, hP⟩ := hrp hX
    have C2 := fun V => rplain_any q V hP (by omega) (by omega)
    have C3 := fun V => rseal_any (plainB q) V (by have := (seal_size hP hR hB).2; omega)
    have hs : (.string (plainB q ++ tailOf (plainB q)) : Value) = .string (sealB q) := rfl
    have C4 := fun V => Calls.ret_to (C3 V) hs
    clear C3 hs hrp hP sv se st
    rw [if_pos hX]
    subst hX
    obtain ⟨vo, ex, ve, ps, cy, te⟩ := q
    dsimp only at *
    generalize plainB ⟨vo, ex, ve, ps, cy, te⟩ = PB at *
    generalize sealB ⟨vo, ex, ve, ps, cy, te⟩ = SB at *
    go_enter Try.func10, Try.ntmps10
    go_wp2_with fail
    refine (C1 _ HT.out).mono ?_
    rintro e w1 ⟨rfl, hb⟩
    obtain ⟨hbox, hbox2, hsz0, hsz⟩ := box_two hb
    have HB := hidden (bthen (bthen (ballc w _) (ballc _ _)) hb)
    clear hb C1
    go_wp2_with fail
    refine (C2 _).mono ?_
    rintro e w2 ⟨rfl, hb⟩
    have HB2 := hidden (bthen HB.out hb)
    clear hb HB hbox hbox2 hsz0 hsz
    go_wp2_with fail
    refine (C4 _).mono ?_
    rintro e w3 ⟨rfl, hb⟩
    go_wp2
    go_ret2
    exact ⟨rfl, bthen HB2.out hb⟩
  · rw [if_neg hX]
    clear hrp
    have hX' : (X != 0) = true := by simp [hX]
    obtain ⟨vo, ex, ve, ps, cy, te⟩ := q
    dsimp only at *
    go_enter Try.func10, Try.ntmps10
    go_wp2_with fail
    refine (C1 _ HT.out).mono ?_
    rintro e w1 ⟨rfl, hb⟩
    obtain ⟨hbox, hbox2, hsz0, hsz⟩ := box_two hb
    have HB := hidden (bthen (bthen (ballc w _) (ballc _ _)) hb)
    have HT2 := hidden (HT.out.below hb)
    clear hb
    go_wp2_with fail
    refine (C1 _ HT2.out).mono ?_
    rintro e w2 ⟨rfl, hb⟩
    have HB2 := hidden (bthen HB.out hb)
    clear hb
    go_wp2
    go_ret2
    exact ⟨rfl, HB2.out⟩
set_option maxHeartbeats 1000000 in
theorem rSize_any (n f d p r dr o sl md fr : Int) (ad : Option Addr) (cap : Nat) (zs : List Int) (q : Pk) (w : World) (hl : zs.length ≤ 9223372036854775807) (hT : Tab w ad zs) (sv : q.vo.size ≤ 9223372036854775807) (se : q.ve.size ≤ 9223372036854775807) (st : q.te.size ≤ 9223372036854775807) :
    Calls Try.prog 12 #[.agg #[.int .i64 n, .int .i64 f, .int .i64 d, .int .i64 p, .int .i64 r, .int .i64 dr, .int .i64 o, .int .i64 sl, .int .i64 md, .int .i64 fr, .slice ad zs.length cap], .agg #[.string q.vo, .int .i64 q.ex, .string q.ve, .int .i64 q.ps, .int .i64 q.cy, .string q.te]] w fun e w' => e = .returned (.int .i64 ((encF (plainE n f d p r dr o sl md fr zs) (3 * (f + 1)) (8 + n) zs.length md q).1.size : Int)) ∧ Below w.heap.size w w' := by
  have HT := hidden (hT.below (bthen (ballc w (.cells #[.int .i64 n, .int .i64 f, .int .i64 d, .int .i64 p, .int .i64 r, .int .i64 dr, .int .i64 o, .int .i64 sl, .int .i64 md, .int .i64 fr, .slice ad zs.length cap] 24)) (ballc _ (.cells #[.string q.vo, .int .i64 q.ex, .string q.ve, .int .i64 q.ps, .int .i64 q.cy, .string q.te] 26))))
  have C1 := fun V h => rEncode_any n f d p r dr o sl md fr ad cap zs q V hl h sv se st
  generalize encF (plainE n f d p r dr o sl md fr zs) (3 * (f + 1)) (8 + n) zs.length md q = X at *
  obtain ⟨X1, X2⟩ := X
  obtain ⟨vo, ex, ve, ps, cy, te⟩ := q
  dsimp only at *
  clear hT
  go_enter Try.func12, Try.ntmps12
  go_wp2_with fail
  refine (C1 _ HT.out).mono ?_
  rintro e w1 ⟨rfl, hb⟩
  have HB := hidden (bthen (bthen (ballc w _) (ballc _ _)) hb)
  clear hb C1
  go_wp2
  go_ret
  exact ⟨rfl, HB.out⟩
end Go.Proofs.Ytcnmbpgjgjncdaa
