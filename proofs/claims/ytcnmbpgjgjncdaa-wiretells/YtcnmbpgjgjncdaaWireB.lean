/- The call unsealed of package wire returns a right packet's bytes without their sum, and makes at most new memory; conditions: the packet is right, as far as its bytes ask. -/
import Derived.Test.YtcnmbpgjgjncdaaWireA
import Derived.Test.YtcnmbpgjgjncdaaWireN
namespace Go.Proofs.Ytcnmbpgjgjncdaa
open Go.ChangeShapes Go.WideShapes Go.ChangeAt Go.RowKit
set_option linter.unusedVariables false
attribute [local go_sem] cell_rg

theorem one_size (x : UInt8) : (ba [x]).size = 1 := rfl
theorem pk_size (s : ByteArray) (h : s.size ≤ 255) : (ba (pkL (bl s))).size ≤ 100 := by rw [ba_size, pkL_length, bl_length]; omega
theorem un_00 {p : Pk} (hx : p.ex = 0) (hp : p.ps = 0) : ba [UInt8.ofNat (64 : Int).toNat] ++ ba (pkL (bl p.vo)) = ba (plainL p) := by
  rw [ba_append]
  simp [plainL, tagN, partL, msgL, hx, hp]
theorem un_10 {p : Pk} (hx : ¬ p.ex = 0) (hp : p.ps = 0) : ba [UInt8.ofNat (65 : Int).toNat] ++ (ba (pkL (bl p.vo)) ++ (ba [UInt8.ofNat p.ex.toNat] ++ ba (pkL (bl p.ve)))) = ba (plainL p) := by
  simp only [ba_append]
  simp [plainL, tagN, partL, msgL, hx, hp]
theorem un_01 {p : Pk} (hx : p.ex = 0) (hp : ¬ p.ps = 0) : ba [UInt8.ofNat (66 : Int).toNat] ++ (ba (pkL (bl p.vo)) ++ (ba [UInt8.ofNat p.ps.toNat] ++ ba [UInt8.ofNat p.cy.toNat] ++ ba [UInt8.ofNat (p.te.size : Int).toNat] ++ p.te)) = ba (plainL p) := by
  have e := ba_bl p.te
  rw [← e]
  simp only [ba_append]
  rw [e]
  simp [plainL, tagN, partL, msgL, hx, hp]
theorem un_11 {p : Pk} (hx : ¬ p.ex = 0) (hp : ¬ p.ps = 0) : ba [UInt8.ofNat (67 : Int).toNat] ++ (ba (pkL (bl p.vo)) ++ (ba [UInt8.ofNat p.ex.toNat] ++ ba (pkL (bl p.ve))) ++ (ba [UInt8.ofNat p.ps.toNat] ++ ba [UInt8.ofNat p.cy.toNat] ++ ba [UInt8.ofNat (p.te.size : Int).toNat] ++ p.te)) = ba (plainL p) := by
  have e := ba_bl p.te
  rw [← e]
  simp only [ba_append]
  rw [e]
  simp [plainL, tagN, partL, msgL, hx, hp]
theorem ret_s {a b : ByteArray} (h : a = b) : Ending.returned (.string a) = .returned (.string b) := by rw [h]
set_option maxHeartbeats 2000000 in
theorem unsealed_any {R B : Nat} (p : Pk) (w : World) (h : RightP R B p) (hR : R ≤ 255) (hB : B ≤ 255) :
    Calls Try.prog 25 #[.agg #[.string p.vo, .int .i64 p.ex, .string p.ve, .int .i64 p.ps, .int .i64 p.cy, .string p.te]] w fun e w' => e = .returned (.string (plainB p)) ∧ Below w.heap.size w w' := by
  have l1 : p.vo.size ≤ 255 := by have := h.vl; rw [bl_length] at this; omega
  have l2 : p.ve.size ≤ 255 ∧ DigL (bl p.ve) := by
    by_cases hx : p.ex = 0
    · rw [h.ez hx]; exact ⟨by decide, fun b hb => by simp [bl] at hb⟩
    · have := h.vb hx; rw [bl_length] at this; exact ⟨by omega, h.ve hx⟩
  have l3 := h.te
  have C1 := fun W => pack_any p.vo W h.vo (by omega)
  have C2 := fun W => pack_any p.ve W l2.2 (by omega)
  have z1 := pk_size p.vo l1
  have z2 := pk_size p.ve l2.1
  have hone := one_size
  have e0 := h.e0
  have e1 := h.e1
  have s0 := h.s0
  have s1 := h.s1
  have c0 := h.c0
  have c1 := h.c1
  have HU00 := hidden (@un_00 p)
  have HU10 := hidden (@un_10 p)
  have HU01 := hidden (@un_01 p)
  have HU11 := hidden (@un_11 p)
  have HPB : Hid (plainB p = ba (plainL p)) := rfl
  generalize plainB p = PB at HPB ⊢
  generalize ba (plainL p) = PL at *
  obtain ⟨vo, ex, ve, ps, cy, te⟩ := p
  clear h
  dsimp only at *
  generalize ba (pkL (bl vo)) = V at *
  generalize ba (pkL (bl ve)) = P at *
  clear l1 l2
  by_cases hx : ex = 0
  · by_cases hp : ps = 0
    · have HU := hidden (HU00.out hx hp)
      have hx' : (ex != 0) = false := by simp [hx]
      have hp' : (ps != 0) = false := by simp [hp]
      clear hx hp HU00 HU10 HU01 HU11
      go_enter Try.func25, Try.ntmps25
      go_wp2_with fail
      refine (C1 _).mono ?_
      rintro e w1 ⟨rfl, hb⟩
      obtain ⟨hbox, hsz⟩ := box_at hb
      have HB := hidden (bthen (ballc w _) hb)
      clear hb
      go_wp2_with fail
      refine (oneByte_any 64 _ (by omega) (by omega)).mono ?_
      rintro e w2 ⟨rfl, hb⟩
      go_wp2
      go_ret
      exact ⟨ret_s (HU.out.trans HPB.out.symm), bthen HB.out hb⟩
    · have HU := hidden (HU01.out hx hp)
      have hx' : (ex != 0) = false := by simp [hx]
      have hp' : (ps != 0) = true := by simp [hp]
      clear hx hp HU00 HU10 HU01 HU11
      go_enter Try.func25, Try.ntmps25
      go_wp2_with fail
      refine (C1 _).mono ?_
      rintro e w1 ⟨rfl, hb⟩
      obtain ⟨hbox, hsz⟩ := box_at hb
      have HB := hidden (bthen (ballc w _) hb)
      clear hb
      go_wp2
      refine wp_region_quiet_below (by kernel_rfl) (by kernel_rfl) ?_
      repeat (go_big_quiet_step ((go_at_call 49; exact Calls.regrown_of (oneByte_any _ _ (by omega) (by omega)))))
      refine wpQuiet_nil ?_
      intro w2 hw2
      have HB2 := hidden (bthen HB.out (rg_below hw2))
      clear hw2
      go_wp2_with fail
      refine (oneByte_any 66 _ (by omega) (by omega)).mono ?_
      rintro e w3 ⟨rfl, hb⟩
      go_wp2
      go_ret
      exact ⟨ret_s (HU.out.trans HPB.out.symm), bthen HB2.out hb⟩
  · by_cases hp : ps = 0
    · have HU := hidden (HU10.out hx hp)
      have hx' : (ex != 0) = true := by simp [hx]
      have hp' : (ps != 0) = false := by simp [hp]
      clear hx hp HU00 HU10 HU01 HU11
      go_enter Try.func25, Try.ntmps25
      go_wp2_with fail
      refine (C1 _).mono ?_
      rintro e w1 ⟨rfl, hb⟩
      obtain ⟨hbox, hsz⟩ := box_at hb
      have HB := hidden hb
      clear hb
      go_wp2
      refine wp_region_quiet_below (by kernel_rfl) (by kernel_rfl) ?_
      repeat (go_big_quiet_step (first | (go_at_call 49; exact Calls.regrown_of (oneByte_any _ _ (by omega) (by omega))) | (go_at_call 48; exact Calls.regrown_of (C2 _))))
      refine wpQuiet_nil ?_
      intro w2 hw2
      have hb2 := bthen HB.out (rg_below hw2)
      obtain ⟨hbox2, hsz2⟩ := box_at hb2
      have HB2 := hidden (bthen (ballc w _) hb2)
      clear hw2 hb2 hbox hsz
      go_wp2_with fail
      refine (oneByte_any 65 _ (by omega) (by omega)).mono ?_
      rintro e w3 ⟨rfl, hb⟩
      go_wp2
      go_ret
      exact ⟨ret_s (HU.out.trans HPB.out.symm), bthen HB2.out hb⟩
    · have HU := hidden (HU11.out hx hp)
      have hx' : (ex != 0) = true := by simp [hx]
      have hp' : (ps != 0) = true := by simp [hp]
      clear hx hp HU00 HU10 HU01 HU11
      go_enter Try.func25, Try.ntmps25
      go_wp2_with fail
      refine (C1 _).mono ?_
      rintro e w1 ⟨rfl, hb⟩
      obtain ⟨hbox, hsz⟩ := box_at hb
      have HB := hidden hb
      clear hb
      go_wp2
      refine wp_region_quiet_below (by kernel_rfl) (by kernel_rfl) ?_
      repeat (go_big_quiet_step (first | (go_at_call 49; exact Calls.regrown_of (oneByte_any _ _ (by omega) (by omega))) | (go_at_call 48; exact Calls.regrown_of (C2 _))))
      refine wpQuiet_nil ?_
      intro w2 hw2
      have hb2 := bthen HB.out (rg_below hw2)
      obtain ⟨hbox2, hsz2⟩ := box_at hb2
      have HB2 := hidden (bthen (ballc w _) hb2)
      clear hw2 hb2 hbox hsz
      go_wp2
      refine wp_region_quiet_below (by kernel_rfl) (by kernel_rfl) ?_
      repeat (go_big_quiet_step ((go_at_call 49; exact Calls.regrown_of (oneByte_any _ _ (by omega) (by omega)))))
      refine wpQuiet_nil ?_
      intro w3 hw3
      have HB3 := hidden (bthen HB2.out (rg_below hw3))
      clear hw3
      go_wp2_with fail
      refine (oneByte_any 67 _ (by omega) (by omega)).mono ?_
      rintro e w4 ⟨rfl, hb⟩
      go_wp2
      go_ret
      exact ⟨ret_s (HU.out.trans HPB.out.symm), bthen HB3.out hb⟩
end Go.Proofs.Ytcnmbpgjgjncdaa
