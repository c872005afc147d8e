/- The walk of the statement PacketDigits: the call returns true, and makes at most new memory; conditions: the table lies where it says, lengths fit int. -/
import Derived.Test.YtjkliandhcegeabPacK
import Derived.Test.YtjkliandhcegeabConfG
namespace Go.Proofs.Ytjkliandhcegeab.LawPacketDigits
open Go.ChangeShapes Go.WideShapes Go.ChangeAt Go.RowKit
set_option linter.unusedVariables false

theorem ok_of {E R B L M : Int} (vo : ByteArray) (ex : Int) (ve : ByteArray) (ps cy : Int) (te : ByteArray) (h : pRight E R B L M vo ex ve ps cy te = 0) : E = 0 ∧ areD vo R = true ∧ ¬ (ex < 0 ∨ R < ex ∨ (ex = 0 ∧ emp ve = false) ∨ (¬ ex = 0 ∧ areD ve B = false)) := by
  by_cases e : E = 0
  · cases a : areD vo R
    · rw [pr_A e a] at h; omega
    by_cases b : ex < 0 ∨ R < ex ∨ (ex = 0 ∧ emp ve = false) ∨ (¬ ex = 0 ∧ areD ve B = false)
    · rw [pr_B e a b] at h; omega
    exact ⟨e, rfl, b⟩
  · rw [pr_E e] at h; exact absurd h e
theorem dig_bd (c : Int) : -1 ≤ digV c ∧ digV c ≤ 2 := by unfold digV; split <;> omega
theorem dg_bd (s : ByteArray) (k : Int) : -1 ≤ dgAt s k ∧ dgAt s k ≤ 2 := by
  unfold dgAt
  split
  · exact dig_bd _
  · omega
theorem dg_sign {s : ByteArray} {n : Int} (h : areD s n = true) (k : Int) : 0 ≤ dgAt s k ↔ (0 ≤ k ∧ k < n) := by
  obtain ⟨h1, h2⟩ := areD_of h
  unfold dgAt
  by_cases e : 0 ≤ k ∧ k < s.size
  · rw [dif_pos e, digV_yes (by have := h2 k.toNat (by omega); omega)]
    have := h2 k.toNat (by omega)
    omega
  · rw [dif_neg e]; omega
theorem bit_bd (ex : Int) (ve : ByteArray) (x k : Int) : -1 ≤ bitF ex ve x k ∧ bitF ex ve x k ≤ 2 := by
  unfold bitF
  split
  · omega
  · exact dg_bd _ _
theorem bit_sign {ex : Int} {ve : ByteArray} {x k R B : Int} (hR : R ≤ 15) (b : ¬ (ex < 0 ∨ R < ex ∨ (ex = 0 ∧ emp ve = false) ∨ (¬ ex = 0 ∧ areD ve B = false))) : 0 ≤ bitF ex ve x k ↔ (0 < ex ∧ x = ex - 1 ∧ 0 ≤ k ∧ k < B) := by
  by_cases e : x < 0 ∨ 65535 < x ∨ ¬ ex = x + 1
  · have : bitF ex ve x k = -1 := if_pos e
    rw [this]
    have b1 : ¬ R < ex := fun h => b (.inr (.inl h))
    omega
  · have : bitF ex ve x k = dgAt ve k := if_neg e
    rw [this]
    have hx : ¬ ex = 0 := by omega
    have ha : areD ve B = true := by
      cases h : areD ve B
      · exact absurd (.inr (.inr (.inr ⟨hx, h⟩))) b
      · rfl
    rw [dg_sign ha]
    omega
set_option maxHeartbeats 8000000 in
theorem walk (n f d p r dr o sl md fr : Int) (ad : Option Addr) (cap : Nat) (zs : List Int) (vo : ByteArray) (ex : Int) (ve : ByteArray) (ps cy : Int) (te : ByteArray) (x k : Int) (w : World) (hl : zs.length ≤ 9223372036854775807) (hT : Tab w ad zs) (sv : vo.size ≤ 9223372036854775807) (kx : (Lit.int .i64 ex).wf = true) (se : ve.size ≤ 9223372036854775807) (kp : (Lit.int .i64 ps).wf = true) (kc : (Lit.int .i64 cy).wf = true) (st : te.size ≤ 9223372036854775807)
    (hx : -9223372036854775808 ≤ x ∧ x ≤ 9223372036854775807) (hk : -9223372036854775808 ≤ k ∧ k ≤ 9223372036854775807) :
    Calls Try.prog 3 #[.agg #[.int .i64 n, .int .i64 f, .int .i64 d, .int .i64 p, .int .i64 r, .int .i64 dr, .int .i64 o, .int .i64 sl, .int .i64 md, .int .i64 fr, .slice ad zs.length cap], .agg #[.string vo, .int .i64 ex, .string ve, .int .i64 ps, .int .i64 cy, .string te], .int .i64 x, .int .i64 k] w fun e w' => e = .returned (.bool true) ∧ Below w.heap.size w w' := by
  have HT := hidden (hT.below (bthen (ballc w (.cells #[.int .i64 n, .int .i64 f, .int .i64 d, .int .i64 p, .int .i64 r, .int .i64 dr, .int .i64 o, .int .i64 sl, .int .i64 md, .int .i64 fr, .slice ad zs.length cap] 24)) (ballc _ (.cells #[.string vo, .int .i64 ex, .string ve, .int .i64 ps, .int .i64 cy, .string te] 26))))
  have HW0 := hidden (bthen (ballc w (.cells #[.int .i64 n, .int .i64 f, .int .i64 d, .int .i64 p, .int .i64 r, .int .i64 dr, .int .i64 o, .int .i64 sl, .int .i64 md, .int .i64 fr, .slice ad zs.length cap] 24)) (ballc _ (.cells #[.string vo, .int .i64 ex, .string ve, .int .i64 ps, .int .i64 cy, .string te] 26)))
  have C1 := fun V h => Right_any n f d p r dr o sl md fr ad cap zs vo ex ve ps cy te V hl h sv se st
  have CV := fun V => Vote_any vo ex ve ps cy te x V sv
  have CB := fun V => Bit_any vo ex ve ps cy te x k V se
  have CN := fun V h => refBits_any n f d p r dr o sl md fr ad cap zs V hl h
  have CR := fun V h => refRounds_any n f d p r dr o sl md fr ad cap zs V hl h
  have HF : Hid (pRight (plainE n f d p r dr o sl md fr zs) (3 * (f + 1)) (8 + n) zs.length md vo ex ve ps cy te = 0 → plainE n f d p r dr o sl md fr zs = 0 ∧ (0 ≤ dgAt vo x ↔ (0 ≤ x ∧ x < 3 * (f + 1))) ∧ (0 ≤ bitF ex ve x k ↔ (0 < ex ∧ x = ex - 1 ∧ 0 ≤ k ∧ k < 8 + n))) := fun h => by
    obtain ⟨e, a, b⟩ := ok_of _ _ _ _ _ _ h
    have h2 := plainE_ok e
    exact ⟨e, dg_sign a x, bit_sign (R := 3 * (f + 1)) (by omega) b⟩
  have v1 := dg_bd vo x
  have v2 := bit_bd ex ve x k
  generalize pRight (plainE n f d p r dr o sl md fr zs) (3 * (f + 1)) (8 + n) zs.length md vo ex ve ps cy te = E1 at C1 HF
  generalize dgAt vo x = v at *
  generalize bitF ex ve x k = b at *
  have dv1 : decide (-1 ≤ v) = true := by simp; omega
  have dv2 : decide (v ≤ 2) = true := by simp; omega
  have db1 : decide (-1 ≤ b) = true := by simp; omega
  have db2 : decide (b ≤ 2) = true := by simp; omega
  have hex := bd64 kx
  clear hT hx hk v1 v2
  go_enter Try.func3, Try.ntmps3
  go_wp2_with fail
  refine (C1 _ HT.out).mono ?_
  rintro e w1 ⟨rfl, hb1⟩
  have HB1 := hidden hb1
  clear hb1 C1
  by_cases hE : E1 = 0
  · obtain ⟨hp, hv, hb⟩ := HF.out hE
    clear HF
    subst hE
    rw [hp] at CN CR
    simp only [gate_ok] at CN CR
    generalize 3 * (f + 1) = R at *
    generalize 8 + n = B at *
    obtain ⟨g1, g2, g4, g3⟩ := box_two HB1.out
    go_wp2_with fail
    refine (CV _).mono ?_
    rintro e w2 ⟨rfl, hb2⟩
    have HB2 := hidden (bthen HB1.out hb2)
    clear hb2 HB1 g1 g2 g3 g4 CV
    obtain ⟨g1, g2, g4, g3⟩ := box_two HB2.out
    go_wp2_with fail
    refine (CB _).mono ?_
    rintro e w3 ⟨rfl, hb3⟩
    have HB3 := hidden (bthen HB2.out hb3)
    clear hb3 HB2 g1 g2 g3 g4 CB hp
    obtain ⟨g1, g2, g4, g3⟩ := box_two HB3.out
    have HV := hidden hv
    have HBI := hidden hb
    clear hv hb
    by_cases t1 : 0 < ex
    · have t1' : decide (0 < ex) = true := by simp [t1]
      have tw : wrap64 (ex - 1) = ex - 1 := IntWalk.wrap64_in _ (by omega)
      have tw2 : IntKind.i64.wrap (ex - 1) = ex - 1 := IntWalk.i64_in _ (by omega)
      by_cases t2 : x = ex - 1
      · have t2' : (x == ex - 1) = true := by simp [t2]
        have HX := hidden t2
        by_cases t3 : 0 ≤ k
        · have t3' : decide (0 ≤ k) = true := by simp [t3]
          have HBT : Hid (0 ≤ b ↔ k < B) := by have h := HBI.out; exact ⟨fun q => (h.1 q).2.2.2, fun q => h.2 ⟨t1, t2, t3, q⟩⟩
          clear t2
          go_wp2_with fail
          refine (CN _ (HT.out.below HB3.out)).mono ?_
          rintro e w4 ⟨rfl, hb4⟩
          have HB4 := hidden (bthen HB3.out hb4)
          clear hb4 HB3 g1 g2 g3 g4 CN
          obtain ⟨g1, g2, g4, g3⟩ := box_two HB4.out
          by_cases t4 : k < B
          · have t4' : decide (k < B) = true := by simp [t4]
            have db3 : decide (0 ≤ b) = true := by simp; exact HBT.out.2 t4
            by_cases q1 : 0 ≤ x
            · have q1' : decide (0 ≤ x) = true := by simp [q1]
              go_wp2_with fail
              refine (CR _ (HT.out.below HB4.out)).mono ?_
              rintro e w5 ⟨rfl, hb5⟩
              have HB5 := hidden (bthen HB4.out hb5)
              clear hb5
              by_cases q2 : x < R
              · have q2' : decide (x < R) = true := by simp [q2]
                have dv3 : decide (0 ≤ v) = true := by simp; exact HV.out.2 ⟨q1, q2⟩
                go_wp2_with fail
                refine (known10_any _).mono ?_
                rintro e w8 ⟨rfl, hb8⟩
                go_wp2
                go_ret
                exact ⟨rfl, bthen HW0.out (bthen HB5.out hb8)⟩
              · have q2' : decide (x < R) = false := by simp; omega
                have dv3 : decide (0 ≤ v) = false := by simp; have := HV.out; omega
                go_wp2_with fail
                refine (known10_any _).mono ?_
                rintro e w8 ⟨rfl, hb8⟩
                go_wp2
                go_ret
                exact ⟨rfl, bthen HW0.out (bthen HB5.out hb8)⟩
            · have q1' : decide (0 ≤ x) = false := by simp; omega
              have dv3 : decide (0 ≤ v) = false := by simp; have := HV.out; omega
              go_wp2_with fail
              refine (known10_any _).mono ?_
              rintro e w8 ⟨rfl, hb8⟩
              go_wp2
              go_ret
              exact ⟨rfl, bthen HW0.out (bthen HB4.out hb8)⟩
          · have t4' : decide (k < B) = false := by simp; omega
            have db3 : decide (0 ≤ b) = false := by simp; have := HBT.out; omega
            by_cases q1 : 0 ≤ x
            · have q1' : decide (0 ≤ x) = true := by simp [q1]
              go_wp2_with fail
              refine (CR _ (HT.out.below HB4.out)).mono ?_
              rintro e w5 ⟨rfl, hb5⟩
              have HB5 := hidden (bthen HB4.out hb5)
              clear hb5
              by_cases q2 : x < R
              · have q2' : decide (x < R) = true := by simp [q2]
                have dv3 : decide (0 ≤ v) = true := by simp; exact HV.out.2 ⟨q1, q2⟩
                go_wp2_with fail
                refine (known10_any _).mono ?_
                rintro e w8 ⟨rfl, hb8⟩
                go_wp2
                go_ret
                exact ⟨rfl, bthen HW0.out (bthen HB5.out hb8)⟩
              · have q2' : decide (x < R) = false := by simp; omega
                have dv3 : decide (0 ≤ v) = false := by simp; have := HV.out; omega
                go_wp2_with fail
                refine (known10_any _).mono ?_
                rintro e w8 ⟨rfl, hb8⟩
                go_wp2
                go_ret
                exact ⟨rfl, bthen HW0.out (bthen HB5.out hb8)⟩
            · have q1' : decide (0 ≤ x) = false := by simp; omega
              have dv3 : decide (0 ≤ v) = false := by simp; have := HV.out; omega
              go_wp2_with fail
              refine (known10_any _).mono ?_
              rintro e w8 ⟨rfl, hb8⟩
              go_wp2
              go_ret
              exact ⟨rfl, bthen HW0.out (bthen HB4.out hb8)⟩
        · have t3' : decide (0 ≤ k) = false := by simp; omega
          have db3 : decide (0 ≤ b) = false := by simp; have := HBI.out; omega
          clear t2
          by_cases q1 : 0 ≤ x
          · have q1' : decide (0 ≤ x) = true := by simp [q1]
            go_wp2_with fail
            refine (CR _ (HT.out.below HB3.out)).mono ?_
            rintro e w5 ⟨rfl, hb5⟩
            have HB5 := hidden (bthen HB3.out hb5)
            clear hb5
            by_cases q2 : x < R
            · have q2' : decide (x < R) = true := by simp [q2]
              have dv3 : decide (0 ≤ v) = true := by simp; exact HV.out.2 ⟨q1, q2⟩
              go_wp2_with fail
              refine (known10_any _).mono ?_
              rintro e w8 ⟨rfl, hb8⟩
              go_wp2
              go_ret
              exact ⟨rfl, bthen HW0.out (bthen HB5.out hb8)⟩
            · have q2' : decide (x < R) = false := by simp; omega
              have dv3 : decide (0 ≤ v) = false := by simp; have := HV.out; omega
              go_wp2_with fail
              refine (known10_any _).mono ?_
              rintro e w8 ⟨rfl, hb8⟩
              go_wp2
              go_ret
              exact ⟨rfl, bthen HW0.out (bthen HB5.out hb8)⟩
          · have q1' : decide (0 ≤ x) = false := by simp; omega
            have dv3 : decide (0 ≤ v) = false := by simp; have := HV.out; omega
            go_wp2_with fail
            refine (known10_any _).mono ?_
            rintro e w8 ⟨rfl, hb8⟩
            go_wp2
            go_ret
            exact ⟨rfl, bthen HW0.out (bthen HB3.out hb8)⟩
      · have t2' : (x == ex - 1) = false := by simp [t2]
        have db3 : decide (0 ≤ b) = false := by simp; have := HBI.out; omega
        by_cases q1 : 0 ≤ x
        · have q1' : decide (0 ≤ x) = true := by simp [q1]
          go_wp2_with fail
          refine (CR _ (HT.out.below HB3.out)).mono ?_
          rintro e w5 ⟨rfl, hb5⟩
          have HB5 := hidden (bthen HB3.out hb5)
          clear hb5
          by_cases q2 : x < R
          · have q2' : decide (x < R) = true := by simp [q2]
            have dv3 : decide (0 ≤ v) = true := by simp; exact HV.out.2 ⟨q1, q2⟩
            go_wp2_with fail
            refine (known10_any _).mono ?_
            rintro e w8 ⟨rfl, hb8⟩
            go_wp2
            go_ret
            exact ⟨rfl, bthen HW0.out (bthen HB5.out hb8)⟩
          · have q2' : decide (x < R) = false := by simp; omega
            have dv3 : decide (0 ≤ v) = false := by simp; have := HV.out; omega
            go_wp2_with fail
            refine (known10_any _).mono ?_
            rintro e w8 ⟨rfl, hb8⟩
            go_wp2
            go_ret
            exact ⟨rfl, bthen HW0.out (bthen HB5.out hb8)⟩
        · have q1' : decide (0 ≤ x) = false := by simp; omega
          have dv3 : decide (0 ≤ v) = false := by simp; have := HV.out; omega
          go_wp2_with fail
          refine (known10_any _).mono ?_
          rintro e w8 ⟨rfl, hb8⟩
          go_wp2
          go_ret
          exact ⟨rfl, bthen HW0.out (bthen HB3.out hb8)⟩
    · have t1' : decide (0 < ex) = false := by simp; omega
      have db3 : decide (0 ≤ b) = false := by simp; have := HBI.out; omega
      by_cases q1 : 0 ≤ x
      · have q1' : decide (0 ≤ x) = true := by simp [q1]
        go_wp2_with fail
        refine (CR _ (HT.out.below HB3.out)).mono ?_
        rintro e w5 ⟨rfl, hb5⟩
        have HB5 := hidden (bthen HB3.out hb5)
        clear hb5
        by_cases q2 : x < R
        · have q2' : decide (x < R) = true := by simp [q2]
          have dv3 : decide (0 ≤ v) = true := by simp; exact HV.out.2 ⟨q1, q2⟩
          go_wp2_with fail
          refine (known10_any _).mono ?_
          rintro e w8 ⟨rfl, hb8⟩
          go_wp2
          go_ret
          exact ⟨rfl, bthen HW0.out (bthen HB5.out hb8)⟩
        · have q2' : decide (x < R) = false := by simp; omega
          have dv3 : decide (0 ≤ v) = false := by simp; have := HV.out; omega
          go_wp2_with fail
          refine (known10_any _).mono ?_
          rintro e w8 ⟨rfl, hb8⟩
          go_wp2
          go_ret
          exact ⟨rfl, bthen HW0.out (bthen HB5.out hb8)⟩
      · have q1' : decide (0 ≤ x) = false := by simp; omega
        have dv3 : decide (0 ≤ v) = false := by simp; have := HV.out; omega
        go_wp2_with fail
        refine (known10_any _).mono ?_
        rintro e w8 ⟨rfl, hb8⟩
        go_wp2
        go_ret
        exact ⟨rfl, bthen HW0.out (bthen HB3.out hb8)⟩
  · go_wp2_with fail
    refine (known10_any _).mono ?_
    rintro e w8 ⟨rfl, hb8⟩
    go_wp2
    go_ret
    exact ⟨rfl, bthen HW0.out (bthen HB1.out hb8)⟩
end Go.Proofs.Ytjkliandhcegeab.LawPacketDigits
