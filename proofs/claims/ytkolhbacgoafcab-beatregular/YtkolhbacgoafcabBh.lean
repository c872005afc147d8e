/- Several texts of one's own in one: what each proves, and its conditions, is said ahead of it. -/
import Derived.Test.YtkolhbacgoafcabBe

/- The statements' own test 'regular' holds of digits that have a 1 each period and no other, and makes at most new memory; conditions: those digits, the text's length fits int. -/
namespace Go.Proofs.Ytkolhbacgoafcab
open Go.ChangeShapes Go.WideShapes Go.ChangeAt Go.RowKit
set_option linter.unusedVariables false
attribute [local go_sem] cell_rg

def numD (b : Bool) : Int := if b = true then 49 else 48
def cntR (R j : Nat) : Int := if R < j then 1 else 0
set_option maxRecDepth 100000 in
set_option maxHeartbeats 2000000 in
theorem regular_any (n f d p r dr o sl md fr : Int) (ad : Option Addr) (cap : Nat) (zs : List Int) (P u F : Nat) (hp : p = (P : Int)) (hP1 : 1 ≤ P) (hP4 : P ≤ 400) (e : Nat → Bool) (hu : u ≤ F) (he : ∀ t, u ≤ t → (e t = true ↔ (t - u) % P = 0)) (s : ByteArray) (hs : s.size ≤ 1000000) (hS : ∀ k (h : k < s.size), F ≤ k → ((s[k]'h).toNat : Int) = numD (e k)) (hF : F ≤ 1000000) (w : World) :
    Calls Try.prog 11 #[.agg #[.int .i64 n, .int .i64 f, .int .i64 d, .int .i64 p, .int .i64 r, .int .i64 dr, .int .i64 o, .int .i64 sl, .int .i64 md, .int .i64 fr, .slice ad zs.length cap], .string s, .int .i64 (F : Int)] w fun x w' => x = .returned (.bool true) ∧ Below w.heap.size w w' := by
  subst hp
  have HB0 := hidden (ballc w (.cells #[.int .i64 n, .int .i64 f, .int .i64 d, .int .i64 (P : Int), .int .i64 r, .int .i64 dr, .int .i64 o, .int .i64 sl, .int .i64 md, .int .i64 fr, .slice ad zs.length cap] 24))
  have HK := hidden (blk_nw w #[.int .i64 n, .int .i64 f, .int .i64 d, .int .i64 (P : Int), .int .i64 r, .int .i64 dr, .int .i64 o, .int .i64 sl, .int .i64 md, .int .i64 fr, .slice ad zs.length cap] 24)
  have HE := hidden he
  have HSS := hidden hS
  obtain ⟨N, hN⟩ : ∃ N, N = s.size := ⟨_, rfl⟩
  clear he hS
  go_enter Try.func11, Try.ntmps11
  go_wp2
  generalize hw0 : w.alloc (.cells #[.int .i64 n, .int .i64 f, .int .i64 d, .int .i64 (P : Int), .int .i64 r, .int .i64 dr, .int .i64 o, .int .i64 sl, .int .i64 md, .int .i64 fr, .slice ad zs.length cap] 24) = w0 at *
  clear hw0
  go_loopw [7] (fun i wr => ∃ k : Nat, F ≤ k ∧ (k ≤ F ∨ k ≤ s.size) ∧ i = .int .i64 k ∧ Below w0.heap.size w0 wr) (fun i _ => s.size - (intV i).toNat)
  case atStart => exact ⟨F, Nat.le_refl _, .inl (Nat.le_refl _), rfl, Below.refl _ _⟩
  case round =>
    obtain ⟨i, hFi, hi, rfl, hB⟩ := hrel
    have hKr := blk_later HK.out hB
    have HKr := hidden hKr
    have c0 := blk_cell hKr
    have l0 := blk_lt hKr
    have HB9 := hidden (bthen HB0.out hB)
    by_cases hlt : i < s.size
    · have i1 : (i : Int) < (s.size : Int) := by omega
      have i2 : (0 : Int) ≤ (i : Int) := by omega
      obtain ⟨q, hq⟩ : ∃ q : Nat, q = i + P := ⟨_, rfl⟩
      have t1 : (i : Int) + (P : Int) = (q : Int) := by omega
      have t2 : IntKind.i64.wrap (q : Int) = (q : Int) := IntWalk.i64_in _ (by omega)
      have j2 : (0 : Int) ≤ (q : Int) := by omega
      have HQ := hidden hq
      obtain ⟨R, hRP, hR⟩ := one_place (P := P) (u := u) (i := i) (by omega) (by omega)
      have HR : Hid (∀ j, j < P → (e (i + j) = true ↔ j = R)) := fun j hj => (HE.out (i + j) (by omega)).trans (hR j hj)
      clear hKr hR
      by_cases hfar : q < s.size
      · have j3 : (q : Int) < (s.size : Int) := by omega
        have jn : ((((s[i]'hlt).toNat : Nat) : Int) != (((s[q]'hfar).toNat : Nat) : Int)) = false := by
          rw [HSS.out i hlt hFi, HSS.out q hfar (by omega)]
          rw [hq]
          have e1 : e i = e (i + P) := by
            have h1 := HE.out i (by omega)
            have h2 := HE.out (i + P) (by omega)
            rw [show i + P - u = i - u + P by omega, Nat.add_mod_right] at h2
            cases h : e i
            · cases h' : e (i + P)
              · rfl
              · rw [h1.2 (h2.1 h')] at h; cases h
            · rw [h2.2 (h1.1 h)]
          rw [e1]
          simp
        clear hq
        go_wp2
        refine wp_region_quiet_below (by kernel_rfl) (by kernel_rfl) ?_
        repeat (go_big_quiet_step (fail))
        refine wpQuiet_nil ?_
        intro w5 hw5
        have hB5 := bthen hB (rg_below hw5)
        have HB5 := hidden hB5
        clear hw5 c0 l0 HB9 hB hB5
        go_wp2
        go_loopw [8, 9] (fun a b wr => ∃ j k : Nat, Hid (k = i + j) ∧ j ≤ P ∧ k ≤ s.size ∧ a = .int .i64 (cntR R j) ∧ b = .int .i64 (k : Int) ∧ Below w0.heap.size w0 wr) (fun _ b _ => s.size - (intV b).toNat)
        case atStart => exact ⟨0, i, rfl, Nat.zero_le _, by omega, rfl, rfl, HB5.out⟩
        case round =>
          obtain ⟨j, k, HKJ, hj, hjN, rfl, rfl, hB6⟩ := hrel
          have hKr := blk_later HK.out hB6
          have c0 := blk_cell hKr
          have l0 := blk_lt hKr
          have HB6 := hidden hB6
          clear hKr hB6
          have k2 : (0 : Int) ≤ (k : Int) := by omega
          by_cases hjJ : j < P ∧ k < s.size
          · have k3 : (k : Int) < (q : Int) := by have := HQ.out; have := HKJ.out; omega
            have k4 : (k : Int) < (s.size : Int) := by omega
            have k5 : k < s.size := hjJ.2
            have hbyte := HSS.out k k5 (by have := HKJ.out; omega)
            have hone := HR.out j hjJ.1
            by_cases hjr : j = R
            · have e1 : e k = true := (congrArg e HKJ.out).trans (hone.2 hjr)
              rw [e1] at hbyte
              have k6 : ((((s[k]'k5).toNat : Nat) : Int) == 49) = true := by rw [hbyte]; rfl
              have HC : Hid (cntR R (j + 1) = 1) := by show _ = _; unfold cntR; rw [if_pos (by omega)]
              have hc0 : cntR R j = 0 := by unfold cntR; rw [if_neg (by omega)]
              rw [hc0]
              clear hone hjr e1 hbyte hc0
              go_wp2
              go_roundw
              case rel => exact ⟨j + 1, k + 1, (by have := HKJ.out; show _ = _; omega), by omega, by omega, by rw [HC.out], by go_num, HB6.out⟩
              case measure => simp [intV]; omega
            · have e1 : e k = false := (congrArg e HKJ.out).trans (by cases h : e (i + j) <;> first | rfl | exact absurd (hone.1 h) hjr)
              rw [e1] at hbyte
              have k6 : ((((s[k]'k5).toNat : Nat) : Int) == 49) = false := by rw [hbyte]; rfl
              have HC : Hid (cntR R (j + 1) = cntR R j) := by
                show _ = _
                unfold cntR
                by_cases h : R < j
                · rw [if_pos h, if_pos (by omega)]
                · rw [if_neg h, if_neg (by omega)]
              generalize hcc : cntR R j = cc at *
              clear hone hjr e1 hbyte hcc
              go_wp2
              go_roundw
              case rel => exact ⟨j + 1, k + 1, (by have := HKJ.out; show _ = _; omega), by omega, by omega, by rw [HC.out], by go_num, HB6.out⟩
              case measure => simp [intV]; omega
          · have HBq := hidden (bthen HB0.out HB6.out)
            by_cases hjP : j = P
            · have hc : cntR R j = 1 := by unfold cntR; rw [if_pos (by omega)]
              rw [hc]
              have k3 : ¬ (k : Int) < (q : Int) := by have := HQ.out; have := HKJ.out; omega
              have k7 : decide ((q : Int) ≤ (s.size : Int)) = true := decide_eq_true (by have := HQ.out; have := HKJ.out; omega)
              have HX : Hid (F ≤ i + 1 ∧ (i + 1 ≤ F ∨ i + 1 ≤ s.size)) := ⟨by omega, .inr (by omega)⟩
              clear hjP
              clear hc hjJ
              go_wp2
              go_roundw
              case rel => exact ⟨i + 1, by omega, by omega, by go_num, HB6.out⟩
              case measure => simp [intV]; omega
            · exfalso
              have := HQ.out
              have := HKJ.out
              omega
      · have j3 : ¬ (q : Int) < (s.size : Int) := by omega
        have j3' : decide ((q : Int) < (s.size : Int)) = false := decide_eq_false j3
        clear hq
        go_wp2
        refine wp_region_quiet_below (by kernel_rfl) (by kernel_rfl) ?_
        repeat (go_big_quiet_step (fail))
        refine wpQuiet_nil ?_
        intro w5 hw5
        have hB5 := bthen hB (rg_below hw5)
        have HB5 := hidden hB5
        clear hw5 c0 l0 HB9 hB hB5
        go_wp2
        go_loopw [8, 9] (fun a b wr => ∃ j k : Nat, Hid (k = i + j) ∧ j ≤ P ∧ k ≤ s.size ∧ a = .int .i64 (cntR R j) ∧ b = .int .i64 (k : Int) ∧ Below w0.heap.size w0 wr) (fun _ b _ => s.size - (intV b).toNat)
        case atStart => exact ⟨0, i, rfl, Nat.zero_le _, by omega, rfl, rfl, HB5.out⟩
        case round =>
          obtain ⟨j, k, HKJ, hj, hjN, rfl, rfl, hB6⟩ := hrel
          have hKr := blk_later HK.out hB6
          have c0 := blk_cell hKr
          have l0 := blk_lt hKr
          have HB6 := hidden hB6
          clear hKr hB6
          have k2 : (0 : Int) ≤ (k : Int) := by omega
          by_cases hjJ : j < P ∧ k < s.size
          · have k3 : (k : Int) < (q : Int) := by have := HQ.out; have := HKJ.out; omega
            have k4 : (k : Int) < (s.size : Int) := by omega
            have k5 : k < s.size := hjJ.2
            have hbyte := HSS.out k k5 (by have := HKJ.out; omega)
            have hone := HR.out j hjJ.1
            by_cases hjr : j = R
            · have e1 : e k = true := (congrArg e HKJ.out).trans (hone.2 hjr)
              rw [e1] at hbyte
              have k6 : ((((s[k]'k5).toNat : Nat) : Int) == 49) = true := by rw [hbyte]; rfl
              have HC : Hid (cntR R (j + 1) = 1) := by show _ = _; unfold cntR; rw [if_pos (by omega)]
              have hc0 : cntR R j = 0 := by unfold cntR; rw [if_neg (by omega)]
              rw [hc0]
              clear hone hjr e1 hbyte hc0
              go_wp2
              go_roundw
              case rel => exact ⟨j + 1, k + 1, (by have := HKJ.out; show _ = _; omega), by omega, by omega, by rw [HC.out], by go_num, HB6.out⟩
              case measure => simp [intV]; omega
            · have e1 : e k = false := (congrArg e HKJ.out).trans (by cases h : e (i + j) <;> first | rfl | exact absurd (hone.1 h) hjr)
              rw [e1] at hbyte
              have k6 : ((((s[k]'k5).toNat : Nat) : Int) == 49) = false := by rw [hbyte]; rfl
              have HC : Hid (cntR R (j + 1) = cntR R j) := by
                show _ = _
                unfold cntR
                by_cases h : R < j
                · rw [if_pos h, if_pos (by omega)]
                · rw [if_neg h, if_neg (by omega)]
              generalize hcc : cntR R j = cc at *
              clear hone hjr e1 hbyte hcc
              go_wp2
              go_roundw
              case rel => exact ⟨j + 1, k + 1, (by have := HKJ.out; show _ = _; omega), by omega, by omega, by rw [HC.out], by go_num, HB6.out⟩
              case measure => simp [intV]; omega
          · have HBq := hidden (bthen HB0.out HB6.out)
            by_cases hjP : j = P
            · have hc : cntR R j = 1 := by unfold cntR; rw [if_pos (by omega)]
              rw [hc]
              have k3 : ¬ (k : Int) < (q : Int) := by have := HQ.out; have := HKJ.out; omega
              have k7 : decide ((q : Int) ≤ (s.size : Int)) = true := decide_eq_true (by have := HQ.out; have := HKJ.out; omega)
              have HX : Hid (F ≤ i + 1 ∧ (i + 1 ≤ F ∨ i + 1 ≤ s.size)) := ⟨by omega, .inr (by omega)⟩
              clear hjP
              clear hc hjJ
              go_wp2
              go_roundw
              case rel => exact ⟨i + 1, by omega, by omega, by go_num, HB6.out⟩
              case measure => simp [intV]; omega
            · have k3 : (k : Int) < (q : Int) := by have := HQ.out; have := HKJ.out; omega
              have k4 : ¬ (k : Int) < (s.size : Int) := by omega
              have k4' : decide ((k : Int) < (s.size : Int)) = false := decide_eq_false k4
              have k7 : decide ((q : Int) ≤ (s.size : Int)) = false := decide_eq_false (by have := HQ.out; have := HKJ.out; omega)
              have k8 : ¬ (1 : Int) < cntR R j := by unfold cntR; split <;> omega
              have k8' : decide ((1 : Int) < cntR R j) = false := decide_eq_false k8
              generalize cntR R j = cc at *
              clear hjJ
              go_wp2
              go_roundw
              case rel => exact ⟨i + 1, by omega, by omega, by go_num, HB6.out⟩
              case measure => simp [intV]; omega
    · have i1 : ¬ (i : Int) < (s.size : Int) := by omega
      clear hKr
      go_wp2
      go_ret
      exact ⟨rfl, HB9.out⟩
end Go.Proofs.Ytkolhbacgoafcab
