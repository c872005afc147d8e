/- The walk of the statement PlanKings: the call returns true, and makes at most new memory; conditions: the table lies where it says, and its length fits int. -/
import Derived.Test.YtgfdfakffkhekaaPlaR
import Derived.Test.YtgfdfakffkhekaaPlaK
namespace Go.Proofs.Ytgfdfakffkhekaa.LawPlanKings
open Go.ChangeShapes Go.WideShapes Go.ChangeAt Go.RowKit
set_option linter.unusedVariables false
attribute [local go_sem] cell_rg

/-- When an exchange is heard. -/
theorem hear_at {R x : Nat} {d : Int} (hd : 1 ≤ d ∧ d ≤ 4) (hx : x < R) (age : Int) : hearF R d age = (x : Int) ↔ (x : Int) * d + d = age := by
  constructor
  · intro h
    by_cases e : (x : Int) * d + d = age
    · exact e
    · exfalso
      have h0 : ∀ y : Nat, hearF R d age = (y : Int) → hearB d age y = true := by
        intro y hy
        unfold hearF firstF at hy
        cases hf : (List.range R).find? (hearB d age) with
        | none => rw [hf] at hy; simp only at hy; omega
        | some z =>
          rw [hf] at hy
          have hz : z = y := by simp only at hy; omega
          rw [← hz]
          exact List.find?_some hf
      exact e (of_decide_eq_true (h0 x h))
  · intro h
    refine first_hit hx (decide_eq_true h) fun j hj => decide_eq_false ?_
    have h1 : (j : Int) * d + d ≤ (x : Int) * d := by
      have hd : d = 1 ∨ d = 2 ∨ d = 3 ∨ d = 4 := by omega
      rcases hd with rfl | rfl | rfl | rfl <;> omega
    omega
theorem mul_lt_of {x y : Nat} {d : Int} (hd : 1 ≤ d ∧ d ≤ 4) (h : x < y) : 0 ≤ (x : Int) * d ∧ (x : Int) * d + d ≤ (y : Int) * d := by
  have hd : d = 1 ∨ d = 2 ∨ d = 3 ∨ d = 4 := by omega
  rcases hd with rfl | rfl | rfl | rfl <;> omega
/-- How often an exchange has been heard, ahead of an age. -/
def onceF (q : Int) (k : Nat) : Int := if q < k then 1 else 0
theorem onceF_0 {q : Int} (h : 0 ≤ q) : onceF q 0 = 0 := if_neg (by omega)
theorem onceF_hit {q : Int} {k : Nat} (h : q = k) : onceF q k = 0 ∧ onceF q (k + 1) = 1 := ⟨if_neg (by omega), if_pos (by omega)⟩
theorem onceF_miss {q : Int} {k : Nat} (h : ¬ q = k) : onceF q (k + 1) = onceF q k := by
  unfold onceF
  by_cases h2 : q < k
  · rw [if_pos h2, if_pos (by omega)]
  · rw [if_neg h2, if_neg (by omega)]
theorem onceF_end {q : Int} {k : Nat} (h : q < k) : onceF q k = 1 := if_pos h
theorem onceF_bd (q : Int) (k : Nat) : 0 ≤ onceF q k ∧ onceF q k ≤ 1 := by unfold onceF; split <;> omega

set_option maxHeartbeats 4000000 in
theorem walk (n f d p r dr o sl md fr : Int) (ad : Option Addr) (cap : Nat) (zs : List Int) (w : World) (hl : zs.length ≤ 9223372036854775807) (hT : Tab w ad zs) :
    Calls Try.prog 6 #[.agg #[.int .i64 n, .int .i64 f, .int .i64 d, .int .i64 p, .int .i64 r, .int .i64 dr, .int .i64 o, .int .i64 sl, .int .i64 md, .int .i64 fr, .slice ad zs.length cap]] w fun e w' => e = .returned (.bool true) ∧ Below w.heap.size w w' := by
  have HT : Hid (Tab (w.alloc (.cells #[.int .i64 n, .int .i64 f, .int .i64 d, .int .i64 p, .int .i64 r, .int .i64 dr, .int .i64 o, .int .i64 sl, .int .i64 md, .int .i64 fr, .slice ad zs.length cap] 24)) ad zs) := hT.below (ballc _ _)
  have HK : Hid ((w.alloc (.cells #[.int .i64 n, .int .i64 f, .int .i64 d, .int .i64 p, .int .i64 r, .int .i64 dr, .int .i64 o, .int .i64 sl, .int .i64 md, .int .i64 fr, .slice ad zs.length cap] 24)).heap[w.heap.size]? = some (.cells #[.int .i64 n, .int .i64 f, .int .i64 d, .int .i64 p, .int .i64 r, .int .i64 dr, .int .i64 o, .int .i64 sl, .int .i64 md, .int .i64 fr, .slice ad zs.length cap] 24 (0, 0))) := blk_nw w _ _
  have P0 := hidden (refPlain_any n f d p r dr o sl md fr ad cap zs (w.alloc (.cells #[.int .i64 n, .int .i64 f, .int .i64 d, .int .i64 p, .int .i64 r, .int .i64 dr, .int .i64 o, .int .i64 sl, .int .i64 md, .int .i64 fr, .slice ad zs.length cap] 24)) hl HT.out)
  have KN := hidden (fun V => known15_any V)
  obtain ⟨R, hR, hR15, hd, hok, hno⟩ := rounds_nat n f d p r dr o sl md fr ad cap zs
  have A1 := hidden (fun age V h => Hears_any n f d p r dr o sl md fr ad cap zs age R hR15 hd V hl h hR)
  have B1 := hidden (fun x hx V h => PKing_any n f d p r dr o sl md fr ad cap zs x R hx V hl h hR)
  have C1 := hidden (fun V h => refRounds_any n f d p r dr o sl md fr ad cap zs V hl h)
  have L1 := hidden (fun V h => refLength_any n f d p r dr o sl md fr ad cap zs V hl h)
  rw [hR] at C1
  clear hT
  have HB0 := hidden (ballc w (.cells #[.int .i64 n, .int .i64 f, .int .i64 d, .int .i64 p, .int .i64 r, .int .i64 dr, .int .i64 o, .int .i64 sl, .int .i64 md, .int .i64 fr, .slice ad zs.length cap] 24))
  by_cases hp : plainE n f d p r dr o sl md fr zs = 0
  · obtain ⟨hRf, d1, d2, f1, fn⟩ := hok hp
    have hd4 : 1 ≤ d ∧ d ≤ 4 := ⟨d1, d2⟩
    rw [hp] at P0 L1
    rw [gate_ok, ← hRf] at L1
    have HD4 := hidden hd4
    have HH := hidden (fun (x : Nat) (hx : x < R) age => hear_at (R := R) (x := x) hd4 hx age)
    have HM := hidden (fun (x y : Nat) (h : x < y) => mul_lt_of hd4 h)
    obtain ⟨L, hL⟩ : ∃ L : Nat, (L : Int) = (R : Int) * d := ⟨((R : Int) * d).toNat, by have := (mul_lt_of hd4 (show 0 < R by omega)); omega⟩
    have hL60 : L ≤ 60 := by
      have hd : d = 1 ∨ d = 2 ∨ d = 3 ∨ d = 4 := by omega
      rcases hd with rfl | rfl | rfl | rfl <;> omega
    rw [← hL] at L1
    have HL := hidden hL
    have HF : Hid (∀ x : Nat, x < R → 0 ≤ ((x / 3 : Nat) : Int) ∧ ((x / 3 : Nat) : Int) < n) := fun x hx => by omega
    clear hR hd hok hno hp hL hd4 d1 d2 f1 fn hRf
    go_enter Try.func6, Try.ntmps6
    go_wp2_with fail
    refine P0.out.mono ?_
    rintro e w2 ⟨rfl, hb⟩
    have HT2 := hidden (HT.out.below hb)
    have HK2 := hidden (blk_later HK.out hb)
    have HB2 := hidden (bthen HB0.out hb)
    clear hb P0 HT HK
    go_wp2
    go_loopw [3] (fun i wr => ∃ x : Nat, x ≤ R ∧ i = .int .i64 x ∧ Below w2.heap.size w2 wr) (fun i _ => R - (intV i).toNat)
    case atStart => exact ⟨0, Nat.zero_le _, rfl, Below.refl _ _⟩
    case round =>
      obtain ⟨x, hx, rfl, hB⟩ := hrel
      have HBr := hidden hB
      clear hB
      have HKr := hidden (blk_later HK2.out HBr.out)
      have c0 := fun i => blk_cell HKr.out i
      have l0 := blk_lt HKr.out
      go_wp2_with fail
      refine (C1.out _ (HT2.out.below HBr.out)).mono ?_
      rintro e w3 ⟨rfl, hb⟩
      have HB3 := hidden (bthen HBr.out hb)
      clear hb c0 l0 HKr HBr
      have HK3 := hidden (blk_later HK2.out HB3.out)
      have c0 := fun i => blk_cell HK3.out i
      have l0 := blk_lt HK3.out
      by_cases hlt : x < R
      · have i1 : (x : Int) < (R : Int) := by omega
        have HX := hidden (fun age => HH.out x hlt age)
        have HQ : Hid (0 ≤ (x : Int) * d + d ∧ (x : Int) * d + d ≤ (L : Int)) := by
          have h1 := HM.out x R hlt
          have h2 := HL.out
          have h3 := HM.out x (x + 1) (by omega)
          have h4 := HD4.out
          exact ⟨by omega, by omega⟩
        have HFx := hidden (HF.out x hlt)
        obtain ⟨q, hq⟩ : ∃ q : Int, q = (x : Int) * d + d := ⟨_, rfl⟩
        rw [← hq] at HQ
        have HX2 : Hid (∀ age, hearF R d age = (x : Int) ↔ q = age) := fun age => by rw [hq]; exact HX.out age
        clear HX hq
        go_wp2
        obtain ⟨wY, rfl⟩ : ∃ wY, wY = w3 := ⟨_, rfl⟩
        go_loopw [4, 5] (fun a i wr => ∃ k : Nat, k ≤ L + 1 ∧ i = .int .i64 k ∧ a = .int .i64 (onceF q k) ∧ Below wY.heap.size wY wr) (fun _ i _ => L + 1 - (intV i).toNat)
        case atStart => exact ⟨0, by omega, rfl, by rw [onceF_0 HQ.out.1], Below.refl _ _⟩
        case round =>
          obtain ⟨k, hk, rfl, rfl, hB⟩ := hrel
          have HBr := hidden hB
          clear hB c0 l0
          have HKr := hidden (blk_later HK3.out HBr.out)
          have c0 := fun i => blk_cell HKr.out i
          have l0 := blk_lt HKr.out
          go_wp2_with fail
          refine (L1.out _ (HT2.out.below (bthen HB3.out HBr.out))).mono ?_
          rintro e w4 ⟨rfl, hb⟩
          have HB4 := hidden (bthen HBr.out hb)
          clear hb c0 l0 HKr HBr
          have HK4 := hidden (blk_later HK3.out HB4.out)
          have c0 := fun i => blk_cell HK4.out i
          have l0 := blk_lt HK4.out
          by_cases hle : (k : Int) ≤ (L : Int)
          · have hob := onceF_bd q k
            go_wp2_with fail
            refine (A1.out (k : Int) _ (HT2.out.below (bthen HB3.out HB4.out))).mono ?_
            rintro e w5 ⟨rfl, hb⟩
            have HB5 := hidden (bthen HB4.out hb)
            clear hb c0 l0 HK4 HB4
            by_cases hqk : q = (k : Int)
            · have j : (hearF R d (k : Int) == (x : Int)) = true := by rw [beq_iff_eq]; exact (HX2.out _).2 hqk
              obtain ⟨o1, o2⟩ := onceF_hit hqk
              have HO2 := hidden o2
              rw [o1]
              generalize hearF R d (k : Int) = hv at *
              clear hqk o1 o2 hob
              go_wp2
              go_roundw
              case rel => exact ⟨k + 1, by omega, by go_num, by rw [HO2.out], HB5.out⟩
              case measure => simp [intV]; omega
            · have j : (hearF R d (k : Int) == (x : Int)) = false := by rw [beq_eq_false_iff_ne]; intro h; exact hqk ((HX2.out _).1 h)
              have HO2 := hidden (onceF_miss hqk)
              generalize hearF R d (k : Int) = hv at *
              clear hqk
              go_wp2
              go_roundw
              case rel => exact ⟨k + 1, by omega, by go_num, by rw [HO2.out], HB5.out⟩
              case measure => simp [intV]; omega
          · have hke : k = L + 1 := by omega
            have ho := onceF_end (q := q) (k := k) (by have := HQ.out; omega)
            rw [ho]
            clear ho hke
            have hx64 : -9223372036854775808 ≤ (x : Int) ∧ (x : Int) ≤ 9223372036854775807 := by omega
            have HKx : Hid (kingF R (x : Int) = ((x / 3 : Nat) : Int)) := (kingF_in (by omega) (by omega)).trans (by omega)
            go_wp2_with fail
            refine (B1.out (x : Int) hx64 _ (HT2.out.below (bthen HB3.out HB4.out))).mono ?_
            rintro e w5 ⟨rfl, hb⟩
            have HB5 := hidden (bthen HB4.out hb)
            clear hb c0 l0 HK4 HB4 hx64
            have HK5 := hidden (blk_later HK3.out HB5.out)
            have c0 := fun i => blk_cell HK5.out i
            have l0 := blk_lt HK5.out
            rw [HKx.out]
            obtain ⟨m, hm⟩ : ∃ m : Nat, m = x / 3 := ⟨_, rfl⟩
            have HMX : Hid (m = x / 3) := hm
            rw [← hm]
            have g1 : decide ((m : Int) < 0) = false := decide_eq_false (by omega)
            have g2 : decide (n ≤ (m : Int)) = false := decide_eq_false (by have := HFx.out.2; rw [← hm] at this; omega)
            clear hm hle
            go_wp2
            clear g1 g2
            obtain ⟨wZ, rfl⟩ : ∃ wZ, wZ = w5 := ⟨_, rfl⟩
            go_loopw [7] (fun i wr => ∃ y : Nat, y ≤ x ∧ i = .int .i64 y ∧ Below wZ.heap.size wZ wr) (fun i _ => x - (intV i).toNat)
            case atStart => exact ⟨0, Nat.zero_le _, rfl, Below.refl _ _⟩
            case round =>
              obtain ⟨y, hy, rfl, hB⟩ := hrel
              have HBr := hidden hB
              clear hB c0 l0
              have HKr := hidden (blk_later HK5.out HBr.out)
              have c0 := fun i => blk_cell HKr.out i
              have l0 := blk_lt HKr.out
              by_cases hyx : y < x
              · have i2 : (y : Int) < (x : Int) := by omega
                have hy64 : -9223372036854775808 ≤ (y : Int) ∧ (y : Int) ≤ 9223372036854775807 := by omega
                have HKy : Hid (kingF R (y : Int) = ((y / 3 : Nat) : Int)) := (kingF_in (by omega) (by omega)).trans (by omega)
                go_wp2_with fail
                refine (B1.out (y : Int) hy64 _ (HT2.out.below (bthen HB3.out (bthen HB5.out HBr.out)))).mono ?_
                rintro e w6 ⟨rfl, hb⟩
                have HB6 := hidden (bthen HBr.out hb)
                clear hb c0 l0 HKr HBr hy64
                rw [HKy.out]
                have t1 : (y : Int).tdiv 3 = ((y / 3 : Nat) : Int) := by rw [Int.tdiv_eq_ediv_of_nonneg (by omega)]; omega
                have t2 : (x : Int).tdiv 3 = (m : Int) := by rw [Int.tdiv_eq_ediv_of_nonneg (by omega)]; have := HMX.out; omega
                have y0 : y / 3 ≤ y := by omega
                have m0 : m ≤ x := by have := HMX.out; omega
                have w1 : wrap64 ((y / 3 : Nat) : Int) = ((y / 3 : Nat) : Int) := by unfold wrap64; omega
                have w2 : wrap64 (m : Int) = (m : Int) := by unfold wrap64; omega
                have j : (!(((y / 3 : Nat) : Int) == (m : Int)) == (wrap64 ((y / 3 : Nat) : Int) == wrap64 (m : Int))) = false := by rw [w1, w2]; cases (((y / 3 : Nat) : Int) == (m : Int)) <;> rfl
                clear y0 m0 w1 w2
                generalize ((y / 3 : Nat) : Int) = yy at *
                go_wp2
                go_roundw
                case rel => exact ⟨y + 1, by omega, by go_num, HB6.out⟩
                case measure => simp [intV]; omega
              · obtain rfl : y = x := by omega
                have i2 : ¬ (y : Int) < (y : Int) := by omega
                go_wp2
                go_roundw
                case rel => exact ⟨y + 1, by omega, by go_num, bthen HB3.out (bthen HB5.out HBr.out)⟩
                case measure => simp [intV]; omega
      · obtain rfl : x = R := by omega
        have i2 : ¬ (x : Int) < (x : Int) := by omega
        go_wp2_with fail
        refine (KN.out _).mono ?_
        rintro e w4 ⟨rfl, hb⟩
        have HB4 := hidden (bthen HB2.out (bthen HB3.out hb))
        clear hb
        go_wp2
        go_ret
        exact ⟨rfl, HB4.out⟩
  · have h0 := hidden (hno hp)
    have hx64 : -9223372036854775808 ≤ (0 : Int) ∧ (0 : Int) ≤ 9223372036854775807 := by decide
    have HZ : Hid (kingF R 0 = -1) := kingF_hi (by rw [h0.out]; decide)
    generalize plainE n f d p r dr o sl md fr zs = E at *
    have hE2 : (E != 0) = true := by simp [hp]
    clear hR hok hno A1 C1 L1 hd
    go_enter Try.func6, Try.ntmps6
    go_wp2_with fail
    refine P0.out.mono ?_
    rintro e w2 ⟨rfl, hb⟩
    have HB2 := hidden hb
    obtain ⟨hbox, hsz⟩ := box_at HB2.out
    clear hb
    go_wp2_with fail
    refine (B1.out 0 hx64 _ (HT.out.below HB2.out)).mono ?_
    rintro e w3 ⟨rfl, hb⟩
    have HB3 := hidden (bthen HB2.out hb)
    clear hb hbox hsz
    rw [HZ.out]
    go_wp2_with fail
    refine (KN.out _).mono ?_
    rintro e w4 ⟨rfl, hb⟩
    have HB4 := hidden (bthen HB0.out (bthen HB3.out hb))
    clear hb
    go_wp2
    go_ret
    exact ⟨rfl, HB4.out⟩
end Go.Proofs.Ytgfdfakffkhekaa.LawPlanKings
