/- The document's calls pack, plain, Encode and Size for wires return the bytes that plain functions give, and make at most new memory; conditions: the text has digits alone, the packet is right as far as its bytes ask, the table lies where it says. -/
import Derived.Test.YtcnmbpgjgjncdaaWireB
import Derived.Test.YtcnmbpgjgjncdaaCrcRef
import Derived.Test.YtcnmbpgjgjncdaaWireC
import Derived.Test.YtcnmbpgjgjncdaaPacQ
namespace Go.Proofs.Ytcnmbpgjgjncdaa
open Go.ChangeShapes Go.WideShapes Go.ChangeAt Go.RowKit
set_option linter.unusedVariables false
attribute [local go_sem] cell_rg

theorem rbyte_ba (n : Int) (w : World) (h0 : 0 ≤ n) (h1 : n < 256) :
    Calls Try.prog 51 #[.int .i64 n] w fun e w' => e = .returned (.string (ba [UInt8.ofNat n.toNat])) ∧ Below w.heap.size w w' := by
  have C := rbyte_any n w
  have e : n % 256 = n := by omega
  rw [e, numStr_one] at C
  exact C
/-- The first digits of four. -/
def pkT (l : List UInt8) (q t : Nat) : Nat := (if 0 < t then dgL l (4 * q) else 0) + (if 1 < t then 4 * dgL l (4 * q + 1) else 0) + (if 2 < t then 16 * dgL l (4 * q + 2) else 0) + (if 3 < t then 64 * dgL l (4 * q + 3) else 0)
theorem dgL_out (l : List UInt8) (k : Nat) (h : l.length ≤ k) : dgL l k = 0 := by
  unfold dgL
  rw [List.getD_eq_getElem?_getD, List.getElem?_eq_none h]
  decide
theorem pkT_done (l : List UInt8) (q t : Nat) (ht : t ≤ 4) (h : t = 4 ∨ l.length ≤ 4 * q + t) : pkT l q t = pkN l q := by
  unfold pkT pkN
  rcases h with rfl | h
  · simp
  · have e0 : ¬ 0 < t → dgL l (4 * q) = 0 := fun k => dgL_out l _ (by omega)
    have e1 : ¬ 1 < t → dgL l (4 * q + 1) = 0 := fun k => dgL_out l _ (by omega)
    have e2 : ¬ 2 < t → dgL l (4 * q + 2) = 0 := fun k => dgL_out l _ (by omega)
    have e3 : ¬ 3 < t → dgL l (4 * q + 3) = 0 := fun k => dgL_out l _ (by omega)
    repeat' split
    all_goals (try rw [e0 (by assumption)]) <;> (try rw [e1 (by assumption)]) <;> (try rw [e2 (by assumption)]) <;> (try rw [e3 (by assumption)])
    all_goals omega
theorem pkT_step (l : List UInt8) (q t : Nat) (ht : t < 4) : pkT l q (t + 1) = pkT l q t + 4 ^ t * dgL l (4 * q + t) := by
  unfold pkT
  obtain rfl | rfl | rfl | rfl : t = 0 ∨ t = 1 ∨ t = 2 ∨ t = 3 := by omega
  all_goals simp
theorem pkT_le {l : List UInt8} (h : DigL l) (q t : Nat) : pkT l q t ≤ 170 := by
  have h0 := dgL_le h (4 * q)
  have h1 := dgL_le h (4 * q + 1)
  have h2 := dgL_le h (4 * q + 2)
  have h3 := dgL_le h (4 * q + 3)
  unfold pkT
  repeat' split
  all_goals omega
def pkH (l : List UInt8) (q : Nat) : List UInt8 := (List.range q).map fun j => UInt8.ofNat (pkN l j)
theorem pkH_step (l : List UInt8) (q : Nat) : pkH l q ++ [UInt8.ofNat (pkN l q)] = pkH l (q + 1) := by simp [pkH, List.range_succ]
theorem pkH_length (l : List UInt8) (q : Nat) : (pkH l q).length = q := by simp [pkH]
theorem w_sum (T d t : Nat) (ht : t < 4) (hT : T ≤ 170) (hd : d ≤ 2) : wrap64 ((T : Int) + wrap64 (4 ^ t * (d : Int))) = ((T + 4 ^ t * d : Nat) : Int) := by
  obtain rfl | rfl | rfl | rfl : t = 0 ∨ t = 1 ∨ t = 2 ∨ t = 3 := by omega
  all_goals (unfold wrap64; omega)
theorem w_pow (t : Nat) (ht : t < 4) : wrap64 (4 * 4 ^ t) = ((4 ^ (t + 1) : Nat) : Int) := by
  obtain rfl | rfl | rfl | rfl : t = 0 ∨ t = 1 ∨ t = 2 ∨ t = 3 := by omega
  all_goals (unfold wrap64; omega)
set_option maxHeartbeats 1000000 in
theorem rpack_any (s : ByteArray) (w : World) (hd : DigL (bl s)) (hs : s.size ≤ 1000) :
    Calls Try.prog 52 #[.string s] w fun e w' => e = .returned (.string (ba (pkL (bl s)))) ∧ Below w.heap.size w w' := by
  go_enter Try.func52, Try.ntmps52
  go_wp2
  go_loopw [3, 4, 5, 6, 7] (fun v i _ _ _ wr => ∃ q : Nat, q ≤ (s.size + 3) / 4 ∧ i = .int .i64 ((4 * q : Nat) : Int) ∧ v = .string (ba (pkH (bl s) q)) ∧ Below w.heap.size w wr) (fun _ i _ _ _ _ => s.size + 4 - (intV i).toNat)
  case atStart => exact ⟨0, Nat.zero_le _, rfl, rfl, Below.refl _ _⟩
  case round =>
    obtain ⟨q, hq, rfl, rfl, hB⟩ := hrel
    by_cases hlt : 4 * q < s.size
    · have i2 : ((4 * q : Nat) : Int) < (s.size : Int) := by omega
      have HH := hidden (pkH_step (bl s) q)
      have hl0 : (ba (pkH (bl s) q)).size ≤ 1000 := by rw [ba_size, pkH_length]; omega
      have HS := hidden hB
      clear hB
      generalize pkH (bl s) q = H at *
      generalize h4 : 4 * q = Q at *
      go_wp2
      go_loop [5, 6, 7] (fun a b c => ∃ t : Nat, t ≤ 4 ∧ Q + t ≤ s.size ∧ a = .int .i64 (pkT (bl s) q t : Int) ∧ b = .int .i64 ((4 ^ t : Nat) : Int) ∧ c = .int .i64 ((Q + t : Nat) : Int)) (fun _ _ c => Q + 4 - (intV c).toNat)
      case atStart => exact ⟨0, by omega, by omega, rfl, rfl, rfl⟩
      case round =>
        obtain ⟨t, ht, hts, rfl, rfl, rfl⟩ := hrel
        have hT := pkT_le hd q t
        by_cases ht4 : t < 4
        · have j1 : ((Q + t : Nat) : Int) < (Q : Int) + 4 := by omega
          by_cases hin : Q + t < s.size
          · have j2 : ((Q + t : Nat) : Int) < (s.size : Int) := by omega
            have hst := pkT_step (bl s) q t ht4
            have hdg := dgL_bl s hd (Q + t) hin
            have hdl := dgL_le hd (Q + t)
            rw [h4] at hst
            have HST := hidden hst
            have hd8 : ((s[Q + t].toNat : Int) - 48) % 256 = (dgL (bl s) (Q + t) : Int) := by rw [hdg]; omega
            have HD := hidden hdg
            clear hst hdg
            have hp4 : (4 ^ t : Nat) ≤ 64 := by
              have : t = 0 ∨ t = 1 ∨ t = 2 ∨ t = 3 := by omega
              rcases this with rfl | rfl | rfl | rfl <;> decide
            go_wp2
            go_round
            case rel =>
              refine ⟨t + 1, by omega, by omega, ?_, ?_, by go_num⟩
              · rw [w_sum _ _ _ ht4 hT hdl, HST.out]
              · rw [w_pow t ht4]
            case measure => simp [intV]; omega
          · have j2 : ¬ ((Q + t : Nat) : Int) < (s.size : Int) := by omega
            have j3 : decide (((Q + t : Nat) : Int) < (s.size : Int)) = false := by simp; omega
            have hdone := pkT_done (bl s) q t ht (by rw [bl_length]; omega)
            have hpl := pkN_lt hd q
            rw [hdone]
            have C := fun W => rbyte_ba (pkN (bl s) q : Int) W (by omega) (by omega)
            simp only [Int.toNat_natCast] at C
            have hone := one_size
            generalize pkN (bl s) q = N at *
            clear hT hdone
            go_wp2_with fail
            refine (C _).mono ?_
            rintro e w1 ⟨rfl, hb⟩
            go_wp2
            go_roundw
            case rel => exact ⟨q + 1, by omega, by rw [← h4]; go_num, by rw [ba_append, HH.out], bthen HS.out hb⟩
            case measure => simp [intV]; omega
        · have j1 : ¬ ((Q + t : Nat) : Int) < (Q : Int) + 4 := by omega
          have j3 : decide (((Q + t : Nat) : Int) < (Q : Int) + 4) = false := by simp; omega
          have hte : t = 4 := by omega
          have hdone := pkT_done (bl s) q t ht (by omega)
          have hpl := pkN_lt hd q
          rw [hdone]
          have C := fun W => rbyte_ba (pkN (bl s) q : Int) W (by omega) (by omega)
          simp only [Int.toNat_natCast] at C
          have hone := one_size
          generalize pkN (bl s) q = N at *
          clear hT hdone
          go_wp2_with fail
          refine (C _).mono ?_
          rintro e w1 ⟨rfl, hb⟩
          go_wp2
          go_roundw
          case rel => exact ⟨q + 1, by omega, by rw [← h4]; go_num, by rw [ba_append, HH.out], bthen HS.out hb⟩
          case measure => simp [intV]; omega
    · have hqe : q = (s.size + 3) / 4 := by omega
      have hpk : pkH (bl s) q = pkL (bl s) := by unfold pkH pkL; rw [bl_length, hqe]
      rw [hpk]
      go_wp2
      go_ret
      exact ⟨rfl, hB⟩
end Go.Proofs.Ytcnmbpgjgjncdaa
