/- The calls isVote, counted, Count, Quorum, Some, Enough, Most and Least of package tally return what plain functions give, and make at most new memory; conditions: the table and the votes lie where they say, and lengths fit int. -/
import Derived.Test.YtohgmliafidalaaTalM
namespace Go.Proofs.Ytohgmliafidalaa
open Go.ChangeShapes Go.WideShapes Go.ChangeAt Go.RowKit
set_option linter.unusedVariables false

theorem isVote_any (v : Int) (w : World) :
    Calls Try.prog 156 #[.int .i64 v] w fun e w' => e = .returned (.bool (voteB v)) ∧ w = w' := by
  by_cases h : 0 ≤ v ∧ v < 3
  · have e := voteB_yes h.1 h.2
    obtain ⟨h1, h2⟩ := h
    have i1 : decide (v < 3) = true := by simp [h2]
    have i2 : decide (0 ≤ v) = true := by simp [h1]
    rw [e]; clear e
    go_enter Try.func156, Try.ntmps156
    go_wp2
    go_ret
    exact ⟨rfl, rfl⟩
  · have e := voteB_no h
    rw [e]; clear e
    by_cases h1 : 0 ≤ v
    · have i2 : decide (0 ≤ v) = true := by simp [h1]
      have i1 : decide (v < 3) = false := by simp; omega
      clear h
      go_enter Try.func156, Try.ntmps156
      go_wp2
      go_ret
      exact ⟨rfl, rfl⟩
    · have i2 : decide (0 ≤ v) = false := by simp; omega
      clear h
      go_enter Try.func156, Try.ntmps156
      go_wp2
      go_ret
      exact ⟨rfl, rfl⟩

set_option maxHeartbeats 2000000 in
theorem counted_any (ad : Option Addr) (len cap : Nat) (zs : List Int) (hlz : zs.length ≤ 9223372036854775807) (w : World) (hZ : kInt.Lies w.heap.size w (.slice ad len cap) zs) :
    Calls Try.prog 151 #[.slice ad len cap] w fun e w' => e = .returned (.agg #[.int .i64 (cntL 0 zs : Int), .int .i64 (cntL 1 zs : Int), .int .i64 (cntL 2 zs : Int)]) ∧ Below w.heap.size w w' := by
  obtain rfl := hZ.len
  go_enter Try.func151, Try.ntmps151
  go_wp2
  go_loopw [8] (fun i wr => ∃ k : Nat, k ≤ zs.length ∧ i = .int .i64 k ∧ wr = (w.alloc (.cells #[.int .i64 0, .int .i64 0, .int .i64 0] 170)).alloc (.cells #[.int .i64 (cntL 0 (zs.take k) : Int), .int .i64 (cntL 1 (zs.take k) : Int), .int .i64 (cntL 2 (zs.take k) : Int)] 170)) (fun i _ => zs.length - (intV i).toNat)
  case atStart => exact ⟨0, Nat.zero_le _, rfl, rfl⟩
  case round =>
    obtain ⟨k, hk, rfl, rfl⟩ := hrel
    by_cases hlt : k < zs.length
    · obtain ⟨b, off, rfl, hbl, e0⟩ := kInt_at hZ k hlt
      have f0 : ∀ o1 o2, ((w.alloc o1).alloc o2).cell? ⟨b, off + k, none⟩ = some (.int .i64 zs[k]) := fun o1 o2 => ((((Below.refl _ w).alloc (Nat.le_refl _) o1).alloc (by simp) o2).cell (p := ⟨b, off + k, none⟩) hbl).trans e0
      have hsn := fun v => cntL_snoc v (zs.take k) zs[k]
      rw [← take_snocV zs hlt] at hsn
      have hle := fun v => cntL_le v (zs.take k)
      rw [List.length_take, Nat.min_eq_left hk] at hle
      have l0 := hle 0
      have l1 := hle 1
      have l2 := hle 2
      have s0 := hsn 0
      have s1 := hsn 1
      have s2 := hsn 2
      clear hsn hle
      generalize zs[k] = z at f0 s0 s1 s2
      generalize cntL 0 (zs.take k) = c0 at *
      generalize cntL 1 (zs.take k) = c1 at *
      generalize cntL 2 (zs.take k) = c2 at *
      have HS0 := hidden s0
      have HS1 := hidden s1
      have HS2 := hidden s2
      have i1 : (0 : Int) ≤ (k : Int) := by omega
      have i2 : (k : Int) < (zs.length : Int) := by omega
      clear s0 s1 s2 e0 hZ
      by_cases hz : 0 ≤ z ∧ z < 3
      · have HV := hidden (voteB_yes hz.1 hz.2)
        have hz6 : z = 0 ∨ z = 1 ∨ z = 2 := by omega
        clear hz
        rcases hz6 with rfl | rfl | rfl
        all_goals
          go_wp2_with (go_at_call 156; refine (isVote_any _ _).mono ?_; rintro e w' ⟨rfl, rfl⟩; rw [HV.out])
          go_roundw
          case rel => exact ⟨k + 1, by omega, by go_num, by rw [HS0.out, HS1.out, HS2.out]; rfl⟩
          case measure => simp [intV]; omega
      · have HV := hidden (voteB_no hz)
        have HZ := hidden hz
        clear hz
        go_wp2_with (go_at_call 156; refine (isVote_any _ _).mono ?_; rintro e w' ⟨rfl, rfl⟩; rw [HV.out])
        go_roundw
        case rel => exact ⟨k + 1, by omega, by go_num, by rw [HS0.out, HS1.out, HS2.out, if_neg (by have := HZ.out; omega), if_neg (by have := HZ.out; omega), if_neg (by have := HZ.out; omega)]; rfl⟩
        case measure => simp [intV]; omega
    · obtain rfl : k = zs.length := by omega
      rw [List.take_length]
      go_wp2
      exact bodyPost_ret (v := .agg #[.int .i64 (cntL 0 zs : Int), .int .i64 (cntL 1 zs : Int), .int .i64 (cntL 2 zs : Int)]) (by simp [results, Try.results151, go_sem]) rfl ⟨rfl, (((Below.refl _ w).alloc (Nat.le_refl _) _).alloc (by simp) _)⟩

theorem idx3_0 (x y z : Value) (w : World) : (Instr.index 170 (.agg #[x, y, z]) (.int .i64 0)).run Try.prog w = .ok x w := by kernel_rfl
theorem idx3_1 (x y z : Value) (w : World) : (Instr.index 170 (.agg #[x, y, z]) (.int .i64 1)).run Try.prog w = .ok y w := by kernel_rfl
theorem idx3_2 (x y z : Value) (w : World) : (Instr.index 170 (.agg #[x, y, z]) (.int .i64 2)).run Try.prog w = .ok z w := by kernel_rfl
attribute [local go_sem] idx3_0 idx3_1 idx3_2 in
set_option maxHeartbeats 1000000 in
theorem TCount_any (v : Int) (ad : Option Addr) (len cap : Nat) (zs : List Int) (hlz : zs.length ≤ 9223372036854775807) (w : World) (hZ : kInt.Lies w.heap.size w (.slice ad len cap) zs) :
    Calls Try.prog 153 #[.int .i64 v, .slice ad len cap] w fun e w' => e = .returned (.int .i64 (cntF v zs)) ∧ Below w.heap.size w w' := by
  by_cases hz : 0 ≤ v ∧ v < 3
  · have HV := hidden (voteB_yes hz.1 hz.2)
    have hz6 : v = 0 ∨ v = 1 ∨ v = 2 := by omega
    have HC := hidden (cntF_in hz.1 hz.2 zs)
    clear hz
    rcases hz6 with rfl | rfl | rfl
    all_goals
      go_enter Try.func153, Try.ntmps153
      go_wp2_with fail
      refine (isVote_any _ _).mono ?_
      rintro e w' ⟨rfl, rfl⟩
      rw [HV.out]
      go_wp2_with fail
      refine (counted_any _ _ _ _ hlz _ hZ).mono ?_
      rintro e w2 ⟨rfl, hb⟩
      go_wp2
      go_ret
      exact ⟨ret_i HC.out.symm, hb⟩
  · have HV := hidden (voteB_no hz)
    have HC := hidden (cntF_out hz zs)
    clear hz
    go_enter Try.func153, Try.ntmps153
    go_wp2_with fail
    refine (isVote_any _ _).mono ?_
    rintro e w' ⟨rfl, rfl⟩
    rw [HV.out]
    go_wp2
    go_ret
    exact ⟨ret_i HC.out.symm, Below.refl _ _⟩
end Go.Proofs.Ytohgmliafidalaa
