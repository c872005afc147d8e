/- The calls Bump of package diag and of the document's answer return what a plain function gives, and make at most new memory; for rows that lie in memory and numbers that fit int. -/
import Derived.Test.YtjkliandhcegeaaDiaM
import Derived.Test.YtjkliandhcegeaaNumRef
namespace Go.Proofs.Ytjkliandhcegeaa
open Go.ChangeShapes Go.WideShapes Go.ChangeAt Go.RowKit
set_option linter.unusedVariables false

set_option maxHeartbeats 2000000 in
theorem Bump_any (x : Nat → Int) (hx : ∀ i, (Lit.int .i64 (x i)).wf = true) (ad : Option Addr) (len cap : Nat) (zs : List Int) (hlz : zs.length ≤ 9223372036854775807) (w : World) (hZ : kInt.Lies w.heap.size w (.slice ad len cap) zs) :
    Calls Try.prog 10 #[.agg #[.int .i64 (x 0), .int .i64 (x 1), .int .i64 (x 2), .int .i64 (x 3), .int .i64 (x 4), .int .i64 (x 5)], .slice ad len cap] w fun e w' => e = .returned (.agg #[.int .i64 ((bumpL x zs) 0), .int .i64 ((bumpL x zs) 1), .int .i64 ((bumpL x zs) 2), .int .i64 ((bumpL x zs) 3), .int .i64 ((bumpL x zs) 4), .int .i64 ((bumpL x zs) 5)]) ∧ Below w.heap.size w w' := by
  obtain rfl := hZ.len
  go_enter Try.func10, Try.ntmps10
  go_wp2
  go_loopw [9] (fun i wr => ∃ k : Nat, k ≤ zs.length ∧ i = .int .i64 k ∧ wr = (w.alloc (.cells #[.int .i64 ((bumpL x (zs.take k)) 0), .int .i64 ((bumpL x (zs.take k)) 1), .int .i64 ((bumpL x (zs.take k)) 2), .int .i64 ((bumpL x (zs.take k)) 3), .int .i64 ((bumpL x (zs.take k)) 4), .int .i64 ((bumpL x (zs.take k)) 5)] 22)).alloc (.cells #[.int .i64 0, .int .i64 0, .int .i64 0, .int .i64 0, .int .i64 0, .int .i64 0] 22)) (fun i _ => zs.length - (intV i).toNat)
  case atStart => exact ⟨0, Nat.zero_le _, rfl, rfl⟩
  case round =>
    obtain ⟨k, hk, rfl, rfl⟩ := hrel
    by_cases hlt : k < zs.length
    · obtain ⟨b, off, rfl, hbl, e0⟩ := kInt_at hZ k hlt
      have f0 : ∀ o1 o2, ((w.alloc o1).alloc o2).cell? ⟨b, off + k, none⟩ = some (.int .i64 zs[k]) := fun o1 o2 => ((((Below.refl _ w).alloc (Nat.le_refl _) o1).alloc (by simp) o2).cell (p := ⟨b, off + k, none⟩) hbl).trans e0
      have hsn : bumpL x (zs.take (k + 1)) = bump1 (bumpL x (zs.take k)) zs[k] := by rw [take_snocI zs hlt, bumpL_snoc]
      have hwf := bumpL_wf hx (zs.take k)
      generalize zs[k] = z at f0 hsn
      generalize bumpL x (zs.take k) = y at hsn hwf
      have HS := hidden hsn
      have HW := hidden hwf
      have i1 : (0 : Int) ≤ (k : Int) := by omega
      have i2 : (k : Int) < (zs.length : Int) := by omega
      clear hsn hwf e0 hZ hx
      by_cases hz : 0 ≤ z ∧ z < 6
      · have hz6 : z = 0 ∨ z = 1 ∨ z = 2 ∨ z = 3 ∨ z = 4 ∨ z = 5 := by omega
        clear hz
        rcases hz6 with rfl | rfl | rfl | rfl | rfl | rfl
        all_goals
          go_wp2_with (go_at_call 33; refine (sat_any _ _ _ (HW.out _) (by decide)).mono ?_; rintro e w' ⟨rfl, rfl⟩)
          go_roundw
          case rel => exact ⟨k + 1, by omega, by go_num, by rw [HS.out]; rfl⟩
          case measure => simp [intV]; omega
      · have HZ := hidden hz
        by_cases hz0 : 0 ≤ z
        · have q : ¬ z < 6 := by omega
          have q2 : decide (z < 6) = false := by simp; omega
          clear hz
          go_wp2
          go_roundw
          case rel => exact ⟨k + 1, by omega, by go_num, by rw [HS.out, six_congr (bump1_out y z HZ.out)]⟩
          case measure => simp [intV]; omega
        · have q2 : decide (0 ≤ z) = false := by simp; omega
          clear hz
          go_wp2
          go_roundw
          case rel => exact ⟨k + 1, by omega, by go_num, by rw [HS.out, six_congr (bump1_out y z HZ.out)]⟩
          case measure => simp [intV]; omega
    · obtain rfl : k = zs.length := by omega
      rw [List.take_length]
      go_wp2
      exact bodyPost_ret (v := .agg #[.int .i64 ((bumpL x zs) 0), .int .i64 ((bumpL x zs) 1), .int .i64 ((bumpL x zs) 2), .int .i64 ((bumpL x zs) 3), .int .i64 ((bumpL x zs) 4), .int .i64 ((bumpL x zs) 5)]) (by simp [results, Try.results10, go_sem]) rfl ⟨rfl, (((Below.refl _ w).alloc (Nat.le_refl _) _).alloc (by simp) _)⟩
set_option maxHeartbeats 2000000 in
theorem rBump_any (x : Nat → Int) (hx : ∀ i, (Lit.int .i64 (x i)).wf = true) (ad : Option Addr) (len cap : Nat) (zs : List Int) (hlz : zs.length ≤ 9223372036854775807) (w : World) (hZ : kInt.Lies w.heap.size w (.slice ad len cap) zs) :
    Calls Try.prog 11 #[.agg #[.int .i64 (x 0), .int .i64 (x 1), .int .i64 (x 2), .int .i64 (x 3), .int .i64 (x 4), .int .i64 (x 5)], .slice ad len cap] w fun e w' => e = .returned (.agg #[.int .i64 ((bumpL x zs) 0), .int .i64 ((bumpL x zs) 1), .int .i64 ((bumpL x zs) 2), .int .i64 ((bumpL x zs) 3), .int .i64 ((bumpL x zs) 4), .int .i64 ((bumpL x zs) 5)]) ∧ Below w.heap.size w w' := by
  obtain rfl := hZ.len
  go_enter Try.func11, Try.ntmps11
  go_wp2
  go_loopw [5] (fun i wr => ∃ k : Nat, k ≤ zs.length ∧ i = .int .i64 k ∧ wr = (w.alloc (.cells #[.int .i64 ((bumpL x (zs.take k)) 0), .int .i64 ((bumpL x (zs.take k)) 1), .int .i64 ((bumpL x (zs.take k)) 2), .int .i64 ((bumpL x (zs.take k)) 3), .int .i64 ((bumpL x (zs.take k)) 4), .int .i64 ((bumpL x (zs.take k)) 5)] 22)).alloc (.cells #[.int .i64 0, .int .i64 0, .int .i64 0, .int .i64 0, .int .i64 0, .int .i64 0] 22)) (fun i _ => zs.length - (intV i).toNat)
  case atStart => exact ⟨0, Nat.zero_le _, rfl, rfl⟩
  case round =>
    obtain ⟨k, hk, rfl, rfl⟩ := hrel
    by_cases hlt : k < zs.length
    · obtain ⟨b, off, rfl, hbl, e0⟩ := kInt_at hZ k hlt
      have f0 : ∀ o1 o2, ((w.alloc o1).alloc o2).cell? ⟨b, off + k, none⟩ = some (.int .i64 zs[k]) := fun o1 o2 => ((((Below.refl _ w).alloc (Nat.le_refl _) o1).alloc (by simp) o2).cell (p := ⟨b, off + k, none⟩) hbl).trans e0
      have hsn : bumpL x (zs.take (k + 1)) = bump1 (bumpL x (zs.take k)) zs[k] := by rw [take_snocI zs hlt, bumpL_snoc]
      have hwf := bumpL_wf hx (zs.take k)
      generalize zs[k] = z at f0 hsn
      generalize bumpL x (zs.take k) = y at hsn hwf
      have HS := hidden hsn
      have HW := hidden hwf
      have i1 : (0 : Int) ≤ (k : Int) := by omega
      have i2 : (k : Int) < (zs.length : Int) := by omega
      clear hsn hwf e0 hZ hx
      by_cases hz : 0 ≤ z ∧ z < 6
      · have hz6 : z = 0 ∨ z = 1 ∨ z = 2 ∨ z = 3 ∨ z = 4 ∨ z = 5 := by omega
        clear hz
        rcases hz6 with rfl | rfl | rfl | rfl | rfl | rfl
        all_goals
          go_wp2_with (go_at_call 34; refine (rsat_any _ _ _ (HW.out _) (by decide)).mono ?_; rintro e w' ⟨rfl, rfl⟩)
          go_roundw
          case rel => exact ⟨k + 1, by omega, by go_num, by rw [HS.out]; rfl⟩
          case measure => simp [intV]; omega
      · have HZ := hidden hz
        by_cases hz0 : 0 ≤ z
        · have q : ¬ z < 6 := by omega
          have q2 : decide (z < 6) = false := by simp; omega
          clear hz
          go_wp2
          go_roundw
          case rel => exact ⟨k + 1, by omega, by go_num, by rw [HS.out, six_congr (bump1_out y z HZ.out)]⟩
          case measure => simp [intV]; omega
        · have q2 : decide (0 ≤ z) = false := by simp; omega
          clear hz
          go_wp2
          go_roundw
          case rel => exact ⟨k + 1, by omega, by go_num, by rw [HS.out, six_congr (bump1_out y z HZ.out)]⟩
          case measure => simp [intV]; omega
    · obtain rfl : k = zs.length := by omega
      rw [List.take_length]
      go_wp2
      exact bodyPost_ret (v := .agg #[.int .i64 ((bumpL x zs) 0), .int .i64 ((bumpL x zs) 1), .int .i64 ((bumpL x zs) 2), .int .i64 ((bumpL x zs) 3), .int .i64 ((bumpL x zs) 4), .int .i64 ((bumpL x zs) 5)]) (by simp [results, Try.results11, go_sem]) rfl ⟨rfl, (((Below.refl _ w).alloc (Nat.le_refl _) _).alloc (by simp) _)⟩
end Go.Proofs.Ytjkliandhcegeaa
