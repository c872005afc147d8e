/- The document's calls Quorum, Some, Count, Enough, Most and Least return what plain functions give, and make at most new memory; conditions: the table and the votes lie where they say, and lengths fit int. -/
import Derived.Test.YtohgmliafidalaaTalM
import Derived.Test.YtohgmliafidalaaConfRef
import Derived.Test.YtohgmliafidalaaConfF
namespace Go.Proofs.Ytohgmliafidalaa
open Go.ChangeShapes Go.WideShapes Go.ChangeAt Go.RowKit
set_option linter.unusedVariables false

theorem cntF_snoc (v : Int) (zs : List Int) (z : Int) : cntF v (zs ++ [z]) = cntF v zs + if (0 ≤ v ∧ v < 3) ∧ z = v then 1 else 0 := by
  unfold cntF
  by_cases h : 0 ≤ v ∧ v < 3
  · rw [if_pos h, if_pos h, cntL_snoc]
    by_cases h2 : z = v
    · rw [if_pos h2, if_pos ⟨h, h2⟩]; rfl
    · rw [if_neg h2, if_neg fun k => h2 k.2]; rfl
  · rw [if_neg h, if_neg h, if_neg fun k => h k.1]; rfl
set_option maxHeartbeats 2000000 in
theorem rTCount_any (v : Int) (ad : Option Addr) (len cap : Nat) (zs : List Int) (hlz : zs.length ≤ 9223372036854775807) (w : World) (hZ : kInt.Lies w.heap.size w (.slice ad len cap) zs) :
    Calls Try.prog 134 #[.int .i64 v, .slice ad len cap] w fun e w' => e = .returned (.int .i64 (cntF v zs)) ∧ w = w' := by
  obtain rfl := hZ.len
  go_enter Try.func134, Try.ntmps134
  go_wp2
  go_loop [5, 6] (fun c i => ∃ k : Nat, k ≤ zs.length ∧ c = .int .i64 (cntF v (zs.take k)) ∧ i = .int .i64 k) (fun _ i => zs.length - (intV i).toNat)
  case atStart => exact ⟨0, Nat.zero_le _, by rw [List.take_zero]; unfold cntF; split <;> rfl, rfl⟩
  case round =>
    obtain ⟨k, hk, rfl, rfl⟩ := hrel
    by_cases hlt : k < zs.length
    · obtain ⟨b, off, rfl, hbl, e0⟩ := kInt_at hZ k hlt
      have hsn := cntF_snoc v (zs.take k) zs[k]
      rw [← take_snocV zs hlt] at hsn
      have hle := cntF_bd v (zs.take k)
      rw [List.length_take, Nat.min_eq_left hk] at hle
      generalize zs[k] = z at e0 hsn
      generalize cntF v (zs.take k) = c at *
      have HS := hidden hsn
      have i1 : (0 : Int) ≤ (k : Int) := by omega
      have i2 : (k : Int) < (zs.length : Int) := by omega
      clear hsn hZ
      by_cases h1 : 0 ≤ v
      · have j1 : decide (0 ≤ v) = true := by simp [h1]
        by_cases h2 : v ≤ 2
        · have j2 : decide (v ≤ 2) = true := by simp [h2]
          by_cases h3 : z = v
          · subst h3
            have j3 : (z == z) = true := by simp
            have HS2 : Hid (_ = c + 1) := hidden (HS.out.trans (by rw [if_pos ⟨⟨h1, by omega⟩, rfl⟩]))
            go_wp2
            go_round
            case rel => exact ⟨k + 1, by omega, by rw [HS2.out], by go_num⟩
            case measure => simp [intV]; omega
          · have j3 : (z == v) = false := by simp [h3]
            have HS2 : Hid (_ = c) := hidden (HS.out.trans (by rw [if_neg fun k => h3 k.2]; omega))
            go_wp2
            go_round
            case rel => exact ⟨k + 1, by omega, by rw [HS2.out], by go_num⟩
            case measure => simp [intV]; omega
        · have j2 : decide (v ≤ 2) = false := by simp; omega
          have HS2 : Hid (_ = c) := hidden (HS.out.trans (by rw [if_neg fun k => h2 (by omega)]; omega))
          go_wp2
          go_round
          case rel => exact ⟨k + 1, by omega, by rw [HS2.out], by go_num⟩
          case measure => simp [intV]; omega
      · have j1 : decide (0 ≤ v) = false := by simp; omega
        have HS2 : Hid (_ = c) := hidden (HS.out.trans (by rw [if_neg fun k => h1 (by omega)]; omega))
        go_wp2
        go_round
        case rel => exact ⟨k + 1, by omega, by rw [HS2.out], by go_num⟩
        case measure => simp [intV]; omega
    · obtain rfl : k = zs.length := by omega
      rw [List.take_length]
      go_wp2
      go_ret
      exact ⟨rfl, rfl⟩

end Go.Proofs.Ytohgmliafidalaa
