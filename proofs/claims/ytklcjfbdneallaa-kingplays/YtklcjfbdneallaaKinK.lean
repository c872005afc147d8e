/- The fixed calls of the statements on package king come out as they must, and make at most new memory; no conditions. -/
import Derived.Test.YtklcjfbdneallaaConfK
import Derived.Test.YtklcjfbdneallaaKinF
import Derived.Test.YtklcjfbdneallaaTalK
namespace Go.Proofs.Ytklcjfbdneallaa
open Go.ChangeShapes Go.WideShapes Go.ChangeAt Go.RowKit
set_option linter.unusedVariables false

set_option maxHeartbeats 1000000 in
theorem KInts_any (ad ad' : Option Addr) (len len' cap cap' : Nat) (zs : List Int) (w : World) (hl : zs.length ≤ 1000000) (hE : kInt.Lies w.heap.size w (.slice ad len cap) zs) (hF : kInt.Lies w.heap.size w (.slice ad' len' cap') zs) :
    Calls Try.prog 33 #[.slice ad len cap, .slice ad' len' cap'] w fun e w' => e = .returned (.bool true) ∧ Below w.heap.size w w' := by
  obtain rfl := hE.len
  obtain rfl := hF.len
  go_enter Try.func33, Try.ntmps33
  go_wp2
  go_loopw [5] (fun i wr => ∃ k : Nat, k ≤ zs.length ∧ i = .int .i64 k ∧ Below w.heap.size w wr) (fun i _ => zs.length - (intV i).toNat)
  case atStart => exact ⟨0, Nat.zero_le _, rfl, Below.refl _ _⟩
  case round =>
    obtain ⟨k, hk, rfl, hB⟩ := hrel
    by_cases hlt : k < zs.length
    · obtain ⟨b, off, rfl, hbl, e0⟩ := kInt_at hE k hlt
      obtain ⟨b', off', rfl, hbl', e0'⟩ := kInt_at hF k hlt
      have f0 := (hB.cell (p := ⟨b, off + k, none⟩) hbl).trans e0
      have f0' := (hB.cell (p := ⟨b', off' + k, none⟩) hbl').trans e0'
      clear e0 e0' hE hF
      generalize zs[k] = z at f0 f0'
      have i1 : (0 : Int) ≤ (k : Int) := by omega
      have i2 : (k : Int) < (zs.length : Int) := by omega
      go_wp2
      go_quiet (fail)
      go_wp2
      go_roundw
      case rel => exact ⟨k + 1, by omega, by simp, ⟨hB.os, hB.tape, hB.output, hB.size, hB.block⟩⟩
      case measure => simp [intV]; omega
    · obtain rfl : k = zs.length := by omega
      go_wp2
      go_ret
      exact ⟨rfl, hB⟩
theorem small14_any (w : World) :
    Calls Try.prog 42 #[] w fun e w' => ∃ g, e = .returned (.agg #[.int .i64 4, .int .i64 1, .int .i64 1, .int .i64 20, .int .i64 64, .int .i64 1, .int .i64 64, .int .i64 190, .int .i64 10, .int .i64 3, .slice (some ⟨g, 0, none⟩) 4 4]) ∧ Tab w' (some ⟨g, 0, none⟩) [0, 1, 2, 3] ∧ Below w.heap.size w w' := by
  go_enter Try.func42, Try.ntmps42
  go_wp2
  refine bodyPost_ret (v := .agg #[.int .i64 4, .int .i64 1, .int .i64 1, .int .i64 20, .int .i64 64, .int .i64 1, .int .i64 64, .int .i64 190, .int .i64 10, .int .i64 3, .slice (some ⟨w.heap.size + 1, 0, none⟩) 4 4]) (by simp [results, Try.results42, go_sem]) rfl ⟨_, rfl, Tab.four _ _ _ (by simp), Joins.below_alloc2 _ _ _⟩
theorem play_small : endsL (faB 4 [3]) 4 (playL (faB 4 [3]) [0, 1, 2] 4 1 [1, 1, 1, 0] (3 * (1 + 1))) = [1, 1, 1, -1] := by decide +kernel
theorem PlaySmall (g g1 g2 g3 : Nat) (w : World) (hT : Tab w (some ⟨g, 0, none⟩) [0, 1, 2, 3]) (h1 : kInt.Lies w.heap.size w (.slice (some ⟨g1, 0, none⟩) 4 4) [1, 1, 1, 0]) (h2 : kInt.Lies w.heap.size w (.slice (some ⟨g2, 0, none⟩) 1 1) [3]) (h3 : kInt.Lies w.heap.size w (.slice (some ⟨g3, 0, none⟩) 3 3) [0, 1, 2]) :
    Calls Try.prog 34 #[.agg #[.int .i64 4, .int .i64 1, .int .i64 1, .int .i64 20, .int .i64 64, .int .i64 1, .int .i64 64, .int .i64 190, .int .i64 10, .int .i64 3, .slice (some ⟨g, 0, none⟩) 4 4], .slice (some ⟨g1, 0, none⟩) 4 4, .slice (some ⟨g2, 0, none⟩) 1 1, .slice (some ⟨g3, 0, none⟩) 3 3] w fun e w' => ∃ q, e = .returned (.slice (some ⟨q, 0, none⟩) 4 4) ∧ kInt.Lies w'.heap.size w' (.slice (some ⟨q, 0, none⟩) 4 4) [1, 1, 1, -1] ∧ Below w.heap.size w w' := by
  have h := Play_ok 4 1 1 20 64 1 64 190 10 3 (some ⟨g, 0, none⟩) 4 [0, 1, 2, 3] 1 rfl (some ⟨g1, 0, none⟩) 4 [1, 1, 1, 0] (some ⟨g2, 0, none⟩) 1 [3] (some ⟨g3, 0, none⟩) 3 [0, 1, 2] w (by decide) hT plainE_small (by decide) (by decide) (by decide) h1 h2 h3
  rw [play_small] at h
  refine h.mono ?_
  rintro e w' ⟨q, rfl, hB, hb⟩
  exact ⟨q, rfl, hB.lies (by decide), hb⟩
theorem stepSmall1 : stepF (plainE 4 1 1 20 64 1 64 190 10 3 [0, 1, 2, 3]) 4 1 1 (2, false) 0 [1, 1, 1, 0] = (1, true) := by rw [plainE_small]; rfl
theorem stepSmall2 : stepF (plainE 4 1 1 20 64 1 64 190 10 3 [0, 1, 2, 3]) 4 1 2 (1, false) 0 [1, 1] = (0, false) := by rw [plainE_small]; rfl
set_option maxHeartbeats 4000000 in
theorem known14_any (w : World) :
    Calls Try.prog 24 #[] w fun e w' => e = .returned (.bool true) ∧ Below w.heap.size w w' := by
  go_enter Try.func24, Try.ntmps24
  go_wp2_with fail
  refine (small14_any _).mono ?_
  rintro e w1 ⟨g, rfl, hT, hb⟩
  have HB1 := hidden hb
  have HT := hidden hT
  have HK1 := hidden (blk_nw w1 #[.int .i64 4, .int .i64 1, .int .i64 1, .int .i64 20, .int .i64 64, .int .i64 1, .int .i64 64, .int .i64 190, .int .i64 10, .int .i64 3, .slice (some ⟨g, 0, none⟩) 4 4] 24)
  clear hT hb
  go_wp2_with fail
  have hb3 := ballc ((w1.alloc (.cells #[.int .i64 4, .int .i64 1, .int .i64 1, .int .i64 20, .int .i64 64, .int .i64 1, .int .i64 64, .int .i64 190, .int .i64 10, .int .i64 3, .slice (some ⟨g, 0, none⟩) 4 4] 24)).alloc (.cells #[.int .i64 1, .int .i64 1, .int .i64 1, .int .i64 0] 3)) (.cells #[.int .i64 3] 3)
  have hb4 := ballc (((w1.alloc (.cells #[.int .i64 4, .int .i64 1, .int .i64 1, .int .i64 20, .int .i64 64, .int .i64 1, .int .i64 64, .int .i64 190, .int .i64 10, .int .i64 3, .slice (some ⟨g, 0, none⟩) 4 4] 24)).alloc (.cells #[.int .i64 1, .int .i64 1, .int .i64 1, .int .i64 0] 3)).alloc (.cells #[.int .i64 3] 3)) (.cells #[.int .i64 0, .int .i64 1, .int .i64 2] 3)
  have hb2 := ballc (w1.alloc (.cells #[.int .i64 4, .int .i64 1, .int .i64 1, .int .i64 20, .int .i64 64, .int .i64 1, .int .i64 64, .int .i64 190, .int .i64 10, .int .i64 3, .slice (some ⟨g, 0, none⟩) 4 4] 24)) (.cells #[.int .i64 1, .int .i64 1, .int .i64 1, .int .i64 0] 3)
  have hbA := bthen (bthen hb2 hb3) hb4
  have r1 := (row_new (w1.alloc (.cells #[.int .i64 4, .int .i64 1, .int .i64 1, .int .i64 20, .int .i64 64, .int .i64 1, .int .i64 64, .int .i64 190, .int .i64 10, .int .i64 3, .slice (some ⟨g, 0, none⟩) 4 4] 24)) 3 [1, 1, 1, 0] _ rfl (by decide) (w1.heap.size + 1) (by simp) 4 rfl).later (bthen hb3 hb4)
  have r2 := (row_new ((w1.alloc (.cells #[.int .i64 4, .int .i64 1, .int .i64 1, .int .i64 20, .int .i64 64, .int .i64 1, .int .i64 64, .int .i64 190, .int .i64 10, .int .i64 3, .slice (some ⟨g, 0, none⟩) 4 4] 24)).alloc (.cells #[.int .i64 1, .int .i64 1, .int .i64 1, .int .i64 0] 3)) 3 [3] _ rfl (by decide) (w1.heap.size + 1 + 1) (by simp) 1 rfl).later hb4
  have r3 := row_new (((w1.alloc (.cells #[.int .i64 4, .int .i64 1, .int .i64 1, .int .i64 20, .int .i64 64, .int .i64 1, .int .i64 64, .int .i64 190, .int .i64 10, .int .i64 3, .slice (some ⟨g, 0, none⟩) 4 4] 24)).alloc (.cells #[.int .i64 1, .int .i64 1, .int .i64 1, .int .i64 0] 3)).alloc (.cells #[.int .i64 3] 3)) 3 [0, 1, 2] _ rfl (by decide) (w1.heap.size + 1 + 1 + 1) (by simp) 3 rfl
  have HBA := hidden hbA
  refine (PlaySmall g (w1.heap.size + 1) (w1.heap.size + 1 + 1) (w1.heap.size + 1 + 1 + 1) _ (HT.out.below (bthen (ballc w1 _) hbA)) r1 r2 r3).mono ?_
  rintro e v0 ⟨q, rfl, hQ, hb⟩
  have HC0 := hidden (bthen HBA.out hb)
  have HQ := hidden hQ
  clear hb hbA hb2 hb3 hb4 r1 r2 r3 hQ HBA
  go_wp2_with fail
  refine (KInts_any (some ⟨q, 0, none⟩) (some ⟨v0.heap.size, 0, none⟩) 4 4 4 4 [1, 1, 1, -1] _ (by decide) (HQ.out.later (ballc _ _)) (row_new v0 3 [1, 1, 1, -1] _ rfl (by decide) v0.heap.size rfl 4 rfl)).mono ?_
  rintro e v1 ⟨rfl, hb⟩
  have HC1 := hidden (bthen HC0.out (bthen (ballc v0 _) hb))
  have HD1 := hidden (blk_later HK1.out HC1.out)
  have c0 := fun i => blk_cell HD1.out i
  have l0 := blk_lt HD1.out
  clear hb HC0 HQ
  go_wp2_with fail
  have k1 := KStep_any 4 1 1 20 64 1 64 190 10 3 (some ⟨g, 0, none⟩) 4 [0, 1, 2, 3] 1 (2, false) 0 (some ⟨v1.heap.size, 0, none⟩) 4 4 [1, 1, 1, 0] (v1.alloc (.cells #[.int .i64 1, .int .i64 1, .int .i64 1, .int .i64 0] 3)) (by decide) (HT.out.below (bthen (ballc w1 _) (bthen HC1.out (ballc v1 _)))) rfl (by decide) (row_new v1 3 [1, 1, 1, 0] _ rfl (by decide) v1.heap.size rfl 4 rfl)
  rw [stepSmall1] at k1
  unfold agB at k1
  refine k1.mono ?_
  rintro e v2 ⟨rfl, hb⟩
  have HC2 := hidden (bthen HC1.out (bthen (ballc v1 _) hb))
  have HD2 := hidden (blk_later HK1.out HC2.out)
  clear c0 l0 hb k1
  have c0 := fun i => blk_cell HD2.out i
  have l0 := blk_lt HD2.out
  go_wp2_with fail
  have k2 := KStep_any 4 1 1 20 64 1 64 190 10 3 (some ⟨g, 0, none⟩) 4 [0, 1, 2, 3] 2 (1, false) 0 (some ⟨v2.heap.size, 0, none⟩) 2 2 [1, 1] (v2.alloc (.cells #[.int .i64 1, .int .i64 1] 3)) (by decide) (HT.out.below (bthen (ballc w1 _) (bthen HC2.out (ballc v2 _)))) rfl (by decide) (row_new v2 3 [1, 1] _ rfl (by decide) v2.heap.size rfl 2 rfl)
  rw [stepSmall2] at k2
  unfold agB at k2
  refine k2.mono ?_
  rintro e v3 ⟨rfl, hb⟩
  have HC3 := hidden (bthen HC2.out (bthen (ballc v2 _) hb))
  clear c0 l0 hb k2 HD1 HD2
  go_wp2_with fail
  refine (Code_any (2, true) _).mono ?_
  rintro e v4 ⟨rfl, hb⟩
  have HC4 := hidden (bthen HC3.out hb)
  have e4 : codeF (2, true) = 5 := rfl
  rw [e4]
  clear hb e4
  go_wp2_with fail
  refine (Read_any 4 _).mono ?_
  rintro e v5 ⟨rfl, hb⟩
  have HC5 := hidden (bthen HC4.out hb)
  have e5 : agB (readK 4) = .agg #[.int .i64 1, .bool true] := rfl
  rw [e5]
  clear hb e5
  go_wp2_with fail
  refine (Start_any 1 _).mono ?_
  rintro e v6 ⟨rfl, hb⟩
  have HC6 := hidden (bthen HC5.out hb)
  have e6 : agB (startF 1) = .agg #[.int .i64 1, .bool false] := rfl
  rw [e6]
  clear hb e6
  go_wp2
  go_ret
  exact ⟨rfl, bthen HB1.out (bthen (ballc _ _) HC6.out)⟩
end Go.Proofs.Ytklcjfbdneallaa
