/- The fixed calls of the statements on package wire come out as they must, and make at most new memory; no conditions. -/
import Derived.Test.YtcnmbpgjgjncdaaWireH
import Derived.Test.YtcnmbpgjgjncdaaCrcRef
import Derived.Test.YtcnmbpgjgjncdaaConfK
import Derived.Laws.StructEq
namespace Go.Proofs.Ytcnmbpgjgjncdaa
open Go.ChangeShapes Go.WideShapes Go.ChangeAt Go.RowKit
set_option linter.unusedVariables false

theorem small11_any (w : World) :
    Calls Try.prog 28 #[] w fun e w' => ∃ g, e = .returned (.agg #[.int .i64 4, .int .i64 1, .int .i64 1, .int .i64 20, .int .i64 64, .int .i64 1, .int .i64 64, .int .i64 190, .int .i64 10, .int .i64 3, .slice (some ⟨g, 0, none⟩) 4 4]) ∧ Tab w' (some ⟨g, 0, none⟩) [0, 1, 2, 3] ∧ Below w.heap.size w w' := by
  go_enter Try.func28, Try.ntmps28
  go_wp2
  refine bodyPost_ret (v := .agg #[.int .i64 4, .int .i64 1, .int .i64 1, .int .i64 20, .int .i64 64, .int .i64 1, .int .i64 64, .int .i64 190, .int .i64 10, .int .i64 3, .slice (some ⟨w.heap.size + 1, 0, none⟩) 4 4]) (by simp [results, Try.results28, go_sem]) rfl ⟨_, rfl, Tab.four _ _ _ (by simp), Joins.below_alloc2 _ _ _⟩
/-- The packet of six votes 0, and its bytes. -/
def p0 : Pk := ⟨⟨#[48, 48, 48, 48, 48, 48]⟩, 0, ⟨#[]⟩, 0, 0, ⟨#[]⟩⟩
theorem p0_right : pkR 0 (3 * (1 + 1)) (8 + 4) (([0, 1, 2, 3] : List Int).length : Int) 10 p0 = 0 := by decide +kernel
theorem p0_seal : sealB p0 = ⟨#[64, 0, 0, 210, 84, 219, 143]⟩ := by decide +kernel
theorem p0_enc : encF (plainE 4 1 1 20 64 1 64 190 10 3 [0, 1, 2, 3]) (3 * (1 + 1)) (8 + 4) (([0, 1, 2, 3] : List Int).length : Int) 10 p0 = (⟨#[64, 0, 0, 210, 84, 219, 143]⟩, 0) := by
  rw [plainE_small]
  unfold encF
  rw [if_pos p0_right, p0_seal]
theorem p0_dec : decP (plainE 4 1 1 20 64 1 64 190 10 3 [0, 1, 2, 3]) (3 * (1 + 1)) (8 + 4) (([0, 1, 2, 3] : List Int).length : Int) 10 ⟨#[64, 0, 0, 210, 84, 219, 143]⟩ = (p0, 0) := by
  rw [plainE_small, ← p0_seal]
  exact dec_enc p0_right (by decide)
theorem k3_seal : (ByteArray.mk #[64, 3, 0]) ++ tailOf ⟨#[64, 3, 0]⟩ = ⟨#[64, 3, 0, 17, 7, 246, 164]⟩ := by decide +kernel
theorem k0_seal : (ByteArray.mk #[64, 0, 0]) ++ tailOf ⟨#[64, 0, 0]⟩ = ⟨#[64, 0, 0, 210, 84, 219, 143]⟩ := by decide +kernel
theorem k3_dec2 : (decP (plainE 4 1 1 20 64 1 64 190 10 3 [0, 1, 2, 3]) (3 * (1 + 1)) (8 + 4) (([0, 1, 2, 3] : List Int).length : Int) 10 ⟨#[64, 3, 0, 17, 7, 246, 164]⟩).2 = 3 := by
  rw [plainE_small]
  decide +kernel
theorem k3_dec : decP (plainE 4 1 1 20 64 1 64 190 10 3 [0, 1, 2, 3]) (3 * (1 + 1)) (8 + 4) (([0, 1, 2, 3] : List Int).length : Int) 10 ⟨#[64, 3, 0, 17, 7, 246, 164]⟩ = (pk0, 3) := by
  have h := k3_dec2
  have h1 := dec_no (E := plainE 4 1 1 20 64 1 64 190 10 3 [0, 1, 2, 3]) (R := 3 * (1 + 1)) (B := 8 + 4) (L := (([0, 1, 2, 3] : List Int).length : Int)) (M := 10) (s := ⟨#[64, 3, 0, 17, 7, 246, 164]⟩) (by rw [h]; decide)
  exact Prod.ext h1 h
set_option maxHeartbeats 8000000 in
theorem known11_any (w : World) :
    Calls Try.prog 13 #[] w fun e w' => e = .returned (.bool true) ∧ Below w.heap.size w w' := by
  have cE := fun g V h => Encode_any 4 1 1 20 64 1 64 190 10 3 (some ⟨g, 0, none⟩) 4 [0, 1, 2, 3] p0 V (by decide) h (by decide) (by decide) (by decide)
  rw [p0_enc] at cE
  have cD := fun g V h => Decode_any 4 1 1 20 64 1 64 190 10 3 (some ⟨g, 0, none⟩) 4 [0, 1, 2, 3] ⟨#[64, 0, 0, 210, 84, 219, 143]⟩ V (by decide) h (by decide)
  rw [p0_dec] at cD
  have cF := fun g V h => Decode_any 4 1 1 20 64 1 64 190 10 3 (some ⟨g, 0, none⟩) 4 [0, 1, 2, 3] ⟨#[64, 3, 0, 17, 7, 246, 164]⟩ V (by decide) h (by decide)
  rw [k3_dec] at cF
  have cS := fun V => Calls.ret_to (rseal_any ⟨#[64, 3, 0]⟩ V (by decide)) (congrArg Value.string k3_seal)
  have cT := fun V => Calls.ret_to (rseal_any ⟨#[64, 0, 0]⟩ V (by decide)) (congrArg Value.string k0_seal)
  have cZ := fun g V h => Size_any 4 1 1 20 64 1 64 190 10 3 (some ⟨g, 0, none⟩) 4 [0, 1, 2, 3] p0 V (by decide) h (by decide) (by decide) (by decide)
  rw [p0_enc] at cZ
  dsimp only [p0, pk0] at cE cD cF cZ
  go_enter Try.func13, Try.ntmps13
  go_wp2_with fail
  refine (small11_any _).mono ?_
  rintro e w1 ⟨g, rfl, hT, hb⟩
  have HB1 := hidden hb
  clear hb
  go_wp2_with fail
  refine (cE g _ hT).mono ?_
  rintro e w2 ⟨rfl, hb⟩
  have HB2 := hidden (bthen HB1.out hb)
  clear hb HB1 hT cE
  go_wp2_with fail
  refine (small11_any _).mono ?_
  rintro e w3 ⟨g3, rfl, hT, hb⟩
  have HB3 := hidden (bthen HB2.out hb)
  clear hb HB2
  go_wp2_with fail
  refine (cD g3 _ hT).mono ?_
  rintro e w4 ⟨rfl, hb⟩
  have HB4 := hidden (bthen HB3.out hb)
  clear hb HB3 hT cD
  go_wp2_with fail
  refine (small11_any _).mono ?_
  rintro e w5 ⟨g5, rfl, hT, hb⟩
  have hk5 := blk_new hb
  have HT5 := hidden hT
  have hs5 := hb.size
  simp only [World.size_alloc] at hs5
  have HB5 := hidden (bthen HB4.out (bthen (ballc _ _) hb))
  clear hb HB4 hT
  go_wp2_with fail
  refine (cS _).mono ?_
  rintro e w6 ⟨rfl, hb⟩
  have HK6 := hidden ((hb.block _ (Array.getElem?_eq_some_iff.1 hk5).1).trans hk5)
  have HT6 := hidden (HT5.out.below hb)
  have HB6 := hidden (bthen HB5.out hb)
  clear hb HB5 HT5 hk5 hs5 cS
  go_wp2_with fail
  refine (cF g5 _ HT6.out).mono ?_
  rintro e w7 ⟨rfl, hb⟩
  have hk7 := (hb.block _ (Array.getElem?_eq_some_iff.1 HK6.out).1).trans HK6.out
  have HB7 := hidden (bthen HB6.out hb)
  clear hb HB6 HT6 HK6 cF
  have hS : ∀ w', Chn (w7.alloc (.cells #[.string ⟨#[]⟩, .int .i64 0, .string ⟨#[]⟩, .int .i64 0, .int .i64 0, .string ⟨#[]⟩] 26)).heap.size (w7.alloc (.cells #[.string ⟨#[]⟩, .int .i64 0, .string ⟨#[]⟩, .int .i64 0, .int .i64 0, .string ⟨#[]⟩] 26)) w' → (fun b1 : Nat => w'.cell? ⟨b1, 0, none⟩ = some (.string ⟨#[48, 48, 48, 48, 48, 48]⟩) ∧ w'.cell? ⟨b1, 1, none⟩ = some (.int .i64 0) ∧ w'.cell? ⟨b1, 2, none⟩ = some (.string ⟨#[]⟩) ∧ w'.cell? ⟨b1, 3, none⟩ = some (.int .i64 0) ∧ w'.cell? ⟨b1, 4, none⟩ = some (.int .i64 0) ∧ w'.cell? ⟨b1, 5, none⟩ = some (.string ⟨#[]⟩)) w4.heap.size := by
    intro V hV
    have l := blk_cell ((hV.1.block _ (by simp; have := (Array.getElem?_eq_some_iff.1 hk7).1; omega)).trans (((ballc w7 (.cells #[.string ⟨#[]⟩, .int .i64 0, .string ⟨#[]⟩, .int .i64 0, .int .i64 0, .string ⟨#[]⟩] 26)).block _ (Array.getElem?_eq_some_iff.1 hk7).1).trans hk7))
    exact ⟨l 0, l 1, l 2, l 3, l 4, l 5⟩
  have HBW := hidden (bthen HB7.out (ballc w7 (.cells #[.string ⟨#[]⟩, .int .i64 0, .string ⟨#[]⟩, .int .i64 0, .int .i64 0, .string ⟨#[]⟩] 26)))
  clear HB7 hk7
  go_wp2
  generalize w7.alloc (.cells #[.string ⟨#[]⟩, .int .i64 0, .string ⟨#[]⟩, .int .i64 0, .int .i64 0, .string ⟨#[]⟩] 26) = W at *
  generalize w4.heap.size = b1 at *
  try dsimp only at hS
  have hC0 : Chn W.heap.size W W := Chn.refl (Nat.le_refl _)
  go_region_held3 (fun w' => w'.cell? ⟨b1, 0, none⟩ = some (.string ⟨#[48, 48, 48, 48, 48, 48]⟩) ∧ w'.cell? ⟨b1, 1, none⟩ = some (.int .i64 0) ∧ w'.cell? ⟨b1, 2, none⟩ = some (.string ⟨#[]⟩) ∧ w'.cell? ⟨b1, 3, none⟩ = some (.int .i64 0) ∧ w'.cell? ⟨b1, 4, none⟩ = some (.int .i64 0) ∧ w'.cell? ⟨b1, 5, none⟩ = some (.string ⟨#[]⟩)) (first | exact hS _ (by repeat (first | with_reducible assumption | with_reducible refine Chn.drew ?_)))
    (first
      | (go_at_call 26; refine (cT _).mono ?_; rintro e w8 ⟨rfl, hb8⟩; clear cT; have hC8 := Chn.below (show Chn W.heap.size W _ from (by repeat (first | with_reducible assumption | with_reducible refine Chn.drew ?_))) hb8; clear hb8)
      | (go_at_call 28; refine (small11_any _).mono ?_; rintro e w9 ⟨g9, rfl, hT9, hb9⟩; have hC9 := Chn.below (show Chn W.heap.size W _ from (by repeat (first | with_reducible assumption | with_reducible refine Chn.drew ?_))) hb9; clear hb9)
      | (go_at_call 11; refine (cZ _ _ (hT9.below (by repeat (first | with_reducible exact Below.refl _ _ | with_reducible refine Below.drew ?_)))).mono ?_; rintro e w10 ⟨rfl, hb10⟩; clear cZ; have hC10 := Chn.below (show Chn W.heap.size W _ from (by repeat (first | with_reducible assumption | with_reducible refine Chn.drew ?_))) hb10; clear hb10))
  all_goals
    go_wp2
    go_ret
    first | exact ⟨rfl, bthen HBW.out hC10.1⟩ | exact ⟨rfl, bthen HBW.out hC10.1.drew⟩
end Go.Proofs.Ytcnmbpgjgjncdaa
