/- The fixed calls of the statements on package packet come out as they must, and make at most new memory; no conditions. -/
import Derived.Test.YtjkliandhcegeabPacR
import Derived.Test.YtjkliandhcegeabPacC
import Derived.Test.YtjkliandhcegeabPacD
import Derived.Test.YtjkliandhcegeabConfK
import Derived.Test.YtjkliandhcegeabChain
import Derived.Deep.RegionHeld3
import Derived.Laws.StructEq
namespace Go.Proofs.Ytjkliandhcegeab
open Go.ChangeShapes Go.WideShapes Go.ChangeAt Go.RowKit
set_option linter.unusedVariables false

theorem small10_any (w : World) :
    Calls Try.prog 15 #[] w fun e w' => ∃ g, e = .returned (.agg #[.int .i64 4, .int .i64 1, .int .i64 1, .int .i64 20, .int .i64 64, .int .i64 1, .int .i64 64, .int .i64 190, .int .i64 10, .int .i64 3, .slice (some ⟨g, 0, none⟩) 4 4]) ∧ Tab w' (some ⟨g, 0, none⟩) [0, 1, 2, 3] ∧ Below w.heap.size w w' := by
  go_enter Try.func15, Try.ntmps15
  go_wp2
  refine bodyPost_ret (v := .agg #[.int .i64 4, .int .i64 1, .int .i64 1, .int .i64 20, .int .i64 64, .int .i64 1, .int .i64 64, .int .i64 190, .int .i64 10, .int .i64 3, .slice (some ⟨w.heap.size + 1, 0, none⟩) 4 4]) (by simp [results, Try.results15, go_sem]) rfl ⟨_, rfl, Tab.four _ _ _ (by simp), Joins.below_alloc2 _ _ _⟩
theorem blank_small : (.agg #[.string ⟨#[48, 48, 48, 48, 48, 48]⟩, .int .i64 0, .string ⟨#[]⟩, .int .i64 0, .int .i64 0, .string ⟨#[]⟩] : Value) = .agg #[.string (zerosB (gate (plainE 4 1 1 20 64 1 64 190 10 3 [0, 1, 2, 3]) (3 * (1 + 1))).toNat), .int .i64 0, .string ⟨#[]⟩, .int .i64 0, .int .i64 0, .string ⟨#[]⟩] := by
  rw [plainE_small]; rfl
theorem carry_small : (.agg #[.string ⟨#[48, 48, 48, 48, 48, 48]⟩, .int .i64 0, .string ⟨#[]⟩, .int .i64 3, .int .i64 7, .string ⟨#[97]⟩] : Value) = .agg #[.string ⟨#[48, 48, 48, 48, 48, 48]⟩, .int .i64 0, .string ⟨#[]⟩, .int .i64 (carS 2), .int .i64 (carC 2 7), .string (carT 2 ⟨#[97]⟩)] := by rfl
theorem digs6 : areD ⟨#[48, 48, 48, 48, 48, 48]⟩ 6 = true := by decide
theorem right_q : pRight (plainE 4 1 1 20 64 1 64 190 10 3 [0, 1, 2, 3]) (3 * (1 + 1)) (8 + 4) ([0, 1, 2, 3] : List Int).length 10 ⟨#[48, 48, 48, 48, 48, 48]⟩ 0 ⟨#[]⟩ 3 7 ⟨#[97]⟩ = 0 :=
  pr_O plainE_small digs6 (by rw [emp_no]; decide) (by decide) (by simp) (by decide)
theorem right_0 : pRight (plainE 4 1 1 20 64 1 64 190 10 3 [0, 1, 2, 3]) (3 * (1 + 1)) (8 + 4) ([0, 1, 2, 3] : List Int).length 10 ⟨#[]⟩ 0 ⟨#[]⟩ 0 0 ⟨#[]⟩ = 3 :=
  pr_A plainE_small (by decide)
theorem vote_2 : dgAt ⟨#[48, 49, 50, 48, 48, 48]⟩ 2 = 2 := by decide
theorem vote_6 : dgAt ⟨#[48, 48, 48, 48, 48, 48]⟩ 6 = -1 := by decide
theorem bit_0 : bitF 0 ⟨#[]⟩ 0 0 = -1 := by decide
theorem bit_1 : bitF 1 ⟨#[48, 49]⟩ 0 1 = 1 := by decide
set_option maxHeartbeats 8000000 in
theorem known10_any (w : World) :
    Calls Try.prog 5 #[] w fun e w' => e = .returned (.bool true) ∧ Below w.heap.size w w' := by
  go_enter Try.func5, Try.ntmps5
  go_wp2_with fail
  refine (small10_any _).mono ?_
  rintro e w1 ⟨g, rfl, hT, hb⟩
  have HB1 := hidden hb
  clear hb
  go_wp2_with fail
  refine (Calls.ret_to (Blank_any 4 1 1 20 64 1 64 190 10 3 (some ⟨g, 0, none⟩) 4 [0, 1, 2, 3] _ (by decide) hT) blank_small.symm).mono ?_
  rintro e w2 ⟨rfl, hb⟩
  have HB2 := hidden (bthen HB1.out hb)
  clear hb HB1 hT
  go_wp2_with fail
  refine (Calls.ret_to (Carry_any _ _ _ _ _ _ 2 7 ⟨#[97]⟩ _) carry_small.symm).mono ?_
  rintro e w3 ⟨rfl, hb⟩
  obtain ⟨hbox, hsz⟩ := box_at hb
  have hbk := (hb.block w2.heap.size (by simp)).trans (heap_alloc_new w2 _)
  have HB3 := hidden (bthen HB2.out (bthen (ballc w2 _) hb))
  clear hb HB2
  have hS : ∀ V, Chn (w3.alloc (.cells #[.string ⟨#[48, 48, 48, 48, 48, 48]⟩, .int .i64 0, .string ⟨#[]⟩, .int .i64 3, .int .i64 7, .string ⟨#[97]⟩] 26)).heap.size (w3.alloc (.cells #[.string ⟨#[48, 48, 48, 48, 48, 48]⟩, .int .i64 0, .string ⟨#[]⟩, .int .i64 3, .int .i64 7, .string ⟨#[97]⟩] 26)) V → (fun (b1 b2 : Nat) (w' : World) => w'.cell? ⟨b1, 0, none⟩ = some (.string ⟨#[48, 48, 48, 48, 48, 48]⟩) ∧ w'.cell? ⟨b1, 1, none⟩ = some (.int .i64 0) ∧ w'.cell? ⟨b1, 2, none⟩ = some (.string ⟨#[]⟩) ∧ w'.cell? ⟨b1, 3, none⟩ = some (.int .i64 0) ∧ w'.cell? ⟨b1, 4, none⟩ = some (.int .i64 0) ∧ w'.cell? ⟨b1, 5, none⟩ = some (.string ⟨#[]⟩) ∧ w'.cell? ⟨b2, 0, none⟩ = some (.string ⟨#[48, 48, 48, 48, 48, 48]⟩) ∧ w'.cell? ⟨b2, 1, none⟩ = some (.int .i64 0) ∧ w'.cell? ⟨b2, 2, none⟩ = some (.string ⟨#[]⟩) ∧ w'.cell? ⟨b2, 3, none⟩ = some (.int .i64 3) ∧ w'.cell? ⟨b2, 4, none⟩ = some (.int .i64 7) ∧ w'.cell? ⟨b2, 5, none⟩ = some (.string ⟨#[97]⟩)) w2.heap.size w3.heap.size V := by
    intro V hV
    have k1 : V.heap[w2.heap.size]? = some (.cells #[.string ⟨#[48, 48, 48, 48, 48, 48]⟩, .int .i64 0, .string ⟨#[]⟩, .int .i64 0, .int .i64 0, .string ⟨#[]⟩] 26 (0, 0)) := (hV.1.block _ (by simp; omega)).trans (((ballc w3 _).block _ hsz).trans hbk)
    have k2 : V.heap[w3.heap.size]? = some (.cells #[.string ⟨#[48, 48, 48, 48, 48, 48]⟩, .int .i64 0, .string ⟨#[]⟩, .int .i64 3, .int .i64 7, .string ⟨#[97]⟩] 26 (0, 0)) := (hV.1.block _ (by simp)).trans (heap_alloc_new w3 _)
    have l1 := blk_cell k1
    have l2 := blk_cell k2
    exact ⟨l1 0, l1 1, l1 2, l1 3, l1 4, l1 5, l2 0, l2 1, l2 2, l2 3, l2 4, l2 5⟩
  have HBW := hidden (bthen HB3.out (ballc w3 (.cells #[.string ⟨#[48, 48, 48, 48, 48, 48]⟩, .int .i64 0, .string ⟨#[]⟩, .int .i64 3, .int .i64 7, .string ⟨#[97]⟩] 26)))
  clear HB3 hbk
  go_wp2
  generalize w3.alloc (.cells #[.string ⟨#[48, 48, 48, 48, 48, 48]⟩, .int .i64 0, .string ⟨#[]⟩, .int .i64 3, .int .i64 7, .string ⟨#[97]⟩] 26) = W at *
  have hC0 : Chn W.heap.size W W := Chn.refl (Nat.le_refl _)
  generalize w2.heap.size = b1 at *
  generalize w3.heap.size = b2 at *
  try dsimp only at hS
  have s1 := fun V => small10_any V
  have s2 := fun V => small10_any V
  have c1 := fun g V h => Calls.ret_to (Right_any 4 1 1 20 64 1 64 190 10 3 (some ⟨g, 0, none⟩) 4 [0, 1, 2, 3] ⟨#[48, 48, 48, 48, 48, 48]⟩ 0 ⟨#[]⟩ 3 7 ⟨#[97]⟩ V (by decide) h (by decide) (by decide) (by decide)) (val_i right_q)
  have c2 := fun g V h => Calls.ret_to (Right_any 4 1 1 20 64 1 64 190 10 3 (some ⟨g, 0, none⟩) 4 [0, 1, 2, 3] ⟨#[]⟩ 0 ⟨#[]⟩ 0 0 ⟨#[]⟩ V (by decide) h (by decide) (by decide) (by decide)) (val_i right_0)
  have c3 := fun V => Calls.ret_to (Vote_any ⟨#[48, 49, 50, 48, 48, 48]⟩ 0 ⟨#[]⟩ 0 0 ⟨#[]⟩ 2 V (by decide)) (val_i vote_2)
  have c4 := fun V => Calls.ret_to (Vote_any ⟨#[48, 48, 48, 48, 48, 48]⟩ 0 ⟨#[]⟩ 0 0 ⟨#[]⟩ 6 V (by decide)) (val_i vote_6)
  have c5 := fun V => Calls.ret_to (Bit_any ⟨#[48, 48, 48, 48, 48, 48]⟩ 0 ⟨#[]⟩ 0 0 ⟨#[]⟩ 0 0 V (by decide)) (val_i bit_0)
  have c6 := fun V => Calls.ret_to (Bit_any ⟨#[]⟩ 1 ⟨#[48, 49]⟩ 0 0 ⟨#[]⟩ 0 1 V (by decide)) (val_i bit_1)
  go_region_held3 (fun w' => w'.cell? ⟨b1, 0, none⟩ = some (.string ⟨#[48, 48, 48, 48, 48, 48]⟩) ∧ w'.cell? ⟨b1, 1, none⟩ = some (.int .i64 0) ∧ w'.cell? ⟨b1, 2, none⟩ = some (.string ⟨#[]⟩) ∧ w'.cell? ⟨b1, 3, none⟩ = some (.int .i64 0) ∧ w'.cell? ⟨b1, 4, none⟩ = some (.int .i64 0) ∧ w'.cell? ⟨b1, 5, none⟩ = some (.string ⟨#[]⟩) ∧ w'.cell? ⟨b2, 0, none⟩ = some (.string ⟨#[48, 48, 48, 48, 48, 48]⟩) ∧ w'.cell? ⟨b2, 1, none⟩ = some (.int .i64 0) ∧ w'.cell? ⟨b2, 2, none⟩ = some (.string ⟨#[]⟩) ∧ w'.cell? ⟨b2, 3, none⟩ = some (.int .i64 3) ∧ w'.cell? ⟨b2, 4, none⟩ = some (.int .i64 7) ∧ w'.cell? ⟨b2, 5, none⟩ = some (.string ⟨#[97]⟩)) (first | exact hS _ (by repeat (first | with_reducible assumption | with_reducible refine Chn.drew ?_)))
    (first
      | (go_at_call 15; refine (s1 _).mono ?_; rintro e w4 ⟨g4, rfl, hT4, hb4⟩; clear s1; have hC4 := Chn.below (show Chn W.heap.size W _ from (by repeat (first | with_reducible assumption | with_reducible refine Chn.drew ?_))) hb4; clear hb4)
      | (go_at_call 4; refine (c1 _ _ (hT4.below (by repeat (first | with_reducible exact Below.refl _ _ | with_reducible refine Below.drew ?_)))).mono ?_; rintro e w5 ⟨rfl, hb5⟩; clear c1; have hC5 := Chn.below (show Chn W.heap.size W _ from (by repeat (first | with_reducible assumption | with_reducible refine Chn.drew ?_))) hb5; clear hb5)
      | (go_at_call 15; refine (s2 _).mono ?_; rintro e w6 ⟨g6, rfl, hT6, hb6⟩; clear s2; have hC6 := Chn.below (show Chn W.heap.size W _ from (by repeat (first | with_reducible assumption | with_reducible refine Chn.drew ?_))) hb6; clear hb6)
      | (go_at_call 4; refine (c2 _ _ (hT6.below (by repeat (first | with_reducible exact Below.refl _ _ | with_reducible refine Below.drew ?_)))).mono ?_; rintro e w7 ⟨rfl, hb7⟩; clear c2; have hC7 := Chn.below (show Chn W.heap.size W _ from (by repeat (first | with_reducible assumption | with_reducible refine Chn.drew ?_))) hb7; clear hb7)
      | (go_at_call 6; refine (c3 _).mono ?_; rintro e w8 ⟨rfl, hb8⟩; clear c3; have hC8 := Chn.below (show Chn W.heap.size W _ from (by repeat (first | with_reducible assumption | with_reducible refine Chn.drew ?_))) hb8; clear hb8)
      | (go_at_call 6; refine (c4 _).mono ?_; rintro e w9 ⟨rfl, hb9⟩; clear c4; have hC9 := Chn.below (show Chn W.heap.size W _ from (by repeat (first | with_reducible assumption | with_reducible refine Chn.drew ?_))) hb9; clear hb9)
      | (go_at_call 7; refine (c5 _).mono ?_; rintro e w10 ⟨rfl, hb10⟩; clear c5; have hC10 := Chn.below (show Chn W.heap.size W _ from (by repeat (first | with_reducible assumption | with_reducible refine Chn.drew ?_))) hb10; clear hb10)
      | (go_at_call 7; refine (c6 _).mono ?_; rintro e w11 ⟨rfl, hb11⟩; clear c6; have hC11 := Chn.below (show Chn W.heap.size W _ from (by repeat (first | with_reducible assumption | with_reducible refine Chn.drew ?_))) hb11; clear hb11))
  all_goals
    go_wp2
    go_ret
    first | exact ⟨rfl, bthen HBW.out hC11.1⟩ | exact ⟨rfl, bthen HBW.out hC11.1.drew⟩
end Go.Proofs.Ytjkliandhcegeab
