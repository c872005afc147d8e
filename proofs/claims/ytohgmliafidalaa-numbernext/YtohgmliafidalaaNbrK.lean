/- The fixed calls of the statements on package number come out as they must, and make at most new memory; no conditions. -/
import Derived.Test.YtohgmliafidalaaConfK
import Derived.Test.YtohgmliafidalaaIntsK
import Derived.Test.YtohgmliafidalaaNbrB
import Derived.Test.YtohgmliafidalaaNbrC
namespace Go.Proofs.Ytohgmliafidalaa
open Go.ChangeShapes Go.WideShapes Go.ChangeAt Go.RowKit
set_option linter.unusedVariables false

theorem small20_any (w : World) :
    Calls Try.prog 71 #[] w fun e w' => ∃ g, e = .returned (.agg #[.int .i64 4, .int .i64 1, .int .i64 1, .int .i64 20, .int .i64 64, .int .i64 1, .int .i64 64, .int .i64 190, .int .i64 10, .int .i64 3, .slice (some ⟨g, 0, none⟩) 4 4]) ∧ Tab w' (some ⟨g, 0, none⟩) [0, 1, 2, 3] ∧ Below w.heap.size w w' := by
  go_enter Try.func71, Try.ntmps71
  go_wp2
  refine bodyPost_ret (v := .agg #[.int .i64 4, .int .i64 1, .int .i64 1, .int .i64 20, .int .i64 64, .int .i64 1, .int .i64 64, .int .i64 190, .int .i64 10, .int .i64 3, .slice (some ⟨w.heap.size + 1, 0, none⟩) 4 4]) (by simp [results, Try.results71, go_sem]) rfl ⟨_, rfl, Tab.four _ _ _ (by simp), Joins.below_alloc2 _ _ _⟩
theorem val_t {a b : ByteArray} (h : a = b) : Value.string a = .string b := by rw [h]
theorem next_small1 : nextF 0 10 9 ⟨#[]⟩ = 0 := by decide +kernel
theorem next_small2 : nextF 0 10 1 ⟨#[49, 48, 49, 48, 48, 48, 48, 48, 49, 48, 49, 49]⟩ = 6 := by decide +kernel
theorem mem_small1 : memF 0 4 ⟨#[49, 49, 120]⟩ ⟨#[]⟩ = ⟨#[49, 49, 48, 48]⟩ := by decide +kernel
theorem mem_small2 : memF 0 4 ⟨#[]⟩ ⟨#[48, 48, 48, 48, 48, 48, 48, 48, 48, 49, 48, 49]⟩ = ⟨#[48, 49, 48, 49]⟩ := by decide +kernel
theorem apart_small : apartF 0 10 8 1 = 3 := by decide +kernel
theorem row_small : rowZ 0 10 8 4 = [8, 9, 0, 1] := by decide +kernel
theorem NRowSmall (g : Nat) (w : World) (hT : Tab w (some ⟨g, 0, none⟩) [0, 1, 2, 3]) :
    Calls Try.prog 34 #[.agg #[.int .i64 4, .int .i64 1, .int .i64 1, .int .i64 20, .int .i64 64, .int .i64 1, .int .i64 64, .int .i64 190, .int .i64 10, .int .i64 3, .slice (some ⟨g, 0, none⟩) 4 4], .int .i64 8, .int .i64 4] w fun e w' => ∃ a c, e = .returned (.slice a 4 c) ∧ kInt.Lies w'.heap.size w' (.slice a 4 c) [8, 9, 0, 1] ∧ Below w.heap.size w w' := by
  have h := NRow_any 4 1 1 20 64 1 64 190 10 3 (some ⟨g, 0, none⟩) 4 [0, 1, 2, 3] 8 4 w (by decide) hT (by decide)
  rw [plainE_small, row_small] at h
  exact h
set_option maxHeartbeats 4000000 in
theorem known20_any (w : World) :
    Calls Try.prog 26 #[] w fun e w' => e = .returned (.bool true) ∧ Below w.heap.size w w' := by
  go_enter Try.func26, Try.ntmps26
  go_wp2_with fail
  refine (small20_any _).mono ?_
  rintro e w1 ⟨g, rfl, hT, hb⟩
  have HB1 := hidden hb
  have HT := hidden (hT.below (ballc w1 (.cells #[.int .i64 4, .int .i64 1, .int .i64 1, .int .i64 20, .int .i64 64, .int .i64 1, .int .i64 64, .int .i64 190, .int .i64 10, .int .i64 3, .slice (some ⟨g, 0, none⟩) 4 4] 24)))
  clear hT hb
  go_wp2_with fail
  refine (Calls.ret_to (NNext_any 4 1 1 20 64 1 64 190 10 3 (some ⟨g, 0, none⟩) 4 [0, 1, 2, 3] 9 ⟨#[]⟩ _ (by decide) HT.out (by decide) (by decide)) (val_i (b := 0) (by rw [plainE_small]; exact next_small1))).mono ?_
  rintro e v0 ⟨rfl, hb⟩
  have HC0 := hidden hb
  clear hb
  obtain ⟨hbox, hsz⟩ := box_at HC0.out
  go_wp2_with fail
  refine (Calls.ret_to (NNext_any 4 1 1 20 64 1 64 190 10 3 (some ⟨g, 0, none⟩) 4 [0, 1, 2, 3] 1 ⟨#[49, 48, 49, 48, 48, 48, 48, 48, 49, 48, 49, 49]⟩ _ (by decide) (HT.out.below HC0.out) (by decide) (by decide)) (val_i (b := 6) (by rw [plainE_small]; exact next_small2))).mono ?_
  rintro e v1 ⟨rfl, hb⟩
  have HC1 := hidden (bthen HC0.out hb)
  clear hbox hsz hb
  obtain ⟨hbox, hsz⟩ := box_at HC1.out
  go_wp2_with fail
  refine (Calls.ret_to (NMembers_any 4 1 1 20 64 1 64 190 10 3 (some ⟨g, 0, none⟩) 4 [0, 1, 2, 3] ⟨#[49, 49, 120]⟩ ⟨#[]⟩ _ (by decide) (HT.out.below HC1.out) (by decide) (by decide)) (val_t (b := ⟨#[49, 49, 48, 48]⟩) (by rw [show ((4 : Nat) : Int) = 4 from rfl, plainE_small]; exact mem_small1))).mono ?_
  rintro e v2 ⟨rfl, hb⟩
  have HC2 := hidden (bthen HC1.out hb)
  clear hbox hsz hb
  obtain ⟨hbox, hsz⟩ := box_at HC2.out
  go_wp2_with fail
  refine (Calls.ret_to (NMembers_any 4 1 1 20 64 1 64 190 10 3 (some ⟨g, 0, none⟩) 4 [0, 1, 2, 3] ⟨#[]⟩ ⟨#[48, 48, 48, 48, 48, 48, 48, 48, 48, 49, 48, 49]⟩ _ (by decide) (HT.out.below HC2.out) (by decide) (by decide)) (val_t (b := ⟨#[48, 49, 48, 49]⟩) (by rw [show ((4 : Nat) : Int) = 4 from rfl, plainE_small]; exact mem_small2))).mono ?_
  rintro e v3 ⟨rfl, hb⟩
  have HC3 := hidden (bthen HC2.out hb)
  clear hbox hsz hb
  obtain ⟨hbox, hsz⟩ := box_at HC3.out
  go_wp2_with fail
  refine (Calls.ret_to (NApart_any 4 1 1 20 64 1 64 190 10 3 (some ⟨g, 0, none⟩) 4 [0, 1, 2, 3] 8 1 _ (by decide) (HT.out.below HC3.out) (by decide) (by decide)) (val_i (b := 3) (by rw [plainE_small]; exact apart_small))).mono ?_
  rintro e v4 ⟨rfl, hb⟩
  have HC4 := hidden (bthen HC3.out hb)
  clear hbox hsz hb
  obtain ⟨hbox, hsz⟩ := box_at HC4.out
  go_wp2_with fail
  refine (NRowSmall g _ (HT.out.below HC4.out)).mono ?_
  rintro e v5 ⟨a5, c5, rfl, hL, hb⟩
  have HC5 := hidden (bthen HC4.out hb)
  have HL5 := hidden (hL.later (ballc v5 (.cells #[.int .i64 8, .int .i64 9, .int .i64 0, .int .i64 1] 3)))
  have HL6 := hidden (Kind.Lies.of_block (K := kInt) (es := [8, 9, 0, 1]) (blk_nw v5 #[.int .i64 8, .int .i64 9, .int .i64 0, .int .i64 1] 3) (by decide))
  clear hbox hsz hb hL
  obtain ⟨hbox, hsz⟩ := box_at HC5.out
  go_wp2_with fail
  refine (KInts_any a5 (some ⟨v5.heap.size, 0, none⟩) 4 4 c5 4 [8, 9, 0, 1] _ (by decide) HL5.out HL6.out).mono ?_
  rintro e v6 ⟨rfl, hb⟩
  have HC6 := hidden (bthen HC5.out (bthen (ballc v5 _) hb))
  clear hb hbox hsz
  go_wp2
  go_ret
  exact ⟨rfl, bthen HB1.out (bthen (ballc _ _) HC6.out)⟩
end Go.Proofs.Ytohgmliafidalaa
