/- The fixed calls of the statements on package rate come out as they must, and make at most new memory; no conditions. -/
import Derived.Test.YtjmeeklaclidbaaRateN
namespace Go.Proofs.Ytjmeeklaclidbaa
open Go.ChangeShapes Go.WideShapes Go.ChangeAt Go.RowKit Go.Shelf
set_option linter.unusedVariables false

def rn1 : Note := ⟨(2, 5), by decide⟩
def rn2 : Note := ⟨(3, 5), by decide⟩
theorem kmany : manyL 5 4 1 [] [2, 2, 3] = ([rn1, rn2], [true, false, true]) := by decide
theorem ktake : takeL 6 4 1 [rn1, rn2] 2 = ([rn1, rn2], 17) := by decide
theorem kroom : roomF 3 (cntN 2 (live 6 4 [rn1, rn2])) = 2 := by decide

set_option maxHeartbeats 2000000 in
theorem known7_any (w : World) :
    Calls Try.prog 9 #[] w fun e w' => e = .returned (.bool true) ∧ Below w.heap.size w w' := by
  have CM := fun a l c W h1 h2 => Many_any none 0 0 a l c 5 4 1 [] [2, 2, 3] (by decide) (by decide) (by decide) W h1 h2
  have CT := fun a l c W h => Take_own a l c 2 6 4 1 [rn1, rn2] (by decide) (by decide) W h
  have CR := fun a l c W h => Room_any a l c 2 6 4 3 [rn1, rn2] (by decide) (by decide) (by decide) W h
  rw [kmany] at CM
  rw [ktake] at CT
  rw [kroom] at CR
  have hB0 : Below w.heap.size w (w.alloc (.cells #[.int .i64 2, .int .i64 2, .int .i64 3] 3)) := ballc _ _
  have hN0 : Nums (w.alloc (.cells #[.int .i64 2, .int .i64 2, .int .i64 3] 3)).heap.size (w.alloc (.cells #[.int .i64 2, .int .i64 2, .int .i64 3] 3)) (.slice (some ⟨w.heap.size, 0, none⟩) 3 3) [2, 2, 3] := Nums.of_block (zs := [2, 2, 3]) (World.alloc_heap_new w _) (by decide)
  go_enter Try.func9, Try.ntmps9
  go_wp2_with fail
  refine (CM _ _ _ _ (Ents.nil _ _) hN0).mono ?_
  rintro r w1 ⟨a1, c1, b1, d1, rfl, hL1, hBl1, hb1⟩
  have hB1 := bthen hB0 hb1
  clear hN0 hB0 hb1 CM
  go_wp2_with fail
  refine (CT _ _ _ _ hL1).mono ?_
  rintro r w2 ⟨v2, rfl, ho2, hb2⟩
  have hL2 := hL1.later hb2
  have hBl2 := hBl1.later hb2
  have hB2 := bthen hB1 hb2
  clear hL1 hBl1 hb2 ho2 hB1 CT
  go_wp2_with fail
  refine (Same_any _ _ _ _ _ _ [rn1, rn2] _ (by decide) (hL2.later (ballc _ _)) (Ents.of_block (es := [rn1, rn2]) (World.alloc_heap_new w2 _) (by decide))).mono ?_
  rintro r w3 ⟨rfl, hb3⟩
  have hB3' := bthen (ballc _ _) hb3
  have hL3 := hL2.later hB3'
  have hBl3 := hBl2.later hB3'
  have hB3 := bthen hB2 hB3'
  clear hL2 hBl2 hb3 hB3' hB2
  go_wp2_with fail
  refine (Bools_any _ _ _ _ _ _ [true, false, true] _ (by decide) (hBl3.later (ballc _ _)) (Kind.Lies.of_block (K := kBool) (es := [true, false, true]) (World.alloc_heap_new w3 _) (by decide))).mono ?_
  rintro r w4 ⟨rfl, hb4⟩
  have hB4' := bthen (ballc _ _) hb4
  have hL4 := hL3.later hB4'
  have hB4 := bthen hB3 hB4'
  clear hL3 hBl3 hb4 hB4' hB3
  go_wp2_with fail
  refine (CR _ _ _ _ hL4).mono ?_
  rintro r w5 ⟨rfl, hb5⟩
  go_wp2
  go_ret
  exact ⟨rfl, bthen hB4 hb5⟩
end Go.Proofs.Ytjmeeklaclidbaa
