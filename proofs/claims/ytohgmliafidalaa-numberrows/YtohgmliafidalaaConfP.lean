/- The call Plain of package conf returns the number of the first rule that a configuration breaks, else 0; conditions: the table's length fits int. -/
import Derived.Test.YtohgmliafidalaaConfR
import Derived.Test.YtohgmliafidalaaConfE
namespace Go.Proofs.Ytohgmliafidalaa
open Go.ChangeShapes Go.WideShapes Go.ChangeAt Go.RowKit
set_option linter.unusedVariables false

def plainE (n f d p r dr o sl md fr : Int) (zs : List Int) : Int :=
  if ¬ (4 ≤ n ∧ n ≤ 13) then 7 else if ¬ (0 ≤ f ∧ f ≤ 4) then 7 else if ¬ (3 * f + 1 ≤ n) then 7 else if ¬ (1 ≤ d ∧ d ≤ 4) then 10 else
  if ¬ (6 * ((f + 1) * d) + 1 ≤ p ∧ p ≤ 400) then 8 else if ¬ (1 ≤ r ∧ r ≤ 64) then 8 else if ¬ (0 ≤ dr ∧ dr ≤ r - 1) then 8 else if ¬ (0 ≤ o ∧ o ≤ 30000) then 8 else
  if ¬ (1 ≤ sl ∧ sl ≤ 30000) then 8 else if ¬ (2 ≤ md ∧ md ≤ 250) then 8 else if ¬ (1 ≤ fr ∧ fr ≤ 100) then 8 else if ¬ (1 ≤ (zs.length : Int) ∧ (zs.length : Int) ≤ 32) then 11 else
  if ownsB n zs = true then 0 else 11

theorem pl_0 {n f d p r dr o sl md fr : Int} {zs : List Int}  (c0 : ¬ (4 ≤ n ∧ n ≤ 13)) : plainE n f d p r dr o sl md fr zs = 7 := by
  unfold plainE
  exact if_pos c0
theorem pl_1 {n f d p r dr o sl md fr : Int} {zs : List Int} (c0 : 4 ≤ n ∧ n ≤ 13) (c1 : ¬ (0 ≤ f ∧ f ≤ 4)) : plainE n f d p r dr o sl md fr zs = 7 := by
  unfold plainE
  exact (if_neg (not_not_intro c0)).trans (if_pos c1)
theorem pl_2 {n f d p r dr o sl md fr : Int} {zs : List Int} (c0 : 4 ≤ n ∧ n ≤ 13) (c1 : 0 ≤ f ∧ f ≤ 4) (c2 : ¬ (3 * f + 1 ≤ n)) : plainE n f d p r dr o sl md fr zs = 7 := by
  unfold plainE
  exact (if_neg (not_not_intro c0)).trans ((if_neg (not_not_intro c1)).trans (if_pos c2))
theorem pl_3 {n f d p r dr o sl md fr : Int} {zs : List Int} (c0 : 4 ≤ n ∧ n ≤ 13) (c1 : 0 ≤ f ∧ f ≤ 4) (c2 : 3 * f + 1 ≤ n) (c3 : ¬ (1 ≤ d ∧ d ≤ 4)) : plainE n f d p r dr o sl md fr zs = 10 := by
  unfold plainE
  exact (if_neg (not_not_intro c0)).trans ((if_neg (not_not_intro c1)).trans ((if_neg (not_not_intro c2)).trans (if_pos c3)))
theorem pl_4 {n f d p r dr o sl md fr : Int} {zs : List Int} (c0 : 4 ≤ n ∧ n ≤ 13) (c1 : 0 ≤ f ∧ f ≤ 4) (c2 : 3 * f + 1 ≤ n) (c3 : 1 ≤ d ∧ d ≤ 4) (c4 : ¬ (6 * ((f + 1) * d) + 1 ≤ p ∧ p ≤ 400)) : plainE n f d p r dr o sl md fr zs = 8 := by
  unfold plainE
  exact (if_neg (not_not_intro c0)).trans ((if_neg (not_not_intro c1)).trans ((if_neg (not_not_intro c2)).trans ((if_neg (not_not_intro c3)).trans (if_pos c4))))
theorem pl_5 {n f d p r dr o sl md fr : Int} {zs : List Int} (c0 : 4 ≤ n ∧ n ≤ 13) (c1 : 0 ≤ f ∧ f ≤ 4) (c2 : 3 * f + 1 ≤ n) (c3 : 1 ≤ d ∧ d ≤ 4) (c4 : 6 * ((f + 1) * d) + 1 ≤ p ∧ p ≤ 400) (c5 : ¬ (1 ≤ r ∧ r ≤ 64)) : plainE n f d p r dr o sl md fr zs = 8 := by
  unfold plainE
  exact (if_neg (not_not_intro c0)).trans ((if_neg (not_not_intro c1)).trans ((if_neg (not_not_intro c2)).trans ((if_neg (not_not_intro c3)).trans ((if_neg (not_not_intro c4)).trans (if_pos c5)))))
theorem pl_6 {n f d p r dr o sl md fr : Int} {zs : List Int} (c0 : 4 ≤ n ∧ n ≤ 13) (c1 : 0 ≤ f ∧ f ≤ 4) (c2 : 3 * f + 1 ≤ n) (c3 : 1 ≤ d ∧ d ≤ 4) (c4 : 6 * ((f + 1) * d) + 1 ≤ p ∧ p ≤ 400) (c5 : 1 ≤ r ∧ r ≤ 64) (c6 : ¬ (0 ≤ dr ∧ dr ≤ r - 1)) : plainE n f d p r dr o sl md fr zs = 8 := by
  unfold plainE
  exact (if_neg (not_not_intro c0)).trans ((if_neg (not_not_intro c1)).trans ((if_neg (not_not_intro c2)).trans ((if_neg (not_not_intro c3)).trans ((if_neg (not_not_intro c4)).trans ((if_neg (not_not_intro c5)).trans (if_pos c6))))))
theorem pl_7 {n f d p r dr o sl md fr : Int} {zs : List Int} (c0 : 4 ≤ n ∧ n ≤ 13) (c1 : 0 ≤ f ∧ f ≤ 4) (c2 : 3 * f + 1 ≤ n) (c3 : 1 ≤ d ∧ d ≤ 4) (c4 : 6 * ((f + 1) * d) + 1 ≤ p ∧ p ≤ 400) (c5 : 1 ≤ r ∧ r ≤ 64) (c6 : 0 ≤ dr ∧ dr ≤ r - 1) (c7 : ¬ (0 ≤ o ∧ o ≤ 30000)) : plainE n f d p r dr o sl md fr zs = 8 := by
  unfold plainE
  exact (if_neg (not_not_intro c0)).trans ((if_neg (not_not_intro c1)).trans ((if_neg (not_not_intro c2)).trans ((if_neg (not_not_intro c3)).trans ((if_neg (not_not_intro c4)).trans ((if_neg (not_not_intro c5)).trans ((if_neg (not_not_intro c6)).trans (if_pos c7)))))))
theorem pl_8 {n f d p r dr o sl md fr : Int} {zs : List Int} (c0 : 4 ≤ n ∧ n ≤ 13) (c1 : 0 ≤ f ∧ f ≤ 4) (c2 : 3 * f + 1 ≤ n) (c3 : 1 ≤ d ∧ d ≤ 4) (c4 : 6 * ((f + 1) * d) + 1 ≤ p ∧ p ≤ 400) (c5 : 1 ≤ r ∧ r ≤ 64) (c6 : 0 ≤ dr ∧ dr ≤ r - 1) (c7 : 0 ≤ o ∧ o ≤ 30000) (c8 : ¬ (1 ≤ sl ∧ sl ≤ 30000)) : plainE n f d p r dr o sl md fr zs = 8 := by
  unfold plainE
  exact (if_neg (not_not_intro c0)).trans ((if_neg (not_not_intro c1)).trans ((if_neg (not_not_intro c2)).trans ((if_neg (not_not_intro c3)).trans ((if_neg (not_not_intro c4)).trans ((if_neg (not_not_intro c5)).trans ((if_neg (not_not_intro c6)).trans ((if_neg (not_not_intro c7)).trans (if_pos c8))))))))
theorem pl_9 {n f d p r dr o sl md fr : Int} {zs : List Int} (c0 : 4 ≤ n ∧ n ≤ 13) (c1 : 0 ≤ f ∧ f ≤ 4) (c2 : 3 * f + 1 ≤ n) (c3 : 1 ≤ d ∧ d ≤ 4) (c4 : 6 * ((f + 1) * d) + 1 ≤ p ∧ p ≤ 400) (c5 : 1 ≤ r ∧ r ≤ 64) (c6 : 0 ≤ dr ∧ dr ≤ r - 1) (c7 : 0 ≤ o ∧ o ≤ 30000) (c8 : 1 ≤ sl ∧ sl ≤ 30000) (c9 : ¬ (2 ≤ md ∧ md ≤ 250)) : plainE n f d p r dr o sl md fr zs = 8 := by
  unfold plainE
  exact (if_neg (not_not_intro c0)).trans ((if_neg (not_not_intro c1)).trans ((if_neg (not_not_intro c2)).trans ((if_neg (not_not_intro c3)).trans ((if_neg (not_not_intro c4)).trans ((if_neg (not_not_intro c5)).trans ((if_neg (not_not_intro c6)).trans ((if_neg (not_not_intro c7)).trans ((if_neg (not_not_intro c8)).trans (if_pos c9)))))))))
theorem pl_10 {n f d p r dr o sl md fr : Int} {zs : List Int} (c0 : 4 ≤ n ∧ n ≤ 13) (c1 : 0 ≤ f ∧ f ≤ 4) (c2 : 3 * f + 1 ≤ n) (c3 : 1 ≤ d ∧ d ≤ 4) (c4 : 6 * ((f + 1) * d) + 1 ≤ p ∧ p ≤ 400) (c5 : 1 ≤ r ∧ r ≤ 64) (c6 : 0 ≤ dr ∧ dr ≤ r - 1) (c7 : 0 ≤ o ∧ o ≤ 30000) (c8 : 1 ≤ sl ∧ sl ≤ 30000) (c9 : 2 ≤ md ∧ md ≤ 250) (c10 : ¬ (1 ≤ fr ∧ fr ≤ 100)) : plainE n f d p r dr o sl md fr zs = 8 := by
  unfold plainE
  exact (if_neg (not_not_intro c0)).trans ((if_neg (not_not_intro c1)).trans ((if_neg (not_not_intro c2)).trans ((if_neg (not_not_intro c3)).trans ((if_neg (not_not_intro c4)).trans ((if_neg (not_not_intro c5)).trans ((if_neg (not_not_intro c6)).trans ((if_neg (not_not_intro c7)).trans ((if_neg (not_not_intro c8)).trans ((if_neg (not_not_intro c9)).trans (if_pos c10))))))))))
theorem pl_11 {n f d p r dr o sl md fr : Int} {zs : List Int} (c0 : 4 ≤ n ∧ n ≤ 13) (c1 : 0 ≤ f ∧ f ≤ 4) (c2 : 3 * f + 1 ≤ n) (c3 : 1 ≤ d ∧ d ≤ 4) (c4 : 6 * ((f + 1) * d) + 1 ≤ p ∧ p ≤ 400) (c5 : 1 ≤ r ∧ r ≤ 64) (c6 : 0 ≤ dr ∧ dr ≤ r - 1) (c7 : 0 ≤ o ∧ o ≤ 30000) (c8 : 1 ≤ sl ∧ sl ≤ 30000) (c9 : 2 ≤ md ∧ md ≤ 250) (c10 : 1 ≤ fr ∧ fr ≤ 100) (c11 : ¬ (1 ≤ (zs.length : Int) ∧ (zs.length : Int) ≤ 32)) : plainE n f d p r dr o sl md fr zs = 11 := by
  unfold plainE
  exact (if_neg (not_not_intro c0)).trans ((if_neg (not_not_intro c1)).trans ((if_neg (not_not_intro c2)).trans ((if_neg (not_not_intro c3)).trans ((if_neg (not_not_intro c4)).trans ((if_neg (not_not_intro c5)).trans ((if_neg (not_not_intro c6)).trans ((if_neg (not_not_intro c7)).trans ((if_neg (not_not_intro c8)).trans ((if_neg (not_not_intro c9)).trans ((if_neg (not_not_intro c10)).trans (if_pos c11)))))))))))
theorem pl_12 {n f d p r dr o sl md fr : Int} {zs : List Int} (c0 : 4 ≤ n ∧ n ≤ 13) (c1 : 0 ≤ f ∧ f ≤ 4) (c2 : 3 * f + 1 ≤ n) (c3 : 1 ≤ d ∧ d ≤ 4) (c4 : 6 * ((f + 1) * d) + 1 ≤ p ∧ p ≤ 400) (c5 : 1 ≤ r ∧ r ≤ 64) (c6 : 0 ≤ dr ∧ dr ≤ r - 1) (c7 : 0 ≤ o ∧ o ≤ 30000) (c8 : 1 ≤ sl ∧ sl ≤ 30000) (c9 : 2 ≤ md ∧ md ≤ 250) (c10 : 1 ≤ fr ∧ fr ≤ 100) (c11 : 1 ≤ (zs.length : Int) ∧ (zs.length : Int) ≤ 32) : plainE n f d p r dr o sl md fr zs = if ownsB n zs = true then 0 else 11 := by
  unfold plainE
  exact (if_neg (not_not_intro c0)).trans ((if_neg (not_not_intro c1)).trans ((if_neg (not_not_intro c2)).trans ((if_neg (not_not_intro c3)).trans ((if_neg (not_not_intro c4)).trans ((if_neg (not_not_intro c5)).trans ((if_neg (not_not_intro c6)).trans ((if_neg (not_not_intro c7)).trans ((if_neg (not_not_intro c8)).trans ((if_neg (not_not_intro c9)).trans ((if_neg (not_not_intro c10)).trans ((if_neg (not_not_intro c11)).trans (rfl))))))))))))

/-- Rule k holds. -/
def okR (n f d p r dr o sl md fr ln : Int) (k : Nat) : Prop := ruA f d k ≤ ruC n f d p r dr o sl md fr ln k ∧ ruC n f d p r dr o sl md fr ln k ≤ ruB r k

theorem okR_2 {n f d p r dr o sl md fr ln : Int} (h1 : 0 ≤ f) (h2 : f ≤ 4) : okR n f d p r dr o sl md fr ln 2 ↔ 3 * f + 1 ≤ n ∧ n ≤ 13 := by
  unfold okR
  simp only [ruA, ruB, ruC]
  rw [IntWalk.i64_in (3 * f) (by omega), IntWalk.i64_in (3 * f + 1) (by omega)]
theorem okR_4 {n f d p r dr o sl md fr ln : Int} (h1 : 0 ≤ f) (h2 : f ≤ 4) (h3 : 1 ≤ d) (h4 : d ≤ 4) : okR n f d p r dr o sl md fr ln 4 ↔ 6 * ((f + 1) * d) + 1 ≤ p ∧ p ≤ 400 := by
  have hq0 : 0 ≤ (f + 1) * d := Int.mul_nonneg (by omega) (by omega)
  have hq1 : (f + 1) * d ≤ 5 * 4 := Int.mul_le_mul (by omega) h4 (by omega) (by omega)
  have e : lengthW f d = 3 * ((f + 1) * d) := by rw [lengthW_eq h1 h2 h3 h4, Int.mul_assoc]
  unfold okR
  simp only [ruA, ruB, ruC]
  rw [e, IntWalk.i64_in (2 * (3 * ((f + 1) * d))) (by omega), IntWalk.i64_in (2 * (3 * ((f + 1) * d)) + 1) (by omega)]
  constructor <;> intro h <;> omega
theorem okR_6 {n f d p r dr o sl md fr ln : Int} (h1 : 1 ≤ r) (h2 : r ≤ 64) : okR n f d p r dr o sl md fr ln 6 ↔ 0 ≤ dr ∧ dr ≤ r - 1 := by
  unfold okR
  simp only [ruA, ruB, ruC]
  rw [IntWalk.i64_in (r - 1) (by omega)]

/-- What the first k rules say. -/
theorem okR_all {n f d p r dr o sl md fr ln : Int} (k : Nat) (h : ∀ j, j < k → okR n f d p r dr o sl md fr ln j) :
    (0 < k → 4 ≤ n ∧ n ≤ 13) ∧ (1 < k → 0 ≤ f ∧ f ≤ 4) ∧ (2 < k → 3 * f + 1 ≤ n) ∧ (3 < k → 1 ≤ d ∧ d ≤ 4) ∧ (4 < k → 6 * ((f + 1) * d) + 1 ≤ p ∧ p ≤ 400) ∧ (5 < k → 1 ≤ r ∧ r ≤ 64) ∧ (6 < k → 0 ≤ dr ∧ dr ≤ r - 1) ∧
    (7 < k → 0 ≤ o ∧ o ≤ 30000) ∧ (8 < k → 1 ≤ sl ∧ sl ≤ 30000) ∧ (9 < k → 2 ≤ md ∧ md ≤ 250) ∧ (10 < k → 1 ≤ fr ∧ fr ≤ 100) ∧ (11 < k → 1 ≤ ln ∧ ln ≤ 32) := by
  have h1 : 1 < k → 0 ≤ f ∧ f ≤ 4 := fun hk => h 1 hk
  have h3 : 3 < k → 1 ≤ d ∧ d ≤ 4 := fun hk => h 3 hk
  have h5 : 5 < k → 1 ≤ r ∧ r ≤ 64 := fun hk => h 5 hk
  refine ⟨fun hk => h 0 hk, h1, fun hk => ((okR_2 (h1 (by omega)).1 (h1 (by omega)).2).1 (h 2 hk)).1, h3, fun hk => (okR_4 (h1 (by omega)).1 (h1 (by omega)).2 (h3 (by omega)).1 (h3 (by omega)).2).1 (h 4 hk), h5,
    fun hk => (okR_6 (h5 (by omega)).1 (h5 (by omega)).2).1 (h 6 hk), fun hk => h 7 hk, fun hk => h 8 hk, fun hk => h 9 hk, fun hk => h 10 hk, fun hk => h 11 hk⟩

theorem plain_fail {n f d p r dr o sl md fr : Int} {zs : List Int} (k : Nat) (hk : k < 12) (h : ∀ j, j < k → okR n f d p r dr o sl md fr zs.length j) (hn : ¬ okR n f d p r dr o sl md fr zs.length k) :
    plainE n f d p r dr o sl md fr zs = ruE k := by
  obtain ⟨g0, g1, g2, g3, g4, g5, g6, g7, g8, g9, g10, g11⟩ := okR_all k h
  clear h
  have hk' : k = 0 ∨ k = 1 ∨ k = 2 ∨ k = 3 ∨ k = 4 ∨ k = 5 ∨ k = 6 ∨ k = 7 ∨ k = 8 ∨ k = 9 ∨ k = 10 ∨ k = 11 := by clear hn g0 g1 g2 g3 g4 g5 g6 g7 g8 g9 g10 g11; omega
  unfold plainE
  rcases hk' with rfl | rfl | rfl | rfl | rfl | rfl | rfl | rfl | rfl | rfl | rfl | rfl
  · exact if_pos (hn)
  · exact (if_neg (not_not_intro (g0 (by decide)))).trans (if_pos (hn))
  · exact (if_neg (not_not_intro (g0 (by decide)))).trans ((if_neg (not_not_intro (g1 (by decide)))).trans (if_pos (fun c => hn ((okR_2 (g1 (by decide)).1 (g1 (by decide)).2).2 ⟨c, (g0 (by decide)).2⟩))))
  · exact (if_neg (not_not_intro (g0 (by decide)))).trans ((if_neg (not_not_intro (g1 (by decide)))).trans ((if_neg (not_not_intro (g2 (by decide)))).trans (if_pos (hn))))
  · exact (if_neg (not_not_intro (g0 (by decide)))).trans ((if_neg (not_not_intro (g1 (by decide)))).trans ((if_neg (not_not_intro (g2 (by decide)))).trans ((if_neg (not_not_intro (g3 (by decide)))).trans (if_pos (fun c => hn ((okR_4 (g1 (by decide)).1 (g1 (by decide)).2 (g3 (by decide)).1 (g3 (by decide)).2).2 c))))))
  · exact (if_neg (not_not_intro (g0 (by decide)))).trans ((if_neg (not_not_intro (g1 (by decide)))).trans ((if_neg (not_not_intro (g2 (by decide)))).trans ((if_neg (not_not_intro (g3 (by decide)))).trans ((if_neg (not_not_intro (g4 (by decide)))).trans (if_pos (hn))))))
  · exact (if_neg (not_not_intro (g0 (by decide)))).trans ((if_neg (not_not_intro (g1 (by decide)))).trans ((if_neg (not_not_intro (g2 (by decide)))).trans ((if_neg (not_not_intro (g3 (by decide)))).trans ((if_neg (not_not_intro (g4 (by decide)))).trans ((if_neg (not_not_intro (g5 (by decide)))).trans (if_pos (fun c => hn ((okR_6 (g5 (by decide)).1 (g5 (by decide)).2).2 c))))))))
  · exact (if_neg (not_not_intro (g0 (by decide)))).trans ((if_neg (not_not_intro (g1 (by decide)))).trans ((if_neg (not_not_intro (g2 (by decide)))).trans ((if_neg (not_not_intro (g3 (by decide)))).trans ((if_neg (not_not_intro (g4 (by decide)))).trans ((if_neg (not_not_intro (g5 (by decide)))).trans ((if_neg (not_not_intro (g6 (by decide)))).trans (if_pos (hn))))))))
  · exact (if_neg (not_not_intro (g0 (by decide)))).trans ((if_neg (not_not_intro (g1 (by decide)))).trans ((if_neg (not_not_intro (g2 (by decide)))).trans ((if_neg (not_not_intro (g3 (by decide)))).trans ((if_neg (not_not_intro (g4 (by decide)))).trans ((if_neg (not_not_intro (g5 (by decide)))).trans ((if_neg (not_not_intro (g6 (by decide)))).trans ((if_neg (not_not_intro (g7 (by decide)))).trans (if_pos (hn)))))))))
  · exact (if_neg (not_not_intro (g0 (by decide)))).trans ((if_neg (not_not_intro (g1 (by decide)))).trans ((if_neg (not_not_intro (g2 (by decide)))).trans ((if_neg (not_not_intro (g3 (by decide)))).trans ((if_neg (not_not_intro (g4 (by decide)))).trans ((if_neg (not_not_intro (g5 (by decide)))).trans ((if_neg (not_not_intro (g6 (by decide)))).trans ((if_neg (not_not_intro (g7 (by decide)))).trans ((if_neg (not_not_intro (g8 (by decide)))).trans (if_pos (hn))))))))))
  · exact (if_neg (not_not_intro (g0 (by decide)))).trans ((if_neg (not_not_intro (g1 (by decide)))).trans ((if_neg (not_not_intro (g2 (by decide)))).trans ((if_neg (not_not_intro (g3 (by decide)))).trans ((if_neg (not_not_intro (g4 (by decide)))).trans ((if_neg (not_not_intro (g5 (by decide)))).trans ((if_neg (not_not_intro (g6 (by decide)))).trans ((if_neg (not_not_intro (g7 (by decide)))).trans ((if_neg (not_not_intro (g8 (by decide)))).trans ((if_neg (not_not_intro (g9 (by decide)))).trans (if_pos (hn)))))))))))
  · exact (if_neg (not_not_intro (g0 (by decide)))).trans ((if_neg (not_not_intro (g1 (by decide)))).trans ((if_neg (not_not_intro (g2 (by decide)))).trans ((if_neg (not_not_intro (g3 (by decide)))).trans ((if_neg (not_not_intro (g4 (by decide)))).trans ((if_neg (not_not_intro (g5 (by decide)))).trans ((if_neg (not_not_intro (g6 (by decide)))).trans ((if_neg (not_not_intro (g7 (by decide)))).trans ((if_neg (not_not_intro (g8 (by decide)))).trans ((if_neg (not_not_intro (g9 (by decide)))).trans ((if_neg (not_not_intro (g10 (by decide)))).trans (if_pos (hn))))))))))))
theorem plain_end {n f d p r dr o sl md fr : Int} {zs : List Int} (h : ∀ j, j < 12 → okR n f d p r dr o sl md fr zs.length j) :
    plainE n f d p r dr o sl md fr zs = if ownsB n zs = true then 0 else 11 := by
  obtain ⟨g0, g1, g2, g3, g4, g5, g6, g7, g8, g9, g10, g11⟩ := okR_all 12 h
  unfold plainE
  exact (if_neg (not_not_intro (g0 (by decide)))).trans ((if_neg (not_not_intro (g1 (by decide)))).trans ((if_neg (not_not_intro (g2 (by decide)))).trans ((if_neg (not_not_intro (g3 (by decide)))).trans ((if_neg (not_not_intro (g4 (by decide)))).trans ((if_neg (not_not_intro (g5 (by decide)))).trans ((if_neg (not_not_intro (g6 (by decide)))).trans ((if_neg (not_not_intro (g7 (by decide)))).trans ((if_neg (not_not_intro (g8 (by decide)))).trans ((if_neg (not_not_intro (g9 (by decide)))).trans ((if_neg (not_not_intro (g10 (by decide)))).trans ((if_neg (not_not_intro (g11 (by decide)))).trans (rfl))))))))))))
/-- What is plain, number by number. -/
theorem plainE_ok {n f d p r dr o sl md fr : Int} {zs : List Int} (h : plainE n f d p r dr o sl md fr zs = 0) :
    4 ≤ n ∧ n ≤ 13 ∧ 0 ≤ f ∧ f ≤ 4 ∧ 3 * f + 1 ≤ n ∧ 1 ≤ d ∧ d ≤ 4 ∧ 6 * ((f + 1) * d) + 1 ≤ p ∧ p ≤ 400 ∧ 1 ≤ r ∧ r ≤ 64 ∧ 0 ≤ dr ∧ dr ≤ r - 1 ∧ 0 ≤ o ∧ o ≤ 30000 ∧ 1 ≤ sl ∧ sl ≤ 30000 ∧ 2 ≤ md ∧ md ≤ 250 ∧ 1 ≤ fr ∧ fr ≤ 100 ∧ 1 ≤ zs.length ∧ zs.length ≤ 32 ∧ ownsB n zs = true := by
  unfold plainE at h
  by_cases c0 : 4 ≤ n ∧ n ≤ 13
  case neg => rw [if_pos c0] at h; exact absurd h (by decide)
  rw [if_neg (not_not_intro c0)] at h
  by_cases c1 : 0 ≤ f ∧ f ≤ 4
  case neg => rw [if_pos c1] at h; exact absurd h (by decide)
  rw [if_neg (not_not_intro c1)] at h
  by_cases c2 : 3 * f + 1 ≤ n
  case neg => rw [if_pos c2] at h; exact absurd h (by decide)
  rw [if_neg (not_not_intro c2)] at h
  by_cases c3 : 1 ≤ d ∧ d ≤ 4
  case neg => rw [if_pos c3] at h; exact absurd h (by decide)
  rw [if_neg (not_not_intro c3)] at h
  by_cases c4 : 6 * ((f + 1) * d) + 1 ≤ p ∧ p ≤ 400
  case neg => rw [if_pos c4] at h; exact absurd h (by decide)
  rw [if_neg (not_not_intro c4)] at h
  by_cases c5 : 1 ≤ r ∧ r ≤ 64
  case neg => rw [if_pos c5] at h; exact absurd h (by decide)
  rw [if_neg (not_not_intro c5)] at h
  by_cases c6 : 0 ≤ dr ∧ dr ≤ r - 1
  case neg => rw [if_pos c6] at h; exact absurd h (by decide)
  rw [if_neg (not_not_intro c6)] at h
  by_cases c7 : 0 ≤ o ∧ o ≤ 30000
  case neg => rw [if_pos c7] at h; exact absurd h (by decide)
  rw [if_neg (not_not_intro c7)] at h
  by_cases c8 : 1 ≤ sl ∧ sl ≤ 30000
  case neg => rw [if_pos c8] at h; exact absurd h (by decide)
  rw [if_neg (not_not_intro c8)] at h
  by_cases c9 : 2 ≤ md ∧ md ≤ 250
  case neg => rw [if_pos c9] at h; exact absurd h (by decide)
  rw [if_neg (not_not_intro c9)] at h
  by_cases c10 : 1 ≤ fr ∧ fr ≤ 100
  case neg => rw [if_pos c10] at h; exact absurd h (by decide)
  rw [if_neg (not_not_intro c10)] at h
  by_cases c11 : 1 ≤ (zs.length : Int) ∧ (zs.length : Int) ≤ 32
  case neg => rw [if_pos c11] at h; exact absurd h (by decide)
  rw [if_neg (not_not_intro c11)] at h
  by_cases c12 : ownsB n zs = true
  case neg => rw [if_neg c12] at h; exact absurd h (by decide)
  exact ⟨c0.1, c0.2, c1.1, c1.2, c2, c3.1, c3.2, c4.1, c4.2, c5.1, c5.2, c6.1, c6.2, c7.1, c7.2, c8.1, c8.2, c9.1, c9.2, c10.1, c10.2, by omega, by omega, c12⟩
end Go.Proofs.Ytohgmliafidalaa
