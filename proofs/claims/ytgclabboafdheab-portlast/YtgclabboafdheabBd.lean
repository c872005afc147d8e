/- Several texts of one's own in one: what each proves, and its conditions, is said ahead of it. -/
import Derived.Test.YtgclabboafdheabBc

/- The document's Plain returns the number of the first rule that a configuration breaks, else 0, and makes at most new memory; conditions: the table lies where it says, and its length fits int. -/
namespace Go.Proofs.Ytgclabboafdheab
open Go.ChangeShapes Go.WideShapes Go.ChangeAt Go.RowKit
set_option linter.unusedVariables false

/-- x is from a to b. -/
def inB (x a b : Int) : Bool := decide (a ≤ x ∧ x ≤ b)
theorem inB_yes {x a b : Int} (h1 : a ≤ x) (h2 : x ≤ b) : inB x a b = true := decide_eq_true ⟨h1, h2⟩
theorem inB_no {x a b : Int} (h : ¬ (a ≤ x ∧ x ≤ b)) : inB x a b = false := decide_eq_false h
theorem within_any (x a b : Int) (w : World) :
    Calls Try.prog 11 #[.int .i64 x, .int .i64 a, .int .i64 b] w fun e w' => e = .returned (.bool (inB x a b)) ∧ w' = w := by
  by_cases h : a ≤ x ∧ x ≤ b
  · exact (within_yes x a b w h.1 h.2).mono fun e w' ⟨he, hw⟩ => ⟨by rw [he]; exact ret_b (inB_yes h.1 h.2).symm, hw⟩
  · exact (within_no x a b w h).mono fun e w' ⟨he, hw⟩ => ⟨by rw [he]; exact ret_b (inB_no h).symm, hw⟩

set_option maxHeartbeats 1000000 in
theorem refPlain_0 (n f d p r dr o sl md fr : Int) (ad : Option Addr) (cap : Nat) (zs : List Int) (w : World)  (c0 : ¬ (4 ≤ n ∧ n ≤ 13)) :
    Calls Try.prog 5 #[.agg #[.int .i64 n, .int .i64 f, .int .i64 d, .int .i64 p, .int .i64 r, .int .i64 dr, .int .i64 o, .int .i64 sl, .int .i64 md, .int .i64 fr, .slice ad zs.length cap]] w fun e w' => e = .returned (.int .i64 (plainE n f d p r dr o sl md fr zs)) ∧ Below w.heap.size w w' := by
  have HP : Hid (plainE n f d p r dr o sl md fr zs = 7) := pl_0 c0
  have i0 : inB n 4 13 = false := inB_no c0
  clear c0
  go_enter Try.func5, Try.ntmps5
  go_wp2_with (go_at_call 11; refine (within_any _ _ _ _).mono ?_; rintro e w2 ⟨rfl, rfl⟩)
  go_ret
  exact ⟨ret_i HP.out.symm, ballc _ _⟩
set_option maxHeartbeats 1000000 in
theorem refPlain_1 (n f d p r dr o sl md fr : Int) (ad : Option Addr) (cap : Nat) (zs : List Int) (w : World) (c0 : 4 ≤ n ∧ n ≤ 13) (c1 : ¬ (0 ≤ f ∧ f ≤ 4)) :
    Calls Try.prog 5 #[.agg #[.int .i64 n, .int .i64 f, .int .i64 d, .int .i64 p, .int .i64 r, .int .i64 dr, .int .i64 o, .int .i64 sl, .int .i64 md, .int .i64 fr, .slice ad zs.length cap]] w fun e w' => e = .returned (.int .i64 (plainE n f d p r dr o sl md fr zs)) ∧ Below w.heap.size w w' := by
  have HP : Hid (plainE n f d p r dr o sl md fr zs = 7) := pl_1 c0 c1
  have i0 : inB n 4 13 = true := inB_yes c0.1 c0.2
  have i1 : inB f 0 4 = false := inB_no c1
  clear c0 c1
  go_enter Try.func5, Try.ntmps5
  go_wp2_with (go_at_call 11; refine (within_any _ _ _ _).mono ?_; rintro e w2 ⟨rfl, rfl⟩)
  go_ret
  exact ⟨ret_i HP.out.symm, ballc _ _⟩
set_option maxHeartbeats 1000000 in
theorem refPlain_2 (n f d p r dr o sl md fr : Int) (ad : Option Addr) (cap : Nat) (zs : List Int) (w : World) (c0 : 4 ≤ n ∧ n ≤ 13) (c1 : 0 ≤ f ∧ f ≤ 4) (c2 : ¬ (3 * f + 1 ≤ n)) :
    Calls Try.prog 5 #[.agg #[.int .i64 n, .int .i64 f, .int .i64 d, .int .i64 p, .int .i64 r, .int .i64 dr, .int .i64 o, .int .i64 sl, .int .i64 md, .int .i64 fr, .slice ad zs.length cap]] w fun e w' => e = .returned (.int .i64 (plainE n f d p r dr o sl md fr zs)) ∧ Below w.heap.size w w' := by
  have HP : Hid (plainE n f d p r dr o sl md fr zs = 7) := pl_2 c0 c1 c2
  have i0 : inB n 4 13 = true := inB_yes c0.1 c0.2
  have i1 : inB f 0 4 = true := inB_yes c1.1 c1.2
  have c2' : n ≤ 3 * f := by omega
  clear c0 c2
  go_enter Try.func5, Try.ntmps5
  go_wp2_with (go_at_call 11; refine (within_any _ _ _ _).mono ?_; rintro e w2 ⟨rfl, rfl⟩)
  go_ret
  exact ⟨ret_i HP.out.symm, ballc _ _⟩
set_option maxHeartbeats 1000000 in
theorem refPlain_3 (n f d p r dr o sl md fr : Int) (ad : Option Addr) (cap : Nat) (zs : List Int) (w : World) (c0 : 4 ≤ n ∧ n ≤ 13) (c1 : 0 ≤ f ∧ f ≤ 4) (c2 : 3 * f + 1 ≤ n) (c3 : ¬ (1 ≤ d ∧ d ≤ 4)) :
    Calls Try.prog 5 #[.agg #[.int .i64 n, .int .i64 f, .int .i64 d, .int .i64 p, .int .i64 r, .int .i64 dr, .int .i64 o, .int .i64 sl, .int .i64 md, .int .i64 fr, .slice ad zs.length cap]] w fun e w' => e = .returned (.int .i64 (plainE n f d p r dr o sl md fr zs)) ∧ Below w.heap.size w w' := by
  have HP : Hid (plainE n f d p r dr o sl md fr zs = 10) := pl_3 c0 c1 c2 c3
  have i0 : inB n 4 13 = true := inB_yes c0.1 c0.2
  have i1 : inB f 0 4 = true := inB_yes c1.1 c1.2
  have i3 : inB d 1 4 = false := inB_no c3
  have c2' : ¬ n ≤ 3 * f := by omega
  clear c0 c2 c3
  go_enter Try.func5, Try.ntmps5
  go_wp2_with (go_at_call 11; refine (within_any _ _ _ _).mono ?_; rintro e w2 ⟨rfl, rfl⟩)
  go_ret
  exact ⟨ret_i HP.out.symm, ballc _ _⟩
set_option maxHeartbeats 1000000 in
theorem refPlain_4 (n f d p r dr o sl md fr : Int) (ad : Option Addr) (cap : Nat) (zs : List Int) (w : World) (c0 : 4 ≤ n ∧ n ≤ 13) (c1 : 0 ≤ f ∧ f ≤ 4) (c2 : 3 * f + 1 ≤ n) (c3 : 1 ≤ d ∧ d ≤ 4) (c4 : ¬ (6 * ((f + 1) * d) + 1 ≤ p ∧ p ≤ 400)) :
    Calls Try.prog 5 #[.agg #[.int .i64 n, .int .i64 f, .int .i64 d, .int .i64 p, .int .i64 r, .int .i64 dr, .int .i64 o, .int .i64 sl, .int .i64 md, .int .i64 fr, .slice ad zs.length cap]] w fun e w' => e = .returned (.int .i64 (plainE n f d p r dr o sl md fr zs)) ∧ Below w.heap.size w w' := by
  have HP : Hid (plainE n f d p r dr o sl md fr zs = 8) := pl_4 c0 c1 c2 c3 c4
  have hm0 : 0 ≤ 6 * (f + 1) * d := Int.mul_nonneg (by omega) (by omega)
  have hm1 : 6 * (f + 1) * d ≤ 30 * 4 := Int.mul_le_mul (by omega) c3.2 (by omega) (by omega)
  have hm2 : 6 * (f + 1) * d = 6 * ((f + 1) * d) := Int.mul_assoc _ _ _
  have i0 : inB n 4 13 = true := inB_yes c0.1 c0.2
  have i1 : inB f 0 4 = true := inB_yes c1.1 c1.2
  have i3 : inB d 1 4 = true := inB_yes c3.1 c3.2
  have i4 : inB p (6 * (f + 1) * d + 1) 400 = false := inB_no (by omega)
  have c2' : ¬ n ≤ 3 * f := by omega
  clear hm2
  clear c0 c2 c4
  go_enter Try.func5, Try.ntmps5
  go_wp2_with (go_at_call 11; refine (within_any _ _ _ _).mono ?_; rintro e w2 ⟨rfl, rfl⟩)
  go_ret
  exact ⟨ret_i HP.out.symm, ballc _ _⟩
set_option maxHeartbeats 1000000 in
theorem refPlain_5 (n f d p r dr o sl md fr : Int) (ad : Option Addr) (cap : Nat) (zs : List Int) (w : World) (c0 : 4 ≤ n ∧ n ≤ 13) (c1 : 0 ≤ f ∧ f ≤ 4) (c2 : 3 * f + 1 ≤ n) (c3 : 1 ≤ d ∧ d ≤ 4) (c4 : 6 * ((f + 1) * d) + 1 ≤ p ∧ p ≤ 400) (c5 : ¬ (1 ≤ r ∧ r ≤ 64)) :
    Calls Try.prog 5 #[.agg #[.int .i64 n, .int .i64 f, .int .i64 d, .int .i64 p, .int .i64 r, .int .i64 dr, .int .i64 o, .int .i64 sl, .int .i64 md, .int .i64 fr, .slice ad zs.length cap]] w fun e w' => e = .returned (.int .i64 (plainE n f d p r dr o sl md fr zs)) ∧ Below w.heap.size w w' := by
  have HP : Hid (plainE n f d p r dr o sl md fr zs = 8) := pl_5 c0 c1 c2 c3 c4 c5
  have hm0 : 0 ≤ 6 * (f + 1) * d := Int.mul_nonneg (by omega) (by omega)
  have hm1 : 6 * (f + 1) * d ≤ 30 * 4 := Int.mul_le_mul (by omega) c3.2 (by omega) (by omega)
  have hm2 : 6 * (f + 1) * d = 6 * ((f + 1) * d) := Int.mul_assoc _ _ _
  have i0 : inB n 4 13 = true := inB_yes c0.1 c0.2
  have i1 : inB f 0 4 = true := inB_yes c1.1 c1.2
  have i3 : inB d 1 4 = true := inB_yes c3.1 c3.2
  have i4 : inB p (6 * (f + 1) * d + 1) 400 = true := inB_yes (by omega) c4.2
  have i5 : inB r 1 64 = false := inB_no c5
  have c2' : ¬ n ≤ 3 * f := by omega
  clear hm2
  clear c0 c2 c4 c5
  go_enter Try.func5, Try.ntmps5
  go_wp2_with (go_at_call 11; refine (within_any _ _ _ _).mono ?_; rintro e w2 ⟨rfl, rfl⟩)
  go_ret
  exact ⟨ret_i HP.out.symm, ballc _ _⟩
set_option maxHeartbeats 1000000 in
theorem refPlain_6 (n f d p r dr o sl md fr : Int) (ad : Option Addr) (cap : Nat) (zs : List Int) (w : World) (c0 : 4 ≤ n ∧ n ≤ 13) (c1 : 0 ≤ f ∧ f ≤ 4) (c2 : 3 * f + 1 ≤ n) (c3 : 1 ≤ d ∧ d ≤ 4) (c4 : 6 * ((f + 1) * d) + 1 ≤ p ∧ p ≤ 400) (c5 : 1 ≤ r ∧ r ≤ 64) (c6 : ¬ (0 ≤ dr ∧ dr ≤ r - 1)) :
    Calls Try.prog 5 #[.agg #[.int .i64 n, .int .i64 f, .int .i64 d, .int .i64 p, .int .i64 r, .int .i64 dr, .int .i64 o, .int .i64 sl, .int .i64 md, .int .i64 fr, .slice ad zs.length cap]] w fun e w' => e = .returned (.int .i64 (plainE n f d p r dr o sl md fr zs)) ∧ Below w.heap.size w w' := by
  have HP : Hid (plainE n f d p r dr o sl md fr zs = 8) := pl_6 c0 c1 c2 c3 c4 c5 c6
  have hm0 : 0 ≤ 6 * (f + 1) * d := Int.mul_nonneg (by omega) (by omega)
  have hm1 : 6 * (f + 1) * d ≤ 30 * 4 := Int.mul_le_mul (by omega) c3.2 (by omega) (by omega)
  have hm2 : 6 * (f + 1) * d = 6 * ((f + 1) * d) := Int.mul_assoc _ _ _
  have i0 : inB n 4 13 = true := inB_yes c0.1 c0.2
  have i1 : inB f 0 4 = true := inB_yes c1.1 c1.2
  have i3 : inB d 1 4 = true := inB_yes c3.1 c3.2
  have i4 : inB p (6 * (f + 1) * d + 1) 400 = true := inB_yes (by omega) c4.2
  have i5 : inB r 1 64 = true := inB_yes c5.1 c5.2
  have i6 : inB dr 0 (r - 1) = false := inB_no c6
  have c2' : ¬ n ≤ 3 * f := by omega
  clear hm2
  clear c0 c2 c4 c6
  go_enter Try.func5, Try.ntmps5
  go_wp2_with (go_at_call 11; refine (within_any _ _ _ _).mono ?_; rintro e w2 ⟨rfl, rfl⟩)
  go_ret
  exact ⟨ret_i HP.out.symm, ballc _ _⟩
set_option maxHeartbeats 1000000 in
theorem refPlain_7 (n f d p r dr o sl md fr : Int) (ad : Option Addr) (cap : Nat) (zs : List Int) (w : World) (c0 : 4 ≤ n ∧ n ≤ 13) (c1 : 0 ≤ f ∧ f ≤ 4) (c2 : 3 * f + 1 ≤ n) (c3 : 1 ≤ d ∧ d ≤ 4) (c4 : 6 * ((f + 1) * d) + 1 ≤ p ∧ p ≤ 400) (c5 : 1 ≤ r ∧ r ≤ 64) (c6 : 0 ≤ dr ∧ dr ≤ r - 1) (c7 : ¬ (0 ≤ o ∧ o ≤ 30000)) :
    Calls Try.prog 5 #[.agg #[.int .i64 n, .int .i64 f, .int .i64 d, .int .i64 p, .int .i64 r, .int .i64 dr, .int .i64 o, .int .i64 sl, .int .i64 md, .int .i64 fr, .slice ad zs.length cap]] w fun e w' => e = .returned (.int .i64 (plainE n f d p r dr o sl md fr zs)) ∧ Below w.heap.size w w' := by
  have HP : Hid (plainE n f d p r dr o sl md fr zs = 8) := pl_7 c0 c1 c2 c3 c4 c5 c6 c7
  have hm0 : 0 ≤ 6 * (f + 1) * d := Int.mul_nonneg (by omega) (by omega)
  have hm1 : 6 * (f + 1) * d ≤ 30 * 4 := Int.mul_le_mul (by omega) c3.2 (by omega) (by omega)
  have hm2 : 6 * (f + 1) * d = 6 * ((f + 1) * d) := Int.mul_assoc _ _ _
  have i0 : inB n 4 13 = true := inB_yes c0.1 c0.2
  have i1 : inB f 0 4 = true := inB_yes c1.1 c1.2
  have i3 : inB d 1 4 = true := inB_yes c3.1 c3.2
  have i4 : inB p (6 * (f + 1) * d + 1) 400 = true := inB_yes (by omega) c4.2
  have i5 : inB r 1 64 = true := inB_yes c5.1 c5.2
  have i6 : inB dr 0 (r - 1) = true := inB_yes c6.1 c6.2
  have i7 : inB o 0 30000 = false := inB_no c7
  have c2' : ¬ n ≤ 3 * f := by omega
  clear hm2
  clear c0 c2 c4 c6 c7
  go_enter Try.func5, Try.ntmps5
  go_wp2_with (go_at_call 11; refine (within_any _ _ _ _).mono ?_; rintro e w2 ⟨rfl, rfl⟩)
  go_ret
  exact ⟨ret_i HP.out.symm, ballc _ _⟩
set_option maxHeartbeats 1000000 in
theorem refPlain_8 (n f d p r dr o sl md fr : Int) (ad : Option Addr) (cap : Nat) (zs : List Int) (w : World) (c0 : 4 ≤ n ∧ n ≤ 13) (c1 : 0 ≤ f ∧ f ≤ 4) (c2 : 3 * f + 1 ≤ n) (c3 : 1 ≤ d ∧ d ≤ 4) (c4 : 6 * ((f + 1) * d) + 1 ≤ p ∧ p ≤ 400) (c5 : 1 ≤ r ∧ r ≤ 64) (c6 : 0 ≤ dr ∧ dr ≤ r - 1) (c7 : 0 ≤ o ∧ o ≤ 30000) (c8 : ¬ (1 ≤ sl ∧ sl ≤ 30000)) :
    Calls Try.prog 5 #[.agg #[.int .i64 n, .int .i64 f, .int .i64 d, .int .i64 p, .int .i64 r, .int .i64 dr, .int .i64 o, .int .i64 sl, .int .i64 md, .int .i64 fr, .slice ad zs.length cap]] w fun e w' => e = .returned (.int .i64 (plainE n f d p r dr o sl md fr zs)) ∧ Below w.heap.size w w' := by
  have HP : Hid (plainE n f d p r dr o sl md fr zs = 8) := pl_8 c0 c1 c2 c3 c4 c5 c6 c7 c8
  have hm0 : 0 ≤ 6 * (f + 1) * d := Int.mul_nonneg (by omega) (by omega)
  have hm1 : 6 * (f + 1) * d ≤ 30 * 4 := Int.mul_le_mul (by omega) c3.2 (by omega) (by omega)
  have hm2 : 6 * (f + 1) * d = 6 * ((f + 1) * d) := Int.mul_assoc _ _ _
  have i0 : inB n 4 13 = true := inB_yes c0.1 c0.2
  have i1 : inB f 0 4 = true := inB_yes c1.1 c1.2
  have i3 : inB d 1 4 = true := inB_yes c3.1 c3.2
  have i4 : inB p (6 * (f + 1) * d + 1) 400 = true := inB_yes (by omega) c4.2
  have i5 : inB r 1 64 = true := inB_yes c5.1 c5.2
  have i6 : inB dr 0 (r - 1) = true := inB_yes c6.1 c6.2
  have i7 : inB o 0 30000 = true := inB_yes c7.1 c7.2
  have i8 : inB sl 1 30000 = false := inB_no c8
  have c2' : ¬ n ≤ 3 * f := by omega
  clear hm2
  clear c0 c2 c4 c6 c7 c8
  go_enter Try.func5, Try.ntmps5
  go_wp2_with (go_at_call 11; refine (within_any _ _ _ _).mono ?_; rintro e w2 ⟨rfl, rfl⟩)
  go_ret
  exact ⟨ret_i HP.out.symm, ballc _ _⟩
set_option maxHeartbeats 1000000 in
theorem refPlain_9 (n f d p r dr o sl md fr : Int) (ad : Option Addr) (cap : Nat) (zs : List Int) (w : World) (c0 : 4 ≤ n ∧ n ≤ 13) (c1 : 0 ≤ f ∧ f ≤ 4) (c2 : 3 * f + 1 ≤ n) (c3 : 1 ≤ d ∧ d ≤ 4) (c4 : 6 * ((f + 1) * d) + 1 ≤ p ∧ p ≤ 400) (c5 : 1 ≤ r ∧ r ≤ 64) (c6 : 0 ≤ dr ∧ dr ≤ r - 1) (c7 : 0 ≤ o ∧ o ≤ 30000) (c8 : 1 ≤ sl ∧ sl ≤ 30000) (c9 : ¬ (2 ≤ md ∧ md ≤ 250)) :
    Calls Try.prog 5 #[.agg #[.int .i64 n, .int .i64 f, .int .i64 d, .int .i64 p, .int .i64 r, .int .i64 dr, .int .i64 o, .int .i64 sl, .int .i64 md, .int .i64 fr, .slice ad zs.length cap]] w fun e w' => e = .returned (.int .i64 (plainE n f d p r dr o sl md fr zs)) ∧ Below w.heap.size w w' := by
  have HP : Hid (plainE n f d p r dr o sl md fr zs = 8) := pl_9 c0 c1 c2 c3 c4 c5 c6 c7 c8 c9
  have hm0 : 0 ≤ 6 * (f + 1) * d := Int.mul_nonneg (by omega) (by omega)
  have hm1 : 6 * (f + 1) * d ≤ 30 * 4 := Int.mul_le_mul (by omega) c3.2 (by omega) (by omega)
  have hm2 : 6 * (f + 1) * d = 6 * ((f + 1) * d) := Int.mul_assoc _ _ _
  have i0 : inB n 4 13 = true := inB_yes c0.1 c0.2
  have i1 : inB f 0 4 = true := inB_yes c1.1 c1.2
  have i3 : inB d 1 4 = true := inB_yes c3.1 c3.2
  have i4 : inB p (6 * (f + 1) * d + 1) 400 = true := inB_yes (by omega) c4.2
  have i5 : inB r 1 64 = true := inB_yes c5.1 c5.2
  have i6 : inB dr 0 (r - 1) = true := inB_yes c6.1 c6.2
  have i7 : inB o 0 30000 = true := inB_yes c7.1 c7.2
  have i8 : inB sl 1 30000 = true := inB_yes c8.1 c8.2
  have i9 : inB md 2 250 = false := inB_no c9
  have c2' : ¬ n ≤ 3 * f := by omega
  clear hm2
  clear c0 c2 c4 c6 c7 c8 c9
  go_enter Try.func5, Try.ntmps5
  go_wp2_with (go_at_call 11; refine (within_any _ _ _ _).mono ?_; rintro e w2 ⟨rfl, rfl⟩)
  go_ret
  exact ⟨ret_i HP.out.symm, ballc _ _⟩
set_option maxHeartbeats 1000000 in
theorem refPlain_10 (n f d p r dr o sl md fr : Int) (ad : Option Addr) (cap : Nat) (zs : List Int) (w : World) (c0 : 4 ≤ n ∧ n ≤ 13) (c1 : 0 ≤ f ∧ f ≤ 4) (c2 : 3 * f + 1 ≤ n) (c3 : 1 ≤ d ∧ d ≤ 4) (c4 : 6 * ((f + 1) * d) + 1 ≤ p ∧ p ≤ 400) (c5 : 1 ≤ r ∧ r ≤ 64) (c6 : 0 ≤ dr ∧ dr ≤ r - 1) (c7 : 0 ≤ o ∧ o ≤ 30000) (c8 : 1 ≤ sl ∧ sl ≤ 30000) (c9 : 2 ≤ md ∧ md ≤ 250) (c10 : ¬ (1 ≤ fr ∧ fr ≤ 100)) :
    Calls Try.prog 5 #[.agg #[.int .i64 n, .int .i64 f, .int .i64 d, .int .i64 p, .int .i64 r, .int .i64 dr, .int .i64 o, .int .i64 sl, .int .i64 md, .int .i64 fr, .slice ad zs.length cap]] w fun e w' => e = .returned (.int .i64 (plainE n f d p r dr o sl md fr zs)) ∧ Below w.heap.size w w' := by
  have HP : Hid (plainE n f d p r dr o sl md fr zs = 8) := pl_10 c0 c1 c2 c3 c4 c5 c6 c7 c8 c9 c10
  have hm0 : 0 ≤ 6 * (f + 1) * d := Int.mul_nonneg (by omega) (by omega)
  have hm1 : 6 * (f + 1) * d ≤ 30 * 4 := Int.mul_le_mul (by omega) c3.2 (by omega) (by omega)
  have hm2 : 6 * (f + 1) * d = 6 * ((f + 1) * d) := Int.mul_assoc _ _ _
  have i0 : inB n 4 13 = true := inB_yes c0.1 c0.2
  have i1 : inB f 0 4 = true := inB_yes c1.1 c1.2
  have i3 : inB d 1 4 = true := inB_yes c3.1 c3.2
  have i4 : inB p (6 * (f + 1) * d + 1) 400 = true := inB_yes (by omega) c4.2
  have i5 : inB r 1 64 = true := inB_yes c5.1 c5.2
  have i6 : inB dr 0 (r - 1) = true := inB_yes c6.1 c6.2
  have i7 : inB o 0 30000 = true := inB_yes c7.1 c7.2
  have i8 : inB sl 1 30000 = true := inB_yes c8.1 c8.2
  have i9 : inB md 2 250 = true := inB_yes c9.1 c9.2
  have i10 : inB fr 1 100 = false := inB_no c10
  have c2' : ¬ n ≤ 3 * f := by omega
  clear hm2
  clear c0 c2 c4 c6 c7 c8 c9 c10
  go_enter Try.func5, Try.ntmps5
  go_wp2_with (go_at_call 11; refine (within_any _ _ _ _).mono ?_; rintro e w2 ⟨rfl, rfl⟩)
  go_ret
  exact ⟨ret_i HP.out.symm, ballc _ _⟩
set_option maxHeartbeats 1000000 in
theorem refPlain_11 (n f d p r dr o sl md fr : Int) (ad : Option Addr) (cap : Nat) (zs : List Int) (w : World) (c0 : 4 ≤ n ∧ n ≤ 13) (c1 : 0 ≤ f ∧ f ≤ 4) (c2 : 3 * f + 1 ≤ n) (c3 : 1 ≤ d ∧ d ≤ 4) (c4 : 6 * ((f + 1) * d) + 1 ≤ p ∧ p ≤ 400) (c5 : 1 ≤ r ∧ r ≤ 64) (c6 : 0 ≤ dr ∧ dr ≤ r - 1) (c7 : 0 ≤ o ∧ o ≤ 30000) (c8 : 1 ≤ sl ∧ sl ≤ 30000) (c9 : 2 ≤ md ∧ md ≤ 250) (c10 : 1 ≤ fr ∧ fr ≤ 100) (c11 : ¬ (1 ≤ (zs.length : Int) ∧ (zs.length : Int) ≤ 32)) :
    Calls Try.prog 5 #[.agg #[.int .i64 n, .int .i64 f, .int .i64 d, .int .i64 p, .int .i64 r, .int .i64 dr, .int .i64 o, .int .i64 sl, .int .i64 md, .int .i64 fr, .slice ad zs.length cap]] w fun e w' => e = .returned (.int .i64 (plainE n f d p r dr o sl md fr zs)) ∧ Below w.heap.size w w' := by
  have HP : Hid (plainE n f d p r dr o sl md fr zs = 11) := pl_11 c0 c1 c2 c3 c4 c5 c6 c7 c8 c9 c10 c11
  have hm0 : 0 ≤ 6 * (f + 1) * d := Int.mul_nonneg (by omega) (by omega)
  have hm1 : 6 * (f + 1) * d ≤ 30 * 4 := Int.mul_le_mul (by omega) c3.2 (by omega) (by omega)
  have hm2 : 6 * (f + 1) * d = 6 * ((f + 1) * d) := Int.mul_assoc _ _ _
  have i0 : inB n 4 13 = true := inB_yes c0.1 c0.2
  have i1 : inB f 0 4 = true := inB_yes c1.1 c1.2
  have i3 : inB d 1 4 = true := inB_yes c3.1 c3.2
  have i4 : inB p (6 * (f + 1) * d + 1) 400 = true := inB_yes (by omega) c4.2
  have i5 : inB r 1 64 = true := inB_yes c5.1 c5.2
  have i6 : inB dr 0 (r - 1) = true := inB_yes c6.1 c6.2
  have i7 : inB o 0 30000 = true := inB_yes c7.1 c7.2
  have i8 : inB sl 1 30000 = true := inB_yes c8.1 c8.2
  have i9 : inB md 2 250 = true := inB_yes c9.1 c9.2
  have i10 : inB fr 1 100 = true := inB_yes c10.1 c10.2
  have i11 : inB zs.length 1 32 = false := inB_no c11
  have c2' : ¬ n ≤ 3 * f := by omega
  clear hm2
  clear c0 c2 c4 c6 c7 c8 c9 c10 c11
  go_enter Try.func5, Try.ntmps5
  go_wp2_with (go_at_call 11; refine (within_any _ _ _ _).mono ?_; rintro e w2 ⟨rfl, rfl⟩)
  go_ret
  exact ⟨ret_i HP.out.symm, ballc _ _⟩
set_option maxHeartbeats 1000000 in
theorem refPlain_12 (n f d p r dr o sl md fr : Int) (ad : Option Addr) (cap : Nat) (zs : List Int) (w : World) (ob : Bool) (hT : Tab w ad zs) (c0 : 4 ≤ n ∧ n ≤ 13) (c1 : 0 ≤ f ∧ f ≤ 4) (c2 : 3 * f + 1 ≤ n) (c3 : 1 ≤ d ∧ d ≤ 4) (c4 : 6 * ((f + 1) * d) + 1 ≤ p ∧ p ≤ 400) (c5 : 1 ≤ r ∧ r ≤ 64) (c6 : 0 ≤ dr ∧ dr ≤ r - 1) (c7 : 0 ≤ o ∧ o ≤ 30000) (c8 : 1 ≤ sl ∧ sl ≤ 30000) (c9 : 2 ≤ md ∧ md ≤ 250) (c10 : 1 ≤ fr ∧ fr ≤ 100) (c11 : 1 ≤ (zs.length : Int) ∧ (zs.length : Int) ≤ 32) (hob : ownsB n zs = ob) :
    Calls Try.prog 5 #[.agg #[.int .i64 n, .int .i64 f, .int .i64 d, .int .i64 p, .int .i64 r, .int .i64 dr, .int .i64 o, .int .i64 sl, .int .i64 md, .int .i64 fr, .slice ad zs.length cap]] w fun e w' => e = .returned (.int .i64 (plainE n f d p r dr o sl md fr zs)) ∧ Below w.heap.size w w' := by
  have HP : Hid (plainE n f d p r dr o sl md fr zs = if ob = true then 0 else 11) := by rw [← hob]; exact pl_12 c0 c1 c2 c3 c4 c5 c6 c7 c8 c9 c10 c11
  have hm0 : 0 ≤ 6 * (f + 1) * d := Int.mul_nonneg (by omega) (by omega)
  have hm1 : 6 * (f + 1) * d ≤ 30 * 4 := Int.mul_le_mul (by omega) c3.2 (by omega) (by omega)
  have hm2 : 6 * (f + 1) * d = 6 * ((f + 1) * d) := Int.mul_assoc _ _ _
  have i0 : inB n 4 13 = true := inB_yes c0.1 c0.2
  have i1 : inB f 0 4 = true := inB_yes c1.1 c1.2
  have i3 : inB d 1 4 = true := inB_yes c3.1 c3.2
  have i4 : inB p (6 * (f + 1) * d + 1) 400 = true := inB_yes (by omega) c4.2
  have i5 : inB r 1 64 = true := inB_yes c5.1 c5.2
  have i6 : inB dr 0 (r - 1) = true := inB_yes c6.1 c6.2
  have i7 : inB o 0 30000 = true := inB_yes c7.1 c7.2
  have i8 : inB sl 1 30000 = true := inB_yes c8.1 c8.2
  have i9 : inB md 2 250 = true := inB_yes c9.1 c9.2
  have i10 : inB fr 1 100 = true := inB_yes c10.1 c10.2
  have i11 : inB zs.length 1 32 = true := inB_yes c11.1 c11.2
  have c2' : ¬ n ≤ 3 * f := by omega
  have HQ : Hid (Calls Try.prog 12 #[.agg #[.int .i64 n, .int .i64 f, .int .i64 d, .int .i64 p, .int .i64 r, .int .i64 dr, .int .i64 o, .int .i64 sl, .int .i64 md, .int .i64 fr, .slice ad zs.length cap]] (w.alloc (.cells #[.int .i64 n, .int .i64 f, .int .i64 d, .int .i64 p, .int .i64 r, .int .i64 dr, .int .i64 o, .int .i64 sl, .int .i64 md, .int .i64 fr, .slice ad zs.length cap] 24)) fun e w' => e = .returned (.bool ob) ∧ Below (w.alloc (.cells #[.int .i64 n, .int .i64 f, .int .i64 d, .int .i64 p, .int .i64 r, .int .i64 dr, .int .i64 o, .int .i64 sl, .int .i64 md, .int .i64 fr, .slice ad zs.length cap] 24)).heap.size (w.alloc (.cells #[.int .i64 n, .int .i64 f, .int .i64 d, .int .i64 p, .int .i64 r, .int .i64 dr, .int .i64 o, .int .i64 sl, .int .i64 md, .int .i64 fr, .slice ad zs.length cap] 24)) w') := by
    rw [← hob]; exact owned_any n f d p r dr o sl md fr ad cap zs _ c0.1 c0.2 (by omega) (hT.below (ballc _ _))
  clear hm2 hT hob c0 c2 c4 c6 c7 c8 c9 c10 c11
  cases ob
  all_goals
    go_enter Try.func5, Try.ntmps5
    go_wp2_with (first | (go_at_call 11; refine (within_any _ _ _ _).mono ?_; rintro e w2 ⟨rfl, rfl⟩) | (go_at_call 12; refine HQ.out.mono ?_; rintro e w2 ⟨rfl, hb2⟩; have HB2 : Hid (Below w.heap.size w w2) := bthen (ballc w _) hb2; clear hb2))
    go_ret
    exact ⟨ret_i (by rw [HP.out]; rfl), HB2.out⟩
theorem refPlain_any (n f d p r dr o sl md fr : Int) (ad : Option Addr) (cap : Nat) (zs : List Int) (w : World) (hl : zs.length ≤ 9223372036854775807) (hT : Tab w ad zs) :
    Calls Try.prog 5 #[.agg #[.int .i64 n, .int .i64 f, .int .i64 d, .int .i64 p, .int .i64 r, .int .i64 dr, .int .i64 o, .int .i64 sl, .int .i64 md, .int .i64 fr, .slice ad zs.length cap]] w fun e w' => e = .returned (.int .i64 (plainE n f d p r dr o sl md fr zs)) ∧ Below w.heap.size w w' := by
  by_cases c0 : 4 ≤ n ∧ n ≤ 13
  case neg => exact refPlain_0 n f d p r dr o sl md fr ad cap zs w c0
  by_cases c1 : 0 ≤ f ∧ f ≤ 4
  case neg => exact refPlain_1 n f d p r dr o sl md fr ad cap zs w c0 c1
  by_cases c2 : 3 * f + 1 ≤ n
  case neg => exact refPlain_2 n f d p r dr o sl md fr ad cap zs w c0 c1 c2
  by_cases c3 : 1 ≤ d ∧ d ≤ 4
  case neg => exact refPlain_3 n f d p r dr o sl md fr ad cap zs w c0 c1 c2 c3
  by_cases c4 : 6 * ((f + 1) * d) + 1 ≤ p ∧ p ≤ 400
  case neg => exact refPlain_4 n f d p r dr o sl md fr ad cap zs w c0 c1 c2 c3 c4
  by_cases c5 : 1 ≤ r ∧ r ≤ 64
  case neg => exact refPlain_5 n f d p r dr o sl md fr ad cap zs w c0 c1 c2 c3 c4 c5
  by_cases c6 : 0 ≤ dr ∧ dr ≤ r - 1
  case neg => exact refPlain_6 n f d p r dr o sl md fr ad cap zs w c0 c1 c2 c3 c4 c5 c6
  by_cases c7 : 0 ≤ o ∧ o ≤ 30000
  case neg => exact refPlain_7 n f d p r dr o sl md fr ad cap zs w c0 c1 c2 c3 c4 c5 c6 c7
  by_cases c8 : 1 ≤ sl ∧ sl ≤ 30000
  case neg => exact refPlain_8 n f d p r dr o sl md fr ad cap zs w c0 c1 c2 c3 c4 c5 c6 c7 c8
  by_cases c9 : 2 ≤ md ∧ md ≤ 250
  case neg => exact refPlain_9 n f d p r dr o sl md fr ad cap zs w c0 c1 c2 c3 c4 c5 c6 c7 c8 c9
  by_cases c10 : 1 ≤ fr ∧ fr ≤ 100
  case neg => exact refPlain_10 n f d p r dr o sl md fr ad cap zs w c0 c1 c2 c3 c4 c5 c6 c7 c8 c9 c10
  by_cases c11 : 1 ≤ (zs.length : Int) ∧ (zs.length : Int) ≤ 32
  case neg => exact refPlain_11 n f d p r dr o sl md fr ad cap zs w c0 c1 c2 c3 c4 c5 c6 c7 c8 c9 c10 c11
  exact refPlain_12 n f d p r dr o sl md fr ad cap zs w _ hT c0 c1 c2 c3 c4 c5 c6 c7 c8 c9 c10 c11 rfl
end Go.Proofs.Ytgclabboafdheab
