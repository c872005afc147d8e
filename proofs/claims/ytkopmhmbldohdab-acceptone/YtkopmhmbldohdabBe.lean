/- Several texts of one's own in one: what each proves, and its conditions, is said ahead of it. -/
import Derived.Test.YtkopmhmbldohdabBc
import Derived.Test.YtkopmhmbldohdabBd
import Derived.Test.YtkopmhmbldohdabBa
import Derived.Maps.AppendAt

/- The document's Plain returns the number of the first rule that a configuration breaks, else 0, and makes at most new memory; conditions: the table lies where it says, and its length fits int. -/
namespace Go.Proofs.Ytkopmhmbldohdab
open Go.ChangeShapes Go.WideShapes Go.ChangeAt Go.RowKit
set_option linter.unusedVariables false

/-- x is from a to b. -/
def inB (x a b : Int) : Bool := decide (a ≤ x ∧ x ≤ b)
theorem inB_yes {x a b : Int} (h1 : a ≤ x) (h2 : x ≤ b) : inB x a b = true := decide_eq_true ⟨h1, h2⟩
theorem inB_no {x a b : Int} (h : ¬ (a ≤ x ∧ x ≤ b)) : inB x a b = false := decide_eq_false h
theorem within_any (x a b : Int) (w : World) :
    Calls Try.prog 30 #[.int .i64 x, .int .i64 a, .int .i64 b] w fun e w' => e = .returned (.bool (inB x a b)) ∧ w' = w := by
  by_cases h : a ≤ x ∧ x ≤ b
  · exact (within_yes x a b w h.1 h.2).mono fun e w' ⟨he, hw⟩ => ⟨by rw [he]; exact ret_b (inB_yes h.1 h.2).symm, hw⟩
  · exact (within_no x a b w h).mono fun e w' ⟨he, hw⟩ => ⟨by rw [he]; exact ret_b (inB_no h).symm, hw⟩

set_option maxHeartbeats 1000000 in
theorem refPlain_0 (n f d p r dr o sl md fr : Int) (ad : Option Addr) (cap : Nat) (zs : List Int) (w : World)  (c0 : ¬ (4 ≤ n ∧ n ≤ 13)) :
    Calls Try.prog 20 #[.agg #[.int .i64 n, .int .i64 f, .int .i64 d, .int .i64 p, .int .i64 r, .int .i64 dr, .int .i64 o, .int .i64 sl, .int .i64 md, .int .i64 fr, .slice ad zs.length cap]] w fun e w' => e = .returned (.int .i64 (plainE n f d p r dr o sl md fr zs)) ∧ Below w.heap.size w w' := by
  have HP : Hid (plainE n f d p r dr o sl md fr zs = 7) := pl_0 c0
  have i0 : inB n 4 13 = false := inB_no c0
  clear c0
  go_enter Try.func20, Try.ntmps20
  go_wp2_with (go_at_call 30; refine (within_any _ _ _ _).mono ?_; rintro e w2 ⟨rfl, rfl⟩)
  go_ret
  exact ⟨ret_i HP.out.symm, ballc _ _⟩
set_option maxHeartbeats 1000000 in
theorem refPlain_1 (n f d p r dr o sl md fr : Int) (ad : Option Addr) (cap : Nat) (zs : List Int) (w : World) (c0 : 4 ≤ n ∧ n ≤ 13) (c1 : ¬ (0 ≤ f ∧ f ≤ 4)) :
    Calls Try.prog 20 #[.agg #[.int .i64 n, .int .i64 f, .int .i64 d, .int .i64 p, .int .i64 r, .int .i64 dr, .int .i64 o, .int .i64 sl, .int .i64 md, .int .i64 fr, .slice ad zs.length cap]] w fun e w' => e = .returned (.int .i64 (plainE n f d p r dr o sl md fr zs)) ∧ Below w.heap.size w w' := by
  have HP : Hid (plainE n f d p r dr o sl md fr zs = 7) := pl_1 c0 c1
  have i0 : inB n 4 13 = true := inB_yes c0.1 c0.2
  have i1 : inB f 0 4 = false := inB_no c1
  clear c0 c1
  go_enter Try.func20, Try.ntmps20
  go_wp2_with (go_at_call 30; refine (within_any _ _ _ _).mono ?_; rintro e w2 ⟨rfl, rfl⟩)
  go_ret
  exact ⟨ret_i HP.out.symm, ballc _ _⟩
set_option maxHeartbeats 1000000 in
theorem refPlain_2 (n f d p r dr o sl md fr : Int) (ad : Option Addr) (cap : Nat) (zs : List Int) (w : World) (c0 : 4 ≤ n ∧ n ≤ 13) (c1 : 0 ≤ f ∧ f ≤ 4) (c2 : ¬ (3 * f + 1 ≤ n)) :
    Calls Try.prog 20 #[.agg #[.int .i64 n, .int .i64 f, .int .i64 d, .int .i64 p, .int .i64 r, .int .i64 dr, .int .i64 o, .int .i64 sl, .int .i64 md, .int .i64 fr, .slice ad zs.length cap]] w fun e w' => e = .returned (.int .i64 (plainE n f d p r dr o sl md fr zs)) ∧ Below w.heap.size w w' := by
  have HP : Hid (plainE n f d p r dr o sl md fr zs = 7) := pl_2 c0 c1 c2
  have i0 : inB n 4 13 = true := inB_yes c0.1 c0.2
  have i1 : inB f 0 4 = true := inB_yes c1.1 c1.2
  have c2' : n ≤ 3 * f := by omega
  clear c0 c2
  go_enter Try.func20, Try.ntmps20
  go_wp2_with (go_at_call 30; refine (within_any _ _ _ _).mono ?_; rintro e w2 ⟨rfl, rfl⟩)
  go_ret
  exact ⟨ret_i HP.out.symm, ballc _ _⟩
set_option maxHeartbeats 1000000 in
theorem refPlain_3 (n f d p r dr o sl md fr : Int) (ad : Option Addr) (cap : Nat) (zs : List Int) (w : World) (c0 : 4 ≤ n ∧ n ≤ 13) (c1 : 0 ≤ f ∧ f ≤ 4) (c2 : 3 * f + 1 ≤ n) (c3 : ¬ (1 ≤ d ∧ d ≤ 4)) :
    Calls Try.prog 20 #[.agg #[.int .i64 n, .int .i64 f, .int .i64 d, .int .i64 p, .int .i64 r, .int .i64 dr, .int .i64 o, .int .i64 sl, .int .i64 md, .int .i64 fr, .slice ad zs.length cap]] w fun e w' => e = .returned (.int .i64 (plainE n f d p r dr o sl md fr zs)) ∧ Below w.heap.size w w' := by
  have HP : Hid (plainE n f d p r dr o sl md fr zs = 10) := pl_3 c0 c1 c2 c3
  have i0 : inB n 4 13 = true := inB_yes c0.1 c0.2
  have i1 : inB f 0 4 = true := inB_yes c1.1 c1.2
  have i3 : inB d 1 4 = false := inB_no c3
  have c2' : ¬ n ≤ 3 * f := by omega
  clear c0 c2 c3
  go_enter Try.func20, Try.ntmps20
  go_wp2_with (go_at_call 30; refine (within_any _ _ _ _).mono ?_; rintro e w2 ⟨rfl, rfl⟩)
  go_ret
  exact ⟨ret_i HP.out.symm, ballc _ _⟩
set_option maxHeartbeats 1000000 in
theorem refPlain_4 (n f d p r dr o sl md fr : Int) (ad : Option Addr) (cap : Nat) (zs : List Int) (w : World) (c0 : 4 ≤ n ∧ n ≤ 13) (c1 : 0 ≤ f ∧ f ≤ 4) (c2 : 3 * f + 1 ≤ n) (c3 : 1 ≤ d ∧ d ≤ 4) (c4 : ¬ (6 * ((f + 1) * d) + 1 ≤ p ∧ p ≤ 400)) :
    Calls Try.prog 20 #[.agg #[.int .i64 n, .int .i64 f, .int .i64 d, .int .i64 p, .int .i64 r, .int .i64 dr, .int .i64 o, .int .i64 sl, .int .i64 md, .int .i64 fr, .slice ad zs.length cap]] w fun e w' => e = .returned (.int .i64 (plainE n f d p r dr o sl md fr zs)) ∧ Below w.heap.size w w' := by
  have HP : Hid (plainE n f d p r dr o sl md fr zs = 8) := pl_4 c0 c1 c2 c3 c4
  have hm0 : 0 ≤ 6 * (f + 1) * d := Int.mul_nonneg (by omega) (by omega)
  have hm1 : 6 * (f + 1) * d ≤ 30 * 4 := Int.mul_le_mul (by omega) c3.2 (by omega) (by omega)
  have hm2 : 6 * (f + 1) * d = 6 * ((f + 1) * d) := Int.mul_assoc _ _ _
  have i0 : inB n 4 13 = true := inB_yes c0.1 c0.2
  have i1 : inB f 0 4 = true := inB_yes c1.1 c1.2
  have i3 : inB d 1 4 = true := inB_yes c3.1 c3.2
  have i4 : inB p (6 * (f + 1) * d + 1) 400 = false := inB_no (by omega)
  have c2' : ¬ n ≤ 3 * f := by omega
  clear hm2
  clear c0 c2 c4
  go_enter Try.func20, Try.ntmps20
  go_wp2_with (go_at_call 30; refine (within_any _ _ _ _).mono ?_; rintro e w2 ⟨rfl, rfl⟩)
  go_ret
  exact ⟨ret_i HP.out.symm, ballc _ _⟩
set_option maxHeartbeats 1000000 in
theorem refPlain_5 (n f d p r dr o sl md fr : Int) (ad : Option Addr) (cap : Nat) (zs : List Int) (w : World) (c0 : 4 ≤ n ∧ n ≤ 13) (c1 : 0 ≤ f ∧ f ≤ 4) (c2 : 3 * f + 1 ≤ n) (c3 : 1 ≤ d ∧ d ≤ 4) (c4 : 6 * ((f + 1) * d) + 1 ≤ p ∧ p ≤ 400) (c5 : ¬ (1 ≤ r ∧ r ≤ 64)) :
    Calls Try.prog 20 #[.agg #[.int .i64 n, .int .i64 f, .int .i64 d, .int .i64 p, .int .i64 r, .int .i64 dr, .int .i64 o, .int .i64 sl, .int .i64 md, .int .i64 fr, .slice ad zs.length cap]] w fun e w' => e = .returned (.int .i64 (plainE n f d p r dr o sl md fr zs)) ∧ Below w.heap.size w w' := by
  have HP : Hid (plainE n f d p r dr o sl md fr zs = 8) := pl_5 c0 c1 c2 c3 c4 c5
  have hm0 : 0 ≤ 6 * (f + 1) * d := Int.mul_nonneg (by omega) (by omega)
  have hm1 : 6 * (f + 1) * d ≤ 30 * 4 := Int.mul_le_mul (by omega) c3.2 (by omega) (by omega)
  have hm2 : 6 * (f + 1) * d = 6 * ((f + 1) * d) := Int.mul_assoc _ _ _
  have i0 : inB n 4 13 = true := inB_yes c0.1 c0.2
  have i1 : inB f 0 4 = true := inB_yes c1.1 c1.2
  have i3 : inB d 1 4 = true := inB_yes c3.1 c3.2
  have i4 : inB p (6 * (f + 1) * d + 1) 400 = true := inB_yes (by omega) c4.2
  have i5 : inB r 1 64 = false := inB_no c5
  have c2' : ¬ n ≤ 3 * f := by omega
  clear hm2
  clear c0 c2 c4 c5
  go_enter Try.func20, Try.ntmps20
  go_wp2_with (go_at_call 30; refine (within_any _ _ _ _).mono ?_; rintro e w2 ⟨rfl, rfl⟩)
  go_ret
  exact ⟨ret_i HP.out.symm, ballc _ _⟩
set_option maxHeartbeats 1000000 in
theorem refPlain_6 (n f d p r dr o sl md fr : Int) (ad : Option Addr) (cap : Nat) (zs : List Int) (w : World) (c0 : 4 ≤ n ∧ n ≤ 13) (c1 : 0 ≤ f ∧ f ≤ 4) (c2 : 3 * f + 1 ≤ n) (c3 : 1 ≤ d ∧ d ≤ 4) (c4 : 6 * ((f + 1) * d) + 1 ≤ p ∧ p ≤ 400) (c5 : 1 ≤ r ∧ r ≤ 64) (c6 : ¬ (0 ≤ dr ∧ dr ≤ r - 1)) :
    Calls Try.prog 20 #[.agg #[.int .i64 n, .int .i64 f, .int .i64 d, .int .i64 p, .int .i64 r, .int .i64 dr, .int .i64 o, .int .i64 sl, .int .i64 md, .int .i64 fr, .slice ad zs.length cap]] w fun e w' => e = .returned (.int .i64 (plainE n f d p r dr o sl md fr zs)) ∧ Below w.heap.size w w' := by
  have HP : Hid (plainE n f d p r dr o sl md fr zs = 8) := pl_6 c0 c1 c2 c3 c4 c5 c6
  have hm0 : 0 ≤ 6 * (f + 1) * d := Int.mul_nonneg (by omega) (by omega)
  have hm1 : 6 * (f + 1) * d ≤ 30 * 4 := Int.mul_le_mul (by omega) c3.2 (by omega) (by omega)
  have hm2 : 6 * (f + 1) * d = 6 * ((f + 1) * d) := Int.mul_assoc _ _ _
  have i0 : inB n 4 13 = true := inB_yes c0.1 c0.2
  have i1 : inB f 0 4 = true := inB_yes c1.1 c1.2
  have i3 : inB d 1 4 = true := inB_yes c3.1 c3.2
  have i4 : inB p (6 * (f + 1) * d + 1) 400 = true := inB_yes (by omega) c4.2
  have i5 : inB r 1 64 = true := inB_yes c5.1 c5.2
  have i6 : inB dr 0 (r - 1) = false := inB_no c6
  have c2' : ¬ n ≤ 3 * f := by omega
  clear hm2
  clear c0 c2 c4 c6
  go_enter Try.func20, Try.ntmps20
  go_wp2_with (go_at_call 30; refine (within_any _ _ _ _).mono ?_; rintro e w2 ⟨rfl, rfl⟩)
  go_ret
  exact ⟨ret_i HP.out.symm, ballc _ _⟩
set_option maxHeartbeats 1000000 in
theorem refPlain_7 (n f d p r dr o sl md fr : Int) (ad : Option Addr) (cap : Nat) (zs : List Int) (w : World) (c0 : 4 ≤ n ∧ n ≤ 13) (c1 : 0 ≤ f ∧ f ≤ 4) (c2 : 3 * f + 1 ≤ n) (c3 : 1 ≤ d ∧ d ≤ 4) (c4 : 6 * ((f + 1) * d) + 1 ≤ p ∧ p ≤ 400) (c5 : 1 ≤ r ∧ r ≤ 64) (c6 : 0 ≤ dr ∧ dr ≤ r - 1) (c7 : ¬ (0 ≤ o ∧ o ≤ 30000)) :
    Calls Try.prog 20 #[.agg #[.int .i64 n, .int .i64 f, .int .i64 d, .int .i64 p, .int .i64 r, .int .i64 dr, .int .i64 o, .int .i64 sl, .int .i64 md, .int .i64 fr, .slice ad zs.length cap]] w fun e w' => e = .returned (.int .i64 (plainE n f d p r dr o sl md fr zs)) ∧ Below w.heap.size w w' := by
  have HP : Hid (plainE n f d p r dr o sl md fr zs = 8) := pl_7 c0 c1 c2 c3 c4 c5 c6 c7
  have hm0 : 0 ≤ 6 * (f + 1) * d := Int.mul_nonneg (by omega) (by omega)
  have hm1 : 6 * (f + 1) * d ≤ 30 * 4 := Int.mul_le_mul (by omega) c3.2 (by omega) (by omega)
  have hm2 : 6 * (f + 1) * d = 6 * ((f + 1) * d) := Int.mul_assoc _ _ _
  have i0 : inB n 4 13 = true := inB_yes c0.1 c0.2
  have i1 : inB f 0 4 = true := inB_yes c1.1 c1.2
  have i3 : inB d 1 4 = true := inB_yes c3.1 c3.2
  have i4 : inB p (6 * (f + 1) * d + 1) 400 = true := inB_yes (by omega) c4.2
  have i5 : inB r 1 64 = true := inB_yes c5.1 c5.2
  have i6 : inB dr 0 (r - 1) = true := inB_yes c6.1 c6.2
  have i7 : inB o 0 30000 = false := inB_no c7
  have c2' : ¬ n ≤ 3 * f := by omega
  clear hm2
  clear c0 c2 c4 c6 c7
  go_enter Try.func20, Try.ntmps20
  go_wp2_with (go_at_call 30; refine (within_any _ _ _ _).mono ?_; rintro e w2 ⟨rfl, rfl⟩)
  go_ret
  exact ⟨ret_i HP.out.symm, ballc _ _⟩
set_option maxHeartbeats 1000000 in
theorem refPlain_8 (n f d p r dr o sl md fr : Int) (ad : Option Addr) (cap : Nat) (zs : List Int) (w : World) (c0 : 4 ≤ n ∧ n ≤ 13) (c1 : 0 ≤ f ∧ f ≤ 4) (c2 : 3 * f + 1 ≤ n) (c3 : 1 ≤ d ∧ d ≤ 4) (c4 : 6 * ((f + 1) * d) + 1 ≤ p ∧ p ≤ 400) (c5 : 1 ≤ r ∧ r ≤ 64) (c6 : 0 ≤ dr ∧ dr ≤ r - 1) (c7 : 0 ≤ o ∧ o ≤ 30000) (c8 : ¬ (1 ≤ sl ∧ sl ≤ 30000)) :
    Calls Try.prog 20 #[.agg #[.int .i64 n, .int .i64 f, .int .i64 d, .int .i64 p, .int .i64 r, .int .i64 dr, .int .i64 o, .int .i64 sl, .int .i64 md, .int .i64 fr, .slice ad zs.length cap]] w fun e w' => e = .returned (.int .i64 (plainE n f d p r dr o sl md fr zs)) ∧ Below w.heap.size w w' := by
  have HP : Hid (plainE n f d p r dr o sl md fr zs = 8) := pl_8 c0 c1 c2 c3 c4 c5 c6 c7 c8
  have hm0 : 0 ≤ 6 * (f + 1) * d := Int.mul_nonneg (by omega) (by omega)
  have hm1 : 6 * (f + 1) * d ≤ 30 * 4 := Int.mul_le_mul (by omega) c3.2 (by omega) (by omega)
  have hm2 : 6 * (f + 1) * d = 6 * ((f + 1) * d) := Int.mul_assoc _ _ _
  have i0 : inB n 4 13 = true := inB_yes c0.1 c0.2
  have i1 : inB f 0 4 = true := inB_yes c1.1 c1.2
  have i3 : inB d 1 4 = true := inB_yes c3.1 c3.2
  have i4 : inB p (6 * (f + 1) * d + 1) 400 = true := inB_yes (by omega) c4.2
  have i5 : inB r 1 64 = true := inB_yes c5.1 c5.2
  have i6 : inB dr 0 (r - 1) = true := inB_yes c6.1 c6.2
  have i7 : inB o 0 30000 = true := inB_yes c7.1 c7.2
  have i8 : inB sl 1 30000 = false := inB_no c8
  have c2' : ¬ n ≤ 3 * f := by omega
  clear hm2
  clear c0 c2 c4 c6 c7 c8
  go_enter Try.func20, Try.ntmps20
  go_wp2_with (go_at_call 30; refine (within_any _ _ _ _).mono ?_; rintro e w2 ⟨rfl, rfl⟩)
  go_ret
  exact ⟨ret_i HP.out.symm, ballc _ _⟩
set_option maxHeartbeats 1000000 in
theorem refPlain_9 (n f d p r dr o sl md fr : Int) (ad : Option Addr) (cap : Nat) (zs : List Int) (w : World) (c0 : 4 ≤ n ∧ n ≤ 13) (c1 : 0 ≤ f ∧ f ≤ 4) (c2 : 3 * f + 1 ≤ n) (c3 : 1 ≤ d ∧ d ≤ 4) (c4 : 6 * ((f + 1) * d) + 1 ≤ p ∧ p ≤ 400) (c5 : 1 ≤ r ∧ r ≤ 64) (c6 : 0 ≤ dr ∧ dr ≤ r - 1) (c7 : 0 ≤ o ∧ o ≤ 30000) (c8 : 1 ≤ sl ∧ sl ≤ 30000) (c9 : ¬ (2 ≤ md ∧ md ≤ 250)) :
    Calls Try.prog 20 #[.agg #[.int .i64 n, .int .i64 f, .int .i64 d, .int .i64 p, .int .i64 r, .int .i64 dr, .int .i64 o, .int .i64 sl, .int .i64 md, .int .i64 fr, .slice ad zs.length cap]] w fun e w' => e = .returned (.int .i64 (plainE n f d p r dr o sl md fr zs)) ∧ Below w.heap.size w w' := by
  have HP : Hid (plainE n f d p r dr o sl md fr zs = 8) := pl_9 c0 c1 c2 c3 c4 c5 c6 c7 c8 c9
  have hm0 : 0 ≤ 6 * (f + 1) * d := Int.mul_nonneg (by omega) (by omega)
  have hm1 : 6 * (f + 1) * d ≤ 30 * 4 := Int.mul_le_mul (by omega) c3.2 (by omega) (by omega)
  have hm2 : 6 * (f + 1) * d = 6 * ((f + 1) * d) := Int.mul_assoc _ _ _
  have i0 : inB n 4 13 = true := inB_yes c0.1 c0.2
  have i1 : inB f 0 4 = true := inB_yes c1.1 c1.2
  have i3 : inB d 1 4 = true := inB_yes c3.1 c3.2
  have i4 : inB p (6 * (f + 1) * d + 1) 400 = true := inB_yes (by omega) c4.2
  have i5 : inB r 1 64 = true := inB_yes c5.1 c5.2
  have i6 : inB dr 0 (r - 1) = true := inB_yes c6.1 c6.2
  have i7 : inB o 0 30000 = true := inB_yes c7.1 c7.2
  have i8 : inB sl 1 30000 = true := inB_yes c8.1 c8.2
  have i9 : inB md 2 250 = false := inB_no c9
  have c2' : ¬ n ≤ 3 * f := by omega
  clear hm2
  clear c0 c2 c4 c6 c7 c8 c9
  go_enter Try.func20, Try.ntmps20
  go_wp2_with (go_at_call 30; refine (within_any _ _ _ _).mono ?_; rintro e w2 ⟨rfl, rfl⟩)
  go_ret
  exact ⟨ret_i HP.out.symm, ballc _ _⟩
set_option maxHeartbeats 1000000 in
theorem refPlain_10 (n f d p r dr o sl md fr : Int) (ad : Option Addr) (cap : Nat) (zs : List Int) (w : World) (c0 : 4 ≤ n ∧ n ≤ 13) (c1 : 0 ≤ f ∧ f ≤ 4) (c2 : 3 * f + 1 ≤ n) (c3 : 1 ≤ d ∧ d ≤ 4) (c4 : 6 * ((f + 1) * d) + 1 ≤ p ∧ p ≤ 400) (c5 : 1 ≤ r ∧ r ≤ 64) (c6 : 0 ≤ dr ∧ dr ≤ r - 1) (c7 : 0 ≤ o ∧ o ≤ 30000) (c8 : 1 ≤ sl ∧ sl ≤ 30000) (c9 : 2 ≤ md ∧ md ≤ 250) (c10 : ¬ (1 ≤ fr ∧ fr ≤ 100)) :
    Calls Try.prog 20 #[.agg #[.int .i64 n, .int .i64 f, .int .i64 d, .int .i64 p, .int .i64 r, .int .i64 dr, .int .i64 o, .int .i64 sl, .int .i64 md, .int .i64 fr, .slice ad zs.length cap]] w fun e w' => e = .returned (.int .i64 (plainE n f d p r dr o sl md fr zs)) ∧ Below w.heap.size w w' := by
  have HP : Hid (plainE n f d p r dr o sl md fr zs = 8) := pl_10 c0 c1 c2 c3 c4 c5 c6 c7 c8 c9 c10
  have hm0 : 0 ≤ 6 * (f + 1) * d := Int.mul_nonneg (by omega) (by omega)
  have hm1 : 6 * (f + 1) * d ≤ 30 * 4 := Int.mul_le_mul (by omega) c3.2 (by omega) (by omega)
  have hm2 : 6 * (f + 1) * d = 6 * ((f + 1) * d) := Int.mul_assoc _ _ _
  have i0 : inB n 4 13 = true := inB_yes c0.1 c0.2
  have i1 : inB f 0 4 = true := inB_yes c1.1 c1.2
  have i3 : inB d 1 4 = true := inB_yes c3.1 c3.2
  have i4 : inB p (6 * (f + 1) * d + 1) 400 = true := inB_yes (by omega) c4.2
  have i5 : inB r 1 64 = true := inB_yes c5.1 c5.2
  have i6 : inB dr 0 (r - 1) = true := inB_yes c6.1 c6.2
  have i7 : inB o 0 30000 = true := inB_yes c7.1 c7.2
  have i8 : inB sl 1 30000 = true := inB_yes c8.1 c8.2
  have i9 : inB md 2 250 = true := inB_yes c9.1 c9.2
  have i10 : inB fr 1 100 = false := inB_no c10
  have c2' : ¬ n ≤ 3 * f := by omega
  clear hm2
  clear c0 c2 c4 c6 c7 c8 c9 c10
  go_enter Try.func20, Try.ntmps20
  go_wp2_with (go_at_call 30; refine (within_any _ _ _ _).mono ?_; rintro e w2 ⟨rfl, rfl⟩)
  go_ret
  exact ⟨ret_i HP.out.symm, ballc _ _⟩
set_option maxHeartbeats 1000000 in
theorem refPlain_11 (n f d p r dr o sl md fr : Int) (ad : Option Addr) (cap : Nat) (zs : List Int) (w : World) (c0 : 4 ≤ n ∧ n ≤ 13) (c1 : 0 ≤ f ∧ f ≤ 4) (c2 : 3 * f + 1 ≤ n) (c3 : 1 ≤ d ∧ d ≤ 4) (c4 : 6 * ((f + 1) * d) + 1 ≤ p ∧ p ≤ 400) (c5 : 1 ≤ r ∧ r ≤ 64) (c6 : 0 ≤ dr ∧ dr ≤ r - 1) (c7 : 0 ≤ o ∧ o ≤ 30000) (c8 : 1 ≤ sl ∧ sl ≤ 30000) (c9 : 2 ≤ md ∧ md ≤ 250) (c10 : 1 ≤ fr ∧ fr ≤ 100) (c11 : ¬ (1 ≤ (zs.length : Int) ∧ (zs.length : Int) ≤ 32)) :
    Calls Try.prog 20 #[.agg #[.int .i64 n, .int .i64 f, .int .i64 d, .int .i64 p, .int .i64 r, .int .i64 dr, .int .i64 o, .int .i64 sl, .int .i64 md, .int .i64 fr, .slice ad zs.length cap]] w fun e w' => e = .returned (.int .i64 (plainE n f d p r dr o sl md fr zs)) ∧ Below w.heap.size w w' := by
  have HP : Hid (plainE n f d p r dr o sl md fr zs = 11) := pl_11 c0 c1 c2 c3 c4 c5 c6 c7 c8 c9 c10 c11
  have hm0 : 0 ≤ 6 * (f + 1) * d := Int.mul_nonneg (by omega) (by omega)
  have hm1 : 6 * (f + 1) * d ≤ 30 * 4 := Int.mul_le_mul (by omega) c3.2 (by omega) (by omega)
  have hm2 : 6 * (f + 1) * d = 6 * ((f + 1) * d) := Int.mul_assoc _ _ _
  have i0 : inB n 4 13 = true := inB_yes c0.1 c0.2
  have i1 : inB f 0 4 = true := inB_yes c1.1 c1.2
  have i3 : inB d 1 4 = true := inB_yes c3.1 c3.2
  have i4 : inB p (6 * (f + 1) * d + 1) 400 = true := inB_yes (by omega) c4.2
  have i5 : inB r 1 64 = true := inB_yes c5.1 c5.2
  have i6 : inB dr 0 (r - 1) = true := inB_yes c6.1 c6.2
  have i7 : inB o 0 30000 = true := inB_yes c7.1 c7.2
  have i8 : inB sl 1 30000 = true := inB_yes c8.1 c8.2
  have i9 : inB md 2 250 = true := inB_yes c9.1 c9.2
  have i10 : inB fr 1 100 = true := inB_yes c10.1 c10.2
  have i11 : inB zs.length 1 32 = false := inB_no c11
  have c2' : ¬ n ≤ 3 * f := by omega
  clear hm2
  clear c0 c2 c4 c6 c7 c8 c9 c10 c11
  go_enter Try.func20, Try.ntmps20
  go_wp2_with (go_at_call 30; refine (within_any _ _ _ _).mono ?_; rintro e w2 ⟨rfl, rfl⟩)
  go_ret
  exact ⟨ret_i HP.out.symm, ballc _ _⟩
set_option maxHeartbeats 1000000 in
theorem refPlain_12 (n f d p r dr o sl md fr : Int) (ad : Option Addr) (cap : Nat) (zs : List Int) (w : World) (ob : Bool) (hT : Tab w ad zs) (c0 : 4 ≤ n ∧ n ≤ 13) (c1 : 0 ≤ f ∧ f ≤ 4) (c2 : 3 * f + 1 ≤ n) (c3 : 1 ≤ d ∧ d ≤ 4) (c4 : 6 * ((f + 1) * d) + 1 ≤ p ∧ p ≤ 400) (c5 : 1 ≤ r ∧ r ≤ 64) (c6 : 0 ≤ dr ∧ dr ≤ r - 1) (c7 : 0 ≤ o ∧ o ≤ 30000) (c8 : 1 ≤ sl ∧ sl ≤ 30000) (c9 : 2 ≤ md ∧ md ≤ 250) (c10 : 1 ≤ fr ∧ fr ≤ 100) (c11 : 1 ≤ (zs.length : Int) ∧ (zs.length : Int) ≤ 32) (hob : ownsB n zs = ob) :
    Calls Try.prog 20 #[.agg #[.int .i64 n, .int .i64 f, .int .i64 d, .int .i64 p, .int .i64 r, .int .i64 dr, .int .i64 o, .int .i64 sl, .int .i64 md, .int .i64 fr, .slice ad zs.length cap]] w fun e w' => e = .returned (.int .i64 (plainE n f d p r dr o sl md fr zs)) ∧ Below w.heap.size w w' := by
  have HP : Hid (plainE n f d p r dr o sl md fr zs = if ob = true then 0 else 11) := by rw [← hob]; exact pl_12 c0 c1 c2 c3 c4 c5 c6 c7 c8 c9 c10 c11
  have hm0 : 0 ≤ 6 * (f + 1) * d := Int.mul_nonneg (by omega) (by omega)
  have hm1 : 6 * (f + 1) * d ≤ 30 * 4 := Int.mul_le_mul (by omega) c3.2 (by omega) (by omega)
  have hm2 : 6 * (f + 1) * d = 6 * ((f + 1) * d) := Int.mul_assoc _ _ _
  have i0 : inB n 4 13 = true := inB_yes c0.1 c0.2
  have i1 : inB f 0 4 = true := inB_yes c1.1 c1.2
  have i3 : inB d 1 4 = true := inB_yes c3.1 c3.2
  have i4 : inB p (6 * (f + 1) * d + 1) 400 = true := inB_yes (by omega) c4.2
  have i5 : inB r 1 64 = true := inB_yes c5.1 c5.2
  have i6 : inB dr 0 (r - 1) = true := inB_yes c6.1 c6.2
  have i7 : inB o 0 30000 = true := inB_yes c7.1 c7.2
  have i8 : inB sl 1 30000 = true := inB_yes c8.1 c8.2
  have i9 : inB md 2 250 = true := inB_yes c9.1 c9.2
  have i10 : inB fr 1 100 = true := inB_yes c10.1 c10.2
  have i11 : inB zs.length 1 32 = true := inB_yes c11.1 c11.2
  have c2' : ¬ n ≤ 3 * f := by omega
  have HQ : Hid (Calls Try.prog 31 #[.agg #[.int .i64 n, .int .i64 f, .int .i64 d, .int .i64 p, .int .i64 r, .int .i64 dr, .int .i64 o, .int .i64 sl, .int .i64 md, .int .i64 fr, .slice ad zs.length cap]] (w.alloc (.cells #[.int .i64 n, .int .i64 f, .int .i64 d, .int .i64 p, .int .i64 r, .int .i64 dr, .int .i64 o, .int .i64 sl, .int .i64 md, .int .i64 fr, .slice ad zs.length cap] 24)) fun e w' => e = .returned (.bool ob) ∧ Below (w.alloc (.cells #[.int .i64 n, .int .i64 f, .int .i64 d, .int .i64 p, .int .i64 r, .int .i64 dr, .int .i64 o, .int .i64 sl, .int .i64 md, .int .i64 fr, .slice ad zs.length cap] 24)).heap.size (w.alloc (.cells #[.int .i64 n, .int .i64 f, .int .i64 d, .int .i64 p, .int .i64 r, .int .i64 dr, .int .i64 o, .int .i64 sl, .int .i64 md, .int .i64 fr, .slice ad zs.length cap] 24)) w') := by
    rw [← hob]; exact owned_any n f d p r dr o sl md fr ad cap zs _ c0.1 c0.2 (by omega) (hT.below (ballc _ _))
  clear hm2 hT hob c0 c2 c4 c6 c7 c8 c9 c10 c11
  cases ob
  all_goals
    go_enter Try.func20, Try.ntmps20
    go_wp2_with (first | (go_at_call 30; refine (within_any _ _ _ _).mono ?_; rintro e w2 ⟨rfl, rfl⟩) | (go_at_call 31; refine HQ.out.mono ?_; rintro e w2 ⟨rfl, hb2⟩; have HB2 : Hid (Below w.heap.size w w2) := bthen (ballc w _) hb2; clear hb2))
    go_ret
    exact ⟨ret_i (by rw [HP.out]; rfl), HB2.out⟩
theorem refPlain_any (n f d p r dr o sl md fr : Int) (ad : Option Addr) (cap : Nat) (zs : List Int) (w : World) (hl : zs.length ≤ 9223372036854775807) (hT : Tab w ad zs) :
    Calls Try.prog 20 #[.agg #[.int .i64 n, .int .i64 f, .int .i64 d, .int .i64 p, .int .i64 r, .int .i64 dr, .int .i64 o, .int .i64 sl, .int .i64 md, .int .i64 fr, .slice ad zs.length cap]] w fun e w' => e = .returned (.int .i64 (plainE n f d p r dr o sl md fr zs)) ∧ Below w.heap.size w w' := by
  by_cases c0 : 4 ≤ n ∧ n ≤ 13
  case neg => exact refPlain_0 n f d p r dr o sl md fr ad cap zs w c0
  by_cases c1 : 0 ≤ f ∧ f ≤ 4
  case neg => exact refPlain_1 n f d p r dr o sl md fr ad cap zs w c0 c1
  by_cases c2 : 3 * f + 1 ≤ n
  case neg => exact refPlain_2 n f d p r dr o sl md fr ad cap zs w c0 c1 c2
  by_cases c3 : 1 ≤ d ∧ d ≤ 4
  case neg => exact refPlain_3 n f d p r dr o sl md fr ad cap zs w c0 c1 c2 c3
  by_cases c4 : 6 * ((f + 1) * d) + 1 ≤ p ∧ p ≤ 400
  case neg => exact refPlain_4 n f d p r dr o sl md fr ad cap zs w c0 c1 c2 c3 c4
  by_cases c5 : 1 ≤ r ∧ r ≤ 64
  case neg => exact refPlain_5 n f d p r dr o sl md fr ad cap zs w c0 c1 c2 c3 c4 c5
  by_cases c6 : 0 ≤ dr ∧ dr ≤ r - 1
  case neg => exact refPlain_6 n f d p r dr o sl md fr ad cap zs w c0 c1 c2 c3 c4 c5 c6
  by_cases c7 : 0 ≤ o ∧ o ≤ 30000
  case neg => exact refPlain_7 n f d p r dr o sl md fr ad cap zs w c0 c1 c2 c3 c4 c5 c6 c7
  by_cases c8 : 1 ≤ sl ∧ sl ≤ 30000
  case neg => exact refPlain_8 n f d p r dr o sl md fr ad cap zs w c0 c1 c2 c3 c4 c5 c6 c7 c8
  by_cases c9 : 2 ≤ md ∧ md ≤ 250
  case neg => exact refPlain_9 n f d p r dr o sl md fr ad cap zs w c0 c1 c2 c3 c4 c5 c6 c7 c8 c9
  by_cases c10 : 1 ≤ fr ∧ fr ≤ 100
  case neg => exact refPlain_10 n f d p r dr o sl md fr ad cap zs w c0 c1 c2 c3 c4 c5 c6 c7 c8 c9 c10
  by_cases c11 : 1 ≤ (zs.length : Int) ∧ (zs.length : Int) ≤ 32
  case neg => exact refPlain_11 n f d p r dr o sl md fr ad cap zs w c0 c1 c2 c3 c4 c5 c6 c7 c8 c9 c10 c11
  exact refPlain_12 n f d p r dr o sl md fr ad cap zs w _ hT c0 c1 c2 c3 c4 c5 c6 c7 c8 c9 c10 c11 rfl
end Go.Proofs.Ytkopmhmbldohdab

/- The document's Rounds, Length and Bits return what they say, of what is plain, else 0, and make at most new memory; conditions: the table lies where it says, and its length fits int. -/
namespace Go.Proofs.Ytkopmhmbldohdab
open Go.ChangeShapes Go.WideShapes Go.ChangeAt Go.RowKit
set_option linter.unusedVariables false

end Go.Proofs.Ytkopmhmbldohdab

/- The document's Begin, Middle, Guard, Right, Settle and All return what they say, and make at most new memory; conditions: the table lies where it says, and its length fits int. -/
namespace Go.Proofs.Ytkopmhmbldohdab
open Go.ChangeShapes Go.WideShapes Go.ChangeAt Go.RowKit
set_option linter.unusedVariables false
attribute [local go_sem] cell_rg

set_option maxHeartbeats 1000000 in
theorem RBegin_any (n f d p r dr o sl md fr : Int) (ad : Option Addr) (cap : Nat) (zs : List Int) (s : Int) (w : World) (hl : zs.length ≤ 9223372036854775807) (hT : Tab w ad zs) :
    Calls Try.prog 21 #[.agg #[.int .i64 n, .int .i64 f, .int .i64 d, .int .i64 p, .int .i64 r, .int .i64 dr, .int .i64 o, .int .i64 sl, .int .i64 md, .int .i64 fr, .slice ad zs.length cap], .int .i64 s] w fun e w' => e = .returned (.int .i64 (placeE (plainE n f d p r dr o sl md fr zs) (slotB s zs.length) (o + s * sl))) ∧ Below w.heap.size w w' := by
  have HT := hidden (hT.below (ballc w (.cells #[.int .i64 n, .int .i64 f, .int .i64 d, .int .i64 p, .int .i64 r, .int .i64 dr, .int .i64 o, .int .i64 sl, .int .i64 md, .int .i64 fr, .slice ad zs.length cap] 24)))
  have HP := hidden (refPlain_any n f d p r dr o sl md fr ad cap zs (w.alloc (.cells #[.int .i64 n, .int .i64 f, .int .i64 d, .int .i64 p, .int .i64 r, .int .i64 dr, .int .i64 o, .int .i64 sl, .int .i64 md, .int .i64 fr, .slice ad zs.length cap] 24)) hl HT.out)
  have HK := hidden (fun h => plainE_ok (n := n) (f := f) (d := d) (p := p) (r := r) (dr := dr) (o := o) (sl := sl) (md := md) (fr := fr) (zs := zs) h)
  clear hT
  by_cases hE : plainE n f d p r dr o sl md fr zs = 0
  · obtain ⟨_, _, _, _, _, _, _, _, _, _, _, _, _, o1, o2, sl1, sl2, _, _, _, _, z1, z2, _⟩ := HK.out hE
    clear HK
    rw [hE] at HP ⊢
    clear hE
    by_cases hs : 0 ≤ s ∧ s < (zs.length : Int)
    · have HV : Hid (placeE 0 (slotB s zs.length) (o + s * sl) = o + s * sl) := by rw [slotB_yes hs.1 hs.2]; exact placeE_yes _
      obtain ⟨s1, s2⟩ := hs
      have n1 : ¬ s < 0 := by omega
      have n2 : ¬ (zs.length : Int) ≤ s := by omega
      obtain ⟨m0, m1⟩ := mul_bd s1 (show s ≤ 31 by omega) (show 0 ≤ sl by omega) sl2
      go_enter Try.func21, Try.ntmps21
      go_wp2_with fail
      refine HP.out.mono ?_
      rintro e w2 ⟨rfl, hb2⟩
      have HB2 := hidden hb2
      clear hb2
      obtain ⟨hbox, hsz⟩ := box_at HB2.out
      go_wp2
      go_ret
      exact ⟨ret_i HV.out.symm, bthen (ballc w _) HB2.out⟩
    · have HV : Hid (placeE 0 (slotB s zs.length) (o + s * sl) = 0) := by rw [slotB_no hs]; exact placeE_no _ _
      by_cases s1 : s < 0
      · clear hs
        go_enter Try.func21, Try.ntmps21
        go_wp2_with fail
        refine HP.out.mono ?_
        rintro e w2 ⟨rfl, hb2⟩
        have HB2 := hidden hb2
        clear hb2
        obtain ⟨hbox, hsz⟩ := box_at HB2.out
        go_wp2
        go_ret
        exact ⟨ret_i HV.out.symm, bthen (ballc w _) HB2.out⟩
      · have s2 : (zs.length : Int) ≤ s := by omega
        clear hs
        go_enter Try.func21, Try.ntmps21
        go_wp2_with fail
        refine HP.out.mono ?_
        rintro e w2 ⟨rfl, hb2⟩
        have HB2 := hidden hb2
        clear hb2
        obtain ⟨hbox, hsz⟩ := box_at HB2.out
        go_wp2
        go_ret
        exact ⟨ret_i HV.out.symm, bthen (ballc w _) HB2.out⟩
  · have HV := hidden (placeE_err hE (slotB s zs.length) (o + s * sl))
    generalize plainE n f d p r dr o sl md fr zs = E at *
    go_enter Try.func21, Try.ntmps21
    go_wp2_with fail
    refine HP.out.mono ?_
    rintro e w2 ⟨rfl, hb2⟩
    have HB2 := hidden hb2
    clear hb2
    obtain ⟨hbox, hsz⟩ := box_at HB2.out
    go_wp2
    go_ret
    exact ⟨ret_i HV.out.symm, bthen (ballc w _) HB2.out⟩
set_option maxHeartbeats 1000000 in
theorem RMiddle_any (n f d p r dr o sl md fr : Int) (ad : Option Addr) (cap : Nat) (zs : List Int) (s : Int) (w : World) (hl : zs.length ≤ 9223372036854775807) (hT : Tab w ad zs) :
    Calls Try.prog 8 #[.agg #[.int .i64 n, .int .i64 f, .int .i64 d, .int .i64 p, .int .i64 r, .int .i64 dr, .int .i64 o, .int .i64 sl, .int .i64 md, .int .i64 fr, .slice ad zs.length cap], .int .i64 s] w fun e w' => e = .returned (.int .i64 (placeE (plainE n f d p r dr o sl md fr zs) (slotB s zs.length) (midE o sl s))) ∧ Below w.heap.size w w' := by
  have HT := hidden (hT.below (ballc w (.cells #[.int .i64 n, .int .i64 f, .int .i64 d, .int .i64 p, .int .i64 r, .int .i64 dr, .int .i64 o, .int .i64 sl, .int .i64 md, .int .i64 fr, .slice ad zs.length cap] 24)))
  have HP := hidden (refPlain_any n f d p r dr o sl md fr ad cap zs (w.alloc (.cells #[.int .i64 n, .int .i64 f, .int .i64 d, .int .i64 p, .int .i64 r, .int .i64 dr, .int .i64 o, .int .i64 sl, .int .i64 md, .int .i64 fr, .slice ad zs.length cap] 24)) hl HT.out)
  have HK := hidden (fun h => plainE_ok (n := n) (f := f) (d := d) (p := p) (r := r) (dr := dr) (o := o) (sl := sl) (md := md) (fr := fr) (zs := zs) h)
  clear hT
  by_cases hE : plainE n f d p r dr o sl md fr zs = 0
  · obtain ⟨_, _, _, _, _, _, _, _, _, _, _, _, _, o1, o2, sl1, sl2, _, _, _, _, z1, z2, _⟩ := HK.out hE
    clear HK
    have HI := hidden (fun v h => RBegin_any n f d p r dr o sl md fr ad cap zs s v hl h)
    rw [hE] at HI
    rw [hE] at HP ⊢
    clear hE
    by_cases hs : 0 ≤ s ∧ s < (zs.length : Int)
    · have HV : Hid (placeE 0 (slotB s zs.length) (midE o sl s) = midE o sl s) := by rw [slotB_yes hs.1 hs.2]; exact placeE_yes _
      obtain ⟨s1, s2⟩ := hs
      have n1 : ¬ s < 0 := by omega
      have n2 : ¬ (zs.length : Int) ≤ s := by omega
      obtain ⟨m0, m1⟩ := mul_bd s1 (show s ≤ 31 by omega) (show 0 ≤ sl by omega) sl2
      have t1 : IntKind.i64.wrap (sl.tdiv 2) = sl / 2 := IntWalk.i64_quo sl 2 ⟨by omega, by omega, by omega⟩
      have t2 : IntKind.i64.wrap (o + s * sl + sl / 2) = midE o sl s := by unfold midE; exact IntWalk.i64_in _ (by omega)
      rw [slotB_yes s1 s2, placeE_yes] at HI
      go_enter Try.func8, Try.ntmps8
      go_wp2_with fail
      refine HP.out.mono ?_
      rintro e w2 ⟨rfl, hb2⟩
      have HB2 := hidden hb2
      clear hb2
      obtain ⟨hbox, hsz⟩ := box_at HB2.out
      have HT2 := hidden (HT.out.below HB2.out)
      go_wp2
      refine wp_region_quiet_below (by kernel_rfl) (by kernel_rfl) ?_
      repeat (go_big_quiet_step ((go_at_call 21; exact Calls.regrown_of (HI.out _ (HT2.out.below (below_regrown _ _ _))))))
      refine wpQuiet_nil ?_
      intro w3 hw3
      have HB3 := hidden (bthen HB2.out (rg_below hw3))
      clear hw3
      go_wp2
      go_ret
      exact ⟨ret_i HV.out.symm, bthen (ballc w _) HB3.out⟩
    · have HV : Hid (placeE 0 (slotB s zs.length) (midE o sl s) = 0) := by rw [slotB_no hs]; exact placeE_no _ _
      by_cases s1 : s < 0
      · clear hs
        go_enter Try.func8, Try.ntmps8
        go_wp2_with fail
        refine HP.out.mono ?_
        rintro e w2 ⟨rfl, hb2⟩
        have HB2 := hidden hb2
        clear hb2
        obtain ⟨hbox, hsz⟩ := box_at HB2.out
        go_wp2
        go_ret
        exact ⟨ret_i HV.out.symm, bthen (ballc w _) HB2.out⟩
      · have s2 : (zs.length : Int) ≤ s := by omega
        clear hs
        go_enter Try.func8, Try.ntmps8
        go_wp2_with fail
        refine HP.out.mono ?_
        rintro e w2 ⟨rfl, hb2⟩
        have HB2 := hidden hb2
        clear hb2
        obtain ⟨hbox, hsz⟩ := box_at HB2.out
        go_wp2
        go_ret
        exact ⟨ret_i HV.out.symm, bthen (ballc w _) HB2.out⟩
  · have HV := hidden (placeE_err hE (slotB s zs.length) (midE o sl s))
    generalize plainE n f d p r dr o sl md fr zs = E at *
    go_enter Try.func8, Try.ntmps8
    go_wp2_with fail
    refine HP.out.mono ?_
    rintro e w2 ⟨rfl, hb2⟩
    have HB2 := hidden hb2
    clear hb2
    obtain ⟨hbox, hsz⟩ := box_at HB2.out
    go_wp2
    go_ret
    exact ⟨ret_i HV.out.symm, bthen (ballc w _) HB2.out⟩
end Go.Proofs.Ytkopmhmbldohdab

/- The document's calls Owner, Owned and Due of layer 21 return what plain functions give, and make at most new memory; conditions: the table lies where it says, its length, the text's length and the numbers fit int. -/
namespace Go.Proofs.Ytkopmhmbldohdab
open Go.ChangeShapes Go.WideShapes Go.ChangeAt Go.RowKit
set_option linter.unusedVariables false
attribute [local go_sem] cell_rg

set_option maxRecDepth 100000 in
set_option maxHeartbeats 1000000 in
theorem rOwner_any (n f d p r dr o sl md fr : Int) (ad : Option Addr) (cap : Nat) (zs : List Int) (s : Int) (w : World) (hs : -9223372036854775808 ≤ s ∧ s ≤ 9223372036854775807) (hl : zs.length ≤ 9223372036854775807) (hT : Tab w ad zs) :
    Calls Try.prog 9 #[.agg #[.int .i64 n, .int .i64 f, .int .i64 d, .int .i64 p, .int .i64 r, .int .i64 dr, .int .i64 o, .int .i64 sl, .int .i64 md, .int .i64 fr, .slice ad zs.length cap], .int .i64 s] w fun e w' => e = .returned (.int .i64 (ownF (plainE n f d p r dr o sl md fr zs) zs s)) ∧ Below w.heap.size w w' := by
  have HT := hidden (hT.below (ballc w (.cells #[.int .i64 n, .int .i64 f, .int .i64 d, .int .i64 p, .int .i64 r, .int .i64 dr, .int .i64 o, .int .i64 sl, .int .i64 md, .int .i64 fr, .slice ad zs.length cap] 24)))
  have HO := hidden (refPlain_any n f d p r dr o sl md fr ad cap zs (w.alloc (.cells #[.int .i64 n, .int .i64 f, .int .i64 d, .int .i64 p, .int .i64 r, .int .i64 dr, .int .i64 o, .int .i64 sl, .int .i64 md, .int .i64 fr, .slice ad zs.length cap] 24)) hl HT.out)
  have HV : Hid (ownF (plainE n f d p r dr o sl md fr zs) zs s = if plainE n f d p r dr o sl md fr zs = 0 ∧ 0 ≤ s ∧ s < (zs.length : Int) then zs.getD s.toNat 0 else -1) := rfl
  clear hT
  generalize ownF (plainE n f d p r dr o sl md fr zs) zs s = R at *
  generalize plainE n f d p r dr o sl md fr zs = E at *
  by_cases hE : E = 0
  case neg =>
    have HR : Hid (R = -1) := by rw [HV.out]; exact if_neg (fun c => hE c.1)
    have e0 : (E != 0) = true := by simp [hE]
    clear HV hE
    go_enter Try.func9, Try.ntmps9
    go_wp2_with fail
    refine HO.out.mono ?_
    rintro e w2 ⟨rfl, hb2⟩
    have HB2 := hidden hb2
    clear hb2
    go_wp2
    go_ret
    exact ⟨ret_i HR.out.symm, bthen (ballc w _) HB2.out⟩
  subst hE
  have e0 : ((0 : Int) != 0) = false := rfl
  by_cases h0 : s < 0
  · have HR : Hid (R = -1) := by rw [HV.out]; exact if_neg (fun c => by omega)
    have e1 : decide (s < 0) = true := decide_eq_true h0
    clear HV h0
    go_enter Try.func9, Try.ntmps9
    go_wp2_with fail
    refine HO.out.mono ?_
    rintro e w2 ⟨rfl, hb2⟩
    have HB2 := hidden hb2
    clear hb2
    go_wp2
    go_ret
    exact ⟨ret_i HR.out.symm, bthen (ballc w _) HB2.out⟩
  have e1 : decide (s < 0) = false := decide_eq_false h0
  obtain ⟨k, rfl⟩ := Int.eq_ofNat_of_zero_le (show 0 ≤ s by omega)
  by_cases h2 : zs.length ≤ k
  · have HR : Hid (R = -1) := by rw [HV.out]; exact if_neg (fun c => by omega)
    have e2 : decide ((zs.length : Int) ≤ (k : Int)) = true := decide_eq_true (by omega)
    clear HV h0
    go_enter Try.func9, Try.ntmps9
    go_wp2_with fail
    refine HO.out.mono ?_
    rintro e w2 ⟨rfl, hb2⟩
    have HB2 := hidden hb2
    clear hb2
    obtain ⟨hbox, hsz⟩ := box_at HB2.out
    go_wp2
    go_ret
    exact ⟨ret_i HR.out.symm, bthen (ballc w _) HB2.out⟩
  · have hlt : k < zs.length := by omega
    have HR : Hid (R = zs.getD k 0) := by rw [HV.out]; exact if_pos ⟨rfl, by omega, by omega⟩
    have e2 : decide ((zs.length : Int) ≤ (k : Int)) = false := decide_eq_false (by omega)
    have i1 : (0 : Int) ≤ (k : Int) := by omega
    have i2 : (k : Int) < (zs.length : Int) := by omega
    obtain ⟨a, ha, hc⟩ := HT.out k hlt
    subst ha
    clear HV h0
    go_enter Try.func9, Try.ntmps9
    go_wp2_with fail
    refine HO.out.mono ?_
    rintro e w2 ⟨rfl, hb2⟩
    have HB2 := hidden hb2
    have hc2 := (HT.out.below HB2.out).at k hlt
    clear hb2 hc
    obtain ⟨hbox, hsz⟩ := box_at HB2.out
    go_wp2
    go_ret
    exact ⟨ret_i (by rw [HR.out]; simp [hlt]), bthen (ballc w _) HB2.out⟩

/-- Numbers of slots, as numbers. -/
def nums (l : List Nat) : List Int := l.map fun (k : Nat) => (k : Int)
theorem nums_len (l : List Nat) : (nums l).length = l.length := by simp [nums]
theorem nums_get (l : List Nat) (i : Nat) (h : i < l.length) (h2 : i < (nums l).length) : (nums l)[i] = ((l[i] : Nat) : Int) := by simp [nums]
theorem nums_append (l : List Nat) (k : Nat) : nums (l ++ [k]) = nums l ++ [(k : Int)] := by simp [nums]

end Go.Proofs.Ytkopmhmbldohdab

/- The calls of the document's answer on clocks return what plain functions on integers give, and leave the world as it was; for integers that fit int. -/
namespace Go.Proofs.Ytkopmhmbldohdab
open Go.ChangeShapes Go.WideShapes Go.ChangeAt Go.RowKit
set_option linter.unusedVariables false

theorem ringMod_any (n : Int) (w : World) :
    Calls Try.prog 29 #[.int .i64 n, .int .i64 65536] w fun e w' => e = .returned (.int .i64 (n % 65536)) ∧ w = w' := by
  have hr : -65536 < n.tmod 65536 := by have := Int.lt_tmod_of_pos n (show (0 : Int) < 65536 by omega); omega
  by_cases h : n.tmod 65536 < 0
  · rw [← tmod_neg n h]
    go_enter Try.func29, Try.ntmps29
    go_wp2
    go_ret
    exact ⟨rfl, rfl⟩
  · rw [← tmod_pos n h]
    go_enter Try.func29, Try.ntmps29
    go_wp2
    go_ret
    exact ⟨rfl, rfl⟩
theorem rPut_any (n : Int) (w : World) :
    Calls Try.prog 19 #[.int .i64 n] w fun e w' => e = .returned (.int .i64 (n % 65536)) ∧ w = w' := by
  go_enter Try.func19, Try.ntmps19
  go_wp2_with (go_at_call 29; refine (ringMod_any _ _).mono ?_; rintro e w' ⟨rfl, rfl⟩)
  go_ret
  exact ⟨rfl, rfl⟩
theorem rDiff_any (a b : Int) (w : World) :
    Calls Try.prog 7 #[.int .i64 a, .int .i64 b] w fun e w' => e = .returned (.int .i64 ((a - b) % 65536)) ∧ w = w' := by
  have em : (a % 65536 - b % 65536) % 65536 = (a - b) % 65536 := by omega
  have t1 : IntKind.i64.wrap (a % 65536 - b % 65536) = a % 65536 - b % 65536 := IntWalk.i64_in _ (by omega)
  go_enter Try.func7, Try.ntmps7
  go_wp2_with (go_at_call 19; refine (rPut_any _ _).mono ?_; rintro e w' ⟨rfl, rfl⟩)
  go_ret
  exact ⟨rfl, rfl⟩
end Go.Proofs.Ytkopmhmbldohdab

/- The document's Settle returns what it says, and makes at most new memory; conditions: the table lies where it says, and its length fits int. -/
namespace Go.Proofs.Ytkopmhmbldohdab
open Go.ChangeShapes Go.WideShapes Go.ChangeAt Go.RowKit
set_option linter.unusedVariables false
attribute [local go_sem] cell_rg

end Go.Proofs.Ytkopmhmbldohdab

/- The document's Guard, Settle and All return what they say, and make at most new memory; conditions: the table lies where it says, and its length fits int. -/
namespace Go.Proofs.Ytkopmhmbldohdab
open Go.ChangeShapes Go.WideShapes Go.ChangeAt Go.RowKit
set_option linter.unusedVariables false
attribute [local go_sem] cell_rg

/-- The last slot's middle, as the document's Middle gives it. -/
theorem RLast_any (n f d p r dr o sl md fr : Int) (ad : Option Addr) (cap : Nat) (zs : List Int) (w : World) (hl : zs.length ≤ 9223372036854775807) (hT : Tab w ad zs) (hE : plainE n f d p r dr o sl md fr zs = 0) :
    Calls Try.prog 8 #[.agg #[.int .i64 n, .int .i64 f, .int .i64 d, .int .i64 p, .int .i64 r, .int .i64 dr, .int .i64 o, .int .i64 sl, .int .i64 md, .int .i64 fr, .slice ad zs.length cap], .int .i64 ((zs.length : Int) - 1)] w fun e w' => e = .returned (.int .i64 (lastE o sl zs)) ∧ Below w.heap.size w w' := by
  obtain ⟨_, _, _, _, _, _, _, _, _, _, _, _, _, o1, o2, sl1, sl2, _, _, _, _, z1, z2, _⟩ := plainE_ok hE
  have h := RMiddle_any n f d p r dr o sl md fr ad cap zs ((zs.length : Int) - 1) w hl hT
  rw [hE, slotB_yes (by omega) (by omega), placeE_yes] at h
  exact h

set_option maxHeartbeats 1000000 in
theorem RGuard_any (n f d p r dr o sl md fr : Int) (ad : Option Addr) (cap : Nat) (zs : List Int) (w : World) (hl : zs.length ≤ 9223372036854775807) (hT : Tab w ad zs) :
    Calls Try.prog 10 #[.agg #[.int .i64 n, .int .i64 f, .int .i64 d, .int .i64 p, .int .i64 r, .int .i64 dr, .int .i64 o, .int .i64 sl, .int .i64 md, .int .i64 fr, .slice ad zs.length cap]] w fun e w' => e = .returned (.int .i64 (gate (plainE n f d p r dr o sl md fr zs) (guardF d r dr (lastE o sl zs)))) ∧ Below w.heap.size w w' := by
  have HT := hidden (hT.below (ballc w (.cells #[.int .i64 n, .int .i64 f, .int .i64 d, .int .i64 p, .int .i64 r, .int .i64 dr, .int .i64 o, .int .i64 sl, .int .i64 md, .int .i64 fr, .slice ad zs.length cap] 24)))
  have HP := hidden (refPlain_any n f d p r dr o sl md fr ad cap zs (w.alloc (.cells #[.int .i64 n, .int .i64 f, .int .i64 d, .int .i64 p, .int .i64 r, .int .i64 dr, .int .i64 o, .int .i64 sl, .int .i64 md, .int .i64 fr, .slice ad zs.length cap] 24)) hl HT.out)
  clear hT
  by_cases hE : plainE n f d p r dr o sl md fr zs = 0
  · obtain ⟨M1, M2⟩ := lastE_bd hE
    obtain ⟨_, _, _, _, _, d1, d2, _, _, r1, r2, dr1, dr2, o1, o2, sl1, sl2, _, _, _, _, z1, z2, _⟩ := plainE_ok hE
    have HL := hidden (fun v h => RLast_any n f d p r dr o sl md fr ad cap zs v hl h hE)
    rw [hE] at HP ⊢
    rw [gate_ok]
    clear hE
    have tz : IntKind.i64.wrap ((zs.length : Int) - 1) = (zs.length : Int) - 1 := IntWalk.i64_in _ (by omega)
    generalize lastE o sl zs = M at HL M1 M2 ⊢
    obtain ⟨a0, a1, c0, c1, b0, b1⟩ := guardF_bd d1 d2 r1 r2 dr1 dr2 M1 M2
    have t1 : IntKind.i64.wrap (2 * dr) = 2 * dr := IntWalk.i64_in _ (by omega)
    have t2 : IntKind.i64.wrap (2 * dr * M) = 2 * dr * M := IntWalk.i64_in _ (by omega)
    go_enter Try.func10, Try.ntmps10
    go_wp2_with fail
    refine HP.out.mono ?_
    rintro e w2 ⟨rfl, hb2⟩
    have HB2 := hidden hb2
    clear hb2
    obtain ⟨hbox, hsz⟩ := box_at HB2.out
    have HT2 := hidden (HT.out.below HB2.out)
    go_wp2
    refine wp_region_quiet_below (by kernel_rfl) (by kernel_rfl) ?_
    repeat (go_big_quiet_step ((go_at_call 8; exact Calls.regrown_of (HL.out _ (HT2.out.below (below_regrown _ _ _))))))
    refine wpQuiet_nil ?_
    intro w3 hw3
    have HB3 := hidden (bthen HB2.out (rg_below hw3))
    clear hw3 hbox hsz t1 t2 tz
    obtain ⟨hbox, hsz⟩ := box_at HB3.out
    have HGD : Hid (guardF d r dr M = (2 * dr * M + (r - dr) - 1) / (r - dr) + r + (d + 1) * dr) := rfl
    generalize 2 * dr * M = A at *
    have HZ := hidden (ceil_zero (a := A) (b := r - dr) (by omega))
    have HM := hidden (ceil_more (a := A) (b := r - dr) (by omega))
    have e0 := Int.emod_nonneg A (show r - dr ≠ 0 by omega)
    have q0 : 0 ≤ A / (r - dr) := Int.ediv_nonneg a0 (by omega)
    have q1 : A / (r - dr) ≤ A := Int.ediv_le_self _ a0
    clear c0 c1
    by_cases hm : 0 < A % (r - dr)
    · have HV : Hid (guardF d r dr M = A / (r - dr) + 1 + r + (d + 1) * dr) := hidden (by rw [HGD.out, HM.out hm])
      clear HGD HZ HM
      go_wp2
      go_ret
      exact ⟨ret_i HV.out.symm, bthen (ballc w _) HB3.out⟩
    · have HV : Hid (guardF d r dr M = A / (r - dr) + r + (d + 1) * dr) := hidden (by rw [HGD.out, HZ.out (by omega)])
      clear HGD HZ HM
      go_wp2
      go_ret
      exact ⟨ret_i HV.out.symm, bthen (ballc w _) HB3.out⟩
  · have HG := hidden (gate_no hE (guardF d r dr (lastE o sl zs)))
    generalize plainE n f d p r dr o sl md fr zs = E at *
    go_enter Try.func10, Try.ntmps10
    go_wp2_with fail
    refine HP.out.mono ?_
    rintro e w2 ⟨rfl, hb2⟩
    have HB2 := hidden hb2
    clear hb2
    obtain ⟨hbox, hsz⟩ := box_at HB2.out
    go_wp2
    go_ret
    exact ⟨ret_i HG.out.symm, bthen (ballc w _) HB2.out⟩
end Go.Proofs.Ytkopmhmbldohdab
