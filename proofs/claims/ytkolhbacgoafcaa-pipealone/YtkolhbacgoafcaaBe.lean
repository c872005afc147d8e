/- Several texts of one's own in one: what each proves, and its conditions, is said ahead of it. -/
import Derived.Test.YtkolhbacgoafcaaBc
import Derived.RangeFuncNested
import Derived.RangeFuncBound
import Derived.RangeFuncCalls
import Derived.RangeFuncLeaves
import Derived.Shelf.Abstract
import Derived.Shelf.RegionOpen
import Derived.OwnWalkIn
import Derived.TacticsInMore
import Derived.LoopNIn
import Derived.LoopIn
import Derived.Test.YtkolhbacgoafcaaBa
import Derived.Test.YtkolhbacgoafcaaBd

/- The document's Plain returns the number of the first rule that a configuration breaks, else 0, and makes at most new memory; conditions: the table lies where it says, and its length fits int. -/
namespace Go.Proofs.Ytkolhbacgoafcaa
open Go.ChangeShapes Go.WideShapes Go.ChangeAt Go.RowKit
set_option linter.unusedVariables false

/-- x is from a to b. -/
def inB (x a b : Int) : Bool := decide (a ≤ x ∧ x ≤ b)
theorem inB_yes {x a b : Int} (h1 : a ≤ x) (h2 : x ≤ b) : inB x a b = true := decide_eq_true ⟨h1, h2⟩
theorem inB_no {x a b : Int} (h : ¬ (a ≤ x ∧ x ≤ b)) : inB x a b = false := decide_eq_false h
theorem within_any (x a b : Int) (w : World) :
    Calls Try.prog 45 #[.int .i64 x, .int .i64 a, .int .i64 b] w fun e w' => e = .returned (.bool (inB x a b)) ∧ w' = w := by
  by_cases h : a ≤ x ∧ x ≤ b
  · exact (within_yes x a b w h.1 h.2).mono fun e w' ⟨he, hw⟩ => ⟨by rw [he]; exact ret_b (inB_yes h.1 h.2).symm, hw⟩
  · exact (within_no x a b w h).mono fun e w' ⟨he, hw⟩ => ⟨by rw [he]; exact ret_b (inB_no h).symm, hw⟩

set_option maxHeartbeats 1000000 in
theorem refPlain_0 (n f d p r dr o sl md fr : Int) (ad : Option Addr) (cap : Nat) (zs : List Int) (w : World)  (c0 : ¬ (4 ≤ n ∧ n ≤ 13)) :
    Calls Try.prog 17 #[.agg #[.int .i64 n, .int .i64 f, .int .i64 d, .int .i64 p, .int .i64 r, .int .i64 dr, .int .i64 o, .int .i64 sl, .int .i64 md, .int .i64 fr, .slice ad zs.length cap]] w fun e w' => e = .returned (.int .i64 (plainE n f d p r dr o sl md fr zs)) ∧ Below w.heap.size w w' := by
  have HP : Hid (plainE n f d p r dr o sl md fr zs = 7) := pl_0 c0
  have i0 : inB n 4 13 = false := inB_no c0
  clear c0
  go_enter Try.func17, Try.ntmps17
  go_wp2_with (go_at_call 45; refine (within_any _ _ _ _).mono ?_; rintro e w2 ⟨rfl, rfl⟩)
  go_ret
  exact ⟨ret_i HP.out.symm, ballc _ _⟩
set_option maxHeartbeats 1000000 in
theorem refPlain_1 (n f d p r dr o sl md fr : Int) (ad : Option Addr) (cap : Nat) (zs : List Int) (w : World) (c0 : 4 ≤ n ∧ n ≤ 13) (c1 : ¬ (0 ≤ f ∧ f ≤ 4)) :
    Calls Try.prog 17 #[.agg #[.int .i64 n, .int .i64 f, .int .i64 d, .int .i64 p, .int .i64 r, .int .i64 dr, .int .i64 o, .int .i64 sl, .int .i64 md, .int .i64 fr, .slice ad zs.length cap]] w fun e w' => e = .returned (.int .i64 (plainE n f d p r dr o sl md fr zs)) ∧ Below w.heap.size w w' := by
  have HP : Hid (plainE n f d p r dr o sl md fr zs = 7) := pl_1 c0 c1
  have i0 : inB n 4 13 = true := inB_yes c0.1 c0.2
  have i1 : inB f 0 4 = false := inB_no c1
  clear c0 c1
  go_enter Try.func17, Try.ntmps17
  go_wp2_with (go_at_call 45; refine (within_any _ _ _ _).mono ?_; rintro e w2 ⟨rfl, rfl⟩)
  go_ret
  exact ⟨ret_i HP.out.symm, ballc _ _⟩
set_option maxHeartbeats 1000000 in
theorem refPlain_2 (n f d p r dr o sl md fr : Int) (ad : Option Addr) (cap : Nat) (zs : List Int) (w : World) (c0 : 4 ≤ n ∧ n ≤ 13) (c1 : 0 ≤ f ∧ f ≤ 4) (c2 : ¬ (3 * f + 1 ≤ n)) :
    Calls Try.prog 17 #[.agg #[.int .i64 n, .int .i64 f, .int .i64 d, .int .i64 p, .int .i64 r, .int .i64 dr, .int .i64 o, .int .i64 sl, .int .i64 md, .int .i64 fr, .slice ad zs.length cap]] w fun e w' => e = .returned (.int .i64 (plainE n f d p r dr o sl md fr zs)) ∧ Below w.heap.size w w' := by
  have HP : Hid (plainE n f d p r dr o sl md fr zs = 7) := pl_2 c0 c1 c2
  have i0 : inB n 4 13 = true := inB_yes c0.1 c0.2
  have i1 : inB f 0 4 = true := inB_yes c1.1 c1.2
  have c2' : n ≤ 3 * f := by omega
  clear c0 c2
  go_enter Try.func17, Try.ntmps17
  go_wp2_with (go_at_call 45; refine (within_any _ _ _ _).mono ?_; rintro e w2 ⟨rfl, rfl⟩)
  go_ret
  exact ⟨ret_i HP.out.symm, ballc _ _⟩
set_option maxHeartbeats 1000000 in
theorem refPlain_3 (n f d p r dr o sl md fr : Int) (ad : Option Addr) (cap : Nat) (zs : List Int) (w : World) (c0 : 4 ≤ n ∧ n ≤ 13) (c1 : 0 ≤ f ∧ f ≤ 4) (c2 : 3 * f + 1 ≤ n) (c3 : ¬ (1 ≤ d ∧ d ≤ 4)) :
    Calls Try.prog 17 #[.agg #[.int .i64 n, .int .i64 f, .int .i64 d, .int .i64 p, .int .i64 r, .int .i64 dr, .int .i64 o, .int .i64 sl, .int .i64 md, .int .i64 fr, .slice ad zs.length cap]] w fun e w' => e = .returned (.int .i64 (plainE n f d p r dr o sl md fr zs)) ∧ Below w.heap.size w w' := by
  have HP : Hid (plainE n f d p r dr o sl md fr zs = 10) := pl_3 c0 c1 c2 c3
  have i0 : inB n 4 13 = true := inB_yes c0.1 c0.2
  have i1 : inB f 0 4 = true := inB_yes c1.1 c1.2
  have i3 : inB d 1 4 = false := inB_no c3
  have c2' : ¬ n ≤ 3 * f := by omega
  clear c0 c2 c3
  go_enter Try.func17, Try.ntmps17
  go_wp2_with (go_at_call 45; refine (within_any _ _ _ _).mono ?_; rintro e w2 ⟨rfl, rfl⟩)
  go_ret
  exact ⟨ret_i HP.out.symm, ballc _ _⟩
set_option maxHeartbeats 1000000 in
theorem refPlain_4 (n f d p r dr o sl md fr : Int) (ad : Option Addr) (cap : Nat) (zs : List Int) (w : World) (c0 : 4 ≤ n ∧ n ≤ 13) (c1 : 0 ≤ f ∧ f ≤ 4) (c2 : 3 * f + 1 ≤ n) (c3 : 1 ≤ d ∧ d ≤ 4) (c4 : ¬ (6 * ((f + 1) * d) + 1 ≤ p ∧ p ≤ 400)) :
    Calls Try.prog 17 #[.agg #[.int .i64 n, .int .i64 f, .int .i64 d, .int .i64 p, .int .i64 r, .int .i64 dr, .int .i64 o, .int .i64 sl, .int .i64 md, .int .i64 fr, .slice ad zs.length cap]] w fun e w' => e = .returned (.int .i64 (plainE n f d p r dr o sl md fr zs)) ∧ Below w.heap.size w w' := by
  have HP : Hid (plainE n f d p r dr o sl md fr zs = 8) := pl_4 c0 c1 c2 c3 c4
  have hm0 : 0 ≤ 6 * (f + 1) * d := Int.mul_nonneg (by omega) (by omega)
  have hm1 : 6 * (f + 1) * d ≤ 30 * 4 := Int.mul_le_mul (by omega) c3.2 (by omega) (by omega)
  have hm2 : 6 * (f + 1) * d = 6 * ((f + 1) * d) := Int.mul_assoc _ _ _
  have i0 : inB n 4 13 = true := inB_yes c0.1 c0.2
  have i1 : inB f 0 4 = true := inB_yes c1.1 c1.2
  have i3 : inB d 1 4 = true := inB_yes c3.1 c3.2
  have i4 : inB p (6 * (f + 1) * d + 1) 400 = false := inB_no (by omega)
  have c2' : ¬ n ≤ 3 * f := by omega
  clear hm2
  clear c0 c2 c4
  go_enter Try.func17, Try.ntmps17
  go_wp2_with (go_at_call 45; refine (within_any _ _ _ _).mono ?_; rintro e w2 ⟨rfl, rfl⟩)
  go_ret
  exact ⟨ret_i HP.out.symm, ballc _ _⟩
set_option maxHeartbeats 1000000 in
theorem refPlain_5 (n f d p r dr o sl md fr : Int) (ad : Option Addr) (cap : Nat) (zs : List Int) (w : World) (c0 : 4 ≤ n ∧ n ≤ 13) (c1 : 0 ≤ f ∧ f ≤ 4) (c2 : 3 * f + 1 ≤ n) (c3 : 1 ≤ d ∧ d ≤ 4) (c4 : 6 * ((f + 1) * d) + 1 ≤ p ∧ p ≤ 400) (c5 : ¬ (1 ≤ r ∧ r ≤ 64)) :
    Calls Try.prog 17 #[.agg #[.int .i64 n, .int .i64 f, .int .i64 d, .int .i64 p, .int .i64 r, .int .i64 dr, .int .i64 o, .int .i64 sl, .int .i64 md, .int .i64 fr, .slice ad zs.length cap]] w fun e w' => e = .returned (.int .i64 (plainE n f d p r dr o sl md fr zs)) ∧ Below w.heap.size w w' := by
  have HP : Hid (plainE n f d p r dr o sl md fr zs = 8) := pl_5 c0 c1 c2 c3 c4 c5
  have hm0 : 0 ≤ 6 * (f + 1) * d := Int.mul_nonneg (by omega) (by omega)
  have hm1 : 6 * (f + 1) * d ≤ 30 * 4 := Int.mul_le_mul (by omega) c3.2 (by omega) (by omega)
  have hm2 : 6 * (f + 1) * d = 6 * ((f + 1) * d) := Int.mul_assoc _ _ _
  have i0 : inB n 4 13 = true := inB_yes c0.1 c0.2
  have i1 : inB f 0 4 = true := inB_yes c1.1 c1.2
  have i3 : inB d 1 4 = true := inB_yes c3.1 c3.2
  have i4 : inB p (6 * (f + 1) * d + 1) 400 = true := inB_yes (by omega) c4.2
  have i5 : inB r 1 64 = false := inB_no c5
  have c2' : ¬ n ≤ 3 * f := by omega
  clear hm2
  clear c0 c2 c4 c5
  go_enter Try.func17, Try.ntmps17
  go_wp2_with (go_at_call 45; refine (within_any _ _ _ _).mono ?_; rintro e w2 ⟨rfl, rfl⟩)
  go_ret
  exact ⟨ret_i HP.out.symm, ballc _ _⟩
set_option maxHeartbeats 1000000 in
theorem refPlain_6 (n f d p r dr o sl md fr : Int) (ad : Option Addr) (cap : Nat) (zs : List Int) (w : World) (c0 : 4 ≤ n ∧ n ≤ 13) (c1 : 0 ≤ f ∧ f ≤ 4) (c2 : 3 * f + 1 ≤ n) (c3 : 1 ≤ d ∧ d ≤ 4) (c4 : 6 * ((f + 1) * d) + 1 ≤ p ∧ p ≤ 400) (c5 : 1 ≤ r ∧ r ≤ 64) (c6 : ¬ (0 ≤ dr ∧ dr ≤ r - 1)) :
    Calls Try.prog 17 #[.agg #[.int .i64 n, .int .i64 f, .int .i64 d, .int .i64 p, .int .i64 r, .int .i64 dr, .int .i64 o, .int .i64 sl, .int .i64 md, .int .i64 fr, .slice ad zs.length cap]] w fun e w' => e = .returned (.int .i64 (plainE n f d p r dr o sl md fr zs)) ∧ Below w.heap.size w w' := by
  have HP : Hid (plainE n f d p r dr o sl md fr zs = 8) := pl_6 c0 c1 c2 c3 c4 c5 c6
  have hm0 : 0 ≤ 6 * (f + 1) * d := Int.mul_nonneg (by omega) (by omega)
  have hm1 : 6 * (f + 1) * d ≤ 30 * 4 := Int.mul_le_mul (by omega) c3.2 (by omega) (by omega)
  have hm2 : 6 * (f + 1) * d = 6 * ((f + 1) * d) := Int.mul_assoc _ _ _
  have i0 : inB n 4 13 = true := inB_yes c0.1 c0.2
  have i1 : inB f 0 4 = true := inB_yes c1.1 c1.2
  have i3 : inB d 1 4 = true := inB_yes c3.1 c3.2
  have i4 : inB p (6 * (f + 1) * d + 1) 400 = true := inB_yes (by omega) c4.2
  have i5 : inB r 1 64 = true := inB_yes c5.1 c5.2
  have i6 : inB dr 0 (r - 1) = false := inB_no c6
  have c2' : ¬ n ≤ 3 * f := by omega
  clear hm2
  clear c0 c2 c4 c6
  go_enter Try.func17, Try.ntmps17
  go_wp2_with (go_at_call 45; refine (within_any _ _ _ _).mono ?_; rintro e w2 ⟨rfl, rfl⟩)
  go_ret
  exact ⟨ret_i HP.out.symm, ballc _ _⟩
set_option maxHeartbeats 1000000 in
theorem refPlain_7 (n f d p r dr o sl md fr : Int) (ad : Option Addr) (cap : Nat) (zs : List Int) (w : World) (c0 : 4 ≤ n ∧ n ≤ 13) (c1 : 0 ≤ f ∧ f ≤ 4) (c2 : 3 * f + 1 ≤ n) (c3 : 1 ≤ d ∧ d ≤ 4) (c4 : 6 * ((f + 1) * d) + 1 ≤ p ∧ p ≤ 400) (c5 : 1 ≤ r ∧ r ≤ 64) (c6 : 0 ≤ dr ∧ dr ≤ r - 1) (c7 : ¬ (0 ≤ o ∧ o ≤ 30000)) :
    Calls Try.prog 17 #[.agg #[.int .i64 n, .int .i64 f, .int .i64 d, .int .i64 p, .int .i64 r, .int .i64 dr, .int .i64 o, .int .i64 sl, .int .i64 md, .int .i64 fr, .slice ad zs.length cap]] w fun e w' => e = .returned (.int .i64 (plainE n f d p r dr o sl md fr zs)) ∧ Below w.heap.size w w' := by
  have HP : Hid (plainE n f d p r dr o sl md fr zs = 8) := pl_7 c0 c1 c2 c3 c4 c5 c6 c7
  have hm0 : 0 ≤ 6 * (f + 1) * d := Int.mul_nonneg (by omega) (by omega)
  have hm1 : 6 * (f + 1) * d ≤ 30 * 4 := Int.mul_le_mul (by omega) c3.2 (by omega) (by omega)
  have hm2 : 6 * (f + 1) * d = 6 * ((f + 1) * d) := Int.mul_assoc _ _ _
  have i0 : inB n 4 13 = true := inB_yes c0.1 c0.2
  have i1 : inB f 0 4 = true := inB_yes c1.1 c1.2
  have i3 : inB d 1 4 = true := inB_yes c3.1 c3.2
  have i4 : inB p (6 * (f + 1) * d + 1) 400 = true := inB_yes (by omega) c4.2
  have i5 : inB r 1 64 = true := inB_yes c5.1 c5.2
  have i6 : inB dr 0 (r - 1) = true := inB_yes c6.1 c6.2
  have i7 : inB o 0 30000 = false := inB_no c7
  have c2' : ¬ n ≤ 3 * f := by omega
  clear hm2
  clear c0 c2 c4 c6 c7
  go_enter Try.func17, Try.ntmps17
  go_wp2_with (go_at_call 45; refine (within_any _ _ _ _).mono ?_; rintro e w2 ⟨rfl, rfl⟩)
  go_ret
  exact ⟨ret_i HP.out.symm, ballc _ _⟩
set_option maxHeartbeats 1000000 in
theorem refPlain_8 (n f d p r dr o sl md fr : Int) (ad : Option Addr) (cap : Nat) (zs : List Int) (w : World) (c0 : 4 ≤ n ∧ n ≤ 13) (c1 : 0 ≤ f ∧ f ≤ 4) (c2 : 3 * f + 1 ≤ n) (c3 : 1 ≤ d ∧ d ≤ 4) (c4 : 6 * ((f + 1) * d) + 1 ≤ p ∧ p ≤ 400) (c5 : 1 ≤ r ∧ r ≤ 64) (c6 : 0 ≤ dr ∧ dr ≤ r - 1) (c7 : 0 ≤ o ∧ o ≤ 30000) (c8 : ¬ (1 ≤ sl ∧ sl ≤ 30000)) :
    Calls Try.prog 17 #[.agg #[.int .i64 n, .int .i64 f, .int .i64 d, .int .i64 p, .int .i64 r, .int .i64 dr, .int .i64 o, .int .i64 sl, .int .i64 md, .int .i64 fr, .slice ad zs.length cap]] w fun e w' => e = .returned (.int .i64 (plainE n f d p r dr o sl md fr zs)) ∧ Below w.heap.size w w' := by
  have HP : Hid (plainE n f d p r dr o sl md fr zs = 8) := pl_8 c0 c1 c2 c3 c4 c5 c6 c7 c8
  have hm0 : 0 ≤ 6 * (f + 1) * d := Int.mul_nonneg (by omega) (by omega)
  have hm1 : 6 * (f + 1) * d ≤ 30 * 4 := Int.mul_le_mul (by omega) c3.2 (by omega) (by omega)
  have hm2 : 6 * (f + 1) * d = 6 * ((f + 1) * d) := Int.mul_assoc _ _ _
  have i0 : inB n 4 13 = true := inB_yes c0.1 c0.2
  have i1 : inB f 0 4 = true := inB_yes c1.1 c1.2
  have i3 : inB d 1 4 = true := inB_yes c3.1 c3.2
  have i4 : inB p (6 * (f + 1) * d + 1) 400 = true := inB_yes (by omega) c4.2
  have i5 : inB r 1 64 = true := inB_yes c5.1 c5.2
  have i6 : inB dr 0 (r - 1) = true := inB_yes c6.1 c6.2
  have i7 : inB o 0 30000 = true := inB_yes c7.1 c7.2
  have i8 : inB sl 1 30000 = false := inB_no c8
  have c2' : ¬ n ≤ 3 * f := by omega
  clear hm2
  clear c0 c2 c4 c6 c7 c8
  go_enter Try.func17, Try.ntmps17
  go_wp2_with (go_at_call 45; refine (within_any _ _ _ _).mono ?_; rintro e w2 ⟨rfl, rfl⟩)
  go_ret
  exact ⟨ret_i HP.out.symm, ballc _ _⟩
set_option maxHeartbeats 1000000 in
theorem refPlain_9 (n f d p r dr o sl md fr : Int) (ad : Option Addr) (cap : Nat) (zs : List Int) (w : World) (c0 : 4 ≤ n ∧ n ≤ 13) (c1 : 0 ≤ f ∧ f ≤ 4) (c2 : 3 * f + 1 ≤ n) (c3 : 1 ≤ d ∧ d ≤ 4) (c4 : 6 * ((f + 1) * d) + 1 ≤ p ∧ p ≤ 400) (c5 : 1 ≤ r ∧ r ≤ 64) (c6 : 0 ≤ dr ∧ dr ≤ r - 1) (c7 : 0 ≤ o ∧ o ≤ 30000) (c8 : 1 ≤ sl ∧ sl ≤ 30000) (c9 : ¬ (2 ≤ md ∧ md ≤ 250)) :
    Calls Try.prog 17 #[.agg #[.int .i64 n, .int .i64 f, .int .i64 d, .int .i64 p, .int .i64 r, .int .i64 dr, .int .i64 o, .int .i64 sl, .int .i64 md, .int .i64 fr, .slice ad zs.length cap]] w fun e w' => e = .returned (.int .i64 (plainE n f d p r dr o sl md fr zs)) ∧ Below w.heap.size w w' := by
  have HP : Hid (plainE n f d p r dr o sl md fr zs = 8) := pl_9 c0 c1 c2 c3 c4 c5 c6 c7 c8 c9
  have hm0 : 0 ≤ 6 * (f + 1) * d := Int.mul_nonneg (by omega) (by omega)
  have hm1 : 6 * (f + 1) * d ≤ 30 * 4 := Int.mul_le_mul (by omega) c3.2 (by omega) (by omega)
  have hm2 : 6 * (f + 1) * d = 6 * ((f + 1) * d) := Int.mul_assoc _ _ _
  have i0 : inB n 4 13 = true := inB_yes c0.1 c0.2
  have i1 : inB f 0 4 = true := inB_yes c1.1 c1.2
  have i3 : inB d 1 4 = true := inB_yes c3.1 c3.2
  have i4 : inB p (6 * (f + 1) * d + 1) 400 = true := inB_yes (by omega) c4.2
  have i5 : inB r 1 64 = true := inB_yes c5.1 c5.2
  have i6 : inB dr 0 (r - 1) = true := inB_yes c6.1 c6.2
  have i7 : inB o 0 30000 = true := inB_yes c7.1 c7.2
  have i8 : inB sl 1 30000 = true := inB_yes c8.1 c8.2
  have i9 : inB md 2 250 = false := inB_no c9
  have c2' : ¬ n ≤ 3 * f := by omega
  clear hm2
  clear c0 c2 c4 c6 c7 c8 c9
  go_enter Try.func17, Try.ntmps17
  go_wp2_with (go_at_call 45; refine (within_any _ _ _ _).mono ?_; rintro e w2 ⟨rfl, rfl⟩)
  go_ret
  exact ⟨ret_i HP.out.symm, ballc _ _⟩
set_option maxHeartbeats 1000000 in
theorem refPlain_10 (n f d p r dr o sl md fr : Int) (ad : Option Addr) (cap : Nat) (zs : List Int) (w : World) (c0 : 4 ≤ n ∧ n ≤ 13) (c1 : 0 ≤ f ∧ f ≤ 4) (c2 : 3 * f + 1 ≤ n) (c3 : 1 ≤ d ∧ d ≤ 4) (c4 : 6 * ((f + 1) * d) + 1 ≤ p ∧ p ≤ 400) (c5 : 1 ≤ r ∧ r ≤ 64) (c6 : 0 ≤ dr ∧ dr ≤ r - 1) (c7 : 0 ≤ o ∧ o ≤ 30000) (c8 : 1 ≤ sl ∧ sl ≤ 30000) (c9 : 2 ≤ md ∧ md ≤ 250) (c10 : ¬ (1 ≤ fr ∧ fr ≤ 100)) :
    Calls Try.prog 17 #[.agg #[.int .i64 n, .int .i64 f, .int .i64 d, .int .i64 p, .int .i64 r, .int .i64 dr, .int .i64 o, .int .i64 sl, .int .i64 md, .int .i64 fr, .slice ad zs.length cap]] w fun e w' => e = .returned (.int .i64 (plainE n f d p r dr o sl md fr zs)) ∧ Below w.heap.size w w' := by
  have HP : Hid (plainE n f d p r dr o sl md fr zs = 8) := pl_10 c0 c1 c2 c3 c4 c5 c6 c7 c8 c9 c10
  have hm0 : 0 ≤ 6 * (f + 1) * d := Int.mul_nonneg (by omega) (by omega)
  have hm1 : 6 * (f + 1) * d ≤ 30 * 4 := Int.mul_le_mul (by omega) c3.2 (by omega) (by omega)
  have hm2 : 6 * (f + 1) * d = 6 * ((f + 1) * d) := Int.mul_assoc _ _ _
  have i0 : inB n 4 13 = true := inB_yes c0.1 c0.2
  have i1 : inB f 0 4 = true := inB_yes c1.1 c1.2
  have i3 : inB d 1 4 = true := inB_yes c3.1 c3.2
  have i4 : inB p (6 * (f + 1) * d + 1) 400 = true := inB_yes (by omega) c4.2
  have i5 : inB r 1 64 = true := inB_yes c5.1 c5.2
  have i6 : inB dr 0 (r - 1) = true := inB_yes c6.1 c6.2
  have i7 : inB o 0 30000 = true := inB_yes c7.1 c7.2
  have i8 : inB sl 1 30000 = true := inB_yes c8.1 c8.2
  have i9 : inB md 2 250 = true := inB_yes c9.1 c9.2
  have i10 : inB fr 1 100 = false := inB_no c10
  have c2' : ¬ n ≤ 3 * f := by omega
  clear hm2
  clear c0 c2 c4 c6 c7 c8 c9 c10
  go_enter Try.func17, Try.ntmps17
  go_wp2_with (go_at_call 45; refine (within_any _ _ _ _).mono ?_; rintro e w2 ⟨rfl, rfl⟩)
  go_ret
  exact ⟨ret_i HP.out.symm, ballc _ _⟩
set_option maxHeartbeats 1000000 in
theorem refPlain_11 (n f d p r dr o sl md fr : Int) (ad : Option Addr) (cap : Nat) (zs : List Int) (w : World) (c0 : 4 ≤ n ∧ n ≤ 13) (c1 : 0 ≤ f ∧ f ≤ 4) (c2 : 3 * f + 1 ≤ n) (c3 : 1 ≤ d ∧ d ≤ 4) (c4 : 6 * ((f + 1) * d) + 1 ≤ p ∧ p ≤ 400) (c5 : 1 ≤ r ∧ r ≤ 64) (c6 : 0 ≤ dr ∧ dr ≤ r - 1) (c7 : 0 ≤ o ∧ o ≤ 30000) (c8 : 1 ≤ sl ∧ sl ≤ 30000) (c9 : 2 ≤ md ∧ md ≤ 250) (c10 : 1 ≤ fr ∧ fr ≤ 100) (c11 : ¬ (1 ≤ (zs.length : Int) ∧ (zs.length : Int) ≤ 32)) :
    Calls Try.prog 17 #[.agg #[.int .i64 n, .int .i64 f, .int .i64 d, .int .i64 p, .int .i64 r, .int .i64 dr, .int .i64 o, .int .i64 sl, .int .i64 md, .int .i64 fr, .slice ad zs.length cap]] w fun e w' => e = .returned (.int .i64 (plainE n f d p r dr o sl md fr zs)) ∧ Below w.heap.size w w' := by
  have HP : Hid (plainE n f d p r dr o sl md fr zs = 11) := pl_11 c0 c1 c2 c3 c4 c5 c6 c7 c8 c9 c10 c11
  have hm0 : 0 ≤ 6 * (f + 1) * d := Int.mul_nonneg (by omega) (by omega)
  have hm1 : 6 * (f + 1) * d ≤ 30 * 4 := Int.mul_le_mul (by omega) c3.2 (by omega) (by omega)
  have hm2 : 6 * (f + 1) * d = 6 * ((f + 1) * d) := Int.mul_assoc _ _ _
  have i0 : inB n 4 13 = true := inB_yes c0.1 c0.2
  have i1 : inB f 0 4 = true := inB_yes c1.1 c1.2
  have i3 : inB d 1 4 = true := inB_yes c3.1 c3.2
  have i4 : inB p (6 * (f + 1) * d + 1) 400 = true := inB_yes (by omega) c4.2
  have i5 : inB r 1 64 = true := inB_yes c5.1 c5.2
  have i6 : inB dr 0 (r - 1) = true := inB_yes c6.1 c6.2
  have i7 : inB o 0 30000 = true := inB_yes c7.1 c7.2
  have i8 : inB sl 1 30000 = true := inB_yes c8.1 c8.2
  have i9 : inB md 2 250 = true := inB_yes c9.1 c9.2
  have i10 : inB fr 1 100 = true := inB_yes c10.1 c10.2
  have i11 : inB zs.length 1 32 = false := inB_no c11
  have c2' : ¬ n ≤ 3 * f := by omega
  clear hm2
  clear c0 c2 c4 c6 c7 c8 c9 c10 c11
  go_enter Try.func17, Try.ntmps17
  go_wp2_with (go_at_call 45; refine (within_any _ _ _ _).mono ?_; rintro e w2 ⟨rfl, rfl⟩)
  go_ret
  exact ⟨ret_i HP.out.symm, ballc _ _⟩
set_option maxHeartbeats 1000000 in
theorem refPlain_12 (n f d p r dr o sl md fr : Int) (ad : Option Addr) (cap : Nat) (zs : List Int) (w : World) (ob : Bool) (hT : Tab w ad zs) (c0 : 4 ≤ n ∧ n ≤ 13) (c1 : 0 ≤ f ∧ f ≤ 4) (c2 : 3 * f + 1 ≤ n) (c3 : 1 ≤ d ∧ d ≤ 4) (c4 : 6 * ((f + 1) * d) + 1 ≤ p ∧ p ≤ 400) (c5 : 1 ≤ r ∧ r ≤ 64) (c6 : 0 ≤ dr ∧ dr ≤ r - 1) (c7 : 0 ≤ o ∧ o ≤ 30000) (c8 : 1 ≤ sl ∧ sl ≤ 30000) (c9 : 2 ≤ md ∧ md ≤ 250) (c10 : 1 ≤ fr ∧ fr ≤ 100) (c11 : 1 ≤ (zs.length : Int) ∧ (zs.length : Int) ≤ 32) (hob : ownsB n zs = ob) :
    Calls Try.prog 17 #[.agg #[.int .i64 n, .int .i64 f, .int .i64 d, .int .i64 p, .int .i64 r, .int .i64 dr, .int .i64 o, .int .i64 sl, .int .i64 md, .int .i64 fr, .slice ad zs.length cap]] w fun e w' => e = .returned (.int .i64 (plainE n f d p r dr o sl md fr zs)) ∧ Below w.heap.size w w' := by
  have HP : Hid (plainE n f d p r dr o sl md fr zs = if ob = true then 0 else 11) := by rw [← hob]; exact pl_12 c0 c1 c2 c3 c4 c5 c6 c7 c8 c9 c10 c11
  have hm0 : 0 ≤ 6 * (f + 1) * d := Int.mul_nonneg (by omega) (by omega)
  have hm1 : 6 * (f + 1) * d ≤ 30 * 4 := Int.mul_le_mul (by omega) c3.2 (by omega) (by omega)
  have hm2 : 6 * (f + 1) * d = 6 * ((f + 1) * d) := Int.mul_assoc _ _ _
  have i0 : inB n 4 13 = true := inB_yes c0.1 c0.2
  have i1 : inB f 0 4 = true := inB_yes c1.1 c1.2
  have i3 : inB d 1 4 = true := inB_yes c3.1 c3.2
  have i4 : inB p (6 * (f + 1) * d + 1) 400 = true := inB_yes (by omega) c4.2
  have i5 : inB r 1 64 = true := inB_yes c5.1 c5.2
  have i6 : inB dr 0 (r - 1) = true := inB_yes c6.1 c6.2
  have i7 : inB o 0 30000 = true := inB_yes c7.1 c7.2
  have i8 : inB sl 1 30000 = true := inB_yes c8.1 c8.2
  have i9 : inB md 2 250 = true := inB_yes c9.1 c9.2
  have i10 : inB fr 1 100 = true := inB_yes c10.1 c10.2
  have i11 : inB zs.length 1 32 = true := inB_yes c11.1 c11.2
  have c2' : ¬ n ≤ 3 * f := by omega
  have HQ : Hid (Calls Try.prog 46 #[.agg #[.int .i64 n, .int .i64 f, .int .i64 d, .int .i64 p, .int .i64 r, .int .i64 dr, .int .i64 o, .int .i64 sl, .int .i64 md, .int .i64 fr, .slice ad zs.length cap]] (w.alloc (.cells #[.int .i64 n, .int .i64 f, .int .i64 d, .int .i64 p, .int .i64 r, .int .i64 dr, .int .i64 o, .int .i64 sl, .int .i64 md, .int .i64 fr, .slice ad zs.length cap] 24)) fun e w' => e = .returned (.bool ob) ∧ Below (w.alloc (.cells #[.int .i64 n, .int .i64 f, .int .i64 d, .int .i64 p, .int .i64 r, .int .i64 dr, .int .i64 o, .int .i64 sl, .int .i64 md, .int .i64 fr, .slice ad zs.length cap] 24)).heap.size (w.alloc (.cells #[.int .i64 n, .int .i64 f, .int .i64 d, .int .i64 p, .int .i64 r, .int .i64 dr, .int .i64 o, .int .i64 sl, .int .i64 md, .int .i64 fr, .slice ad zs.length cap] 24)) w') := by
    rw [← hob]; exact owned_any n f d p r dr o sl md fr ad cap zs _ c0.1 c0.2 (by omega) (hT.below (ballc _ _))
  clear hm2 hT hob c0 c2 c4 c6 c7 c8 c9 c10 c11
  cases ob
  all_goals
    go_enter Try.func17, Try.ntmps17
    go_wp2_with (first | (go_at_call 45; refine (within_any _ _ _ _).mono ?_; rintro e w2 ⟨rfl, rfl⟩) | (go_at_call 46; refine HQ.out.mono ?_; rintro e w2 ⟨rfl, hb2⟩; have HB2 : Hid (Below w.heap.size w w2) := bthen (ballc w _) hb2; clear hb2))
    go_ret
    exact ⟨ret_i (by rw [HP.out]; rfl), HB2.out⟩
theorem refPlain_any (n f d p r dr o sl md fr : Int) (ad : Option Addr) (cap : Nat) (zs : List Int) (w : World) (hl : zs.length ≤ 9223372036854775807) (hT : Tab w ad zs) :
    Calls Try.prog 17 #[.agg #[.int .i64 n, .int .i64 f, .int .i64 d, .int .i64 p, .int .i64 r, .int .i64 dr, .int .i64 o, .int .i64 sl, .int .i64 md, .int .i64 fr, .slice ad zs.length cap]] w fun e w' => e = .returned (.int .i64 (plainE n f d p r dr o sl md fr zs)) ∧ Below w.heap.size w w' := by
  by_cases c0 : 4 ≤ n ∧ n ≤ 13
  case neg => exact refPlain_0 n f d p r dr o sl md fr ad cap zs w c0
  by_cases c1 : 0 ≤ f ∧ f ≤ 4
  case neg => exact refPlain_1 n f d p r dr o sl md fr ad cap zs w c0 c1
  by_cases c2 : 3 * f + 1 ≤ n
  case neg => exact refPlain_2 n f d p r dr o sl md fr ad cap zs w c0 c1 c2
  by_cases c3 : 1 ≤ d ∧ d ≤ 4
  case neg => exact refPlain_3 n f d p r dr o sl md fr ad cap zs w c0 c1 c2 c3
  by_cases c4 : 6 * ((f + 1) * d) + 1 ≤ p ∧ p ≤ 400
  case neg => exact refPlain_4 n f d p r dr o sl md fr ad cap zs w c0 c1 c2 c3 c4
  by_cases c5 : 1 ≤ r ∧ r ≤ 64
  case neg => exact refPlain_5 n f d p r dr o sl md fr ad cap zs w c0 c1 c2 c3 c4 c5
  by_cases c6 : 0 ≤ dr ∧ dr ≤ r - 1
  case neg => exact refPlain_6 n f d p r dr o sl md fr ad cap zs w c0 c1 c2 c3 c4 c5 c6
  by_cases c7 : 0 ≤ o ∧ o ≤ 30000
  case neg => exact refPlain_7 n f d p r dr o sl md fr ad cap zs w c0 c1 c2 c3 c4 c5 c6 c7
  by_cases c8 : 1 ≤ sl ∧ sl ≤ 30000
  case neg => exact refPlain_8 n f d p r dr o sl md fr ad cap zs w c0 c1 c2 c3 c4 c5 c6 c7 c8
  by_cases c9 : 2 ≤ md ∧ md ≤ 250
  case neg => exact refPlain_9 n f d p r dr o sl md fr ad cap zs w c0 c1 c2 c3 c4 c5 c6 c7 c8 c9
  by_cases c10 : 1 ≤ fr ∧ fr ≤ 100
  case neg => exact refPlain_10 n f d p r dr o sl md fr ad cap zs w c0 c1 c2 c3 c4 c5 c6 c7 c8 c9 c10
  by_cases c11 : 1 ≤ (zs.length : Int) ∧ (zs.length : Int) ≤ 32
  case neg => exact refPlain_11 n f d p r dr o sl md fr ad cap zs w c0 c1 c2 c3 c4 c5 c6 c7 c8 c9 c10 c11
  exact refPlain_12 n f d p r dr o sl md fr ad cap zs w _ hT c0 c1 c2 c3 c4 c5 c6 c7 c8 c9 c10 c11 rfl
end Go.Proofs.Ytkolhbacgoafcaa

/- The document's Rounds, Length and Bits return what they say, of what is plain, else 0, and make at most new memory; conditions: the table lies where it says, and its length fits int. -/
namespace Go.Proofs.Ytkolhbacgoafcaa
open Go.ChangeShapes Go.WideShapes Go.ChangeAt Go.RowKit
set_option linter.unusedVariables false

theorem refRounds_any (n f d p r dr o sl md fr : Int) (ad : Option Addr) (cap : Nat) (zs : List Int) (w : World) (hl : zs.length ≤ 9223372036854775807) (hT : Tab w ad zs) :
    Calls Try.prog 37 #[.agg #[.int .i64 n, .int .i64 f, .int .i64 d, .int .i64 p, .int .i64 r, .int .i64 dr, .int .i64 o, .int .i64 sl, .int .i64 md, .int .i64 fr, .slice ad zs.length cap]] w fun e w' => e = .returned (.int .i64 (gate (plainE n f d p r dr o sl md fr zs) (3 * (f + 1)))) ∧ Below w.heap.size w w' := by
  have HQ := hidden (refPlain_any n f d p r dr o sl md fr ad cap zs (w.alloc (.cells #[.int .i64 n, .int .i64 f, .int .i64 d, .int .i64 p, .int .i64 r, .int .i64 dr, .int .i64 o, .int .i64 sl, .int .i64 md, .int .i64 fr, .slice ad zs.length cap] 24)) hl (hT.below (ballc _ _)))
  have HK := hidden (fun h => plainE_ok (n := n) (f := f) (d := d) (p := p) (r := r) (dr := dr) (o := o) (sl := sl) (md := md) (fr := fr) (zs := zs) h)
  clear hT
  generalize plainE n f d p r dr o sl md fr zs = E at HQ HK
  by_cases hE : E = 0
  · subst hE
    obtain ⟨n1, n2, f1, f2, _, d1, d2, _⟩ := HK.out rfl
    have hm0 : 0 ≤ 3 * (f + 1) * d := Int.mul_nonneg (by omega) (by omega)
    have hm1 : 3 * (f + 1) * d ≤ 15 * 4 := Int.mul_le_mul (by omega) d2 (by omega) (by omega)
    go_enter Try.func37, Try.ntmps37
    go_wp2_with fail
    refine HQ.out.mono ?_
    rintro e w2 ⟨rfl, hb2⟩
    have HB2 : Hid (Below w.heap.size w w2) := bthen (ballc w _) hb2
    obtain ⟨hbox, hsz⟩ := box_at hb2
    clear hb2 HQ HK
    go_wp2
    go_ret
    exact ⟨ret_i (gate_ok _).symm, HB2.out⟩
  · go_enter Try.func37, Try.ntmps37
    go_wp2_with fail
    refine HQ.out.mono ?_
    rintro e w2 ⟨rfl, hb2⟩
    have HB2 : Hid (Below w.heap.size w w2) := bthen (ballc w _) hb2
    clear hb2 HQ HK
    go_wp2
    go_ret
    exact ⟨ret_i (gate_no hE _).symm, HB2.out⟩
theorem refLength_any (n f d p r dr o sl md fr : Int) (ad : Option Addr) (cap : Nat) (zs : List Int) (w : World) (hl : zs.length ≤ 9223372036854775807) (hT : Tab w ad zs) :
    Calls Try.prog 18 #[.agg #[.int .i64 n, .int .i64 f, .int .i64 d, .int .i64 p, .int .i64 r, .int .i64 dr, .int .i64 o, .int .i64 sl, .int .i64 md, .int .i64 fr, .slice ad zs.length cap]] w fun e w' => e = .returned (.int .i64 (gate (plainE n f d p r dr o sl md fr zs) (3 * (f + 1) * d))) ∧ Below w.heap.size w w' := by
  have HQ := hidden (refPlain_any n f d p r dr o sl md fr ad cap zs (w.alloc (.cells #[.int .i64 n, .int .i64 f, .int .i64 d, .int .i64 p, .int .i64 r, .int .i64 dr, .int .i64 o, .int .i64 sl, .int .i64 md, .int .i64 fr, .slice ad zs.length cap] 24)) hl (hT.below (ballc _ _)))
  have HK := hidden (fun h => plainE_ok (n := n) (f := f) (d := d) (p := p) (r := r) (dr := dr) (o := o) (sl := sl) (md := md) (fr := fr) (zs := zs) h)
  clear hT
  generalize plainE n f d p r dr o sl md fr zs = E at HQ HK
  by_cases hE : E = 0
  · subst hE
    obtain ⟨n1, n2, f1, f2, _, d1, d2, _⟩ := HK.out rfl
    have hm0 : 0 ≤ 3 * (f + 1) * d := Int.mul_nonneg (by omega) (by omega)
    have hm1 : 3 * (f + 1) * d ≤ 15 * 4 := Int.mul_le_mul (by omega) d2 (by omega) (by omega)
    go_enter Try.func18, Try.ntmps18
    go_wp2_with fail
    refine HQ.out.mono ?_
    rintro e w2 ⟨rfl, hb2⟩
    have HB2 : Hid (Below w.heap.size w w2) := bthen (ballc w _) hb2
    obtain ⟨hbox, hsz⟩ := box_at hb2
    clear hb2 HQ HK
    go_wp2
    go_ret
    exact ⟨ret_i (gate_ok _).symm, HB2.out⟩
  · go_enter Try.func18, Try.ntmps18
    go_wp2_with fail
    refine HQ.out.mono ?_
    rintro e w2 ⟨rfl, hb2⟩
    have HB2 : Hid (Below w.heap.size w w2) := bthen (ballc w _) hb2
    clear hb2 HQ HK
    go_wp2
    go_ret
    exact ⟨ret_i (gate_no hE _).symm, HB2.out⟩
end Go.Proofs.Ytkolhbacgoafcaa

/- Plain mathematics of exchanges and ages: which one is told and heard at an age, whose it is; no conditions. -/
namespace Go.Proofs.Ytkolhbacgoafcaa
open Go.ChangeShapes Go.WideShapes Go.ChangeAt Go.RowKit Go.Shelf
set_option linter.unusedVariables false

/-- An exchange of so many. -/
abbrev Exn (R : Nat) := { k : Nat // k < R }
def upto (R k : Nat) : List (Exn R) := (List.range k).filterMap fun j => if h : j < R then some ⟨j, h⟩ else none
theorem upto_zero (R : Nat) : upto R 0 = [] := rfl
theorem upto_succ {R k : Nat} (h : k < R) : upto R (k + 1) = upto R k ++ [⟨k, h⟩] := by
  simp [upto, List.range_succ, List.filterMap_append, h]
theorem upto_length {R : Nat} : ∀ {k : Nat}, k ≤ R → (upto R k).length = k
  | 0, _ => rfl
  | k + 1, h => by rw [upto_succ (by omega), List.length_append, upto_length (by omega)]; rfl
/-- The first number that a test lets by. -/
def firstF (R : Nat) (p : Nat → Bool) : Int := match (List.range R).find? p with
  | some x => x
  | none => -1
theorem first_hit {R : Nat} {p : Nat → Bool} {k : Nat} (hk : k < R) (h : p k = true) (hn : ∀ j, j < k → p j = false) : firstF R p = k := by
  have e : (List.range R).find? p = some k := by
    rw [List.find?_range_eq_some]
    exact ⟨h, by simp [hk], fun j hj => by simp [hn j hj]⟩
  unfold firstF
  rw [e]
theorem first_none {R : Nat} {p : Nat → Bool} (hn : ∀ j, j < R → p j = false) : firstF R p = -1 := by
  have e : (List.range R).find? p = none := by
    rw [List.find?_eq_none]
    intro x hx
    simp at hx
    simp [hn x hx]
  unfold firstF
  rw [e]
theorem first_lt (R : Nat) (p : Nat → Bool) : -1 ≤ firstF R p ∧ firstF R p < R ∨ firstF R p = -1 := by
  unfold firstF
  cases h : (List.range R).find? p with
  | none => exact .inr rfl
  | some x =>
    have h2 := List.mem_of_find?_eq_some h
    rw [List.mem_range] at h2
    refine .inl ⟨?_, ?_⟩
    · show (-1 : Int) ≤ (x : Int)
      omega
    · show (x : Int) < (R : Int)
      omega
def tellB (d age : Int) (x : Nat) : Bool := decide ((x : Int) * d = age)
def hearB (d age : Int) (x : Nat) : Bool := decide ((x : Int) * d + d = age)
def tellF (R : Nat) (d age : Int) : Int := firstF R (tellB d age)
def hearF (R : Nat) (d age : Int) : Int := firstF R (hearB d age)
def kingF (R : Nat) (x : Int) : Int := if 0 ≤ x ∧ x < R then x / 3 else -1
theorem kingF_lo {R : Nat} {x : Int} (h : x < 0) : kingF R x = -1 := if_neg (by omega)
theorem kingF_hi {R : Nat} {x : Int} (h : (R : Int) ≤ x) : kingF R x = -1 := if_neg (by omega)
theorem kingF_in {R : Nat} {x : Int} (h : 0 ≤ x) (h2 : x < R) : kingF R x = x / 3 := if_pos ⟨h, h2⟩
/-- How many exchanges there are, and how far apart. -/
theorem rounds_nat (n f d p r dr o sl md fr : Int) (ad : Option Addr) (cap : Nat) (zs : List Int) : ∃ R : Nat, gate (plainE n f d p r dr o sl md fr zs) (3 * (f + 1)) = (R : Int) ∧ R ≤ 15 ∧ (R = 0 ∨ 1 ≤ d ∧ d ≤ 4) ∧ (plainE n f d p r dr o sl md fr zs = 0 → (R : Int) = 3 * (f + 1) ∧ 1 ≤ d ∧ d ≤ 4 ∧ 0 ≤ f ∧ 3 * f + 1 ≤ n) ∧ (¬ plainE n f d p r dr o sl md fr zs = 0 → R = 0) := by
  by_cases e : plainE n f d p r dr o sl md fr zs = 0
  · obtain ⟨h0, h00, h1, h2, h22, h3, h4, _⟩ := plainE_ok e
    rw [e, gate_ok]
    exact ⟨(3 * (f + 1)).toNat, by omega, by omega, .inr ⟨h3, h4⟩, fun _ => ⟨by omega, h3, h4, h1, h22⟩, fun h => absurd rfl h⟩
  · rw [gate_no e]
    exact ⟨0, rfl, by omega, .inl rfl, fun h => absurd h e, fun _ => rfl⟩
theorem xd_bd {R k : Nat} {d : Int} (hR : R ≤ 15) (hd : R = 0 ∨ 1 ≤ d ∧ d ≤ 4) (hk : k < R) : 0 ≤ (k : Int) * d ∧ (k : Int) * d ≤ 60 := by
  have h1 : 1 ≤ d ∧ d ≤ 4 := by omega
  have hd : d = 1 ∨ d = 2 ∨ d = 3 ∨ d = 4 := by omega
  rcases hd with rfl | rfl | rfl | rfl <;> omega
end Go.Proofs.Ytkolhbacgoafcaa

/- The call Ages of package plan hands back an iterator that goes through the exchanges from 0 on, each with when it is told; conditions: the table lies where it says. -/
namespace Go.Proofs.Ytkolhbacgoafcaa
open Go.ChangeShapes Go.WideShapes Go.ChangeAt Go.RowKit Go.Shelf
set_option linter.unusedVariables false
attribute [local go_sem] Oper.semAt_some

theorem Ages_any (n f d p r dr o sl md fr : Int) (ad : Option Addr) (cap : Nat) (zs : List Int) (R : Nat) (w : World) (hl : zs.length ≤ 9223372036854775807) (hT : Tab w ad zs) (hR : gate (plainE n f d p r dr o sl md fr zs) (3 * (f + 1)) = (R : Int)) :
    Calls Try.prog 71 #[.agg #[.int .i64 n, .int .i64 f, .int .i64 d, .int .i64 p, .int .i64 r, .int .i64 dr, .int .i64 o, .int .i64 sl, .int .i64 md, .int .i64 fr, .slice ad zs.length cap]] w fun e w' => ∃ gr gc, e = .returned (.func (.func 97) #[] #[.pointer (some ⟨gr, 0, none⟩), .pointer (some ⟨gc, 0, none⟩)]) ∧ w'.heap[gr]? = some (.cells #[.int .i64 (R : Int)] 3 (0, 0)) ∧ w'.heap[gc]? = some (.cells #[.int .i64 n, .int .i64 f, .int .i64 d, .int .i64 p, .int .i64 r, .int .i64 dr, .int .i64 o, .int .i64 sl, .int .i64 md, .int .i64 fr, .slice ad zs.length cap] 24 (0, 0)) ∧ Below w.heap.size w w' := by
  have HC := hidden (fun V h => Rounds_any n f d p r dr o sl md fr ad cap zs V hl h)
  rw [hR] at HC
  have HT := hidden (hT.below (ballc w (.cells #[.int .i64 n, .int .i64 f, .int .i64 d, .int .i64 p, .int .i64 r, .int .i64 dr, .int .i64 o, .int .i64 sl, .int .i64 md, .int .i64 fr, .slice ad zs.length cap] 24)))
  have HK := hidden (show (w.alloc (.cells #[.int .i64 n, .int .i64 f, .int .i64 d, .int .i64 p, .int .i64 r, .int .i64 dr, .int .i64 o, .int .i64 sl, .int .i64 md, .int .i64 fr, .slice ad zs.length cap] 24)).heap[w.heap.size]? = some (.cells #[.int .i64 n, .int .i64 f, .int .i64 d, .int .i64 p, .int .i64 r, .int .i64 dr, .int .i64 o, .int .i64 sl, .int .i64 md, .int .i64 fr, .slice ad zs.length cap] 24 (0, 0)) from heap_alloc_new w _)
  clear hT hR
  go_enter Try.func71, Try.ntmps71
  go_wp2_with fail
  refine (HC.out _ HT.out).mono ?_
  rintro e w2 ⟨rfl, hb⟩
  have HB := hidden (bthen (ballc w _) hb)
  have HK2 := hidden ((hb.block _ (by simp)).trans HK.out)
  clear hb
  go_wp2
  go_ret
  exact ⟨w2.heap.size, w.heap.size, rfl, heap_alloc_new w2 _, ((ballc w2 _).block _ (Array.getElem?_eq_some_iff.1 HK2.out).1).trans HK2.out, bthen HB.out (ballc _ _)⟩

set_option maxRecDepth 100000 in
set_option maxHeartbeats 2000000 in
theorem ages1_in (n f d p r dr o sl md fr : Int) (ad : Option Addr) (cap : Nat) (zs : List Int) (R : Nat) (hR : R ≤ 15) (hd : R = 0 ∨ 1 ≤ d ∧ d ≤ 4) (m : Nat) (hm : 1 ≤ m) (l gr gc n₀ : Nat) (J Jx : List (Exn R) → World → Prop)
    (hY : ∀ pre x W, J pre W → pre.length < R → YieldAt Fence.wide (m - 1) Try.prog l #[.int .i64 (x.1 : Int), .int .i64 ((x.1 : Int) * d)] W fun e W' =>
      (e = .returned (.bool true) ∧ J (pre ++ [x]) W' ∧ Below n₀ W W') ∨ (e = .returned (.bool false) ∧ Jx (pre ++ [x]) W'))
    (W : World) (b1 : W.heap[gr]? = some (.cells #[.int .i64 (R : Int)] 3 (0, 0))) (b2 : W.heap[gc]? = some (.cells #[.int .i64 n, .int .i64 f, .int .i64 d, .int .i64 p, .int .i64 r, .int .i64 dr, .int .i64 o, .int .i64 sl, .int .i64 md, .int .i64 fr, .slice ad zs.length cap] 24 (0, 0))) (h2 : gc < n₀) (h0 : J [] W) :
    CallsIn Fence.wide m Try.prog 97 #[.func (.yield l) #[] #[], .pointer (some ⟨gr, 0, none⟩), .pointer (some ⟨gc, 0, none⟩)] W fun e W' => (∃ v, e = .returned v) ∧
      ((∃ ys, ys = upto R R ∧ J ys W') ∨ (∃ pre, (∃ k, k ≤ R ∧ pre = upto R k) ∧ Jx pre W')) := by
  have c1 := blk_cell b1 0
  have HK := hidden b2
  clear b2
  refine callsIn_of_wp Try.func97 rfl trivial ?_ rfl
  simp only [Try.ntmps97, List.size_toArray, List.length_cons, List.length_nil, Nat.reduceAdd, Nat.reduceSub, Array.replicate_succ, Array.replicate_zero, List.push_toArray, List.append_toArray, List.nil_append, List.cons_append]
  gi_wp2
  clear c1 b1
  gi_loopw [6] (fun i wr => ∃ k : Nat, k ≤ R ∧ i = .int .i64 k ∧ J (upto R k) wr ∧ Below n₀ W wr)
    (fun i _ => R - (intV i).toNat)
  case atStart => exact ⟨0, Nat.zero_le _, rfl, h0, Below.refl _ _⟩
  case round =>
    obtain ⟨k, hk, rfl, hJs, hB⟩ := hrel
    by_cases hlt : k < R
    · have hb2 : wr.heap[gc]? = some (.cells #[.int .i64 n, .int .i64 f, .int .i64 d, .int .i64 p, .int .i64 r, .int .i64 dr, .int .i64 o, .int .i64 sl, .int .i64 md, .int .i64 fr, .slice ad zs.length cap] 24 (0, 0)) := (hB.block gc h2).trans HK.out
      have c2 := fun i => blk_cell hb2 i
      have hlen := upto_length hk
      have HS := hidden (upto_succ hlt)
      obtain ⟨q1, q2⟩ := xd_bd hR hd hlt
      obtain ⟨fn, tmps, assign, body, hy, hRd⟩ := hY (upto R k) ⟨k, hlt⟩ wr hJs (by omega)
      dsimp only at hy
      clear hY hJs hd hb2 h0
      gi_wp2
      refine hRd.mono ?_
      rintro e W3 (⟨rfl, hJ3, hk3⟩ | ⟨rfl, hJx3⟩)
      · gi_wp2
        go_roundw
        case rel => exact ⟨k + 1, by omega, by simp, by rw [HS.out]; exact hJ3, hB.trans hk3⟩
        case measure => simp [intV]; omega
      · gi_wp2
        refine bodyPost_ret (results_none rfl _ _ _) rfl ?_
        exact ⟨⟨_, rfl⟩, .inr ⟨_, ⟨k + 1, by omega, HS.out.symm⟩, hJx3⟩⟩
    · obtain rfl : k = R := by omega
      gi_wp2
      go_end0
      exact ⟨⟨_, rfl⟩, .inl ⟨_, rfl, hJs⟩⟩

/-- The iterator's contract. -/
theorem ages_stops (n f d p r dr o sl md fr : Int) (ad : Option Addr) (cap : Nat) (zs : List Int) (R : Nat) (hR : R ≤ 15) (hd : R = 0 ∨ 1 ≤ d ∧ d ≤ 4) (m : Nat) (hm : 1 ≤ m) (gr gc n₀ : Nat) (w : World) (hn₀ : n₀ ≤ w.heap.size)
    (b1 : w.heap[gr]? = some (.cells #[.int .i64 (R : Int)] 3 (0, 0))) (b2 : w.heap[gc]? = some (.cells #[.int .i64 n, .int .i64 f, .int .i64 d, .int .i64 p, .int .i64 r, .int .i64 dr, .int .i64 o, .int .i64 sl, .int .i64 md, .int .i64 fr, .slice ad zs.length cap] 24 (0, 0))) (h2 : gc < n₀) :
    SeqStopsK Fence.wide m Try.prog 97 #[.pointer (some ⟨gr, 0, none⟩), .pointer (some ⟨gc, 0, none⟩)] (fun x : Exn R => #[.int .i64 (x.1 : Int), .int .i64 ((x.1 : Int) * d)]) (Below n₀) (fun ys => ys = upto R R) (fun pre => ∃ k, k ≤ R ∧ pre = upto R k) R w := fun l J Jx W hW hJ _ hY h0 =>
  ages1_in n f d p r dr o sl md fr ad cap zs R hR hd m hm l gr gc n₀ J Jx hY W ((hW.block gr (Array.getElem?_eq_some_iff.1 b1).1).trans b1) ((hW.block gc (Array.getElem?_eq_some_iff.1 b2).1).trans b2) h2 h0
end Go.Proofs.Ytkolhbacgoafcaa

/- The calls Tells and Hears of package plan return the exchange that is told, and heard, at an age, and make at most new memory; conditions: the table lies where it says. -/
namespace Go.Proofs.Ytkolhbacgoafcaa
open Go.ChangeShapes Go.WideShapes Go.ChangeAt Go.RowKit Go.Shelf
set_option linter.unusedVariables false
attribute [local go_sem] Oper.semAt_some

theorem mem_upto {R i : Nat} : ∀ {k : Nat}, k ≤ R → (h : i < k) → (hR : i < R) → (⟨i, hR⟩ : Exn R) ∈ upto R k
  | k + 1, hk, h, hR => by
    rw [upto_succ (by omega)]
    by_cases e : i = k
    · subst e; simp
    · exact List.mem_append.2 (.inl (mem_upto (by omega) (by omega) hR))
/-- Where a round has stopped. -/
theorem stop_first {R : Nat} {p : Nat → Bool} {pre pre0 : List (Exn R)} {y : Exn R} (hs : ∃ k, k ≤ R ∧ pre = upto R k) (hp : pre = pre0 ++ [y]) (hn : ∀ z ∈ pre0, p z.1 = false) (hy : p y.1 = true) : firstF R p = (y.1 : Int) := by
  obtain ⟨k, hk, rfl⟩ := hs
  cases k with
  | zero => rw [upto_zero] at hp; simp at hp
  | succ j =>
    rw [upto_succ (by omega)] at hp
    obtain ⟨h1, h2⟩ := List.append_inj' hp rfl
    subst h1
    simp at h2
    have hj : y.1 = j := by rw [← h2]
    rw [hj] at hy ⊢
    exact first_hit (by omega) hy fun i hi => hn ⟨i, by omega⟩ (mem_upto (by omega) hi (by omega))
theorem done_first {R : Nat} {p : Nat → Bool} (hn : ∀ z ∈ upto R R, p z.1 = false) : firstF R p = -1 := first_none fun j hj => hn ⟨j, hj⟩ (mem_upto (Nat.le_refl _) hj hj)
theorem all_snoc {R : Nat} {p : Nat → Bool} {pre : List (Exn R)} {x : Exn R} (h : ∀ z ∈ pre, p z.1 = false) (hx : p x.1 = false) : ∀ z ∈ pre ++ [x], p z.1 = false := fun z hz => by
  rcases List.mem_append.1 hz with h1 | h1
  · exact h z h1
  · simp at h1; subst h1; exact hx

end Go.Proofs.Ytkolhbacgoafcaa

/- The calls Hears, Tells and King of package plan return the exchange that is heard and told at an age, and whose an exchange is, and make at most new memory; conditions: the table lies where it says. -/
namespace Go.Proofs.Ytkolhbacgoafcaa
open Go.ChangeShapes Go.WideShapes Go.ChangeAt Go.RowKit Go.Shelf
set_option linter.unusedVariables false
attribute [local go_sem] Oper.semAt_some

theorem blk_own {β : Type} (B : Nat) (C : Array Value) (t : TypeId) : Own (fun (_ : β) W => W.heap[B]? = some (.cells C t (0, 0))) := fun s X Y row hs hg hrow =>
  (hg.block B (blk_lt hs) (fun e => by obtain ⟨o, ho, hc⟩ := hrow B e.symm; rw [hs] at ho; cases ho; cases hc)).trans hs



theorem PKing_any (n f d p r dr o sl md fr : Int) (ad : Option Addr) (cap : Nat) (zs : List Int) (x : Int) (R : Nat) (hx : -9223372036854775808 ≤ x ∧ x ≤ 9223372036854775807) (w : World) (hl : zs.length ≤ 9223372036854775807) (hT : Tab w ad zs) (hR : gate (plainE n f d p r dr o sl md fr zs) (3 * (f + 1)) = (R : Int)) :
    Calls Try.prog 78 #[.agg #[.int .i64 n, .int .i64 f, .int .i64 d, .int .i64 p, .int .i64 r, .int .i64 dr, .int .i64 o, .int .i64 sl, .int .i64 md, .int .i64 fr, .slice ad zs.length cap], .int .i64 x] w fun e W' => e = .returned (.int .i64 (kingF R x)) ∧ Below w.heap.size w W' := by
  have HC := hidden (fun V h => Rounds_any n f d p r dr o sl md fr ad cap zs V hl h)
  rw [hR] at HC
  have HT := hidden (hT.below (ballc w (.cells #[.int .i64 n, .int .i64 f, .int .i64 d, .int .i64 p, .int .i64 r, .int .i64 dr, .int .i64 o, .int .i64 sl, .int .i64 md, .int .i64 fr, .slice ad zs.length cap] 24)))
  clear hT hR
  by_cases h0 : x < 0
  · have e1 : decide (x < 0) = true := decide_eq_true h0
    have hr := hidden (kingF_lo (R := R) h0)
    clear h0
    go_enter Try.func78, Try.ntmps78
    go_wp2
    go_ret
    exact ⟨ret_i hr.out.symm, ballc _ _⟩
  · have e1 : decide (x < 0) = false := decide_eq_false h0
    by_cases h1 : (R : Int) ≤ x
    · have e2 : decide ((R : Int) ≤ x) = true := decide_eq_true h1
      have hr := hidden (kingF_hi h1)
      clear h1
      go_enter Try.func78, Try.ntmps78
      go_wp2_with fail
      refine (HC.out _ HT.out).mono ?_
      rintro e w2 ⟨rfl, hb⟩
      have HB := hidden (bthen (ballc w _) hb)
      clear hb
      go_wp2
      go_ret
      exact ⟨ret_i hr.out.symm, HB.out⟩
    · have e2 : decide ((R : Int) ≤ x) = false := decide_eq_false h1
      have hr := hidden (kingF_in (R := R) (x := x) (by omega) (by omega))
      have e3 : x.tdiv 3 = x / 3 := by rw [Int.tdiv_eq_ediv_of_nonneg (by omega)]
      clear h1
      go_enter Try.func78, Try.ntmps78
      go_wp2_with fail
      refine (HC.out _ HT.out).mono ?_
      rintro e w2 ⟨rfl, hb⟩
      have HB := hidden (bthen (ballc w _) hb)
      clear hb
      go_wp2
      go_ret
      exact ⟨ret_i hr.out.symm, HB.out⟩
end Go.Proofs.Ytkolhbacgoafcaa

/- The calls Blank, codesOf, digitsAt and hear of package pipe return what plain functions give, and make at most new memory; conditions: rows lie where they say, lengths fit int, at most a hundred thousand votes. -/
namespace Go.Proofs.Ytkolhbacgoafcaa
open Go.ChangeShapes Go.WideShapes Go.ChangeAt Go.RowKit Go.Shelf
set_option linter.unusedVariables false

/-- How many codes a pipe has, in stretches. -/
theorem len_nat (n f d p r dr o sl md fr : Int) (ad : Option Addr) (cap : Nat) (zs : List Int) : ∃ R D L : Nat, gate (plainE n f d p r dr o sl md fr zs) (3 * (f + 1)) = (R : Int) ∧ gate (plainE n f d p r dr o sl md fr zs) (3 * (f + 1) * d) = (L : Int) ∧ L = R * D ∧ R ≤ 15 ∧ L ≤ 60 ∧ (R = 0 ∨ (d = (D : Int) ∧ 1 ≤ D ∧ D ≤ 4)) ∧ (plainE n f d p r dr o sl md fr zs = 0 → (R : Int) = 3 * (f + 1) ∧ d = (D : Int) ∧ 1 ≤ D ∧ D ≤ 4) ∧ (¬ plainE n f d p r dr o sl md fr zs = 0 → R = 0) := by
  by_cases e : plainE n f d p r dr o sl md fr zs = 0
  · obtain ⟨h0, h00, h1, h2, h22, h3, h4, _⟩ := plainE_ok e
    rw [e, gate_ok, gate_ok]
    refine ⟨(3 * (f + 1)).toNat, d.toNat, (3 * (f + 1)).toNat * d.toNat, by omega, ?_, rfl, by omega, Nat.mul_le_mul (show (3 * (f + 1)).toNat ≤ 15 by omega) (show d.toNat ≤ 4 by omega), .inr ⟨by omega, by omega, by omega⟩, fun _ => ⟨by omega, by omega, by omega, by omega⟩, fun h => absurd rfl h⟩
    rw [Int.natCast_mul, Int.toNat_of_nonneg (by omega), Int.toNat_of_nonneg (by omega)]
  · rw [gate_no e, gate_no e]
    exact ⟨0, 0, 0, rfl, rfl, rfl, by omega, by omega, .inl rfl, fun h => absurd h e, fun _ => rfl⟩

theorem PBlank_any (n f d p r dr o sl md fr : Int) (ad : Option Addr) (cap : Nat) (zs : List Int) (L : Nat) (w : World) (hl : zs.length ≤ 9223372036854775807) (hT : Tab w ad zs) (hL : gate (plainE n f d p r dr o sl md fr zs) (3 * (f + 1) * d) = (L : Int)) (hL60 : L ≤ 60) :
    Calls Try.prog 9 #[.agg #[.int .i64 n, .int .i64 f, .int .i64 d, .int .i64 p, .int .i64 r, .int .i64 dr, .int .i64 o, .int .i64 sl, .int .i64 md, .int .i64 fr, .slice ad zs.length cap]] w fun e w' => e = .returned (.string (ba (zerL L))) ∧ Below w.heap.size w w' := by
  have HC := hidden (fun V h => Length_any n f d p r dr o sl md fr ad cap zs V hl h)
  rw [hL] at HC
  have HT := hidden (hT.below (ballc w (.cells #[.int .i64 n, .int .i64 f, .int .i64 d, .int .i64 p, .int .i64 r, .int .i64 dr, .int .i64 o, .int .i64 sl, .int .i64 md, .int .i64 fr, .slice ad zs.length cap] 24)))
  clear hT hL
  go_enter Try.func9, Try.ntmps9
  go_wp2_with fail
  refine (HC.out _ HT.out).mono ?_
  rintro e w2 ⟨rfl, hb⟩
  have HB := hidden (bthen (ballc w _) hb)
  clear hb
  go_wp2_with fail
  refine (RepZ_any L _ (by omega)).mono ?_
  rintro e w3 ⟨rfl, hb⟩
  have HB3 := hidden (bthen HB.out hb)
  clear hb
  go_wp2
  go_ret
  exact ⟨rfl, HB3.out⟩

theorem made_at (W : World) (s : ByteArray) : ∃ g cap W', (convert 9 48 (.string s)).run Try.prog W = .ok (.slice (some ⟨g, 0, none⟩) s.size cap) W' ∧ FBlk W' g (bl s) ∧ W.heap.size ≤ g ∧ s.size ≤ cap ∧ Below W.heap.size W W' :=
  ⟨_, _, _, run_bytes_of_string W 9 48 5 s Try.underlying9 Try.underlying48 Try.underlying5, FBlk.made W s, Nat.le_refl _, grownCap_ge W s.size 0 5, below_made W s⟩

set_option maxHeartbeats 1000000 in
theorem codesOf_any (n f d p r dr o sl md fr : Int) (ad : Option Addr) (cap : Nat) (zs : List Int) (L : Nat) (s : ByteArray) (hs : s.size ≤ 9223372036854775807) (w : World) (hl : zs.length ≤ 9223372036854775807) (hT : Tab w ad zs) (hL : gate (plainE n f d p r dr o sl md fr zs) (3 * (f + 1) * d) = (L : Int)) (hL60 : L ≤ 60) :
    Calls Try.prog 33 #[.agg #[.int .i64 n, .int .i64 f, .int .i64 d, .int .i64 p, .int .i64 r, .int .i64 dr, .int .i64 o, .int .i64 sl, .int .i64 md, .int .i64 fr, .slice ad zs.length cap], .string s] w fun e w' => ∃ g cap', e = .returned (.slice (some ⟨g, 0, none⟩) L cap') ∧ FBlk w' g (wellL L s) ∧ w.heap.size ≤ g ∧ L ≤ cap' ∧ Below w.heap.size w w' := by
  have HC := hidden (fun V h => Length_any n f d p r dr o sl md fr ad cap zs V hl h)
  rw [hL] at HC
  have HBk := hidden (fun V h => PBlank_any n f d p r dr o sl md fr ad cap zs L V hl h hL hL60)
  have HT := hidden (hT.below (ballc w (.cells #[.int .i64 n, .int .i64 f, .int .i64 d, .int .i64 p, .int .i64 r, .int .i64 dr, .int .i64 o, .int .i64 sl, .int .i64 md, .int .i64 fr, .slice ad zs.length cap] 24)))
  clear hT hL
  by_cases he : s.size = L
  · have hw : wellL L s = bl s := if_pos he
    have j : ((s.size : Int) != (L : Int)) = false := by simp [he]
    rw [hw]
    clear hw
    go_enter Try.func33, Try.ntmps33
    go_wp2_with fail
    refine (HC.out _ HT.out).mono ?_
    rintro e w2 ⟨rfl, hb⟩
    have HB := hidden (bthen (ballc w _) hb)
    clear hb HC HBk HT
    obtain ⟨g, cap', w3, hr, hf, hg, hc, hb⟩ := made_at w2 s
    have HF := hidden hf
    have HB3 := hidden (bthen HB.out hb)
    have hws := HB.out.size
    clear hf hb
    go_wp2
    go_ret
    exact ⟨g, cap', by rw [← he]; rfl, HF.out, by omega, by omega, HB3.out⟩
  · have hw : wellL L s = zerL L := if_neg he
    have j : ((s.size : Int) != (L : Int)) = true := by simp; omega
    rw [hw]
    clear hw
    go_enter Try.func33, Try.ntmps33
    go_wp2_with fail
    refine (HC.out _ HT.out).mono ?_
    rintro e w2 ⟨rfl, hb⟩
    have HB := hidden (bthen (ballc w _) hb)
    obtain ⟨hbox, hsz⟩ := box_at hb
    have HT2 := hidden (HT.out.below hb)
    clear hb HC HT
    go_wp2_with fail
    refine (HBk.out _ HT2.out).mono ?_
    rintro e w4 ⟨rfl, hb⟩
    have HB4 := hidden (bthen HB.out hb)
    clear hb hbox hsz
    obtain ⟨g, cap', w3, hr, hf, hg, hc, hb⟩ := made_at w4 (ba (zerL L))
    have hzs : (ba (zerL L)).size = L := by rw [ba_size, zerL, List.length_replicate]
    rw [hzs] at hr hc
    rw [bl_ba] at hf
    have HF := hidden hf
    have HB3 := hidden (bthen HB4.out hb)
    have hws := HB4.out.size
    clear hf hb hzs
    generalize ba (zerL L) = zt at *
    go_wp2
    go_ret
    exact ⟨g, cap', rfl, HF.out, by omega, hc, HB3.out⟩

/-- What each text has at one place. -/
def digsP (votes : List ByteArray) (k : Nat) : List ByteArray := votes.map fun t => prt t k
theorem digsP_len (votes : List ByteArray) (k : Nat) : (digsP votes k).length = votes.length := by simp [digsP]
theorem digsP_fill (votes : List ByteArray) (k : Nat) : (List.range votes.length).map (fun i => prt (votes.getD i noB) k) = digsP votes k := by
  unfold digsP
  apply List.ext_getElem
  · simp
  · intro i h1 h2
    simp at h1 h2
    simp [h1]
theorem cut_one (s : ByteArray) (k : Nat) (h : k < s.size) (W : World) : (Instr.slice 9 (.string s) (some (.int .i64 (k : Int))) (some (.int .i64 ((k : Int) + 1))) none).run Try.prog W = .ok (.string (prt s k)) W := by
  rw [run_slice_string_if W 9 s .i64 .i64 (k : Int) ((k : Int) + 1) Try.underlying9, if_pos ⟨by omega, by omega⟩, if_pos ⟨by omega, by omega⟩, prt_in h]
  rfl
set_option maxHeartbeats 2000000 in
theorem digitsAt_any (a2 : Option Addr) (c2 : Nat) (votes : List ByteArray) (k : Nat) (w : World) (hk64 : k ≤ 100000) (hn : votes.length ≤ 100000) (hV : kStr.Lies w.heap.size w (.slice a2 votes.length c2) votes) (hz : ∀ t ∈ votes, t.size ≤ 9223372036854775807) :
    Calls Try.prog 77 #[.slice a2 votes.length c2, .int .i64 (k : Int)] w fun e w' => ∃ g, e = .returned (.slice (some ⟨g, 0, none⟩) votes.length votes.length) ∧ SBlk w' g (digsP votes k) ∧ Below w.heap.size w w' := by
  obtain ⟨N, hN⟩ : ∃ N, N = votes.length := ⟨_, rfl⟩
  have hN5 : N ≤ 100000 := by omega
  have hmk := fun V => make_strs N (by omega) V
  have HV := hidden hV
  have HZ := hidden hz
  have HK0 : Hid (SBlk (w.alloc (.cells (svals (List.replicate N noB)) 9)) w.heap.size (fillL noB N (fun i => prt (votes.getD i noB) k) 0)) := by
    show SBlk _ _ _
    rw [fillL_0]
    exact blk_nw w _ _
  have HB0 : Hid (Below w.heap.size w (w.alloc (.cells (svals (List.replicate N noB)) 9))) := ballc w _
  have HF : Hid (fillL noB N (fun i => prt (votes.getD i noB) k) N = digsP votes k) := by show _ = _; rw [fillL_all, hN]; exact digsP_fill votes k
  have HN := hidden hN
  rw [← hN] at HV ⊢
  clear hV hz hN
  go_enter Try.func77, Try.ntmps77
  go_wp2
  clear hmk
  generalize w.alloc (.cells (svals (List.replicate N noB)) 9) = W0 at *
  go_loopw [13] (fun i wr => ∃ j : Nat, j ≤ N ∧ i = .int .i64 j ∧ SBlk wr w.heap.size (fillL noB N (fun i => prt (votes.getD i noB) k) j) ∧ Below w.heap.size w wr) (fun i _ => N - (intV i).toNat)
  case atStart => exact ⟨0, Nat.zero_le _, rfl, HK0.out, HB0.out⟩
  case round =>
    obtain ⟨j, hj, rfl, hX, hB⟩ := hrel
    clear HK0 HB0
    have HB := hidden hB
    have HX := hidden hX
    by_cases hlt : j < N
    · have i1 : (0 : Int) ≤ (j : Int) := by omega
      have i2 : (j : Int) < (N : Int) := by omega
      have hjv : j < votes.length := by rw [← HN.out]; exact hlt
      obtain ⟨b, off, rfl, hbl, e0⟩ := kStr_at (HV.out.below hB) j hjv
      have hm : votes.getD j noB ∈ votes := by rw [List.getD_eq_getElem?_getD, List.getElem?_eq_getElem hjv, Option.getD_some]; exact List.getElem_mem hjv
      have hsz := HZ.out _ hm
      have HS : Hid ((fillL noB N (fun i => prt (votes.getD i noB) k) j).set j (prt (votes.getD j noB) k) = fillL noB N (fun i => prt (votes.getD i noB) k) (j + 1)) := fillL_set noB N (fun i => prt (votes.getD i noB) k) j hlt
      have c0 := hX.cell j (by rw [fillL_len]; exact hlt)
      have f0 := hX.open j
      have l0 := hX.lt
      have lb := Nat.lt_of_lt_of_le hbl hB.size
      clear hm hjv
      by_cases hks : k < (votes.getD j noB).size
      · have k1 : (k : Int) < ((votes.getD j noB).size : Int) := by omega
        have s1 := fun V => cut_one (votes.getD j noB) k hks V
        clear hX hB
        generalize hz : prt (votes.getD j noB) k = z at *
        clear hz
        generalize votes.getD j noB = t at *
        generalize (fillL noB N (fun i => prt (votes.getD i noB) k) j).getD j noB = y at *
        go_wp2
        have hset := HX.out.set j z
        rw [HS.out] at hset
        go_roundw
        case rel => exact ⟨j + 1, by omega, by go_num, hset, HB.out.setCell (p := ⟨w.heap.size, j, none⟩) (Nat.le_refl _) _⟩
        case measure => simp [intV]; omega
      · have k1 : ¬ (k : Int) < ((votes.getD j noB).size : Int) := by omega
        have hz0 : prt (votes.getD j noB) k = noB := if_neg hks
        have hy0 : (fillL noB N (fun i => prt (votes.getD i noB) k) j).getD j noB = noB := by
          unfold fillL
          rw [range_getD _ _ _ _ hlt, if_neg (by omega)]
        have hnx : fillL noB N (fun i => prt (votes.getD i noB) k) (j + 1) = fillL noB N (fun i => prt (votes.getD i noB) k) j := by
          rw [← HS.out, hz0]
          refine list_ext _ _ (by simp) fun i hi => ?_
          rw [getD_set _ _ _ _ (by rw [fillL_len]; exact hlt)]
          by_cases e : i = j
          · subst e; rw [if_pos rfl, hy0]
          · rw [if_neg e]
        have HNX := hidden hnx
        clear hX hB hz0 hy0 hnx
        generalize votes.getD j noB = t at *
        go_wp2
        go_roundw
        case rel => exact ⟨j + 1, by omega, by go_num, by rw [HNX.out]; exact HX.out, HB.out⟩
        case measure => simp [intV]; omega
    · obtain rfl : j = N := by omega
      have i2 : ¬ (j : Int) < (j : Int) := by omega
      clear hX hB
      go_wp2
      go_ret
      exact ⟨_, rfl, by rw [← HF.out]; exact HX.out, HB.out⟩
end Go.Proofs.Ytkolhbacgoafcaa

/- The call hear of package pipe returns the code of an instance that has heard an exchange, and makes at most new memory; conditions: rows lie where they say, lengths fit int, at most a hundred thousand votes. -/
namespace Go.Proofs.Ytkolhbacgoafcaa
open Go.ChangeShapes Go.WideShapes Go.ChangeAt Go.RowKit Go.Shelf
set_option linter.unusedVariables false

/-- What the king told, of what each text has at one place; the code behind an exchange. -/
def toldP (votes : List ByteArray) (x : Nat) : ByteArray := (digsP votes x).getD (x / 3) noB
def hrdB (E n f : Int) (votes : List ByteArray) (x : Nat) (b : UInt8) : UInt8 := UInt8.ofNat (48 + stpG E n f x (ba [b]) (toldP votes x) (digsP votes x) 0)
theorem dg_one (g : Nat → Nat) : dgB 1 g = ba [UInt8.ofNat (48 + g 0)] := rfl
theorem digs_size (votes : List ByteArray) (x : Nat) : ∀ t ∈ digsP votes x, t.size ≤ 9223372036854775807 := by
  intro t ht
  obtain ⟨s, _, rfl⟩ := List.mem_map.1 ht
  have := prt_size s x
  omega
theorem told_size (votes : List ByteArray) (x : Nat) : (toldP votes x).size ≤ 9223372036854775807 := by
  unfold toldP
  by_cases h : x / 3 < (digsP votes x).length
  · rw [List.getD_eq_getElem?_getD, List.getElem?_eq_getElem h, Option.getD_some]
    exact digs_size votes x _ (List.getElem_mem h)
  · rw [List.getD_eq_getElem?_getD, List.getElem?_eq_none (by omega)]
    decide
theorem wfNat (x : Nat) (hx : x ≤ 100000) : (Lit.int .i64 (x : Int)).wf = true := by
  have := wrap64_wf (x : Int)
  rwa [IntWalk.wrap64_in (x : Int) (by omega)] at this

set_option maxHeartbeats 2000000 in
theorem hear_any (n f d p r dr o sl md fr : Int) (ad : Option Addr) (cap : Nat) (zs : List Int) (R x : Nat) (hx : x < R) (hR15 : R ≤ 15) (b : UInt8) (a2 : Option Addr) (c2 : Nat) (votes : List ByteArray) (w : World) (hl : zs.length ≤ 9223372036854775807) (hT : Tab w ad zs) (hR : gate (plainE n f d p r dr o sl md fr zs) (3 * (f + 1)) = (R : Int))
    (hn : votes.length ≤ 100000) (hV : kStr.Lies w.heap.size w (.slice a2 votes.length c2) votes) (hz : ∀ t ∈ votes, t.size ≤ 9223372036854775807) :
    Calls Try.prog 42 #[.agg #[.int .i64 n, .int .i64 f, .int .i64 d, .int .i64 p, .int .i64 r, .int .i64 dr, .int .i64 o, .int .i64 sl, .int .i64 md, .int .i64 fr, .slice ad zs.length cap], .int .i64 (x : Int), .string (ba [b]), .slice a2 votes.length c2] w fun e w' => e = .returned (.string (ba [hrdB (plainE n f d p r dr o sl md fr zs) n f votes x b])) ∧ Below w.heap.size w w' := by
  have CD := hidden (fun (V : World) (hB : Below w.heap.size w V) => digitsAt_any a2 c2 votes x V (by omega) hn (hV.later hB) hz)
  have HB0 := hidden (ballc w (.cells #[.int .i64 n, .int .i64 f, .int .i64 d, .int .i64 p, .int .i64 r, .int .i64 dr, .int .i64 o, .int .i64 sl, .int .i64 md, .int .i64 fr, .slice ad zs.length cap] 24))
  have HT := hidden (hT.below HB0.out)
  have CK := hidden (fun V h => PKing_any n f d p r dr o sl md fr ad cap zs (x : Int) R (by omega) V hl h hR)
  rw [kingF_in (by omega) (by omega), show (x : Int) / 3 = ((x / 3 : Nat) : Int) by omega] at CK
  have CS := hidden (fun (V : World) (hB : Tab V ad zs) (g : Nat) (hg : SBlk V g (digsP votes x)) => VStep_any n f d p r dr o sl md fr ad cap zs (x : Int) (ba [b]) (toldP votes x) (some ⟨g, 0, none⟩) (digsP votes x).length (digsP votes x) V hl hB (wfNat x (by omega)) (by rw [ba_size]; simp) (told_size votes x) (by rw [digsP_len]; exact hn) (hg.lies (by rw [digsP_len]; simp only [maxLen]; omega)) (digs_size votes x))
  rw [show (ba [b]).size = 1 by rw [ba_size]; rfl, dg_one, digsP_len] at CS
  have HH : Hid (hrdB (plainE n f d p r dr o sl md fr zs) n f votes x b = UInt8.ofNat (48 + stpG (plainE n f d p r dr o sl md fr zs) n f x (ba [b]) (toldP votes x) (digsP votes x) 0)) := rfl
  rw [HH.out]
  clear HH hV hz hT hR
  generalize stpG (plainE n f d p r dr o sl md fr zs) n f x (ba [b]) (toldP votes x) (digsP votes x) 0 = q at *
  generalize ba [UInt8.ofNat (48 + q)] = out at *
  generalize ba [b] = code at *
  have hln := digsP_len votes x
  by_cases hq : x / 3 < votes.length
  · have HTD : Hid (toldP votes x = (digsP votes x).getD (x / 3) noB) := rfl
    have q1 : ((x / 3 : Nat) : Int) < (votes.length : Int) := by omega
    have q0 : (0 : Int) ≤ ((x / 3 : Nat) : Int) := by omega
    generalize toldP votes x = told at *
    generalize digsP votes x = ds at *
    generalize hxq : x / 3 = k at *
    generalize hM : votes.length = M at *
    clear hM hxq
    go_enter Try.func42, Try.ntmps42
    go_wp2_with fail
    refine (CD.out _ HB0.out).mono ?_
    rintro e w2 ⟨g, rfl, hS, hb⟩
    have HB := hidden (bthen HB0.out hb)
    have HT2 := hidden (HT.out.below hb)
    obtain ⟨hbox, hsz⟩ := box_at hb
    have HS := hidden hS
    clear hb HT CD hS
    go_wp2_with fail
    refine (CK.out _ HT2.out).mono ?_
    rintro e w3 ⟨rfl, hb⟩
    have hS3 := HS.out.later hb
    have c0 := hS3.cell k (by omega)
    rw [← HTD.out] at c0
    have l0 := hS3.lt
    have HB3 := hidden (bthen HB.out hb)
    have HT3 := hidden (HT2.out.below hb)
    have hbox3 : ∀ i, w3.cell? ⟨w.heap.size, i, none⟩ = w2.cell? ⟨w.heap.size, i, none⟩ := fun i => hb.cell (p := ⟨w.heap.size, i, none⟩) hsz
    have hsz3 := Nat.lt_of_lt_of_le hsz hb.size
    have hboxx : ∀ i, w3.cell? ⟨w.heap.size, i, none⟩ = (#[.int .i64 n, .int .i64 f, .int .i64 d, .int .i64 p, .int .i64 r, .int .i64 dr, .int .i64 o, .int .i64 sl, .int .i64 md, .int .i64 fr, .slice ad zs.length cap] : Array Value)[i]? := fun i => (hbox3 i).trans (hbox i)
    have CX := hidden (CS.out w3 HT3.out g hS3)
    clear hb hbox hsz HS HT2 CK hS3 hbox3
    go_wp2_with fail
    refine CX.out.mono ?_
    rintro e w4 ⟨rfl, hb⟩
    have HB4 := hidden (bthen HB3.out hb)
    clear hb
    go_wp2
    go_ret
    exact ⟨rfl, HB4.out⟩
  · have HTD : Hid (toldP votes x = noB) := by
      show _ = _
      unfold toldP
      rw [List.getD_eq_getElem?_getD, List.getElem?_eq_none (by omega)]
      rfl
    have HTN : Hid (noB = (⟨#[]⟩ : ByteArray)) := rfl
    rw [HTD.out, HTN.out] at CS
    have q1 : ¬ ((x / 3 : Nat) : Int) < (votes.length : Int) := by omega
    generalize digsP votes x = ds at *
    generalize hxq : x / 3 = k at *
    generalize hM : votes.length = M at *
    clear hM hxq
    go_enter Try.func42, Try.ntmps42
    go_wp2_with fail
    refine (CD.out _ HB0.out).mono ?_
    rintro e w2 ⟨g, rfl, hS, hb⟩
    have HB := hidden (bthen HB0.out hb)
    have HT2 := hidden (HT.out.below hb)
    obtain ⟨hbox, hsz⟩ := box_at hb
    have HS := hidden hS
    clear hb HT CD hS
    go_wp2_with fail
    refine (CK.out _ HT2.out).mono ?_
    rintro e w3 ⟨rfl, hb⟩
    have hS3 := HS.out.later hb
    have HB3 := hidden (bthen HB.out hb)
    have HT3 := hidden (HT2.out.below hb)
    have hbox3 : ∀ i, w3.cell? ⟨w.heap.size, i, none⟩ = w2.cell? ⟨w.heap.size, i, none⟩ := fun i => hb.cell (p := ⟨w.heap.size, i, none⟩) hsz
    have hsz3 := Nat.lt_of_lt_of_le hsz hb.size
    have hboxx : ∀ i, w3.cell? ⟨w.heap.size, i, none⟩ = (#[.int .i64 n, .int .i64 f, .int .i64 d, .int .i64 p, .int .i64 r, .int .i64 dr, .int .i64 o, .int .i64 sl, .int .i64 md, .int .i64 fr, .slice ad zs.length cap] : Array Value)[i]? := fun i => (hbox3 i).trans (hbox i)
    have CX := hidden (CS.out w3 HT3.out g hS3)
    clear hb hbox hsz HS HT2 CK hS3 hbox3
    go_wp2_with fail
    refine CX.out.mono ?_
    rintro e w4 ⟨rfl, hb⟩
    have HB4 := hidden (bthen HB3.out hb)
    clear hb
    go_wp2
    go_ret
    exact ⟨rfl, HB4.out⟩
end Go.Proofs.Ytkolhbacgoafcaa

/- The document's calls Quorum, Some, Count, Enough, Most and Least return what plain functions give, and make at most new memory; conditions: the table and the votes lie where they say, and lengths fit int. -/
namespace Go.Proofs.Ytkolhbacgoafcaa
open Go.ChangeShapes Go.WideShapes Go.ChangeAt Go.RowKit
set_option linter.unusedVariables false

theorem cntF_snoc (v : Int) (zs : List Int) (z : Int) : cntF v (zs ++ [z]) = cntF v zs + if (0 ≤ v ∧ v < 3) ∧ z = v then 1 else 0 := by
  unfold cntF
  by_cases h : 0 ≤ v ∧ v < 3
  · rw [if_pos h, if_pos h, cntL_snoc]
    by_cases h2 : z = v
    · rw [if_pos h2, if_pos ⟨h, h2⟩]; rfl
    · rw [if_neg h2, if_neg fun k => h2 k.2]; rfl
  · rw [if_neg h, if_neg h, if_neg fun k => h k.1]; rfl
set_option maxHeartbeats 2000000 in
theorem rTCount_any (v : Int) (ad : Option Addr) (len cap : Nat) (zs : List Int) (hlz : zs.length ≤ 9223372036854775807) (w : World) (hZ : kInt.Lies w.heap.size w (.slice ad len cap) zs) :
    Calls Try.prog 84 #[.int .i64 v, .slice ad len cap] w fun e w' => e = .returned (.int .i64 (cntF v zs)) ∧ w = w' := by
  obtain rfl := hZ.len
  go_enter Try.func84, Try.ntmps84
  go_wp2
  go_loop [5, 6] (fun c i => ∃ k : Nat, k ≤ zs.length ∧ c = .int .i64 (cntF v (zs.take k)) ∧ i = .int .i64 k) (fun _ i => zs.length - (intV i).toNat)
  case atStart => exact ⟨0, Nat.zero_le _, by rw [List.take_zero]; unfold cntF; split <;> rfl, rfl⟩
  case round =>
    obtain ⟨k, hk, rfl, rfl⟩ := hrel
    by_cases hlt : k < zs.length
    · obtain ⟨b, off, rfl, hbl, e0⟩ := kInt_at hZ k hlt
      have hsn := cntF_snoc v (zs.take k) zs[k]
      rw [← take_snocV zs hlt] at hsn
      have hle := cntF_bd v (zs.take k)
      rw [List.length_take, Nat.min_eq_left hk] at hle
      generalize zs[k] = z at e0 hsn
      generalize cntF v (zs.take k) = c at *
      have HS := hidden hsn
      have i1 : (0 : Int) ≤ (k : Int) := by omega
      have i2 : (k : Int) < (zs.length : Int) := by omega
      clear hsn hZ
      by_cases h1 : 0 ≤ v
      · have j1 : decide (0 ≤ v) = true := by simp [h1]
        by_cases h2 : v ≤ 2
        · have j2 : decide (v ≤ 2) = true := by simp [h2]
          by_cases h3 : z = v
          · subst h3
            have j3 : (z == z) = true := by simp
            have HS2 : Hid (_ = c + 1) := hidden (HS.out.trans (by rw [if_pos ⟨⟨h1, by omega⟩, rfl⟩]))
            go_wp2
            go_round
            case rel => exact ⟨k + 1, by omega, by rw [HS2.out], by go_num⟩
            case measure => simp [intV]; omega
          · have j3 : (z == v) = false := by simp [h3]
            have HS2 : Hid (_ = c) := hidden (HS.out.trans (by rw [if_neg fun k => h3 k.2]; omega))
            go_wp2
            go_round
            case rel => exact ⟨k + 1, by omega, by rw [HS2.out], by go_num⟩
            case measure => simp [intV]; omega
        · have j2 : decide (v ≤ 2) = false := by simp; omega
          have HS2 : Hid (_ = c) := hidden (HS.out.trans (by rw [if_neg fun k => h2 (by omega)]; omega))
          go_wp2
          go_round
          case rel => exact ⟨k + 1, by omega, by rw [HS2.out], by go_num⟩
          case measure => simp [intV]; omega
      · have j1 : decide (0 ≤ v) = false := by simp; omega
        have HS2 : Hid (_ = c) := hidden (HS.out.trans (by rw [if_neg fun k => h1 (by omega)]; omega))
        go_wp2
        go_round
        case rel => exact ⟨k + 1, by omega, by rw [HS2.out], by go_num⟩
        case measure => simp [intV]; omega
    · obtain rfl : k = zs.length := by omega
      rw [List.take_length]
      go_wp2
      go_ret
      exact ⟨rfl, rfl⟩

end Go.Proofs.Ytkolhbacgoafcaa
