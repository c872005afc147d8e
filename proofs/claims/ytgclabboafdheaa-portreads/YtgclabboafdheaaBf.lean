/- Several texts of one's own in one: what each proves, and its conditions, is said ahead of it. -/
import Derived.Test.YtgclabboafdheaaBe
import Derived.Test.YtgclabboafdheaaBc
import Derived.Maps.AppendAt
import Derived.Test.YtgclabboafdheaaBa
import Derived.Laws.Strings
import Derived.Test.YtgclabboafdheaaBb
import Derived.Deep.RegionHeld3
import Derived.Deep.RegionWith
import Derived.BigRegion
import Derived.Laws.StructEq

/- The document's Plain returns the number of the first rule that a configuration breaks, else 0, and makes at most new memory; conditions: the table lies where it says, and its length fits int. -/
namespace Go.Proofs.Ytgclabboafdheaa
open Go.ChangeShapes Go.WideShapes Go.ChangeAt Go.RowKit
set_option linter.unusedVariables false

/-- x is from a to b. -/
def inB (x a b : Int) : Bool := decide (a ≤ x ∧ x ≤ b)
theorem inB_yes {x a b : Int} (h1 : a ≤ x) (h2 : x ≤ b) : inB x a b = true := decide_eq_true ⟨h1, h2⟩
theorem inB_no {x a b : Int} (h : ¬ (a ≤ x ∧ x ≤ b)) : inB x a b = false := decide_eq_false h
theorem within_any (x a b : Int) (w : World) :
    Calls Try.prog 63 #[.int .i64 x, .int .i64 a, .int .i64 b] w fun e w' => e = .returned (.bool (inB x a b)) ∧ w' = w := by
  by_cases h : a ≤ x ∧ x ≤ b
  · exact (within_yes x a b w h.1 h.2).mono fun e w' ⟨he, hw⟩ => ⟨by rw [he]; exact ret_b (inB_yes h.1 h.2).symm, hw⟩
  · exact (within_no x a b w h).mono fun e w' ⟨he, hw⟩ => ⟨by rw [he]; exact ret_b (inB_no h).symm, hw⟩

set_option maxHeartbeats 1000000 in
theorem refPlain_0 (n f d p r dr o sl md fr : Int) (ad : Option Addr) (cap : Nat) (zs : List Int) (w : World)  (c0 : ¬ (4 ≤ n ∧ n ≤ 13)) :
    Calls Try.prog 48 #[.agg #[.int .i64 n, .int .i64 f, .int .i64 d, .int .i64 p, .int .i64 r, .int .i64 dr, .int .i64 o, .int .i64 sl, .int .i64 md, .int .i64 fr, .slice ad zs.length cap]] w fun e w' => e = .returned (.int .i64 (plainE n f d p r dr o sl md fr zs)) ∧ Below w.heap.size w w' := by
  have HP : Hid (plainE n f d p r dr o sl md fr zs = 7) := pl_0 c0
  have i0 : inB n 4 13 = false := inB_no c0
  clear c0
  go_enter Try.func48, Try.ntmps48
  go_wp2_with (go_at_call 63; refine (within_any _ _ _ _).mono ?_; rintro e w2 ⟨rfl, rfl⟩)
  go_ret
  exact ⟨ret_i HP.out.symm, ballc _ _⟩
set_option maxHeartbeats 1000000 in
theorem refPlain_1 (n f d p r dr o sl md fr : Int) (ad : Option Addr) (cap : Nat) (zs : List Int) (w : World) (c0 : 4 ≤ n ∧ n ≤ 13) (c1 : ¬ (0 ≤ f ∧ f ≤ 4)) :
    Calls Try.prog 48 #[.agg #[.int .i64 n, .int .i64 f, .int .i64 d, .int .i64 p, .int .i64 r, .int .i64 dr, .int .i64 o, .int .i64 sl, .int .i64 md, .int .i64 fr, .slice ad zs.length cap]] w fun e w' => e = .returned (.int .i64 (plainE n f d p r dr o sl md fr zs)) ∧ Below w.heap.size w w' := by
  have HP : Hid (plainE n f d p r dr o sl md fr zs = 7) := pl_1 c0 c1
  have i0 : inB n 4 13 = true := inB_yes c0.1 c0.2
  have i1 : inB f 0 4 = false := inB_no c1
  clear c0 c1
  go_enter Try.func48, Try.ntmps48
  go_wp2_with (go_at_call 63; refine (within_any _ _ _ _).mono ?_; rintro e w2 ⟨rfl, rfl⟩)
  go_ret
  exact ⟨ret_i HP.out.symm, ballc _ _⟩
set_option maxHeartbeats 1000000 in
theorem refPlain_2 (n f d p r dr o sl md fr : Int) (ad : Option Addr) (cap : Nat) (zs : List Int) (w : World) (c0 : 4 ≤ n ∧ n ≤ 13) (c1 : 0 ≤ f ∧ f ≤ 4) (c2 : ¬ (3 * f + 1 ≤ n)) :
    Calls Try.prog 48 #[.agg #[.int .i64 n, .int .i64 f, .int .i64 d, .int .i64 p, .int .i64 r, .int .i64 dr, .int .i64 o, .int .i64 sl, .int .i64 md, .int .i64 fr, .slice ad zs.length cap]] w fun e w' => e = .returned (.int .i64 (plainE n f d p r dr o sl md fr zs)) ∧ Below w.heap.size w w' := by
  have HP : Hid (plainE n f d p r dr o sl md fr zs = 7) := pl_2 c0 c1 c2
  have i0 : inB n 4 13 = true := inB_yes c0.1 c0.2
  have i1 : inB f 0 4 = true := inB_yes c1.1 c1.2
  have c2' : n ≤ 3 * f := by omega
  clear c0 c2
  go_enter Try.func48, Try.ntmps48
  go_wp2_with (go_at_call 63; refine (within_any _ _ _ _).mono ?_; rintro e w2 ⟨rfl, rfl⟩)
  go_ret
  exact ⟨ret_i HP.out.symm, ballc _ _⟩
set_option maxHeartbeats 1000000 in
theorem refPlain_3 (n f d p r dr o sl md fr : Int) (ad : Option Addr) (cap : Nat) (zs : List Int) (w : World) (c0 : 4 ≤ n ∧ n ≤ 13) (c1 : 0 ≤ f ∧ f ≤ 4) (c2 : 3 * f + 1 ≤ n) (c3 : ¬ (1 ≤ d ∧ d ≤ 4)) :
    Calls Try.prog 48 #[.agg #[.int .i64 n, .int .i64 f, .int .i64 d, .int .i64 p, .int .i64 r, .int .i64 dr, .int .i64 o, .int .i64 sl, .int .i64 md, .int .i64 fr, .slice ad zs.length cap]] w fun e w' => e = .returned (.int .i64 (plainE n f d p r dr o sl md fr zs)) ∧ Below w.heap.size w w' := by
  have HP : Hid (plainE n f d p r dr o sl md fr zs = 10) := pl_3 c0 c1 c2 c3
  have i0 : inB n 4 13 = true := inB_yes c0.1 c0.2
  have i1 : inB f 0 4 = true := inB_yes c1.1 c1.2
  have i3 : inB d 1 4 = false := inB_no c3
  have c2' : ¬ n ≤ 3 * f := by omega
  clear c0 c2 c3
  go_enter Try.func48, Try.ntmps48
  go_wp2_with (go_at_call 63; refine (within_any _ _ _ _).mono ?_; rintro e w2 ⟨rfl, rfl⟩)
  go_ret
  exact ⟨ret_i HP.out.symm, ballc _ _⟩
set_option maxHeartbeats 1000000 in
theorem refPlain_4 (n f d p r dr o sl md fr : Int) (ad : Option Addr) (cap : Nat) (zs : List Int) (w : World) (c0 : 4 ≤ n ∧ n ≤ 13) (c1 : 0 ≤ f ∧ f ≤ 4) (c2 : 3 * f + 1 ≤ n) (c3 : 1 ≤ d ∧ d ≤ 4) (c4 : ¬ (6 * ((f + 1) * d) + 1 ≤ p ∧ p ≤ 400)) :
    Calls Try.prog 48 #[.agg #[.int .i64 n, .int .i64 f, .int .i64 d, .int .i64 p, .int .i64 r, .int .i64 dr, .int .i64 o, .int .i64 sl, .int .i64 md, .int .i64 fr, .slice ad zs.length cap]] w fun e w' => e = .returned (.int .i64 (plainE n f d p r dr o sl md fr zs)) ∧ Below w.heap.size w w' := by
  have HP : Hid (plainE n f d p r dr o sl md fr zs = 8) := pl_4 c0 c1 c2 c3 c4
  have hm0 : 0 ≤ 6 * (f + 1) * d := Int.mul_nonneg (by omega) (by omega)
  have hm1 : 6 * (f + 1) * d ≤ 30 * 4 := Int.mul_le_mul (by omega) c3.2 (by omega) (by omega)
  have hm2 : 6 * (f + 1) * d = 6 * ((f + 1) * d) := Int.mul_assoc _ _ _
  have i0 : inB n 4 13 = true := inB_yes c0.1 c0.2
  have i1 : inB f 0 4 = true := inB_yes c1.1 c1.2
  have i3 : inB d 1 4 = true := inB_yes c3.1 c3.2
  have i4 : inB p (6 * (f + 1) * d + 1) 400 = false := inB_no (by omega)
  have c2' : ¬ n ≤ 3 * f := by omega
  clear hm2
  clear c0 c2 c4
  go_enter Try.func48, Try.ntmps48
  go_wp2_with (go_at_call 63; refine (within_any _ _ _ _).mono ?_; rintro e w2 ⟨rfl, rfl⟩)
  go_ret
  exact ⟨ret_i HP.out.symm, ballc _ _⟩
set_option maxHeartbeats 1000000 in
theorem refPlain_5 (n f d p r dr o sl md fr : Int) (ad : Option Addr) (cap : Nat) (zs : List Int) (w : World) (c0 : 4 ≤ n ∧ n ≤ 13) (c1 : 0 ≤ f ∧ f ≤ 4) (c2 : 3 * f + 1 ≤ n) (c3 : 1 ≤ d ∧ d ≤ 4) (c4 : 6 * ((f + 1) * d) + 1 ≤ p ∧ p ≤ 400) (c5 : ¬ (1 ≤ r ∧ r ≤ 64)) :
    Calls Try.prog 48 #[.agg #[.int .i64 n, .int .i64 f, .int .i64 d, .int .i64 p, .int .i64 r, .int .i64 dr, .int .i64 o, .int .i64 sl, .int .i64 md, .int .i64 fr, .slice ad zs.length cap]] w fun e w' => e = .returned (.int .i64 (plainE n f d p r dr o sl md fr zs)) ∧ Below w.heap.size w w' := by
  have HP : Hid (plainE n f d p r dr o sl md fr zs = 8) := pl_5 c0 c1 c2 c3 c4 c5
  have hm0 : 0 ≤ 6 * (f + 1) * d := Int.mul_nonneg (by omega) (by omega)
  have hm1 : 6 * (f + 1) * d ≤ 30 * 4 := Int.mul_le_mul (by omega) c3.2 (by omega) (by omega)
  have hm2 : 6 * (f + 1) * d = 6 * ((f + 1) * d) := Int.mul_assoc _ _ _
  have i0 : inB n 4 13 = true := inB_yes c0.1 c0.2
  have i1 : inB f 0 4 = true := inB_yes c1.1 c1.2
  have i3 : inB d 1 4 = true := inB_yes c3.1 c3.2
  have i4 : inB p (6 * (f + 1) * d + 1) 400 = true := inB_yes (by omega) c4.2
  have i5 : inB r 1 64 = false := inB_no c5
  have c2' : ¬ n ≤ 3 * f := by omega
  clear hm2
  clear c0 c2 c4 c5
  go_enter Try.func48, Try.ntmps48
  go_wp2_with (go_at_call 63; refine (within_any _ _ _ _).mono ?_; rintro e w2 ⟨rfl, rfl⟩)
  go_ret
  exact ⟨ret_i HP.out.symm, ballc _ _⟩
set_option maxHeartbeats 1000000 in
theorem refPlain_6 (n f d p r dr o sl md fr : Int) (ad : Option Addr) (cap : Nat) (zs : List Int) (w : World) (c0 : 4 ≤ n ∧ n ≤ 13) (c1 : 0 ≤ f ∧ f ≤ 4) (c2 : 3 * f + 1 ≤ n) (c3 : 1 ≤ d ∧ d ≤ 4) (c4 : 6 * ((f + 1) * d) + 1 ≤ p ∧ p ≤ 400) (c5 : 1 ≤ r ∧ r ≤ 64) (c6 : ¬ (0 ≤ dr ∧ dr ≤ r - 1)) :
    Calls Try.prog 48 #[.agg #[.int .i64 n, .int .i64 f, .int .i64 d, .int .i64 p, .int .i64 r, .int .i64 dr, .int .i64 o, .int .i64 sl, .int .i64 md, .int .i64 fr, .slice ad zs.length cap]] w fun e w' => e = .returned (.int .i64 (plainE n f d p r dr o sl md fr zs)) ∧ Below w.heap.size w w' := by
  have HP : Hid (plainE n f d p r dr o sl md fr zs = 8) := pl_6 c0 c1 c2 c3 c4 c5 c6
  have hm0 : 0 ≤ 6 * (f + 1) * d := Int.mul_nonneg (by omega) (by omega)
  have hm1 : 6 * (f + 1) * d ≤ 30 * 4 := Int.mul_le_mul (by omega) c3.2 (by omega) (by omega)
  have hm2 : 6 * (f + 1) * d = 6 * ((f + 1) * d) := Int.mul_assoc _ _ _
  have i0 : inB n 4 13 = true := inB_yes c0.1 c0.2
  have i1 : inB f 0 4 = true := inB_yes c1.1 c1.2
  have i3 : inB d 1 4 = true := inB_yes c3.1 c3.2
  have i4 : inB p (6 * (f + 1) * d + 1) 400 = true := inB_yes (by omega) c4.2
  have i5 : inB r 1 64 = true := inB_yes c5.1 c5.2
  have i6 : inB dr 0 (r - 1) = false := inB_no c6
  have c2' : ¬ n ≤ 3 * f := by omega
  clear hm2
  clear c0 c2 c4 c6
  go_enter Try.func48, Try.ntmps48
  go_wp2_with (go_at_call 63; refine (within_any _ _ _ _).mono ?_; rintro e w2 ⟨rfl, rfl⟩)
  go_ret
  exact ⟨ret_i HP.out.symm, ballc _ _⟩
set_option maxHeartbeats 1000000 in
theorem refPlain_7 (n f d p r dr o sl md fr : Int) (ad : Option Addr) (cap : Nat) (zs : List Int) (w : World) (c0 : 4 ≤ n ∧ n ≤ 13) (c1 : 0 ≤ f ∧ f ≤ 4) (c2 : 3 * f + 1 ≤ n) (c3 : 1 ≤ d ∧ d ≤ 4) (c4 : 6 * ((f + 1) * d) + 1 ≤ p ∧ p ≤ 400) (c5 : 1 ≤ r ∧ r ≤ 64) (c6 : 0 ≤ dr ∧ dr ≤ r - 1) (c7 : ¬ (0 ≤ o ∧ o ≤ 30000)) :
    Calls Try.prog 48 #[.agg #[.int .i64 n, .int .i64 f, .int .i64 d, .int .i64 p, .int .i64 r, .int .i64 dr, .int .i64 o, .int .i64 sl, .int .i64 md, .int .i64 fr, .slice ad zs.length cap]] w fun e w' => e = .returned (.int .i64 (plainE n f d p r dr o sl md fr zs)) ∧ Below w.heap.size w w' := by
  have HP : Hid (plainE n f d p r dr o sl md fr zs = 8) := pl_7 c0 c1 c2 c3 c4 c5 c6 c7
  have hm0 : 0 ≤ 6 * (f + 1) * d := Int.mul_nonneg (by omega) (by omega)
  have hm1 : 6 * (f + 1) * d ≤ 30 * 4 := Int.mul_le_mul (by omega) c3.2 (by omega) (by omega)
  have hm2 : 6 * (f + 1) * d = 6 * ((f + 1) * d) := Int.mul_assoc _ _ _
  have i0 : inB n 4 13 = true := inB_yes c0.1 c0.2
  have i1 : inB f 0 4 = true := inB_yes c1.1 c1.2
  have i3 : inB d 1 4 = true := inB_yes c3.1 c3.2
  have i4 : inB p (6 * (f + 1) * d + 1) 400 = true := inB_yes (by omega) c4.2
  have i5 : inB r 1 64 = true := inB_yes c5.1 c5.2
  have i6 : inB dr 0 (r - 1) = true := inB_yes c6.1 c6.2
  have i7 : inB o 0 30000 = false := inB_no c7
  have c2' : ¬ n ≤ 3 * f := by omega
  clear hm2
  clear c0 c2 c4 c6 c7
  go_enter Try.func48, Try.ntmps48
  go_wp2_with (go_at_call 63; refine (within_any _ _ _ _).mono ?_; rintro e w2 ⟨rfl, rfl⟩)
  go_ret
  exact ⟨ret_i HP.out.symm, ballc _ _⟩
set_option maxHeartbeats 1000000 in
theorem refPlain_8 (n f d p r dr o sl md fr : Int) (ad : Option Addr) (cap : Nat) (zs : List Int) (w : World) (c0 : 4 ≤ n ∧ n ≤ 13) (c1 : 0 ≤ f ∧ f ≤ 4) (c2 : 3 * f + 1 ≤ n) (c3 : 1 ≤ d ∧ d ≤ 4) (c4 : 6 * ((f + 1) * d) + 1 ≤ p ∧ p ≤ 400) (c5 : 1 ≤ r ∧ r ≤ 64) (c6 : 0 ≤ dr ∧ dr ≤ r - 1) (c7 : 0 ≤ o ∧ o ≤ 30000) (c8 : ¬ (1 ≤ sl ∧ sl ≤ 30000)) :
    Calls Try.prog 48 #[.agg #[.int .i64 n, .int .i64 f, .int .i64 d, .int .i64 p, .int .i64 r, .int .i64 dr, .int .i64 o, .int .i64 sl, .int .i64 md, .int .i64 fr, .slice ad zs.length cap]] w fun e w' => e = .returned (.int .i64 (plainE n f d p r dr o sl md fr zs)) ∧ Below w.heap.size w w' := by
  have HP : Hid (plainE n f d p r dr o sl md fr zs = 8) := pl_8 c0 c1 c2 c3 c4 c5 c6 c7 c8
  have hm0 : 0 ≤ 6 * (f + 1) * d := Int.mul_nonneg (by omega) (by omega)
  have hm1 : 6 * (f + 1) * d ≤ 30 * 4 := Int.mul_le_mul (by omega) c3.2 (by omega) (by omega)
  have hm2 : 6 * (f + 1) * d = 6 * ((f + 1) * d) := Int.mul_assoc _ _ _
  have i0 : inB n 4 13 = true := inB_yes c0.1 c0.2
  have i1 : inB f 0 4 = true := inB_yes c1.1 c1.2
  have i3 : inB d 1 4 = true := inB_yes c3.1 c3.2
  have i4 : inB p (6 * (f + 1) * d + 1) 400 = true := inB_yes (by omega) c4.2
  have i5 : inB r 1 64 = true := inB_yes c5.1 c5.2
  have i6 : inB dr 0 (r - 1) = true := inB_yes c6.1 c6.2
  have i7 : inB o 0 30000 = true := inB_yes c7.1 c7.2
  have i8 : inB sl 1 30000 = false := inB_no c8
  have c2' : ¬ n ≤ 3 * f := by omega
  clear hm2
  clear c0 c2 c4 c6 c7 c8
  go_enter Try.func48, Try.ntmps48
  go_wp2_with (go_at_call 63; refine (within_any _ _ _ _).mono ?_; rintro e w2 ⟨rfl, rfl⟩)
  go_ret
  exact ⟨ret_i HP.out.symm, ballc _ _⟩
set_option maxHeartbeats 1000000 in
theorem refPlain_9 (n f d p r dr o sl md fr : Int) (ad : Option Addr) (cap : Nat) (zs : List Int) (w : World) (c0 : 4 ≤ n ∧ n ≤ 13) (c1 : 0 ≤ f ∧ f ≤ 4) (c2 : 3 * f + 1 ≤ n) (c3 : 1 ≤ d ∧ d ≤ 4) (c4 : 6 * ((f + 1) * d) + 1 ≤ p ∧ p ≤ 400) (c5 : 1 ≤ r ∧ r ≤ 64) (c6 : 0 ≤ dr ∧ dr ≤ r - 1) (c7 : 0 ≤ o ∧ o ≤ 30000) (c8 : 1 ≤ sl ∧ sl ≤ 30000) (c9 : ¬ (2 ≤ md ∧ md ≤ 250)) :
    Calls Try.prog 48 #[.agg #[.int .i64 n, .int .i64 f, .int .i64 d, .int .i64 p, .int .i64 r, .int .i64 dr, .int .i64 o, .int .i64 sl, .int .i64 md, .int .i64 fr, .slice ad zs.length cap]] w fun e w' => e = .returned (.int .i64 (plainE n f d p r dr o sl md fr zs)) ∧ Below w.heap.size w w' := by
  have HP : Hid (plainE n f d p r dr o sl md fr zs = 8) := pl_9 c0 c1 c2 c3 c4 c5 c6 c7 c8 c9
  have hm0 : 0 ≤ 6 * (f + 1) * d := Int.mul_nonneg (by omega) (by omega)
  have hm1 : 6 * (f + 1) * d ≤ 30 * 4 := Int.mul_le_mul (by omega) c3.2 (by omega) (by omega)
  have hm2 : 6 * (f + 1) * d = 6 * ((f + 1) * d) := Int.mul_assoc _ _ _
  have i0 : inB n 4 13 = true := inB_yes c0.1 c0.2
  have i1 : inB f 0 4 = true := inB_yes c1.1 c1.2
  have i3 : inB d 1 4 = true := inB_yes c3.1 c3.2
  have i4 : inB p (6 * (f + 1) * d + 1) 400 = true := inB_yes (by omega) c4.2
  have i5 : inB r 1 64 = true := inB_yes c5.1 c5.2
  have i6 : inB dr 0 (r - 1) = true := inB_yes c6.1 c6.2
  have i7 : inB o 0 30000 = true := inB_yes c7.1 c7.2
  have i8 : inB sl 1 30000 = true := inB_yes c8.1 c8.2
  have i9 : inB md 2 250 = false := inB_no c9
  have c2' : ¬ n ≤ 3 * f := by omega
  clear hm2
  clear c0 c2 c4 c6 c7 c8 c9
  go_enter Try.func48, Try.ntmps48
  go_wp2_with (go_at_call 63; refine (within_any _ _ _ _).mono ?_; rintro e w2 ⟨rfl, rfl⟩)
  go_ret
  exact ⟨ret_i HP.out.symm, ballc _ _⟩
set_option maxHeartbeats 1000000 in
theorem refPlain_10 (n f d p r dr o sl md fr : Int) (ad : Option Addr) (cap : Nat) (zs : List Int) (w : World) (c0 : 4 ≤ n ∧ n ≤ 13) (c1 : 0 ≤ f ∧ f ≤ 4) (c2 : 3 * f + 1 ≤ n) (c3 : 1 ≤ d ∧ d ≤ 4) (c4 : 6 * ((f + 1) * d) + 1 ≤ p ∧ p ≤ 400) (c5 : 1 ≤ r ∧ r ≤ 64) (c6 : 0 ≤ dr ∧ dr ≤ r - 1) (c7 : 0 ≤ o ∧ o ≤ 30000) (c8 : 1 ≤ sl ∧ sl ≤ 30000) (c9 : 2 ≤ md ∧ md ≤ 250) (c10 : ¬ (1 ≤ fr ∧ fr ≤ 100)) :
    Calls Try.prog 48 #[.agg #[.int .i64 n, .int .i64 f, .int .i64 d, .int .i64 p, .int .i64 r, .int .i64 dr, .int .i64 o, .int .i64 sl, .int .i64 md, .int .i64 fr, .slice ad zs.length cap]] w fun e w' => e = .returned (.int .i64 (plainE n f d p r dr o sl md fr zs)) ∧ Below w.heap.size w w' := by
  have HP : Hid (plainE n f d p r dr o sl md fr zs = 8) := pl_10 c0 c1 c2 c3 c4 c5 c6 c7 c8 c9 c10
  have hm0 : 0 ≤ 6 * (f + 1) * d := Int.mul_nonneg (by omega) (by omega)
  have hm1 : 6 * (f + 1) * d ≤ 30 * 4 := Int.mul_le_mul (by omega) c3.2 (by omega) (by omega)
  have hm2 : 6 * (f + 1) * d = 6 * ((f + 1) * d) := Int.mul_assoc _ _ _
  have i0 : inB n 4 13 = true := inB_yes c0.1 c0.2
  have i1 : inB f 0 4 = true := inB_yes c1.1 c1.2
  have i3 : inB d 1 4 = true := inB_yes c3.1 c3.2
  have i4 : inB p (6 * (f + 1) * d + 1) 400 = true := inB_yes (by omega) c4.2
  have i5 : inB r 1 64 = true := inB_yes c5.1 c5.2
  have i6 : inB dr 0 (r - 1) = true := inB_yes c6.1 c6.2
  have i7 : inB o 0 30000 = true := inB_yes c7.1 c7.2
  have i8 : inB sl 1 30000 = true := inB_yes c8.1 c8.2
  have i9 : inB md 2 250 = true := inB_yes c9.1 c9.2
  have i10 : inB fr 1 100 = false := inB_no c10
  have c2' : ¬ n ≤ 3 * f := by omega
  clear hm2
  clear c0 c2 c4 c6 c7 c8 c9 c10
  go_enter Try.func48, Try.ntmps48
  go_wp2_with (go_at_call 63; refine (within_any _ _ _ _).mono ?_; rintro e w2 ⟨rfl, rfl⟩)
  go_ret
  exact ⟨ret_i HP.out.symm, ballc _ _⟩
set_option maxHeartbeats 1000000 in
theorem refPlain_11 (n f d p r dr o sl md fr : Int) (ad : Option Addr) (cap : Nat) (zs : List Int) (w : World) (c0 : 4 ≤ n ∧ n ≤ 13) (c1 : 0 ≤ f ∧ f ≤ 4) (c2 : 3 * f + 1 ≤ n) (c3 : 1 ≤ d ∧ d ≤ 4) (c4 : 6 * ((f + 1) * d) + 1 ≤ p ∧ p ≤ 400) (c5 : 1 ≤ r ∧ r ≤ 64) (c6 : 0 ≤ dr ∧ dr ≤ r - 1) (c7 : 0 ≤ o ∧ o ≤ 30000) (c8 : 1 ≤ sl ∧ sl ≤ 30000) (c9 : 2 ≤ md ∧ md ≤ 250) (c10 : 1 ≤ fr ∧ fr ≤ 100) (c11 : ¬ (1 ≤ (zs.length : Int) ∧ (zs.length : Int) ≤ 32)) :
    Calls Try.prog 48 #[.agg #[.int .i64 n, .int .i64 f, .int .i64 d, .int .i64 p, .int .i64 r, .int .i64 dr, .int .i64 o, .int .i64 sl, .int .i64 md, .int .i64 fr, .slice ad zs.length cap]] w fun e w' => e = .returned (.int .i64 (plainE n f d p r dr o sl md fr zs)) ∧ Below w.heap.size w w' := by
  have HP : Hid (plainE n f d p r dr o sl md fr zs = 11) := pl_11 c0 c1 c2 c3 c4 c5 c6 c7 c8 c9 c10 c11
  have hm0 : 0 ≤ 6 * (f + 1) * d := Int.mul_nonneg (by omega) (by omega)
  have hm1 : 6 * (f + 1) * d ≤ 30 * 4 := Int.mul_le_mul (by omega) c3.2 (by omega) (by omega)
  have hm2 : 6 * (f + 1) * d = 6 * ((f + 1) * d) := Int.mul_assoc _ _ _
  have i0 : inB n 4 13 = true := inB_yes c0.1 c0.2
  have i1 : inB f 0 4 = true := inB_yes c1.1 c1.2
  have i3 : inB d 1 4 = true := inB_yes c3.1 c3.2
  have i4 : inB p (6 * (f + 1) * d + 1) 400 = true := inB_yes (by omega) c4.2
  have i5 : inB r 1 64 = true := inB_yes c5.1 c5.2
  have i6 : inB dr 0 (r - 1) = true := inB_yes c6.1 c6.2
  have i7 : inB o 0 30000 = true := inB_yes c7.1 c7.2
  have i8 : inB sl 1 30000 = true := inB_yes c8.1 c8.2
  have i9 : inB md 2 250 = true := inB_yes c9.1 c9.2
  have i10 : inB fr 1 100 = true := inB_yes c10.1 c10.2
  have i11 : inB zs.length 1 32 = false := inB_no c11
  have c2' : ¬ n ≤ 3 * f := by omega
  clear hm2
  clear c0 c2 c4 c6 c7 c8 c9 c10 c11
  go_enter Try.func48, Try.ntmps48
  go_wp2_with (go_at_call 63; refine (within_any _ _ _ _).mono ?_; rintro e w2 ⟨rfl, rfl⟩)
  go_ret
  exact ⟨ret_i HP.out.symm, ballc _ _⟩
set_option maxHeartbeats 1000000 in
theorem refPlain_12 (n f d p r dr o sl md fr : Int) (ad : Option Addr) (cap : Nat) (zs : List Int) (w : World) (ob : Bool) (hT : Tab w ad zs) (c0 : 4 ≤ n ∧ n ≤ 13) (c1 : 0 ≤ f ∧ f ≤ 4) (c2 : 3 * f + 1 ≤ n) (c3 : 1 ≤ d ∧ d ≤ 4) (c4 : 6 * ((f + 1) * d) + 1 ≤ p ∧ p ≤ 400) (c5 : 1 ≤ r ∧ r ≤ 64) (c6 : 0 ≤ dr ∧ dr ≤ r - 1) (c7 : 0 ≤ o ∧ o ≤ 30000) (c8 : 1 ≤ sl ∧ sl ≤ 30000) (c9 : 2 ≤ md ∧ md ≤ 250) (c10 : 1 ≤ fr ∧ fr ≤ 100) (c11 : 1 ≤ (zs.length : Int) ∧ (zs.length : Int) ≤ 32) (hob : ownsB n zs = ob) :
    Calls Try.prog 48 #[.agg #[.int .i64 n, .int .i64 f, .int .i64 d, .int .i64 p, .int .i64 r, .int .i64 dr, .int .i64 o, .int .i64 sl, .int .i64 md, .int .i64 fr, .slice ad zs.length cap]] w fun e w' => e = .returned (.int .i64 (plainE n f d p r dr o sl md fr zs)) ∧ Below w.heap.size w w' := by
  have HP : Hid (plainE n f d p r dr o sl md fr zs = if ob = true then 0 else 11) := by rw [← hob]; exact pl_12 c0 c1 c2 c3 c4 c5 c6 c7 c8 c9 c10 c11
  have hm0 : 0 ≤ 6 * (f + 1) * d := Int.mul_nonneg (by omega) (by omega)
  have hm1 : 6 * (f + 1) * d ≤ 30 * 4 := Int.mul_le_mul (by omega) c3.2 (by omega) (by omega)
  have hm2 : 6 * (f + 1) * d = 6 * ((f + 1) * d) := Int.mul_assoc _ _ _
  have i0 : inB n 4 13 = true := inB_yes c0.1 c0.2
  have i1 : inB f 0 4 = true := inB_yes c1.1 c1.2
  have i3 : inB d 1 4 = true := inB_yes c3.1 c3.2
  have i4 : inB p (6 * (f + 1) * d + 1) 400 = true := inB_yes (by omega) c4.2
  have i5 : inB r 1 64 = true := inB_yes c5.1 c5.2
  have i6 : inB dr 0 (r - 1) = true := inB_yes c6.1 c6.2
  have i7 : inB o 0 30000 = true := inB_yes c7.1 c7.2
  have i8 : inB sl 1 30000 = true := inB_yes c8.1 c8.2
  have i9 : inB md 2 250 = true := inB_yes c9.1 c9.2
  have i10 : inB fr 1 100 = true := inB_yes c10.1 c10.2
  have i11 : inB zs.length 1 32 = true := inB_yes c11.1 c11.2
  have c2' : ¬ n ≤ 3 * f := by omega
  have HQ : Hid (Calls Try.prog 64 #[.agg #[.int .i64 n, .int .i64 f, .int .i64 d, .int .i64 p, .int .i64 r, .int .i64 dr, .int .i64 o, .int .i64 sl, .int .i64 md, .int .i64 fr, .slice ad zs.length cap]] (w.alloc (.cells #[.int .i64 n, .int .i64 f, .int .i64 d, .int .i64 p, .int .i64 r, .int .i64 dr, .int .i64 o, .int .i64 sl, .int .i64 md, .int .i64 fr, .slice ad zs.length cap] 24)) fun e w' => e = .returned (.bool ob) ∧ Below (w.alloc (.cells #[.int .i64 n, .int .i64 f, .int .i64 d, .int .i64 p, .int .i64 r, .int .i64 dr, .int .i64 o, .int .i64 sl, .int .i64 md, .int .i64 fr, .slice ad zs.length cap] 24)).heap.size (w.alloc (.cells #[.int .i64 n, .int .i64 f, .int .i64 d, .int .i64 p, .int .i64 r, .int .i64 dr, .int .i64 o, .int .i64 sl, .int .i64 md, .int .i64 fr, .slice ad zs.length cap] 24)) w') := by
    rw [← hob]; exact owned_any n f d p r dr o sl md fr ad cap zs _ c0.1 c0.2 (by omega) (hT.below (ballc _ _))
  clear hm2 hT hob c0 c2 c4 c6 c7 c8 c9 c10 c11
  cases ob
  all_goals
    go_enter Try.func48, Try.ntmps48
    go_wp2_with (first | (go_at_call 63; refine (within_any _ _ _ _).mono ?_; rintro e w2 ⟨rfl, rfl⟩) | (go_at_call 64; refine HQ.out.mono ?_; rintro e w2 ⟨rfl, hb2⟩; have HB2 : Hid (Below w.heap.size w w2) := bthen (ballc w _) hb2; clear hb2))
    go_ret
    exact ⟨ret_i (by rw [HP.out]; rfl), HB2.out⟩
theorem refPlain_any (n f d p r dr o sl md fr : Int) (ad : Option Addr) (cap : Nat) (zs : List Int) (w : World) (hl : zs.length ≤ 9223372036854775807) (hT : Tab w ad zs) :
    Calls Try.prog 48 #[.agg #[.int .i64 n, .int .i64 f, .int .i64 d, .int .i64 p, .int .i64 r, .int .i64 dr, .int .i64 o, .int .i64 sl, .int .i64 md, .int .i64 fr, .slice ad zs.length cap]] w fun e w' => e = .returned (.int .i64 (plainE n f d p r dr o sl md fr zs)) ∧ Below w.heap.size w w' := by
  by_cases c0 : 4 ≤ n ∧ n ≤ 13
  case neg => exact refPlain_0 n f d p r dr o sl md fr ad cap zs w c0
  by_cases c1 : 0 ≤ f ∧ f ≤ 4
  case neg => exact refPlain_1 n f d p r dr o sl md fr ad cap zs w c0 c1
  by_cases c2 : 3 * f + 1 ≤ n
  case neg => exact refPlain_2 n f d p r dr o sl md fr ad cap zs w c0 c1 c2
  by_cases c3 : 1 ≤ d ∧ d ≤ 4
  case neg => exact refPlain_3 n f d p r dr o sl md fr ad cap zs w c0 c1 c2 c3
  by_cases c4 : 6 * ((f + 1) * d) + 1 ≤ p ∧ p ≤ 400
  case neg => exact refPlain_4 n f d p r dr o sl md fr ad cap zs w c0 c1 c2 c3 c4
  by_cases c5 : 1 ≤ r ∧ r ≤ 64
  case neg => exact refPlain_5 n f d p r dr o sl md fr ad cap zs w c0 c1 c2 c3 c4 c5
  by_cases c6 : 0 ≤ dr ∧ dr ≤ r - 1
  case neg => exact refPlain_6 n f d p r dr o sl md fr ad cap zs w c0 c1 c2 c3 c4 c5 c6
  by_cases c7 : 0 ≤ o ∧ o ≤ 30000
  case neg => exact refPlain_7 n f d p r dr o sl md fr ad cap zs w c0 c1 c2 c3 c4 c5 c6 c7
  by_cases c8 : 1 ≤ sl ∧ sl ≤ 30000
  case neg => exact refPlain_8 n f d p r dr o sl md fr ad cap zs w c0 c1 c2 c3 c4 c5 c6 c7 c8
  by_cases c9 : 2 ≤ md ∧ md ≤ 250
  case neg => exact refPlain_9 n f d p r dr o sl md fr ad cap zs w c0 c1 c2 c3 c4 c5 c6 c7 c8 c9
  by_cases c10 : 1 ≤ fr ∧ fr ≤ 100
  case neg => exact refPlain_10 n f d p r dr o sl md fr ad cap zs w c0 c1 c2 c3 c4 c5 c6 c7 c8 c9 c10
  by_cases c11 : 1 ≤ (zs.length : Int) ∧ (zs.length : Int) ≤ 32
  case neg => exact refPlain_11 n f d p r dr o sl md fr ad cap zs w c0 c1 c2 c3 c4 c5 c6 c7 c8 c9 c10 c11
  exact refPlain_12 n f d p r dr o sl md fr ad cap zs w _ hT c0 c1 c2 c3 c4 c5 c6 c7 c8 c9 c10 c11 rfl
end Go.Proofs.Ytgclabboafdheaa

/- The document's calls Blank and copied of layer 26 return what plain functions give, and make at most new memory; conditions: the table and the row lie where they say, lengths fit int. -/
namespace Go.Proofs.Ytgclabboafdheaa
open Go.ChangeShapes Go.WideShapes Go.ChangeAt Go.RowKit
set_option linter.unusedVariables false
attribute [local go_sem] cell_rg

/-- A row of ports that a call appended to, or none. -/
def DRow (B : Nat) (W : World) (v : Value) (L : List Prt) : Prop := (L = [] ∧ v = .slice none 0 0) ∨ ∃ (g cap : Nat) (T : List Value), v = .slice (some ⟨g, 0, none⟩) L.length cap ∧ L.length ≤ cap ∧ cap ≤ maxLen ∧ B ≤ g ∧ W.heap[g]? = some (.cells (kPrt.flat L ++ T).toArray 60 (0, 0))
theorem DRow.of_own {B : Nat} {W : World} {v : Value} {L : List Prt} (h : W.ownsRow B 60 3 v L.length (kPrt.flat L)) : DRow B W v L := by
  obtain ⟨_, ⟨rfl, h0⟩ | ⟨g, cap, cur, rfl, hb, hg, h1, h2, h3, h4⟩⟩ := h
  · exact .inl ⟨List.length_eq_zero_iff.1 h0, rfl⟩
  · refine .inr ⟨g, cap, cur.toList.drop (L.length * 3), rfl, h1, h2, hb, ?_⟩
    rw [hg, ← h4, List.take_append_drop]
theorem DRow.later {B : Nat} {W W' : World} {v : Value} {L : List Prt} (h : DRow B W v L) (hb : Below W.heap.size W W') : DRow B W' v L := by
  rcases h with h | ⟨g, cap, T, h1, h2, h3, h4, h5⟩
  · exact .inl h
  · exact .inr ⟨g, cap, T, h1, h2, h3, h4, blk_later h5 hb⟩
theorem DRow.low {B C : Nat} {W : World} {v : Value} {L : List Prt} (h : DRow B W v L) (hc : C ≤ B) : DRow C W v L := by
  rcases h with h | ⟨g, cap, T, h1, h2, h3, h4, h5⟩
  · exact .inl h
  · exact .inr ⟨g, cap, T, h1, h2, h3, Nat.le_trans hc h4, h5⟩
theorem DRow.len {B : Nat} {W : World} {v : Value} {L : List Prt} (h : DRow B W v L) : ∃ a cap, v = .slice a L.length cap := by
  rcases h with ⟨rfl, rfl⟩ | ⟨g, cap, T, rfl, _⟩
  · exact ⟨_, _, rfl⟩
  · exact ⟨_, _, rfl⟩
theorem DRow.lies {B : Nat} {W : World} {v : Value} {L : List Prt} (h : DRow B W v L) : kPrt.Lies W.heap.size W v L := by
  rcases h with ⟨rfl, rfl⟩ | ⟨g, cap, T, rfl, h2, h3, _, h5⟩
  · exact Kind.Lies.nil _ _
  · refine ⟨_, cap, rfl, h2, h3, fun h => (by cases h), fun hj => ⟨g, 0, rfl, blk_lt h5, fun j u hu => ?_⟩⟩
    rw [blk_cell h5, Nat.zero_add, List.getElem?_toArray, List.getElem?_append_left (List.getElem?_eq_some_iff.1 hu).1]
    exact hu
set_option maxRecDepth 100000 in
set_option maxHeartbeats 4000000 in
theorem r26Blank_any (n f d p r dr o sl md fr : Int) (ad : Option Addr) (cap : Nat) (zs : List Int) (w : World) (hl : zs.length ≤ 9223372036854775807) (hT : Tab w ad zs) :
    Calls Try.prog 28 #[.agg #[.int .i64 n, .int .i64 f, .int .i64 d, .int .i64 p, .int .i64 r, .int .i64 dr, .int .i64 o, .int .i64 sl, .int .i64 md, .int .i64 fr, .slice ad zs.length cap]] w fun e w' => ∃ v, e = .returned v ∧ DRow w.heap.size w' v (lstP (plainE n f d p r dr o sl md fr zs) n.toNat fr []) ∧ Below w.heap.size w w' := by
  have HB0 := hidden (ballc w (.cells #[.int .i64 n, .int .i64 f, .int .i64 d, .int .i64 p, .int .i64 r, .int .i64 dr, .int .i64 o, .int .i64 sl, .int .i64 md, .int .i64 fr, .slice ad zs.length cap] 24))
  have HK := hidden (blk_nw w #[.int .i64 n, .int .i64 f, .int .i64 d, .int .i64 p, .int .i64 r, .int .i64 dr, .int .i64 o, .int .i64 sl, .int .i64 md, .int .i64 fr, .slice ad zs.length cap] 24)
  have CP := hidden (refPlain_any n f d p r dr o sl md fr ad cap zs (w.alloc (.cells #[.int .i64 n, .int .i64 f, .int .i64 d, .int .i64 p, .int .i64 r, .int .i64 dr, .int .i64 o, .int .i64 sl, .int .i64 md, .int .i64 fr, .slice ad zs.length cap] 24)) hl (hT.below HB0.out))
  obtain ⟨i0, hi, hz0, hz1, hz2⟩ := info_of infoPrt
  clear hT
  by_cases hE : plainE n f d p r dr o sl md fr zs = 0
  case neg =>
    have HL : Hid (DRow w.heap.size w (.slice none 0 0) (lstP (plainE n f d p r dr o sl md fr zs) n.toNat fr [])) := by
      show DRow _ _ _ _
      rw [lstP_err hE]
      exact .inl ⟨rfl, rfl⟩
    generalize lstP (plainE n f d p r dr o sl md fr zs) n.toNat fr [] = L at *
    have e0 : (plainE n f d p r dr o sl md fr zs != 0) = true := bne_iff_ne.2 hE
    generalize plainE n f d p r dr o sl md fr zs = E at *
    clear hE
    go_enter Try.func28, Try.ntmps28
    go_wp2_with fail
    refine CP.out.mono ?_
    rintro e w2 ⟨rfl, hb2⟩
    have HB2 := hidden (bthen HB0.out hb2)
    clear hb2
    go_wp2
    go_ret
    exact ⟨_, rfl, HL.out.later HB2.out, HB2.out⟩
  have hbd := plainE_ok hE
  obtain ⟨N, hN⟩ := Int.eq_ofNat_of_zero_le (show 0 ≤ n by omega)
  have hNN : n.toNat = N := by omega
  have HL : Hid (lstP (plainE n f d p r dr o sl md fr zs) n.toNat fr [] = blkP N fr) := by
    show _ = _
    rw [hNN]
    exact lstP_no hE fr (by simp; omega)
  have hN2 : N ≤ 64 := by omega
  rw [HL.out]
  rw [hE] at CP
  subst hN
  have e0 : ((0 : Int) != 0) = false := rfl
  clear hE hbd hNN HL
  go_enter Try.func28, Try.ntmps28
  go_wp2_with fail
  refine CP.out.mono ?_
  rintro e w1 ⟨rfl, hb1⟩
  have HB1 := hidden (bthen HB0.out hb1)
  have HK1 := hidden (blk_later HK.out hb1)
  clear hb1 CP HK
  go_wp2
  go_loopw [3, 4] (fun v i wr => ∃ k : Nat, k ≤ N ∧ i = .int .i64 k ∧ wr.ownsRow w1.heap.size 60 3 v (blkP k fr).length (kPrt.flat (blkP k fr)) ∧ Below w1.heap.size w1 wr) (fun _ i _ => N - (intV i).toNat)
  case atStart => exact ⟨0, Nat.zero_le _, rfl, (World.ownsRow_nil _ _ _ _ : w1.ownsRow w1.heap.size 60 3 (.slice none 0 0) 0 []), Below.refl _ _⟩
  case round =>
    obtain ⟨k, hk, rfl, hown, hB⟩ := hrel
    have HB := hidden hB
    have HO := hidden hown
    have kc := blk_later HK1.out hB
    have bc := blk_cell kc
    have lc := blk_lt kc
    clear hown hB kc
    by_cases hlt : k < N
    · have i2 : (k : Int) < (N : Int) := by omega
      have HX : Hid (blkP (k + 1) fr = blkP k fr ++ [noP fr]) := List.replicate_succ'
      have hln : (blkP k fr).length = k := by simp [blkP]
      generalize hX : blkP k fr = X at *
      have HXd := hidden hX
      clear hX
      go_wp2_with (at_builtin; refine kPrt.wpList_append _ rfl (.tmp 14) (.tmp 18) 39 rfl w1.heap.size 60 i0 (.agg #[.string ⟨#[]⟩, .int .i64 0, .int .i64 0]) 32 Try.underlying39 hi hz0 hz1 hz2 rfl u3 X.length _ rfl (HO.out.alloc _) (.slice (some ⟨wr.heap.size, 0, none⟩) 1 1) [noP fr] rfl (Kind.Lies.of_block (K := kPrt) (es := [noP fr]) (heap_alloc_new wr _) (by simp [maxLen])) (by simp only [maxLen, List.length_singleton]; omega) (by simp only [List.length_singleton]; omega) (by have := HB.out.size; simp; omega) ?_; intro v3 w3 hown3 hgrow3 _)
      have hB3 : Below w1.heap.size w1 w3 := (HB.out.alloc HB.out.size _).grown hgrow3 (by have := HB.out.size; simp; omega) (own_from HO.out)
      have hrow : w3.ownsRow w1.heap.size 60 3 v3 (X ++ [noP fr]).length (kPrt.flat (X ++ [noP fr])) := by
        rw [Kind.flat_append, List.length_append]
        exact hown3
      go_roundw
      case rel => exact ⟨k + 1, by omega, by go_num, by rw [HX.out]; exact hrow, hB3⟩
      case measure => simp [intV]; omega
    · obtain rfl : k = N := by omega
      have i2 : ¬ (k : Int) < (k : Int) := by omega
      go_wp2
      go_ret
      exact ⟨_, rfl, (DRow.of_own HO.out).low HB1.out.size, bthen HB1.out HB.out⟩
set_option maxRecDepth 100000 in
set_option maxHeartbeats 4000000 in
theorem copied_any (n f d p r dr o sl md fr : Int) (ad : Option Addr) (cap : Nat) (zs : List Int) (a2 : Option Addr) (c2 : Nat) (ps : List Prt) (w : World) (hl : zs.length ≤ 9223372036854775807) (hT : Tab w ad zs) (hpl : ps.length ≤ 9223372036854775807) (hP : kPrt.Lies w.heap.size w (.slice a2 ps.length c2) ps) :
    Calls Try.prog 51 #[.agg #[.int .i64 n, .int .i64 f, .int .i64 d, .int .i64 p, .int .i64 r, .int .i64 dr, .int .i64 o, .int .i64 sl, .int .i64 md, .int .i64 fr, .slice ad zs.length cap], .slice a2 ps.length c2] w fun e w' => ∃ v, e = .returned v ∧ DRow w.heap.size w' v (lstP (plainE n f d p r dr o sl md fr zs) n.toNat fr ps) ∧ Below w.heap.size w w' := by
  have HB0 := hidden (ballc w (.cells #[.int .i64 n, .int .i64 f, .int .i64 d, .int .i64 p, .int .i64 r, .int .i64 dr, .int .i64 o, .int .i64 sl, .int .i64 md, .int .i64 fr, .slice ad zs.length cap] 24))
  have HK := hidden (blk_nw w #[.int .i64 n, .int .i64 f, .int .i64 d, .int .i64 p, .int .i64 r, .int .i64 dr, .int .i64 o, .int .i64 sl, .int .i64 md, .int .i64 fr, .slice ad zs.length cap] 24)
  have HT := hidden (hT.below HB0.out)
  have CP := hidden (refPlain_any n f d p r dr o sl md fr ad cap zs (w.alloc (.cells #[.int .i64 n, .int .i64 f, .int .i64 d, .int .i64 p, .int .i64 r, .int .i64 dr, .int .i64 o, .int .i64 sl, .int .i64 md, .int .i64 fr, .slice ad zs.length cap] 24)) hl HT.out)
  have CB := hidden (fun V h => r26Blank_any n f d p r dr o sl md fr ad cap zs V hl h)
  have HP := hidden (hP.later HB0.out)
  obtain ⟨i0, hi, hz0, hz1, hz2⟩ := info_of infoPrt
  clear hT hP
  by_cases hE : plainE n f d p r dr o sl md fr zs = 0
  case neg =>
    have HL : Hid (DRow w.heap.size w (.slice none 0 0) (lstP (plainE n f d p r dr o sl md fr zs) n.toNat fr ps)) := by
      show DRow _ _ _ _
      rw [lstP_err hE]
      exact .inl ⟨rfl, rfl⟩
    generalize lstP (plainE n f d p r dr o sl md fr zs) n.toNat fr ps = L at *
    have e0 : (plainE n f d p r dr o sl md fr zs != 0) = true := bne_iff_ne.2 hE
    generalize plainE n f d p r dr o sl md fr zs = E at *
    clear hE
    go_enter Try.func51, Try.ntmps51
    go_wp2_with fail
    refine CP.out.mono ?_
    rintro e w2 ⟨rfl, hb2⟩
    have HB2 := hidden (bthen HB0.out hb2)
    clear hb2
    go_wp2
    go_ret
    exact ⟨_, rfl, HL.out.later HB2.out, HB2.out⟩
  have hbd := plainE_ok hE
  have e0 : ((0 : Int) != 0) = false := rfl
  by_cases hps : ps.length = n.toNat
  · have HL := hidden (lstP_ok hE fr hps)
    rw [HL.out]
    have e1 : ((ps.length : Int) != n) = false := by rw [show n = (ps.length : Int) by omega]; simp
    have hp64 : ps.length ≤ 64 := by omega
    rw [hE] at CP
    clear hE hbd HL CB hps
    go_enter Try.func51, Try.ntmps51
    go_wp2_with fail
    refine CP.out.mono ?_
    rintro e w1 ⟨rfl, hb1⟩
    have HB1 := hidden (bthen HB0.out hb1)
    have kc := blk_later HK.out hb1
    have bc := blk_cell kc
    have lc := blk_lt kc
    have hP1 := HP.out.later hb1
    clear hb1 CP HK kc
    go_wp2_with (at_builtin; refine kPrt.wpList_append _ rfl (.tmp 16) (.tmp 17) 39 rfl w1.heap.size 60 i0 (.agg #[.string ⟨#[]⟩, .int .i64 0, .int .i64 0]) 32 Try.underlying39 hi hz0 hz1 hz2 rfl (.slice none 0 0) 0 [] rfl (World.ownsRow_nil _ _ _ _) (.slice a2 ps.length c2) ps rfl hP1 (by simp only [maxLen]; omega) (by omega) (Nat.le_refl _) ?_; intro v3 w3 hown3 hgrow3 _)
    have hB3 : Below w1.heap.size w1 w3 := (Below.refl w1.heap.size w1).grown hgrow3 (Nat.le_refl _) (fun k hk => by cases hk)
    rw [Nat.zero_add, List.nil_append] at hown3
    go_wp2
    go_ret
    exact ⟨_, rfl, (DRow.of_own hown3).low HB1.out.size, bthen HB1.out hB3⟩
  · have HL := hidden (lstP_no hE fr hps)
    have HL2 := hidden (lstP_no (ps := []) hE fr (n := n.toNat) (by simp; omega))
    rw [HL2.out] at CB
    rw [HL.out]
    have e1 : ((ps.length : Int) != n) = true := bne_iff_ne.2 (by omega)
    rw [hE] at CP
    generalize blkP n.toNat fr = L at *
    clear hE hbd HL HL2 hps
    go_enter Try.func51, Try.ntmps51
    go_wp2_with fail
    refine CP.out.mono ?_
    rintro e w1 ⟨rfl, hb1⟩
    have HB1 := hidden (bthen HB0.out hb1)
    have kc := blk_later HK.out hb1
    have bc := blk_cell kc
    have lc := blk_lt kc
    have hcall := CB.out w1 (HT.out.below hb1)
    clear hb1 CP HK kc
    go_wp2_with fail
    refine hcall.mono ?_
    rintro e w2 ⟨v, rfl, hd, hb2⟩
    have HD := hidden (hd.low HB1.out.size)
    have HB2 := hidden (bthen HB1.out hb2)
    clear hd hb2 bc lc hcall
    go_wp2
    go_ret
    exact ⟨_, rfl, HD.out, HB2.out⟩
end Go.Proofs.Ytgclabboafdheaa

/- Texts compare as bytes; no conditions. -/
namespace Go.Proofs.Ytgclabboafdheaa
set_option linter.unusedVariables false

theorem bq (a b : ByteArray) : (a.toList == b.toList) = decide (a = b) := by
  rw [Bool.eq_iff_iff, beq_iff_eq, decide_eq_true_iff, ByteArray.toList_eq, ByteArray.toList_eq]
  constructor
  · intro h
    apply ByteArray.ext
    exact Array.toList_inj.1 h
  · rintro rfl; rfl
end Go.Proofs.Ytgclabboafdheaa

/- The document's calls Put, Older, Read and Same of layer 26 return what plain functions give, and make at most new memory; conditions: the table and rows lie where they say, lengths and ages fit int. -/
namespace Go.Proofs.Ytgclabboafdheaa
open Go.ChangeShapes Go.WideShapes Go.ChangeAt Go.RowKit
set_option linter.unusedVariables false
attribute [local go_sem] cell_rg

def DBlk (W : World) (g : Nat) (L : List Prt) (T : List Value) : Prop := W.heap[g]? = some (.cells (kPrt.flat L ++ T).toArray 60 (0, 0))
theorem DBlk.lt {W : World} {g : Nat} {L : List Prt} {T : List Value} (h : DBlk W g L T) : g < W.heap.size := blk_lt h
theorem DBlk.later {W W' : World} {g : Nat} {L : List Prt} {T : List Value} (h : DBlk W g L T) (hb : Below W.heap.size W W') : DBlk W' g L T := blk_later h hb
theorem DBlk.open {W : World} {g : Nat} {L : List Prt} {T : List Value} (h : DBlk W g L T) (i : Nat) : W.frozen? ⟨g, i, none⟩ = false := blk_frozen h i
theorem DBlk.cells {W : World} {g : Nat} {L : List Prt} {T : List Value} (h : DBlk W g L T) (i : Nat) (hi : i < L.length) : W.cell? ⟨g, i * 3, none⟩ = some (.string L[i].te) ∧ W.cell? ⟨g, i * 3 + 1, none⟩ = some (.int .i64 L[i].cy) ∧ W.cell? ⟨g, i * 3 + 2, none⟩ = some (.int .i64 L[i].ag) := by
  obtain ⟨h0, h1, h2⟩ := kPrt_get L i hi
  have hl : (kPrt.flat L).length = L.length * 3 := kPrt.flat_length L
  rw [blk_cell h, blk_cell h, blk_cell h, List.getElem?_toArray, List.getElem?_toArray, List.getElem?_toArray, List.getElem?_append_left (by omega), List.getElem?_append_left (by omega), List.getElem?_append_left (by omega)]
  exact ⟨h0, h1, h2⟩
theorem DBlk.set {W : World} {g : Nat} {L : List Prt} {T : List Value} (h : DBlk W g L T) (i : Nat) (hi : i < L.length) (p : Prt) : DBlk (((W.setCell ⟨g, i * 3, none⟩ (.string p.te)).setCell ⟨g, i * 3 + 1, none⟩ (.int .i64 p.cy)).setCell ⟨g, i * 3 + 2, none⟩ (.int .i64 p.ag)) g (L.set i p) T := by
  have h1 := heap_setCell_same W g (i * 3) _ _ (.string p.te) h
  have h2 := heap_setCell_same _ g (i * 3 + 1) _ _ (.int .i64 p.cy) h1
  have h3 := heap_setCell_same _ g (i * 3 + 2) _ _ (.int .i64 p.ag) h2
  have hl : (kPrt.flat L).length = L.length * 3 := kPrt.flat_length L
  rw [List.setIfInBounds_toArray, List.setIfInBounds_toArray, List.setIfInBounds_toArray, List.set_append_left _ _ (by omega), List.set_append_left _ _ (by rw [List.length_set]; omega), List.set_append_left _ _ (by rw [List.length_set, List.length_set]; omega), kPrt_set] at h3
  exact h3
theorem set_same {l : List Value} {i : Nat} {v : Value} (h : l[i]? = some v) : l.set i v = l := by
  obtain ⟨hi, rfl⟩ := List.getElem?_eq_some_iff.1 h
  exact List.set_getElem_self hi
theorem kPrt_set1 (l : List Prt) (i : Nat) (hi : i < l.length) (x : Int) : (kPrt.flat l).set (i * 3 + 2) (.int .i64 x) = kPrt.flat (l.set i ⟨l[i].te, l[i].cy, x⟩) := by
  obtain ⟨h0, h1, _⟩ := kPrt_get l i hi
  have h := kPrt_set l i ⟨l[i].te, l[i].cy, x⟩
  dsimp only at h
  rw [set_same h0, set_same h1] at h
  exact h
theorem DBlk.set1 {W : World} {g : Nat} {L : List Prt} {T : List Value} (h : DBlk W g L T) (i : Nat) (hi : i < L.length) (x : Int) : DBlk (W.setCell ⟨g, i * 3 + 2, none⟩ (.int .i64 x)) g (L.set i ⟨L[i].te, L[i].cy, x⟩) T := by
  have h1 := heap_setCell_same W g (i * 3 + 2) _ _ (.int .i64 x) h
  have hl : (kPrt.flat L).length = L.length * 3 := kPrt.flat_length L
  rw [List.setIfInBounds_toArray, List.set_append_left _ _ (by omega), kPrt_set1 L i hi] at h1
  exact h1
theorem DRow.blk {B : Nat} {W : World} {v : Value} {L : List Prt} (h : DRow B W v L) (hl : 0 < L.length) : ∃ (g cap : Nat) (T : List Value), v = .slice (some ⟨g, 0, none⟩) L.length cap ∧ L.length ≤ cap ∧ cap ≤ maxLen ∧ B ≤ g ∧ DBlk W g L T := by
  rcases h with ⟨rfl, rfl⟩ | h
  · exact absurd hl (Nat.not_lt_zero _)
  · exact h
set_option maxRecDepth 100000 in
set_option maxHeartbeats 8000000 in
theorem r26Put_any (n f d p r dr o sl md fr : Int) (ad : Option Addr) (cap : Nat) (zs : List Int) (a2 : Option Addr) (c2 : Nat) (ps : List Prt) (a3 : Option Addr) (c3 : Nat) (ds : List Dlv) (w : World) (hl : zs.length ≤ 9223372036854775807) (hT : Tab w ad zs) (hpl : ps.length ≤ 9223372036854775807) (hP : kPrt.Lies w.heap.size w (.slice a2 ps.length c2) ps) (hdl : ds.length ≤ 9223372036854775807) (hD : kDlv.Lies w.heap.size w (.slice a3 ds.length c3) ds) :
    Calls Try.prog 30 #[.agg #[.int .i64 n, .int .i64 f, .int .i64 d, .int .i64 p, .int .i64 r, .int .i64 dr, .int .i64 o, .int .i64 sl, .int .i64 md, .int .i64 fr, .slice ad zs.length cap], .slice a2 ps.length c2, .slice a3 ds.length c3] w fun e w' => ∃ v, e = .returned v ∧ DRow w.heap.size w' v (putP (lstP (plainE n f d p r dr o sl md fr zs) n.toNat fr ps) ds) ∧ Below w.heap.size w w' := by
  have HB0 := hidden (ballc w (.cells #[.int .i64 n, .int .i64 f, .int .i64 d, .int .i64 p, .int .i64 r, .int .i64 dr, .int .i64 o, .int .i64 sl, .int .i64 md, .int .i64 fr, .slice ad zs.length cap] 24))
  have CL := hidden (copied_any n f d p r dr o sl md fr ad cap zs a2 c2 ps (w.alloc (.cells #[.int .i64 n, .int .i64 f, .int .i64 d, .int .i64 p, .int .i64 r, .int .i64 dr, .int .i64 o, .int .i64 sl, .int .i64 md, .int .i64 fr, .slice ad zs.length cap] 24)) hl (hT.below HB0.out) hpl (hP.later HB0.out))
  have HD := hidden hD
  generalize lstP (plainE n f d p r dr o sl md fr zs) n.toNat fr ps = L at *
  clear hT hP hD
  go_enter Try.func30, Try.ntmps30
  go_wp2_with fail
  refine CL.out.mono ?_
  rintro e w1 ⟨v, rfl, hr, hb⟩
  obtain ⟨a, cpl, rfl⟩ := hr.len
  have HB1 := hidden (bthen HB0.out hb)
  have HR1 := hidden (hr.low HB0.out.size)
  clear hr hb CL
  go_wp2
  go_loopw [8] (fun i wr => ∃ k : Nat, k ≤ ds.length ∧ i = .int .i64 k ∧ DRow w.heap.size wr (.slice a L.length cpl) (putP L (ds.take k)) ∧ Below w.heap.size w wr) (fun i _ => ds.length - (intV i).toNat)
  case atStart => exact ⟨0, Nat.zero_le _, rfl, HR1.out, HB1.out⟩
  case round =>
    clear HR1 HB1
    obtain ⟨k, hk, rfl, hR, hB⟩ := hrel
    have HB := hidden hB
    have HR := hidden hR
    clear hR
    by_cases hlt : k < ds.length
    · obtain ⟨b, off, rfl, hbl, e0, e1, e2, e3⟩ := kDlv_four (HD.out.below hB) k hlt
      have i1 : (0 : Int) ≤ (k : Int) := by omega
      have i2 : (k : Int) < (ds.length : Int) := by omega
      have HS := hidden (putP_snoc L (ds.take k) ds[k])
      rw [← List.take_succ_eq_append_getElem hlt] at HS
      have hlen := putP_len L (ds.take k)
      generalize putP L (ds.take k) = M at *
      generalize ds[k] = q at *
      obtain ⟨fm, sl', cy, te⟩ := q
      dsimp only at e0 e1 e2 e3
      have hA := ballc wr (.cells #[.int .i64 fm, .int .i64 sl', .int .i64 cy, .string te] 69)
      have km := blk_nw wr #[.int .i64 fm, .int .i64 sl', .int .i64 cy, .string te] 69
      have KR := hidden (HR.out.later hA)
      have KB := hidden (bthen HB.out hA)
      clear hB hA
      by_cases hz : 0 ≤ fm
      · have hd0 : decide (0 ≤ fm) = true := decide_eq_true hz
        obtain ⟨z, rfl⟩ := Int.eq_ofNat_of_zero_le hz
        by_cases hzl0 : (z : Int) < (L.length : Int)
        · have hd1 : decide ((z : Int) < (L.length : Int)) = true := decide_eq_true hzl0
          have hd2 : decide (z < L.length) = true := decide_eq_true (by omega)
          have hzl : z < M.length := by omega
          have HM := hidden (HS.out.trans (put1_in (d := ⟨(z : Int), sl', cy, te⟩) rfl hzl))
          obtain ⟨g, cpl', T, ha, hcl, hcm, hgw, hG⟩ := KR.out.blk (by omega)
          obtain ⟨rfl, -, rfl⟩ : a = some ⟨g, 0, none⟩ ∧ L.length = M.length ∧ cpl = cpl' := by simpa using ha
          obtain ⟨c0, c1', c2', q0, q1, q2⟩ : ∃ v0 v1 v2, (wr.alloc (.cells #[.int .i64 (z : Int), .int .i64 sl', .int .i64 cy, .string te] 69)).cell? ⟨g, z * 3, none⟩ = some v0 ∧ (wr.alloc (.cells #[.int .i64 (z : Int), .int .i64 sl', .int .i64 cy, .string te] 69)).cell? ⟨g, z * 3 + 1, none⟩ = some v1 ∧ (wr.alloc (.cells #[.int .i64 (z : Int), .int .i64 sl', .int .i64 cy, .string te] 69)).cell? ⟨g, z * 3 + 2, none⟩ = some v2 := ⟨_, _, _, hG.cells z hzl⟩
          have q3 := hG.open
          have q4 := hG.lt
          have i3 : (0 : Int) ≤ (z : Int) := by omega
          have i4 := hzl0
          have hR4 := hG.set z hzl ⟨te, cy, 0⟩
          rw [← HM.out] at hR4
          have HR4 := hidden hR4
          have HL4 := hidden (putP_len L (ds.take (k + 1)))
          have HB4 := hidden (below3P KB.out hgw (z * 3) (.string te) (.int .i64 cy) (.int .i64 0))
          have HCL : Hid (L.length ≤ cpl ∧ cpl ≤ maxLen) := ⟨by omega, hcm⟩
          clear hz hR4 hG HS KR HR hcm hcl hlen hzl ha
          go_wp2
          go_roundw
          case rel => exact ⟨k + 1, by omega, by go_num, .inr ⟨g, cpl, T, by rw [HL4.out], by rw [HL4.out]; exact HCL.out.1, HCL.out.2, hgw, HR4.out⟩, HB4.out⟩
          case measure => simp [intV]; omega
        · have hd1 : decide ((z : Int) < (L.length : Int)) = false := decide_eq_false hzl0
          have hd2 : decide (z < L.length) = false := decide_eq_false (by omega)
          have HM := hidden (HS.out.trans (put1_out (d := ⟨(z : Int), sl', cy, te⟩) (by show ¬ (0 ≤ (z : Int) ∧ (z : Int) < (M.length : Int)); omega)))
          clear hz HS HR hlen
          go_wp2
          go_roundw
          case rel => exact ⟨k + 1, by omega, by go_num, by rw [HM.out]; exact KR.out, KB.out⟩
          case measure => simp [intV]; omega
      · have hd0 : decide (0 ≤ fm) = false := decide_eq_false hz
        have HM := hidden (HS.out.trans (put1_out (d := ⟨fm, sl', cy, te⟩) (by show ¬ (0 ≤ fm ∧ fm < (M.length : Int)); omega)))
        clear hz HS HR hlen
        go_wp2
        go_roundw
        case rel => exact ⟨k + 1, by omega, by go_num, by rw [HM.out]; exact KR.out, KB.out⟩
        case measure => simp [intV]; omega
    · obtain rfl : k = ds.length := by omega
      have i2 : ¬ (ds.length : Int) < (ds.length : Int) := by omega
      rw [List.take_length] at HR
      clear hB
      go_wp2
      go_ret
      exact ⟨_, rfl, HR.out, HB.out⟩
set_option maxRecDepth 100000 in
set_option maxHeartbeats 8000000 in
theorem r26Older_any (n f d p r dr o sl md fr : Int) (ad : Option Addr) (cap : Nat) (zs : List Int) (a2 : Option Addr) (c2 : Nat) (ps : List Prt) (w : World) (hl : zs.length ≤ 9223372036854775807) (hT : Tab w ad zs) (hpl : ps.length ≤ 9223372036854775807) (hP : kPrt.Lies w.heap.size w (.slice a2 ps.length c2) ps) (h64 : (lstP (plainE n f d p r dr o sl md fr zs) n.toNat fr ps).length ≤ 64) (hAG : agesIn (lstP (plainE n f d p r dr o sl md fr zs) n.toNat fr ps)) (hFR : 0 < (lstP (plainE n f d p r dr o sl md fr zs) n.toNat fr ps).length → (Lit.int .i64 fr).wf = true) :
    Calls Try.prog 32 #[.agg #[.int .i64 n, .int .i64 f, .int .i64 d, .int .i64 p, .int .i64 r, .int .i64 dr, .int .i64 o, .int .i64 sl, .int .i64 md, .int .i64 fr, .slice ad zs.length cap], .slice a2 ps.length c2] w fun e w' => ∃ v, e = .returned v ∧ DRow w.heap.size w' v (oldP fr (lstP (plainE n f d p r dr o sl md fr zs) n.toNat fr ps)) ∧ Below w.heap.size w w' := by
  have HB0 := hidden (ballc w (.cells #[.int .i64 n, .int .i64 f, .int .i64 d, .int .i64 p, .int .i64 r, .int .i64 dr, .int .i64 o, .int .i64 sl, .int .i64 md, .int .i64 fr, .slice ad zs.length cap] 24))
  have HK := hidden (blk_nw w #[.int .i64 n, .int .i64 f, .int .i64 d, .int .i64 p, .int .i64 r, .int .i64 dr, .int .i64 o, .int .i64 sl, .int .i64 md, .int .i64 fr, .slice ad zs.length cap] 24)
  have CL := hidden (copied_any n f d p r dr o sl md fr ad cap zs a2 c2 ps (w.alloc (.cells #[.int .i64 n, .int .i64 f, .int .i64 d, .int .i64 p, .int .i64 r, .int .i64 dr, .int .i64 o, .int .i64 sl, .int .i64 md, .int .i64 fr, .slice ad zs.length cap] 24)) hl (hT.below HB0.out) hpl (hP.later HB0.out))
  have HAG := hidden hAG
  have HFR := hidden hFR
  clear hAG hFR
  generalize lstP (plainE n f d p r dr o sl md fr zs) n.toNat fr ps = L at *
  clear hT hP
  go_enter Try.func32, Try.ntmps32
  go_wp2_with fail
  refine CL.out.mono ?_
  rintro e w1 ⟨v, rfl, hr, hb⟩
  obtain ⟨a, cpl, rfl⟩ := hr.len
  have HB1 := hidden (bthen HB0.out hb)
  have hr2 := hr.low HB0.out.size
  have HK1 := hidden (blk_later HK.out hb)
  rw [← oldK_0 fr L] at hr2
  have HR1 := hidden hr2
  have HGL : Hid (∀ g, a = some ⟨g, 0, none⟩ → 0 < L.length → w.heap.size < g) := by
    intro g hg h0
    obtain ⟨g', _, _, e1, _, _, e3, _⟩ := hr.blk h0
    rw [hg] at e1
    simp at e1 e3
    omega
  clear hr hb CL hr2 HK
  go_wp2
  go_loopw [6] (fun i wr => ∃ k : Nat, k ≤ L.length ∧ i = .int .i64 k ∧ DRow w.heap.size wr (.slice a L.length cpl) (oldK fr L k) ∧ wr.heap[w.heap.size]? = some (.cells #[.int .i64 n, .int .i64 f, .int .i64 d, .int .i64 p, .int .i64 r, .int .i64 dr, .int .i64 o, .int .i64 sl, .int .i64 md, .int .i64 fr, .slice ad zs.length cap] 24 (0, 0)) ∧ Below w.heap.size w wr) (fun i _ => L.length - (intV i).toNat)
  case atStart => exact ⟨0, Nat.zero_le _, rfl, HR1.out, HK1.out, HB1.out⟩
  case round =>
    clear HR1 HB1 HK1
    obtain ⟨k, hk, rfl, hR, hK, hB⟩ := hrel
    have HB := hidden hB
    have HR := hidden hR
    have HK := hidden hK
    clear hR hK hB
    by_cases hlt : k < L.length
    · have i1 : (0 : Int) ≤ (k : Int) := by omega
      have i2 : (k : Int) < (L.length : Int) := by omega
      have hlK := oldK_len fr L k
      obtain ⟨g, cpl', T, ha, hcl, hcm, hgw, hG⟩ := HR.out.blk (by omega)
      obtain ⟨rfl, -, rfl⟩ : a = some ⟨g, 0, none⟩ ∧ L.length = (oldK fr L k).length ∧ cpl = cpl' := by simpa using ha
      have hgc := HGL.out g rfl (by omega)
      have hfw := HFR.out (by omega)
      have haw := HAG.out L[k] (List.getElem_mem hlt)
      have hx := (hG.cells k (by omega)).2.2
      have hset := hG.set1 k (by omega) (satF L[k].ag fr)
      rw [oldK_get fr L k hlt] at hx hset
      have hS9 : (oldK fr L k).set k ⟨L[k].te, L[k].cy, satF L[k].ag fr⟩ = oldK fr L (k + 1) := oldK_set fr L k hlt
      rw [hS9] at hset
      have HR4 := hidden hset
      have HL4 := hidden (oldK_len fr L (k + 1))
      have HCL : Hid (L.length ≤ cpl ∧ cpl ≤ maxLen) := ⟨by omega, hcm⟩
      have q3 := hG.open
      have q4 := hG.lt
      have CO := hidden (fun V => rsat_any L[k].ag fr V haw hfw)
      have HB4 := hidden (HB.out.setCell (p := ⟨g, k * 3 + 2, none⟩) hgw (.int .i64 (satF L[k].ag fr)))
      have HK4 := hidden ((heap_setCell_other wr ⟨g, k * 3 + 2, none⟩ w.heap.size (.int .i64 (satF L[k].ag fr)) (show w.heap.size ≠ g by omega)).trans HK.out)
      generalize satF L[k].ag fr = S at *
      generalize L[k].ag = ag at *
      have bk := blk_cell HK.out
      have lk := blk_lt HK.out
      have bk4 := blk_cell HK4.out
      clear hfw haw hset hS9 hG hcl hcm hlK ha
      have hgc2 : w.heap.size ≠ g := by omega
      go_wp2_with fail
      go_region_with (go_at_call 53; refine (CO.out _).mono ?_; rintro e w3 ⟨rfl, rfl⟩)
      all_goals
        clear q3 q4 bk lk bk4 hx
        go_wp2
        go_roundw
        case rel => exact ⟨k + 1, by omega, by go_num, .inr ⟨g, cpl, T, by rw [HL4.out], by rw [HL4.out]; exact HCL.out.1, HCL.out.2, hgw, HR4.out⟩, HK4.out, (by first | exact HB4.out | exact HB4.out.drew)⟩
        case measure => simp [intV]; omega
    · obtain rfl : k = L.length := by omega
      have i2 : ¬ (L.length : Int) < (L.length : Int) := by omega
      rw [oldK_all] at HR
      have hln := oldP_len fr L
      go_wp2
      go_ret
      exact ⟨_, rfl, HR.out, HB.out⟩
end Go.Proofs.Ytgclabboafdheaa

/- The document's calls Read and Same of layer 26 return what plain functions give, and make at most new memory; conditions: the table and rows lie where they say, lengths fit int. -/
namespace Go.Proofs.Ytgclabboafdheaa
open Go.ChangeShapes Go.WideShapes Go.ChangeAt Go.RowKit
set_option linter.unusedVariables false
attribute [local go_sem] cell_rg

/-- Are two ports alike? -/
def ptQ (t : ByteArray) (b c : Int) (t' : ByteArray) (b' c' : Int) : Bool := decide (t = t' ∧ b = b' ∧ c = c')
theorem ptQ_same (t : ByteArray) (b c : Int) : ptQ t b c t b c = true := by simp [ptQ]
theorem eqIn_pt (w : World) (t : ByteArray) (b c : Int) (t' : ByteArray) (b' c' : Int) :
    (Op.equalIn 10000 60 (.agg #[.string t, .int .i64 b, .int .i64 c]) (.agg #[.string t', .int .i64 b', .int .i64 c'])).run Try.prog w = .ok (ptQ t b c t' b' c') w := by
  rw [show (10000 : Nat) = 9999 + 1 from rfl, run_equalIn_agg w 9999 60 _ _ (by kernel_rfl) (by kernel_rfl)]
  unfold Program.fieldsOf
  rw [Try.underlying60]
  unfold ptQ
  by_cases h1 : t = t'
  · subst h1
    by_cases h2 : b = b'
    · subst h2
      by_cases h3 : c = c' <;> simp [go_sem, h3]
    · simp [go_sem, h2]
  · simp [go_sem, bq, h1]
theorem guard_pt (w : World) (op : BinOp) (x y : Operand) (xs ys : Array Value) : (eqGuard op 60 x y (.agg xs) (.agg ys)).run Try.prog w = .ok () w := run_eqGuard_agg w op _ x y xs ys (by kernel_rfl)
section
attribute [local go_sem ↓] eqIn_pt
attribute [local go_sem] guard_pt ptQ_same
set_option maxHeartbeats 4000000 in
theorem r26Same_any (v1 v2 : Value) (es : List Prt) (hlen : es.length ≤ 1000000) (w : World) (h1 : kPrt.Lies w.heap.size w v1 es) (h2 : kPrt.Lies w.heap.size w v2 es) :
    Calls Try.prog 26 #[v1, v2] w fun e w' => e = .returned (.bool true) ∧ Below w.heap.size w w' := by
  obtain ⟨a1, c1, rfl, _⟩ := id h1
  obtain ⟨a2, c2, rfl, _⟩ := id h2
  have H1 := hidden h1
  have H2 := hidden h2
  clear h1 h2
  go_enter Try.func26, Try.ntmps26
  go_wp2
  go_loopw [5] (fun i wr => ∃ k : Nat, k ≤ es.length ∧ i = .int .i64 k ∧ Below w.heap.size w wr) (fun i _ => es.length - (intV i).toNat)
  case atStart => exact ⟨0, Nat.zero_le _, rfl, Below.refl _ _⟩
  case round =>
    obtain ⟨k, hk, rfl, hB⟩ := hrel
    by_cases hlt : k < es.length
    · obtain ⟨b, off, rfl, hb1, e0, e1, e2⟩ := kPrt_three (H1.out.below hB) k hlt
      obtain ⟨b', off', rfl, hb2, f0, f1, f2⟩ := kPrt_three (H2.out.below hB) k hlt
      have i1 : (0 : Int) ≤ (k : Int) := by omega
      have i2 : (k : Int) < (es.length : Int) := by omega
      have hbw : b < wr.heap.size := by have := hB.size; omega
      have hbw' : b' < wr.heap.size := by have := hB.size; omega
      have HB := hidden hB
      clear hB
      generalize es[k] = q at *
      obtain ⟨x0, x1, x2⟩ := q
      dsimp only at e0 e1 e2 f0 f1 f2
      go_wp2
      refine wp_region_quiet_below (by kernel_rfl) (by kernel_rfl) ?_
      repeat (go_big_quiet_step (fail))
      refine wpQuiet_nil ?_
      intro w3 hw3
      have HB3 := hidden (bthen HB.out (rg_below hw3))
      clear hw3 e0 e1 e2 f0 f1 f2
      go_wp2
      go_roundw
      case rel => exact ⟨k + 1, by omega, by go_num, HB3.out⟩
      case measure => simp [intV]; omega
    · obtain rfl : k = es.length := by omega
      have i2 : ¬ (es.length : Int) < (es.length : Int) := by omega
      have HB := hidden hB
      clear hB
      go_wp2
      go_ret
      exact ⟨rfl, HB.out⟩
end
set_option maxRecDepth 100000 in
set_option maxHeartbeats 8000000 in
theorem r26Read_any (n f d p r dr o sl md fr : Int) (ad : Option Addr) (cap : Nat) (zs : List Int) (a2 : Option Addr) (c2 : Nat) (ps : List Prt) (z : Int) (w : World) (hl : zs.length ≤ 9223372036854775807) (hT : Tab w ad zs) (hpl : ps.length ≤ 9223372036854775807) (hP : kPrt.Lies w.heap.size w (.slice a2 ps.length c2) ps) :
    Calls Try.prog 34 #[.agg #[.int .i64 n, .int .i64 f, .int .i64 d, .int .i64 p, .int .i64 r, .int .i64 dr, .int .i64 o, .int .i64 sl, .int .i64 md, .int .i64 fr, .slice ad zs.length cap], .slice a2 ps.length c2, .int .i64 z] w fun e w' => e = .returned (.tuple #[.string (rdT fr (lstP (plainE n f d p r dr o sl md fr zs) n.toNat fr ps) z), .int .i64 (rdC fr (lstP (plainE n f d p r dr o sl md fr zs) n.toNat fr ps) z), .bool (rdB fr (lstP (plainE n f d p r dr o sl md fr zs) n.toNat fr ps) z)]) ∧ Below w.heap.size w w' := by
  have HB0 := hidden (ballc w (.cells #[.int .i64 n, .int .i64 f, .int .i64 d, .int .i64 p, .int .i64 r, .int .i64 dr, .int .i64 o, .int .i64 sl, .int .i64 md, .int .i64 fr, .slice ad zs.length cap] 24))
  have HK := hidden (blk_nw w #[.int .i64 n, .int .i64 f, .int .i64 d, .int .i64 p, .int .i64 r, .int .i64 dr, .int .i64 o, .int .i64 sl, .int .i64 md, .int .i64 fr, .slice ad zs.length cap] 24)
  have CL := hidden (copied_any n f d p r dr o sl md fr ad cap zs a2 c2 ps (w.alloc (.cells #[.int .i64 n, .int .i64 f, .int .i64 d, .int .i64 p, .int .i64 r, .int .i64 dr, .int .i64 o, .int .i64 sl, .int .i64 md, .int .i64 fr, .slice ad zs.length cap] 24)) hl (hT.below HB0.out) hpl (hP.later HB0.out))
  generalize lstP (plainE n f d p r dr o sl md fr zs) n.toNat fr ps = L at *
  clear hT hP
  go_enter Try.func34, Try.ntmps34
  go_wp2_with fail
  refine CL.out.mono ?_
  rintro e w1 ⟨v, rfl, hr, hb⟩
  obtain ⟨a, cpl, rfl⟩ := hr.len
  have HB1 := hidden (bthen HB0.out hb)
  have kc := blk_later HK.out hb
  have bc := blk_cell kc
  have lc := blk_lt kc
  clear hb CL HK kc
  by_cases h0 : z < 0
  · have d0 : decide (z < 0) = true := decide_eq_true h0
    have hrd := rdB_out (fr := fr) (l := L) (z := z) (by omega)
    obtain ⟨hr1, hr3⟩ := rd_no hrd
    have HV : Hid (Ending.returned (.tuple #[.string ⟨#[]⟩, .int .i64 0, .bool false]) = .returned (.tuple #[.string (rdT fr L z), .int .i64 (rdC fr L z), .bool (rdB fr L z)])) := by
      show _ = _
      rw [hr1, hr3, hrd]
    clear hr1 hr3 hrd hr
    go_wp2
    refine wp_region_quiet_below (by kernel_rfl) (by kernel_rfl) ?_
    repeat (go_big_quiet_step (fail))
    refine wpQuiet_nil ?_
    intro w3 hw3
    have HB3 := hidden (bthen HB1.out (rg_below hw3))
    clear hw3 bc lc
    go_wp2
    exact bodyPost_ret (v := .tuple #[.string ⟨#[]⟩, .int .i64 0, .bool false]) (by simp [results, Try.results34, go_sem]) rfl ⟨HV.out, HB3.out⟩
  have d0 : decide (z < 0) = false := decide_eq_false h0
  by_cases h1 : (L.length : Int) ≤ z
  · have d1 : decide ((L.length : Int) ≤ z) = true := decide_eq_true h1
    have hrd := rdB_out (fr := fr) (l := L) (z := z) (by omega)
    obtain ⟨hr1, hr3⟩ := rd_no hrd
    have HV : Hid (Ending.returned (.tuple #[.string ⟨#[]⟩, .int .i64 0, .bool false]) = .returned (.tuple #[.string (rdT fr L z), .int .i64 (rdC fr L z), .bool (rdB fr L z)])) := by
      show _ = _
      rw [hr1, hr3, hrd]
    clear hr1 hr3 hrd hr
    go_wp2
    refine wp_region_quiet_below (by kernel_rfl) (by kernel_rfl) ?_
    repeat (go_big_quiet_step (fail))
    refine wpQuiet_nil ?_
    intro w3 hw3
    have HB3 := hidden (bthen HB1.out (rg_below hw3))
    clear hw3 bc lc
    go_wp2
    exact bodyPost_ret (v := .tuple #[.string ⟨#[]⟩, .int .i64 0, .bool false]) (by simp [results, Try.results34, go_sem]) rfl ⟨HV.out, HB3.out⟩
  obtain ⟨k, rfl⟩ := Int.eq_ofNat_of_zero_le (show 0 ≤ z by omega)
  have hkl : k < L.length := by omega
  have d1 : decide ((L.length : Int) ≤ (k : Int)) = false := decide_eq_false h1
  have d2 : decide (L.length ≤ k) = false := decide_eq_false (by omega)
  obtain ⟨g, cpl', T, ha, hcl, hcm, hgw, hG⟩ := hr.blk (by omega)
  obtain ⟨rfl, rfl⟩ : a = some ⟨g, 0, none⟩ ∧ cpl = cpl' := by simpa using ha
  have hx := hG.cells k hkl
  have HG := hidden hG
  have lg := hG.lt
  have hrd := rdB_in (fr := fr) hkl
  have hge : L.getD k (noP 0) = L[k] := by simp [hkl]
  have i1 : (0 : Int) ≤ (k : Int) := by omega
  have i2 : (k : Int) < (L.length : Int) := by omega
  generalize hq : L[k] = q at *
  have HQ := hidden hq
  clear hq h0 hr hG ha hcl hcm
  obtain ⟨te, cy, ag⟩ := q
  obtain ⟨x0, x1, x2⟩ := hx
  dsimp only at x0 x1 x2
  by_cases hg0 : ag < 0
  · have d3 : decide (ag < 0) = true := decide_eq_true hg0
    have hfb : frsB fr ⟨te, cy, ag⟩ = false := by unfold frsB; rw [decide_eq_false (show ¬ 0 ≤ ag by omega)]; rfl
    rw [hfb] at hrd
    obtain ⟨hr1, hr3⟩ := rd_no hrd
    have HV : Hid (Ending.returned (.tuple #[.string ⟨#[]⟩, .int .i64 0, .bool false]) = .returned (.tuple #[.string (rdT fr L (k : Int)), .int .i64 (rdC fr L (k : Int)), .bool (rdB fr L (k : Int))])) := by
      show _ = _
      rw [hr1, hr3, hrd]
    clear hr1 hr3 hrd hfb hge
    go_wp2
    refine wp_region_quiet_below (by kernel_rfl) (by kernel_rfl) ?_
    repeat (go_big_quiet_step (fail))
    refine wpQuiet_nil ?_
    intro w3 hw3
    have HB3 := hidden (bthen HB1.out (rg_below hw3))
    clear hw3 bc lc x0 x1 x2 lg
    go_wp2
    exact bodyPost_ret (v := .tuple #[.string ⟨#[]⟩, .int .i64 0, .bool false]) (by simp [results, Try.results34, go_sem]) rfl ⟨HV.out, HB3.out⟩
  have d3 : decide (ag < 0) = false := decide_eq_false hg0
  by_cases hg1 : fr ≤ ag
  · have d4 : decide (fr ≤ ag) = true := decide_eq_true hg1
    have hfb : frsB fr ⟨te, cy, ag⟩ = false := by unfold frsB; rw [decide_eq_false (show ¬ ag < fr by omega), Bool.and_false]
    rw [hfb] at hrd
    obtain ⟨hr1, hr3⟩ := rd_no hrd
    have HV : Hid (Ending.returned (.tuple #[.string ⟨#[]⟩, .int .i64 0, .bool false]) = .returned (.tuple #[.string (rdT fr L (k : Int)), .int .i64 (rdC fr L (k : Int)), .bool (rdB fr L (k : Int))])) := by
      show _ = _
      rw [hr1, hr3, hrd]
    clear hr1 hr3 hrd hfb hge
    go_wp2
    refine wp_region_quiet_below (by kernel_rfl) (by kernel_rfl) ?_
    repeat (go_big_quiet_step (fail))
    refine wpQuiet_nil ?_
    intro w3 hw3
    have HB3 := hidden (bthen HB1.out (rg_below hw3))
    clear hw3 bc lc x0 x1 x2 lg
    go_wp2
    exact bodyPost_ret (v := .tuple #[.string ⟨#[]⟩, .int .i64 0, .bool false]) (by simp [results, Try.results34, go_sem]) rfl ⟨HV.out, HB3.out⟩
  have d4 : decide (fr ≤ ag) = false := decide_eq_false hg1
  have hfb : frsB fr ⟨te, cy, ag⟩ = true := by unfold frsB; rw [decide_eq_true (show 0 ≤ ag by omega), decide_eq_true (show ag < fr by omega)]; rfl
  rw [hfb] at hrd
  obtain ⟨hr1, hr3⟩ := rd_yes hrd
  rw [Int.toNat_natCast, hge] at hr1 hr3
  have HV : Hid (Ending.returned (.tuple #[.string te, .int .i64 cy, .bool true]) = .returned (.tuple #[.string (rdT fr L (k : Int)), .int .i64 (rdC fr L (k : Int)), .bool (rdB fr L (k : Int))])) := by
    show _ = _
    rw [hr1, hr3, hrd]
  clear hr1 hr3 hrd hfb hge
  go_wp2
  refine wp_region_quiet_below (by kernel_rfl) (by kernel_rfl) ?_
  repeat (go_big_quiet_step (fail))
  refine wpQuiet_nil ?_
  intro w3 hw3
  have hb3 := rg_below hw3
  have HB3 := hidden (bthen HB1.out hb3)
  have hG3 := HG.out.later hb3
  clear hw3 bc lc x0 x1 x2 lg hb3
  have hx := hG3.cells k hkl
  rw [HQ.out] at hx
  obtain ⟨x0, x1, x2⟩ := hx
  dsimp only at x0 x1 x2
  have lg := hG3.lt
  clear hG3
  go_wp2
  refine wp_region_quiet_below (by kernel_rfl) (by kernel_rfl) ?_
  repeat (go_big_quiet_step (fail))
  refine wpQuiet_nil ?_
  intro w5 hw5
  have HB5 := hidden (bthen HB3.out (rg_below hw5))
  clear hw5 x0 x1 x2 lg
  go_wp2
  exact bodyPost_ret (v := .tuple #[.string te, .int .i64 cy, .bool true]) (by simp [results, Try.results34, go_sem]) rfl ⟨HV.out, HB5.out⟩
end Go.Proofs.Ytgclabboafdheaa

/- The calls Rounds, Length and Bits of package conf return what the document says, of what is plain, else 0, and make at most new memory; conditions: the table lies where it says, and its length fits int. -/
namespace Go.Proofs.Ytgclabboafdheaa
open Go.ChangeShapes Go.WideShapes Go.ChangeAt Go.RowKit
set_option linter.unusedVariables false
attribute [local go_sem] cell_rg

/-- x, if E is no error, else 0. -/
def gate (E x : Int) : Int := if E = 0 then x else 0
/-- Hides a fact from the walk. -/
theorem gate_ok (x : Int) : gate 0 x = x := if_pos rfl
theorem gate_no {E : Int} (h : ¬ E = 0) (x : Int) : gate E x = 0 := if_neg h
theorem gate_congr {E x y : Int} (h : E = 0 → x = y) : gate E x = gate E y := by
  unfold gate
  by_cases e : E = 0
  · rw [if_pos e, if_pos e, h e]
  · rw [if_neg e, if_neg e]

end Go.Proofs.Ytgclabboafdheaa

/- The fixed configuration of the statements, and what is plain of it; no conditions. -/
namespace Go.Proofs.Ytgclabboafdheaa
open Go.ChangeShapes Go.WideShapes Go.ChangeAt Go.RowKit
set_option linter.unusedVariables false

theorem Tab.four (w : World) (t : TypeId) (g : Nat) (hg : g = w.heap.size) : Tab (w.alloc (.cells #[.int .i64 0, .int .i64 1, .int .i64 2, .int .i64 3] t)) (some ⟨g, 0, none⟩) [0, 1, 2, 3] := by
  subst hg
  intro i hi
  refine ⟨_, rfl, ?_⟩
  have hi' : i = 0 ∨ i = 1 ∨ i = 2 ∨ i = 3 := by simp at hi; omega
  rcases hi' with rfl | rfl | rfl | rfl <;> exact World.cell?_alloc_mark w _ t _ _
theorem Tab.none (w : World) : Tab w none [] := fun i hi => absurd hi (Nat.not_lt_zero _)
theorem plainE_small : plainE 4 1 1 20 64 1 64 190 10 3 [0, 1, 2, 3] = 0 := by decide
theorem plainE_zero : plainE 0 0 0 0 0 0 0 0 0 0 [] = 7 := by decide
/-- The same call, where the answer is spelt otherwise. -/
theorem Calls.ret_to {P : Program} {F : FuncId} {args : Array Value} {w : World} {v u : Value} (h : Calls P F args w fun e w' => e = .returned v ∧ Below w.heap.size w w') (e : v = u) : Calls P F args w fun e w' => e = .returned u ∧ Below w.heap.size w w' := by
  rw [← e]; exact h
theorem val_i {a b : Int} (h : a = b) : Value.int .i64 a = .int .i64 b := by rw [h]
end Go.Proofs.Ytgclabboafdheaa

/- The fixed calls of the statements on package port come out as they must, and make at most new memory; no conditions. -/
namespace Go.Proofs.Ytgclabboafdheaa
open Go.ChangeShapes Go.WideShapes Go.ChangeAt Go.RowKit
set_option linter.unusedVariables false
attribute [local go_sem] cell_rg

theorem small26_any (w : World) :
    Calls Try.prog 45 #[] w fun e w' => ∃ g, e = .returned (.agg #[.int .i64 4, .int .i64 1, .int .i64 1, .int .i64 20, .int .i64 64, .int .i64 1, .int .i64 64, .int .i64 190, .int .i64 10, .int .i64 3, .slice (some ⟨g, 0, none⟩) 4 4]) ∧ Tab w' (some ⟨g, 0, none⟩) [0, 1, 2, 3] ∧ Below w.heap.size w w' := by
  go_enter Try.func45, Try.ntmps45
  go_wp2
  refine bodyPost_ret (v := .agg #[.int .i64 4, .int .i64 1, .int .i64 1, .int .i64 20, .int .i64 64, .int .i64 1, .int .i64 64, .int .i64 190, .int .i64 10, .int .i64 3, .slice (some ⟨w.heap.size + 1, 0, none⟩) 4 4]) (by simp [results, Try.results45, go_sem]) rfl ⟨_, rfl, Tab.four _ _ _ (by simp), Joins.below_alloc2 _ _ _⟩
def rowK : List Prt := [noP 3, ⟨⟨#[97]⟩, 7, 0⟩, noP 3, noP 3]
def dlvK : List Dlv := [⟨1, 0, 7, ⟨#[97]⟩⟩, ⟨9, 0, 0, ⟨#[]⟩⟩]
theorem lstK (ps : List Prt) : lstP (plainE 4 1 1 20 64 1 64 190 10 3 [0, 1, 2, 3]) (4 : Int).toNat 3 ps = lstP 0 4 3 ps := by rw [plainE_small]; rfl
theorem k26_a : putP (lstP 0 4 3 []) dlvK = rowK := by rfl
theorem k26_b : rdT 3 (lstP 0 4 3 rowK) 1 = ⟨#[97]⟩ := by rfl
theorem k26_c : rdC 3 (lstP 0 4 3 rowK) 1 = 7 := by rfl
theorem k26_d : rdB 3 (lstP 0 4 3 rowK) 1 = true := by rfl
theorem k26_e : rdB 3 (lstP 0 4 3 rowK) 0 = false := by rfl
theorem k26_f : oldP 3 (lstP 0 4 3 rowK) = [noP 3, ⟨⟨#[97]⟩, 7, 1⟩, noP 3, noP 3] := by rfl
theorem k26_g : (lstP 0 4 3 rowK).length = 4 := by rfl
theorem k26_h : (lstP 0 4 3 []).length = 4 := by rfl
theorem rowK_ages : agesIn rowK := by intro p hp; simp [rowK, noP] at hp; rcases hp with rfl | rfl | rfl | rfl <;> rfl
theorem cut_K (g : Nat) : ∀ V : World, (Instr.slice 39 (.slice (some ⟨g, 0, none⟩) 4 4) (some (.int .i64 1)) (some (.int .i64 2)) none).run Try.prog V = .ok (.slice (some ⟨g, 3, none⟩) 1 3) V := fun V => by kernel_rfl
set_option maxRecDepth 100000 in
set_option maxHeartbeats 8000000 in
theorem known26_any (w : World) :
    Calls Try.prog 46 #[] w fun e w' => e = .returned (.bool true) ∧ Below w.heap.size w w' := by
  go_enter Try.func46, Try.ntmps46
  go_wp2_with fail
  refine (small26_any _).mono ?_
  rintro e w1 ⟨g, rfl, hT, hb⟩
  have hA := ballc w1 (.cells #[.int .i64 4, .int .i64 1, .int .i64 1, .int .i64 20, .int .i64 64, .int .i64 1, .int .i64 64, .int .i64 190, .int .i64 10, .int .i64 3, .slice (some ⟨g, 0, none⟩) 4 4] 24)
  have HB1 := hidden (bthen hb hA)
  have HK1 := hidden (blk_nw w1 #[.int .i64 4, .int .i64 1, .int .i64 1, .int .i64 20, .int .i64 64, .int .i64 1, .int .i64 64, .int .i64 190, .int .i64 10, .int .i64 3, .slice (some ⟨g, 0, none⟩) 4 4] 24)
  have HT1 := hidden (hT.below hA)
  have C1 := hidden (fun V c3 h h2 => by have z := PPut_any 4 1 1 20 64 1 64 190 10 3 (some ⟨g, 0, none⟩) 4 [0, 1, 2, 3] none 0 [] (some ⟨c3, 0, none⟩) 2 dlvK V (by decide) h (by decide) (Kind.Lies.nil _ _) (by decide) h2; rwa [lstK, k26_a, k26_h] at z)
  have C2 := hidden (fun V a h h2 => by have z := PRead_any 4 1 1 20 64 1 64 190 10 3 (some ⟨g, 0, none⟩) 4 [0, 1, 2, 3] a 4 rowK 1 V (by decide) h (by decide) h2; rwa [lstK, k26_b, k26_c, k26_d] at z)
  have C3 := hidden (fun V a h h2 => by have z := PRead_any 4 1 1 20 64 1 64 190 10 3 (some ⟨g, 0, none⟩) 4 [0, 1, 2, 3] a 4 rowK 0 V (by decide) h (by decide) h2; rwa [lstK, k26_e] at z)
  have C4 := hidden (fun V a h h2 => by have z := POlder_any 4 1 1 20 64 1 64 190 10 3 (some ⟨g, 0, none⟩) 4 [0, 1, 2, 3] a 4 rowK V (by decide) h (by decide) h2 rowK_ages; rwa [lstK, k26_f, k26_g] at z)
  clear hT hb hA
  have HSZ : Hid (w1.heap.size + 1 = (w1.alloc (.cells #[.int .i64 4, .int .i64 1, .int .i64 1, .int .i64 20, .int .i64 64, .int .i64 1, .int .i64 64, .int .i64 190, .int .i64 10, .int .i64 3, .slice (some ⟨g, 0, none⟩) 4 4] 24)).heap.size) := by show _ = _; simp
  go_wp2_with fail
  generalize w1.alloc (.cells #[.int .i64 4, .int .i64 1, .int .i64 1, .int .i64 20, .int .i64 64, .int .i64 1, .int .i64 64, .int .i64 190, .int .i64 10, .int .i64 3, .slice (some ⟨g, 0, none⟩) 4 4] 24) = W1 at *
  have hD : kDlv.Lies (W1.alloc (.cells #[.int .i64 1, .int .i64 0, .int .i64 7, .string ⟨#[97]⟩, .int .i64 9, .int .i64 0, .int .i64 0, .string ⟨#[]⟩] 69)).heap.size (W1.alloc (.cells #[.int .i64 1, .int .i64 0, .int .i64 7, .string ⟨#[97]⟩, .int .i64 9, .int .i64 0, .int .i64 0, .string ⟨#[]⟩] 69)) (.slice (some ⟨w1.heap.size + 1, 0, none⟩) 2 2) dlvK := Kind.Lies.of_block (K := kDlv) (t := 69) (g := w1.heap.size + 1) (es := dlvK) (blk_newAt W1 _ _ HSZ.out) (by decide)
  refine (C1.out _ _ (HT1.out.below (ballc W1 _)) hD).mono ?_
  rintro e w2 ⟨a, rfl, hr, hb⟩
  have hb2 := bthen (ballc W1 (.cells #[.int .i64 1, .int .i64 0, .int .i64 7, .string ⟨#[97]⟩, .int .i64 9, .int .i64 0, .int .i64 0, .string ⟨#[]⟩] 69)) hb
  have HB2 := hidden (bthen HB1.out hb2)
  have k0 := blk_later HK1.out hb2
  have HT2 := hidden (HT1.out.below hb2)
  have HL2 := hidden (hr.lies (by decide))
  have HK2 := hidden k0
  have b0 := blk_cell k0
  have l0 := blk_lt k0
  clear hb hb2 hr hD k0 HK1 HT1 HB1
  go_wp2_with fail
  refine (C2.out _ _ HT2.out HL2.out).mono ?_
  rintro e w3 ⟨rfl, hb⟩
  have HB3 := hidden (bthen HB2.out hb)
  have k0 := blk_later HK2.out hb
  have HT3 := hidden (HT2.out.below hb)
  have HL3 := hidden (HL2.out.later hb)
  have HK3 := hidden k0
  clear b0 l0
  have b0 := blk_cell k0
  have l0 := blk_lt k0
  clear hb k0 HK2 HT2 HB2 HL2
  go_wp2_with fail
  refine (C3.out _ _ HT3.out HL3.out).mono ?_
  rintro e w4 ⟨rfl, hb⟩
  have HB4 := hidden (bthen HB3.out hb)
  have HK4 := hidden (blk_later HK3.out hb)
  have HT4 := hidden (HT3.out.below hb)
  have HL4 := hidden (HL3.out.later hb)
  clear hb HK3 HT3 HB3 HL3 b0 l0
  generalize rdT 3 (lstP 0 4 3 rowK) 0 = x0 at *
  generalize rdC 3 (lstP 0 4 3 rowK) 0 = x1 at *
  go_wp2_with fail
  have hS : kPrt.Lies (w4.alloc (.cells #[.string ⟨#[]⟩, .int .i64 0, .int .i64 3, .string ⟨#[97]⟩, .int .i64 7, .int .i64 0, .string ⟨#[]⟩, .int .i64 0, .int .i64 3, .string ⟨#[]⟩, .int .i64 0, .int .i64 3] 60)).heap.size (w4.alloc (.cells #[.string ⟨#[]⟩, .int .i64 0, .int .i64 3, .string ⟨#[97]⟩, .int .i64 7, .int .i64 0, .string ⟨#[]⟩, .int .i64 0, .int .i64 3, .string ⟨#[]⟩, .int .i64 0, .int .i64 3] 60)) (.slice (some ⟨w4.heap.size, 0, none⟩) 4 4) rowK := Kind.Lies.of_block (K := kPrt) (t := 60) (g := w4.heap.size) (es := rowK) (heap_alloc_new w4 _) (by decide)
  refine (r26Same_any (.slice a 4 4) (.slice (some ⟨w4.heap.size, 0, none⟩) 4 4) rowK (by decide) _ (HL4.out.later (ballc w4 _)) hS).mono ?_
  rintro e w5 ⟨rfl, hb⟩
  have hb5 := bthen (ballc w4 (.cells #[.string ⟨#[]⟩, .int .i64 0, .int .i64 3, .string ⟨#[97]⟩, .int .i64 7, .int .i64 0, .string ⟨#[]⟩, .int .i64 0, .int .i64 3, .string ⟨#[]⟩, .int .i64 0, .int .i64 3] 60)) hb
  have HB5 := hidden (bthen HB4.out hb5)
  have k0 := blk_later HK4.out hb5
  have HT5 := hidden (HT4.out.below hb5)
  have HL5 := hidden (HL4.out.later hb5)
  have b0 := blk_cell k0
  have l0 := blk_lt k0
  clear hb hb5 hS k0 HK4 HT4 HB4 HL4
  go_wp2_with fail
  refine (C4.out _ _ HT5.out HL5.out).mono ?_
  rintro e w6 ⟨a6, rfl, hr, hb⟩
  obtain ⟨g6, rfl, _, hG⟩ := hr.blk (by decide)
  have HL6 := hidden (((hr.lies (by decide)).drop 1 (by decide)).take 1 (by decide))
  have HB6 := hidden (bthen HB5.out hb)
  have hcut := cut_K g6
  clear hb hr hG HT5 HB5 HL5 b0 l0
  go_wp2_with fail
  have hS : kPrt.Lies (w6.alloc (.cells #[.string ⟨#[97]⟩, .int .i64 7, .int .i64 1] 60)).heap.size (w6.alloc (.cells #[.string ⟨#[97]⟩, .int .i64 7, .int .i64 1] 60)) (.slice (some ⟨w6.heap.size, 0, none⟩) 1 1) [⟨⟨#[97]⟩, 7, 1⟩] := Kind.Lies.of_block (K := kPrt) (t := 60) (g := w6.heap.size) (es := [⟨⟨#[97]⟩, 7, 1⟩]) (heap_alloc_new w6 _) (by decide)
  refine (r26Same_any (.slice (some ⟨g6, 3, none⟩) 1 3) (.slice (some ⟨w6.heap.size, 0, none⟩) 1 1) [⟨⟨#[97]⟩, 7, 1⟩] (by decide) _ (HL6.out.later (ballc w6 _)) hS).mono ?_
  rintro e w7 ⟨rfl, hb⟩
  have HB7 := hidden (bthen HB6.out (bthen (ballc w6 (.cells #[.string ⟨#[97]⟩, .int .i64 7, .int .i64 1] 60)) hb))
  clear hb hS
  go_wp2
  go_ret
  exact ⟨rfl, HB7.out⟩
theorem alive_any (w : World) :
    Calls Try.prog 25 #[] w fun e w' => e = .returned (.bool true) ∧ Below w.heap.size w w' := by
  have KN := hidden (fun V => known26_any V)
  go_enter Try.func25, Try.ntmps25
  go_wp2_with fail
  refine (small26_any _).mono ?_
  rintro e w1 ⟨g, rfl, hT, hb⟩
  have HB1 := hidden hb
  have hc : Calls Try.prog 31 #[.agg #[.int .i64 4, .int .i64 1, .int .i64 1, .int .i64 20, .int .i64 64, .int .i64 1, .int .i64 64, .int .i64 190, .int .i64 10, .int .i64 3, .slice (some ⟨g, 0, none⟩) 4 4], .slice none 0 0] w1 fun e w' => ∃ a, e = .returned (.slice a 4 4) ∧ Below w1.heap.size w1 w' := by
    have z := POlder_any 4 1 1 20 64 1 64 190 10 3 (some ⟨g, 0, none⟩) 4 [0, 1, 2, 3] none 0 [] w1 (by decide) hT (by decide) (Kind.Lies.nil _ _) (fun p hp => by cases hp)
    rw [lstK, k26_h] at z
    exact z.mono (fun e w' ⟨a, h1, _, h2⟩ => ⟨a, h1, h2⟩)
  clear hb
  go_wp2_with fail
  refine hc.mono ?_
  rintro e w2 ⟨a, rfl, hb2⟩
  have HB2 := hidden (bthen HB1.out hb2)
  clear hb2 hc hT
  go_wp2_with fail
  refine (KN.out _).mono ?_
  rintro e w3 ⟨rfl, hb3⟩
  have HB3 := hidden (bthen HB2.out hb3)
  clear hb3
  go_wp2
  go_ret
  exact ⟨rfl, HB3.out⟩
end Go.Proofs.Ytgclabboafdheaa
