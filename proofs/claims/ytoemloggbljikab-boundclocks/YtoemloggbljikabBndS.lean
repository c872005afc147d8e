/- The small calls of package bound (begin, middle, lastMiddle, slowest, hasSlot) return what they say, and make at most new memory; conditions: the numbers are within the limits of what is plain. -/
import Derived.Test.YtoemloggbljikabConfF
namespace Go.Proofs.Ytoemloggbljikab
open Go.ChangeShapes Go.WideShapes Go.ChangeAt Go.RowKit
set_option linter.unusedVariables false
attribute [local go_sem] cell_rg

theorem mul_bd {a b A B : Int} (h1 : 0 ≤ a) (h2 : a ≤ A) (h3 : 0 ≤ b) (h4 : b ≤ B) : 0 ≤ a * b ∧ a * b ≤ A * B :=
  ⟨Int.mul_nonneg h1 h3, Int.mul_le_mul h2 h4 h3 (Int.le_trans h1 h2)⟩

theorem slowest_any (n f d p r dr o sl md fr : Int) (ad : Option Addr) (cap : Nat) (zs : List Int) (w : World) (r1 : 1 ≤ r) (r2 : r ≤ 64) (dr1 : 0 ≤ dr) (dr2 : dr ≤ r - 1) :
    Calls Try.prog 25 #[.agg #[.int .i64 n, .int .i64 f, .int .i64 d, .int .i64 p, .int .i64 r, .int .i64 dr, .int .i64 o, .int .i64 sl, .int .i64 md, .int .i64 fr, .slice ad zs.length cap]] w fun e w' => e = .returned (.int .i64 (r - dr)) ∧ Below w.heap.size w w' := by
  go_enter Try.func25, Try.ntmps25
  go_wp2
  go_ret
  exact ⟨rfl, ballc _ _⟩

theorem begin_any (n f d p r dr o sl md fr : Int) (ad : Option Addr) (cap : Nat) (zs : List Int) (s : Int) (w : World) (s1 : 0 ≤ s) (s2 : s ≤ 31) (o1 : 0 ≤ o) (o2 : o ≤ 30000) (sl1 : 1 ≤ sl) (sl2 : sl ≤ 30000) :
    Calls Try.prog 26 #[.agg #[.int .i64 n, .int .i64 f, .int .i64 d, .int .i64 p, .int .i64 r, .int .i64 dr, .int .i64 o, .int .i64 sl, .int .i64 md, .int .i64 fr, .slice ad zs.length cap], .int .i64 s] w fun e w' => e = .returned (.int .i64 (o + s * sl)) ∧ Below w.heap.size w w' := by
  obtain ⟨m0, m1⟩ := mul_bd s1 s2 (show 0 ≤ sl by omega) sl2
  go_enter Try.func26, Try.ntmps26
  go_wp2
  go_ret
  exact ⟨rfl, ballc _ _⟩

/-- A slot's middle. -/
def midE (o sl s : Int) : Int := o + s * sl + sl / 2
theorem midE_bd {o sl s : Int} (s1 : 0 ≤ s) (s2 : s ≤ 31) (o1 : 0 ≤ o) (o2 : o ≤ 30000) (sl1 : 1 ≤ sl) (sl2 : sl ≤ 30000) : 0 ≤ midE o sl s ∧ midE o sl s ≤ 975000 := by
  obtain ⟨m0, m1⟩ := mul_bd s1 s2 (show 0 ≤ sl by omega) sl2
  unfold midE; omega

theorem middle_any (n f d p r dr o sl md fr : Int) (ad : Option Addr) (cap : Nat) (zs : List Int) (s : Int) (w : World) (s1 : 0 ≤ s) (s2 : s ≤ 31) (o1 : 0 ≤ o) (o2 : o ≤ 30000) (sl1 : 1 ≤ sl) (sl2 : sl ≤ 30000) :
    Calls Try.prog 19 #[.agg #[.int .i64 n, .int .i64 f, .int .i64 d, .int .i64 p, .int .i64 r, .int .i64 dr, .int .i64 o, .int .i64 sl, .int .i64 md, .int .i64 fr, .slice ad zs.length cap], .int .i64 s] w fun e w' => e = .returned (.int .i64 (midE o sl s)) ∧ Below w.heap.size w w' := by
  have HB := hidden (fun v => begin_any n f d p r dr o sl md fr ad cap zs s v s1 s2 o1 o2 sl1 sl2)
  obtain ⟨m0, m1⟩ := mul_bd s1 s2 (show 0 ≤ sl by omega) sl2
  have t1 : IntKind.i64.wrap (sl.tdiv 2) = sl / 2 := IntWalk.i64_quo sl 2 ⟨by omega, by omega, by omega⟩
  have t2 : IntKind.i64.wrap (o + s * sl + sl / 2) = midE o sl s := by unfold midE; exact IntWalk.i64_in _ (by omega)
  go_enter Try.func19, Try.ntmps19
  go_wp2
  refine wp_region_quiet_below (by kernel_rfl) (by kernel_rfl) ?_
  repeat (go_big_quiet_step ((go_at_call 26; exact Calls.regrown_of (HB.out _))))
  refine wpQuiet_nil ?_
  intro w2 hw2
  have HB2 := hidden (bthen (ballc w _) (rg_below hw2))
  clear hw2
  go_wp2
  go_ret
  exact ⟨rfl, HB2.out⟩

theorem lastMiddle_any (n f d p r dr o sl md fr : Int) (ad : Option Addr) (cap : Nat) (zs : List Int) (w : World) (z1 : 1 ≤ zs.length) (z2 : zs.length ≤ 32) (o1 : 0 ≤ o) (o2 : o ≤ 30000) (sl1 : 1 ≤ sl) (sl2 : sl ≤ 30000) :
    Calls Try.prog 24 #[.agg #[.int .i64 n, .int .i64 f, .int .i64 d, .int .i64 p, .int .i64 r, .int .i64 dr, .int .i64 o, .int .i64 sl, .int .i64 md, .int .i64 fr, .slice ad zs.length cap]] w fun e w' => e = .returned (.int .i64 (midE o sl ((zs.length : Int) - 1))) ∧ Below w.heap.size w w' := by
  have HB := hidden (fun v => middle_any n f d p r dr o sl md fr ad cap zs ((zs.length : Int) - 1) v (by omega) (by omega) o1 o2 sl1 sl2)
  go_enter Try.func24, Try.ntmps24
  go_wp2_with fail
  refine (HB.out _).mono ?_
  rintro e w2 ⟨rfl, hb⟩
  have HB2 := hidden (bthen (ballc w _) hb)
  clear hb
  go_wp2
  go_ret
  exact ⟨rfl, HB2.out⟩

/-- There is such a slot. -/
def slotB (s : Int) (m : Nat) : Bool := decide (0 ≤ s ∧ s < (m : Int))
theorem slotB_yes {s : Int} {m : Nat} (h1 : 0 ≤ s) (h2 : s < (m : Int)) : slotB s m = true := decide_eq_true ⟨h1, h2⟩
theorem slotB_no {s : Int} {m : Nat} (h : ¬ (0 ≤ s ∧ s < (m : Int))) : slotB s m = false := decide_eq_false h
theorem slotB_of {s : Int} {m : Nat} (h : slotB s m = true) : 0 ≤ s ∧ s < (m : Int) := of_decide_eq_true h
theorem slotB_not {s : Int} {m : Nat} (h : slotB s m = false) : ¬ (0 ≤ s ∧ s < (m : Int)) := of_decide_eq_false h
theorem hasSlot_any (n f d p r dr o sl md fr : Int) (ad : Option Addr) (cap : Nat) (zs : List Int) (s : Int) (w : World) :
    Calls Try.prog 18 #[.agg #[.int .i64 n, .int .i64 f, .int .i64 d, .int .i64 p, .int .i64 r, .int .i64 dr, .int .i64 o, .int .i64 sl, .int .i64 md, .int .i64 fr, .slice ad zs.length cap], .int .i64 s] w fun e w' => e = .returned (.bool (slotB s zs.length)) ∧ Below w.heap.size w w' := by
  by_cases h1 : 0 ≤ s
  · by_cases h2 : s < (zs.length : Int)
    · have HS := hidden (slotB_yes h1 h2)
      go_enter Try.func18, Try.ntmps18
      go_wp2
      go_ret
      exact ⟨ret_b (by rw [HS.out]), ballc _ _⟩
    · have HS := hidden (slotB_no (s := s) (m := zs.length) fun h => h2 h.2)
      have h2' : decide (s < (zs.length : Int)) = false := by simpa using h2
      go_enter Try.func18, Try.ntmps18
      go_wp2
      go_ret
      exact ⟨ret_b (by rw [HS.out]), ballc _ _⟩
  · have HS := hidden (slotB_no (s := s) (m := zs.length) fun h => h1 h.1)
    have h1' : decide (0 ≤ s) = false := by simpa using h1
    go_enter Try.func18, Try.ntmps18
    go_wp2
    go_ret
    exact ⟨ret_b (by rw [HS.out]), ballc _ _⟩

theorem cPlain_any (n f d p r dr o sl md fr : Int) (ad : Option Addr) (cap : Nat) (zs : List Int) (w : World) (hl : zs.length ≤ 9223372036854775807) (hT : Tab w ad zs) :
    Calls Try.prog 17 #[.agg #[.int .i64 n, .int .i64 f, .int .i64 d, .int .i64 p, .int .i64 r, .int .i64 dr, .int .i64 o, .int .i64 sl, .int .i64 md, .int .i64 fr, .slice ad zs.length cap]] w fun e w' => e = .returned (.bool (decide (plainE n f d p r dr o sl md fr zs = 0))) ∧ Below w.heap.size w w' := by
  have HQ := hidden (plain_any n f d p r dr o sl md fr ad cap zs (w.alloc (.cells #[.int .i64 n, .int .i64 f, .int .i64 d, .int .i64 p, .int .i64 r, .int .i64 dr, .int .i64 o, .int .i64 sl, .int .i64 md, .int .i64 fr, .slice ad zs.length cap] 33)) hl (hT.below (ballc _ _)))
  clear hT
  generalize plainE n f d p r dr o sl md fr zs = E at HQ
  by_cases hE : E = 0
  all_goals
    go_enter Try.func17, Try.ntmps17
    go_wp2_with fail
    refine HQ.out.mono ?_
    rintro e w2 ⟨rfl, hb2⟩
    have HB2 := hidden (bthen (ballc w _) hb2)
    clear hb2 HQ
    go_wp2
    go_ret
    exact ⟨ret_b (by simp [hE]), HB2.out⟩
end Go.Proofs.Ytoemloggbljikab
