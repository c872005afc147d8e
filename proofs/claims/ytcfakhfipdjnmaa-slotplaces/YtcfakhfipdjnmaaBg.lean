/- Several texts of one's own in one: what each proves, and its conditions, is said ahead of it. -/
import Derived.Test.YtcfakhfipdjnmaaBc
import Derived.Test.YtcfakhfipdjnmaaBa
import Derived.Test.YtcfakhfipdjnmaaBd
import Derived.Shelf.Abstract
import Derived.Test.YtcfakhfipdjnmaaBf
import Derived.Test.YtcfakhfipdjnmaaBe

/- Plain words on which slot is now: clear ticks, windows, and whose window has a number of units; no conditions. -/
namespace Go.Proofs.Ytcfakhfipdjnmaa
open Go.ChangeShapes Go.WideShapes Go.ChangeAt Go.RowKit
set_option linter.unusedVariables false

/-- The slot so many ticks behind a pulse. -/
def nomF (E r o sl : Int) (m : Nat) (t : Int) : Int := if 0 ≤ t ∧ t ≤ 2000 then slotF E o sl m (wrap64 (t * r)) else -1
theorem nomF_in {E r o sl : Int} {m : Nat} {t : Int} (h : 0 ≤ t ∧ t ≤ 2000) : nomF E r o sl m t = slotF E o sl m (wrap64 (t * r)) := if_pos h
theorem nomF_no {E r o sl : Int} {m : Nat} {t : Int} (h : ¬ (0 ≤ t ∧ t ≤ 2000)) : nomF E r o sl m t = -1 := if_neg h
/-- Is a border further than drift? -/
def farB (r dr t u : Int) : Bool := decide (t * dr < t * r - u) || decide (t * dr < -(t * r - u))
theorem farB_iff {r dr t u : Int} : farB r dr t u = true ↔ t * dr < t * r - u ∨ t * dr < -(t * r - u) := by simp [farB]
theorem farB_not {r dr t u : Int} : farB r dr t u = false ↔ ¬ (t * dr < t * r - u ∨ t * dr < -(t * r - u)) := by simp [farB]
/-- Is one of a slot's ends near? -/
def edgeB (r dr t o sl : Int) (k : Nat) : Bool := !farB r dr t (o + (k : Int) * sl) || !farB r dr t (o + (k : Int) * sl + sl)
/-- Is that tick clear? -/
def clearB (E r dr o sl : Int) (m : Nat) (t : Int) : Bool := decide (E = 0) && decide (0 ≤ t ∧ t ≤ 2000) && (List.range (m + 1)).all fun k => farB r dr t (o + (k : Int) * sl)
theorem clearB_no {E r dr o sl : Int} {m : Nat} {t : Int} (h : ¬ (E = 0 ∧ 0 ≤ t ∧ t ≤ 2000)) : clearB E r dr o sl m t = false := by
  unfold clearB
  by_cases hE : E = 0
  · rw [decide_eq_false (fun c => h ⟨hE, c⟩ : ¬ (0 ≤ t ∧ t ≤ 2000)), Bool.and_false, Bool.false_and]
  · rw [decide_eq_false hE, Bool.false_and, Bool.false_and]
theorem clearB_in {r dr o sl : Int} {m : Nat} {t : Int} (h : 0 ≤ t ∧ t ≤ 2000) : clearB 0 r dr o sl m t = (List.range (m + 1)).all fun k => farB r dr t (o + (k : Int) * sl) := by
  unfold clearB
  rw [decide_eq_true rfl, decide_eq_true h, Bool.true_and, Bool.true_and]
theorem next_begin (o sl : Int) (k : Nat) : o + (k : Int) * sl + sl = o + ((k + 1 : Nat) : Int) * sl := by
  rw [Int.natCast_add, Int.add_mul]; simp; omega
theorem range_pre {k m : Nat} (h : k < m) : List.range k ++ [k] <+: List.range m := by
  rw [← List.range_succ]
  obtain ⟨i, rfl⟩ := Nat.exists_eq_add_of_le (show k + 1 ≤ m from h)
  rw [List.range_add]
  exact List.prefix_append _ _
theorem firstF_range_hit {p : Nat → Bool} {k m : Nat} (h : k < m) (hp : p k = true) (h0 : ∀ j, j < k → p j = false) : firstF p (List.range m) = (k : Int) :=
  firstF_hit hp (fun j hj => h0 j (List.mem_range.1 hj)) (range_pre h)
theorem firstF_range_none {p : Nat → Bool} {m : Nat} (h0 : ∀ j, j < m → p j = false) : firstF p (List.range m) = -1 := firstF_none fun j hj => h0 j (List.mem_range.1 hj)
theorem firstF_range_bd (p : Nat → Bool) (m : Nat) : firstF p (List.range m) = -1 ∧ (∀ j, j < m → p j = false) ∨ ∃ k, k < m ∧ firstF p (List.range m) = (k : Int) ∧ p k = true := by
  rcases firstF_bd p (List.range m) with ⟨h1, h2⟩ | ⟨k, h1, h2, h3⟩
  · exact .inl ⟨h1, fun j hj => h2 j (List.mem_range.2 hj)⟩
  · exact .inr ⟨k, List.mem_range.1 h1, h2, h3⟩
/-- A tick is clear if no slot's end is near. -/
theorem clear_edges {r dr o sl : Int} {m : Nat} {t : Int} (hm : 1 ≤ m) (h : 0 ≤ t ∧ t ≤ 2000) : (firstF (edgeB r dr t o sl) (List.range m) == -1) = clearB 0 r dr o sl m t := by
  rw [clearB_in h]
  rcases firstF_range_bd (edgeB r dr t o sl) m with ⟨h1, h2⟩ | ⟨k, h1, h2, h3⟩
  · rw [h1]
    have : (List.range (m + 1)).all (fun k => farB r dr t (o + (k : Int) * sl)) = true := by
      rw [List.all_eq_true]
      intro k hk
      have hk := List.mem_range.1 hk
      by_cases hlt : k < m
      · have := h2 k hlt
        unfold edgeB at this
        simp only [Bool.or_eq_false_iff, Bool.not_eq_false'] at this
        exact this.1
      · obtain ⟨j, rfl⟩ : ∃ j, m = j + 1 := ⟨m - 1, by omega⟩
        obtain rfl : k = j + 1 := by omega
        have := h2 j (by omega)
        unfold edgeB at this
        simp only [Bool.or_eq_false_iff, Bool.not_eq_false'] at this
        rw [← next_begin]
        exact this.2
    rw [this]; rfl
  · rw [h2]
    have hne : (((k : Int)) == -1) = false := by rw [beq_eq_false_iff_ne]; omega
    have : (List.range (m + 1)).all (fun k => farB r dr t (o + (k : Int) * sl)) = false := by
      rw [← Bool.not_eq_true, List.all_eq_true]
      intro c
      have c1 := c k (List.mem_range.2 (by omega))
      have c2 := c (k + 1) (List.mem_range.2 (by omega))
      unfold edgeB at h3
      rw [c1, next_begin, c2] at h3
      cases h3
    rw [this, hne]
/-- A slot's window. -/
def winLo (d r G o sl : Int) (k : Nat) : Int := midE o sl (k : Int) + d * r - G
def winHi (d r G o sl : Int) (k : Nat) : Int := midE o sl (k : Int) + d * r + G
def win1 (E d r G o sl : Int) (m : Nat) (s : Int) : Int := if E = 0 ∧ 0 ≤ s ∧ s < (m : Int) then midE o sl s + d * r - G else 0
def win2 (E d r G o sl : Int) (m : Nat) (s : Int) : Int := if E = 0 ∧ 0 ≤ s ∧ s < (m : Int) then midE o sl s + d * r + G else 0
theorem win1_in {d r G o sl : Int} {m k : Nat} (h : k < m) : win1 0 d r G o sl m (k : Int) = winLo d r G o sl k := if_pos ⟨rfl, by omega, by omega⟩
theorem win2_in {d r G o sl : Int} {m k : Nat} (h : k < m) : win2 0 d r G o sl m (k : Int) = winHi d r G o sl k := if_pos ⟨rfl, by omega, by omega⟩
theorem win1_no {E d r G o sl : Int} {m : Nat} {s : Int} (h : ¬ (E = 0 ∧ 0 ≤ s ∧ s < (m : Int))) : win1 E d r G o sl m s = 0 := if_neg h
theorem win2_no {E d r G o sl : Int} {m : Nat} {s : Int} (h : ¬ (E = 0 ∧ 0 ≤ s ∧ s < (m : Int))) : win2 E d r G o sl m s = 0 := if_neg h
def inWin (d r G o sl e : Int) (k : Nat) : Bool := decide (winLo d r G o sl k ≤ e) && decide (e ≤ winHi d r G o sl k)
/-- Whose window has that number of units. -/
def hitF (E d r G o sl : Int) (m : Nat) (e : Int) : Int := if E = 0 then firstF (inWin d r G o sl e) (List.range m) else -1
theorem hitF_ok (d r G o sl : Int) (m : Nat) (e : Int) : hitF 0 d r G o sl m e = firstF (inWin d r G o sl e) (List.range m) := if_pos rfl
theorem hitF_err {E d r G o sl : Int} {m : Nat} {e : Int} (h : ¬ E = 0) : hitF E d r G o sl m e = -1 := if_neg h
end Go.Proofs.Ytcfakhfipdjnmaa

/- The calls of package ring and of the document's answer on clocks return what plain functions on integers give, and leave the world as it was; for integers that fit int. -/
namespace Go.Proofs.Ytcfakhfipdjnmaa
open Go.ChangeShapes Go.WideShapes Go.ChangeAt Go.RowKit
set_option linter.unusedVariables false

def signedF (a b : Int) : Int := if (a - b) % 65536 < 32768 then (a - b) % 65536 else (a - b) % 65536 - 65536
theorem tmod_neg (n : Int) (h : n.tmod 65536 < 0) : n.tmod 65536 + 65536 = n % 65536 := by
  have h1 := Int.mul_tdiv_add_tmod n 65536
  have h2 : -65536 < n.tmod 65536 := by
    by_cases h0 : 0 ≤ n
    · have := Int.tmod_nonneg 65536 h0; omega
    · have e : n.tmod 65536 = -((-n).tmod 65536) := by rw [Int.neg_tmod]; omega
      have := Int.tmod_lt_of_pos (-n) (b := 65536) (by omega)
      omega
  omega
theorem tmod_pos (n : Int) (h : ¬ n.tmod 65536 < 0) : n.tmod 65536 = n % 65536 := by
  have h1 := Int.mul_tdiv_add_tmod n 65536
  have h2 := Int.tmod_lt_of_pos n (b := 65536) (by omega)
  omega
theorem nmod_any (n : Int) (w : World) :
    Calls Try.prog 76 #[.int .i64 n, .int .i64 65536] w fun e w' => e = .returned (.int .i64 (n % 65536)) ∧ w = w' := by
  have hr : -65536 < n.tmod 65536 := by have := Int.lt_tmod_of_pos n (show (0 : Int) < 65536 by omega); omega
  by_cases h : n.tmod 65536 < 0
  · rw [← tmod_neg n h]
    go_enter Try.func76, Try.ntmps76
    go_wp2
    go_ret
    exact ⟨rfl, rfl⟩
  · rw [← tmod_pos n h]
    go_enter Try.func76, Try.ntmps76
    go_wp2
    go_ret
    exact ⟨rfl, rfl⟩
theorem read_any (n : Int) (w : World) :
    Calls Try.prog 71 #[.int .i64 n] w fun e w' => e = .returned (.int .i64 (n % 65536)) ∧ w = w' := by
  go_enter Try.func71, Try.ntmps71
  go_wp2_with (go_at_call 76; refine (nmod_any _ _).mono ?_; rintro e w' ⟨rfl, rfl⟩)
  go_ret
  exact ⟨rfl, rfl⟩
theorem since_any (a b : Int) (w : World) (ha : 0 ≤ a ∧ a < 65536) (hb : 0 ≤ b ∧ b < 65536) :
    Calls Try.prog 65 #[.int .i64 a, .int .i64 b] w fun e w' => e = .returned (.int .i64 ((a - b) % 65536)) ∧ w = w' := by
  have t1 : IntKind.i64.wrap (a - b) = a - b := IntWalk.i64_in _ (by omega)
  go_enter Try.func65, Try.ntmps65
  go_wp2_with (go_at_call 71; refine (read_any _ _).mono ?_; rintro e w' ⟨rfl, rfl⟩)
  go_ret
  exact ⟨rfl, rfl⟩
theorem bothSince_any (a b : Int) (w : World) :
    Calls Try.prog 64 #[.func (.func 65) #[] #[], .int .i64 a, .int .i64 b] w fun e w' => e = .returned (.int .i64 ((a - b) % 65536)) ∧ w = w' := by
  have em : (a % 65536 - b % 65536) % 65536 = (a - b) % 65536 := by omega
  go_enter Try.func64, Try.ntmps64
  go_wp2_with (first
    | (go_at_call 71; refine (read_any _ _).mono ?_; rintro e w' ⟨rfl, rfl⟩)
    | (go_at_call 65; refine (since_any _ _ _ (by omega) (by omega)).mono ?_; rintro e w' ⟨rfl, rfl⟩))
  go_ret
  exact ⟨rfl, rfl⟩
theorem Diff_any (a b : Int) (w : World) :
    Calls Try.prog 48 #[.int .i64 a, .int .i64 b] w fun e w' => e = .returned (.int .i64 ((a - b) % 65536)) ∧ w = w' := by
  go_enter Try.func48, Try.ntmps48
  go_wp2_with (go_at_call 64; refine (bothSince_any _ _ _).mono ?_; rintro e w' ⟨rfl, rfl⟩)
  go_ret
  exact ⟨rfl, rfl⟩
end Go.Proofs.Ytcfakhfipdjnmaa

/- The calls Guard, Settle and All of package bound return what the document says, and make at most new memory; conditions: the table lies where it says, and its length fits int. -/
namespace Go.Proofs.Ytcfakhfipdjnmaa
open Go.ChangeShapes Go.WideShapes Go.ChangeAt Go.RowKit
set_option linter.unusedVariables false
attribute [local go_sem] cell_rg

set_option maxHeartbeats 1000000 in
theorem BGuard_any (n f d p r dr o sl md fr : Int) (ad : Option Addr) (cap : Nat) (zs : List Int) (w : World) (hl : zs.length ≤ 9223372036854775807) (hT : Tab w ad zs) :
    Calls Try.prog 53 #[.agg #[.int .i64 n, .int .i64 f, .int .i64 d, .int .i64 p, .int .i64 r, .int .i64 dr, .int .i64 o, .int .i64 sl, .int .i64 md, .int .i64 fr, .slice ad zs.length cap]] w fun e w' => e = .returned (.int .i64 (gate (plainE n f d p r dr o sl md fr zs) (guardF d r dr (lastE o sl zs)))) ∧ Below w.heap.size w w' := by
  have HT := hidden (hT.below (Joins.below_alloc2 w (.cells #[.int .i64 n, .int .i64 f, .int .i64 d, .int .i64 p, .int .i64 r, .int .i64 dr, .int .i64 o, .int .i64 sl, .int .i64 md, .int .i64 fr, .slice ad zs.length cap] 24) (.cells #[.int .i64 n, .int .i64 f, .int .i64 d, .int .i64 p, .int .i64 r, .int .i64 dr, .int .i64 o, .int .i64 sl, .int .i64 md, .int .i64 fr, .slice ad zs.length cap] 65)))
  have HP := hidden (cPlain_any n f d p r dr o sl md fr ad cap zs ((w.alloc (.cells #[.int .i64 n, .int .i64 f, .int .i64 d, .int .i64 p, .int .i64 r, .int .i64 dr, .int .i64 o, .int .i64 sl, .int .i64 md, .int .i64 fr, .slice ad zs.length cap] 24)).alloc (.cells #[.int .i64 n, .int .i64 f, .int .i64 d, .int .i64 p, .int .i64 r, .int .i64 dr, .int .i64 o, .int .i64 sl, .int .i64 md, .int .i64 fr, .slice ad zs.length cap] 65)) hl HT.out)
  clear hT
  by_cases hE : plainE n f d p r dr o sl md fr zs = 0
  · have HI := hidden (fun (v : World) (h : Tab v ad zs) => guard_any n f d p r dr o sl md fr ad cap zs v hE)
    have HG : Hid (gate (plainE n f d p r dr o sl md fr zs) (guardF d r dr (lastE o sl zs)) = guardF d r dr (lastE o sl zs)) := by rw [hE]; exact gate_ok _
    obtain ⟨_, _, f1, f2, _, d1, d2, _, p2, _⟩ := plainE_ok hE
    have p1 := plainE_p hE
    have hd : decide (plainE n f d p r dr o sl md fr zs = 0) = true := decide_eq_true hE
    rw [hd] at HP
    clear hd hE
    go_enter Try.func53, Try.ntmps53
    go_wp2_with fail
    refine HP.out.mono ?_
    rintro e w2 ⟨rfl, hb2⟩
    have HB2 := hidden hb2
    clear hb2
    obtain ⟨hbox, hbox1, hsz⟩ := box_at2 HB2.out
    go_wp2_with fail
    refine (HI.out _ (HT.out.below HB2.out)).mono ?_
    rintro e w3 ⟨rfl, hb3⟩
    have HB3 := hidden (bthen HB2.out hb3)
    clear hb3 hbox hbox1 hsz
    go_wp2
    go_ret
    exact ⟨ret_i HG.out.symm, bthen (Joins.below_alloc2 _ _ _) HB3.out⟩
  · have HG := hidden (gate_no hE (guardF d r dr (lastE o sl zs)))
    have hd : decide (plainE n f d p r dr o sl md fr zs = 0) = false := decide_eq_false hE
    rw [hd] at HP
    clear hd hE
    go_enter Try.func53, Try.ntmps53
    go_wp2_with fail
    refine HP.out.mono ?_
    rintro e w2 ⟨rfl, hb2⟩
    have HB2 := hidden hb2
    clear hb2
    go_wp2
    go_ret
    exact ⟨ret_i HG.out.symm, bthen (Joins.below_alloc2 _ _ _) HB2.out⟩
end Go.Proofs.Ytcfakhfipdjnmaa

/- The calls Elapsed, Now, canBe, Nominal, first and Clear of package slot return what plain functions give, and make at most new memory; conditions: the table lies where it says, its length and the numbers fit int. -/
namespace Go.Proofs.Ytcfakhfipdjnmaa
open Go.ChangeShapes Go.WideShapes Go.ChangeAt Go.RowKit Go.Shelf
set_option linter.unusedVariables false
attribute [local go_sem] cell_rg

theorem Elapsed_any (a b : Int) (w : World) :
    Calls Try.prog 22 #[.int .i64 a, .int .i64 b] w fun e w' => e = .returned (.int .i64 ((a - b) % 65536)) ∧ w = w' := by
  go_enter Try.func22, Try.ntmps22
  go_wp2_with (go_at_call 48; refine (Diff_any _ _ _).mono ?_; rintro e w' ⟨rfl, rfl⟩)
  go_ret
  exact ⟨rfl, rfl⟩
theorem Now_any (n f d p r dr o sl md fr : Int) (ad : Option Addr) (cap : Nat) (zs : List Int) (a b : Int) (w : World) (hl : zs.length ≤ 9223372036854775807) (hT : Tab w ad zs) :
    Calls Try.prog 24 #[.agg #[.int .i64 n, .int .i64 f, .int .i64 d, .int .i64 p, .int .i64 r, .int .i64 dr, .int .i64 o, .int .i64 sl, .int .i64 md, .int .i64 fr, .slice ad zs.length cap], .int .i64 a, .int .i64 b] w fun e w' => e = .returned (.int .i64 (slotF (plainE n f d p r dr o sl md fr zs) o sl zs.length ((a - b) % 65536))) ∧ Below w.heap.size w w' := by
  have HT := hidden (hT.below (ballc w (.cells #[.int .i64 n, .int .i64 f, .int .i64 d, .int .i64 p, .int .i64 r, .int .i64 dr, .int .i64 o, .int .i64 sl, .int .i64 md, .int .i64 fr, .slice ad zs.length cap] 24)))
  have HA := hidden (fun V h => SSlot_any n f d p r dr o sl md fr ad cap zs ((a - b) % 65536) V (by omega) hl h)
  have HE := hidden (fun V => Calls.to_below (Elapsed_any a b V))
  generalize slotF (plainE n f d p r dr o sl md fr zs) o sl zs.length ((a - b) % 65536) = R at *
  generalize (a - b) % 65536 = x at *
  clear hT
  go_enter Try.func24, Try.ntmps24
  go_wp2
  refine wp_region_quiet_below (by kernel_rfl) (by kernel_rfl) ?_
  repeat (go_big_quiet_step (first
    | (go_at_call 22; exact Calls.regrown_of (HE.out _))
    | (go_at_call 10; exact Calls.regrown_of (HA.out _ (HT.out.below (below_regrown _ _ _))))))
  refine wpQuiet_nil ?_
  intro w2 hw2
  have HB2 : Hid (Below w.heap.size w w2) := bthen (ballc w _) (rg_below hw2)
  clear hw2
  go_wp2
  go_ret
  exact ⟨rfl, HB2.out⟩
theorem canBe_any (t : Int) (w : World) :
    Calls Try.prog 50 #[.int .i64 t] w fun e w' => e = .returned (.bool (decide (0 ≤ t ∧ t ≤ 2000))) ∧ w = w' := by
  by_cases h1 : 0 ≤ t
  · have e1 : decide (0 ≤ t) = true := decide_eq_true h1
    have e2 : decide (0 ≤ t ∧ t ≤ 2000) = decide (t ≤ 2000) := by simp [h1]
    rw [e2]
    clear e2
    go_enter Try.func50, Try.ntmps50
    go_wp2
    go_ret
    exact ⟨rfl, rfl⟩
  · have e1 : decide (0 ≤ t) = false := decide_eq_false h1
    have e2 : decide (0 ≤ t ∧ t ≤ 2000) = false := by simp [h1]
    rw [e2]
    clear e2
    go_enter Try.func50, Try.ntmps50
    go_wp2
    go_ret
    exact ⟨rfl, rfl⟩
theorem wrap64_bd (x : Int) : -9223372036854775808 ≤ wrap64 x ∧ wrap64 x ≤ 9223372036854775807 := by unfold wrap64; omega
set_option maxHeartbeats 1000000 in
theorem Nominal_any (n f d p r dr o sl md fr : Int) (ad : Option Addr) (cap : Nat) (zs : List Int) (t : Int) (w : World) (hl : zs.length ≤ 9223372036854775807) (hT : Tab w ad zs) :
    Calls Try.prog 26 #[.agg #[.int .i64 n, .int .i64 f, .int .i64 d, .int .i64 p, .int .i64 r, .int .i64 dr, .int .i64 o, .int .i64 sl, .int .i64 md, .int .i64 fr, .slice ad zs.length cap], .int .i64 t] w fun e w' => e = .returned (.int .i64 (nomF (plainE n f d p r dr o sl md fr zs) r o sl zs.length t)) ∧ Below w.heap.size w w' := by
  have HT := hidden (hT.below (ballc w (.cells #[.int .i64 n, .int .i64 f, .int .i64 d, .int .i64 p, .int .i64 r, .int .i64 dr, .int .i64 o, .int .i64 sl, .int .i64 md, .int .i64 fr, .slice ad zs.length cap] 24)))
  have HC := hidden (fun V => canBe_any t V)
  have HA := hidden (fun V h => SSlot_any n f d p r dr o sl md fr ad cap zs (wrap64 (t * r)) V (wrap64_bd _) hl h)
  clear hT
  by_cases h : 0 ≤ t ∧ t ≤ 2000
  · have HV := hidden (nomF_in (E := plainE n f d p r dr o sl md fr zs) (r := r) (o := o) (sl := sl) (m := zs.length) h)
    rw [decide_eq_true h] at HC
    generalize slotF (plainE n f d p r dr o sl md fr zs) o sl zs.length (wrap64 (t * r)) = R at *
    clear h
    go_enter Try.func26, Try.ntmps26
    go_wp2_with fail
    refine (HC.out _).mono ?_
    rintro e w2 ⟨rfl, rfl⟩
    go_wp2_with fail
    refine (HA.out _ HT.out).mono ?_
    rintro e w3 ⟨rfl, hb3⟩
    have HB3 := hidden (bthen (ballc w _) hb3)
    clear hb3
    go_wp2
    go_ret
    exact ⟨ret_i HV.out.symm, HB3.out⟩
  · have HV := hidden (nomF_no (E := plainE n f d p r dr o sl md fr zs) (r := r) (o := o) (sl := sl) (m := zs.length) h)
    rw [decide_eq_false h] at HC
    clear h HA
    go_enter Try.func26, Try.ntmps26
    go_wp2_with fail
    refine (HC.out _).mono ?_
    rintro e w2 ⟨rfl, rfl⟩
    go_wp2
    go_ret
    exact ⟨ret_i HV.out.symm, ballc w _⟩

set_option maxHeartbeats 2000000 in
/-- The first slot of which holds what is asked, whatever function asks. -/
theorem first_any (n f d p r dr o sl md fr : Int) (ad : Option Addr) (cap : Nat) (zs : List Int) (F : Nat) (rv : Value) (eF : Enters Try.prog F) (h : Nat → Bool) (w : World) (hl : zs.length ≤ 1000000)
    (hG : ∀ k : Nat, k < zs.length → ∀ V, Below w.heap.size w V → Calls Try.prog F (#[rv] ++ #[.int .i64 (k : Int)]) V fun e V' => e = .returned (.bool (h k)) ∧ Below V.heap.size V V') :
    Calls Try.prog 54 #[.agg #[.int .i64 n, .int .i64 f, .int .i64 d, .int .i64 p, .int .i64 r, .int .i64 dr, .int .i64 o, .int .i64 sl, .int .i64 md, .int .i64 fr, .slice ad zs.length cap], .func (.func F) #[rv] #[]] w fun e w' => e = .returned (.int .i64 (firstF h (List.range zs.length))) ∧ Below w.heap.size w w' := by
  have HG := hidden hG
  have HB0 := hidden (ballc w (.cells #[.int .i64 n, .int .i64 f, .int .i64 d, .int .i64 p, .int .i64 r, .int .i64 dr, .int .i64 o, .int .i64 sl, .int .i64 md, .int .i64 fr, .slice ad zs.length cap] 24))
  clear hG
  unfold Enters at eF
  go_enter Try.func54, Try.ntmps54
  go_wp2
  go_loopw [5, 9] (fun sv iv wr => ∃ k : Nat, k ≤ zs.length ∧ iv = .int .i64 k ∧ (∀ j, j < k → h j = false) ∧ Below w.heap.size w wr) (fun _ iv _ => zs.length - (intV iv).toNat)
  case atStart => exact ⟨0, Nat.zero_le _, rfl, fun j hj => absurd hj (Nat.not_lt_zero _), HB0.out⟩
  case round =>
    obtain ⟨k, hk, rfl, hn, hB⟩ := hrel
    have HB := hidden hB
    have HN := hidden hn
    clear hB hn
    by_cases hlt : k < zs.length
    · have i2 : (k : Int) < (zs.length : Int) := by omega
      have HCall := hidden (HG.out k hlt wr HB.out)
      have HH := hidden (fun hp => firstF_range_hit (p := h) hlt hp HN.out)
      have HM := hidden (fun (hp : h k = false) => show ∀ j, j < k + 1 → h j = false from fun j hj => by
        by_cases e : j = k
        · subst e; exact hp
        · exact HN.out j (by omega))
      generalize h k = hb at *
      cases hb with
      | true =>
        have HV := hidden (HH.out rfl)
        clear HH HM
        go_wp2_with (go_at_fn F; refine HCall.out.mono ?_; rintro e w2 ⟨rfl, hb2⟩; refine Hid.out ?_)
        have HB2 := hidden (bthen HB.out hb2)
        clear hb2
        refine hidden ?_
        go_wp2
        go_ret
        exact ⟨ret_i HV.out.symm, HB2.out⟩
      | false =>
        have HV := hidden (HM.out rfl)
        clear HH HM
        go_wp2_with (go_at_fn F; refine HCall.out.mono ?_; rintro e w2 ⟨rfl, hb2⟩; refine Hid.out ?_)
        have HB2 := hidden (bthen HB.out hb2)
        clear hb2
        refine hidden ?_
        go_wp2
        go_roundw
        case rel => exact ⟨k + 1, by omega, by go_num, HV.out, HB2.out⟩
        case measure => simp [intV]; omega
    · obtain rfl : k = zs.length := by omega
      have i2 : ¬ (zs.length : Int) < (zs.length : Int) := by omega
      have HV := hidden (firstF_range_none (p := h) HN.out)
      go_wp2
      go_ret
      exact ⟨ret_i HV.out.symm, HB.out⟩
end Go.Proofs.Ytcfakhfipdjnmaa

/- The calls Window, isWithin and Hit of package slot return what plain functions give, and make at most new memory; conditions: the table lies where it says, its length and the numbers fit int. -/
namespace Go.Proofs.Ytcfakhfipdjnmaa
open Go.ChangeShapes Go.WideShapes Go.ChangeAt Go.RowKit Go.Shelf
set_option linter.unusedVariables false
attribute [local go_sem] cell_rg

theorem ret2_ii {a b c d : Int} (h : a = c) (k : b = d) : Ending.returned (.tuple #[.int .i64 a, .int .i64 b]) = .returned (.tuple #[.int .i64 c, .int .i64 d]) := by rw [h, k]
theorem own_pos {n : Int} {zs : List Int} (h : ownsB n zs = true) {k : Nat} (hk : k < zs.length) : 0 ≤ zs.getD k 0 := ((ownsB_iff.1 h).1 (zs.getD k 0) (by simp [hk])).1

set_option maxHeartbeats 1000000 in
theorem Window_any (n f d p r dr o sl md fr : Int) (ad : Option Addr) (cap : Nat) (zs : List Int) (s : Int) (w : World) (hs : -9223372036854775808 ≤ s ∧ s ≤ 9223372036854775807) (hl : zs.length ≤ 9223372036854775807) (hT : Tab w ad zs) :
    Calls Try.prog 29 #[.agg #[.int .i64 n, .int .i64 f, .int .i64 d, .int .i64 p, .int .i64 r, .int .i64 dr, .int .i64 o, .int .i64 sl, .int .i64 md, .int .i64 fr, .slice ad zs.length cap], .int .i64 s] w fun e w' => e = .returned (.tuple #[.int .i64 (win1 (plainE n f d p r dr o sl md fr zs) d r (guardF d r dr (lastE o sl zs)) o sl zs.length s), .int .i64 (win2 (plainE n f d p r dr o sl md fr zs) d r (guardF d r dr (lastE o sl zs)) o sl zs.length s)]) ∧ Below w.heap.size w w' := by
  have HT := hidden (hT.below (ballc w (.cells #[.int .i64 n, .int .i64 f, .int .i64 d, .int .i64 p, .int .i64 r, .int .i64 dr, .int .i64 o, .int .i64 sl, .int .i64 md, .int .i64 fr, .slice ad zs.length cap] 24)))
  have HO := hidden (SOwner_any n f d p r dr o sl md fr ad cap zs s (w.alloc (.cells #[.int .i64 n, .int .i64 f, .int .i64 d, .int .i64 p, .int .i64 r, .int .i64 dr, .int .i64 o, .int .i64 sl, .int .i64 md, .int .i64 fr, .slice ad zs.length cap] 24)) hs hl HT.out)
  have HM := hidden (fun V h => BMiddle_any n f d p r dr o sl md fr ad cap zs s V hl h)
  have HG := hidden (fun V h => BGuard_any n f d p r dr o sl md fr ad cap zs V hl h)
  clear hT
  by_cases hin : plainE n f d p r dr o sl md fr zs = 0 ∧ 0 ≤ s ∧ s < (zs.length : Int)
  · obtain ⟨hE, s1, s2⟩ := hin
    obtain ⟨k, rfl⟩ := Int.eq_ofNat_of_zero_le s1
    have hk : k < zs.length := by omega
    obtain ⟨M1, M2⟩ := lastE_bd hE
    obtain ⟨_, _, _, _, _, d1, d2, _, _, r1, r2, dr1, dr2, o1, o2, sl1, sl2, _, _, _, _, z1, z2, zo⟩ := plainE_ok hE
    have ho := own_pos zo hk
    obtain ⟨g1, g2⟩ := guardF_in d1 d2 r1 r2 dr1 dr2 M1 M2
    obtain ⟨m1, m2⟩ := midE_bd (s := (k : Int)) s1 (by omega) o1 o2 sl1 sl2
    obtain ⟨q0, q1⟩ := mul_bd (show 0 ≤ d by omega) d2 (show 0 ≤ r by omega) r2
    rw [hE] at HO HM HG ⊢
    rw [ownF_in hk] at HO
    rw [slotB_yes s1 s2] at HM
    simp only [placeE_yes] at HM
    simp only [gate_ok] at HG
    rw [win1_in hk, win2_in hk]
    unfold winLo winHi
    generalize zs.getD k 0 = ow at *
    generalize midE o sl (k : Int) = M at *
    generalize guardF d r dr (lastE o sl zs) = G at *
    generalize hdr : d * r = P at *
    have t1 : IntKind.i64.wrap P = P := IntWalk.i64_in _ (by omega)
    have t2 : IntKind.i64.wrap (M + P) = M + P := IntWalk.i64_in _ (by omega)
    have e0 : (ow == -1) = false := by rw [beq_eq_false_iff_ne]; omega
    clear hE M1 M2 zo ho
    go_enter Try.func29, Try.ntmps29
    go_wp2_with fail
    refine HO.out.mono ?_
    rintro e w2 ⟨rfl, hb2⟩
    have HB2 := hidden hb2
    have HT2 := hidden (HT.out.below hb2)
    clear hb2
    obtain ⟨hbox, hsz⟩ := box_at HB2.out
    go_wp2
    refine wp_region_quiet_below (by kernel_rfl) (by kernel_rfl) ?_
    repeat (go_big_quiet_step ((go_at_call 52; exact Calls.regrown_of (HM.out _ (HT2.out.below (below_regrown _ _ _))))))
    refine wpQuiet_nil ?_
    intro w3 hw3
    have HB3 := hidden (bthen HB2.out (rg_below hw3))
    have HT3 := hidden (HT2.out.below (rg_below hw3))
    clear hw3 hbox hsz t1 t2
    obtain ⟨hbox, hsz⟩ := box_at HB3.out
    go_wp2_with fail
    refine (HG.out _ HT3.out).mono ?_
    rintro e w4 ⟨rfl, hb4⟩
    have HB4 := hidden (bthen HB3.out hb4)
    clear hb4 hbox hsz
    go_wp2
    refine bodyPost_ret (v := .tuple #[.int .i64 (M + P - G), .int .i64 (M + P + G)]) (by simp [results, Try.results29, go_sem]) rfl ⟨rfl, bthen (ballc w _) HB4.out⟩
  · have hO : ownF (plainE n f d p r dr o sl md fr zs) zs s = -1 := by
      by_cases hE : plainE n f d p r dr o sl md fr zs = 0
      · exact ownF_no (fun c => hin ⟨hE, c⟩)
      · exact ownF_err hE
    rw [hO] at HO
    rw [win1_no hin, win2_no hin]
    clear hin hO HM HG
    go_enter Try.func29, Try.ntmps29
    go_wp2_with fail
    refine HO.out.mono ?_
    rintro e w2 ⟨rfl, hb2⟩
    have HB2 := hidden hb2
    clear hb2
    go_wp2
    refine bodyPost_ret (v := .tuple #[.int .i64 0, .int .i64 0]) (by simp [results, Try.results29, go_sem]) rfl ⟨rfl, bthen (ballc w _) HB2.out⟩

set_option maxHeartbeats 1000000 in
theorem isWithin_any (n f d p r dr o sl md fr : Int) (ad : Option Addr) (cap : Nat) (zs : List Int) (el : Int) (k : Nat) (w : World) (hP : plainE n f d p r dr o sl md fr zs = 0) (hk : k < zs.length) (hl : zs.length ≤ 9223372036854775807) (hT : Tab w ad zs) :
    Calls Try.prog 57 #[.agg #[.int .i64 n, .int .i64 f, .int .i64 d, .int .i64 p, .int .i64 r, .int .i64 dr, .int .i64 o, .int .i64 sl, .int .i64 md, .int .i64 fr, .slice ad zs.length cap, .int .i64 el], .int .i64 (k : Int)] w fun e w' => e = .returned (.bool (inWin d r (guardF d r dr (lastE o sl zs)) o sl el k)) ∧ Below w.heap.size w w' := by
  have HW := hidden (Window_any n f d p r dr o sl md fr ad cap zs (k : Int) (w.alloc (.cells #[.int .i64 n, .int .i64 f, .int .i64 d, .int .i64 p, .int .i64 r, .int .i64 dr, .int .i64 o, .int .i64 sl, .int .i64 md, .int .i64 fr, .slice ad zs.length cap, .int .i64 el] 57)) (by have := (plainE_ok hP).2.2.2.2.2.2.2.2.2.2.2.2.2.2.2.2.2.2.2.2.2.2.1; omega) hl (hT.below (ballc _ _)))
  rw [hP, win1_in hk, win2_in hk] at HW
  generalize guardF d r dr (lastE o sl zs) = G at *
  have HV : Hid (inWin d r G o sl el k = (decide (winLo d r G o sl k ≤ el) && decide (el ≤ winHi d r G o sl k))) := rfl
  generalize inWin d r G o sl el k = R at *
  generalize winLo d r G o sl k = lo at *
  generalize winHi d r G o sl k = hi at *
  clear hT hP
  by_cases h1 : lo ≤ el
  · have e1 : decide (lo ≤ el) = true := decide_eq_true h1
    have HR : Hid (R = decide (el ≤ hi)) := hidden (by rw [HV.out, e1, Bool.true_and])
    clear HV
    go_enter Try.func57, Try.ntmps57
    go_wp2_with fail
    refine HW.out.mono ?_
    rintro e w2 ⟨rfl, hb2⟩
    have HB2 := hidden hb2
    clear hb2
    obtain ⟨hbox, hsz⟩ := box_at HB2.out
    go_wp2
    go_ret
    exact ⟨ret_b HR.out.symm, bthen (ballc w _) HB2.out⟩
  · have e1 : decide (lo ≤ el) = false := decide_eq_false h1
    have HR : Hid (R = false) := hidden (by rw [HV.out, e1, Bool.false_and])
    clear HV
    go_enter Try.func57, Try.ntmps57
    go_wp2_with fail
    refine HW.out.mono ?_
    rintro e w2 ⟨rfl, hb2⟩
    have HB2 := hidden hb2
    clear hb2
    obtain ⟨hbox, hsz⟩ := box_at HB2.out
    go_wp2
    go_ret
    exact ⟨ret_b HR.out.symm, bthen (ballc w _) HB2.out⟩

set_option maxHeartbeats 1000000 in
theorem Hit_any (n f d p r dr o sl md fr : Int) (ad : Option Addr) (cap : Nat) (zs : List Int) (el : Int) (w : World) (hl : zs.length ≤ 9223372036854775807) (hT : Tab w ad zs) :
    Calls Try.prog 33 #[.agg #[.int .i64 n, .int .i64 f, .int .i64 d, .int .i64 p, .int .i64 r, .int .i64 dr, .int .i64 o, .int .i64 sl, .int .i64 md, .int .i64 fr, .slice ad zs.length cap], .int .i64 el] w fun e w' => e = .returned (.int .i64 (hitF (plainE n f d p r dr o sl md fr zs) d r (guardF d r dr (lastE o sl zs)) o sl zs.length el)) ∧ Below w.heap.size w w' := by
  have HT := hidden (hT.below (ballc w (.cells #[.int .i64 n, .int .i64 f, .int .i64 d, .int .i64 p, .int .i64 r, .int .i64 dr, .int .i64 o, .int .i64 sl, .int .i64 md, .int .i64 fr, .slice ad zs.length cap] 24)))
  have HP := hidden (plain_any n f d p r dr o sl md fr ad cap zs (w.alloc (.cells #[.int .i64 n, .int .i64 f, .int .i64 d, .int .i64 p, .int .i64 r, .int .i64 dr, .int .i64 o, .int .i64 sl, .int .i64 md, .int .i64 fr, .slice ad zs.length cap] 24)) hl HT.out)
  clear hT
  by_cases hE : plainE n f d p r dr o sl md fr zs = 0
  case neg =>
    have HV := hidden (hitF_err (d := d) (r := r) (G := guardF d r dr (lastE o sl zs)) (o := o) (sl := sl) (m := zs.length) (e := el) hE)
    generalize plainE n f d p r dr o sl md fr zs = E at *
    go_enter Try.func33, Try.ntmps33
    go_wp2_with fail
    refine HP.out.mono ?_
    rintro e w2 ⟨rfl, hb2⟩
    have HB2 := hidden hb2
    clear hb2
    go_wp2
    go_ret
    exact ⟨ret_i HV.out.symm, bthen (ballc w _) HB2.out⟩
  have hz := (plainE_ok hE).2.2.2.2.2.2.2.2.2.2.2.2.2.2.2.2.2.2.2.2.2
  have HFi := hidden (fun V (hV : Tab V ad zs) => first_any n f d p r dr o sl md fr ad cap zs 57 (.agg #[.int .i64 n, .int .i64 f, .int .i64 d, .int .i64 p, .int .i64 r, .int .i64 dr, .int .i64 o, .int .i64 sl, .int .i64 md, .int .i64 fr, .slice ad zs.length cap, .int .i64 el]) (enters_of Try.func57 (by kernel_rfl) rfl) (inWin d r (guardF d r dr (lastE o sl zs)) o sl el) V (by omega) (fun k hk U hU => isWithin_any n f d p r dr o sl md fr ad cap zs el k U hE hk hl (hV.below hU)))
  rw [hE] at HP ⊢
  rw [hitF_ok]
  clear hE hz
  generalize firstF (inWin d r (guardF d r dr (lastE o sl zs)) o sl el) (List.range zs.length) = x at *
  go_enter Try.func33, Try.ntmps33
  go_wp2_with fail
  refine HP.out.mono ?_
  rintro e w2 ⟨rfl, hb2⟩
  have HB2 := hidden hb2
  clear hb2
  obtain ⟨hbox, hsz⟩ := box_at HB2.out
  go_wp2_with fail
  refine (HFi.out _ (HT.out.below HB2.out)).mono ?_
  rintro e w4 ⟨rfl, hb4⟩
  have HB4 := hidden (bthen HB2.out hb4)
  clear hb4 hbox hsz
  go_wp2
  go_ret
  exact ⟨rfl, bthen (ballc w _) HB4.out⟩
end Go.Proofs.Ytcfakhfipdjnmaa

/- The calls of the document's answer on clocks return what plain functions on integers give, and leave the world as it was; for integers that fit int. -/
namespace Go.Proofs.Ytcfakhfipdjnmaa
open Go.ChangeShapes Go.WideShapes Go.ChangeAt Go.RowKit
set_option linter.unusedVariables false

theorem rmod_any (n : Int) (w : World) :
    Calls Try.prog 72 #[.int .i64 n, .int .i64 65536] w fun e w' => e = .returned (.int .i64 (n % 65536)) ∧ w = w' := by
  have hr : -65536 < n.tmod 65536 := by have := Int.lt_tmod_of_pos n (show (0 : Int) < 65536 by omega); omega
  by_cases h : n.tmod 65536 < 0
  · rw [← tmod_neg n h]
    go_enter Try.func72, Try.ntmps72
    go_wp2
    go_ret
    exact ⟨rfl, rfl⟩
  · rw [← tmod_pos n h]
    go_enter Try.func72, Try.ntmps72
    go_wp2
    go_ret
    exact ⟨rfl, rfl⟩
theorem rPut_any (n : Int) (w : World) :
    Calls Try.prog 66 #[.int .i64 n] w fun e w' => e = .returned (.int .i64 (n % 65536)) ∧ w = w' := by
  go_enter Try.func66, Try.ntmps66
  go_wp2_with (go_at_call 72; refine (rmod_any _ _).mono ?_; rintro e w' ⟨rfl, rfl⟩)
  go_ret
  exact ⟨rfl, rfl⟩
theorem rDiff_any (a b : Int) (w : World) :
    Calls Try.prog 49 #[.int .i64 a, .int .i64 b] w fun e w' => e = .returned (.int .i64 ((a - b) % 65536)) ∧ w = w' := by
  have em : (a % 65536 - b % 65536) % 65536 = (a - b) % 65536 := by omega
  have t1 : IntKind.i64.wrap (a % 65536 - b % 65536) = a % 65536 - b % 65536 := IntWalk.i64_in _ (by omega)
  go_enter Try.func49, Try.ntmps49
  go_wp2_with (go_at_call 66; refine (rPut_any _ _).mono ?_; rintro e w' ⟨rfl, rfl⟩)
  go_ret
  exact ⟨rfl, rfl⟩
end Go.Proofs.Ytcfakhfipdjnmaa

/- The document's calls Elapsed, Now, Nominal, Clear, Window and Hit of layer 22 return what plain functions give, and make at most new memory; conditions: the table lies where it says, its length and the numbers fit int. -/
namespace Go.Proofs.Ytcfakhfipdjnmaa
open Go.ChangeShapes Go.WideShapes Go.ChangeAt Go.RowKit Go.Shelf
set_option linter.unusedVariables false
attribute [local go_sem] cell_rg

theorem rElapsed_any (a b : Int) (w : World) :
    Calls Try.prog 23 #[.int .i64 a, .int .i64 b] w fun e w' => e = .returned (.int .i64 ((a - b) % 65536)) ∧ w = w' := by
  go_enter Try.func23, Try.ntmps23
  go_wp2_with (go_at_call 49; refine (rDiff_any _ _ _).mono ?_; rintro e w' ⟨rfl, rfl⟩)
  go_ret
  exact ⟨rfl, rfl⟩
theorem rNow_any (n f d p r dr o sl md fr : Int) (ad : Option Addr) (cap : Nat) (zs : List Int) (a b : Int) (w : World) (hl : zs.length ≤ 9223372036854775807) (hT : Tab w ad zs) :
    Calls Try.prog 25 #[.agg #[.int .i64 n, .int .i64 f, .int .i64 d, .int .i64 p, .int .i64 r, .int .i64 dr, .int .i64 o, .int .i64 sl, .int .i64 md, .int .i64 fr, .slice ad zs.length cap], .int .i64 a, .int .i64 b] w fun e w' => e = .returned (.int .i64 (slotF (plainE n f d p r dr o sl md fr zs) o sl zs.length ((a - b) % 65536))) ∧ Below w.heap.size w w' := by
  have HT := hidden (hT.below (ballc w (.cells #[.int .i64 n, .int .i64 f, .int .i64 d, .int .i64 p, .int .i64 r, .int .i64 dr, .int .i64 o, .int .i64 sl, .int .i64 md, .int .i64 fr, .slice ad zs.length cap] 24)))
  have HA := hidden (fun V h => rSlot_any n f d p r dr o sl md fr ad cap zs ((a - b) % 65536) V (by omega) hl h)
  have HE := hidden (fun V => Calls.to_below (rElapsed_any a b V))
  generalize slotF (plainE n f d p r dr o sl md fr zs) o sl zs.length ((a - b) % 65536) = R at *
  generalize (a - b) % 65536 = x at *
  clear hT
  go_enter Try.func25, Try.ntmps25
  go_wp2
  refine wp_region_quiet_below (by kernel_rfl) (by kernel_rfl) ?_
  repeat (go_big_quiet_step (first
    | (go_at_call 23; exact Calls.regrown_of (HE.out _))
    | (go_at_call 11; exact Calls.regrown_of (HA.out _ (HT.out.below (below_regrown _ _ _))))))
  refine wpQuiet_nil ?_
  intro w2 hw2
  have HB2 : Hid (Below w.heap.size w w2) := bthen (ballc w _) (rg_below hw2)
  clear hw2
  go_wp2
  go_ret
  exact ⟨rfl, HB2.out⟩
set_option maxHeartbeats 1000000 in
theorem rNominal_any (n f d p r dr o sl md fr : Int) (ad : Option Addr) (cap : Nat) (zs : List Int) (t : Int) (w : World) (hl : zs.length ≤ 9223372036854775807) (hT : Tab w ad zs) :
    Calls Try.prog 27 #[.agg #[.int .i64 n, .int .i64 f, .int .i64 d, .int .i64 p, .int .i64 r, .int .i64 dr, .int .i64 o, .int .i64 sl, .int .i64 md, .int .i64 fr, .slice ad zs.length cap], .int .i64 t] w fun e w' => e = .returned (.int .i64 (nomF (plainE n f d p r dr o sl md fr zs) r o sl zs.length t)) ∧ Below w.heap.size w w' := by
  have HT := hidden (hT.below (ballc w (.cells #[.int .i64 n, .int .i64 f, .int .i64 d, .int .i64 p, .int .i64 r, .int .i64 dr, .int .i64 o, .int .i64 sl, .int .i64 md, .int .i64 fr, .slice ad zs.length cap] 24)))
  have HA := hidden (fun V h => rSlot_any n f d p r dr o sl md fr ad cap zs (wrap64 (t * r)) V (wrap64_bd _) hl h)
  clear hT
  by_cases h0 : t < 0
  · have HV := hidden (nomF_no (E := plainE n f d p r dr o sl md fr zs) (r := r) (o := o) (sl := sl) (m := zs.length) (t := t) (by omega))
    have e1 : decide (t < 0) = true := decide_eq_true h0
    clear HA
    go_enter Try.func27, Try.ntmps27
    go_wp2
    go_ret
    exact ⟨ret_i HV.out.symm, ballc w _⟩
  have e1 : decide (t < 0) = false := decide_eq_false h0
  by_cases h1 : 2000 < t
  · have HV := hidden (nomF_no (E := plainE n f d p r dr o sl md fr zs) (r := r) (o := o) (sl := sl) (m := zs.length) (t := t) (by omega))
    have e2 : decide (2000 < t) = true := decide_eq_true h1
    clear HA
    go_enter Try.func27, Try.ntmps27
    go_wp2
    go_ret
    exact ⟨ret_i HV.out.symm, ballc w _⟩
  have e2 : decide (2000 < t) = false := decide_eq_false h1
  have HV := hidden (nomF_in (E := plainE n f d p r dr o sl md fr zs) (r := r) (o := o) (sl := sl) (m := zs.length) (t := t) (by omega))
  generalize slotF (plainE n f d p r dr o sl md fr zs) o sl zs.length (wrap64 (t * r)) = R at *
  go_enter Try.func27, Try.ntmps27
  go_wp2_with fail
  refine (HA.out _ HT.out).mono ?_
  rintro e w3 ⟨rfl, hb3⟩
  have HB3 := hidden (bthen (ballc w _) hb3)
  clear hb3
  go_wp2
  go_ret
  exact ⟨ret_i HV.out.symm, HB3.out⟩

set_option maxHeartbeats 1000000 in
theorem rfar_any (n f d p r dr o sl md fr : Int) (ad : Option Addr) (cap : Nat) (zs : List Int) (t u : Int) (w : World) (r1 : 1 ≤ r) (r2 : r ≤ 64) (dr1 : 0 ≤ dr) (dr2 : dr ≤ r - 1) (t1 : 0 ≤ t) (t2 : t ≤ 2000) (u1 : 0 ≤ u) (u2 : u ≤ 2000000) :
    Calls Try.prog 56 #[.agg #[.int .i64 n, .int .i64 f, .int .i64 d, .int .i64 p, .int .i64 r, .int .i64 dr, .int .i64 o, .int .i64 sl, .int .i64 md, .int .i64 fr, .slice ad zs.length cap], .int .i64 t, .int .i64 u] w fun e w' => e = .returned (.bool (farB r dr t u)) ∧ Below w.heap.size w w' := by
  obtain ⟨b0, b1⟩ := mul_bd t1 t2 (show 0 ≤ r by omega) r2
  obtain ⟨c0, c1⟩ := mul_bd t1 t2 dr1 (show dr ≤ 63 by omega)
  have HV : Hid (farB r dr t u = (decide (t * dr < t * r - u) || decide (t * dr < -(t * r - u)))) := rfl
  generalize farB r dr t u = R at *
  generalize hP : t * r = P at *
  generalize hQ : t * dr = Q at *
  by_cases h0 : Q < P - u
  · have e1 : decide (Q < P - u) = true := decide_eq_true h0
    have HR : Hid (R = true) := hidden (by rw [HV.out, e1, Bool.true_or])
    clear HV
    go_enter Try.func56, Try.ntmps56
    go_wp2
    go_ret
    exact ⟨ret_b HR.out.symm, ballc w _⟩
  · have e1 : decide (Q < P - u) = false := decide_eq_false h0
    have HR : Hid (R = decide (Q < -(P - u))) := hidden (by rw [HV.out, e1, Bool.false_or])
    clear HV
    go_enter Try.func56, Try.ntmps56
    go_wp2
    go_ret
    exact ⟨ret_b HR.out.symm, ballc w _⟩

theorem all_range_yes {p : Nat → Bool} {m : Nat} (h : ∀ j, j < m → p j = true) (hm : p m = true) : (List.range (m + 1)).all p = true := by
  rw [List.all_eq_true]
  intro k hk
  have hk := List.mem_range.1 hk
  by_cases e : k = m
  · subst e; exact hm
  · exact h k (by omega)
theorem all_range_no {p : Nat → Bool} {m k : Nat} (hk : k ≤ m) (h : p k = false) : (List.range (m + 1)).all p = false := by
  rw [← Bool.not_eq_true, List.all_eq_true]
  intro c
  have := c k (List.mem_range.2 (by omega))
  rw [h] at this
  cases this
set_option maxHeartbeats 2000000 in
theorem rClear_any (n f d p r dr o sl md fr : Int) (ad : Option Addr) (cap : Nat) (zs : List Int) (t : Int) (w : World) (hl : zs.length ≤ 9223372036854775807) (hT : Tab w ad zs) :
    Calls Try.prog 32 #[.agg #[.int .i64 n, .int .i64 f, .int .i64 d, .int .i64 p, .int .i64 r, .int .i64 dr, .int .i64 o, .int .i64 sl, .int .i64 md, .int .i64 fr, .slice ad zs.length cap], .int .i64 t] w fun e w' => e = .returned (.bool (clearB (plainE n f d p r dr o sl md fr zs) r dr o sl zs.length t)) ∧ Below w.heap.size w w' := by
  have HT := hidden (hT.below (ballc w (.cells #[.int .i64 n, .int .i64 f, .int .i64 d, .int .i64 p, .int .i64 r, .int .i64 dr, .int .i64 o, .int .i64 sl, .int .i64 md, .int .i64 fr, .slice ad zs.length cap] 24)))
  have HP := hidden (refPlain_any n f d p r dr o sl md fr ad cap zs (w.alloc (.cells #[.int .i64 n, .int .i64 f, .int .i64 d, .int .i64 p, .int .i64 r, .int .i64 dr, .int .i64 o, .int .i64 sl, .int .i64 md, .int .i64 fr, .slice ad zs.length cap] 24)) hl HT.out)
  have HI := hidden (fun (k : Nat) v h => RBegin_any n f d p r dr o sl md fr ad cap zs (k : Int) v hl h)
  clear hT
  by_cases hE : plainE n f d p r dr o sl md fr zs = 0
  case neg =>
    have HV := hidden (clearB_no (r := r) (dr := dr) (o := o) (sl := sl) (m := zs.length) (t := t) (fun c => hE c.1))
    clear HI
    generalize plainE n f d p r dr o sl md fr zs = E at *
    have e0 : (E != 0) = true := by simp [hE]
    clear hE
    go_enter Try.func32, Try.ntmps32
    go_wp2_with fail
    refine HP.out.mono ?_
    rintro e w2 ⟨rfl, hb2⟩
    have HB2 := hidden hb2
    clear hb2
    go_wp2
    go_ret
    exact ⟨ret_b HV.out.symm, bthen (ballc w _) HB2.out⟩
  by_cases h0 : t < 0
  · have HV := hidden (clearB_no (E := plainE n f d p r dr o sl md fr zs) (r := r) (dr := dr) (o := o) (sl := sl) (m := zs.length) (t := t) (fun c => by omega))
    have e1 : decide (t < 0) = true := decide_eq_true h0
    rw [hE] at HP HV ⊢
    clear hE HI
    go_enter Try.func32, Try.ntmps32
    go_wp2_with fail
    refine HP.out.mono ?_
    rintro e w2 ⟨rfl, hb2⟩
    have HB2 := hidden hb2
    clear hb2
    go_wp2
    go_ret
    exact ⟨ret_b HV.out.symm, bthen (ballc w _) HB2.out⟩
  have e1 : decide (t < 0) = false := decide_eq_false h0
  by_cases h1 : 2000 < t
  · have HV := hidden (clearB_no (E := plainE n f d p r dr o sl md fr zs) (r := r) (dr := dr) (o := o) (sl := sl) (m := zs.length) (t := t) (fun c => by omega))
    have e2 : decide (2000 < t) = true := decide_eq_true h1
    rw [hE] at HP HV ⊢
    clear hE HI
    go_enter Try.func32, Try.ntmps32
    go_wp2_with fail
    refine HP.out.mono ?_
    rintro e w2 ⟨rfl, hb2⟩
    have HB2 := hidden hb2
    clear hb2
    go_wp2
    go_ret
    exact ⟨ret_b HV.out.symm, bthen (ballc w _) HB2.out⟩
  have e2 : decide (2000 < t) = false := decide_eq_false h1
  obtain ⟨_, _, _, _, _, _, _, _, _, r1, r2, dr1, dr2, o1, o2, sl1, sl2, _, _, _, _, z1, z2, _⟩ := plainE_ok hE
  have HV := hidden (clearB_in (r := r) (dr := dr) (o := o) (sl := sl) (m := zs.length) (t := t) (by omega))
  have HF := hidden (fun u V h1 h2 => rfar_any n f d p r dr o sl md fr ad cap zs t u V r1 r2 dr1 dr2 (by omega) (by omega) h1 h2)
  have HX := hidden (fun k => next_begin o sl k)
  rw [hE] at HP HI ⊢
  generalize clearB 0 r dr o sl zs.length t = R at *
  clear hE
  go_enter Try.func32, Try.ntmps32
  go_wp2_with fail
  refine HP.out.mono ?_
  rintro e w2 ⟨rfl, hb2⟩
  have HB2 := hidden hb2
  clear hb2
  go_wp2
  go_loopw [5] (fun i wr => ∃ k : Nat, k ≤ zs.length ∧ i = .int .i64 k ∧ (∀ j : Nat, j < k → farB r dr t (o + (j : Int) * sl) = true) ∧ Below (w.alloc (.cells #[.int .i64 n, .int .i64 f, .int .i64 d, .int .i64 p, .int .i64 r, .int .i64 dr, .int .i64 o, .int .i64 sl, .int .i64 md, .int .i64 fr, .slice ad zs.length cap] 24)).heap.size (w.alloc (.cells #[.int .i64 n, .int .i64 f, .int .i64 d, .int .i64 p, .int .i64 r, .int .i64 dr, .int .i64 o, .int .i64 sl, .int .i64 md, .int .i64 fr, .slice ad zs.length cap] 24)) wr) (fun i _ => zs.length - (intV i).toNat)
  case atStart => exact ⟨0, Nat.zero_le _, rfl, fun j hj => absurd hj (Nat.not_lt_zero _), HB2.out⟩
  case round =>
    obtain ⟨k, hk, rfl, hn, hB⟩ := hrel
    have HB := hidden hB
    have HNo := hidden hn
    have HTk := hidden (HT.out.below hB)
    clear hB hn
    obtain ⟨hbox, hsz⟩ := box_at HB.out
    by_cases hlt : k < zs.length
    · have i2 : (k : Int) < (zs.length : Int) := by omega
      have HC := hidden (fun v h => HI.out k v h)
      rw [slotB_yes (by omega) i2] at HC
      simp only [placeE_yes] at HC
      obtain ⟨b0, b1⟩ := mul_bd (show 0 ≤ (k : Int) by omega) (show (k : Int) ≤ 31 by omega) (show 0 ≤ sl by omega) sl2
      have HFk := hidden (fun V => HF.out (o + (k : Int) * sl) V (by omega) (by omega))
      have HY := hidden (fun (h : farB r dr t (o + (k : Int) * sl) = true) => show ∀ j : Nat, j < k + 1 → farB r dr t (o + (j : Int) * sl) = true from fun j hj => by
        by_cases ej : j = k
        · subst ej; exact h
        · exact HNo.out j (by omega))
      have HZ := hidden (fun (h : farB r dr t (o + (k : Int) * sl) = false) => all_range_no (p := fun k => farB r dr t (o + (k : Int) * sl)) hk h)
      generalize farB r dr t (o + (k : Int) * sl) = fb at *
      generalize hp : (k : Int) * sl = P at *
      clear hp HI HF
      cases fb with
      | true =>
        have HYk := hidden (HY.out rfl)
        clear HY HZ
        go_wp2
        refine wp_region_quiet_below (by kernel_rfl) (by kernel_rfl) ?_
        repeat (go_big_quiet_step (first
          | (go_at_call 38; exact Calls.regrown_of (HC.out _ (HTk.out.below (below_regrown _ _ _))))
          | (go_at_call 56; exact Calls.regrown_of (HFk.out _))))
        refine wpQuiet_nil ?_
        intro w3 hw3
        have HB3 := hidden (bthen HB.out (rg_below hw3))
        clear hw3 hbox hsz
        go_wp2
        go_roundw
        case rel => exact ⟨k + 1, by omega, by go_num, HYk.out, HB3.out⟩
        case measure => simp [intV]; omega
      | false =>
        have HZk := hidden (HZ.out rfl)
        clear HY HZ
        go_wp2
        refine wp_region_quiet_below (by kernel_rfl) (by kernel_rfl) ?_
        repeat (go_big_quiet_step (first
          | (go_at_call 38; exact Calls.regrown_of (HC.out _ (HTk.out.below (below_regrown _ _ _))))
          | (go_at_call 56; exact Calls.regrown_of (HFk.out _))))
        refine wpQuiet_nil ?_
        intro w3 hw3
        have HB3 := hidden (bthen HB.out (rg_below hw3))
        clear hw3 hbox hsz
        go_wp2
        go_ret
        exact ⟨ret_b (by rw [HV.out, HZk.out]), bthen (ballc w _) HB3.out⟩
    · obtain rfl : k = zs.length := by omega
      have i2 : ¬ (zs.length : Int) < (zs.length : Int) := by omega
      obtain ⟨m, hm⟩ : ∃ m, zs.length = m + 1 := ⟨zs.length - 1, by omega⟩
      have HC := hidden (fun v h => HI.out m v h)
      rw [slotB_yes (by omega) (by omega)] at HC
      simp only [placeE_yes] at HC
      obtain ⟨b0, b1⟩ := mul_bd (show 0 ≤ (m : Int) by omega) (show (m : Int) ≤ 31 by omega) (show 0 ≤ sl by omega) sl2
      have HFk := hidden (fun V => HF.out (o + (m : Int) * sl + sl) V (by omega) (by omega))
      have HR : Hid (R = farB r dr t (o + (m : Int) * sl + sl)) := by
        show _ = _
        rw [HV.out, HX.out m, ← hm]
        cases hf : farB r dr t (o + (zs.length : Int) * sl) with
        | true => exact all_range_yes (p := fun k => farB r dr t (o + (k : Int) * sl)) HNo.out hf
        | false => exact all_range_no (p := fun k => farB r dr t (o + (k : Int) * sl)) (Nat.le_refl _) hf
      have q1 : IntKind.i64.wrap ((zs.length : Int) - 1) = (m : Int) := by rw [IntWalk.i64_in _ (by omega)]; omega
      generalize farB r dr t (o + (m : Int) * sl + sl) = fb at *
      generalize hp : (m : Int) * sl = P at *
      have q2 : IntKind.i64.wrap (o + P + sl) = o + P + sl := IntWalk.i64_in _ (by omega)
      have HM := hidden hm
      clear hp HI HF HV HX hm
      go_wp2
      refine wp_region_quiet_below (by kernel_rfl) (by kernel_rfl) ?_
      repeat (go_big_quiet_step (first
        | (go_at_call 38; exact Calls.regrown_of (HC.out _ (HTk.out.below (below_regrown _ _ _))))
        | (go_at_call 56; exact Calls.regrown_of (HFk.out _))))
      refine wpQuiet_nil ?_
      intro w3 hw3
      have HB3 := hidden (bthen HB.out (rg_below hw3))
      clear hw3 hbox hsz
      go_wp2
      go_ret
      exact ⟨ret_b HR.out.symm, bthen (ballc w _) HB3.out⟩
end Go.Proofs.Ytcfakhfipdjnmaa

/- The calls isNear, isEdgeOf, Clear, Window, isWithin and Hit of package slot return what plain functions give, and make at most new memory; conditions: the table lies where it says, its length and the numbers fit int. -/
namespace Go.Proofs.Ytcfakhfipdjnmaa
open Go.ChangeShapes Go.WideShapes Go.ChangeAt Go.RowKit Go.Shelf
set_option linter.unusedVariables false
attribute [local go_sem] cell_rg

set_option maxHeartbeats 1000000 in
theorem isNear_any (n f d p r dr o sl md fr : Int) (ad : Option Addr) (cap : Nat) (zs : List Int) (t u : Int) (w : World) (r1 : 1 ≤ r) (r2 : r ≤ 64) (dr1 : 0 ≤ dr) (dr2 : dr ≤ r - 1) (t1 : 0 ≤ t) (t2 : t ≤ 2000) (u1 : 0 ≤ u) (u2 : u ≤ 2000000) :
    Calls Try.prog 69 #[.agg #[.int .i64 n, .int .i64 f, .int .i64 d, .int .i64 p, .int .i64 r, .int .i64 dr, .int .i64 o, .int .i64 sl, .int .i64 md, .int .i64 fr, .slice ad zs.length cap, .int .i64 t], .int .i64 u] w fun e w' => e = .returned (.bool (!farB r dr t u)) ∧ Below w.heap.size w w' := by
  obtain ⟨b0, b1⟩ := mul_bd t1 t2 (show 0 ≤ r by omega) r2
  obtain ⟨c0, c1⟩ := mul_bd t1 t2 dr1 (show dr ≤ 63 by omega)
  have HV : Hid (farB r dr t u = (decide (t * dr < t * r - u) || decide (t * dr < -(t * r - u)))) := rfl
  generalize farB r dr t u = R at *
  generalize hP : t * r = P at *
  generalize hQ : t * dr = Q at *
  by_cases h0 : 0 ≤ u - P
  · have HR : Hid ((!R) = decide (u - P ≤ Q)) := by
      show _ = _
      rw [HV.out, decide_eq_false (by omega : ¬ Q < P - u), Bool.false_or, ← decide_not]
      exact decide_eq_decide.2 (by omega)
    clear HV
    have hm : -(u - P) ≤ u - P := by omega
    go_enter Try.func69, Try.ntmps69
    go_wp2
    all_goals
      go_ret
      exact ⟨ret_b HR.out.symm, ballc w _⟩
  · have HR : Hid ((!R) = decide (-(u - P) ≤ Q)) := by
      show _ = _
      rw [HV.out, decide_eq_false (by omega : ¬ Q < -(P - u)), Bool.or_false, ← decide_not]
      exact decide_eq_decide.2 (by omega)
    clear HV
    have hm : u - P < -(u - P) := by omega
    go_enter Try.func69, Try.ntmps69
    go_wp2
    all_goals
      go_ret
      exact ⟨ret_b HR.out.symm, ballc w _⟩

set_option maxHeartbeats 1000000 in
theorem isEdgeOf_any (n f d p r dr o sl md fr : Int) (ad : Option Addr) (cap : Nat) (zs : List Int) (t : Int) (k : Nat) (w : World) (hP : plainE n f d p r dr o sl md fr zs = 0) (t1 : 0 ≤ t) (t2 : t ≤ 2000) (hk : k < zs.length) (hl : zs.length ≤ 9223372036854775807) (hT : Tab w ad zs) :
    Calls Try.prog 55 #[.agg #[.int .i64 n, .int .i64 f, .int .i64 d, .int .i64 p, .int .i64 r, .int .i64 dr, .int .i64 o, .int .i64 sl, .int .i64 md, .int .i64 fr, .slice ad zs.length cap, .int .i64 t], .int .i64 (k : Int)] w fun e w' => e = .returned (.bool (edgeB r dr t o sl k)) ∧ Below w.heap.size w w' := by
  obtain ⟨_, _, _, _, _, d1, d2, _, _, r1, r2, dr1, dr2, o1, o2, sl1, sl2, _, _, _, _, z1, z2, _⟩ := plainE_ok hP
  have HI := hidden (BBegin_any n f d p r dr o sl md fr ad cap zs (k : Int) (w.alloc (.cells #[.int .i64 n, .int .i64 f, .int .i64 d, .int .i64 p, .int .i64 r, .int .i64 dr, .int .i64 o, .int .i64 sl, .int .i64 md, .int .i64 fr, .slice ad zs.length cap, .int .i64 t] 55)) hl (hT.below (ballc _ _)))
  rw [hP, slotB_yes (by omega) (by omega)] at HI
  simp only [placeE_yes] at HI
  obtain ⟨b0, b1⟩ := mul_bd (show 0 ≤ (k : Int) by omega) (show (k : Int) ≤ 31 by omega) (show 0 ≤ sl by omega) sl2
  have HV : Hid (edgeB r dr t o sl k = (!farB r dr t (o + (k : Int) * sl) || !farB r dr t (o + (k : Int) * sl + sl))) := rfl
  generalize edgeB r dr t o sl k = R at *
  generalize hq : (k : Int) * sl = P at *
  have HA := hidden (fun V => isNear_any n f d p r dr o sl md fr ad cap zs t (o + P) V r1 r2 dr1 dr2 t1 t2 (by omega) (by omega))
  have HB := hidden (fun V => isNear_any n f d p r dr o sl md fr ad cap zs t (o + P + sl) V r1 r2 dr1 dr2 t1 t2 (by omega) (by omega))
  generalize farB r dr t (o + P) = f1 at *
  generalize farB r dr t (o + P + sl) = f2 at *
  clear hT hP hq
  cases f1 with
  | false =>
    have HR : Hid (R = true) := by rw [HV.out]; rfl
    go_enter Try.func55, Try.ntmps55
    go_wp2_with fail
    refine HI.out.mono ?_
    rintro e w2 ⟨rfl, hb2⟩
    have HB2 := hidden hb2
    clear hb2
    obtain ⟨hbox, hsz⟩ := box_at HB2.out
    go_wp2_with fail
    refine (HA.out _).mono ?_
    rintro e w3 ⟨rfl, hb3⟩
    have HB3 := hidden (bthen HB2.out hb3)
    clear hb3 hbox hsz
    go_wp2
    go_ret
    exact ⟨ret_b HR.out.symm, bthen (ballc w _) HB3.out⟩
  | true =>
    have HR : Hid (R = !f2) := by rw [HV.out]; rfl
    go_enter Try.func55, Try.ntmps55
    go_wp2_with fail
    refine HI.out.mono ?_
    rintro e w2 ⟨rfl, hb2⟩
    have HB2 := hidden hb2
    clear hb2
    obtain ⟨hbox, hsz⟩ := box_at HB2.out
    go_wp2_with fail
    refine (HA.out _).mono ?_
    rintro e w3 ⟨rfl, hb3⟩
    have HB3 := hidden (bthen HB2.out hb3)
    clear hb3 hbox hsz
    obtain ⟨hbox, hsz⟩ := box_at HB3.out
    go_wp2_with fail
    refine (HB.out _).mono ?_
    rintro e w4 ⟨rfl, hb4⟩
    have HB4 := hidden (bthen HB3.out hb4)
    clear hb4 hbox hsz
    go_wp2
    go_ret
    exact ⟨ret_b HR.out.symm, bthen (ballc w _) HB4.out⟩

set_option maxHeartbeats 1000000 in
theorem Clear_any (n f d p r dr o sl md fr : Int) (ad : Option Addr) (cap : Nat) (zs : List Int) (t : Int) (w : World) (hl : zs.length ≤ 9223372036854775807) (hT : Tab w ad zs) :
    Calls Try.prog 31 #[.agg #[.int .i64 n, .int .i64 f, .int .i64 d, .int .i64 p, .int .i64 r, .int .i64 dr, .int .i64 o, .int .i64 sl, .int .i64 md, .int .i64 fr, .slice ad zs.length cap], .int .i64 t] w fun e w' => e = .returned (.bool (clearB (plainE n f d p r dr o sl md fr zs) r dr o sl zs.length t)) ∧ Below w.heap.size w w' := by
  have HT := hidden (hT.below (ballc w (.cells #[.int .i64 n, .int .i64 f, .int .i64 d, .int .i64 p, .int .i64 r, .int .i64 dr, .int .i64 o, .int .i64 sl, .int .i64 md, .int .i64 fr, .slice ad zs.length cap] 24)))
  have HP := hidden (plain_any n f d p r dr o sl md fr ad cap zs (w.alloc (.cells #[.int .i64 n, .int .i64 f, .int .i64 d, .int .i64 p, .int .i64 r, .int .i64 dr, .int .i64 o, .int .i64 sl, .int .i64 md, .int .i64 fr, .slice ad zs.length cap] 24)) hl HT.out)
  have HC := hidden (fun V => canBe_any t V)
  clear hT
  by_cases hE : plainE n f d p r dr o sl md fr zs = 0
  case neg =>
    have HV := hidden (clearB_no (r := r) (dr := dr) (o := o) (sl := sl) (m := zs.length) (t := t) (fun c => hE c.1))
    generalize plainE n f d p r dr o sl md fr zs = E at *
    have e0 : (E != 0) = true := by simp [hE]
    clear hE HC
    go_enter Try.func31, Try.ntmps31
    go_wp2_with fail
    refine HP.out.mono ?_
    rintro e w2 ⟨rfl, hb2⟩
    have HB2 := hidden hb2
    clear hb2
    go_wp2
    go_ret
    exact ⟨ret_b HV.out.symm, bthen (ballc w _) HB2.out⟩
  by_cases ht : 0 ≤ t ∧ t ≤ 2000
  case neg =>
    have HV := hidden (clearB_no (E := plainE n f d p r dr o sl md fr zs) (r := r) (dr := dr) (o := o) (sl := sl) (m := zs.length) (t := t) (fun c => ht c.2))
    rw [decide_eq_false ht] at HC
    rw [hE] at HP HV ⊢
    clear ht hE
    go_enter Try.func31, Try.ntmps31
    go_wp2_with fail
    refine HP.out.mono ?_
    rintro e w2 ⟨rfl, hb2⟩
    have HB2 := hidden hb2
    clear hb2
    go_wp2_with fail
    refine (HC.out _).mono ?_
    rintro e w3 ⟨rfl, rfl⟩
    go_wp2
    go_ret
    exact ⟨ret_b HV.out.symm, bthen (ballc w _) HB2.out⟩
  have hz := (plainE_ok hE).2.2.2.2.2.2.2.2.2.2.2.2.2.2.2.2.2.2.2.2.2
  have HV := hidden (clear_edges (r := r) (dr := dr) (o := o) (sl := sl) (m := zs.length) hz.1 ht)
  have HFi := hidden (fun V (hV : Tab V ad zs) => first_any n f d p r dr o sl md fr ad cap zs 55 (.agg #[.int .i64 n, .int .i64 f, .int .i64 d, .int .i64 p, .int .i64 r, .int .i64 dr, .int .i64 o, .int .i64 sl, .int .i64 md, .int .i64 fr, .slice ad zs.length cap, .int .i64 t]) (enters_of Try.func55 (by kernel_rfl) rfl) (edgeB r dr t o sl) V (by omega) (fun k hk U hU => isEdgeOf_any n f d p r dr o sl md fr ad cap zs t k U hE ht.1 ht.2 hk hl (hV.below hU)))
  rw [decide_eq_true ht] at HC
  rw [hE] at HP ⊢
  clear ht hE hz
  generalize clearB 0 r dr o sl zs.length t = R at *
  generalize firstF (edgeB r dr t o sl) (List.range zs.length) = x at *
  go_enter Try.func31, Try.ntmps31
  go_wp2_with fail
  refine HP.out.mono ?_
  rintro e w2 ⟨rfl, hb2⟩
  have HB2 := hidden hb2
  clear hb2
  go_wp2_with fail
  refine (HC.out _).mono ?_
  rintro e w3 ⟨rfl, rfl⟩
  obtain ⟨hbox, hsz⟩ := box_at HB2.out
  go_wp2_with fail
  refine (HFi.out _ (HT.out.below HB2.out)).mono ?_
  rintro e w4 ⟨rfl, hb4⟩
  have HB4 := hidden (bthen HB2.out hb4)
  clear hb4 hbox hsz
  go_wp2
  go_ret
  exact ⟨ret_b HV.out, bthen (ballc w _) HB4.out⟩
end Go.Proofs.Ytcfakhfipdjnmaa

/- The fixed calls of the statements on package slot come out as they must, and make at most new memory; no conditions. -/
namespace Go.Proofs.Ytcfakhfipdjnmaa
open Go.ChangeShapes Go.WideShapes Go.ChangeAt Go.RowKit
set_option linter.unusedVariables false

theorem val_ii {a b c d : Int} (h : a = c) (k : b = d) : Value.tuple #[.int .i64 a, .int .i64 b] = .tuple #[.int .i64 c, .int .i64 d] := by rw [h, k]
theorem val_b {a b : Bool} (h : a = b) : Value.bool a = .bool b := by rw [h]
theorem small22_any (w : World) :
    Calls Try.prog 51 #[] w fun e w' => ∃ g, e = .returned (.agg #[.int .i64 4, .int .i64 1, .int .i64 1, .int .i64 20, .int .i64 64, .int .i64 1, .int .i64 64, .int .i64 190, .int .i64 10, .int .i64 3, .slice (some ⟨g, 0, none⟩) 4 4]) ∧ Tab w' (some ⟨g, 0, none⟩) [0, 1, 2, 3] ∧ Below w.heap.size w w' := by
  go_enter Try.func51, Try.ntmps51
  go_wp2
  refine bodyPost_ret (v := .agg #[.int .i64 4, .int .i64 1, .int .i64 1, .int .i64 20, .int .i64 64, .int .i64 1, .int .i64 64, .int .i64 190, .int .i64 10, .int .i64 3, .slice (some ⟨w.heap.size + 1, 0, none⟩) 4 4]) (by simp [results, Try.results51, go_sem]) rfl ⟨_, rfl, Tab.four _ _ _ (by simp), Joins.below_alloc2 _ _ _⟩
set_option maxHeartbeats 4000000 in
theorem known22_any (w : World) :
    Calls Try.prog 28 #[] w fun e w' => e = .returned (.bool true) ∧ Below w.heap.size w w' := by
  go_enter Try.func28, Try.ntmps28
  go_wp2_with fail
  refine (small22_any _).mono ?_
  rintro e w1 ⟨g, rfl, hT, hb⟩
  have HB1 := hidden hb
  have HT := hidden (hT.below (ballc w1 (.cells #[.int .i64 4, .int .i64 1, .int .i64 1, .int .i64 20, .int .i64 64, .int .i64 1, .int .i64 64, .int .i64 190, .int .i64 10, .int .i64 3, .slice (some ⟨g, 0, none⟩) 4 4] 24)))
  clear hT hb
  go_wp2_with fail
  refine (Calls.ret_to (Window_any 4 1 1 20 64 1 64 190 10 3 (some ⟨g, 0, none⟩) 4 [0, 1, 2, 3] 0 _ (by decide) (by decide) HT.out) (val_ii (c := 133) (d := 313) (by rw [plainE_small]; decide) (by rw [plainE_small]; decide))).mono ?_
  rintro e v0 ⟨rfl, hb⟩
  have HC0 := hidden hb
  clear hb
  obtain ⟨hbox, hsz⟩ := box_at HC0.out
  go_wp2_with fail
  refine (Calls.ret_to (Calls.to_below (Elapsed_any 3 65530 _)) (val_i (b := 9) (by decide))).mono ?_
  rintro e v1 ⟨rfl, hb⟩
  have HC1 := hidden (bthen HC0.out hb)
  clear hbox hsz
  clear hb
  obtain ⟨hbox, hsz⟩ := box_at HC1.out
  go_wp2_with fail
  refine (Calls.ret_to (Now_any 4 1 1 20 64 1 64 190 10 3 (some ⟨g, 0, none⟩) 4 [0, 1, 2, 3] 64 0 _ (by decide) (HT.out.below HC1.out)) (val_i (b := 0) (by rw [plainE_small]; decide))).mono ?_
  rintro e v2 ⟨rfl, hb⟩
  have HC2 := hidden (bthen HC1.out hb)
  clear hbox hsz
  clear hb
  obtain ⟨hbox, hsz⟩ := box_at HC2.out
  go_wp2_with fail
  refine (Calls.ret_to (Nominal_any 4 1 1 20 64 1 64 190 10 3 (some ⟨g, 0, none⟩) 4 [0, 1, 2, 3] 4 _ (by decide) (HT.out.below HC2.out)) (val_i (b := 1) (by rw [plainE_small, nomF_in (by decide), show wrap64 (4 * 64) = 256 from by unfold wrap64; omega]; decide))).mono ?_
  rintro e v3 ⟨rfl, hb⟩
  have HC3 := hidden (bthen HC2.out hb)
  clear hbox hsz
  clear hb
  obtain ⟨hbox, hsz⟩ := box_at HC3.out
  go_wp2_with fail
  refine (Calls.ret_to (Nominal_any 4 1 1 20 64 1 64 190 10 3 (some ⟨g, 0, none⟩) 4 [0, 1, 2, 3] (-1) _ (by decide) (HT.out.below HC3.out)) (val_i (b := -1) (by rw [plainE_small]; decide))).mono ?_
  rintro e v4 ⟨rfl, hb⟩
  have HC4 := hidden (bthen HC3.out hb)
  clear hbox hsz
  clear hb
  obtain ⟨hbox, hsz⟩ := box_at HC4.out
  go_wp2_with fail
  refine (Calls.ret_to (Clear_any 4 1 1 20 64 1 64 190 10 3 (some ⟨g, 0, none⟩) 4 [0, 1, 2, 3] 3 _ (by decide) (HT.out.below HC4.out)) (val_b (b := true) (by rw [plainE_small]; decide))).mono ?_
  rintro e v5 ⟨rfl, hb⟩
  have HC5 := hidden (bthen HC4.out hb)
  clear hbox hsz
  clear hb
  obtain ⟨hbox, hsz⟩ := box_at HC5.out
  go_wp2_with fail
  refine (Calls.ret_to (Clear_any 4 1 1 20 64 1 64 190 10 3 (some ⟨g, 0, none⟩) 4 [0, 1, 2, 3] 1 _ (by decide) (HT.out.below HC5.out)) (val_b (b := false) (by rw [plainE_small]; decide))).mono ?_
  rintro e v6 ⟨rfl, hb⟩
  have HC6 := hidden (bthen HC5.out hb)
  clear hbox hsz
  clear hb
  obtain ⟨hbox, hsz⟩ := box_at HC6.out
  go_wp2_with fail
  refine (Calls.ret_to (Hit_any 4 1 1 20 64 1 64 190 10 3 (some ⟨g, 0, none⟩) 4 [0, 1, 2, 3] 313 _ (by decide) (HT.out.below HC6.out)) (val_i (b := 0) (by rw [plainE_small]; decide))).mono ?_
  rintro e v7 ⟨rfl, hb⟩
  have HC7 := hidden (bthen HC6.out hb)
  clear hbox hsz
  clear hb
  obtain ⟨hbox, hsz⟩ := box_at HC7.out
  go_wp2_with fail
  refine (Calls.ret_to (Hit_any 4 1 1 20 64 1 64 190 10 3 (some ⟨g, 0, none⟩) 4 [0, 1, 2, 3] 314 _ (by decide) (HT.out.below HC7.out)) (val_i (b := -1) (by rw [plainE_small]; decide))).mono ?_
  rintro e v8 ⟨rfl, hb⟩
  have HC8 := hidden (bthen HC7.out hb)
  clear hbox hsz
  clear hb
  obtain ⟨hbox, hsz⟩ := box_at HC8.out
  go_wp2
  go_ret
  exact ⟨rfl, bthen HB1.out (bthen (ballc _ _) HC8.out)⟩
end Go.Proofs.Ytcfakhfipdjnmaa
