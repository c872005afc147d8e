/- Several texts of one's own in one: what each proves, and its conditions, is said ahead of it. -/
import Derived.Test.YtkolhbacgoafcabBa
import Derived.Test.YtkolhbacgoafcabBe
import Derived.Deep.DeepCutAuto
import Derived.RangeFuncNested
import Derived.RangeFuncBound
import Derived.RangeFuncCalls
import Derived.RangeFuncLeaves
import Derived.Shelf.Abstract
import Derived.Shelf.RegionOpen
import Derived.OwnWalkIn
import Derived.TacticsInMore
import Derived.LoopNIn
import Derived.LoopIn
import Derived.Deep.RegionHeld3
import Derived.Test.YtkolhbacgoafcabBc
import Derived.Laws.CopyOwn
import Derived.Laws.Tables

/- The integer calls Clamp, Mod and Sat of the document's answer for layer 1 return what plain functions on integers give, and leave the world as it was; for integers that fit int. -/
namespace Go.Proofs.Ytkolhbacgoafcab
open Go.ChangeShapes Go.WideShapes Go.ChangeAt Go.RowKit
set_option linter.unusedVariables false

theorem rclamp_any (n lo hi : Int) (w : World) :
    Calls Try.prog 41 #[.int .i64 n, .int .i64 lo, .int .i64 hi] w fun e w' => e = .returned (.int .i64 (clampF n lo hi)) ∧ w = w' := by
  by_cases h1 : n < lo
  · have e : clampF n lo hi = lo := by unfold clampF; rw [if_pos (Or.inl h1)]
    rw [e]; clear e
    go_enter Try.func41, Try.ntmps41
    go_wp2
    go_ret
    exact ⟨by first | rfl | exact ret_i (by omega), rfl⟩
  · by_cases h2 : hi < lo
    · have e : clampF n lo hi = lo := by unfold clampF; rw [if_pos (Or.inr h2)]
      rw [e]; clear e
      go_enter Try.func41, Try.ntmps41
      go_wp2
      go_ret
      exact ⟨by first | rfl | exact ret_i (by omega), rfl⟩
    · by_cases h3 : n ≤ hi
      · have e : clampF n lo hi = n := by unfold clampF; rw [if_neg (by omega), if_pos h3]
        rw [e]; clear e
        go_enter Try.func41, Try.ntmps41
        go_wp2
        go_ret
        exact ⟨by first | rfl | exact ret_i (by omega), rfl⟩
      · have e : clampF n lo hi = hi := by unfold clampF; rw [if_neg (by omega), if_neg h3]
        rw [e]; clear e
        go_enter Try.func41, Try.ntmps41
        go_wp2
        go_ret
        exact ⟨by first | rfl | exact ret_i (by omega), rfl⟩
theorem rsat_any (n m : Int) (w : World) (hn : (Lit.int .i64 n).wf = true) (hm : (Lit.int .i64 m).wf = true) :
    Calls Try.prog 40 #[.int .i64 n, .int .i64 m] w fun e w' => e = .returned (.int .i64 (satF n m)) ∧ w = w' := by
  have bn := bd64 hn
  have bb := bd64 hm
  by_cases h1 : n < 0
  · have e : satF n m = 0 := by unfold satF; rw [if_pos (Or.inl h1)]
    rw [e]; clear e
    go_enter Try.func40, Try.ntmps40
    go_wp2
    go_ret
    exact ⟨rfl, rfl⟩
  · by_cases h2 : m < 0
    · have e : satF n m = 0 := by unfold satF; rw [if_pos (Or.inr h2)]
      rw [e]; clear e
      go_enter Try.func40, Try.ntmps40
      go_wp2
      go_ret
      exact ⟨rfl, rfl⟩
    · by_cases h3 : m ≤ n
      · have e : satF n m = m := by unfold satF; rw [if_neg (by omega), if_pos h3]
        rw [e]; clear e
        go_enter Try.func40, Try.ntmps40
        go_wp2
        go_ret
        exact ⟨rfl, rfl⟩
      · have e : satF n m = n + 1 := by unfold satF; rw [if_neg (by omega), if_neg h3]
        rw [e]; clear e
        go_enter Try.func40, Try.ntmps40
        go_wp2
        go_ret
        exact ⟨rfl, rfl⟩
end Go.Proofs.Ytkolhbacgoafcab

/- The document's calls Bit and Next of layer 18 return what plain functions give, and make at most new memory; conditions: the table lies where it says, numbers fit int. -/
namespace Go.Proofs.Ytkolhbacgoafcab
open Go.ChangeShapes Go.WideShapes Go.ChangeAt Go.RowKit
set_option linter.unusedVariables false
attribute [local go_sem] cell_rg

theorem bitI_c {P L s : Int} : bitI 0 P L s = if s = P - L then 1 else if P ≤ s then 1 else 0 := by
  by_cases h1 : s = P - L
  · rw [if_pos h1, bitI_at h1]
  · rw [if_neg h1]
    by_cases h2 : P ≤ s
    · rw [if_pos h2, bitI_hi h2]
    · rw [if_neg h2, bitI_lo h1 h2]
set_option maxRecDepth 100000 in
set_option maxHeartbeats 1000000 in
theorem rBit_any (n f d p r dr o sl md fr : Int) (ad : Option Addr) (cap : Nat) (zs : List Int) (L : Nat) (s : Int) (w : World) (hl : zs.length ≤ 9223372036854775807) (hT : Tab w ad zs) (hL : gate (plainE n f d p r dr o sl md fr zs) (3 * (f + 1) * d) = (L : Int)) (hL60 : L ≤ 60) (hs : -9223372036854775808 ≤ s ∧ s ≤ 9223372036854775807) :
    Calls Try.prog 24 #[.agg #[.int .i64 n, .int .i64 f, .int .i64 d, .int .i64 p, .int .i64 r, .int .i64 dr, .int .i64 o, .int .i64 sl, .int .i64 md, .int .i64 fr, .slice ad zs.length cap], .int .i64 s] w fun e w' => e = .returned (.int .i64 (bitI (plainE n f d p r dr o sl md fr zs) p L s)) ∧ Below w.heap.size w w' := by
  have HB0 := hidden (ballc w (.cells #[.int .i64 n, .int .i64 f, .int .i64 d, .int .i64 p, .int .i64 r, .int .i64 dr, .int .i64 o, .int .i64 sl, .int .i64 md, .int .i64 fr, .slice ad zs.length cap] 24))
  have HT := hidden (hT.below HB0.out)
  have HP := hidden (fun V h => refPlain_any n f d p r dr o sl md fr ad cap zs V hl h)
  have CL := hidden (fun V h => refLength_any n f d p r dr o sl md fr ad cap zs V hl h)
  rw [hL] at CL
  have hp4 : plainE n f d p r dr o sl md fr zs = 0 → 0 ≤ p ∧ p ≤ 400 := fun hE => by
    obtain ⟨_, _, _, _, _, _, _, hp1, hp2, _⟩ := plainE_ok hE
    have := plainE_ok hE
    have : 0 ≤ (f + 1) * d := Int.mul_nonneg (by omega) (by omega)
    omega
  by_cases hE : plainE n f d p r dr o sl md fr zs = 0
  · have hp := hp4 hE
    rw [hE] at HP ⊢
    have t1 : IntKind.i64.wrap (p - (L : Int)) = p - (L : Int) := IntWalk.i64_in _ (by omega)
    clear hT hL hE hp4
    by_cases h1 : s = p - (L : Int)
    · have hr := hidden (bitI_at h1)
      have j1 : (s == p - (L : Int)) = true := by simp [h1]
      clear h1
      go_enter Try.func24, Try.ntmps24
      go_wp2
      refine wp_region_quiet_below (by kernel_rfl) (by kernel_rfl) ?_
      repeat (go_big_quiet_step (first | (go_at_call 9; exact Calls.regrown_of (HP.out _ (HT.out.below (below_regrown _ _ _)))) | (go_at_call 10; exact Calls.regrown_of (CL.out _ (HT.out.below (below_regrown _ _ _))))))
      refine wpQuiet_nil ?_
      intro w5 hw5
      have HB5 := hidden (bthen HB0.out (rg_below hw5))
      clear hw5
      go_wp2
      go_ret
      exact ⟨ret_i hr.out.symm, HB5.out⟩
    · have j1 : (s == p - (L : Int)) = false := by simp [h1]
      by_cases h2 : p ≤ s
      · have hr := hidden (bitI_hi (L := (L : Int)) h2)
        have j2 : decide (p ≤ s) = true := decide_eq_true h2
        clear h1
        go_enter Try.func24, Try.ntmps24
        go_wp2
        refine wp_region_quiet_below (by kernel_rfl) (by kernel_rfl) ?_
        repeat (go_big_quiet_step (first | (go_at_call 9; exact Calls.regrown_of (HP.out _ (HT.out.below (below_regrown _ _ _)))) | (go_at_call 10; exact Calls.regrown_of (CL.out _ (HT.out.below (below_regrown _ _ _))))))
        refine wpQuiet_nil ?_
        intro w5 hw5
        have HB5 := hidden (bthen HB0.out (rg_below hw5))
        clear hw5
        go_wp2
        go_ret
        exact ⟨ret_i hr.out.symm, HB5.out⟩
      · have hr := hidden (bitI_lo h1 h2)
        have j2 : decide (p ≤ s) = false := decide_eq_false h2
        clear h1
        go_enter Try.func24, Try.ntmps24
        go_wp2
        refine wp_region_quiet_below (by kernel_rfl) (by kernel_rfl) ?_
        repeat (go_big_quiet_step (first | (go_at_call 9; exact Calls.regrown_of (HP.out _ (HT.out.below (below_regrown _ _ _)))) | (go_at_call 10; exact Calls.regrown_of (CL.out _ (HT.out.below (below_regrown _ _ _))))))
        refine wpQuiet_nil ?_
        intro w5 hw5
        have HB5 := hidden (bthen HB0.out (rg_below hw5))
        clear hw5
        go_wp2
        go_ret
        exact ⟨ret_i hr.out.symm, HB5.out⟩
  · have hr := hidden (bitI_no (P := p) (L := (L : Int)) (s := s) hE)
    have j1 : (plainE n f d p r dr o sl md fr zs == 0) = false := by simp [hE]
    generalize plainE n f d p r dr o sl md fr zs = E at *
    clear hE hT hL hp4
    go_enter Try.func24, Try.ntmps24
    go_wp2
    refine wp_region_quiet_below (by kernel_rfl) (by kernel_rfl) ?_
    repeat (go_big_quiet_step (first | (go_at_call 9; exact Calls.regrown_of (HP.out _ (HT.out.below (below_regrown _ _ _)))) | (go_at_call 10; exact Calls.regrown_of (CL.out _ (HT.out.below (below_regrown _ _ _))))))
    refine wpQuiet_nil ?_
    intro w5 hw5
    have HB5 := hidden (bthen HB0.out (rg_below hw5))
    clear hw5
    go_wp2
    go_ret
    exact ⟨ret_i hr.out.symm, HB5.out⟩

theorem nxt2_t {P s r : Int} : nxt2 0 P s r true = if s = P - 1 then satF r 2 else 0 := by unfold nxt2; rw [if_pos rfl, if_pos rfl]
theorem nxt2_f {P s r : Int} : nxt2 0 P s r false = if satF s P = P then 0 else clampF r 0 2 := by unfold nxt2; rw [if_pos rfl, if_neg (by decide)]
theorem nxt1_t {P s : Int} : nxt1 0 P s true = 0 := by unfold nxt1 nxF; rw [if_pos rfl, if_pos rfl]
theorem nxt1_f {P s : Int} : nxt1 0 P s false = satF s P := by unfold nxt1 nxF; rw [if_pos rfl, if_neg (by decide)]
set_option maxHeartbeats 1000000 in
theorem rNext_any (n f d p r dr o sl md fr : Int) (ad : Option Addr) (cap : Nat) (zs : List Int) (s r' : Int) (pulse : Bool) (w : World) (hl : zs.length ≤ 9223372036854775807) (hT : Tab w ad zs) (hs : -9223372036854775808 ≤ s ∧ s ≤ 9223372036854775807) (hr' : -9223372036854775808 ≤ r' ∧ r' ≤ 9223372036854775807) :
    Calls Try.prog 23 #[.agg #[.int .i64 n, .int .i64 f, .int .i64 d, .int .i64 p, .int .i64 r, .int .i64 dr, .int .i64 o, .int .i64 sl, .int .i64 md, .int .i64 fr, .slice ad zs.length cap], .int .i64 s, .int .i64 r', .bool pulse] w fun e w' => e = .returned (.tuple #[.int .i64 (nxt1 (plainE n f d p r dr o sl md fr zs) p s pulse), .int .i64 (nxt2 (plainE n f d p r dr o sl md fr zs) p s r' pulse)]) ∧ Below w.heap.size w w' := by
  have HB0 := hidden (ballc w (.cells #[.int .i64 n, .int .i64 f, .int .i64 d, .int .i64 p, .int .i64 r, .int .i64 dr, .int .i64 o, .int .i64 sl, .int .i64 md, .int .i64 fr, .slice ad zs.length cap] 24))
  have HT := hidden (hT.below HB0.out)
  have HK := hidden (blk_nw w #[.int .i64 n, .int .i64 f, .int .i64 d, .int .i64 p, .int .i64 r, .int .i64 dr, .int .i64 o, .int .i64 sl, .int .i64 md, .int .i64 fr, .slice ad zs.length cap] 24)
  have HP := hidden (refPlain_any n f d p r dr o sl md fr ad cap zs (w.alloc (.cells #[.int .i64 n, .int .i64 f, .int .i64 d, .int .i64 p, .int .i64 r, .int .i64 dr, .int .i64 o, .int .i64 sl, .int .i64 md, .int .i64 fr, .slice ad zs.length cap] 24)) hl HT.out)
  by_cases hE : plainE n f d p r dr o sl md fr zs = 0
  · obtain ⟨_, _, _, _, _, _, _, hp1, hp2, _⟩ := plainE_ok hE
    have hp0 : 0 ≤ p := by
      have := plainE_ok hE
      have : 0 ≤ (f + 1) * d := Int.mul_nonneg (by omega) (by omega)
      omega
    have CR := hidden (fun V => rsat_any r' 2 V (wfI hr') (by decide))
    have CS := hidden (fun V => rsat_any s p V (wfI hs) (wfI (by omega)))
    have CC := hidden (fun V => rclamp_any r' 0 2 V)
    have t1 : IntKind.i64.wrap (p - 1) = p - 1 := IntWalk.i64_in _ (by omega)
    rw [hE] at HP ⊢
    clear hT hE hp1
    cases pulse
    · rw [nxt1_f, nxt2_f]
      generalize satF s p = x at *
      generalize clampF r' 0 2 = y at *
      by_cases hx : x = p
      · have j : (x == p) = true := by simp [hx]
        rw [if_pos hx]
        clear hx
        go_enter Try.func23, Try.ntmps23
        go_wp2_with fail
        refine HP.out.mono ?_
        rintro e w2 ⟨rfl, hb⟩
        have HB2 := hidden (bthen HB0.out hb)
        have HK2 := hidden (blk_later HK.out hb)
        have c0 := blk_cell HK2.out
        have l0 := blk_lt HK2.out
        clear hb HT HK HP
        go_wp2_with fail
        refine (CS.out _).mono ?_
        rintro e w3 ⟨rfl, rfl⟩
        go_wp2
        exact bodyPost_ret (v := .tuple #[.int .i64 x, .int .i64 0]) (by simp [results, Try.results23, go_sem]) rfl ⟨rfl, HB2.out⟩
      · have j : (x == p) = false := by simp [hx]
        rw [if_neg hx]
        clear hx
        go_enter Try.func23, Try.ntmps23
        go_wp2_with fail
        refine HP.out.mono ?_
        rintro e w2 ⟨rfl, hb⟩
        have HB2 := hidden (bthen HB0.out hb)
        have HK2 := hidden (blk_later HK.out hb)
        have c0 := blk_cell HK2.out
        have l0 := blk_lt HK2.out
        clear hb HT HK HP
        go_wp2_with fail
        refine (CS.out _).mono ?_
        rintro e w3 ⟨rfl, rfl⟩
        go_wp2_with fail
        refine (CC.out _).mono ?_
        rintro e w4 ⟨rfl, rfl⟩
        go_wp2
        exact bodyPost_ret (v := .tuple #[.int .i64 x, .int .i64 y]) (by simp [results, Try.results23, go_sem]) rfl ⟨rfl, HB2.out⟩
    · rw [nxt1_t, nxt2_t]
      by_cases hx : s = p - 1
      · have j : (s == p - 1) = true := by simp [hx]
        rw [if_pos hx]
        clear hx
        generalize satF r' 2 = y at *
        go_enter Try.func23, Try.ntmps23
        go_wp2_with fail
        refine HP.out.mono ?_
        rintro e w2 ⟨rfl, hb⟩
        have HB2 := hidden (bthen HB0.out hb)
        have HK2 := hidden (blk_later HK.out hb)
        have c0 := blk_cell HK2.out
        have l0 := blk_lt HK2.out
        clear hb HT HK HP
        go_wp2_with fail
        refine (CR.out _).mono ?_
        rintro e w3 ⟨rfl, rfl⟩
        go_wp2
        exact bodyPost_ret (v := .tuple #[.int .i64 0, .int .i64 y]) (by simp [results, Try.results23, go_sem]) rfl ⟨rfl, HB2.out⟩
      · have j : (s == p - 1) = false := by simp [hx]
        rw [if_neg hx]
        clear hx
        go_enter Try.func23, Try.ntmps23
        go_wp2_with fail
        refine HP.out.mono ?_
        rintro e w2 ⟨rfl, hb⟩
        have HB2 := hidden (bthen HB0.out hb)
        have HK2 := hidden (blk_later HK.out hb)
        have c0 := blk_cell HK2.out
        have l0 := blk_lt HK2.out
        clear hb HT HK HP
        go_wp2
        exact bodyPost_ret (v := .tuple #[.int .i64 0, .int .i64 0]) (by simp [results, Try.results23, go_sem]) rfl ⟨rfl, HB2.out⟩
  · have h1 : Hid (nxt1 (plainE n f d p r dr o sl md fr zs) p s pulse = 0) := if_neg hE
    have h2 : Hid (nxt2 (plainE n f d p r dr o sl md fr zs) p s r' pulse = 0) := if_neg hE
    rw [h1.out, h2.out]
    have j1 : (plainE n f d p r dr o sl md fr zs != 0) = true := bne_iff_ne.2 hE
    clear h1 h2
    generalize plainE n f d p r dr o sl md fr zs = E at *
    clear hE hT
    go_enter Try.func23, Try.ntmps23
    go_wp2_with fail
    refine HP.out.mono ?_
    rintro e w2 ⟨rfl, hb⟩
    have HB2 := hidden (bthen HB0.out hb)
    clear hb HP
    go_wp2
    exact bodyPost_ret (v := .tuple #[.int .i64 0, .int .i64 0]) (by simp [results, Try.results23, go_sem]) rfl ⟨rfl, HB2.out⟩
end Go.Proofs.Ytkolhbacgoafcab

/- The calls rowOf, ends and begin of package beat make, read and turn a row of ends; conditions: the table lies where it says, lengths fit int, the row is a block of its own. -/
namespace Go.Proofs.Ytkolhbacgoafcab
open Go.ChangeShapes Go.WideShapes Go.ChangeAt Go.RowKit
set_option linter.unusedVariables false
attribute [local go_sem] cell_rg

/-- What comes of what was on its way: Since and ends, tick by tick. -/
def alL (P : Int) (L : Nat) (s0 : Int) (pend : Nat → Bool) : Nat → List Int
  | 0 => [s0]
  | k + 1 => alL P L s0 pend k ++ [nxF P ((alL P L s0 pend k).getD k 0) (if k < L then pend k else bgF P L ((alL P L s0 pend k).getD (k - L + 1) 0))]
def sF (P : Int) (L : Nat) (s0 : Int) (pend : Nat → Bool) (k : Nat) : Int := (alL P L s0 pend k).getD k 0
def eF (P : Int) (L : Nat) (s0 : Int) (pend : Nat → Bool) (k : Nat) : Bool := if k < L then pend k else bgF P L (sF P L s0 pend (k - L + 1))
section
variable {P : Int} {L : Nat} {s0 : Int} {pend : Nat → Bool}
theorem alL_len : ∀ k, (alL P L s0 pend k).length = k + 1
  | 0 => rfl
  | k + 1 => by
    show (alL P L s0 pend k ++ [_]).length = _
    rw [List.length_append, alL_len k]
    rfl
theorem alL_at (j : Nat) : ∀ k, j ≤ k → (alL P L s0 pend k).getD j 0 = sF P L s0 pend j
  | 0, h => by
    obtain rfl : j = 0 := by omega
    rfl
  | k + 1, h => by
    by_cases e : j = k + 1
    · subst e
      rfl
    · rw [← alL_at j k (by omega)]
      show (alL P L s0 pend k ++ [_]).getD j 0 = _
      rw [List.getD_eq_getElem?_getD, List.getElem?_append_left (by rw [alL_len]; omega), List.getD_eq_getElem?_getD]
theorem sF_0 : sF P L s0 pend 0 = s0 := rfl
theorem sF_s (hL : 1 ≤ L) (k : Nat) : sF P L s0 pend (k + 1) = nxF P (sF P L s0 pend k) (eF P L s0 pend k) := by
  have h : sF P L s0 pend (k + 1) = nxF P ((alL P L s0 pend k).getD k 0) (if k < L then pend k else bgF P L ((alL P L s0 pend k).getD (k - L + 1) 0)) := by
    show (alL P L s0 pend k ++ [_]).getD (k + 1) 0 = _
    rw [List.getD_eq_getElem?_getD, List.getElem?_append_right (by rw [alL_len]; omega), alL_len, Nat.sub_self]
    rfl
  rw [h, alL_at k k (Nat.le_refl _)]
  unfold eF
  by_cases hk : k < L
  · rw [if_pos hk, if_pos hk]
  · rw [if_neg hk, if_neg hk, alL_at _ k (by omega)]
end
/-- The row of ends behind k ticks. -/
def rgV (P : Int) (L : Nat) (s0 : Int) (pend : Nat → Bool) (k j : Nat) : Bool := if j < k then bgF P L (sF P L s0 pend (k - 1 - (k - 1 - j) % L + 1)) else pend j
def rgL (P : Int) (L : Nat) (s0 : Int) (pend : Nat → Bool) (k : Nat) : List Bool := (List.range L).map (rgV P L s0 pend k)
section
variable {P : Int} {L : Nat} {s0 : Int} {pend : Nat → Bool}
theorem rgL_len (k : Nat) : (rgL P L s0 pend k).length = L := by simp [rgL]
theorem rgL_at (k : Nat) {j : Nat} (hj : j < L) : (rgL P L s0 pend k).getD j false = rgV P L s0 pend k j := by
  rw [List.getD_eq_getElem?_getD]
  simp [rgL, hj]
theorem rg_now (hL : 1 ≤ L) (k : Nat) : (rgL P L s0 pend k).getD (k % L) false = eF P L s0 pend k := by
  have hm := Nat.mod_lt k (show 0 < L by omega)
  rw [rgL_at k hm]
  unfold rgV eF
  by_cases hk : k < L
  · rw [Nat.mod_eq_of_lt hk, if_neg (by omega), if_pos hk]
  · have hd := Nat.div_add_mod k L
    have h1 : k % L < k := by omega
    rw [if_pos h1, if_neg hk]
    congr 2
    have hq : 1 ≤ k / L := Nat.div_pos (by omega) (by omega)
    obtain ⟨q, hqq⟩ : ∃ q, k / L = q + 1 := ⟨k / L - 1, by omega⟩
    rw [hqq, Nat.mul_add, Nat.mul_one] at hd
    have e : k - 1 - k % L = (L - 1) + L * q := by omega
    rw [e, Nat.add_mul_mod_self_left, Nat.mod_eq_of_lt (by omega)]
    omega
theorem rg_next (hL : 1 ≤ L) (k : Nat) : (rgL P L s0 pend k).set (k % L) (bgF P L (sF P L s0 pend (k + 1))) = rgL P L s0 pend (k + 1) := by
  have hm := Nat.mod_lt k (show 0 < L by omega)
  apply List.ext_getElem
  · rw [List.length_set, rgL_len, rgL_len]
  · intro j h1 h2
    have hj : j < L := by rw [List.length_set, rgL_len] at h1; exact h1
    have hd := Nat.div_add_mod k L
    rw [List.getElem_set]
    have g2 : (rgL P L s0 pend (k + 1))[j] = rgV P L s0 pend (k + 1) j := by
      have := rgL_at (P := P) (s0 := s0) (pend := pend) (k + 1) hj
      rw [List.getD_eq_getElem?_getD, List.getElem?_eq_getElem h2] at this
      exact this
    rw [g2]
    by_cases e : k % L = j
    · rw [if_pos e]
      unfold rgV
      rw [if_pos (by have := Nat.mod_le k L; omega)]
      congr 2
      have e2 : (k + 1 - 1 - j) % L = 0 := by
        rw [Nat.add_sub_cancel, ← e, show k - k % L = L * (k / L) by omega, Nat.mul_mod_right]
      rw [e2]
      omega
    · rw [if_neg e]
      have h3 : j < (rgL P L s0 pend k).length := by rw [rgL_len]; exact hj
      have g1 : (rgL P L s0 pend k)[j] = rgV P L s0 pend k j := by
        have := rgL_at (P := P) (s0 := s0) (pend := pend) k hj
        rw [List.getD_eq_getElem?_getD, List.getElem?_eq_getElem h3] at this
        exact this
      rw [g1]
      unfold rgV
      by_cases hk : j < k
      · rw [if_pos hk, if_pos (by omega)]
        congr 2
        have h4 : (k - j) % L ≠ 0 := by
          intro h0
          have h5 := Nat.div_add_mod (k - j) L
          rw [h0, Nat.add_zero] at h5
          have h6 : k = j + L * ((k - j) / L) := by omega
          have h7 : k % L = j := by
            rw [h6, Nat.add_mul_mod_self_left, Nat.mod_eq_of_lt hj]
          exact e h7
        have h8 : (k - j) % L = (k - 1 - j) % L + 1 := by
          have h9 := Nat.div_add_mod (k - 1 - j) L
          have h10 := Nat.mod_lt (k - 1 - j) (show 0 < L by omega)
          have h11 : k - j = (k - 1 - j) % L + 1 + L * ((k - 1 - j) / L) := by omega
          by_cases h12 : (k - 1 - j) % L + 1 < L
          · rw [h11, Nat.add_mul_mod_self_left, Nat.mod_eq_of_lt h12]
          · exfalso
            apply h4
            rw [h11, Nat.add_mul_mod_self_left, show (k - 1 - j) % L + 1 = L by omega, Nat.mod_self]
        have h13 := Nat.mod_le (k - 1 - j) L
        rw [show k + 1 - 1 - j = k - j by omega, h8]
        omega
      · rw [if_neg hk, if_neg (by
          intro h4
          have : j = k := by omega
          subst this
          exact e (Nat.mod_eq_of_lt hj))]
end
end Go.Proofs.Ytkolhbacgoafcab

/- The calls rowOf, ends and begin of package beat make, read and turn a row of ends; conditions: the table lies where it says, lengths fit int, the row is a block of its own. -/
namespace Go.Proofs.Ytkolhbacgoafcab
open Go.ChangeShapes Go.WideShapes Go.ChangeAt Go.RowKit
set_option linter.unusedVariables false
attribute [local go_sem] cell_rg

/-- A row of bools that is a block of its own. -/
def bolV (l : List Bool) : Array Value := (l.map Value.bool).toArray
def LBlk (W : World) (g : Nat) (l : List Bool) : Prop := W.heap[g]? = some (.cells (bolV l) 4 (0, 0))
theorem bolV_at (l : List Bool) (i : Nat) (h : i < l.length) : (bolV l)[i]? = some (.bool (l.getD i false)) := by
  rw [List.getD_eq_getElem?_getD, List.getElem?_eq_getElem h, Option.getD_some]
  simp [bolV, h]
theorem bolV_set (l : List Bool) (i : Nat) (b : Bool) : (bolV l).setIfInBounds i (.bool b) = bolV (l.set i b) := by
  apply Array.ext'
  simp only [bolV, Array.toList_setIfInBounds, List.map_set]
theorem bolV_made (n : Nat) : madeCells #[Value.bool false] n = bolV (List.replicate n false) := by
  have h := toList_madeCells_one (Value.bool false) n
  apply Array.ext'
  rw [h]
  simp [bolV]
theorem infoBol : (Try.prog.info? 4).map (fun i => (i.zero, i.size, i.bytes)) = some (some (.bool false), 1, 1) := by kernel_rfl
theorem make_bols (n : Nat) (hn : n ≤ 100000) (w : World) : (Instr.makeSlice 44 (.int .i64 (n : Int)) (.int .i64 (n : Int))).run Try.prog w = .ok (.slice (some ⟨w.heap.size, 0, none⟩) n n) (w.alloc (.cells (bolV (List.replicate n false)) 4)) := by
  rw [← bolV_made]
  exact run_make_row' 44 4 (.bool false) 1 Try.underlying44 infoBol rfl .i64 .i64 n (by omega) (by omega) w
theorem LBlk.lt {W : World} {g : Nat} {l : List Bool} (h : LBlk W g l) : g < W.heap.size := (Array.getElem?_eq_some_iff.1 h).1
theorem LBlk.later {W W' : World} {g : Nat} {l : List Bool} (h : LBlk W g l) (hb : Below W.heap.size W W') : LBlk W' g l := (hb.block g h.lt).trans h
theorem LBlk.cell {W : World} {g : Nat} {l : List Bool} (h : LBlk W g l) (i : Nat) (hi : i < l.length) : W.cell? ⟨g, i, none⟩ = some (.bool (l.getD i false)) := by
  rw [← bolV_at l i hi]
  simp [World.cell?, show W.heap[g]? = _ from h]
theorem LBlk.open {W : World} {g : Nat} {l : List Bool} (h : LBlk W g l) (i : Nat) : W.frozen? ⟨g, i, none⟩ = false := by
  simp [World.frozen?, show W.heap[g]? = _ from h]
theorem LBlk.set {W : World} {g : Nat} {l : List Bool} (h : LBlk W g l) (i : Nat) (b : Bool) : LBlk (W.setCell ⟨g, i, none⟩ (.bool b)) g (l.set i b) := by
  have := heap_setCell_same W g i _ _ (.bool b) h
  rw [bolV_set] at this
  exact this
theorem LBlk.other {W : World} {g : Nat} {l : List Bool} (h : LBlk W g l) (a : Addr) (v : Value) (ha : g ≠ a.block) : LBlk (W.setCell a v) g l := (heap_setCell_other W a g v ha).trans h
/-- What is on its way, byte by byte. -/
def penF (s : ByteArray) (j : Nat) : Bool := if h : j < s.size then ((s[j]'h).toNat : Int) == 49 else false
theorem pen_fill (s : ByteArray) (L M : Nat) (hM : M = L ∨ M = s.size) (hML : M ≤ L) : fillL false L (penF s) M = (List.range L).map (penF s) := by
  unfold fillL
  apply List.map_congr_left
  intro j hj
  have hj := List.mem_range.1 hj
  by_cases h : j < M
  · rw [if_pos h]
  · rw [if_neg h]
    unfold penF
    rw [dif_neg (by omega)]
theorem rg_0 (P : Int) (L : Nat) (s0 : Int) (s : ByteArray) : rgL P L s0 (penF s) 0 = (List.range L).map (penF s) := by
  unfold rgL
  apply List.map_congr_left
  intro j _
  unfold rgV
  rw [if_neg (by omega)]

theorem read2B {w : World} {b : Nat} {z0 z1 : Value} {t : TypeId} (h : w.heap[b]? = some (.cells #[z0, z1] t (0, 0))) (v0 v1 : Value) :
    ((w.setCell ⟨b, 0, none⟩ v0).setCell ⟨b, 1, none⟩ v1).cell? ⟨b, 0, none⟩ = some v0 ∧ ((w.setCell ⟨b, 0, none⟩ v0).setCell ⟨b, 1, none⟩ v1).cell? ⟨b, 1, none⟩ = some v1 := by
  have h1 := heap_setCell_same _ b 0 _ _ v0 h
  have h2 := heap_setCell_same _ b 1 _ _ v1 h1
  constructor <;> (simp only [World.cell?, h2]; rfl)
set_option maxHeartbeats 2000000 in
theorem rowOf_any (n f d p r dr o sl md fr : Int) (ad : Option Addr) (cap : Nat) (zs : List Int) (L : Nat) (s : ByteArray) (hs : s.size ≤ 9223372036854775807) (w : World) (hl : zs.length ≤ 9223372036854775807) (hT : Tab w ad zs) (hL : gate (plainE n f d p r dr o sl md fr zs) (3 * (f + 1) * d) = (L : Int)) (hL60 : L ≤ 60) :
    Calls Try.prog 20 #[.agg #[.int .i64 n, .int .i64 f, .int .i64 d, .int .i64 p, .int .i64 r, .int .i64 dr, .int .i64 o, .int .i64 sl, .int .i64 md, .int .i64 fr, .slice ad zs.length cap], .string s] w fun e w' => ∃ g, e = .returned (.agg #[.slice (some ⟨g, 0, none⟩) L L, .int .i64 0]) ∧ LBlk w' g ((List.range L).map (penF s)) ∧ w.heap.size ≤ g ∧ Below w.heap.size w w' := by
  have HB0 := hidden (bthen (ballc w (.cells #[.int .i64 n, .int .i64 f, .int .i64 d, .int .i64 p, .int .i64 r, .int .i64 dr, .int .i64 o, .int .i64 sl, .int .i64 md, .int .i64 fr, .slice ad zs.length cap] 24)) (ballc _ (.cells #[.slice none 0 0, .int .i64 0] 46)))
  have HT := hidden (hT.below HB0.out)
  have CL := hidden (fun V h => Length_any n f d p r dr o sl md fr ad cap zs V hl h)
  rw [hL] at CL
  have HK := hidden (blk_newAt (w.alloc (.cells #[.int .i64 n, .int .i64 f, .int .i64 d, .int .i64 p, .int .i64 r, .int .i64 dr, .int .i64 o, .int .i64 sl, .int .i64 md, .int .i64 fr, .slice ad zs.length cap] 24)) #[.slice none 0 0, .int .i64 0] 46 (b := w.heap.size + 1) (by simp))
  have hmk := fun V => make_bols L (by omega) V
  clear hT hL
  obtain ⟨M, hmn, hML, hMs, hMor⟩ : ∃ M : Nat, min (L : Int) (s.size : Int) = (M : Int) ∧ M ≤ L ∧ M ≤ s.size ∧ (M = L ∨ M = s.size) := ⟨min L s.size, by omega, by omega, by omega, by omega⟩
  have HFL := hidden (pen_fill s L M hMor hML)
  clear hMor
  go_enter Try.func20, Try.ntmps20
  go_wp2_with fail
  refine (CL.out _ HT.out).mono ?_
  rintro e w2 ⟨rfl, hb⟩
  have HB2 := hidden (bthen HB0.out hb)
  have HK2 := hidden (blk_later HK.out hb)
  clear hb HT HK CL
  have HR2 := hidden (blk_later HK2.out (ballc w2 (.cells (bolV (List.replicate L false)) 4)))
  have HL2 : Hid (LBlk (w2.alloc (.cells (bolV (List.replicate L false)) 4)) w2.heap.size (fillL false L (penF s) 0)) := by
    show LBlk _ _ _
    rw [fillL_0]
    exact blk_nw w2 _ _
  have HB3 := hidden (bthen HB2.out (ballc w2 (.cells (bolV (List.replicate L false)) 4)))
  have hw2 : w.heap.size + 1 < w2.heap.size := blk_lt HK2.out
  clear HK2
  go_wp2
  clear hmk
  generalize w2.alloc (.cells (bolV (List.replicate L false)) 4) = W0 at *
  go_loopw [15] (fun i wr => ∃ k : Nat, k ≤ M ∧ i = .int .i64 k ∧ LBlk wr w2.heap.size (fillL false L (penF s) k) ∧ wr.heap[w.heap.size + 1]? = some (.cells #[.slice none 0 0, .int .i64 0] 46 (0, 0)) ∧ Below w.heap.size w wr) (fun i _ => M - (intV i).toNat)
  case atStart => exact ⟨0, Nat.zero_le _, rfl, HL2.out, HR2.out, HB3.out⟩
  case round =>
    obtain ⟨k, hk, rfl, hX, hR, hB⟩ := hrel
    clear HL2 HR2 HB3
    have HX := hidden hX
    have HR := hidden hR
    have HB := hidden hB
    by_cases hlt : k < M
    · have i1 : (0 : Int) ≤ (k : Int) := by omega
      have i2 : (k : Int) < (M : Int) := by omega
      have i3 : (k : Int) < (L : Int) := by omega
      have hj : k < s.size := by omega
      have i4 : (k : Int) < (s.size : Int) := by omega
      have HS : Hid ((fillL false L (penF s) k).set k (penF s k) = fillL false L (penF s) (k + 1)) := fillL_set false L (penF s) k (by omega)
      have HPN : Hid (penF s k = (((s[k]'hj).toNat : Int) == 49)) := dif_pos hj
      have c0 := hX.cell k (by rw [fillL_len]; omega)
      have f0 := hX.open k
      have l0 := hX.lt
      clear hX hR hB
      generalize (fillL false L (penF s) k).getD k false = y at *
      go_wp2
      have hset := HX.out.set k (penF s k)
      rw [HS.out, HPN.out] at hset
      go_roundw
      case rel => exact ⟨k + 1, by omega, by go_num, hset, (heap_setCell_other _ _ _ _ (by simp; omega)).trans HR.out, HB.out.setCell (p := ⟨w2.heap.size, k, none⟩) (by simp; omega) _⟩
      case measure => simp [intV]; omega
    · obtain rfl : k = M := by omega
      have i2 : ¬ (k : Int) < (k : Int) := by omega
      rw [HFL.out] at hX
      have HX := hidden hX
      have c0 := blk_cell hR
      have f0 := blk_frozen hR
      have l0 := blk_lt hR
      have h2 := hX.lt
      clear hX hR hB
      go_wp2
      obtain ⟨r0, r1⟩ := read2B HR.out (.slice (some ⟨w2.heap.size, 0, none⟩) L L) (.int .i64 0)
      exact bodyPost_ret (v := .agg #[.slice (some ⟨w2.heap.size, 0, none⟩) L L, .int .i64 0]) (by simp [results, Try.results20, go_sem, r0, r1]) rfl ⟨w2.heap.size, rfl, (HX.out.other ⟨w.heap.size + 1, 0, none⟩ _ (by simp; omega)).other ⟨w.heap.size + 1, 1, none⟩ _ (by simp; omega), by omega, (HB.out.setCell (p := ⟨w.heap.size + 1, 0, none⟩) (by simp) _).setCell (p := ⟨w.heap.size + 1, 1, none⟩) (by simp) _⟩
end Go.Proofs.Ytkolhbacgoafcab

/- The call hear of package pipe returns the code of an instance that has heard an exchange, and makes at most new memory; conditions: rows lie where they say, lengths fit int, at most a hundred thousand votes. -/
namespace Go.Proofs.Ytkolhbacgoafcab
open Go.ChangeShapes Go.WideShapes Go.ChangeAt Go.RowKit Go.Shelf
set_option linter.unusedVariables false

/-- What the king told, of what each text has at one place; the code behind an exchange. -/
def toldP (votes : List ByteArray) (x : Nat) : ByteArray := (digsP votes x).getD (x / 3) noB
def hrdB (E n f : Int) (votes : List ByteArray) (x : Nat) (b : UInt8) : UInt8 := UInt8.ofNat (48 + stpG E n f x (ba [b]) (toldP votes x) (digsP votes x) 0)
theorem dg_one (g : Nat → Nat) : dgB 1 g = ba [UInt8.ofNat (48 + g 0)] := rfl
theorem digs_size (votes : List ByteArray) (x : Nat) : ∀ t ∈ digsP votes x, t.size ≤ 9223372036854775807 := by
  intro t ht
  obtain ⟨s, _, rfl⟩ := List.mem_map.1 ht
  have := prt_size s x
  omega
theorem told_size (votes : List ByteArray) (x : Nat) : (toldP votes x).size ≤ 9223372036854775807 := by
  unfold toldP
  by_cases h : x / 3 < (digsP votes x).length
  · rw [List.getD_eq_getElem?_getD, List.getElem?_eq_getElem h, Option.getD_some]
    exact digs_size votes x _ (List.getElem_mem h)
  · rw [List.getD_eq_getElem?_getD, List.getElem?_eq_none (by omega)]
    decide
theorem wfNat (x : Nat) (hx : x ≤ 100000) : (Lit.int .i64 (x : Int)).wf = true := by
  have := wrap64_wf (x : Int)
  rwa [IntWalk.wrap64_in (x : Int) (by omega)] at this

set_option maxHeartbeats 2000000 in
theorem hear_any (n f d p r dr o sl md fr : Int) (ad : Option Addr) (cap : Nat) (zs : List Int) (R x : Nat) (hx : x < R) (hR15 : R ≤ 15) (b : UInt8) (a2 : Option Addr) (c2 : Nat) (votes : List ByteArray) (w : World) (hl : zs.length ≤ 9223372036854775807) (hT : Tab w ad zs) (hR : gate (plainE n f d p r dr o sl md fr zs) (3 * (f + 1)) = (R : Int))
    (hn : votes.length ≤ 100000) (hV : kStr.Lies w.heap.size w (.slice a2 votes.length c2) votes) (hz : ∀ t ∈ votes, t.size ≤ 9223372036854775807) :
    Calls Try.prog 46 #[.agg #[.int .i64 n, .int .i64 f, .int .i64 d, .int .i64 p, .int .i64 r, .int .i64 dr, .int .i64 o, .int .i64 sl, .int .i64 md, .int .i64 fr, .slice ad zs.length cap], .int .i64 (x : Int), .string (ba [b]), .slice a2 votes.length c2] w fun e w' => e = .returned (.string (ba [hrdB (plainE n f d p r dr o sl md fr zs) n f votes x b])) ∧ Below w.heap.size w w' := by
  have CD := hidden (fun (V : World) (hB : Below w.heap.size w V) => digitsAt_any a2 c2 votes x V (by omega) hn (hV.later hB) hz)
  have HB0 := hidden (ballc w (.cells #[.int .i64 n, .int .i64 f, .int .i64 d, .int .i64 p, .int .i64 r, .int .i64 dr, .int .i64 o, .int .i64 sl, .int .i64 md, .int .i64 fr, .slice ad zs.length cap] 24))
  have HT := hidden (hT.below HB0.out)
  have CK := hidden (fun V h => PKing_any n f d p r dr o sl md fr ad cap zs (x : Int) R (by omega) V hl h hR)
  rw [kingF_in (by omega) (by omega), show (x : Int) / 3 = ((x / 3 : Nat) : Int) by omega] at CK
  have CS := hidden (fun (V : World) (hB : Tab V ad zs) (g : Nat) (hg : SBlk V g (digsP votes x)) => VStep_any n f d p r dr o sl md fr ad cap zs (x : Int) (ba [b]) (toldP votes x) (some ⟨g, 0, none⟩) (digsP votes x).length (digsP votes x) V hl hB (wfNat x (by omega)) (by rw [ba_size]; simp) (told_size votes x) (by rw [digsP_len]; exact hn) (hg.lies (by rw [digsP_len]; simp only [maxLen]; omega)) (digs_size votes x))
  rw [show (ba [b]).size = 1 by rw [ba_size]; rfl, dg_one, digsP_len] at CS
  have HH : Hid (hrdB (plainE n f d p r dr o sl md fr zs) n f votes x b = UInt8.ofNat (48 + stpG (plainE n f d p r dr o sl md fr zs) n f x (ba [b]) (toldP votes x) (digsP votes x) 0)) := rfl
  rw [HH.out]
  clear HH hV hz hT hR
  generalize stpG (plainE n f d p r dr o sl md fr zs) n f x (ba [b]) (toldP votes x) (digsP votes x) 0 = q at *
  generalize ba [UInt8.ofNat (48 + q)] = out at *
  generalize ba [b] = code at *
  have hln := digsP_len votes x
  by_cases hq : x / 3 < votes.length
  · have HTD : Hid (toldP votes x = (digsP votes x).getD (x / 3) noB) := rfl
    have q1 : ((x / 3 : Nat) : Int) < (votes.length : Int) := by omega
    have q0 : (0 : Int) ≤ ((x / 3 : Nat) : Int) := by omega
    generalize toldP votes x = told at *
    generalize digsP votes x = ds at *
    generalize hxq : x / 3 = k at *
    generalize hM : votes.length = M at *
    clear hM hxq
    go_enter Try.func46, Try.ntmps46
    go_wp2_with fail
    refine (CD.out _ HB0.out).mono ?_
    rintro e w2 ⟨g, rfl, hS, hb⟩
    have HB := hidden (bthen HB0.out hb)
    have HT2 := hidden (HT.out.below hb)
    obtain ⟨hbox, hsz⟩ := box_at hb
    have HS := hidden hS
    clear hb HT CD hS
    go_wp2_with fail
    refine (CK.out _ HT2.out).mono ?_
    rintro e w3 ⟨rfl, hb⟩
    have hS3 := HS.out.later hb
    have c0 := hS3.cell k (by omega)
    rw [← HTD.out] at c0
    have l0 := hS3.lt
    have HB3 := hidden (bthen HB.out hb)
    have HT3 := hidden (HT2.out.below hb)
    have hbox3 : ∀ i, w3.cell? ⟨w.heap.size, i, none⟩ = w2.cell? ⟨w.heap.size, i, none⟩ := fun i => hb.cell (p := ⟨w.heap.size, i, none⟩) hsz
    have hsz3 := Nat.lt_of_lt_of_le hsz hb.size
    have hboxx : ∀ i, w3.cell? ⟨w.heap.size, i, none⟩ = (#[.int .i64 n, .int .i64 f, .int .i64 d, .int .i64 p, .int .i64 r, .int .i64 dr, .int .i64 o, .int .i64 sl, .int .i64 md, .int .i64 fr, .slice ad zs.length cap] : Array Value)[i]? := fun i => (hbox3 i).trans (hbox i)
    have CX := hidden (CS.out w3 HT3.out g hS3)
    clear hb hbox hsz HS HT2 CK hS3 hbox3
    go_wp2_with fail
    refine CX.out.mono ?_
    rintro e w4 ⟨rfl, hb⟩
    have HB4 := hidden (bthen HB3.out hb)
    clear hb
    go_wp2
    go_ret
    exact ⟨rfl, HB4.out⟩
  · have HTD : Hid (toldP votes x = noB) := by
      show _ = _
      unfold toldP
      rw [List.getD_eq_getElem?_getD, List.getElem?_eq_none (by omega)]
      rfl
    have HTN : Hid (noB = (⟨#[]⟩ : ByteArray)) := rfl
    rw [HTD.out, HTN.out] at CS
    have q1 : ¬ ((x / 3 : Nat) : Int) < (votes.length : Int) := by omega
    generalize digsP votes x = ds at *
    generalize hxq : x / 3 = k at *
    generalize hM : votes.length = M at *
    clear hM hxq
    go_enter Try.func46, Try.ntmps46
    go_wp2_with fail
    refine (CD.out _ HB0.out).mono ?_
    rintro e w2 ⟨g, rfl, hS, hb⟩
    have HB := hidden (bthen HB0.out hb)
    have HT2 := hidden (HT.out.below hb)
    obtain ⟨hbox, hsz⟩ := box_at hb
    have HS := hidden hS
    clear hb HT CD hS
    go_wp2_with fail
    refine (CK.out _ HT2.out).mono ?_
    rintro e w3 ⟨rfl, hb⟩
    have hS3 := HS.out.later hb
    have HB3 := hidden (bthen HB.out hb)
    have HT3 := hidden (HT2.out.below hb)
    have hbox3 : ∀ i, w3.cell? ⟨w.heap.size, i, none⟩ = w2.cell? ⟨w.heap.size, i, none⟩ := fun i => hb.cell (p := ⟨w.heap.size, i, none⟩) hsz
    have hsz3 := Nat.lt_of_lt_of_le hsz hb.size
    have hboxx : ∀ i, w3.cell? ⟨w.heap.size, i, none⟩ = (#[.int .i64 n, .int .i64 f, .int .i64 d, .int .i64 p, .int .i64 r, .int .i64 dr, .int .i64 o, .int .i64 sl, .int .i64 md, .int .i64 fr, .slice ad zs.length cap] : Array Value)[i]? := fun i => (hbox3 i).trans (hbox i)
    have CX := hidden (CS.out w3 HT3.out g hS3)
    clear hb hbox hsz HS HT2 CK hS3 hbox3
    go_wp2_with fail
    refine CX.out.mono ?_
    rintro e w4 ⟨rfl, hb⟩
    have HB4 := hidden (bthen HB3.out hb)
    clear hb
    go_wp2
    go_ret
    exact ⟨rfl, HB4.out⟩
end Go.Proofs.Ytkolhbacgoafcab

/- A law of one's own on ranges over a function whose rounds all go on: the function hands so many rounds what a number gives, and what the rounds keep is counted by their number; conditions: no round leaves the loop. -/
namespace Go.Proofs.Ytkolhbacgoafcab
open Go.ChangeShapes Go.WideShapes Go.ChangeAt Go.RowKit Go.Shelf
set_option linter.unusedVariables false

theorem from_up {B C : Nat} {X Y : World} (h : KeepsFrom B X Y) (k : B ≤ C) : KeepsFrom C X Y := ⟨h.size, fun i o hi => h.same i o (Nat.le_trans k hi)⟩
theorem own_up {β : Type} {B C : Nat} {I : β → World → Prop} (h : OwnFrom B I) (k : B ≤ C) : OwnFrom C I := fun s X Y row hs hg hr => h s X Y row hs hg (fun r e => ⟨Nat.le_trans k (hr r e).1, (hr r e).2⟩)
theorem from_put {C l : Nat} {X : World} (o : Obj) (h : l < C) : KeepsFrom C X (X.putObj l o) := KeepsFrom.of_grownBy (grownBy_putObj' X l o) (fun j e => by cases e; exact h)
theorem below_grown {X Y : World} (h : Below X.heap.size X Y) : X.grownBy Y none := ⟨h.os, h.tape, h.output, h.size, fun k hk _ => h.block k hk⟩
theorem own_below' {β : Type} {B : Nat} {I : β → World → Prop} (h : OwnFrom B I) {s : β} {X Y : World} (hs : I s X) (hb : Below X.heap.size X Y) : I s Y := h s X Y none hs (below_grown hb) (fun r e => by cases e)
theorem own_put {β : Type} {B D : Nat} {I : β → World → Prop} (h : OwnFrom B I) {s : β} {X : World} (hs : I s X) (hB : B ≤ D) (hK : X.heap[D]? = some (.deferred (some []))) : I s (X.putObj D (.deferred none)) := h.putObj _ hs hB hK rfl
theorem cells_own {β : Type} (B b : Nat) (C : Array Value) (t : TypeId) : OwnFrom B (fun (_ : β) W => W.heap[b]? = some (.cells C t (0, 0))) := fun s X Y row hs hg hr =>
  (hg.block b (Array.getElem?_eq_some_iff.1 hs).1 (fun e => by obtain ⟨_, o, ho, hc⟩ := hr b e.symm; rw [hs] at ho; cases ho; cases hc)).trans hs
/-- A round is a round at any depth, and within another loop's round. -/
theorem round_any {m m' l l2 : Nat} {f : FuncId} {tmps : Array Value} {assign body : Code} {w : World} {R : Ending → World → Prop} (h : RoundIn Fence.wide m Try.prog l f tmps assign body w R) : RoundIn (Fence.wide.inRound l2) m' Try.prog l f tmps assign body w R := ⟨h.1, fun c cs _ => h.2 c cs (fun d hd => by cases hd)⟩
theorem round_dep {m m' l : Nat} {f : FuncId} {tmps : Array Value} {assign body : Code} {w : World} {R : Ending → World → Prop} (h : RoundIn Fence.wide m Try.prog l f tmps assign body w R) : RoundIn Fence.wide m' Try.prog l f tmps assign body w R := ⟨h.1, fun c cs _ => h.2 c cs (fun d hd => by cases hd)⟩
/-- A region whose order is drawn goes in a loop's round as it goes elsewhere, where nothing in it is deferred. -/
theorem op_round {P : Program} {n l : Nat} {ops : Array Oper} {Q : Exit → Act → World → Prop} {i : Nat} {K : Act → World → Prop} {a : Act} {w : World} (hd : ∀ o, ops[i]? = some o → ∀ c, o.op ≠ .defer c) (h : wpOpIn Fence.wide n P ops Q i K a w) : wpOpIn (Fence.wide.inRound l) n P ops Q i K a w := by
  unfold wpOpIn at h ⊢
  cases ho : ops[i]? with
  | none =>
    rw [ho] at h
    exact h
  | some o =>
    rw [ho] at h
    simp only at h ⊢
    by_cases hw : Region.wanted o (yielded ops a.tmps) = true
    · rw [if_pos hw] at h ⊢
      unfold Oper.wpIn at h ⊢
      refine ⟨fun f hf => trivial, ?_⟩
      have h2 := h.2
      rw [show (Fence.wide.inRound l).round = some l from rfl, Oper.semAt_some l a.eval o (hd o ho)]
      exact h2
    · rw [if_neg hw] at h ⊢
      exact ⟨fun f hf => trivial, h.2⟩
theorem any_round {P : Program} {n l : Nat} {md : Region.Mode} {ops : Array Oper} {Q : Exit → Act → World → Prop} (hd : ∀ (i : Nat) (o : Oper), ops[i]? = some o → ∀ c : Call, o.op ≠ Op.defer c) : ∀ (fuel : Nat) (listed : Array Bool) (a : Act) (w : World), wpAnyIn Fence.wide n P md ops Q fuel listed a w → wpAnyIn (Fence.wide.inRound l) n P md ops Q fuel listed a w
  | 0, _, _, _, h => h
  | fuel + 1, listed, a, w, h => ⟨h.1, fun i hi => wpOpIn_mono (fun a' w' h' => any_round hd fuel _ a' w' h') (op_round (hd i) (h.2 i hi))⟩
theorem no_defer {ops : Array Oper} (h : ops.toList.all (fun o => match o.op with | .defer _ => false | _ => true) = true) (i : Nat) (o : Oper) (ho : ops[i]? = some o) (c : Call) : o.op ≠ Op.defer c := by
  intro e
  have hm : o ∈ ops.toList := by
    rw [← Array.getElem?_toList] at ho
    exact List.mem_of_getElem? ho
  have := List.all_eq_true.1 h o hm
  rw [e] at this
  cases this
/-- A function that hands R values to the rounds of its loop, one after another. -/
def Gives (m gf : Nat) (lb : Array Value) (R : Nat) (encs : Nat → Array Value) (Kp : World → World → Prop) (w : World) : Prop :=
  ∀ (l : Nat) (J : Nat → World → Prop) (W : World), Below w.heap.size w W → OwnFrom W.heap.size J →
    (∀ k V, k < R → J k V → YieldAt Fence.wide (m - 1) Try.prog l (encs k) V fun e V' => e = .returned (.bool true) ∧ J (k + 1) V' ∧ Kp V V' ∧ KeepsFrom W.heap.size V V') →
    J 0 W → CallsIn Fence.wide m Try.prog gf (#[.func (.yield l) #[] #[]] ++ lb) W fun e W' => (∃ v, e = .returned v) ∧ J R W'
/-- A round that goes on. -/
def goesOn (B : Nat) (Kp : World → World → Prop) (J : World → Prop) (W : World) : Exit → Act → World → Prop
  | .normal, _, W' => KeepsFrom B W W' ∧ Kp W W' ∧ J W'
  | .ret, _, _ => False
  | .exit _, _, _ => False
  | .goto _, _, _ => False
  | .panic _, _, _ => False
  | .outgrown, _, _ => False
theorem rf_gives {g : Operand} {ps : Array Tmp} {assign body : Code} {Q : Exit → Act → World → Prop} {a : Act} {w : World} {m gf : Nat} {lb : Array Value} {R : Nat} {encs : Nat → Array Value} {Kp : World → World → Prop} {w0 : World}
    (hg : a.eval g = .func (.func gf) #[] lb) (eg : Enters Try.prog gf) (hseq : Gives (m - 1) gf lb R encs Kp w0) (hb0 : Below w0.heap.size w0 w) (hps : ∀ k, (encs k).size = ps.size)
    (hKt : ∀ {A B C : World}, Kp A B → Kp B C → Kp A C) (hKb : ∀ (W : World) (l : Nat) (o o' : Obj), w.heap.size ≤ l → W.heap[l]? = some o → o.isCells = false → Kp W (W.putObj l o'))
    (I : Nat → World → Prop) (hI : OwnFrom w.heap.size I) (h0 : I 0 w) (a₁ : Nat → Act)
    (hassign : ∀ (l k : Nat) (W : World) (K : Act → World → Prop), K (a₁ k) W → assign.wpIn (Fence.wide.inRound l) (m - 1 - 1) Try.prog (Exit.then K (fun _ _ _ => False)) { tmps := (ps.zip (encs k)).foldl (fun t (p, v) => t.setIfInBounds p v) a.tmps, defers := [] } W)
    (hbody : ∀ (l k : Nat) (W : World), w.heap.size ≤ l → k < R → I k W → body.wpIn (Fence.wide.inRound l) (m - 1 - 1) Try.prog (goesOn w.heap.size Kp (I (k + 1)) W) (a₁ k) W)
    (hdone : ∀ (D : Nat) (W : World), w.heap.size ≤ D → I R W → W.heap[D]? = some (.deferred (some [])) → Q .normal { a with defers := { target := .collected D, args := #[] } :: a.defers } W) :
    (Code.rangeFunc g ps assign body).wpIn Fence.wide m Try.prog Q a w := by
  refine wpIn_rangeFunc fun fn hfn => ?_
  obtain ⟨rec, hrec⟩ : ∃ rec : LoopState → Loop, rec = fun st => { state := st, pending := none, fn, tmps := a.tmps, params := ps, assign, body, defers := w.heap.size } := ⟨_, rfl⟩
  have hst : ∀ st st', { rec st with state := st' } = rec st' := fun st st' => by rw [hrec]
  have hne : ∀ st, (rec st).state = st := fun st => by rw [hrec]
  obtain ⟨V1, hV1⟩ : ∃ V1, (w.alloc (.deferred (some []))).alloc (.loop (rec .ready)) = V1 := ⟨_, rfl⟩
  have s1 : V1.heap.size = w.heap.size + 1 + 1 := by rw [← hV1]; simp
  have kl : V1.heap[w.heap.size + 1]? = some (.loop (rec .ready)) := by
    have h := World.alloc_heap_new (w.alloc (.deferred (some []))) (.loop (rec .ready))
    rw [← hV1]
    rwa [World.size_alloc] at h
  have kd : V1.heap[w.heap.size]? = some (.deferred (some [])) := by
    rw [← hV1]
    exact (Below.heap_alloc _ _ _ (by simp)).trans (World.alloc_heap_new w _)
  have i1 : I 0 V1 := by
    rw [← hV1]
    exact hI.alloc _ (hI.alloc _ h0)
  have bl : Below w0.heap.size w0 V1 := by
    rw [← hV1]
    exact bthen (bthen hb0 (ballc w _)) (ballc _ _)
  refine ⟨w.heap.size + 1, [{ target := .collected w.heap.size, args := #[] }], V1, { target := .fn (.func gf) lb, args := #[.func (.yield (w.heap.size + 1)) #[] #[]] }, V1, gf, #[.func (.yield (w.heap.size + 1)) #[] #[]] ++ lb, V1, ?enter, ?res, fun _ _ => trivial, ?inv, fun h => (by cases h), ?calls⟩
  case enter =>
    rw [← hV1, hrec]
    exact run_enterLoop_outer fn a.tmps ps assign body
  case res =>
    simp only [resolve, hg]
    simp [go_sem]
  case inv =>
    unfold Enters at eg
    simp [invoke, go_sem, eg]
  case calls =>
    have hJ : OwnFrom V1.heap.size (fun k W => I k W ∧ W.heap[w.heap.size + 1]? = some (.loop (rec .ready)) ∧ W.heap[w.heap.size]? = some (.deferred (some []))) := by
      intro k X Y row hs hgr hr
      have hx : ∀ j, j < V1.heap.size → some j ≠ row := fun j hj e => by have := (hr j e.symm).1; omega
      exact ⟨own_up hI (by omega) k X Y row hs.1 hgr hr, (hgr.block _ (Array.getElem?_eq_some_iff.1 hs.2.1).1 (hx _ (by omega))).trans hs.2.1, (hgr.block _ (Array.getElem?_eq_some_iff.1 hs.2.2).1 (hx _ (by omega))).trans hs.2.2⟩
    refine (hseq (w.heap.size + 1) _ V1 bl hJ ?round ⟨i1, kl, kd⟩).mono ?after
    case round =>
      rintro k V hk ⟨hi, hl, hd⟩
      have lt : w.heap.size + 1 < V.heap.size := (Array.getElem?_eq_some_iff.1 hl).1
      have hy := run_yield (P := Try.prog) (args := encs k) hl (by rw [hrec]; exact hps k)
      rw [hrec] at hy
      refine ⟨fn, _, assign, body, hy, roundIn_of_wpIn hfn (hassign _ k V _ ⟨_, run_beginRound hl (hne _), ?_⟩)⟩
      rw [hst]
      have l2 : (V.putObj (w.heap.size + 1) (.loop (rec .busy))).heap[w.heap.size + 1]? = some (.loop (rec .busy)) := World.putObj_heap_same lt
      have d2 : (V.putObj (w.heap.size + 1) (.loop (rec .busy))).heap[w.heap.size]? = some (.deferred (some [])) := (World.putObj_heap_other (by omega)).trans hd
      refine wpIn_mono (hbody _ k _ (by omega) hk (hI.putObj _ hi (by omega) hl rfl)) ?_
      intro e a3 V3 hp
      cases e with
      | normal =>
        obtain ⟨f3, p3, i3⟩ := hp
        have l3 := f3.same _ _ (by omega) l2 rfl
        have d3 := f3.same _ _ (Nat.le_refl _) d2 rfl
        have hend := run_endRound (P := Try.prog) none l3
        refine ⟨_, _, hend, rfl, ⟨hI.putObj _ i3 (by omega) l3 rfl, ?_, (World.putObj_heap_other (by omega)).trans d3⟩, hKt (hKt (hKb _ _ _ _ (by omega) hl rfl) p3) (hKb _ _ _ _ (by omega) l3 rfl), ?_⟩
        · rw [World.putObj_heap_same (Array.getElem?_eq_some_iff.1 l3).1, hrec]
          rfl
        · exact ((from_put _ (by omega)).trans (from_up f3 (by omega))).trans (from_put _ (by omega))
      | ret => exact hp.elim
      | exit id => exact hp.elim
      | goto t => exact hp.elim
      | panic ch => exact hp.elim
      | outgrown => exact hp.elim
    case after =>
      rintro e V2 ⟨⟨v, rfl⟩, hi, hl, hd⟩
      refine ⟨none, _, ?_, hdone w.heap.size _ (Nat.le_refl _) (hI.putObj (.loop (rec .exhausted)) hi (by omega) hl rfl) ((World.putObj_heap_other (by omega)).trans hd)⟩
      have h := run_endLoop (P := Try.prog) hl (by rw [hne]; decide)
      rw [hst] at h
      rw [h, hrec]
end Go.Proofs.Ytkolhbacgoafcab

/- The iterators of packages plan and pipe hand their rounds each exchange, with when it is told and with the codes of its stretch; conditions: what they have captured lies where it says, and a round keeps it. -/
namespace Go.Proofs.Ytkolhbacgoafcab
open Go.ChangeShapes Go.WideShapes Go.ChangeAt Go.RowKit Go.Shelf
set_option linter.unusedVariables false
attribute [local go_sem] Oper.semAt_some

set_option maxRecDepth 100000 in
set_option maxHeartbeats 2000000 in
theorem ages_gives (n f d p r dr o sl md fr : Int) (ad : Option Addr) (cap : Nat) (zs : List Int) (R : Nat) (hR : R ≤ 15) (hd : R = 0 ∨ 1 ≤ d ∧ d ≤ 4) (m : Nat) (hm : 1 ≤ m) (gr gc : Nat) (Kp : World → World → Prop)
    (hKp : ∀ X Y, Kp X Y → X.heap[gc]? = some (.cells #[.int .i64 n, .int .i64 f, .int .i64 d, .int .i64 p, .int .i64 r, .int .i64 dr, .int .i64 o, .int .i64 sl, .int .i64 md, .int .i64 fr, .slice ad zs.length cap] 24 (0, 0)) → Y.heap[gc]? = some (.cells #[.int .i64 n, .int .i64 f, .int .i64 d, .int .i64 p, .int .i64 r, .int .i64 dr, .int .i64 o, .int .i64 sl, .int .i64 md, .int .i64 fr, .slice ad zs.length cap] 24 (0, 0))) (w : World)
    (b1 : w.heap[gr]? = some (.cells #[.int .i64 (R : Int)] 3 (0, 0))) (b2 : w.heap[gc]? = some (.cells #[.int .i64 n, .int .i64 f, .int .i64 d, .int .i64 p, .int .i64 r, .int .i64 dr, .int .i64 o, .int .i64 sl, .int .i64 md, .int .i64 fr, .slice ad zs.length cap] 24 (0, 0))) :
    Gives m 64 #[.pointer (some ⟨gr, 0, none⟩), .pointer (some ⟨gc, 0, none⟩)] R (fun k => #[.int .i64 (k : Int), .int .i64 ((k : Int) * d)]) Kp w := by
  intro l J W hW _ hY h0
  replace b1 := (hW.block gr (Array.getElem?_eq_some_iff.1 b1).1).trans b1
  replace b2 := (hW.block gc (Array.getElem?_eq_some_iff.1 b2).1).trans b2
  have c1 := blk_cell b1 0
  have HK := hidden b2
  clear b2 hW
  refine callsIn_of_wp Try.func64 rfl trivial ?_ rfl
  simp only [Try.ntmps64, List.size_toArray, List.length_cons, List.length_nil, Nat.reduceAdd, Nat.reduceSub, Array.replicate_succ, Array.replicate_zero, List.push_toArray, List.append_toArray, List.nil_append, List.cons_append]
  gi_wp2
  clear c1 b1
  gi_loopw [6] (fun i wr => ∃ k : Nat, k ≤ R ∧ i = .int .i64 k ∧ J k wr ∧ Hid (wr.heap[gc]? = some (.cells #[.int .i64 n, .int .i64 f, .int .i64 d, .int .i64 p, .int .i64 r, .int .i64 dr, .int .i64 o, .int .i64 sl, .int .i64 md, .int .i64 fr, .slice ad zs.length cap] 24 (0, 0))))
    (fun i _ => R - (intV i).toNat)
  case atStart => exact ⟨0, Nat.zero_le _, rfl, h0, HK⟩
  case round =>
    obtain ⟨k, hk, rfl, hJs, hb2⟩ := hrel
    by_cases hlt : k < R
    · have c2 := fun i => blk_cell hb2.out i
      obtain ⟨q1, q2⟩ := xd_bd hR hd hlt
      obtain ⟨fn, tmps, assign, body, hy, hRd⟩ := hY k wr hlt hJs
      clear hY hJs hd h0
      gi_wp2
      refine hRd.mono ?_
      rintro e W3 ⟨rfl, hJ3, hk3, _⟩
      have hb3 := hidden (hKp _ _ hk3 hb2.out)
      gi_wp2
      go_roundw
      case rel => exact ⟨k + 1, by omega, by simp, hJ3, hb3⟩
      case measure => simp [intV]; omega
    · obtain rfl : k = R := by omega
      gi_wp2
      go_end0
      exact ⟨⟨_, rfl⟩, hJs⟩
end Go.Proofs.Ytkolhbacgoafcab

/- The call stretches of package pipe hands back an iterator that hands its rounds each exchange with the codes of its stretch; conditions: the table lies where it says, the codes have a place for each. -/
namespace Go.Proofs.Ytkolhbacgoafcab
open Go.ChangeShapes Go.WideShapes Go.ChangeAt Go.RowKit Go.Shelf
set_option linter.unusedVariables false
attribute [local go_sem] Oper.semAt_some

/-- What a round over stretches keeps: configurations, functions, and one more block. -/
def KpT (gs : Nat) (X Y : World) : Prop := ∀ (b : Nat) (C : Array Value) (t : TypeId) (fr : Nat × Nat), X.heap[b]? = some (.cells C t fr) → (t = 24 ∨ t = 88 ∨ b = gs) → Y.heap[b]? = some (.cells C t fr)
theorem KpT.t {gs : Nat} {X Y Z : World} (h : KpT gs X Y) (k : KpT gs Y Z) : KpT gs X Z := fun b C t fr hb ht => k b C t fr (h b C t fr hb ht) ht
theorem KpT.refl (gs : Nat) (X : World) : KpT gs X X := fun _ _ _ _ h _ => h
theorem KpT.put {gs : Nat} (W : World) (l : Nat) (o o' : Obj) (hl : W.heap[l]? = some o) (ho : o.isCells = false) : KpT gs W (W.putObj l o') := fun b C t fr hb _ => by
  refine (World.putObj_heap_other (fun e => ?_)).trans hb
  subst e
  rw [hb] at hl
  cases hl
  cases ho
theorem KpT.below {gs : Nat} {X Y : World} (h : Below X.heap.size X Y) : KpT gs X Y := fun b C t fr hb _ => blk_later hb h
theorem KpT.grown {gs g : Nat} {X Y : World} {C : Array Value} {t : TypeId} {fr : Nat × Nat} (h : X.grownBy Y (some g)) (hg : X.heap[g]? = some (.cells C t fr)) (h1 : t ≠ 24) (h2 : t ≠ 88) (h3 : g ≠ gs) : KpT gs X Y := fun b C' t' fr' hb ht => by
  refine (h.block b (blk_lt hb) (fun e => ?_)).trans hb
  cases e
  rw [hg] at hb
  cases hb
  rcases ht with ht | ht | ht
  · exact h1 ht
  · exact h2 ht
  · exact h3 ht
theorem stretch_cut (g P D L cap : Nat) (hD : 1 ≤ D) (hc : P + D ≤ cap) (W : World) : (Instr.slice 50 (.slice (some ⟨g, 0, none⟩) L cap) (some (.int .i64 (P : Int))) (some (.int .i64 ((P : Int) + (D : Int)))) (some (.int .i64 ((P : Int) + (D : Int))))).run Try.prog W = .ok (.slice (some ⟨g, P, none⟩) D D) W := by
  have ht : Try.prog.underlying 50 = some (.slice (Try.prog.elem 50)) := by kernel_rfl
  rw [run_slice_lhm W 50 _ L cap ht .i64 .i64 .i64 (P : Int) ((P : Int) + (D : Int)) ((P : Int) + (D : Int)) (by omega) (by omega) (by omega) (by omega)]
  have hz : (sizeOf (Try.prog.elem 50)).run Try.prog W = .ok 1 W := by kernel_rfl
  rw [hz]
  have e1 : ((P : Int) + (D : Int)).toNat = P + D := by omega
  simp only [Result.andThen, sliced, e1, Int.toNat_natCast]
  rw [if_neg (by omega), show P + D - P = D by omega]
  simp [Addr.add]
  intro h
  omega

theorem stretches_any (n f d p r dr o sl md fr : Int) (ad : Option Addr) (cap : Nat) (zs : List Int) (a2 : Option Addr) (L c2 : Nat) (w : World) :
    Calls Try.prog 42 #[.agg #[.int .i64 n, .int .i64 f, .int .i64 d, .int .i64 p, .int .i64 r, .int .i64 dr, .int .i64 o, .int .i64 sl, .int .i64 md, .int .i64 fr, .slice ad zs.length cap], .slice a2 L c2] w fun e w' => ∃ gc gs, e = .returned (.func (.func 52) #[] #[.pointer (some ⟨gc, 0, none⟩), .pointer (some ⟨gs, 0, none⟩)]) ∧ w'.heap[gc]? = some (.cells #[.int .i64 n, .int .i64 f, .int .i64 d, .int .i64 p, .int .i64 r, .int .i64 dr, .int .i64 o, .int .i64 sl, .int .i64 md, .int .i64 fr, .slice ad zs.length cap] 24 (0, 0)) ∧ w'.heap[gs]? = some (.cells #[.slice a2 L c2] 50 (0, 0)) ∧ w.heap.size ≤ gs ∧ Below w.heap.size w w' := by
  have hmf : ∀ (fn : Fn) (first cap : Array Value) (w : World), (Instr.makeFunc fn first cap).run Try.prog w = .ok (.func fn first cap) w := fun _ _ _ _ => rfl
  have k1 := blk_nw w #[.int .i64 n, .int .i64 f, .int .i64 d, .int .i64 p, .int .i64 r, .int .i64 dr, .int .i64 o, .int .i64 sl, .int .i64 md, .int .i64 fr, .slice ad zs.length cap] 24
  have k2 := blk_newAt (w.alloc (.cells #[.int .i64 n, .int .i64 f, .int .i64 d, .int .i64 p, .int .i64 r, .int .i64 dr, .int .i64 o, .int .i64 sl, .int .i64 md, .int .i64 fr, .slice ad zs.length cap] 24)) #[.slice a2 L c2] 50 (b := w.heap.size + 1) (by simp)
  have K1 := hidden (blk_later k1 (ballc _ (.cells #[.slice a2 L c2] 50)))
  have K2 := hidden k2
  have HB := hidden (bthen (ballc w (.cells #[.int .i64 n, .int .i64 f, .int .i64 d, .int .i64 p, .int .i64 r, .int .i64 dr, .int .i64 o, .int .i64 sl, .int .i64 md, .int .i64 fr, .slice ad zs.length cap] 24)) (ballc _ (.cells #[.slice a2 L c2] 50)))
  clear k1 k2
  go_enter Try.func42, Try.ntmps42
  go_wp2
  go_ret
  exact ⟨_, _, rfl, K1.out, K2.out, by omega, HB.out⟩

set_option maxRecDepth 100000 in
set_option maxHeartbeats 4000000 in
theorem str_gives (n f d p r dr o sl md fr : Int) (ad : Option Addr) (cap : Nat) (zs : List Int) (R D L cap' : Nat) (hR15 : R ≤ 15) (hd : R = 0 ∨ (d = (D : Int) ∧ 1 ≤ D ∧ D ≤ 4)) (m : Nat) (hm : 4 ≤ m) (gc gs g : Nat) (w : World) (hl : zs.length ≤ 9223372036854775807) (hT : Tab w ad zs) (hR : gate (plainE n f d p r dr o sl md fr zs) (3 * (f + 1)) = (R : Int))
    (b1 : w.heap[gc]? = some (.cells #[.int .i64 n, .int .i64 f, .int .i64 d, .int .i64 p, .int .i64 r, .int .i64 dr, .int .i64 o, .int .i64 sl, .int .i64 md, .int .i64 fr, .slice ad zs.length cap] 24 (0, 0))) (b2 : w.heap[gs]? = some (.cells #[.slice (some ⟨g, 0, none⟩) L cap'] 50 (0, 0))) (hcap : R * D ≤ cap') :
    Gives m 52 #[.pointer (some ⟨gc, 0, none⟩), .pointer (some ⟨gs, 0, none⟩)] R (fun k => #[.int .i64 (k : Int), .slice (some ⟨g, k * D, none⟩) D D]) (KpT gs) w := by
  intro l J W hW hJ hY h0
  have hro : Fence.wide.round = none := rfl
  have h1 : 1 ≤ m := by omega
  have hfa : Fence.wide.fn 53 := trivial
  replace b1 := blk_later b1 hW
  replace b2 := blk_later b2 hW
  replace hT := hT.below hW
  have hJa := hJ.alloc (.cells #[.func (.yield l) #[] #[]] 88) h0
  have HB0 := hidden (ballc W (.cells #[.func (.yield l) #[] #[]] 88))
  have K1 := hidden (blk_later b1 HB0.out)
  have K2 := hidden (blk_later b2 HB0.out)
  have K3 := hidden (blk_nw W #[.func (.yield l) #[] #[]] 88)
  have HA := hidden (fun V h => Ages_any n f d p r dr o sl md fr ad cap zs R V hl h hR)
  have HT := hidden (hT.below HB0.out)
  have HJ := hidden hJa
  have c1 := fun i => blk_cell b1 i
  have l1 := blk_lt b1
  clear hT hW h0 hJa b1 b2
  refine callsIn_of_wp_marks Try.func52 rfl trivial ?_ hro
  simp only [Try.ntmps52, List.size_toArray, List.length_cons, List.length_nil, Nat.reduceAdd, Nat.reduceSub, Array.replicate_succ, Array.replicate_zero, List.push_toArray, List.append_toArray, List.nil_append, List.cons_append]
  gi_wp2_with (gi_at_call 53; refine (callsIn_wide.2 (HA.out _ HT.out)).mono ?_; rintro e w0 ⟨gr, ga, rfl, d1, d2, hb⟩)
  have E1 := hidden (blk_later K1.out hb)
  have E2 := hidden (blk_later K2.out hb)
  have E3 := hidden (blk_later K3.out hb)
  have HB := hidden (bthen HB0.out hb)
  have HJ0 : Hid (J 0 w0) := own_below' hJ HJ.out hb
  clear hb HA HT c1 K1 K2 K3 HJ
  refine rf_gives (gf := 64) (lb := #[.pointer (some ⟨gr, 0, none⟩), .pointer (some ⟨ga, 0, none⟩)]) rfl (enters_of Try.func64 (by kernel_rfl) rfl)
    (ages_gives n f d p r dr o sl md fr ad cap zs R hR15 (by omega) (m - 1) (by omega) gr ga (KpT gs) (fun X Y hk hx => hk ga _ _ _ hx (.inl rfl)) w0 d1 d2) (Below.refl _ _) (fun _ => rfl) KpT.t (fun V l o o' _ h1 h2 => KpT.put V l o o' h1 h2)
    (fun k V => J k V ∧ V.heap[gc]? = some (.cells #[.int .i64 n, .int .i64 f, .int .i64 d, .int .i64 p, .int .i64 r, .int .i64 dr, .int .i64 o, .int .i64 sl, .int .i64 md, .int .i64 fr, .slice ad zs.length cap] 24 (0, 0)) ∧ V.heap[gs]? = some (.cells #[.slice (some ⟨g, 0, none⟩) L cap'] 50 (0, 0)) ∧ V.heap[W.heap.size]? = some (.cells #[.func (.yield l) #[] #[]] 88 (0, 0)))
    ?own ⟨HJ0.out, E1.out, E2.out, E3.out⟩
    (fun k => { tmps := #[.func (.yield l) #[] #[], .pointer (some ⟨gc, 0, none⟩), .pointer (some ⟨gs, 0, none⟩), .pointer (some ⟨W.heap.size, 0, none⟩), .int .i64 (k : Int), .int .i64 ((k : Int) * d), undef, .agg #[.int .i64 n, .int .i64 f, .int .i64 d, .int .i64 p, .int .i64 r, .int .i64 dr, .int .i64 o, .int .i64 sl, .int .i64 md, .int .i64 fr, .slice ad zs.length cap], .func (.func 64) #[] #[.pointer (some ⟨gr, 0, none⟩), .pointer (some ⟨ga, 0, none⟩)], .int .i64 (k : Int), .int .i64 ((k : Int) * d), undef, undef, undef, undef, undef, undef, undef, undef, undef, undef, undef, undef, undef], defers := [] })
    ?assign ?body ?done
  case own => exact OwnFrom.and (own_up hJ (Nat.le_trans (by simp) HB.out.size)) (OwnFrom.and (cells_own _ _ _ _) (OwnFrom.and (cells_own _ _ _ _) (cells_own _ _ _ _)))
  case assign =>
    intro l2 k V K hK
    gi_wp2
    exact hK
  case body =>
    rintro l2 k V hl2 hk ⟨hJk, e1, e2, e3⟩
    obtain ⟨rfl, hD1, hD4⟩ : d = (D : Int) ∧ 1 ≤ D ∧ D ≤ 4 := by rcases hd with h | h; omega; exact h
    have hbd : Below V.heap.size V V.drew := (Below.refl _ V).drew
    obtain ⟨fn, tmps, assign, body, hy, hRd⟩ := hY k V.drew hk (own_below' hJ hJk hbd)
    have hmix : Try.prog.follows .mixedOrders = true := by kernel_rfl
    have hkD : k * D + D ≤ R * D := by rw [← Nat.succ_mul]; exact Nat.mul_le_mul_right D hk
    have hR60 : R * D ≤ 60 := Nat.mul_le_mul hR15 hD4
    have cut := stretch_cut g (k * D) D L cap' hD1 (by omega)
    have hP : (k : Int) * (D : Int) = ((k * D : Nat) : Int) := by simp
    rw [hP]
    have HF : Hid (∀ X : World, KeepsFrom W.heap.size V.drew X → KeepsFrom w0.heap.size V X) := fun X h => from_up (⟨h.size, h.same⟩ : KeepsFrom W.heap.size V X) (show W.heap.size ≤ w0.heap.size from Nat.le_trans (by simp) HB.out.size)
    have c1 : V.cell? ⟨gc, 2, none⟩ = some (.int .i64 (D : Int)) := blk_cell e1 2
    have c2 : V.cell? ⟨gs, 0, none⟩ = some (.slice (some ⟨g, 0, none⟩) L cap') := blk_cell e2 0
    have c3 : V.cell? ⟨W.heap.size, 0, none⟩ = some (.func (.yield l) #[] #[]) := blk_cell e3 0
    have HE1 := hidden e1
    have HE2 := hidden e2
    have HE3 := hidden e3
    generalize hPP : k * D = P at *
    clear hY hJk hd e1 e2 e3 hP hl hJ hR
    have hP60 : P ≤ 60 := by omega
    clear hkD hR60 hcap
    gi_wp2
    refine wpIn_region_any hmix ?_
    change wpAnyIn _ _ _ _ _ _ _ _ _ V.drew
    refine any_round (no_defer (by kernel_rfl)) _ _ _ _ ?_
    refine wpAnyIn_take (i := 1) (v := .int .i64 (k : Int)) rfl rfl (by kernel_rfl) (by kernel_rfl) (by kernel_rfl) (fun _ _ _ h => h) ⟨Or.inl ⟨by rfl, fun X => by go_simp⟩, fun _ => rfl⟩ ?_
    refine wpAnyIn_take (i := 3) (v := .int .i64 (P : Int)) rfl rfl (by kernel_rfl) (by kernel_rfl) (by kernel_rfl) (fun _ _ _ h => h) ⟨Or.inl ⟨by rfl, fun X => by go_simp⟩, fun _ => rfl⟩ ?_
    refine wpAnyIn_take (i := 4) (v := .int .i64 ((P : Int) + (D : Int))) rfl rfl (by kernel_rfl) (by kernel_rfl) (by kernel_rfl) (fun _ _ _ h => h) ⟨Or.inl ⟨by rfl, fun X => by go_simp⟩, fun _ => rfl⟩ ?_
    refine wpAnyIn_take (i := 5) (v := .int .i64 ((P : Int) + (D : Int))) rfl rfl (by kernel_rfl) (by kernel_rfl) (by kernel_rfl) (fun _ _ _ h => h) ⟨Or.inl ⟨by rfl, fun X => by go_simp⟩, fun _ => rfl⟩ ?_
    refine wpAnyIn_ready (rs := [0, 2]) (by kernel_rfl) (by simp) ?_
    refine AllReadyIn.cons rfl (fun K hK => ?_) ?_
    · rw [if_pos (by rfl)]
      go_simp
      refine hK _ _ ?_
      clear hK K
      refine wpAnyIn_ready (rs := [2]) (by kernel_rfl) (by simp) ?_
      refine AllReadyIn.cons rfl (fun K hK => ?_) ?_
      · rw [if_pos (by rfl)]
        go_simp
        refine hK _ _ ?_
        clear hK K
        refine wpAnyIn_take (i := 6) (v := .slice (some ⟨g, P, none⟩) D D) rfl rfl (by kernel_rfl) (by kernel_rfl) (by kernel_rfl) (fun _ _ _ h => h) ⟨Or.inl ⟨by rfl, fun X => by (go_simp)⟩, fun _ => rfl⟩ ?_
        refine wpAnyIn_ready (rs := [7]) (by kernel_rfl) (by simp) ?_
        refine AllReadyIn.cons rfl (fun K hK => ?_) ?_
        · rw [if_pos (by rfl)]
          go_simp
          refine ⟨fun h => (by cases h), RoundIn.mono (round_dep hRd) ?_⟩
          rintro e V' ⟨rfl, hJ', hk', hf'⟩
          refine hK _ _ ?_
          clear hK K
          refine wpAnyIn_take (i := 8) (v := .bool false) rfl rfl (by kernel_rfl) (by kernel_rfl) (by kernel_rfl) (fun _ _ _ h => h) ⟨Or.inl ⟨by rfl, fun X => by go_simp⟩, fun _ => rfl⟩ ?_
          refine wpAnyIn_done (by kernel_rfl) ?_ _
          gi_wp2
          exact ⟨HF.out _ hf', hk', hJ', hk' gc _ _ _ HE1.out (.inl rfl), hk' gs _ _ _ HE2.out (.inr (.inr rfl)), hk' _ _ _ _ HE3.out (.inr (.inl rfl))⟩
        · exact AllReadyIn.nil
      · exact AllReadyIn.nil
    · refine AllReadyIn.cons rfl (fun K hK => ?_) ?_
      · rw [if_pos (by rfl)]
        go_simp
        refine hK _ _ ?_
        clear hK K
        refine wpAnyIn_take (i := 6) (v := .slice (some ⟨g, P, none⟩) D D) rfl rfl (by kernel_rfl) (by kernel_rfl) (by kernel_rfl) (fun _ _ _ h => h) ⟨Or.inl ⟨by rfl, fun X => by (go_simp)⟩, fun _ => rfl⟩ ?_
        refine wpAnyIn_ready (rs := [0]) (by kernel_rfl) (by simp) ?_
        refine AllReadyIn.cons rfl (fun K hK => ?_) ?_
        · rw [if_pos (by rfl)]
          go_simp
          refine hK _ _ ?_
          clear hK K
          refine wpAnyIn_ready (rs := [7]) (by kernel_rfl) (by simp) ?_
          refine AllReadyIn.cons rfl (fun K hK => ?_) ?_
          · rw [if_pos (by rfl)]
            go_simp
            refine ⟨fun h => (by cases h), RoundIn.mono (round_dep hRd) ?_⟩
            rintro e V' ⟨rfl, hJ', hk', hf'⟩
            refine hK _ _ ?_
            clear hK K
            refine wpAnyIn_take (i := 8) (v := .bool false) rfl rfl (by kernel_rfl) (by kernel_rfl) (by kernel_rfl) (fun _ _ _ h => h) ⟨Or.inl ⟨by rfl, fun X => by go_simp⟩, fun _ => rfl⟩ ?_
            refine wpAnyIn_done (by kernel_rfl) ?_ _
            gi_wp2
            exact ⟨HF.out _ hf', hk', hJ', hk' gc _ _ _ HE1.out (.inl rfl), hk' gs _ _ _ HE2.out (.inr (.inr rfl)), hk' _ _ _ _ HE3.out (.inr (.inl rfl))⟩
          · exact AllReadyIn.nil
        · exact AllReadyIn.nil
      · exact AllReadyIn.nil
  case done =>
    rintro D2 V hD2 ⟨hJR, _⟩ hK
    gi_wp2
    refine ⟨by simp, .inl ⟨_, _, rfl, run_takeDeferred hK, ?_⟩⟩
    exact ⟨_, results_none rfl _ _ _, ⟨_, rfl⟩, own_put hJ hJR (Nat.le_trans (Nat.le_trans (by simp) HB.out.size) hD2) hK⟩
end Go.Proofs.Ytkolhbacgoafcab

/- The call Tell of package pipe returns what is told of each exchange's code, and makes at most new memory; conditions: the table lies where it says, lengths fit int. -/
namespace Go.Proofs.Ytkolhbacgoafcab
open Go.ChangeShapes Go.WideShapes Go.ChangeAt Go.RowKit Go.Shelf
set_option linter.unusedVariables false
attribute [local go_sem] Oper.semAt_some

/-- Rows of bytes. -/
def kU8 : Kind UInt8 := ⟨1, fun c => [.int .u8 (c.toNat : Int)], fun _ => rfl, by intro a u hu; simp at hu; subst hu; rfl, by decide⟩
theorem kU8_flat (l : List UInt8) : kU8.flat l = u8s l := by
  induction l with
  | nil => rfl
  | cons a l ih => simp only [Kind.flat, List.flatMap_cons, u8s, List.map_cons] at ih ⊢; rw [ih]; rfl
/-- What is told at this tick, as codes. -/
def tellL (D : Nat) (l : List UInt8) (R : Nat) : List UInt8 := (List.range R).map fun x => at8 l (x * D)
theorem tellL_s (D : Nat) (l : List UInt8) (k : Nat) : tellL D l (k + 1) = tellL D l k ++ [at8 l (k * D)] := by simp [tellL, List.range_succ]
theorem tellL_len (D : Nat) (l : List UInt8) (R : Nat) : (tellL D l R).length = R := by simp [tellL]
theorem fblk_own {β : Type} (B g : Nat) (l : List UInt8) : OwnFrom B (fun (_ : β) W => FBlk W g l) := fun s X Y row hs hg hr =>
  hs.kept hg (fun e => by
    obtain ⟨_, o, ho, hc⟩ := hr g e.symm
    obtain ⟨C, h1, _⟩ := hs
    rw [h1] at ho
    cases ho
    cases hc)
theorem KpT.set {gs : Nat} {X : World} {B : Nat} {C : Array Value} {t : TypeId} {fr : Nat × Nat} (hg : X.heap[B]? = some (.cells C t fr)) (h1 : t ≠ 24) (h2 : t ≠ 88) (h3 : B ≠ gs) (v : Value) : KpT gs X (X.setCell ⟨B, 0, none⟩ v) := KpT.grown (grownBy_setCell' X B v) hg h1 h2 h3
theorem KpT.row {gs : Nat} {X Y : World} {base n : Nat} {v : Value} {xs : List Value} {H : Array Value} {u : TypeId} {p : Nat × Nat} (hr : X.ownsRow base 5 1 v n xs) (hg : X.grownBy Y v.ownBlock) (hgs : X.heap[gs]? = some (.cells H u p)) (hu : u ≠ 5) : KpT gs X Y := by
  rcases hr.2 with ⟨rfl, _⟩ | ⟨g, cap, cur, rfl, _, hb, _⟩
  · intro b C t fr hx _
    exact (hg.block b (blk_lt hx) (by simp [Value.ownBlock])).trans hx
  · refine KpT.grown (g := g) (by simpa [Value.ownBlock] using hg) hb (by decide) (by decide) (fun e => ?_)
    subst e
    rw [hb] at hgs
    cases hgs
    exact hu rfl
theorem FBlk.row {X Y : World} {g base n : Nat} {l : List UInt8} {v : Value} {xs : List Value} (h : FBlk X g l) (hr : X.ownsRow base 5 1 v n xs) (hg : X.grownBy Y v.ownBlock) : FBlk Y g l := by
  refine h.kept hg (fun e => ?_)
  obtain ⟨C, h1, _⟩ := h
  rcases hr.2 with ⟨rfl, _⟩ | ⟨g2, cap, cur, rfl, _, hb, _⟩
  · cases e
  · have e2 : g = g2 := by simpa [Value.ownBlock] using e
    subst e2
    rw [h1] at hb
    simp at hb
theorem conv_u8 {W : World} {base n : Nat} {v : Value} {l : List UInt8} (h : W.ownsRow base 5 1 v n (kU8.flat l)) (hl : l.length = n) : (convert 50 9 v).run Try.prog W = .ok (.string (ba l)) W := by
  subst hl
  rcases h.2 with ⟨rfl, h0⟩ | ⟨g, cap, cur, rfl, hb, hg, h1, h2, h3, h4⟩
  · have : l = [] := List.length_eq_zero_iff.1 h0
    subst this
    rw [run_convert_bytes_string _ 50 9 5 _ _ _ Try.underlying50 Try.underlying5 Try.underlying9]
    rfl
  · refine run_convert_bytes_back W 50 9 5 ⟨g, 0, none⟩ _ l Try.underlying50 Try.underlying5 Try.underlying9 (fun j hj => ?_)
    rw [add_plain, Nat.zero_add]
    simp only [World.cell?, hg]
    have : (cur.toList.take (l.length * 1))[j]? = (u8s l)[j]? := by rw [h4, kU8_flat]
    rw [List.getElem?_take, if_pos (by omega)] at this
    rw [← Array.getElem?_toList, this]
    simp [u8s, hj]
theorem stepIn_append {P : Program} {n : Nat} {o : Oper} {a : Act} {w w' : World} {K : Act → World → Prop} {Q : Exit → Act → World → Prop} (s x : Operand) (t : TypeId) (ho : o.op = .call { callee := .builtin .append, args := #[s, x], argTypes := #[t, t] }) (vs vx v' : Value) (hs : a.eval s = vs) (hx : a.eval x = vx) (hrun : (Builtin.append_ #[t, t] o.type #[vs, vx]).run P w = .ok v' w') (h : K (a.put o.dst v') w') : Oper.wpIn Fence.wide n P o a w K Q := by
  unfold Oper.wpIn
  refine ⟨fun f hf => trivial, ?_⟩
  rw [show Fence.wide.round = none from rfl, Oper.semAt_none]
  simp [execOp, ho, resolve, invoke, builtin, hs, hx, hrun, Result.andThen]
  exact h
theorem infoU8 : (Try.prog.info? 5).map (fun i => (i.zero, i.size, i.bytes)) = some (some (.int .u8 0), 1, 1) := by kernel_rfl

set_option maxRecDepth 100000 in
set_option maxHeartbeats 4000000 in
theorem Tell_in (n f d p r dr o sl md fr : Int) (ad : Option Addr) (cap : Nat) (zs : List Int) (R D L : Nat) (s : ByteArray) (hs : s.size ≤ 9223372036854775807) (w : World) (hl : zs.length ≤ 9223372036854775807) (hT : Tab w ad zs) (hR : gate (plainE n f d p r dr o sl md fr zs) (3 * (f + 1)) = (R : Int)) (hL : gate (plainE n f d p r dr o sl md fr zs) (3 * (f + 1) * d) = (L : Int))
    (hR15 : R ≤ 15) (hL60 : L ≤ 60) (hLD : L = R * D) (hd : R = 0 ∨ (d = (D : Int) ∧ 1 ≤ D ∧ D ≤ 4)) :
    CallsIn Fence.wide 8 Try.prog 29 #[.agg #[.int .i64 n, .int .i64 f, .int .i64 d, .int .i64 p, .int .i64 r, .int .i64 dr, .int .i64 o, .int .i64 sl, .int .i64 md, .int .i64 fr, .slice ad zs.length cap], .string s] w fun e W' => e = .returned (.string (dgB R (valG (ba (tellL D (wellL L s) R))))) ∧ Below w.heap.size w W' := by
  have hro : Fence.wide.round = none := rfl
  have HB0 := hidden (bthen (ballc w (.cells #[.int .i64 n, .int .i64 f, .int .i64 d, .int .i64 p, .int .i64 r, .int .i64 dr, .int .i64 o, .int .i64 sl, .int .i64 md, .int .i64 fr, .slice ad zs.length cap] 24)) (ballc _ (.cells #[.slice none 0 0] 50)))
  have CC := hidden (fun V h => codesOf_any n f d p r dr o sl md fr ad cap zs L s hs V hl h hL hL60)
  have CS := hidden (fun (a2 : Option Addr) (c2 : Nat) V => stretches_any n f d p r dr o sl md fr ad cap zs a2 L c2 V)
  have k0 := blk_later (blk_nw w #[.int .i64 n, .int .i64 f, .int .i64 d, .int .i64 p, .int .i64 r, .int .i64 dr, .int .i64 o, .int .i64 sl, .int .i64 md, .int .i64 fr, .slice ad zs.length cap] 24) (ballc _ (.cells #[.slice none 0 0] 50))
  have k1 := blk_newAt (w.alloc (.cells #[.int .i64 n, .int .i64 f, .int .i64 d, .int .i64 p, .int .i64 r, .int .i64 dr, .int .i64 o, .int .i64 sl, .int .i64 md, .int .i64 fr, .slice ad zs.length cap] 24)) #[.slice none 0 0] 50 (b := w.heap.size + 1) (by simp)
  have HT := hidden (hT.below HB0.out)
  have HG := hidden (fun (cap' gc gs g : Nat) V (h : Tab V ad zs) b1 b2 hc => str_gives n f d p r dr o sl md fr ad cap zs R D L cap' hR15 hd 7 (by omega) gc gs g V hl h hR b1 b2 hc)
  have HWL := hidden (wellL_len L s)
  have HLD := hidden hLD
  have HBT := hidden hT
  clear hT hR hL hLD
  refine callsIn_of_wp_marks Try.func29 rfl trivial ?_ hro
  simp only [Try.ntmps29, List.size_toArray, List.length_cons, List.length_nil, Nat.reduceAdd, Nat.reduceSub, Array.replicate_succ, Array.replicate_zero, List.push_toArray, List.append_toArray, List.nil_append, List.cons_append]
  refine wpIn_wide.2 ?_
  have hsz0 : Hid (((w.alloc (.cells #[.int .i64 n, .int .i64 f, .int .i64 d, .int .i64 p, .int .i64 r, .int .i64 dr, .int .i64 o, .int .i64 sl, .int .i64 md, .int .i64 fr, .slice ad zs.length cap] 24)).alloc (.cells #[.slice none 0 0] 50)).heap.size = w.heap.size + 1 + 1) := by show _ = _; simp
  have K0 := hidden k0
  have K1 := hidden k1
  have hS : ∀ V, Chn ((w.alloc (.cells #[.int .i64 n, .int .i64 f, .int .i64 d, .int .i64 p, .int .i64 r, .int .i64 dr, .int .i64 o, .int .i64 sl, .int .i64 md, .int .i64 fr, .slice ad zs.length cap] 24)).alloc (.cells #[.slice none 0 0] 50)).heap.size ((w.alloc (.cells #[.int .i64 n, .int .i64 f, .int .i64 d, .int .i64 p, .int .i64 r, .int .i64 dr, .int .i64 o, .int .i64 sl, .int .i64 md, .int .i64 fr, .slice ad zs.length cap] 24)).alloc (.cells #[.slice none 0 0] 50)) V → (V.cell? ⟨w.heap.size, 0, none⟩ = some (.int .i64 n) ∧ V.cell? ⟨w.heap.size, 1, none⟩ = some (.int .i64 f) ∧ V.cell? ⟨w.heap.size, 2, none⟩ = some (.int .i64 d) ∧ V.cell? ⟨w.heap.size, 3, none⟩ = some (.int .i64 p) ∧ V.cell? ⟨w.heap.size, 4, none⟩ = some (.int .i64 r) ∧ V.cell? ⟨w.heap.size, 5, none⟩ = some (.int .i64 dr) ∧ V.cell? ⟨w.heap.size, 6, none⟩ = some (.int .i64 o) ∧ V.cell? ⟨w.heap.size, 7, none⟩ = some (.int .i64 sl) ∧ V.cell? ⟨w.heap.size, 8, none⟩ = some (.int .i64 md) ∧ V.cell? ⟨w.heap.size, 9, none⟩ = some (.int .i64 fr) ∧ V.cell? ⟨w.heap.size, 10, none⟩ = some (.slice ad zs.length cap)) := fun V hV => by
    have l0 := blk_cell (blk_later k0 hV.1)
    exact ⟨l0 0, l0 1, l0 2, l0 3, l0 4, l0 5, l0 6, l0 7, l0 8, l0 9, l0 10⟩
  have hC0 : Chn ((w.alloc (.cells #[.int .i64 n, .int .i64 f, .int .i64 d, .int .i64 p, .int .i64 r, .int .i64 dr, .int .i64 o, .int .i64 sl, .int .i64 md, .int .i64 fr, .slice ad zs.length cap] 24)).alloc (.cells #[.slice none 0 0] 50)).heap.size ((w.alloc (.cells #[.int .i64 n, .int .i64 f, .int .i64 d, .int .i64 p, .int .i64 r, .int .i64 dr, .int .i64 o, .int .i64 sl, .int .i64 md, .int .i64 fr, .slice ad zs.length cap] 24)).alloc (.cells #[.slice none 0 0] 50)) ((w.alloc (.cells #[.int .i64 n, .int .i64 f, .int .i64 d, .int .i64 p, .int .i64 r, .int .i64 dr, .int .i64 o, .int .i64 sl, .int .i64 md, .int .i64 fr, .slice ad zs.length cap] 24)).alloc (.cells #[.slice none 0 0] 50)) := Chn.refl (Nat.le_refl _)
  clear k0 k1
  go_wp2
  generalize (w.alloc (.cells #[.int .i64 n, .int .i64 f, .int .i64 d, .int .i64 p, .int .i64 r, .int .i64 dr, .int .i64 o, .int .i64 sl, .int .i64 md, .int .i64 fr, .slice ad zs.length cap] 24)).alloc (.cells #[.slice none 0 0] 50) = w0 at *
  go_region_held3 (fun V => V.cell? ⟨w.heap.size, 0, none⟩ = some (.int .i64 n) ∧ V.cell? ⟨w.heap.size, 1, none⟩ = some (.int .i64 f) ∧ V.cell? ⟨w.heap.size, 2, none⟩ = some (.int .i64 d) ∧ V.cell? ⟨w.heap.size, 3, none⟩ = some (.int .i64 p) ∧ V.cell? ⟨w.heap.size, 4, none⟩ = some (.int .i64 r) ∧ V.cell? ⟨w.heap.size, 5, none⟩ = some (.int .i64 dr) ∧ V.cell? ⟨w.heap.size, 6, none⟩ = some (.int .i64 o) ∧ V.cell? ⟨w.heap.size, 7, none⟩ = some (.int .i64 sl) ∧ V.cell? ⟨w.heap.size, 8, none⟩ = some (.int .i64 md) ∧ V.cell? ⟨w.heap.size, 9, none⟩ = some (.int .i64 fr) ∧ V.cell? ⟨w.heap.size, 10, none⟩ = some (.slice ad zs.length cap)) (first | exact hS _ (by repeat (first | with_reducible assumption | with_reducible refine Chn.drew ?_)))
    (first
    | (go_at_call 43; refine (CC.out _ (HT.out.below (Chn.out (by repeat (first | with_reducible assumption | with_reducible refine Chn.drew ?_))))).mono ?_; rintro e w4 ⟨g, cap', rfl, hF, hg, hcap, hb4⟩; have hC4 := Chn.below (show Chn w0.heap.size w0 _ from (by repeat (first | with_reducible assumption | with_reducible refine Chn.drew ?_))) hb4; have hgw := Nat.le_trans hC4.2 (Nat.le_refl _); clear hb4)
    | (go_at_call 42; refine (CS.out _ _ _).mono ?_; rintro e w5 ⟨gc, gs, rfl, e1, e2, hgs, hb5⟩; have hF5 := FBlk.later hF hb5; have hC5 := Chn.below hC4 hb5; clear hb5))
  have hs4 := hC4.2
  have hs5 := hC5.2
  have hgs' : w.heap.size + 1 < gs := by have := hsz0.out; omega
  have HB5 := hidden (bthen HB0.out hC5.out)
  have B5 : Boxed w5 (w.heap.size + 1) 50 (.slice none 0 0) := blk_later K1.out hC5.out
  have HF5 := hidden hF5
  have hGI := HG.out cap' gc gs g w5 (HT.out.below hC5.out) e1 e2 (by rw [← HLD.out]; exact hcap)
  have HE2 := hidden e2
  clear hS hC0 hC4 hC5 hF hF5 CC CS HG K0 K1 HBT e1 e2
  go_wp2
  refine (wpIn_wide (n := 8)).1 ?_
  refine rf_gives (gf := 52) (lb := #[.pointer (some ⟨gc, 0, none⟩), .pointer (some ⟨gs, 0, none⟩)]) rfl (enters_of Try.func52 (by kernel_rfl) rfl)
    hGI (Below.refl _ _) (fun _ => rfl) KpT.t (fun V l o o' _ h1 h2 => KpT.put V l o o' h1 h2)
    (fun k V => (∃ v, Boxed V (w.heap.size + 1) 50 v ∧ V.ownsRow w.heap.size 5 1 v k (kU8.flat (tellL D (wellL L s) k)) ∧ True) ∧ FBlk V g (wellL L s) ∧ V.heap[gs]? = some (.cells #[.slice (some ⟨g, 0, none⟩) L cap'] 50 (0, 0)) ∧ Below w.heap.size w V)
    ?own ⟨⟨_, B5, World.ownsRow_nil _ _ _ _, trivial⟩, HF5.out, HE2.out, HB5.out⟩
    (fun k => { tmps := #[.agg #[.int .i64 n, .int .i64 f, .int .i64 d, .int .i64 p, .int .i64 r, .int .i64 dr, .int .i64 o, .int .i64 sl, .int .i64 md, .int .i64 fr, .slice ad zs.length cap], .string s, .pointer (some ⟨w.heap.size, 0, none⟩), undef, .string ⟨#[]⟩, .pointer (some ⟨w.heap.size + 1, 0, none⟩), undef, .slice (some ⟨g, k * D, none⟩) D D, .agg #[.int .i64 n, .int .i64 f, .int .i64 d, .int .i64 p, .int .i64 r, .int .i64 dr, .int .i64 o, .int .i64 sl, .int .i64 md, .int .i64 fr, .slice ad zs.length cap], .agg #[.int .i64 n, .int .i64 f, .int .i64 d, .int .i64 p, .int .i64 r, .int .i64 dr, .int .i64 o, .int .i64 sl, .int .i64 md, .int .i64 fr, .slice ad zs.length cap], .string s, .slice (some ⟨g, 0, none⟩) L cap', .func (.func 52) #[] #[.pointer (some ⟨gc, 0, none⟩), .pointer (some ⟨gs, 0, none⟩)], .int .i64 (k : Int), .slice (some ⟨g, k * D, none⟩) D D, undef, undef, undef, undef, undef, undef, undef, undef, undef], defers := [] })
    ?assign ?body ?done
  case own => exact OwnFrom.and (Own.from (holdsRow_own w.heap.size (w.heap.size + 1) 50 5 1 (fun k => k) (fun k => kU8.flat (tellL D (wellL L s) k)) (fun _ _ => True)) _) (OwnFrom.and (fblk_own _ _ _) (OwnFrom.and (cells_own _ _ _ _) (ownFrom_below (Nat.le_refl _) (by have := hsz0.out; omega))))
  case assign =>
    intro l2 k V K hK
    gi_wp2
    exact hK
  case body =>
    rintro l2 k V hl2 hk ⟨⟨v, hv, hrow, _⟩, hf, he2, hB⟩
    obtain ⟨rfl, hD1, hD4⟩ : d = (D : Int) ∧ 1 ≤ D ∧ D ≤ 4 := by rcases hd with h | h; omega; exact h
    have hkL : k * D < L := by
      rw [HLD.out]
      exact Nat.mul_lt_mul_of_pos_right hk (by omega)
    have cg := hf.cell (k * D) (by rw [HWL.out]; exact hkL)
    have lg := hf.lt
    have cv := hv.cell
    have lv := hv.lt
    have hmix : Try.prog.follows .mixedOrders = true := by kernel_rfl
    have hTL := hidden (tellL_s D (wellL L s) k)
    generalize at8 (wellL L s) (k * D) = c at *
    obtain ⟨i0, hi, hz0, hz1, hz2⟩ := info_parts infoU8
    have hrowd : (V.drew.alloc (.cells #[.int .u8 (c.toNat : Int)] 5)).ownsRow w.heap.size 5 kU8.k v k (kU8.flat (tellL D (wellL L s) k)) := hrow.alloc _
    obtain ⟨v', w1, hrun, hown', hgrow, _⟩ := kU8.run_append (P := Try.prog) (V.drew.alloc (.cells #[.int .u8 (c.toNat : Int)] 5)) w.heap.size 50 50 5 i0 (.int .u8 0) 1 Try.underlying50 hi hz0 hz1 hz2 rfl v k _ hrowd (.slice (some ⟨V.drew.heap.size, 0, none⟩) 1 1) [c] (Kind.Lies.of_block (K := kU8) (es := [c]) (heap_alloc_new V.drew _) (by simp [maxLen])) (by simp only [maxLen, List.length_singleton]; omega) (by simp only [List.length_singleton]; omega) (by have := hB.size; simp; omega)
    rw [List.length_singleton] at hown'
    obtain ⟨g', cap2, rfl⟩ := ownsRow_succ hown'
    obtain ⟨hv1, hv2, hr2, hk2, hb2⟩ := (show Boxed V.drew (w.heap.size + 1) 50 v from hv).appended (by decide) (show V.drew.ownsRow w.heap.size 5 1 v k (kU8.flat (tellL D (wellL L s) k)) from hrow) (show w.heap.size ≤ V.drew.heap.size from hB.size) (Nat.le_succ _) hown' hgrow
    have cv1 := hv1.cell
    have hD0 : ¬ D = 0 := by omega
    have hD00 : (0 : Int) < (D : Int) := by omega
    have fv1 := hv1.frozen
    have lv1 := hv1.lt
    have hfa : FBlk (V.drew.alloc (.cells #[.int .u8 (c.toNat : Int)] 5)) g (wellL L s) := (show FBlk V.drew g (wellL L s) from hf).later (ballc _ _)
    have hea : (V.drew.alloc (.cells #[.int .u8 (c.toNat : Int)] 5)).heap[gs]? = some (.cells #[.slice (some ⟨g, 0, none⟩) L cap'] 50 (0, 0)) := blk_later (show V.drew.heap[gs]? = _ from he2) (ballc _ _)
    have hkp : KpT gs V (w1.setCell ⟨w.heap.size + 1, 0, none⟩ (.slice (some ⟨g', 0, none⟩) (k + 1) cap2)) := ((KpT.below (ballc V.drew (.cells #[.int .u8 (c.toNat : Int)] 5))).t (KpT.row hrowd hgrow hea (by decide))).t (KpT.set hv1 (by decide) (by decide) (by omega) _)
    have hf1 := hfa.row hrowd hgrow
    have HEND : Hid (goesOn w5.heap.size (KpT gs) (fun V => (∃ v, Boxed V (w.heap.size + 1) 50 v ∧ V.ownsRow w.heap.size 5 1 v (k + 1) (kU8.flat (tellL D (wellL L s) (k + 1))) ∧ True) ∧ FBlk V g (wellL L s) ∧ V.heap[gs]? = some (.cells #[.slice (some ⟨g, 0, none⟩) L cap'] 50 (0, 0)) ∧ Below w.heap.size w V) V .normal { tmps := #[], defers := [] } (w1.setCell ⟨w.heap.size + 1, 0, none⟩ (.slice (some ⟨g', 0, none⟩) (k + 1) cap2))) := by
      refine ⟨(⟨hk2.size, hk2.same⟩ : KeepsOthers V _).from _, hkp, ⟨_, hv2, by rw [hTL.out, Kind.flat_append]; exact hr2, trivial⟩, hf1.kept (grownBy_setCell' _ _ _) (fun e => ?_), hkp gs _ _ _ he2 (.inr (.inr rfl)), hB.trans (show Below w.heap.size V _ from ⟨hb2.os, hb2.tape, hb2.output, hb2.size, hb2.block⟩)⟩
      obtain ⟨C, h1, _⟩ := hf1
      cases e
      rw [show w1.heap[w.heap.size + 1]? = _ from hv1] at h1
      cases h1
    clear hkp hf1 hfa hea hk2 hb2 hr2 hv2 hv1 hrowd hown' hgrow hf he2 hB hrow hv hD4 hd hi hz0 hz1 hz2 HE2 HF5 hGI
    generalize hPP : k * D = P at *
    clear hPP
    gi_wp2
    refine wpIn_region_any hmix ?_
    change wpAnyIn _ _ _ _ _ _ _ _ _ V.drew
    refine any_round (no_defer (by kernel_rfl)) _ _ _ _ ?_
    refine wpAnyIn_take (i := 1) (v := .slice (some ⟨g, P, none⟩) D D) rfl rfl (by kernel_rfl) (by kernel_rfl) (by kernel_rfl) (fun _ _ _ h => h) ⟨Or.inl ⟨by rfl, fun X => by go_simp⟩, fun _ => rfl⟩ ?_
    refine wpAnyIn_take (i := 2) (v := .pointer (some ⟨g, P, none⟩)) rfl rfl (by kernel_rfl) (by kernel_rfl) (by kernel_rfl) (fun _ _ _ h => h) ⟨Or.inl ⟨by rfl, fun X => by go_simp⟩, fun _ => rfl⟩ ?_
    refine wpAnyIn_ready (rs := [0, 3]) (by kernel_rfl) (by simp) ?_
    refine AllReadyIn.cons rfl (fun K hK => ?_) ?_
    · rw [if_pos (by rfl)]
      go_simp
      refine hK _ _ ?_
      clear hK K
      refine wpAnyIn_ready (rs := [3]) (by kernel_rfl) (by simp) ?_
      refine AllReadyIn.cons rfl (fun K hK => ?_) ?_
      · rw [if_pos (by rfl)]
        go_simp
        refine hK _ _ ?_
        clear hK K
        refine wpAnyIn_ready (rs := [4]) (by kernel_rfl) (by simp) ?_
        refine AllReadyIn.cons rfl (fun K hK => ?_) ?_
        · rw [if_pos (by rfl)]
          go_simp
          refine hK _ _ ?_
          clear hK K
          refine wpAnyIn_ready (rs := [5]) (by kernel_rfl) (by simp) ?_
          refine AllReadyIn.cons rfl (fun K hK => ?_) ?_
          · rw [if_pos (by rfl)]
            refine stepIn_append (.tmp 15) (.tmp 19) 50 rfl _ _ _ rfl rfl hrun ?_
            refine hK _ _ ?_
            clear hK K
            refine wpAnyIn_ready (rs := [6]) (by kernel_rfl) (by simp) ?_
            refine AllReadyIn.cons rfl (fun K hK => ?_) ?_
            · rw [if_pos (by rfl)]
              go_simp
              refine hK _ _ ?_
              clear hK K
              refine wpAnyIn_done (by kernel_rfl) ?_ _
              gi_wp2
              exact HEND.out
            · exact AllReadyIn.nil
          · exact AllReadyIn.nil
        · exact AllReadyIn.nil
      · exact AllReadyIn.nil
    · refine AllReadyIn.cons rfl (fun K hK => ?_) ?_
      · rw [if_pos (by rfl)]
        go_simp
        refine hK _ _ ?_
        clear hK K
        refine wpAnyIn_ready (rs := [0, 4]) (by kernel_rfl) (by simp) ?_
        refine AllReadyIn.cons rfl (fun K hK => ?_) ?_
        · rw [if_pos (by rfl)]
          go_simp
          refine hK _ _ ?_
          clear hK K
          refine wpAnyIn_ready (rs := [4]) (by kernel_rfl) (by simp) ?_
          refine AllReadyIn.cons rfl (fun K hK => ?_) ?_
          · rw [if_pos (by rfl)]
            go_simp
            refine hK _ _ ?_
            clear hK K
            refine wpAnyIn_ready (rs := [5]) (by kernel_rfl) (by simp) ?_
            refine AllReadyIn.cons rfl (fun K hK => ?_) ?_
            · rw [if_pos (by rfl)]
              refine stepIn_append (.tmp 15) (.tmp 19) 50 rfl _ _ _ rfl rfl hrun ?_
              refine hK _ _ ?_
              clear hK K
              refine wpAnyIn_ready (rs := [6]) (by kernel_rfl) (by simp) ?_
              refine AllReadyIn.cons rfl (fun K hK => ?_) ?_
              · rw [if_pos (by rfl)]
                go_simp
                refine hK _ _ ?_
                clear hK K
                refine wpAnyIn_done (by kernel_rfl) ?_ _
                gi_wp2
                exact HEND.out
              · exact AllReadyIn.nil
            · exact AllReadyIn.nil
          · exact AllReadyIn.nil
        · refine AllReadyIn.cons rfl (fun K hK => ?_) ?_
          · rw [if_pos (by rfl)]
            go_simp
            refine hK _ _ ?_
            clear hK K
            refine wpAnyIn_ready (rs := [0]) (by kernel_rfl) (by simp) ?_
            refine AllReadyIn.cons rfl (fun K hK => ?_) ?_
            · rw [if_pos (by rfl)]
              go_simp
              refine hK _ _ ?_
              clear hK K
              refine wpAnyIn_ready (rs := [5]) (by kernel_rfl) (by simp) ?_
              refine AllReadyIn.cons rfl (fun K hK => ?_) ?_
              · rw [if_pos (by rfl)]
                refine stepIn_append (.tmp 15) (.tmp 19) 50 rfl _ _ _ rfl rfl hrun ?_
                refine hK _ _ ?_
                clear hK K
                refine wpAnyIn_ready (rs := [6]) (by kernel_rfl) (by simp) ?_
                refine AllReadyIn.cons rfl (fun K hK => ?_) ?_
                · rw [if_pos (by rfl)]
                  go_simp
                  refine hK _ _ ?_
                  clear hK K
                  refine wpAnyIn_done (by kernel_rfl) ?_ _
                  gi_wp2
                  exact HEND.out
                · exact AllReadyIn.nil
              · exact AllReadyIn.nil
            · exact AllReadyIn.nil
          · exact AllReadyIn.nil
      · exact AllReadyIn.nil
  case done =>
    rintro D2 V hD2 ⟨⟨v, hv, hrow, _⟩, hf, he2, hB⟩ hK
    have hv0 := hv.cell
    have hlv := hv.lt
    obtain ⟨g', cap2, rfl⟩ := own_slice hrow
    have hlen := tellL_len D (wellL L s) R
    have hconv := conv_u8 hrow hlen
    have HV := hidden (fun X => Values_any (ba (tellL D (wellL L s) R)) (by rw [ba_size, hlen]; omega) X)
    rw [ba_size, hlen] at HV
    have HB := hidden hB
    have HK := hidden hK
    clear hrow hf he2 hB hK hv hlen hGI HE2 HF5
    obtain ⟨tt, htt⟩ : ∃ tt, tt = ba (tellL D (wellL L s) R) := ⟨_, rfl⟩
    rw [← htt] at hconv HV
    have HTT := hidden htt
    clear htt
    go_wp2_with fail
    refine (HV.out _).mono ?_
    rintro e w7 ⟨rfl, hb⟩
    have hK7 := blk_later HK.out hb
    have HB7 := hidden (bthen HB.out hb)
    have hws := hsz0.out
    clear hb
    go_wp2
    refine ⟨by simp, .inl ⟨_, _, rfl, run_takeDeferred hK7, ?_⟩⟩
    exact ⟨_, results_tmp rfl _ _ _, by rw [← HTT.out]; rfl, HB7.out.trans (belowK_b (w := w) (Nat.le_refl _) w7 D2 _ _ (by omega) hK7 rfl rfl)⟩
theorem Tell_any (n f d p r dr o sl md fr : Int) (ad : Option Addr) (cap : Nat) (zs : List Int) (R D L : Nat) (s : ByteArray) (hs : s.size ≤ 9223372036854775807) (w : World) (hl : zs.length ≤ 9223372036854775807) (hT : Tab w ad zs) (hR : gate (plainE n f d p r dr o sl md fr zs) (3 * (f + 1)) = (R : Int)) (hL : gate (plainE n f d p r dr o sl md fr zs) (3 * (f + 1) * d) = (L : Int))
    (hR15 : R ≤ 15) (hL60 : L ≤ 60) (hLD : L = R * D) (hd : R = 0 ∨ (d = (D : Int) ∧ 1 ≤ D ∧ D ≤ 4)) :
    Calls Try.prog 29 #[.agg #[.int .i64 n, .int .i64 f, .int .i64 d, .int .i64 p, .int .i64 r, .int .i64 dr, .int .i64 o, .int .i64 sl, .int .i64 md, .int .i64 fr, .slice ad zs.length cap], .string s] w fun e W' => e = .returned (.string (dgB R (valG (ba (tellL D (wellL L s) R))))) ∧ Below w.heap.size w W' := (callsIn_wide (n := 8)).1 (Tell_in n f d p r dr o sl md fr ad cap zs R D L s hs w hl hT hR hL hR15 hL60 hLD hd)
end Go.Proofs.Ytkolhbacgoafcab

/- The calls Move and Begin of package pipe return a pipe a tick later with what is done, and a pipe with a new instance in it, and make at most new memory; conditions: rows lie where they say, lengths fit int, at most a hundred thousand votes. -/
namespace Go.Proofs.Ytkolhbacgoafcab
open Go.ChangeShapes Go.WideShapes Go.ChangeAt Go.RowKit Go.Shelf
set_option linter.unusedVariables false
attribute [local go_sem] Oper.semAt_some

theorem keeps_below {X Y : World} (h : Below X.heap.size X Y) : KeepsOthers X Y := ⟨h.size, fun k o hk _ => blk_later hk h⟩
theorem keeps_blk {X Y : World} {g : Nat} {l : List UInt8} (h : FBlk X g l) (hg : X.grownBy Y (some g)) : KeepsOthers X Y := KeepsOthers.of_grownBy hg fun j o e hj => by
  obtain ⟨C, h1, _⟩ := h
  cases e
  rw [h1] at hj
  cases hj
  rfl
theorem FBlk.ne {X : World} {g b : Nat} {l : List UInt8} (h : FBlk X g l) {C : Array Value} {t : TypeId} {fr : Nat × Nat} (hb : X.heap[b]? = some (.cells C t fr)) (ht : t ≠ 5) : b ≠ g := by
  obtain ⟨C2, h1, _⟩ := h
  intro e
  subst e
  rw [h1] at hb
  cases hb
  exact ht rfl
theorem FBlk.keep {X Y : World} {g b : Nat} {l : List UInt8} (h : FBlk X g l) (hg : X.grownBy Y (some g)) {C : Array Value} {t : TypeId} {fr : Nat × Nat} (hb : X.heap[b]? = some (.cells C t fr)) (ht : t ≠ 5) : Y.heap[b]? = some (.cells C t fr) :=
  (hg.block b (blk_lt hb) (fun e => h.ne hb ht (by cases e; rfl))).trans hb
theorem KpT.blk {gs : Nat} {X Y : World} {g : Nat} {l : List UInt8} (h : FBlk X g l) (hg : X.grownBy Y (some g)) (h3 : g ≠ gs) : KpT gs X Y := by
  obtain ⟨C, h1, _⟩ := h
  exact KpT.grown hg h1 (by decide) (by decide) h3
/-- What an instance ends with. -/
def endF (b : UInt8) : Int := if valG (ba [b]) 0 = 1 then 1 else 0
/-- What an exchange makes of a code, with these votes. -/
def hrdF (n f d p r dr o sl md fr : Int) (ad : Option Addr) (cap : Nat) (zs : List Int) (votes : List ByteArray) (x : Nat) (b : UInt8) : UInt8 := hrdB (plainE n f d p r dr o sl md fr zs) n f votes x b

set_option maxRecDepth 100000 in
set_option maxHeartbeats 4000000 in
theorem Move_in (n f d p r dr o sl md fr : Int) (ad : Option Addr) (cap : Nat) (zs : List Int) (R D L : Nat) (s : ByteArray) (hs : s.size ≤ 9223372036854775807) (a2 : Option Addr) (c2 : Nat) (votes : List ByteArray) (w : World) (hl : zs.length ≤ 9223372036854775807) (hT : Tab w ad zs) (hR : gate (plainE n f d p r dr o sl md fr zs) (3 * (f + 1)) = (R : Int)) (hL : gate (plainE n f d p r dr o sl md fr zs) (3 * (f + 1) * d) = (L : Int))
    (hR15 : R ≤ 15) (hL60 : L ≤ 60) (hLD : L = R * D) (hd : R = 0 ∨ (d = (D : Int) ∧ 1 ≤ D ∧ D ≤ 4)) (hn : votes.length ≤ 100000) (hV : kStr.Lies w.heap.size w (.slice a2 votes.length c2) votes) (hz : ∀ t ∈ votes, t.size ≤ 9223372036854775807) :
    CallsIn Fence.wide 8 Try.prog 32 #[.agg #[.int .i64 n, .int .i64 f, .int .i64 d, .int .i64 p, .int .i64 r, .int .i64 dr, .int .i64 o, .int .i64 sl, .int .i64 md, .int .i64 fr, .slice ad zs.length cap], .string s, .slice a2 votes.length c2] w fun e W' => e = .returned (.tuple #[.string (ba (newL (hrdF n f d p r dr o sl md fr ad cap zs votes) D (wellL L s))), .int .i64 (endF (newB (hrdF n f d p r dr o sl md fr ad cap zs votes) D (wellL L s) L))]) ∧ Below w.heap.size w W' := by
  have hro : Fence.wide.round = none := rfl
  have HB0 := hidden (bthen (ballc w (.cells #[.int .i64 n, .int .i64 f, .int .i64 d, .int .i64 p, .int .i64 r, .int .i64 dr, .int .i64 o, .int .i64 sl, .int .i64 md, .int .i64 fr, .slice ad zs.length cap] 24)) (ballc _ (.cells #[.slice a2 votes.length c2] 32)))
  have CC := hidden (fun V h => codesOf_any n f d p r dr o sl md fr ad cap zs L s hs V hl h hL hL60)
  have CS := hidden (fun (a2 : Option Addr) (c2 : Nat) V => stretches_any n f d p r dr o sl md fr ad cap zs a2 L c2 V)
  have CH := hidden (fun (x : Nat) (hx : x < R) (b : UInt8) V h h2 => hear_any n f d p r dr o sl md fr ad cap zs R x hx hR15 b a2 c2 votes V hl h hR hn h2 hz)
  have k0 := blk_later (blk_nw w #[.int .i64 n, .int .i64 f, .int .i64 d, .int .i64 p, .int .i64 r, .int .i64 dr, .int .i64 o, .int .i64 sl, .int .i64 md, .int .i64 fr, .slice ad zs.length cap] 24) (ballc _ (.cells #[.slice a2 votes.length c2] 32))
  have k1 := blk_newAt (w.alloc (.cells #[.int .i64 n, .int .i64 f, .int .i64 d, .int .i64 p, .int .i64 r, .int .i64 dr, .int .i64 o, .int .i64 sl, .int .i64 md, .int .i64 fr, .slice ad zs.length cap] 24)) #[.slice a2 votes.length c2] 32 (b := w.heap.size + 1) (by simp)
  have HT := hidden hT
  have HVV := hidden hV
  have HG := hidden (fun (cap' gc gs g : Nat) V (h : Tab V ad zs) b1 b2 hc => str_gives n f d p r dr o sl md fr ad cap zs R D L cap' hR15 hd 7 (by omega) gc gs g V hl h hR b1 b2 hc)
  have HWL := hidden (wellL_len L s)
  have HLD := hidden hLD
  have K0 := hidden k0
  have K1 := hidden k1
  have hsz0 : Hid (((w.alloc (.cells #[.int .i64 n, .int .i64 f, .int .i64 d, .int .i64 p, .int .i64 r, .int .i64 dr, .int .i64 o, .int .i64 sl, .int .i64 md, .int .i64 fr, .slice ad zs.length cap] 24)).alloc (.cells #[.slice a2 votes.length c2] 32)).heap.size = w.heap.size + 1 + 1) := by show _ = _; simp
  clear hT hR hL hLD hV hz k0 k1
  refine callsIn_of_wp_marks Try.func32 rfl trivial ?_ hro
  simp only [Try.ntmps32, List.size_toArray, List.length_cons, List.length_nil, Nat.reduceAdd, Nat.reduceSub, Array.replicate_succ, Array.replicate_zero, List.push_toArray, List.append_toArray, List.nil_append, List.cons_append]
  refine wpIn_wide.2 ?_
  have c0 := blk_cell K0.out
  have l0 := blk_lt K0.out
  go_wp2_with fail
  refine (CC.out _ (HT.out.below HB0.out)).mono ?_
  rintro e w2 ⟨g, cap', rfl, hF, hg, hcap, hb⟩
  have E0 := hidden (blk_later K0.out hb)
  have E1 := hidden (blk_later K1.out hb)
  have HB2 := hidden (bthen HB0.out hb)
  have hs2 : w.heap.size + 1 < w2.heap.size := by have h1 := hsz0.out; have h2 := hb.size; omega
  have hgw : w.heap.size + 1 < g := by have h1 := hsz0.out; omega
  clear hb CC c0 l0
  have c0 := blk_cell E0.out
  have l0 := blk_lt E0.out
  have lF := hF.lt
  have K3 := hidden (blk_nw w2 #[.string ⟨#[48]⟩] 9)
  have HF3 := hidden (hF.later (ballc w2 (.cells #[.string ⟨#[48]⟩] 9)))
  have HE03 := hidden (blk_later E0.out (ballc w2 (.cells #[.string ⟨#[48]⟩] 9)))
  have HE13 := hidden (blk_later E1.out (ballc w2 (.cells #[.string ⟨#[48]⟩] 9)))
  have HB3 := hidden (bthen HB2.out (ballc w2 (.cells #[.string ⟨#[48]⟩] 9)))
  have HS3 : Hid ((w2.alloc (.cells #[.string ⟨#[48]⟩] 9)).heap.size = w2.heap.size + 1) := by show _ = _; simp
  go_wp2_with fail
  refine (CS.out _ _ _).mono ?_
  rintro e w5 ⟨gc, gs, rfl, e1, e2, hgs, hb5⟩
  rw [HS3.out] at hgs
  have B9 : Boxed w5 w2.heap.size 9 (.string ⟨#[48]⟩) := blk_later K3.out hb5
  have HF5 := hidden (HF3.out.later hb5)
  have E05 := hidden (blk_later HE03.out hb5)
  have E15 := hidden (blk_later HE13.out hb5)
  have HB5 := hidden (bthen HB3.out hb5)
  have hs5 : w2.heap.size < w5.heap.size := by have h1 := hb5.size; rw [HS3.out] at h1; omega
  have hGI := HG.out cap' gc gs g w5 (HT.out.below HB5.out) e1 e2 (by rw [← HLD.out]; exact hcap)
  have HE2 := hidden e2
  clear hb5 CS HG K3 HF3 HE03 HE13 HB3 e1 e2 hF
  go_wp2
  refine (wpIn_wide (n := 8)).1 ?_
  refine rf_gives (gf := 52) (lb := #[.pointer (some ⟨gc, 0, none⟩), .pointer (some ⟨gs, 0, none⟩)]) rfl (enters_of Try.func52 (by kernel_rfl) rfl)
    hGI (Below.refl _ _) (fun _ => rfl) KpT.t (fun V l o o' _ h1 h2 => KpT.put V l o o' h1 h2)
    (fun k V => FBlk V g (mixL (hrdF n f d p r dr o sl md fr ad cap zs votes) D (wellL L s) k) ∧ Boxed V w2.heap.size 9 (.string (ba [newB (hrdF n f d p r dr o sl md fr ad cap zs votes) D (wellL L s) (k * D)])) ∧ V.heap[w.heap.size]? = some (.cells #[.int .i64 n, .int .i64 f, .int .i64 d, .int .i64 p, .int .i64 r, .int .i64 dr, .int .i64 o, .int .i64 sl, .int .i64 md, .int .i64 fr, .slice ad zs.length cap] 24 (0, 0)) ∧ V.heap[w.heap.size + 1]? = some (.cells #[.slice a2 votes.length c2] 32 (0, 0)) ∧ V.heap[gs]? = some (.cells #[.slice (some ⟨g, 0, none⟩) L cap'] 50 (0, 0)) ∧ Below w.heap.size w V)
    ?own ⟨by rw [mix_0]; exact HF5.out, by rw [Nat.zero_mul, newB_0]; exact B9, E05.out, E15.out, HE2.out, HB5.out⟩
    (fun k => { tmps := #[.agg #[.int .i64 n, .int .i64 f, .int .i64 d, .int .i64 p, .int .i64 r, .int .i64 dr, .int .i64 o, .int .i64 sl, .int .i64 md, .int .i64 fr, .slice ad zs.length cap], .string s, .slice a2 votes.length c2, .pointer (some ⟨w.heap.size, 0, none⟩), undef, .pointer (some ⟨w.heap.size + 1, 0, none⟩), .string ⟨#[]⟩, .int .i64 0, .slice (some ⟨g, 0, none⟩) L cap', .pointer (some ⟨w2.heap.size, 0, none⟩), .int .i64 (k : Int), .slice (some ⟨g, k * D, none⟩) D D, undef, .agg #[.int .i64 n, .int .i64 f, .int .i64 d, .int .i64 p, .int .i64 r, .int .i64 dr, .int .i64 o, .int .i64 sl, .int .i64 md, .int .i64 fr, .slice ad zs.length cap], .string s, .slice (some ⟨g, 0, none⟩) L cap', .agg #[.int .i64 n, .int .i64 f, .int .i64 d, .int .i64 p, .int .i64 r, .int .i64 dr, .int .i64 o, .int .i64 sl, .int .i64 md, .int .i64 fr, .slice ad zs.length cap], .slice (some ⟨g, 0, none⟩) L cap', .func (.func 52) #[] #[.pointer (some ⟨gc, 0, none⟩), .pointer (some ⟨gs, 0, none⟩)], .int .i64 (k : Int), .slice (some ⟨g, k * D, none⟩) D D, undef, undef, undef, undef, undef, undef, undef, undef, undef, undef, undef, undef], defers := [] })
    ?assign ?body ?done
  case own => exact OwnFrom.and (fun k X Y row hs hg hr => (fblk_own w5.heap.size g (mixL (hrdF n f d p r dr o sl md fr ad cap zs votes) D (wellL L s) k)) () X Y row hs hg hr) (OwnFrom.and (Own.from (boxed_own _ _ _) _) (OwnFrom.and (cells_own _ _ _ _) (OwnFrom.and (cells_own _ _ _ _) (OwnFrom.and (cells_own _ _ _ _) (ownFrom_below (Nat.le_refl _) (by omega))))))
  case assign =>
    intro l2 k V K hK
    gi_wp2
    exact hK
  case body =>
    rintro l2 k V hl2 hk ⟨hf, hb9, he0, he1, he2, hB⟩
    obtain ⟨rfl, hD1, hD4⟩ : d = (D : Int) ∧ 1 ≤ D ∧ D ≤ 4 := by rcases hd with h | h; omega; exact h
    have hkL : k * D + D ≤ L := by
      rw [HLD.out, ← Nat.succ_mul]
      exact Nat.mul_le_mul_right D hk
    have hsk : (k + 1) * D = k * D + D := Nat.succ_mul k D
    have SH := shift_any g (k * D) D (mixL (hrdF n f (D : Int) p r dr o sl md fr ad cap zs votes) D (wellL L s) k) (newB (hrdF n f (D : Int) p r dr o sl md fr ad cap zs votes) D (wellL L s) (k * D)) hD1 (by omega) (by rw [mixL_len, HWL.out]; exact hkL) V hf
    rw [mix_last _ _ hD1 (by rw [HWL.out]; exact hkL), mix_step _ _ hD1 (by rw [HWL.out]; exact hkL)] at SH
    have SH := hidden SH
    have HNX : Hid (newB (hrdF n f (D : Int) p r dr o sl md fr ad cap zs votes) D (wellL L s) ((k + 1) * D) = hrdF n f (D : Int) p r dr o sl md fr ad cap zs votes k (at8 (wellL L s) (k * D + D - 1))) := by show _ = _; rw [hsk]; exact mix_come _ _ k hD1
    have HHR : Hid (∀ x b, hrdF n f (D : Int) p r dr o sl md fr ad cap zs votes x b = hrdB (plainE n f (D : Int) p r dr o sl md fr zs) n f votes x b) := fun _ _ => rfl
    have CK := hidden (fun b V h h2 => CH.out k hk b V h h2)
    have c0 := blk_cell he0
    have l0 := blk_lt he0
    have c1 := blk_cell he1 0
    have l1 := blk_lt he1
    have c9 := hb9.cell
    have l9 := hb9.lt
    have hfs : (Fence.wide.inRound l2).fn 45 := trivial
    have hfh : (Fence.wide.inRound l2).fn 46 := trivial
    have HF := hidden hf
    have H9 := hidden hb9
    have H0 := hidden he0
    have H1 := hidden he1
    have H2 := hidden he2
    have HBV := hidden hB
    clear hf hb9 he0 he1 he2 hB hkL hd hGI HE2 HF5 E05 E15 HB5 CH
    gi_wp2_with fail
    refine And.intro trivial ?_
    refine (CallsIn.inRound l2 (callsIn_wide.2 SH.out)).mono ?_
    rintro e w6 ⟨rfl, hf6, hg6⟩
    have m0 := HF.out.keep hg6 H0.out (by decide)
    have m1 := HF.out.keep hg6 H1.out (by decide)
    have m2 := HF.out.keep hg6 H2.out (by decide)
    have m9 : Boxed w6 w2.heap.size 9 _ := HF.out.keep hg6 H9.out (by decide)
    have hB6 := HBV.out.grown hg6 HBV.out.size (fun j e => by cases e; omega)
    have d0 := blk_cell m0
    have d1 := blk_cell m1 0
    have k0 := blk_lt m0
    have k1 := blk_lt m1
    have M9 := hidden m9
    have HB6 := hidden hB6
    have HF6 := hidden hf6
    have HG6 := hidden hg6
    have CX := hidden (CK.out (at8 (wellL L s) (k * D + D - 1)) w6 (HT.out.below HB6.out) (HVV.out.later HB6.out))
    clear m0 m1 m2 m9 hB6 hf6 hg6 c0 l0 c1 l1 c9 l9
    gi_wp2_with fail
    refine And.intro trivial ?_
    refine (CallsIn.inRound l2 (callsIn_wide.2 CX.out)).mono ?_
    rintro e w7 ⟨rfl, hb7⟩
    have o9 : Boxed w7 w2.heap.size 9 _ := blk_later M9.out hb7
    have q9 := o9.cell
    have q8 := o9.frozen
    have q7 := o9.lt
    gi_wp2
    have hkp : KpT gs V (w7.setCell ⟨w2.heap.size, 0, none⟩ (.string (ba [hrdB (plainE n f (D : Int) p r dr o sl md fr zs) n f votes k (at8 (wellL L s) (k * D + D - 1))]))) := ((KpT.blk HF.out HG6.out (by omega)).t (KpT.below hb7)).t (KpT.set o9 (by decide) (by decide) (by omega) _)
    refine ⟨(((keeps_blk HF.out HG6.out).trans (keeps_below hb7)).trans (KeepsOthers.setCell _ _ _)).from _, hkp, (HF6.out.later hb7).kept (grownBy_setCell' _ _ _) (fun e => by cases e; omega), ?_, hkp _ _ _ _ H0.out (.inl rfl), (heap_setCell_other _ _ _ _ (by simp; omega)).trans (blk_later (HF.out.keep HG6.out H1.out (by decide)) hb7), hkp gs _ _ _ H2.out (.inr (.inr rfl)), (bthen HB6.out hb7).setCell (p := ⟨w2.heap.size, 0, none⟩) (by simp; omega) _⟩
    rw [HNX.out, HHR.out]
    exact o9.set _
  case done =>
    rintro D2 V hD2 ⟨hf, hb9, he0, he1, he2, hB⟩ hK
    rw [mix_all _ _ _ (by rw [HWL.out, HLD.out]), ] at hf
    rw [← HLD.out] at hb9
    have HNL : Hid ((newL (hrdF n f d p r dr o sl md fr ad cap zs votes) D (wellL L s)).length = L) := by show _ = _; rw [newL_len, HWL.out]
    obtain ⟨out, hout⟩ : ∃ out, out = newL (hrdF n f d p r dr o sl md fr ad cap zs votes) D (wellL L s) := ⟨_, rfl⟩
    obtain ⟨c, hc⟩ : ∃ c, c = newB (hrdF n f d p r dr o sl md fr ad cap zs votes) D (wellL L s) L := ⟨_, rfl⟩
    rw [← hout] at hf HNL
    rw [← hc] at hb9
    have HO := hidden hout
    have HC := hidden hc
    have CE : Hid (∀ V, Calls Try.prog 47 #[.string (ba [c])] V fun e w' => e = .returned (.int .i64 (endF c)) ∧ Below V.heap.size V w') := fun V => endOf_any c V
    have hcv : ∀ X, Below V.heap.size V X → (convert 50 9 (.slice (some ⟨g, 0, none⟩) L cap')).run Try.prog X = .ok (.string (ba out)) X := fun X hX => by
      have h := (hf.later hX).text cap'
      rw [HNL.out] at h
      exact h
    have hc9 := hb9.cell
    have hl9 := hb9.lt
    have HBV := hidden hB
    have HK := hidden hK
    have hS : ∀ X, Chn V.heap.size V X → X.cell? ⟨w2.heap.size, 0, none⟩ = some (.string (ba [c])) ∧ (convert 50 9 (.slice (some ⟨g, 0, none⟩) L cap')).run Try.prog X = .ok (.string (ba out)) X := fun X hX => ⟨(hX.1.cell (p := ⟨w2.heap.size, 0, none⟩) hl9).trans hc9, hcv X hX.1⟩
    have hC0 : Chn V.heap.size V V := Chn.refl (Nat.le_refl _)
    clear hf hb9 he0 he1 he2 hB hK hout hc hGI HE2 HF5 E05 E15 HB5 CH hcv hd
    obtain ⟨en, hen⟩ : ∃ en, en = endF c := ⟨_, rfl⟩
    rw [← hen] at CE
    have HEN := hidden hen
    clear hen
    generalize ba [c] = ct at *
    obtain ⟨ot, hot⟩ : ∃ ot, ot = ba out := ⟨_, rfl⟩
    rw [← hot] at hS
    have HOT := hidden hot
    clear hot
    go_wp2
    go_region_held3 (fun X => X.cell? ⟨w2.heap.size, 0, none⟩ = some (.string ct) ∧ (convert 50 9 (.slice (some ⟨g, 0, none⟩) L cap')).run Try.prog X = .ok (.string ot) X) (first | exact hS _ (by repeat (first | with_reducible assumption | with_reducible refine Chn.drew ?_)))
      (first
      | (go_at_call 47; refine (CE.out _).mono ?_; rintro e w7 ⟨rfl, hb⟩; have hC7 := Chn.below (show Chn V.heap.size V _ from (by repeat (first | with_reducible assumption | with_reducible refine Chn.drew ?_))) hb; clear hb))
    all_goals
      have hws := hsz0.out
      have hK7 := blk_later HK.out hC7.1
      go_wp2
      refine ⟨by simp, .inl ⟨_, _, rfl, run_takeDeferred hK7, ?_⟩⟩
      refine ⟨.tuple #[.string ot, .int .i64 en], by simp [results, Try.results32, go_sem], ?_, (bthen HBV.out hC7.1).trans (belowK_b (w := w) (Nat.le_refl _) w7 D2 _ _ (by have := HBV.out.size; omega) hK7 rfl rfl)⟩
      rw [← HO.out, ← HC.out, ← HOT.out, ← HEN.out]
theorem Move_any (n f d p r dr o sl md fr : Int) (ad : Option Addr) (cap : Nat) (zs : List Int) (R D L : Nat) (s : ByteArray) (hs : s.size ≤ 9223372036854775807) (a2 : Option Addr) (c2 : Nat) (votes : List ByteArray) (w : World) (hl : zs.length ≤ 9223372036854775807) (hT : Tab w ad zs) (hR : gate (plainE n f d p r dr o sl md fr zs) (3 * (f + 1)) = (R : Int)) (hL : gate (plainE n f d p r dr o sl md fr zs) (3 * (f + 1) * d) = (L : Int))
    (hR15 : R ≤ 15) (hL60 : L ≤ 60) (hLD : L = R * D) (hd : R = 0 ∨ (d = (D : Int) ∧ 1 ≤ D ∧ D ≤ 4)) (hn : votes.length ≤ 100000) (hV : kStr.Lies w.heap.size w (.slice a2 votes.length c2) votes) (hz : ∀ t ∈ votes, t.size ≤ 9223372036854775807) :
    Calls Try.prog 32 #[.agg #[.int .i64 n, .int .i64 f, .int .i64 d, .int .i64 p, .int .i64 r, .int .i64 dr, .int .i64 o, .int .i64 sl, .int .i64 md, .int .i64 fr, .slice ad zs.length cap], .string s, .slice a2 votes.length c2] w fun e W' => e = .returned (.tuple #[.string (ba (newL (hrdF n f d p r dr o sl md fr ad cap zs votes) D (wellL L s))), .int .i64 (endF (newB (hrdF n f d p r dr o sl md fr ad cap zs votes) D (wellL L s) L))]) ∧ Below w.heap.size w W' :=
  (callsIn_wide (n := 8)).1 (Move_in n f d p r dr o sl md fr ad cap zs R D L s hs a2 c2 votes w hl hT hR hL hR15 hL60 hLD hd hn hV hz)

/-- The code that an instance has at first. -/
def begC8 (bit : Int) : UInt8 := UInt8.ofNat (48 + (codeF (startF bit)).toNat)
set_option maxHeartbeats 1000000 in
theorem Begin_any (n f d p r dr o sl md fr : Int) (ad : Option Addr) (cap : Nat) (zs : List Int) (L : Nat) (s : ByteArray) (bit : Int) (hs : s.size ≤ 9223372036854775807) (w : World) (hl : zs.length ≤ 9223372036854775807) (hT : Tab w ad zs) (hL : gate (plainE n f d p r dr o sl md fr zs) (3 * (f + 1) * d) = (L : Int)) (hL60 : L ≤ 60) :
    Calls Try.prog 33 #[.agg #[.int .i64 n, .int .i64 f, .int .i64 d, .int .i64 p, .int .i64 r, .int .i64 dr, .int .i64 o, .int .i64 sl, .int .i64 md, .int .i64 fr, .slice ad zs.length cap], .string s, .int .i64 bit] w fun e w' => e = .returned (.string (ba ((wellL L s).set 0 (begC8 bit)))) ∧ Below w.heap.size w w' := by
  have CC := hidden (fun V h => codesOf_any n f d p r dr o sl md fr ad cap zs L s hs V hl h hL hL60)
  have HB0 := hidden (ballc w (.cells #[.int .i64 n, .int .i64 f, .int .i64 d, .int .i64 p, .int .i64 r, .int .i64 dr, .int .i64 o, .int .i64 sl, .int .i64 md, .int .i64 fr, .slice ad zs.length cap] 24))
  have HT := hidden (hT.below HB0.out)
  have C1 := hidden (fun V => Start_any bit V)
  have C2 := hidden (fun V => Code_any (startF bit) V)
  have HBC : Hid (begC8 bit = UInt8.ofNat (48 + (codeF (startF bit)).toNat)) := rfl
  have hcb := codeF_bd (startF bit)
  have HWL := hidden (wellL_len L s)
  clear hT hL
  generalize begC8 bit = bc at *
  generalize codeF (startF bit) = q at *
  generalize startF bit = sb at *
  obtain ⟨bv, bs⟩ := sb
  unfold agB at C1
  dsimp only at C1 C2
  obtain ⟨qn, rfl⟩ : ∃ qn : Nat, q = (qn : Int) := ⟨q.toNat, by omega⟩
  rw [Int.toNat_natCast] at HBC
  by_cases h0 : 0 < L
  · have j : (0 : Int) < (L : Int) := by omega
    go_enter Try.func33, Try.ntmps33
    go_wp2_with fail
    refine (CC.out _ HT.out).mono ?_
    rintro e w2 ⟨g, cap', rfl, hF, hg, hcap, hb⟩
    have HB2 := hidden (bthen HB0.out hb)
    have HF2 := hidden hF
    have hgw : w.heap.size ≤ g := by simp at hg; omega
    clear hb hF CC HT hg
    go_wp2_with fail
    refine (C1.out _).mono ?_
    rintro e w3 ⟨rfl, hb⟩
    have HB3 := hidden (bthen HB2.out hb)
    have HF3 := hidden (HF2.out.later hb)
    clear hb HF2 HB2
    go_wp2_with fail
    refine (C2.out _).mono ?_
    rintro e w4 ⟨rfl, hb⟩
    have HB4 := hidden (bthen HB3.out hb)
    have hF4 := HF3.out.later hb
    have c4 := hF4.cell 0 (by rw [HWL.out]; exact h0)
    have f4 := hF4.open 0 (by rw [HWL.out]; exact h0)
    have l4 := hF4.lt
    have hset := hF4.set 0 (by rw [HWL.out]; exact h0) bc
    have hcv := hset.text cap'
    rw [List.length_set, HWL.out] at hcv
    have hbn : ((bc.toNat : Nat) : Int) = 48 + (qn : Int) := by rw [HBC.out, UInt8.toNat_ofNat_of_lt' (by simp [UInt8.size]; omega)]; omega
    rw [hbn] at hcv
    clear hb HF3 HB3 hF4 hset hbn
    go_wp2
    go_ret
    exact ⟨rfl, HB4.out.setCell (p := ⟨g, 0, none⟩) (by simp; omega) _⟩
  · obtain rfl : L = 0 := by omega
    have hn : (wellL 0 s).set 0 bc = wellL 0 s := by
      rw [List.eq_nil_of_length_eq_zero (wellL_len 0 s)]
      rfl
    rw [hn]
    clear hn
    go_enter Try.func33, Try.ntmps33
    go_wp2_with fail
    refine (CC.out _ HT.out).mono ?_
    rintro e w2 ⟨g, cap', rfl, hF, hg, hcap, hb⟩
    have HB2 := hidden (bthen HB0.out hb)
    have hcv := hF.text cap'
    rw [HWL.out] at hcv
    clear hb hF CC HT hg
    go_wp2
    go_ret
    exact ⟨rfl, HB2.out⟩
end Go.Proofs.Ytkolhbacgoafcab

/- The call Step of package beat returns what plain functions give, and makes at most new memory; conditions: rows lie where they say, numbers and lengths fit int, at most a hundred thousand votes. -/
namespace Go.Proofs.Ytkolhbacgoafcab
open Go.ChangeShapes Go.WideShapes Go.ChangeAt Go.RowKit
set_option linter.unusedVariables false
attribute [local go_sem] cell_rg

theorem nxt1_bd {E P s : Int} {b : Bool} (hs : s ≤ 9223372036854775807) (hP : P ≤ 9223372036854775807) : -9223372036854775808 ≤ nxt1 E P s b ∧ nxt1 E P s b ≤ 9223372036854775807 := by
  have := satF_bd hs hP
  unfold nxt1 nxF
  split
  · split <;> omega
  · omega
/-- A tick with its votes: the pulse, Since, the pipe. -/
def stpP (n f d p r dr o sl md fr : Int) (ad : Option Addr) (cap : Nat) (zs : List Int) (D L : Nat) (votes : List ByteArray) (l : List UInt8) : Bool := endF (newB (hrdF n f d p r dr o sl md fr ad cap zs votes) D l L) == 1
def stpS (n f d p r dr o sl md fr : Int) (ad : Option Addr) (cap : Nat) (zs : List Int) (D L : Nat) (votes : List ByteArray) (l : List UInt8) (s : Int) : Int := nxt1 (plainE n f d p r dr o sl md fr zs) p s (stpP n f d p r dr o sl md fr ad cap zs D L votes l)
def stpR (n f d p r dr o sl md fr : Int) (ad : Option Addr) (cap : Nat) (zs : List Int) (D L : Nat) (votes : List ByteArray) (l : List UInt8) (s r' : Int) : Int := nxt2 (plainE n f d p r dr o sl md fr zs) p s r' (stpP n f d p r dr o sl md fr ad cap zs D L votes l)
def stpL (n f d p r dr o sl md fr : Int) (ad : Option Addr) (cap : Nat) (zs : List Int) (D L : Nat) (votes : List ByteArray) (l : List UInt8) (s : Int) : List UInt8 := (newL (hrdF n f d p r dr o sl md fr ad cap zs votes) D l).set 0 (begC8 (bitI (plainE n f d p r dr o sl md fr zs) p L (stpS n f d p r dr o sl md fr ad cap zs D L votes l s)))
theorem wellL_ba {L : Nat} {l : List UInt8} (h : l.length = L) : wellL L (ba l) = l := by
  unfold wellL
  rw [if_pos (by rw [ba_size, h]), bl_ba]
theorem stpL_len (n f d p r dr o sl md fr : Int) (ad : Option Addr) (cap : Nat) (zs : List Int) (D L : Nat) (votes : List ByteArray) (l : List UInt8) (s : Int) : (stpL n f d p r dr o sl md fr ad cap zs D L votes l s).length = l.length := by
  unfold stpL
  rw [List.length_set, newL_len]

set_option maxRecDepth 100000 in
set_option maxHeartbeats 2000000 in
theorem BStep_any (n f d p r dr o sl md fr : Int) (ad : Option Addr) (cap : Nat) (zs : List Int) (R D L : Nat) (s : ByteArray) (hs : s.size ≤ 9223372036854775807) (si ri : Int) (hsi : -9223372036854775808 ≤ si ∧ si ≤ 9223372036854775807) (hri : -9223372036854775808 ≤ ri ∧ ri ≤ 9223372036854775807) (a2 : Option Addr) (c2 : Nat) (votes : List ByteArray) (w : World) (hl : zs.length ≤ 9223372036854775807) (hT : Tab w ad zs) (hR : gate (plainE n f d p r dr o sl md fr zs) (3 * (f + 1)) = (R : Int)) (hL : gate (plainE n f d p r dr o sl md fr zs) (3 * (f + 1) * d) = (L : Int))
    (hR15 : R ≤ 15) (hL60 : L ≤ 60) (hLD : L = R * D) (hd : R = 0 ∨ (d = (D : Int) ∧ 1 ≤ D ∧ D ≤ 4)) (hn : votes.length ≤ 100000) (hV : kStr.Lies w.heap.size w (.slice a2 votes.length c2) votes) (hz : ∀ t ∈ votes, t.size ≤ 9223372036854775807) :
    Calls Try.prog 17 #[.agg #[.int .i64 n, .int .i64 f, .int .i64 d, .int .i64 p, .int .i64 r, .int .i64 dr, .int .i64 o, .int .i64 sl, .int .i64 md, .int .i64 fr, .slice ad zs.length cap], .string s, .int .i64 si, .int .i64 ri, .slice a2 votes.length c2] w fun e w' => e = .returned (.tuple #[.string (ba (stpL n f d p r dr o sl md fr ad cap zs D L votes (wellL L s) si)), .int .i64 (stpS n f d p r dr o sl md fr ad cap zs D L votes (wellL L s) si), .int .i64 (stpR n f d p r dr o sl md fr ad cap zs D L votes (wellL L s) si ri), .bool (stpP n f d p r dr o sl md fr ad cap zs D L votes (wellL L s))]) ∧ Below w.heap.size w w' := by
  have HB0 := hidden (ballc w (.cells #[.int .i64 n, .int .i64 f, .int .i64 d, .int .i64 p, .int .i64 r, .int .i64 dr, .int .i64 o, .int .i64 sl, .int .i64 md, .int .i64 fr, .slice ad zs.length cap] 24))
  have HT := hidden (hT.below HB0.out)
  have HK := hidden (blk_nw w #[.int .i64 n, .int .i64 f, .int .i64 d, .int .i64 p, .int .i64 r, .int .i64 dr, .int .i64 o, .int .i64 sl, .int .i64 md, .int .i64 fr, .slice ad zs.length cap] 24)
  have HM := hidden (Move_any n f d p r dr o sl md fr ad cap zs R D L s hs a2 c2 votes (w.alloc (.cells #[.int .i64 n, .int .i64 f, .int .i64 d, .int .i64 p, .int .i64 r, .int .i64 dr, .int .i64 o, .int .i64 sl, .int .i64 md, .int .i64 fr, .slice ad zs.length cap] 24)) hl HT.out hR hL hR15 hL60 hLD hd hn (hV.later HB0.out) hz)
  have hPP : Hid (stpP n f d p r dr o sl md fr ad cap zs D L votes (wellL L s) = (endF (newB (hrdF n f d p r dr o sl md fr ad cap zs votes) D (wellL L s) L) == 1)) := rfl
  have CN := hidden (fun V h => BNext_any n f d p r dr o sl md fr ad cap zs si ri (stpP n f d p r dr o sl md fr ad cap zs D L votes (wellL L s)) V hl h hsi hri)
  have hp4 : plainE n f d p r dr o sl md fr zs = 0 → p ≤ 400 := fun h => by obtain ⟨_, _, _, _, _, _, _, _, hp2, _⟩ := plainE_ok h; exact hp2
  have hsb : -9223372036854775808 ≤ stpS n f d p r dr o sl md fr ad cap zs D L votes (wellL L s) si ∧ stpS n f d p r dr o sl md fr ad cap zs D L votes (wellL L s) si ≤ 9223372036854775807 := by
    unfold stpS
    by_cases hE : plainE n f d p r dr o sl md fr zs = 0
    · exact nxt1_bd hsi.2 (by have := hp4 hE; omega)
    · unfold nxt1
      rw [if_neg hE]
      omega
  have CB := hidden (fun V h => BBit_any n f d p r dr o sl md fr ad cap zs L (stpS n f d p r dr o sl md fr ad cap zs D L votes (wellL L s) si) V hl h hL hL60 hsb)
  have CG := hidden (fun V h => Begin_any n f d p r dr o sl md fr ad cap zs L (ba (newL (hrdF n f d p r dr o sl md fr ad cap zs votes) D (wellL L s))) (bitI (plainE n f d p r dr o sl md fr zs) p L (stpS n f d p r dr o sl md fr ad cap zs D L votes (wellL L s) si)) (by rw [ba_size, newL_len, wellL_len]; omega) V hl h hL hL60)
  rw [wellL_ba (by rw [newL_len, wellL_len])] at CG
  have h1 : Hid (stpL n f d p r dr o sl md fr ad cap zs D L votes (wellL L s) si = (newL (hrdF n f d p r dr o sl md fr ad cap zs votes) D (wellL L s)).set 0 (begC8 (bitI (plainE n f d p r dr o sl md fr zs) p L (stpS n f d p r dr o sl md fr ad cap zs D L votes (wellL L s) si)))) := rfl
  have h2 : Hid (stpS n f d p r dr o sl md fr ad cap zs D L votes (wellL L s) si = nxt1 (plainE n f d p r dr o sl md fr zs) p si (stpP n f d p r dr o sl md fr ad cap zs D L votes (wellL L s))) := rfl
  have h3 : Hid (stpR n f d p r dr o sl md fr ad cap zs D L votes (wellL L s) si ri = nxt2 (plainE n f d p r dr o sl md fr zs) p si ri (stpP n f d p r dr o sl md fr ad cap zs D L votes (wellL L s))) := rfl
  rw [← h2.out, ← h3.out] at CN
  rw [← h1.out] at CG
  clear hT hV hz hR hL hLD hd h1 h2 h3 hp4 hsb
  generalize stpL n f d p r dr o sl md fr ad cap zs D L votes (wellL L s) si = o1 at *
  generalize stpS n f d p r dr o sl md fr ad cap zs D L votes (wellL L s) si = o2 at *
  generalize stpR n f d p r dr o sl md fr ad cap zs D L votes (wellL L s) si ri = o3 at *
  generalize stpP n f d p r dr o sl md fr ad cap zs D L votes (wellL L s) = o4 at *
  generalize endF (newB (hrdF n f d p r dr o sl md fr ad cap zs votes) D (wellL L s) L) = en at *
  generalize ba (newL (hrdF n f d p r dr o sl md fr ad cap zs votes) D (wellL L s)) = mv at *
  generalize bitI (plainE n f d p r dr o sl md fr zs) p L o2 = bi at *
  generalize ba o1 = ot at *
  generalize votes.length = M at *
  have hpp := hPP.out
  subst hpp
  generalize hbb : (en == 1) = bb at *
  clear hPP
  have j := hbb
  clear hbb
  go_enter Try.func17, Try.ntmps17
  go_wp2_with fail
  refine HM.out.mono ?_
  rintro e w2 ⟨rfl, hb⟩
  have HB2 := hidden (bthen HB0.out hb)
  have HT2 := hidden (HT.out.below hb)
  have HK2 := hidden (blk_later HK.out hb)
  have c0 := blk_cell HK2.out
  have l0 := blk_lt HK2.out
  clear hb HT HK HM
  go_wp2_with fail
  refine (CN.out _ HT2.out).mono ?_
  rintro e w3 ⟨rfl, hb⟩
  have HB3 := hidden (bthen HB2.out hb)
  have HT3 := hidden (HT2.out.below hb)
  have HK3 := hidden (blk_later HK2.out hb)
  clear hb HT2 HK2 CN c0 l0
  have c0 := blk_cell HK3.out
  have l0 := blk_lt HK3.out
  go_wp2
  refine wp_region_quiet_below (by kernel_rfl) (by kernel_rfl) ?_
  repeat (go_big_quiet_step (first | (go_at_call 18; exact Calls.regrown_of (CB.out _ (HT3.out.below (below_regrown _ _ _)))) | (go_at_call 33; exact Calls.regrown_of (CG.out _ (HT3.out.below (below_regrown _ _ _))))))
  refine wpQuiet_nil ?_
  intro w5 hw5
  have HB5 := hidden (bthen HB3.out (rg_below hw5))
  clear hw5 c0 l0
  go_wp2
  exact bodyPost_ret (v := .tuple #[.string ot, .int .i64 o2, .int .i64 o3, .bool bb]) (by simp [results, Try.results17, go_sem]) rfl ⟨rfl, HB5.out⟩
end Go.Proofs.Ytkolhbacgoafcab

/- The calls ends, begin and tick of package beat read and turn a row of ends, and what stands around it; conditions: the table lies where it says, the row and what stands around it are blocks of their own. -/
namespace Go.Proofs.Ytkolhbacgoafcab
open Go.ChangeShapes Go.WideShapes Go.ChangeAt Go.RowKit
set_option linter.unusedVariables false
attribute [local go_sem] cell_rg

/-- All but two blocks stays. -/
structure Two2 (b g : Nat) (X Y : World) : Prop where
  os : Y.os = X.os
  tape : Y.tape = X.tape
  output : Y.output = X.output
  size : X.heap.size ≤ Y.heap.size
  block : ∀ k, k < X.heap.size → k ≠ b → k ≠ g → Y.heap[k]? = X.heap[k]?
theorem Two2.of_below {b g : Nat} {X Y : World} (h : Below X.heap.size X Y) : Two2 b g X Y := ⟨h.os, h.tape, h.output, h.size, fun k hk _ _ => h.block k hk⟩
theorem Two2.trans {b g : Nat} {X Y Z : World} (h : Two2 b g X Y) (k : Two2 b g Y Z) : Two2 b g X Z := ⟨k.os.trans h.os, k.tape.trans h.tape, k.output.trans h.output, Nat.le_trans h.size k.size, fun i hi h1 h2 => (k.block i (Nat.lt_of_lt_of_le hi h.size) h1 h2).trans (h.block i hi h1 h2)⟩
theorem Two2.below {b g : Nat} {X Y Z : World} (h : Two2 b g X Y) (k : Below Y.heap.size Y Z) : Two2 b g X Z := h.trans (Two2.of_below k)
theorem Two2.setB {b g : Nat} {X Y : World} (h : Two2 b g X Y) (i : Nat) (v : Value) : Two2 b g X (Y.setCell ⟨b, i, none⟩ v) := ⟨h.os, h.tape, h.output, by simpa using h.size, fun k hk h1 h2 => (heap_setCell_other _ _ _ _ h1).trans (h.block k hk h1 h2)⟩
theorem Two2.setG {b g : Nat} {X Y : World} (h : Two2 b g X Y) (i : Nat) (v : Value) : Two2 b g X (Y.setCell ⟨g, i, none⟩ v) := ⟨h.os, h.tape, h.output, by simpa using h.size, fun k hk h1 h2 => (heap_setCell_other _ _ _ _ h2).trans (h.block k hk h1 h2)⟩
theorem Two2.drew {b g : Nat} {X Y : World} (h : Two2 b g X Y) : Two2 b g X Y.drew := ⟨h.os, h.tape, h.output, h.size, h.block⟩
theorem Two2.refl (b g : Nat) (X : World) : Two2 b g X X := ⟨rfl, rfl, rfl, Nat.le_refl _, fun _ _ _ _ => rfl⟩
theorem Two2.blk {b g k : Nat} {X Y : World} {o : Obj} (h : Two2 b g X Y) (hk : X.heap[k]? = some o) (h1 : k ≠ b) (h2 : k ≠ g) : Y.heap[k]? = some o := (h.block k (blk_lt hk) h1 h2).trans hk
theorem Two2.to_below {b g n : Nat} {X Y : World} (h : Two2 b g X Y) (hb : n ≤ b) (hg : n ≤ g) (hn : n ≤ X.heap.size) : Below n X Y := ⟨h.os, h.tape, h.output, h.size, fun k hk => h.block k (by omega) (by omega) (by omega)⟩

set_option maxHeartbeats 1000000 in
theorem ends_any (B g L now : Nat) (ps : List Bool) (t0 : TypeId) (C : Array Value) (w : World) (hB : w.heap[B]? = some (.cells C t0 (0, 0))) (h0 : C[0]? = some (.slice (some ⟨g, 0, none⟩) L L)) (h1 : C[1]? = some (.int .i64 (now : Int))) (hg : LBlk w g ps) (hL : ps.length = L) (hn : now < L) :
    Calls Try.prog 38 #[.pointer (some ⟨B, 0, none⟩)] w fun e w' => e = .returned (.bool (ps.getD now false)) ∧ Below w.heap.size w w' := by
  have c0 : w.cell? ⟨B, 0, none⟩ = some (.slice (some ⟨g, 0, none⟩) L L) := (blk_cell hB 0).trans h0
  have c1 : w.cell? ⟨B, 1, none⟩ = some (.int .i64 (now : Int)) := (blk_cell hB 1).trans h1
  have c2 := hg.cell now (by omega)
  have i1 : (0 : Int) ≤ (now : Int) := by omega
  have i2 : (now : Int) < (L : Int) := by omega
  clear hB h0 h1 hg hL
  generalize ps.getD now false = b at *
  go_enter Try.func38, Try.ntmps38
  go_wp2
  go_region
  all_goals
    go_wp2
    go_ret
    exact ⟨rfl, (Below.refl _ _).drew⟩
set_option maxHeartbeats 1000000 in
theorem begin_any (B g L now : Nat) (hBg : B ≠ g) (bit : Int) (ps : List Bool) (t0 : TypeId) (C : Array Value) (w : World) (hB : w.heap[B]? = some (.cells C t0 (0, 0))) (h0 : C[0]? = some (.slice (some ⟨g, 0, none⟩) L L)) (h1 : C[1]? = some (.int .i64 (now : Int))) (hg : LBlk w g ps) (hL : ps.length = L) (hL60 : L ≤ 60) (hn : now < L) :
    Calls Try.prog 39 #[.pointer (some ⟨B, 0, none⟩), .int .i64 bit] w fun e w' => e = .returned (.tuple #[]) ∧ w'.heap[B]? = some (.cells (C.setIfInBounds 1 (.int .i64 (((now + 1) % L : Nat) : Int))) t0 (0, 0)) ∧ LBlk w' g (ps.set now (bit == 1)) ∧ Two2 B g w w' := by
  have c0 : w.cell? ⟨B, 0, none⟩ = some (.slice (some ⟨g, 0, none⟩) L L) := (blk_cell hB 0).trans h0
  have c1 : w.cell? ⟨B, 1, none⟩ = some (.int .i64 (now : Int)) := (blk_cell hB 1).trans h1
  have f1 := blk_frozen hB 1
  have lB := blk_lt hB
  have c2 := hg.cell now (by omega)
  have f2 := hg.open now
  have lg := hg.lt
  have i1 : (0 : Int) ≤ (now : Int) := by omega
  have i2 : (now : Int) < (L : Int) := by omega
  have i3 : ¬ (L : Int) = 0 := by omega
  have i4 : (0 : Int) < (L : Int) := by omega
  have t1 : IntKind.i64.wrap ((now : Int) + 1) = (now : Int) + 1 := IntWalk.i64_in _ (by omega)
  have t2 : ((now : Int) + 1).tmod (L : Int) = (((now + 1) % L : Nat) : Int) := by
    rw [Int.tmod_eq_emod_of_nonneg (by omega)]
    simp
  have t3 : IntKind.i64.wrap ((((now + 1) % L : Nat) : Int)) = (((now + 1) % L : Nat) : Int) := IntWalk.i64_in _ (by have := Nat.mod_lt (now + 1) (show 0 < L by omega); omega)
  have HB := hidden hB
  have HG := hidden hg
  clear hB h0 h1 hg hL
  generalize ps.getD now false = b at *
  generalize hnx : (now + 1) % L = nx at *
  clear hnx
  go_enter Try.func39, Try.ntmps39
  go_wp2
  go_region
  go_wp2
  go_region
  go_wp2
  have hb1 := heap_setCell_same (w.setCell ⟨g, now, none⟩ (.bool (bit == 1))) B 1 C t0 (.int .i64 (nx : Int)) ((heap_setCell_other _ _ _ _ hBg).trans HB.out)
  have hg1 := (HG.out.set now (bit == 1)).other ⟨B, 1, none⟩ (.int .i64 (nx : Int)) (fun e => hBg e.symm)
  refine bodyPost_end (results_none rfl _ _ _) rfl ⟨rfl, hb1, hg1, ((((Two2.refl B g w).setG now (.bool (bit == 1))).setB 1 (.int .i64 (nx : Int))).drew).drew⟩
/-- A pulse that goes on by itself, in memory. -/
def betC (L g now : Nat) (n f d p r dr o sl md fr : Int) (ad : Option Addr) (cap : Nat) (zs : List Int) (s : Int) : Array Value := #[.slice (some ⟨g, 0, none⟩) L L, .int .i64 (now : Int), .int .i64 n, .int .i64 f, .int .i64 d, .int .i64 p, .int .i64 r, .int .i64 dr, .int .i64 o, .int .i64 sl, .int .i64 md, .int .i64 fr, .slice ad zs.length cap, .int .i64 s]
theorem bit_one {P L s : Int} : (bitI 0 P L s == 1) = bgF P L s := by
  unfold bitI
  rw [if_pos rfl]
  cases h : bgF P L s <;> simp

set_option maxRecDepth 100000 in
set_option maxHeartbeats 4000000 in
theorem tick_any (n f d p r dr o sl md fr : Int) (ad : Option Addr) (cap : Nat) (zs : List Int) (B g L now : Nat) (hBg : B ≠ g) (s : Int) (ps : List Bool) (w : World) (hl : zs.length ≤ 9223372036854775807) (hT : Tab w ad zs) (hE : plainE n f d p r dr o sl md fr zs = 0) (hLL : gate (plainE n f d p r dr o sl md fr zs) (3 * (f + 1) * d) = (L : Int)) (hL60 : L ≤ 60) (hs : -9223372036854775808 ≤ s ∧ s ≤ 9223372036854775807) (n0 : Nat) (hT0 : ∀ V, Below n0 w V → Tab V ad zs) (hn0 : n0 ≤ B ∧ n0 ≤ g)
    (hB : w.heap[B]? = some (.cells (betC L g now n f d p r dr o sl md fr ad cap zs s) 49 (0, 0))) (hg : LBlk w g ps) (hL : ps.length = L) (hn : now < L) :
    Calls Try.prog 22 #[.pointer (some ⟨B, 0, none⟩)] w fun e w' => e = .returned (.bool (ps.getD now false)) ∧ w'.heap[B]? = some (.cells (betC L g ((now + 1) % L) n f d p r dr o sl md fr ad cap zs (nxF p s (ps.getD now false))) 49 (0, 0)) ∧ LBlk w' g (ps.set now (bgF p L (nxF p s (ps.getD now false)))) ∧ Two2 B g w w' := by
  have CE := hidden (ends_any B g L now ps 49 _ w hB rfl rfl hg hL hn)
  have hp4 : p ≤ 400 := by obtain ⟨_, _, _, _, _, _, _, _, hp2, _⟩ := plainE_ok hE; exact hp2
  generalize ps.getD now false = e1 at *
  have CN := hidden (fun V h => BNext_any n f d p r dr o sl md fr ad cap zs s 0 e1 V hl h hs (by decide))
  have hsb := nxt1_bd (E := 0) (P := p) (b := e1) hs.2 (by omega)
  have hnx : Hid (nxt1 0 p s e1 = nxF p s e1) := if_pos rfl
  have CB := hidden (fun V h => BBit_any n f d p r dr o sl md fr ad cap zs L (nxt1 0 p s e1) V hl h hLL hL60 hsb)
  rw [hE] at CN CB
  rw [hnx.out] at CN CB
  have hbo := hidden (bit_one (P := p) (L := (L : Int)) (s := nxF p s e1))
  have CG := hidden (fun V h1 h2 => begin_any B g L now hBg (bitI 0 p L (nxF p s e1)) ps 49 (betC L g now n f d p r dr o sl md fr ad cap zs (nxF p s e1)) V h1 rfl rfl h2 hL hL60 hn)
  rw [hbo.out] at CG
  have HB := hidden hB
  have HG := hidden hg
  have HT0 := hidden hT0
  clear hbo hnx hsb hE hLL hT hT0
  generalize nxF p s e1 = s2 at *
  generalize bitI 0 p L s2 = bi at *
  generalize bgF p L s2 = bo at *
  generalize nxt2 0 p s 0 e1 = q2 at *
  go_enter Try.func22, Try.ntmps22
  go_wp2_with fail
  refine CE.out.mono ?_
  rintro e w2 ⟨rfl, hb⟩
  have HB2 := hidden (blk_later HB.out hb)
  have HG2 := hidden (HG.out.later hb)
  have HW2 := hidden hb
  have c0 := blk_cell HB2.out
  have f0 := blk_frozen HB2.out
  have l0 := blk_lt HB2.out
  have hB0 := blk_lt HB.out
  clear hb CE
  unfold betC at c0
  go_wp2
  have HD2 := hidden (show w2.drew.heap[B]? = _ from HB2.out)
  have HGD := hidden (show LBlk w2.drew g ps from HG2.out)
  have HW2t := hidden ((Two2.of_below HW2.out : Two2 B g w w2).drew)
  have HV2 := hidden (HW2t.out.to_below hn0.1 hn0.2 (show n0 ≤ w.heap.size by omega))
  have HD2 := hidden (show w2.drew.heap[B]? = _ from HB2.out)
  have HGD := hidden (show LBlk w2.drew g ps from HG2.out)
  have HW2t := hidden ((Two2.of_below HW2.out : Two2 B g w w2).drew)
  have HV2 := hidden (HW2t.out.to_below hn0.1 hn0.2 (show n0 ≤ w.heap.size by omega))
  have HD2 := hidden (show w2.drew.heap[B]? = _ from HB2.out)
  have HGD := hidden (show LBlk w2.drew g ps from HG2.out)
  have HW2t := hidden ((Two2.of_below HW2.out : Two2 B g w w2).drew)
  have HV2 := hidden (HW2t.out.to_below hn0.1 hn0.2 (show n0 ≤ w.heap.size by omega))
  have HD2 := hidden (show w2.drew.heap[B]? = _ from HB2.out)
  have HGD := hidden (show LBlk w2.drew g ps from HG2.out)
  have HW2t := hidden ((Two2.of_below HW2.out : Two2 B g w w2).drew)
  have HV2 := hidden (HW2t.out.to_below hn0.1 hn0.2 (show n0 ≤ w.heap.size by omega))
  have hmix : Try.prog.follows .mixedOrders = true := by kernel_rfl
  refine wp_region_any hmix ?_
  change wpAny _ _ _ _ _ _ _ w2.drew
  refine wpAny_take (i := 0) (v := .pointer (some ⟨B, 0, none⟩)) rfl (by kernel_rfl) (by kernel_rfl) (by kernel_rfl) (fun _ _ _ h => h) (Or.inl ⟨by rfl, fun X => by go_simp⟩) ?_
  refine wpAny_take (i := 1) (v := .pointer (some ⟨B, 0, none⟩)) rfl (by kernel_rfl) (by kernel_rfl) (by kernel_rfl) (fun _ _ _ h => h) (Or.inl ⟨by rfl, fun X => by go_simp⟩) ?_
  refine wpAny_take (i := 2) (v := .pointer (some ⟨B, 0, none⟩)) rfl (by kernel_rfl) (by kernel_rfl) (by kernel_rfl) (fun _ _ _ h => h) (Or.inl ⟨by rfl, fun X => by go_simp⟩) ?_
  refine wpAny_take (i := 3) (v := .pointer (some ⟨B, 2, none⟩)) rfl (by kernel_rfl) (by kernel_rfl) (by kernel_rfl) (fun _ _ _ h => h) (Or.inl ⟨by rfl, fun X => by go_simp⟩) ?_
  refine wpAny_take (i := 5) (v := .pointer (some ⟨B, 0, none⟩)) rfl (by kernel_rfl) (by kernel_rfl) (by kernel_rfl) (fun _ _ _ h => h) (Or.inl ⟨by rfl, fun X => by go_simp⟩) ?_
  refine wpAny_take (i := 6) (v := .pointer (some ⟨B, 0, none⟩)) rfl (by kernel_rfl) (by kernel_rfl) (by kernel_rfl) (fun _ _ _ h => h) (Or.inl ⟨by rfl, fun X => by go_simp⟩) ?_
  refine wpAny_take (i := 7) (v := .pointer (some ⟨B, 13, none⟩)) rfl (by kernel_rfl) (by kernel_rfl) (by kernel_rfl) (fun _ _ _ h => h) (Or.inl ⟨by rfl, fun X => by go_simp⟩) ?_
  refine wpAny_take (i := 9) (v := .bool e1) rfl (by kernel_rfl) (by kernel_rfl) (by kernel_rfl) (fun _ _ _ h => h) (Or.inl ⟨by rfl, fun X => by go_simp⟩) ?_
  refine wpAny_ready (rs := [4, 8]) (by kernel_rfl) (by simp) ?_
  refine AllReady.cons rfl (fun K hK => ?_) ?_
  · rw [if_pos (by rfl)]
    go_simp
    refine hK _ _ ?_
    clear hK K
    refine wpAny_ready (rs := [8]) (by kernel_rfl) (by simp) ?_
    refine AllReady.cons rfl (fun K hK => ?_) AllReady.nil
    rw [if_pos (by rfl)]
    go_simp
    refine hK _ _ ?_
    clear hK K c0 f0
    refine wpAny_ready (rs := [10]) (by kernel_rfl) (by simp) ?_
    refine AllReady.cons rfl (fun K hK => ?_) AllReady.nil
    rw [if_pos (by rfl)]
    go_simp
    refine (CN.out _ (HT0.out _ HV2.out)).mono ?_
    rintro e w3 ⟨rfl, hb3⟩
    refine hK _ _ ?_
    clear hK K
    refine wpAny_take (i := 11) (v := .tuple #[.int .i64 s2, .int .i64 q2]) rfl (by kernel_rfl) (by kernel_rfl) (by kernel_rfl) (fun _ _ _ h => h) (Or.inl ⟨by rfl, fun X => by go_simp⟩) ?_
    refine wpAny_take (i := 12) (v := .int .i64 s2) rfl (by kernel_rfl) (by kernel_rfl) (by kernel_rfl) (fun _ _ _ h => h) (Or.inl ⟨by rfl, fun X => by go_simp⟩) ?_
    refine wpAny_take (i := 13) (v := .int .i64 q2) rfl (by kernel_rfl) (by kernel_rfl) (by kernel_rfl) (fun _ _ _ h => h) (Or.inl ⟨by rfl, fun X => by go_simp⟩) ?_
    refine wpAny_take (i := 14) (v := .pointer (some ⟨B, 0, none⟩)) rfl (by kernel_rfl) (by kernel_rfl) (by kernel_rfl) (fun _ _ _ h => h) (Or.inl ⟨by rfl, fun X => by go_simp⟩) ?_
    refine wpAny_take (i := 15) (v := .pointer (some ⟨B, 13, none⟩)) rfl (by kernel_rfl) (by kernel_rfl) (by kernel_rfl) (fun _ _ _ h => h) (Or.inl ⟨by rfl, fun X => by go_simp⟩) ?_
    refine wpAny_ready (rs := [16]) (by kernel_rfl) (by simp) ?_
    have c0 := blk_cell (blk_later HD2.out hb3)
    have f0 := blk_frozen (blk_later HD2.out hb3)
    refine AllReady.cons rfl (fun K hK => ?_) AllReady.nil
    rw [if_pos (by rfl)]
    go_simp
    refine hK _ _ ?_
    clear hK K
    refine wpAny_done (by kernel_rfl) ?_ _
    clear c0 f0
    have HB4 := hidden (show (w3.setCell ⟨B, 13, none⟩ (.int .i64 s2)).drew.heap[B]? = some (.cells (betC L g now n f d p r dr o sl md fr ad cap zs s2) 49 (0, 0)) from heap_setCell_same w3 B 13 _ _ (.int .i64 s2) (blk_later HD2.out hb3))
    have HG4 := hidden (show LBlk (w3.setCell ⟨B, 13, none⟩ (.int .i64 s2)).drew g ps from (HGD.out.later hb3).other ⟨B, 13, none⟩ (.int .i64 s2) (fun e => hBg e.symm))
    have HW4 := (((HW2t.out.below hb3).setB 13 (.int .i64 s2))).drew
    have HV4 := hidden (HW4.to_below hn0.1 hn0.2 (show n0 ≤ w.heap.size by omega))
    have c0 := blk_cell HB4.out
    have f0 := blk_frozen HB4.out
    unfold betC at c0
    clear hb3
    go_wp2
    refine wp_region_any hmix ?_
    change wpAny _ _ _ _ _ _ _ (w3.setCell ⟨B, 13, none⟩ (.int .i64 s2)).drew
    generalize (w3.setCell ⟨B, 13, none⟩ (.int .i64 s2)).drew = w4 at *
    refine wpAny_take (i := 0) (v := .pointer (some ⟨B, 0, none⟩)) rfl (by kernel_rfl) (by kernel_rfl) (by kernel_rfl) (fun _ _ _ h => h) (Or.inl ⟨by rfl, fun X => by go_simp⟩) ?_
    refine wpAny_take (i := 1) (v := .pointer (some ⟨B, 0, none⟩)) rfl (by kernel_rfl) (by kernel_rfl) (by kernel_rfl) (fun _ _ _ h => h) (Or.inl ⟨by rfl, fun X => by go_simp⟩) ?_
    refine wpAny_take (i := 2) (v := .pointer (some ⟨B, 0, none⟩)) rfl (by kernel_rfl) (by kernel_rfl) (by kernel_rfl) (fun _ _ _ h => h) (Or.inl ⟨by rfl, fun X => by go_simp⟩) ?_
    refine wpAny_take (i := 3) (v := .pointer (some ⟨B, 0, none⟩)) rfl (by kernel_rfl) (by kernel_rfl) (by kernel_rfl) (fun _ _ _ h => h) (Or.inl ⟨by rfl, fun X => by go_simp⟩) ?_
    refine wpAny_take (i := 4) (v := .pointer (some ⟨B, 0, none⟩)) rfl (by kernel_rfl) (by kernel_rfl) (by kernel_rfl) (fun _ _ _ h => h) (Or.inl ⟨by rfl, fun X => by go_simp⟩) ?_
    refine wpAny_take (i := 5) (v := .pointer (some ⟨B, 2, none⟩)) rfl (by kernel_rfl) (by kernel_rfl) (by kernel_rfl) (fun _ _ _ h => h) (Or.inl ⟨by rfl, fun X => by go_simp⟩) ?_
    refine wpAny_take (i := 7) (v := .pointer (some ⟨B, 0, none⟩)) rfl (by kernel_rfl) (by kernel_rfl) (by kernel_rfl) (fun _ _ _ h => h) (Or.inl ⟨by rfl, fun X => by go_simp⟩) ?_
    refine wpAny_take (i := 8) (v := .pointer (some ⟨B, 0, none⟩)) rfl (by kernel_rfl) (by kernel_rfl) (by kernel_rfl) (fun _ _ _ h => h) (Or.inl ⟨by rfl, fun X => by go_simp⟩) ?_
    refine wpAny_take (i := 9) (v := .pointer (some ⟨B, 13, none⟩)) rfl (by kernel_rfl) (by kernel_rfl) (by kernel_rfl) (fun _ _ _ h => h) (Or.inl ⟨by rfl, fun X => by go_simp⟩) ?_
    refine wpAny_ready (rs := [6, 10]) (by kernel_rfl) (by simp) ?_
    refine AllReady.cons rfl (fun K hK => ?_) ?_
    · rw [if_pos (by rfl)]
      go_simp
      refine hK _ _ ?_
      clear hK K
      refine wpAny_ready (rs := [10]) (by kernel_rfl) (by simp) ?_
      refine AllReady.cons rfl (fun K hK => ?_) AllReady.nil
      rw [if_pos (by rfl)]
      go_simp
      refine hK _ _ ?_
      clear hK K c0 f0
      refine wpAny_ready (rs := [11]) (by kernel_rfl) (by simp) ?_
      refine AllReady.cons rfl (fun K hK => ?_) AllReady.nil
      rw [if_pos (by rfl)]
      go_simp
      refine (CB.out _ (HT0.out _ HV4.out)).mono ?_
      rintro e w5 ⟨rfl, hb5⟩
      refine hK _ _ ?_
      clear hK K
      refine wpAny_ready (rs := [12]) (by kernel_rfl) (by simp) ?_
      refine AllReady.cons rfl (fun K hK => ?_) AllReady.nil
      rw [if_pos (by rfl)]
      go_simp
      refine (CG.out _ (blk_later HB4.out hb5) (HG4.out.later hb5)).mono ?_
      rintro e w6 ⟨rfl, q1, q2, q3⟩
      have HF := hidden (And.intro q1 (And.intro q2 ((HW4.below hb5).trans q3)))
      clear q1 q2 q3 hb5
      refine hK _ _ ?_
      clear hK K
      refine wpAny_done (by kernel_rfl) ?_ _
      go_wp2
      go_ret
      exact ⟨rfl, HF.out⟩
    · refine AllReady.cons rfl (fun K hK => ?_) AllReady.nil
      rw [if_pos (by rfl)]
      go_simp
      refine hK _ _ ?_
      clear hK K
      refine wpAny_ready (rs := [6]) (by kernel_rfl) (by simp) ?_
      refine AllReady.cons rfl (fun K hK => ?_) AllReady.nil
      rw [if_pos (by rfl)]
      go_simp
      refine hK _ _ ?_
      clear hK K c0 f0
      refine wpAny_ready (rs := [11]) (by kernel_rfl) (by simp) ?_
      refine AllReady.cons rfl (fun K hK => ?_) AllReady.nil
      rw [if_pos (by rfl)]
      go_simp
      refine (CB.out _ (HT0.out _ HV4.out)).mono ?_
      rintro e w5 ⟨rfl, hb5⟩
      refine hK _ _ ?_
      clear hK K
      refine wpAny_ready (rs := [12]) (by kernel_rfl) (by simp) ?_
      refine AllReady.cons rfl (fun K hK => ?_) AllReady.nil
      rw [if_pos (by rfl)]
      go_simp
      refine (CG.out _ (blk_later HB4.out hb5) (HG4.out.later hb5)).mono ?_
      rintro e w6 ⟨rfl, q1, q2, q3⟩
      have HF := hidden (And.intro q1 (And.intro q2 ((HW4.below hb5).trans q3)))
      clear q1 q2 q3 hb5
      refine hK _ _ ?_
      clear hK K
      refine wpAny_done (by kernel_rfl) ?_ _
      go_wp2
      go_ret
      exact ⟨rfl, HF.out⟩
  · refine AllReady.cons rfl (fun K hK => ?_) AllReady.nil
    rw [if_pos (by rfl)]
    go_simp
    refine hK _ _ ?_
    clear hK K
    refine wpAny_ready (rs := [4]) (by kernel_rfl) (by simp) ?_
    refine AllReady.cons rfl (fun K hK => ?_) AllReady.nil
    rw [if_pos (by rfl)]
    go_simp
    refine hK _ _ ?_
    clear hK K c0 f0
    refine wpAny_ready (rs := [10]) (by kernel_rfl) (by simp) ?_
    refine AllReady.cons rfl (fun K hK => ?_) AllReady.nil
    rw [if_pos (by rfl)]
    go_simp
    refine (CN.out _ (HT0.out _ HV2.out)).mono ?_
    rintro e w3 ⟨rfl, hb3⟩
    refine hK _ _ ?_
    clear hK K
    refine wpAny_take (i := 11) (v := .tuple #[.int .i64 s2, .int .i64 q2]) rfl (by kernel_rfl) (by kernel_rfl) (by kernel_rfl) (fun _ _ _ h => h) (Or.inl ⟨by rfl, fun X => by go_simp⟩) ?_
    refine wpAny_take (i := 12) (v := .int .i64 s2) rfl (by kernel_rfl) (by kernel_rfl) (by kernel_rfl) (fun _ _ _ h => h) (Or.inl ⟨by rfl, fun X => by go_simp⟩) ?_
    refine wpAny_take (i := 13) (v := .int .i64 q2) rfl (by kernel_rfl) (by kernel_rfl) (by kernel_rfl) (fun _ _ _ h => h) (Or.inl ⟨by rfl, fun X => by go_simp⟩) ?_
    refine wpAny_take (i := 14) (v := .pointer (some ⟨B, 0, none⟩)) rfl (by kernel_rfl) (by kernel_rfl) (by kernel_rfl) (fun _ _ _ h => h) (Or.inl ⟨by rfl, fun X => by go_simp⟩) ?_
    refine wpAny_take (i := 15) (v := .pointer (some ⟨B, 13, none⟩)) rfl (by kernel_rfl) (by kernel_rfl) (by kernel_rfl) (fun _ _ _ h => h) (Or.inl ⟨by rfl, fun X => by go_simp⟩) ?_
    refine wpAny_ready (rs := [16]) (by kernel_rfl) (by simp) ?_
    have c0 := blk_cell (blk_later HD2.out hb3)
    have f0 := blk_frozen (blk_later HD2.out hb3)
    refine AllReady.cons rfl (fun K hK => ?_) AllReady.nil
    rw [if_pos (by rfl)]
    go_simp
    refine hK _ _ ?_
    clear hK K
    refine wpAny_done (by kernel_rfl) ?_ _
    clear c0 f0
    have HB4 := hidden (show (w3.setCell ⟨B, 13, none⟩ (.int .i64 s2)).drew.heap[B]? = some (.cells (betC L g now n f d p r dr o sl md fr ad cap zs s2) 49 (0, 0)) from heap_setCell_same w3 B 13 _ _ (.int .i64 s2) (blk_later HD2.out hb3))
    have HG4 := hidden (show LBlk (w3.setCell ⟨B, 13, none⟩ (.int .i64 s2)).drew g ps from (HGD.out.later hb3).other ⟨B, 13, none⟩ (.int .i64 s2) (fun e => hBg e.symm))
    have HW4 := (((HW2t.out.below hb3).setB 13 (.int .i64 s2))).drew
    have HV4 := hidden (HW4.to_below hn0.1 hn0.2 (show n0 ≤ w.heap.size by omega))
    have c0 := blk_cell HB4.out
    have f0 := blk_frozen HB4.out
    unfold betC at c0
    clear hb3
    go_wp2
    refine wp_region_any hmix ?_
    change wpAny _ _ _ _ _ _ _ (w3.setCell ⟨B, 13, none⟩ (.int .i64 s2)).drew
    generalize (w3.setCell ⟨B, 13, none⟩ (.int .i64 s2)).drew = w4 at *
    refine wpAny_take (i := 0) (v := .pointer (some ⟨B, 0, none⟩)) rfl (by kernel_rfl) (by kernel_rfl) (by kernel_rfl) (fun _ _ _ h => h) (Or.inl ⟨by rfl, fun X => by go_simp⟩) ?_
    refine wpAny_take (i := 1) (v := .pointer (some ⟨B, 0, none⟩)) rfl (by kernel_rfl) (by kernel_rfl) (by kernel_rfl) (fun _ _ _ h => h) (Or.inl ⟨by rfl, fun X => by go_simp⟩) ?_
    refine wpAny_take (i := 2) (v := .pointer (some ⟨B, 0, none⟩)) rfl (by kernel_rfl) (by kernel_rfl) (by kernel_rfl) (fun _ _ _ h => h) (Or.inl ⟨by rfl, fun X => by go_simp⟩) ?_
    refine wpAny_take (i := 3) (v := .pointer (some ⟨B, 0, none⟩)) rfl (by kernel_rfl) (by kernel_rfl) (by kernel_rfl) (fun _ _ _ h => h) (Or.inl ⟨by rfl, fun X => by go_simp⟩) ?_
    refine wpAny_take (i := 4) (v := .pointer (some ⟨B, 0, none⟩)) rfl (by kernel_rfl) (by kernel_rfl) (by kernel_rfl) (fun _ _ _ h => h) (Or.inl ⟨by rfl, fun X => by go_simp⟩) ?_
    refine wpAny_take (i := 5) (v := .pointer (some ⟨B, 2, none⟩)) rfl (by kernel_rfl) (by kernel_rfl) (by kernel_rfl) (fun _ _ _ h => h) (Or.inl ⟨by rfl, fun X => by go_simp⟩) ?_
    refine wpAny_take (i := 7) (v := .pointer (some ⟨B, 0, none⟩)) rfl (by kernel_rfl) (by kernel_rfl) (by kernel_rfl) (fun _ _ _ h => h) (Or.inl ⟨by rfl, fun X => by go_simp⟩) ?_
    refine wpAny_take (i := 8) (v := .pointer (some ⟨B, 0, none⟩)) rfl (by kernel_rfl) (by kernel_rfl) (by kernel_rfl) (fun _ _ _ h => h) (Or.inl ⟨by rfl, fun X => by go_simp⟩) ?_
    refine wpAny_take (i := 9) (v := .pointer (some ⟨B, 13, none⟩)) rfl (by kernel_rfl) (by kernel_rfl) (by kernel_rfl) (fun _ _ _ h => h) (Or.inl ⟨by rfl, fun X => by go_simp⟩) ?_
    refine wpAny_ready (rs := [6, 10]) (by kernel_rfl) (by simp) ?_
    refine AllReady.cons rfl (fun K hK => ?_) ?_
    · rw [if_pos (by rfl)]
      go_simp
      refine hK _ _ ?_
      clear hK K
      refine wpAny_ready (rs := [10]) (by kernel_rfl) (by simp) ?_
      refine AllReady.cons rfl (fun K hK => ?_) AllReady.nil
      rw [if_pos (by rfl)]
      go_simp
      refine hK _ _ ?_
      clear hK K c0 f0
      refine wpAny_ready (rs := [11]) (by kernel_rfl) (by simp) ?_
      refine AllReady.cons rfl (fun K hK => ?_) AllReady.nil
      rw [if_pos (by rfl)]
      go_simp
      refine (CB.out _ (HT0.out _ HV4.out)).mono ?_
      rintro e w5 ⟨rfl, hb5⟩
      refine hK _ _ ?_
      clear hK K
      refine wpAny_ready (rs := [12]) (by kernel_rfl) (by simp) ?_
      refine AllReady.cons rfl (fun K hK => ?_) AllReady.nil
      rw [if_pos (by rfl)]
      go_simp
      refine (CG.out _ (blk_later HB4.out hb5) (HG4.out.later hb5)).mono ?_
      rintro e w6 ⟨rfl, q1, q2, q3⟩
      have HF := hidden (And.intro q1 (And.intro q2 ((HW4.below hb5).trans q3)))
      clear q1 q2 q3 hb5
      refine hK _ _ ?_
      clear hK K
      refine wpAny_done (by kernel_rfl) ?_ _
      go_wp2
      go_ret
      exact ⟨rfl, HF.out⟩
    · refine AllReady.cons rfl (fun K hK => ?_) AllReady.nil
      rw [if_pos (by rfl)]
      go_simp
      refine hK _ _ ?_
      clear hK K
      refine wpAny_ready (rs := [6]) (by kernel_rfl) (by simp) ?_
      refine AllReady.cons rfl (fun K hK => ?_) AllReady.nil
      rw [if_pos (by rfl)]
      go_simp
      refine hK _ _ ?_
      clear hK K c0 f0
      refine wpAny_ready (rs := [11]) (by kernel_rfl) (by simp) ?_
      refine AllReady.cons rfl (fun K hK => ?_) AllReady.nil
      rw [if_pos (by rfl)]
      go_simp
      refine (CB.out _ (HT0.out _ HV4.out)).mono ?_
      rintro e w5 ⟨rfl, hb5⟩
      refine hK _ _ ?_
      clear hK K
      refine wpAny_ready (rs := [12]) (by kernel_rfl) (by simp) ?_
      refine AllReady.cons rfl (fun K hK => ?_) AllReady.nil
      rw [if_pos (by rfl)]
      go_simp
      refine (CG.out _ (blk_later HB4.out hb5) (HG4.out.later hb5)).mono ?_
      rintro e w6 ⟨rfl, q1, q2, q3⟩
      have HF := hidden (And.intro q1 (And.intro q2 ((HW4.below hb5).trans q3)))
      clear q1 q2 q3 hb5
      refine hK _ _ ?_
      clear hK K
      refine wpAny_done (by kernel_rfl) ?_ _
      go_wp2
      go_ret
      exact ⟨rfl, HF.out⟩
end Go.Proofs.Ytkolhbacgoafcab

/- Laws on operations of regions whose order is drawn, at whole rows: a load of a struct that lies in a block, a store of a struct into its block; no conditions. -/
namespace Go.Proofs.Ytkolhbacgoafcab
open Go.ChangeShapes Go.WideShapes Go.ChangeAt Go.RowKit
set_option linter.unusedVariables false

/-- A load of a struct that lies in a block, in every world that meets S. -/
theorem yieldsIf_load_row {P : Program} {ops : Array Oper} {S : World → Prop} {op : Oper} {a : Act} (hw : Region.wanted op (yielded ops a.tmps) = true) (ty : TypeId) (x : Operand) (ho : op.op = .load ty x)
    (g : Nat) (hx : a.eval x = .pointer (some ⟨g, 0, none⟩)) (t : TypeId) (cs : Array Value) (fr : Nat × Nat) (d : TypeDesc) (hS : ∀ w, S w → w.heap[g]? = some (.cells cs t fr))
    (hu : P.underlying ty = some d) (hd : (match d with | .struct _ | .array _ _ => true | _ => false) = true) (hi : (P.info? ty).map (·.size) = some cs.size) : YieldsIf P ops S op (.agg cs) a :=
  .inl ⟨hw, fun w hw' => by
    unfold execOp
    simp only [ho, hx, Instr.loadAt, Instr.sureAddr, Sem.run_bind, Sem.run_pure, Result.andThen_ok, run_loadVar_row w g t ty cs fr d (hS w hw') hu hd hi]⟩
theorem yieldsIf_move {P : Program} {ops : Array Oper} {S : World → Prop} {op : Oper} {a : Act} (hw : Region.wanted op (yielded ops a.tmps) = true) (x : Operand) (ho : op.op = .move x) {v : Value} (hx : a.eval x = v) : YieldsIf P ops S op v a :=
  .inl ⟨hw, fun w hw' => by
    unfold execOp
    simp only [ho, hx]
    rfl⟩
theorem yieldsIf_build {P : Program} {ops : Array Oper} {S : World → Prop} {op : Oper} {a : Act} (hw : Region.wanted op (yielded ops a.tmps) = true) {v : Value} (h : ∀ w, (execOp a.eval op).run P w = .ok (.value v) w) : YieldsIf P ops S op v a := .inl ⟨hw, fun w _ => h w⟩
theorem Chn.row {n g : Nat} {w w' : World} (h : Chn n w w') (hg : n ≤ g) (cs : Array Value) : Chn n w (w'.setRow g cs) := ⟨below_setRow h.1 hg cs, by rw [size_setRow]; exact h.2⟩
theorem row_same {w : World} {g : Nat} {old : Array Value} {t : TypeId} {fr : Nat × Nat} (h : w.heap[g]? = some (.cells old t fr)) (cs : Array Value) : (w.setRow g cs).heap[g]? = some (.cells cs t fr) := setRow_heap w g old cs t fr h
theorem row_other {w : World} {g k : Nat} {o : Obj} (h : w.heap[k]? = some o) (hk : k ≠ g) (cs : Array Value) : (w.setRow g cs).heap[k]? = some o := (setRow_other w g k cs hk).trans h
theorem blk_ne {w : World} {g k : Nat} {A B : Array Value} {t u : TypeId} {p q : Nat × Nat} (h : w.heap[g]? = some (.cells A t p)) (k' : w.heap[k]? = some (.cells B u q)) (ht : t ≠ u) : g ≠ k := by
  intro e
  subst e
  rw [h] at k'
  simp at k'
  exact ht k'.2.1
end Go.Proofs.Ytkolhbacgoafcab

/- The call Alone of package beat returns the digits that plain functions give, and makes at most new memory; conditions: the table lies where it says, lengths fit int. -/
namespace Go.Proofs.Ytkolhbacgoafcab
open Go.ChangeShapes Go.WideShapes Go.ChangeAt Go.RowKit
set_option linter.unusedVariables false
set_option linter.unusedSimpArgs false
attribute [local go_sem] cell_rg

theorem sF_bd {P : Int} {L : Nat} {s0 : Int} {pend : Nat → Bool} (hL : 1 ≤ L) (h0 : -9223372036854775808 ≤ s0 ∧ s0 ≤ 9223372036854775807) (hP : 0 ≤ P ∧ P ≤ 400) : ∀ k, -9223372036854775808 ≤ sF P L s0 pend k ∧ sF P L s0 pend k ≤ 9223372036854775807
  | 0 => h0
  | k + 1 => by
    rw [sF_s hL]
    have := satF_bd (s := sF P L s0 pend k) (P := P) (sF_bd hL h0 hP k).2 (by omega)
    unfold nxF
    split <;> omega
def digB (b : Bool) : UInt8 := if b = true then 49 else 48
def aloL (P : Int) (L : Nat) (s0 : Int) (pend : Nat → Bool) (M : Nat) : List UInt8 := (List.range M).map fun k => digB (eF P L s0 pend k)
def aloT (E P : Int) (L : Nat) (s0 : Int) (pend : Nat → Bool) (M : Nat) : ByteArray := if E = 0 then ba (aloL P L s0 pend M) else ba []
/-- A tick of the pulse that goes on by itself, counted. -/
theorem tick_k (n f d p r dr o sl md fr : Int) (ad : Option Addr) (cap : Nat) (zs : List Int) (B g L : Nat) (hL1 : 1 ≤ L) (hBg : B ≠ g) (si : Int) (pend : Nat → Bool) (k : Nat) (w : World) (hl : zs.length ≤ 9223372036854775807) (hT : Tab w ad zs) (hE : plainE n f d p r dr o sl md fr zs = 0) (hLL : gate (plainE n f d p r dr o sl md fr zs) (3 * (f + 1) * d) = (L : Int)) (hL60 : L ≤ 60) (hs : -9223372036854775808 ≤ si ∧ si ≤ 9223372036854775807) (n0 : Nat) (hT0 : ∀ V, Below n0 w V → Tab V ad zs) (hn0 : n0 ≤ B ∧ n0 ≤ g)
    (hB : w.heap[B]? = some (.cells (betC L g (k % L) n f d p r dr o sl md fr ad cap zs (sF p L si pend k)) 49 (0, 0))) (hg : LBlk w g (rgL p L si pend k)) :
    Calls Try.prog 22 #[.pointer (some ⟨B, 0, none⟩)] w fun e w' => e = .returned (.bool (eF p L si pend k)) ∧ w'.heap[B]? = some (.cells (betC L g ((k + 1) % L) n f d p r dr o sl md fr ad cap zs (sF p L si pend (k + 1))) 49 (0, 0)) ∧ LBlk w' g (rgL p L si pend (k + 1)) ∧ Two2 B g w w' := by
  obtain ⟨_, _, _, _, _, _, _, hp1, hp2, _⟩ := plainE_ok hE
  have hp0 : 0 ≤ p := by
    have := plainE_ok hE
    have : 0 ≤ (f + 1) * d := Int.mul_nonneg (by omega) (by omega)
    omega
  refine (tick_any n f d p r dr o sl md fr ad cap zs B g L (k % L) hBg (sF p L si pend k) (rgL p L si pend k) w hl hT hE hLL hL60 (sF_bd hL1 hs ⟨hp0, hp2⟩ k) n0 hT0 hn0 hB hg (rgL_len k) (Nat.mod_lt k (by omega))).mono ?_
  rintro e w' ⟨rfl, q1, q2, q3⟩
  rw [rg_now hL1] at q1 q2 ⊢
  rw [← sF_s hL1] at q1 q2
  rw [rg_next hL1] at q2
  rw [Nat.mod_add_mod] at q1
  exact ⟨rfl, q1, q2, q3⟩

/-- Fourteen cells set, one after another. -/
theorem set14 {w : World} {b : Nat} {c0 c1 c2 c3 c4 c5 c6 c7 c8 c9 c10 c11 c12 c13 : Value} {t : TypeId} (h : w.heap[b]? = some (.cells #[c0, c1, c2, c3, c4, c5, c6, c7, c8, c9, c10, c11, c12, c13] t (0, 0))) (v0 v1 v2 v3 v4 v5 v6 v7 v8 v9 v10 v11 v12 v13 : Value) :
    ((((((((((((((w.setCell ⟨b, 0, none⟩ v0).setCell ⟨b, 1, none⟩ v1).setCell ⟨b, 2, none⟩ v2).setCell ⟨b, 3, none⟩ v3).setCell ⟨b, 4, none⟩ v4).setCell ⟨b, 5, none⟩ v5).setCell ⟨b, 6, none⟩ v6).setCell ⟨b, 7, none⟩ v7).setCell ⟨b, 8, none⟩ v8).setCell ⟨b, 9, none⟩ v9).setCell ⟨b, 10, none⟩ v10).setCell ⟨b, 11, none⟩ v11).setCell ⟨b, 12, none⟩ v12).setCell ⟨b, 13, none⟩ v13).heap[b]? = some (.cells #[v0, v1, v2, v3, v4, v5, v6, v7, v8, v9, v10, v11, v12, v13] t (0, 0)) := by
  have h0 := heap_setCell_same _ b 0 _ _ v0 h
  simp only [List.setIfInBounds_toArray, List.set_cons_zero, List.set_cons_succ] at h0
  have h1 := heap_setCell_same _ b 1 _ _ v1 h0
  simp only [List.setIfInBounds_toArray, List.set_cons_zero, List.set_cons_succ] at h1
  have h2 := heap_setCell_same _ b 2 _ _ v2 h1
  simp only [List.setIfInBounds_toArray, List.set_cons_zero, List.set_cons_succ] at h2
  have h3 := heap_setCell_same _ b 3 _ _ v3 h2
  simp only [List.setIfInBounds_toArray, List.set_cons_zero, List.set_cons_succ] at h3
  have h4 := heap_setCell_same _ b 4 _ _ v4 h3
  simp only [List.setIfInBounds_toArray, List.set_cons_zero, List.set_cons_succ] at h4
  have h5 := heap_setCell_same _ b 5 _ _ v5 h4
  simp only [List.setIfInBounds_toArray, List.set_cons_zero, List.set_cons_succ] at h5
  have h6 := heap_setCell_same _ b 6 _ _ v6 h5
  simp only [List.setIfInBounds_toArray, List.set_cons_zero, List.set_cons_succ] at h6
  have h7 := heap_setCell_same _ b 7 _ _ v7 h6
  simp only [List.setIfInBounds_toArray, List.set_cons_zero, List.set_cons_succ] at h7
  have h8 := heap_setCell_same _ b 8 _ _ v8 h7
  simp only [List.setIfInBounds_toArray, List.set_cons_zero, List.set_cons_succ] at h8
  have h9 := heap_setCell_same _ b 9 _ _ v9 h8
  simp only [List.setIfInBounds_toArray, List.set_cons_zero, List.set_cons_succ] at h9
  have h10 := heap_setCell_same _ b 10 _ _ v10 h9
  simp only [List.setIfInBounds_toArray, List.set_cons_zero, List.set_cons_succ] at h10
  have h11 := heap_setCell_same _ b 11 _ _ v11 h10
  simp only [List.setIfInBounds_toArray, List.set_cons_zero, List.set_cons_succ] at h11
  have h12 := heap_setCell_same _ b 12 _ _ v12 h11
  simp only [List.setIfInBounds_toArray, List.set_cons_zero, List.set_cons_succ] at h12
  have h13 := heap_setCell_same _ b 13 _ _ v13 h12
  simp only [List.setIfInBounds_toArray, List.set_cons_zero, List.set_cons_succ] at h13
  exact h13
theorem LBlk.other14 {w : World} {b g : Nat} {l : List Bool} (h : LBlk w g l) (hb : g ≠ b) (v0 v1 v2 v3 v4 v5 v6 v7 v8 v9 v10 v11 v12 v13 : Value) :
    LBlk ((((((((((((((w.setCell ⟨b, 0, none⟩ v0).setCell ⟨b, 1, none⟩ v1).setCell ⟨b, 2, none⟩ v2).setCell ⟨b, 3, none⟩ v3).setCell ⟨b, 4, none⟩ v4).setCell ⟨b, 5, none⟩ v5).setCell ⟨b, 6, none⟩ v6).setCell ⟨b, 7, none⟩ v7).setCell ⟨b, 8, none⟩ v8).setCell ⟨b, 9, none⟩ v9).setCell ⟨b, 10, none⟩ v10).setCell ⟨b, 11, none⟩ v11).setCell ⟨b, 12, none⟩ v12).setCell ⟨b, 13, none⟩ v13) g l := by
  have h0 := h.other ⟨b, 0, none⟩ v0 hb
  have h1 := h0.other ⟨b, 1, none⟩ v1 hb
  have h2 := h1.other ⟨b, 2, none⟩ v2 hb
  have h3 := h2.other ⟨b, 3, none⟩ v3 hb
  have h4 := h3.other ⟨b, 4, none⟩ v4 hb
  have h5 := h4.other ⟨b, 5, none⟩ v5 hb
  have h6 := h5.other ⟨b, 6, none⟩ v6 hb
  have h7 := h6.other ⟨b, 7, none⟩ v7 hb
  have h8 := h7.other ⟨b, 8, none⟩ v8 hb
  have h9 := h8.other ⟨b, 9, none⟩ v9 hb
  have h10 := h9.other ⟨b, 10, none⟩ v10 hb
  have h11 := h10.other ⟨b, 11, none⟩ v11 hb
  have h12 := h11.other ⟨b, 12, none⟩ v12 hb
  have h13 := h12.other ⟨b, 13, none⟩ v13 hb
  exact h13
set_option maxRecDepth 100000 in
set_option maxHeartbeats 4000000 in
theorem Alone_any (n f d p r dr o sl md fr : Int) (ad : Option Addr) (cap : Nat) (zs : List Int) (L : Nat) (si : Int) (hsi : -9223372036854775808 ≤ si ∧ si ≤ 9223372036854775807) (pd : ByteArray) (hpd : pd.size ≤ 9223372036854775807) (tk : Int) (M : Nat) (hM : clampF tk 0 2000 = (M : Int)) (w : World) (hl : zs.length ≤ 9223372036854775807) (hT : Tab w ad zs) (hL : gate (plainE n f d p r dr o sl md fr zs) (3 * (f + 1) * d) = (L : Int)) (hL60 : L ≤ 60) :
    Calls Try.prog 7 #[.agg #[.int .i64 n, .int .i64 f, .int .i64 d, .int .i64 p, .int .i64 r, .int .i64 dr, .int .i64 o, .int .i64 sl, .int .i64 md, .int .i64 fr, .slice ad zs.length cap], .int .i64 si, .string pd, .int .i64 tk] w fun e w' => e = .returned (.string (aloT (plainE n f d p r dr o sl md fr zs) p L si (penF pd) M)) ∧ Below w.heap.size w w' := by
  have HB0 := hidden (ballc w (.cells #[.int .i64 n, .int .i64 f, .int .i64 d, .int .i64 p, .int .i64 r, .int .i64 dr, .int .i64 o, .int .i64 sl, .int .i64 md, .int .i64 fr, .slice ad zs.length cap] 24))
  have HT := hidden (hT.below HB0.out)
  have HK := hidden (blk_nw w #[.int .i64 n, .int .i64 f, .int .i64 d, .int .i64 p, .int .i64 r, .int .i64 dr, .int .i64 o, .int .i64 sl, .int .i64 md, .int .i64 fr, .slice ad zs.length cap] 24)
  have HP := hidden (plain_any n f d p r dr o sl md fr ad cap zs (w.alloc (.cells #[.int .i64 n, .int .i64 f, .int .i64 d, .int .i64 p, .int .i64 r, .int .i64 dr, .int .i64 o, .int .i64 sl, .int .i64 md, .int .i64 fr, .slice ad zs.length cap] 24)) hl HT.out)
  by_cases hE : plainE n f d p r dr o sl md fr zs = 0
  · have CR := hidden (fun V h => rowOf_any n f d p r dr o sl md fr ad cap zs L pd hpd V hl h hL hL60)
    have CC := hidden (fun V => clamp_any tk 0 2000 V)
    rw [hM] at CC
    have hL1 : 1 ≤ L := by
      have := plainE_ok hE
      rw [hE] at hL
      have h1 : (1 : Int) * 1 ≤ (f + 1) * d := Int.mul_le_mul (by omega) (by omega) (by omega) (by omega)
      have h2 : gate 0 (3 * (f + 1) * d) = 3 * (f + 1) * d := rfl
      rw [h2, Int.mul_assoc] at hL
      omega
    have hM2 : M ≤ 2000 := by
      unfold clampF at hM
      split at hM
      · omega
      · split at hM <;> omega
    have CT := hidden (fun (W V : World) (B g k : Nat) (h0 : Tab W ad zs) (h1 : B ≠ g) (h2 : Below W.heap.size W V) (h3 : W.heap.size ≤ B ∧ W.heap.size ≤ g) h4 h5 => tick_k n f d p r dr o sl md fr ad cap zs B g L hL1 h1 si (penF pd) k V hl (h0.below h2) hE hL hL60 hsi W.heap.size (fun X hX => h0.below (h2.trans hX)) h3 h4 h5)
    have hr0 := hidden (rg_0 p L si pd)
    have hrT : Hid (aloT (plainE n f d p r dr o sl md fr zs) p L si (penF pd) M = ba (aloL p L si (penF pd) M)) := if_pos hE
    rw [hrT.out]
    rw [hE] at HP
    have hmk := fun V => make_bytes M (by omega) V
    clear hT hL hE hM hrT
    go_enter Try.func7, Try.ntmps7
    go_wp2_with fail
    refine HP.out.mono ?_
    rintro e w2 ⟨rfl, hb⟩
    have HB2 := hidden (bthen HB0.out hb)
    have HT2 := hidden (HT.out.below hb)
    have HK2 := hidden (blk_later HK.out hb)
    have hsz2 : w.heap.size < w2.heap.size := blk_lt HK2.out
    clear hb HT HK HP
    have hC0 : Chn w2.heap.size w2 w2 := Chn.refl (Nat.le_refl _)
    have hS : ∀ V, Chn w2.heap.size w2 V → V.cell? ⟨w.heap.size, 0, none⟩ = some (.int .i64 n) ∧ V.cell? ⟨w.heap.size, 1, none⟩ = some (.int .i64 f) ∧ V.cell? ⟨w.heap.size, 2, none⟩ = some (.int .i64 d) ∧ V.cell? ⟨w.heap.size, 3, none⟩ = some (.int .i64 p) ∧ V.cell? ⟨w.heap.size, 4, none⟩ = some (.int .i64 r) ∧ V.cell? ⟨w.heap.size, 5, none⟩ = some (.int .i64 dr) ∧ V.cell? ⟨w.heap.size, 6, none⟩ = some (.int .i64 o) ∧ V.cell? ⟨w.heap.size, 7, none⟩ = some (.int .i64 sl) ∧ V.cell? ⟨w.heap.size, 8, none⟩ = some (.int .i64 md) ∧ V.cell? ⟨w.heap.size, 9, none⟩ = some (.int .i64 fr) ∧ V.cell? ⟨w.heap.size, 10, none⟩ = some (.slice ad zs.length cap) := fun V hV => by
      have l1 := blk_cell (blk_later HK2.out hV.1)
      exact ⟨l1 0, l1 1, l1 2, l1 3, l1 4, l1 5, l1 6, l1 7, l1 8, l1 9, l1 10⟩
    go_wp2
    go_cut [9] (fun p1 wx => ∃ B g : Nat, p1 = .pointer (some ⟨B, 0, none⟩) ∧ wx.heap[B]? = some (.cells (betC L g (0 % L) n f d p r dr o sl md fr ad cap zs (sF p L si (penF pd) 0)) 49 (0, 0)) ∧ LBlk wx g (rgL p L si (penF pd) 0) ∧ B ≠ g ∧ w2.heap.size ≤ B ∧ w2.heap.size ≤ g ∧ Chn w2.heap.size w2 wx)
    case first =>
      go_region_held3 (fun V => V.cell? ⟨w.heap.size, 0, none⟩ = some (.int .i64 n) ∧ V.cell? ⟨w.heap.size, 1, none⟩ = some (.int .i64 f) ∧ V.cell? ⟨w.heap.size, 2, none⟩ = some (.int .i64 d) ∧ V.cell? ⟨w.heap.size, 3, none⟩ = some (.int .i64 p) ∧ V.cell? ⟨w.heap.size, 4, none⟩ = some (.int .i64 r) ∧ V.cell? ⟨w.heap.size, 5, none⟩ = some (.int .i64 dr) ∧ V.cell? ⟨w.heap.size, 6, none⟩ = some (.int .i64 o) ∧ V.cell? ⟨w.heap.size, 7, none⟩ = some (.int .i64 sl) ∧ V.cell? ⟨w.heap.size, 8, none⟩ = some (.int .i64 md) ∧ V.cell? ⟨w.heap.size, 9, none⟩ = some (.int .i64 fr) ∧ V.cell? ⟨w.heap.size, 10, none⟩ = some (.slice ad zs.length cap)) (first | exact hS _ (by repeat (first | with_reducible assumption | with_reducible refine Chn.drew ?_ | with_reducible refine Chn.alloc ?_ _ | with_reducible refine Chn.set ?_ _ _ (Nat.le_refl _) _)))
        (first
        | (go_at_call 20; refine (CR.out _ (HT2.out.below (Chn.out (by repeat (first | with_reducible assumption | with_reducible refine Chn.drew ?_ | with_reducible refine Chn.alloc ?_ _ | with_reducible refine Chn.set ?_ _ _ (Nat.le_refl _) _))))).mono ?_; rintro e w4 ⟨g4, rfl, hk4, hg4, hb4⟩; have hC4 := Chn.below (show Chn w2.heap.size w2 _ from (by repeat (first | with_reducible assumption | with_reducible refine Chn.drew ?_ | with_reducible refine Chn.alloc ?_ _ | with_reducible refine Chn.set ?_ _ _ (Nat.le_refl _) _))) hb4; have hx4 := hidden (fun (b : Nat) (o : Obj) h => blk_later (b := b) (o := o) h hb4); (first | (have kx4 := hx4.out _ _ (heap_alloc_new w2.drew _); have ky4 := blk_cell kx4; have kz4 := blk_frozen kx4; (try simp only [World.size_drew] at kx4 ky4 kz4)) | skip); clear hb4))
      all_goals
        have lk4 := hk4.lt
        simp only [World.size_alloc, World.size_drew] at hg4
        go_wp2_with fail
        go_meet
        case rel =>
          refine ⟨_, g4, rfl, ?_, ?_, ?_, ?_, ?_, (by repeat (first | with_reducible assumption | with_reducible refine Chn.drew ?_ | with_reducible refine Chn.alloc ?_ _ | with_reducible refine Chn.set ?_ _ _ (Nat.le_refl _) _))⟩
          · rw [Nat.zero_mod, sF_0]
            unfold betC
            first
            | (have hq := set14 kx4 (.slice (some ⟨g4, 0, none⟩) L L) (.int .i64 0) (.int .i64 n) (.int .i64 f) (.int .i64 d) (.int .i64 p) (.int .i64 r) (.int .i64 dr) (.int .i64 o) (.int .i64 sl) (.int .i64 md) (.int .i64 fr) (.slice ad zs.length cap) (.int .i64 si)
               exact hq)
            | exact heap_alloc_new w4 _
          · rw [hr0.out]
            first
            | (have hne : g4 ≠ w2.heap.size := by have := kx4; omega
               have hq := LBlk.other14 (b := w2.heap.size) hk4 hne (.slice (some ⟨g4, 0, none⟩) L L) (.int .i64 0) (.int .i64 n) (.int .i64 f) (.int .i64 d) (.int .i64 p) (.int .i64 r) (.int .i64 dr) (.int .i64 o) (.int .i64 sl) (.int .i64 md) (.int .i64 fr) (.slice ad zs.length cap) (.int .i64 si)
               exact hq)
            | with_reducible exact LBlk.later hk4 (ballc w4 _)
          · omega
          · first
            | with_reducible exact Nat.le_refl _
            | with_reducible exact Chn.le hC4
          · omega
    case rest =>
      obtain ⟨B, g, rfl, hBB, hGG, hne, hB2, hg2, hCC⟩ := hcut
      have hBl := blk_lt hBB
      have hgl := hGG.lt
      have HBB := hidden (blk_later hBB (ballc wc (.cells (bvals (List.replicate M 0)) 5)))
      have HGG := hidden (hGG.later (ballc wc (.cells (bvals (List.replicate M 0)) 5)))
      have HCC := hidden (hCC.alloc (.cells (bvals (List.replicate M 0)) 5))
      have HO : Hid ((wc.alloc (.cells (bvals (List.replicate M 0)) 5)).heap[wc.heap.size]? = some (.cells (bvals (fillL 0 M (fun k => digB (eF p L si (penF pd) k)) 0)) 5 (0, 0))) := by
        show _ = _
        rw [fillL_0]
        exact heap_alloc_new wc _
      have HFA : Hid (fillL 0 M (fun k => digB (eF p L si (penF pd) k)) M = aloL p L si (penF pd) M) := fillL_all _ _ _
      clear hBB hGG hCC hr0 hC0 hS CR
      go_wp2_with fail
      refine (CC.out _).mono ?_
      rintro e w5 ⟨rfl, rfl⟩
      clear CC
      go_wp2
      clear hmk
      generalize hW0 : wc.alloc (.cells (bvals (List.replicate M 0)) 5) = W0 at *
      clear hW0
      go_loopw [26] (fun i wr => ∃ k : Nat, k ≤ M ∧ i = .int .i64 k ∧ wr.heap[wc.heap.size]? = some (.cells (bvals (fillL 0 M (fun k => digB (eF p L si (penF pd) k)) k)) 5 (0, 0)) ∧ wr.heap[B]? = some (.cells (betC L g (k % L) n f d p r dr o sl md fr ad cap zs (sF p L si (penF pd) k)) 49 (0, 0)) ∧ LBlk wr g (rgL p L si (penF pd) k) ∧ Chn w2.heap.size w2 wr) (fun i _ => M - (intV i).toNat)
      case atStart => exact ⟨0, Nat.zero_le _, rfl, HO.out, HBB.out, HGG.out, HCC.out⟩
      case round =>
        obtain ⟨k, hk, rfl, hO, hB, hG, hC⟩ := hrel
        clear HO HBB HGG HCC
        by_cases hlt : k < M
        · have i1 : (0 : Int) ≤ (k : Int) := by omega
          have i2 : (k : Int) < (M : Int) := by omega
          have hS0 := fillL_set 0 M (fun k => digB (eF p L si (penF pd) k)) k hlt
          have hlen : (fillL 0 M (fun k => digB (eF p L si (penF pd) k)) k).length = M := fillL_len _ _ _ _
          have o1 := heap_setCell_same wr wc.heap.size k _ _ (.int .u8 48) hO
          rw [show (bvals (fillL 0 M (fun k => digB (eF p L si (penF pd) k)) k)).setIfInBounds k (Value.int .u8 48) = _ from bvals_set _ k 48 (by decide)] at o1
          have b1 := (heap_setCell_other wr ⟨wc.heap.size, k, none⟩ B (.int .u8 48) (by simp; omega)).trans hB
          have g1 := hG.other ⟨wc.heap.size, k, none⟩ (.int .u8 48) (by simp; omega)
          have C1 := hC.set wc.heap.size k (by have := hC.2; omega) (.int .u8 48)
          have CK := hidden (CT.out w2 _ B g k HT2.out hne C1.1 ⟨hB2, hg2⟩ b1 g1)
          obtain ⟨y0, c0⟩ : ∃ y, wr.cell? ⟨wc.heap.size, k, none⟩ = some (.int .u8 y) := ⟨_, (blk_cell hO k).trans (bvals_at _ k (by rw [hlen]; exact hlt))⟩
          have f0 := blk_frozen hO k
          have l0 := blk_lt hO
          have HS0 := hidden hS0
          have HL0 := hidden (show k < (fillL 0 M (fun k => digB (eF p L si (penF pd) k)) k).length by rw [hlen]; exact hlt)
          have HC1 := hidden C1
          have HO1 := hidden o1
          clear hS0 hlen o1 b1 g1 C1 hO hB hG hC
          generalize fillL 0 M (fun k => digB (eF p L si (penF pd) k)) k = F0 at *
          cases hek : eF p L si (penF pd) k
          · have HS1 : Hid (F0.set k (UInt8.ofNat 48) = fillL 0 M (fun k => digB (eF p L si (penF pd) k)) (k + 1)) := by
              have := HS0.out
              rw [hek] at this
              exact this
            rw [hek] at CK
            clear HS0 hek
            go_wp2_with fail
            refine CK.out.mono ?_
            rintro e w6 ⟨rfl, q1, q2, q3⟩
            have HQ := hidden (And.intro ((q3.block wc.heap.size (blk_lt HO1.out) (by omega) (by omega)).trans HO1.out) (And.intro q1 (And.intro q2 (show Chn w2.heap.size w2 w6 from ⟨HC1.out.1.trans (q3.to_below hB2 hg2 HC1.out.2), Nat.le_trans HC1.out.2 q3.size⟩))))
            rw [HS1.out] at HQ
            clear q1 q2 q3
            go_wp2
            go_roundw
            case rel => exact ⟨k + 1, by omega, by go_num, HQ.out⟩
            case measure => simp [intV]; omega
          · have HS1 : Hid ((F0.set k (UInt8.ofNat 48)).set k (UInt8.ofNat 49) = fillL 0 M (fun k => digB (eF p L si (penF pd) k)) (k + 1)) := by
              have := HS0.out
              rw [hek] at this
              show _ = _
              rw [List.set_set]
              exact this
            rw [hek] at CK
            clear HS0 hek
            go_wp2_with fail
            refine CK.out.mono ?_
            rintro e w6 ⟨rfl, q1, q2, q3⟩
            have o6 := (q3.block wc.heap.size (blk_lt HO1.out) (by omega) (by omega)).trans HO1.out
            have HC6 := hidden (show Chn w2.heap.size w2 w6 from ⟨HC1.out.1.trans (q3.to_below hB2 hg2 HC1.out.2), Nat.le_trans HC1.out.2 q3.size⟩)
            have o7 := heap_setCell_same w6 wc.heap.size k _ _ (.int .u8 49) o6
            rw [show (bvals (F0.set k (UInt8.ofNat 48))).setIfInBounds k (Value.int .u8 49) = _ from bvals_set _ k 49 (by decide), HS1.out] at o7
            have HQ := hidden (And.intro o7 (And.intro ((heap_setCell_other w6 ⟨wc.heap.size, k, none⟩ B (.int .u8 49) (by simp; omega)).trans q1) (And.intro (q2.other ⟨wc.heap.size, k, none⟩ (.int .u8 49) (by simp; omega)) (HC6.out.set wc.heap.size k (by have := HC6.out.2; omega) (.int .u8 49)))))
            obtain ⟨y6, c6⟩ : ∃ y, w6.cell? ⟨wc.heap.size, k, none⟩ = some (.int .u8 y) := ⟨_, (blk_cell o6 k).trans (bvals_at _ k (by rw [List.length_set]; exact HL0.out))⟩
            have f0 := blk_frozen o6 k
            have l0 := blk_lt o6
            clear q1 q2 q3 o6 o7
            go_wp2
            go_roundw
            case rel => exact ⟨k + 1, by omega, by go_num, HQ.out⟩
            case measure => simp [intV]; omega
        · obtain rfl : k = M := by omega
          have i2 : ¬ (k : Int) < (k : Int) := by omega
          rw [HFA.out] at hO
          have hcv := conv_blk hO
          rw [show (aloL p L si (penF pd) k).length = k by simp [aloL]] at hcv
          have HB5 := hidden (bthen HB2.out hC.1)
          clear hO hB hG hC HFA
          generalize hal : aloL p L si (penF pd) k = al at *
          have HAL := hidden hal
          clear hal
          go_wp2
          go_ret
          exact ⟨by rw [HAL.out]; rfl, HB5.out⟩
  · have hr : Hid (aloT (plainE n f d p r dr o sl md fr zs) p L si (penF pd) M = ba []) := if_neg hE
    have j1 : (plainE n f d p r dr o sl md fr zs != 0) = true := bne_iff_ne.2 hE
    rw [hr.out]
    generalize plainE n f d p r dr o sl md fr zs = E at *
    clear hE hT hL hM hr
    go_enter Try.func7, Try.ntmps7
    go_wp2_with fail
    refine HP.out.mono ?_
    rintro e w2 ⟨rfl, hb⟩
    have HB2 := hidden (bthen HB0.out hb)
    clear hb HP
    go_wp2
    go_ret
    exact ⟨rfl, HB2.out⟩
end Go.Proofs.Ytkolhbacgoafcab

/- The document's own Byte returns a text of one byte, and makes at most new memory; no conditions. -/
namespace Go.Proofs.Ytkolhbacgoafcab
open Go.ChangeShapes Go.WideShapes Go.ChangeAt Go.RowKit
set_option linter.unusedVariables false

theorem rbyte_any (n : Int) (w : World) :
    Calls Try.prog 25 #[.int .i64 n] w fun e w' => e = .returned (.string (numStr [n % 256])) ∧ Below w.heap.size w w' := by
  have hcv := conv_cells w [n % 256] 1
  simp only [List.map_cons, List.map_nil, List.length_cons, List.length_nil, Nat.zero_add] at hcv
  go_enter Try.func25, Try.ntmps25
  go_wp2
  go_ret
  exact ⟨rfl, (Below.refl _ _).alloc (Nat.le_refl _) _⟩
theorem numStr_size (zs : List Int) : (numStr zs).size = zs.length := by simp [numStr, ByteArray.size]
theorem numStr_append (a b : List Int) : numStr a ++ numStr b = numStr (a ++ b) := by
  apply ByteArray.ext
  simp [numStr, ByteArray.data_append]
theorem numStr_nil : (ByteArray.mk #[]) = numStr [] := rfl
end Go.Proofs.Ytkolhbacgoafcab

/- The document's call Alone of layer 18 returns the digits that plain functions give, and makes at most new memory; conditions: the table lies where it says, lengths fit int. -/
namespace Go.Proofs.Ytkolhbacgoafcab
open Go.ChangeShapes Go.WideShapes Go.ChangeAt Go.RowKit
set_option linter.unusedVariables false
attribute [local go_sem] cell_rg

/-- The bits that the instances begin with. -/
def bitL (P : Int) (L : Nat) (s0 : Int) (pend : Nat → Bool) (k : Nat) : List Int := (List.range k).map fun j => bitI 0 P L (sF P L s0 pend (j + 1))
theorem bitL_len (P : Int) (L : Nat) (s0 : Int) (pend : Nat → Bool) (k : Nat) : (bitL P L s0 pend k).length = k := by simp [bitL]
theorem bitL_s (P : Int) (L : Nat) (s0 : Int) (pend : Nat → Bool) (k : Nat) : bitL P L s0 pend (k + 1) = bitL P L s0 pend k ++ [bitI 0 P L (sF P L s0 pend (k + 1))] := by simp [bitL, List.range_succ]
def numB (b : Bool) : Int := if b = true then 1 else 0
theorem numB_one (b : Bool) : (numB b == 1) = b := by cases b <;> rfl
theorem bitI_num {P L s : Int} : bitI 0 P L s = numB (bgF P L s) := if_pos rfl
theorem bitL_at (P : Int) (L : Nat) (s0 : Int) (pend : Nat → Bool) (k j : Nat) (hj : j < (bitL P L s0 pend k).length) : (bitL P L s0 pend k)[j] = numB (bgF P L (sF P L s0 pend (j + 1))) := by simp [bitL, bitI_num]
theorem dig_byte (b : Bool) : numStr [(48 + numB b) % 256] = ba [digB b] := by cases b <;> rfl
theorem aloL_s (P : Int) (L : Nat) (s0 : Int) (pend : Nat → Bool) (k : Nat) : ba (aloL P L s0 pend k) ++ ba [digB (eF P L s0 pend k)] = ba (aloL P L s0 pend (k + 1)) := by
  rw [ba_append]
  simp [aloL, List.range_succ]
theorem aloL_len (P : Int) (L : Nat) (s0 : Int) (pend : Nat → Bool) (k : Nat) : (aloL P L s0 pend k).length = k := by simp [aloL]
theorem numB_bd (b : Bool) : 0 ≤ numB b ∧ numB b ≤ 1 := by cases b <;> decide

set_option maxRecDepth 100000 in
set_option maxHeartbeats 4000000 in
theorem rAlone_any (n f d p r dr o sl md fr : Int) (ad : Option Addr) (cap : Nat) (zs : List Int) (L : Nat) (si : Int) (hsi : -9223372036854775808 ≤ si ∧ si ≤ 9223372036854775807) (pd : ByteArray) (hpd : pd.size ≤ 9223372036854775807) (tk : Int) (M : Nat) (hM : clampF tk 0 2000 = (M : Int)) (w : World) (hl : zs.length ≤ 9223372036854775807) (hT : Tab w ad zs) (hL : gate (plainE n f d p r dr o sl md fr zs) (3 * (f + 1) * d) = (L : Int)) (hL60 : L ≤ 60) :
    Calls Try.prog 8 #[.agg #[.int .i64 n, .int .i64 f, .int .i64 d, .int .i64 p, .int .i64 r, .int .i64 dr, .int .i64 o, .int .i64 sl, .int .i64 md, .int .i64 fr, .slice ad zs.length cap], .int .i64 si, .string pd, .int .i64 tk] w fun e w' => e = .returned (.string (aloT (plainE n f d p r dr o sl md fr zs) p L si (penF pd) M)) ∧ Below w.heap.size w w' := by
  have HB0 := hidden (ballc w (.cells #[.int .i64 n, .int .i64 f, .int .i64 d, .int .i64 p, .int .i64 r, .int .i64 dr, .int .i64 o, .int .i64 sl, .int .i64 md, .int .i64 fr, .slice ad zs.length cap] 24))
  have HT := hidden (hT.below HB0.out)
  have HK := hidden (blk_nw w #[.int .i64 n, .int .i64 f, .int .i64 d, .int .i64 p, .int .i64 r, .int .i64 dr, .int .i64 o, .int .i64 sl, .int .i64 md, .int .i64 fr, .slice ad zs.length cap] 24)
  have HP := hidden (refPlain_any n f d p r dr o sl md fr ad cap zs (w.alloc (.cells #[.int .i64 n, .int .i64 f, .int .i64 d, .int .i64 p, .int .i64 r, .int .i64 dr, .int .i64 o, .int .i64 sl, .int .i64 md, .int .i64 fr, .slice ad zs.length cap] 24)) hl HT.out)
  by_cases hE : plainE n f d p r dr o sl md fr zs = 0
  · have hL1 : 1 ≤ L := by
      have := plainE_ok hE
      rw [hE] at hL
      have h1 : (1 : Int) * 1 ≤ (f + 1) * d := Int.mul_le_mul (by omega) (by omega) (by omega) (by omega)
      have h2 : gate 0 (3 * (f + 1) * d) = 3 * (f + 1) * d := rfl
      rw [h2, Int.mul_assoc] at hL
      omega
    obtain ⟨_, _, _, _, _, _, _, hp1, hp2, _⟩ := plainE_ok hE
    have hp0 : 0 ≤ p := by
      have := plainE_ok hE
      have : 0 ≤ (f + 1) * d := Int.mul_nonneg (by omega) (by omega)
      omega
    have hM2 : M ≤ 2000 ∧ (∀ k : Nat, k < M → (k : Int) < tk ∧ (k : Int) < 2000) ∧ ((M : Int) < tk → ¬ (M : Int) < 2000) := by
      unfold clampF at hM
      split at hM
      · exact ⟨by omega, fun k hk => by omega, fun h => by omega⟩
      · split at hM
        · exact ⟨by omega, fun k hk => by omega, fun h => by omega⟩
        · exact ⟨by omega, fun k hk => by omega, fun h => by omega⟩
    obtain ⟨hM2, hMk, hMe⟩ := hM2
    have CL := hidden (fun V h => refLength_any n f d p r dr o sl md fr ad cap zs V hl h)
    rw [hL] at CL
    have CN := hidden (fun k b V h => rNext_any n f d p r dr o sl md fr ad cap zs (sF p L si (penF pd) k) 0 b V hl h (sF_bd hL1 hsi ⟨hp0, hp2⟩ k) (by decide))
    have CB := hidden (fun k V h => rBit_any n f d p r dr o sl md fr ad cap zs L (sF p L si (penF pd) k) V hl h hL hL60 (sF_bd hL1 hsi ⟨hp0, hp2⟩ k))
    rw [hE] at CN CB
    have hrT : Hid (aloT (plainE n f d p r dr o sl md fr zs) p L si (penF pd) M = ba (aloL p L si (penF pd) M)) := if_pos hE
    rw [hrT.out]
    rw [hE] at HP
    have hs0 := hidden (sF_0 (P := p) (L := L) (s0 := si) (pend := penF pd))
    obtain ⟨i0, hi, hz0, hz1, hz2⟩ := info_of infoInt
    have HMK := hidden hMk
    have HME := hidden hMe
    clear hT hL hE hM hrT hMk hMe hp1
    go_enter Try.func8, Try.ntmps8
    go_wp2_with fail
    refine HP.out.mono ?_
    rintro e w2 ⟨rfl, hb⟩
    have HB2 := hidden (bthen HB0.out hb)
    have HT2 := hidden (HT.out.below hb)
    have HK2 := hidden (blk_later HK.out hb)
    clear hb HT HK HP
    go_wp2
    go_loopw [9, 10, 11, 12] (fun o b s i wr => ∃ k : Nat, k ≤ M ∧ i = .int .i64 k ∧ s = .int .i64 (sF p L si (penF pd) k) ∧ o = .string (ba (aloL p L si (penF pd) k)) ∧ wr.ownsRow w2.heap.size 3 1 b k (kInt.flat (bitL p L si (penF pd) k)) ∧ Below w2.heap.size w2 wr) (fun _ _ _ i _ => M - (intV i).toNat)
    case atStart => exact ⟨0, Nat.zero_le _, rfl, by rw [hs0.out], rfl, World.ownsRow_nil _ _ _ _, Below.refl _ _⟩
    case round =>
      obtain ⟨k, hk, rfl, rfl, rfl, hown, hB⟩ := hrel
      have HTr := hidden (HT2.out.below hB)
      have hKr := blk_later HK2.out hB
      have c0 := blk_cell hKr
      have l0 := blk_lt hKr
      have HKr := hidden hKr
      clear hKr
      by_cases hlt : k < M
      · obtain ⟨q1, q2⟩ := HMK.out k hlt
        have i1 : (0 : Int) ≤ (k : Int) := by omega
        have HRes : Hid (eF p L si (penF pd) k = if k < L then penF pd k else bgF p L (sF p L si (penF pd) (k - L + 1))) := rfl
        have hown0 := hidden hown
        have hB0 := hidden hB
        clear hown hB
        by_cases hkL : k < L
        · have r1 : (k : Int) < (L : Int) := by omega
          rw [if_pos hkL] at HRes
          by_cases hkp : k < pd.size
          · have r2 : (k : Int) < (pd.size : Int) := by omega
            have HPN : Hid (penF pd k = (((pd[k]'hkp).toNat : Int) == 49)) := dif_pos hkp
            by_cases h49 : (((pd[k]'hkp).toNat : Int) == 49) = true
            · have HEB : Hid (eF p L si (penF pd) k = true) := HRes.out.trans (HPN.out.trans h49)
              clear HRes HPN
              go_wp2_with fail
              refine (CL.out _ HTr.out).mono ?_
              rintro e w3 ⟨rfl, hb⟩
              have HT3 := hidden (HTr.out.below hb)
              have HB3 := hidden (bthen hB0.out hb)
              have HK3 := hidden (blk_later HKr.out hb)
              have own3 := hidden (own_below hown0.out hb)
              have c3 := blk_cell HK3.out
              have l3 := blk_lt HK3.out
              clear hb c0 l0 HTr HKr hB0 hown0
              have HN : Hid (nxt1 0 p (sF p L si (penF pd) k) true = sF p L si (penF pd) (k + 1)) := by
                show _ = _
                rw [sF_s hL1, HEB.out]
                exact if_pos rfl
              have CNk := CN.out k true
              rw [HN.out] at CNk
              have CNk := hidden CNk
              have CBk := hidden (CB.out (k + 1))
              have HS := hidden (bitL_s p L si (penF pd) k)
              have HAL := hidden (aloL_s p L si (penF pd) k)
              rw [HEB.out, ← dig_byte] at HAL
              have CY := hidden (fun V => rbyte_any (48 + numB true) V)
              have hns : ¬ 9223372036854775807 < (ba (aloL p L si (penF pd) k)).size + (numStr [(48 + numB true) % 256]).size := by rw [ba_size, aloL_len, numStr_size, List.length_singleton]; omega
              generalize numStr [(48 + numB true) % 256] = bt at *
              clear CN CB CL HN
              generalize nxt2 0 p (sF p L si (penF pd) k) 0 true = q2 at *
              rw [show numB true = 1 from rfl] at CY
              generalize bitI 0 p L (sF p L si (penF pd) (k + 1)) = z at *
              generalize hs2 : sF p L si (penF pd) (k + 1) = s2 at *
              have HS2 := hidden hs2
              clear hs2
              generalize sF p L si (penF pd) k = s1 at *
              generalize ba (aloL p L si (penF pd) k) = t1 at *
              go_wp2_with fail
              refine (CNk.out _ HT3.out).mono ?_
              rintro e w4 ⟨rfl, hb⟩
              have HT4 := hidden (HT3.out.below hb)
              have HB4 := hidden (bthen HB3.out hb)
              have HK4 := hidden (blk_later HK3.out hb)
              have own4 := hidden (own_below own3.out hb)
              clear hb CNk HT3 HB3 own3 c3 l3 
              have c4 := blk_cell HK4.out
              have l4 := blk_lt HK4.out
              go_wp2_with fail
              refine (CBk.out _ HT4.out).mono ?_
              rintro e w5 ⟨rfl, hb⟩
              have hown5 := own_below own4.out hb
              have hB5 : Below w2.heap.size w2 w5 := bthen HB4.out hb
              clear hb CBk HT4 HB4 own4 c4 l4
              go_wp2_with (at_builtin; refine kInt.wpList_append _ rfl (.tmp 60) (.tmp 64) 22 rfl w2.heap.size 3 i0 (.int .i64 0) 8 Try.underlying22 hi hz0 hz1 hz2 rfl u10 k _ rfl (hown5.alloc _) (.slice (some ⟨w5.heap.size, 0, none⟩) 1 1) [z] rfl (Kind.Lies.of_block (K := kInt) (es := [z]) (heap_alloc_new w5 _) (by simp only [maxLen, List.length_singleton]; omega)) (by simp only [maxLen, List.length_singleton]; omega) (by simp only [List.length_singleton]; omega) (by have := hB5.size; simp; omega) ?_; intro v6 w6 hown6 hgrow6 hbl6)
              have hB6 : Below w2.heap.size w2 w6 := (hB5.alloc hB5.size _).grown hgrow6 (by have := hB5.size; simp; omega) (own_from hown5)
              have HB6 := hidden hB6
              have HO6 : Hid (w6.ownsRow w2.heap.size 3 1 v6 (k + 1) (kInt.flat (bitL p L si (penF pd) (k + 1)))) := by
                show World.ownsRow _ _ _ _ _ _ _
                rw [HS.out, Kind.flat_append]
                exact hown6
              clear hown5 hB5 hown6 hgrow6 hbl6 hB6
              refine (CY.out _).mono ?_
              rintro e w7 ⟨rfl, hb⟩
              have HQ := hidden (And.intro (own_below HO6.out hb) (bthen HB6.out hb))
              clear hb CY
              go_wp2
              go_roundw
              case rel => exact ⟨k + 1, by omega, by go_num, by rw [HS2.out], by rw [HAL.out], HQ.out⟩
              case measure => simp [intV]; omega
            · have h49' : (((pd[k]'hkp).toNat : Int) == 49) = false := by simpa using h49
              have HEB : Hid (eF p L si (penF pd) k = false) := HRes.out.trans (HPN.out.trans h49')
              clear HRes HPN h49
              go_wp2_with fail
              refine (CL.out _ HTr.out).mono ?_
              rintro e w3 ⟨rfl, hb⟩
              have HT3 := hidden (HTr.out.below hb)
              have HB3 := hidden (bthen hB0.out hb)
              have HK3 := hidden (blk_later HKr.out hb)
              have own3 := hidden (own_below hown0.out hb)
              have c3 := blk_cell HK3.out
              have l3 := blk_lt HK3.out
              clear hb c0 l0 HTr HKr hB0 hown0
              have HN : Hid (nxt1 0 p (sF p L si (penF pd) k) false = sF p L si (penF pd) (k + 1)) := by
                show _ = _
                rw [sF_s hL1, HEB.out]
                exact if_pos rfl
              have CNk := CN.out k false
              rw [HN.out] at CNk
              have CNk := hidden CNk
              have CBk := hidden (CB.out (k + 1))
              have HS := hidden (bitL_s p L si (penF pd) k)
              have HAL := hidden (aloL_s p L si (penF pd) k)
              rw [HEB.out, ← dig_byte] at HAL
              have CY := hidden (fun V => rbyte_any (48 + numB false) V)
              have hns : ¬ 9223372036854775807 < (ba (aloL p L si (penF pd) k)).size + (numStr [(48 + numB false) % 256]).size := by rw [ba_size, aloL_len, numStr_size, List.length_singleton]; omega
              generalize numStr [(48 + numB false) % 256] = bt at *
              clear CN CB CL HN
              generalize nxt2 0 p (sF p L si (penF pd) k) 0 false = q2 at *
              rw [show numB false = 0 from rfl] at CY
              generalize bitI 0 p L (sF p L si (penF pd) (k + 1)) = z at *
              generalize hs2 : sF p L si (penF pd) (k + 1) = s2 at *
              have HS2 := hidden hs2
              clear hs2
              generalize sF p L si (penF pd) k = s1 at *
              generalize ba (aloL p L si (penF pd) k) = t1 at *
              go_wp2_with fail
              refine (CNk.out _ HT3.out).mono ?_
              rintro e w4 ⟨rfl, hb⟩
              have HT4 := hidden (HT3.out.below hb)
              have HB4 := hidden (bthen HB3.out hb)
              have HK4 := hidden (blk_later HK3.out hb)
              have own4 := hidden (own_below own3.out hb)
              clear hb CNk HT3 HB3 own3 c3 l3 
              have c4 := blk_cell HK4.out
              have l4 := blk_lt HK4.out
              go_wp2_with fail
              refine (CBk.out _ HT4.out).mono ?_
              rintro e w5 ⟨rfl, hb⟩
              have hown5 := own_below own4.out hb
              have hB5 : Below w2.heap.size w2 w5 := bthen HB4.out hb
              clear hb CBk HT4 HB4 own4 c4 l4
              go_wp2_with (at_builtin; refine kInt.wpList_append _ rfl (.tmp 60) (.tmp 64) 22 rfl w2.heap.size 3 i0 (.int .i64 0) 8 Try.underlying22 hi hz0 hz1 hz2 rfl u10 k _ rfl (hown5.alloc _) (.slice (some ⟨w5.heap.size, 0, none⟩) 1 1) [z] rfl (Kind.Lies.of_block (K := kInt) (es := [z]) (heap_alloc_new w5 _) (by simp only [maxLen, List.length_singleton]; omega)) (by simp only [maxLen, List.length_singleton]; omega) (by simp only [List.length_singleton]; omega) (by have := hB5.size; simp; omega) ?_; intro v6 w6 hown6 hgrow6 hbl6)
              have hB6 : Below w2.heap.size w2 w6 := (hB5.alloc hB5.size _).grown hgrow6 (by have := hB5.size; simp; omega) (own_from hown5)
              have HB6 := hidden hB6
              have HO6 : Hid (w6.ownsRow w2.heap.size 3 1 v6 (k + 1) (kInt.flat (bitL p L si (penF pd) (k + 1)))) := by
                show World.ownsRow _ _ _ _ _ _ _
                rw [HS.out, Kind.flat_append]
                exact hown6
              clear hown5 hB5 hown6 hgrow6 hbl6 hB6
              refine (CY.out _).mono ?_
              rintro e w7 ⟨rfl, hb⟩
              have HQ := hidden (And.intro (own_below HO6.out hb) (bthen HB6.out hb))
              clear hb CY
              go_wp2
              go_roundw
              case rel => exact ⟨k + 1, by omega, by go_num, by rw [HS2.out], by rw [HAL.out], HQ.out⟩
              case measure => simp [intV]; omega
          · have r2 : ¬ (k : Int) < (pd.size : Int) := by omega
            have HEB : Hid (eF p L si (penF pd) k = false) := HRes.out.trans (dif_neg hkp)
            clear HRes
            go_wp2_with fail
            refine (CL.out _ HTr.out).mono ?_
            rintro e w3 ⟨rfl, hb⟩
            have HT3 := hidden (HTr.out.below hb)
            have HB3 := hidden (bthen hB0.out hb)
            have HK3 := hidden (blk_later HKr.out hb)
            have own3 := hidden (own_below hown0.out hb)
            have c3 := blk_cell HK3.out
            have l3 := blk_lt HK3.out
            clear hb c0 l0 HTr HKr hB0 hown0
            have HN : Hid (nxt1 0 p (sF p L si (penF pd) k) false = sF p L si (penF pd) (k + 1)) := by
              show _ = _
              rw [sF_s hL1, HEB.out]
              exact if_pos rfl
            have CNk := CN.out k false
            rw [HN.out] at CNk
            have CNk := hidden CNk
            have CBk := hidden (CB.out (k + 1))
            have HS := hidden (bitL_s p L si (penF pd) k)
            have HAL := hidden (aloL_s p L si (penF pd) k)
            rw [HEB.out, ← dig_byte] at HAL
            have CY := hidden (fun V => rbyte_any (48 + numB false) V)
            have hns : ¬ 9223372036854775807 < (ba (aloL p L si (penF pd) k)).size + (numStr [(48 + numB false) % 256]).size := by rw [ba_size, aloL_len, numStr_size, List.length_singleton]; omega
            generalize numStr [(48 + numB false) % 256] = bt at *
            clear CN CB CL HN
            generalize nxt2 0 p (sF p L si (penF pd) k) 0 false = q2 at *
            rw [show numB false = 0 from rfl] at CY
            generalize bitI 0 p L (sF p L si (penF pd) (k + 1)) = z at *
            generalize hs2 : sF p L si (penF pd) (k + 1) = s2 at *
            have HS2 := hidden hs2
            clear hs2
            generalize sF p L si (penF pd) k = s1 at *
            generalize ba (aloL p L si (penF pd) k) = t1 at *
            go_wp2_with fail
            refine (CNk.out _ HT3.out).mono ?_
            rintro e w4 ⟨rfl, hb⟩
            have HT4 := hidden (HT3.out.below hb)
            have HB4 := hidden (bthen HB3.out hb)
            have HK4 := hidden (blk_later HK3.out hb)
            have own4 := hidden (own_below own3.out hb)
            clear hb CNk HT3 HB3 own3 c3 l3 
            have c4 := blk_cell HK4.out
            have l4 := blk_lt HK4.out
            go_wp2_with fail
            refine (CBk.out _ HT4.out).mono ?_
            rintro e w5 ⟨rfl, hb⟩
            have hown5 := own_below own4.out hb
            have hB5 : Below w2.heap.size w2 w5 := bthen HB4.out hb
            clear hb CBk HT4 HB4 own4 c4 l4
            go_wp2_with (at_builtin; refine kInt.wpList_append _ rfl (.tmp 60) (.tmp 64) 22 rfl w2.heap.size 3 i0 (.int .i64 0) 8 Try.underlying22 hi hz0 hz1 hz2 rfl u10 k _ rfl (hown5.alloc _) (.slice (some ⟨w5.heap.size, 0, none⟩) 1 1) [z] rfl (Kind.Lies.of_block (K := kInt) (es := [z]) (heap_alloc_new w5 _) (by simp only [maxLen, List.length_singleton]; omega)) (by simp only [maxLen, List.length_singleton]; omega) (by simp only [List.length_singleton]; omega) (by have := hB5.size; simp; omega) ?_; intro v6 w6 hown6 hgrow6 hbl6)
            have hB6 : Below w2.heap.size w2 w6 := (hB5.alloc hB5.size _).grown hgrow6 (by have := hB5.size; simp; omega) (own_from hown5)
            have HB6 := hidden hB6
            have HO6 : Hid (w6.ownsRow w2.heap.size 3 1 v6 (k + 1) (kInt.flat (bitL p L si (penF pd) (k + 1)))) := by
              show World.ownsRow _ _ _ _ _ _ _
              rw [HS.out, Kind.flat_append]
              exact hown6
            clear hown5 hB5 hown6 hgrow6 hbl6 hB6
            refine (CY.out _).mono ?_
            rintro e w7 ⟨rfl, hb⟩
            have HQ := hidden (And.intro (own_below HO6.out hb) (bthen HB6.out hb))
            clear hb CY
            go_wp2
            go_roundw
            case rel => exact ⟨k + 1, by omega, by go_num, by rw [HS2.out], by rw [HAL.out], HQ.out⟩
            case measure => simp [intV]; omega
        · have r1 : ¬ (k : Int) < (L : Int) := by omega
          rw [if_neg hkL] at HRes
          have HEB := HRes
          obtain ⟨aB, cB, rfl⟩ := own_slice hown0.out
          have hli := Kind.Lies.of_own (K := kInt) (base := w2.heap.size) (e := 3) (es := bitL p L si (penF pd) k) (by rw [bitL_len]; exact hown0.out)
          obtain ⟨vb, vo, rfl, hvb, ev⟩ := kInt_at hli (k - L) (by rw [bitL_len]; omega)
          rw [bitL_at] at ev
          have t1 : IntKind.i64.wrap ((k : Int) - (L : Int)) = ((k - L : Nat) : Int) := by rw [IntWalk.i64_in _ (by omega)]; omega
          have r3 : (0 : Int) ≤ ((k - L : Nat) : Int) := by omega
          have r4 : ((k - L : Nat) : Int) < (k : Int) := by omega
          have HEV := hidden (And.intro hvb ev)
          clear hli hvb ev HRes
          generalize hbb : bgF p L (sF p L si (penF pd) (k - L + 1)) = bb at *
          clear hbb
          generalize hjj : k - L = jj at *
          clear hjj
          go_wp2_with fail
          refine (CL.out _ HTr.out).mono ?_
          rintro e w3 ⟨rfl, hb⟩
          have HT3 := hidden (HTr.out.below hb)
          have HB3 := hidden (bthen hB0.out hb)
          have HK3 := hidden (blk_later HKr.out hb)
          have own3 := hidden (own_below hown0.out hb)
          have c3 := blk_cell HK3.out
          have l3 := blk_lt HK3.out
          have blk3 := hb
          clear hb c0 l0 HTr HKr hB0 hown0
          have ev3 := (blk3.cell (p := ⟨vb, vo + jj, none⟩) HEV.out.1).trans HEV.out.2
          have hvb3 : vb < w3.heap.size := Nat.lt_of_lt_of_le HEV.out.1 blk3.size
          clear blk3
          go_wp2_with fail
          refine (CL.out _ HT3.out).mono ?_
          rintro e w3b ⟨rfl, hb⟩
          have HT3b := hidden (HT3.out.below hb)
          have HB3b := hidden (bthen HB3.out hb)
          have HK3b := hidden (blk_later HK3.out hb)
          have own3b := hidden (own_below own3.out hb)
          have ev := (hb.cell (p := ⟨vb, vo + jj, none⟩) hvb3).trans ev3
          have hvb4 : vb < w3b.heap.size := Nat.lt_of_lt_of_le hvb3 hb.size
          clear hb HT3 HB3 HK3 own3 c3 l3 ev3 hvb3
          obtain ⟨w3, rfl⟩ : ∃ w3, w3 = w3b := ⟨_, rfl⟩
          have HT3 := HT3b
          have HB3 := HB3b
          have HK3 := HK3b
          have own3 := own3b
          clear HT3b HB3b HK3b own3b
          have c3 := blk_cell HK3.out
          have l3 := blk_lt HK3.out
          have HN : Hid (nxt1 0 p (sF p L si (penF pd) k) bb = sF p L si (penF pd) (k + 1)) := by
            show _ = _
            rw [sF_s hL1, HEB.out]
            exact if_pos rfl
          have CNk := CN.out k bb
          rw [HN.out] at CNk
          have CNk := hidden CNk
          have CBk := hidden (CB.out (k + 1))
          have HS := hidden (bitL_s p L si (penF pd) k)
          have HAL := hidden (aloL_s p L si (penF pd) k)
          rw [HEB.out, ← dig_byte] at HAL
          have CY := hidden (fun V => rbyte_any (48 + numB bb) V)
          have hns : ¬ 9223372036854775807 < (ba (aloL p L si (penF pd) k)).size + (numStr [(48 + numB bb) % 256]).size := by rw [ba_size, aloL_len, numStr_size, List.length_singleton]; omega
          generalize numStr [(48 + numB bb) % 256] = bt at *
          clear CN CB CL HN
          generalize nxt2 0 p (sF p L si (penF pd) k) 0 bb = q2 at *
          have hv := numB_one bb
          have hvb := numB_bd bb
          generalize numB bb = v at *
          have tb : IntKind.i64.wrap (48 + v) = 48 + v := IntWalk.i64_in _ (by omega)
          generalize bitI 0 p L (sF p L si (penF pd) (k + 1)) = z at *
          generalize hs2 : sF p L si (penF pd) (k + 1) = s2 at *
          have HS2 := hidden hs2
          clear hs2
          generalize sF p L si (penF pd) k = s1 at *
          generalize ba (aloL p L si (penF pd) k) = t1 at *
          go_wp2_with fail
          refine (CNk.out _ HT3.out).mono ?_
          rintro e w4 ⟨rfl, hb⟩
          have HT4 := hidden (HT3.out.below hb)
          have HB4 := hidden (bthen HB3.out hb)
          have HK4 := hidden (blk_later HK3.out hb)
          have own4 := hidden (own_below own3.out hb)
          clear hb CNk HT3 HB3 own3 c3 l3 ev
          have c4 := blk_cell HK4.out
          have l4 := blk_lt HK4.out
          go_wp2_with fail
          refine (CBk.out _ HT4.out).mono ?_
          rintro e w5 ⟨rfl, hb⟩
          have hown5 := own_below own4.out hb
          have hB5 : Below w2.heap.size w2 w5 := bthen HB4.out hb
          clear hb CBk HT4 HB4 own4 c4 l4
          go_wp2_with (at_builtin; refine kInt.wpList_append _ rfl (.tmp 60) (.tmp 64) 22 rfl w2.heap.size 3 i0 (.int .i64 0) 8 Try.underlying22 hi hz0 hz1 hz2 rfl (.slice (some ⟨vb, vo, none⟩) k cB) k _ rfl (hown5.alloc _) (.slice (some ⟨w5.heap.size, 0, none⟩) 1 1) [z] rfl (Kind.Lies.of_block (K := kInt) (es := [z]) (heap_alloc_new w5 _) (by simp only [maxLen, List.length_singleton]; omega)) (by simp only [maxLen, List.length_singleton]; omega) (by simp only [List.length_singleton]; omega) (by have := hB5.size; simp; omega) ?_; intro v6 w6 hown6 hgrow6 hbl6)
          have hB6 : Below w2.heap.size w2 w6 := (hB5.alloc hB5.size _).grown hgrow6 (by have := hB5.size; simp; omega) (own_from hown5)
          have HB6 := hidden hB6
          have HO6 : Hid (w6.ownsRow w2.heap.size 3 1 v6 (k + 1) (kInt.flat (bitL p L si (penF pd) (k + 1)))) := by
            show World.ownsRow _ _ _ _ _ _ _
            rw [HS.out, Kind.flat_append]
            exact hown6
          clear hown5 hB5 hown6 hgrow6 hbl6 hB6
          refine (CY.out _).mono ?_
          rintro e w7 ⟨rfl, hb⟩
          have HQ := hidden (And.intro (own_below HO6.out hb) (bthen HB6.out hb))
          clear hb CY
          go_wp2
          go_roundw
          case rel => exact ⟨k + 1, by omega, by go_num, by rw [HS2.out], by rw [HAL.out], HQ.out⟩
          case measure => simp [intV]; omega
      · obtain rfl : k = M := by omega
        have HB9 := hidden (bthen HB2.out hB)
        have hme := HME.out
        clear hown hB
        by_cases hmt : (k : Int) < tk
        · have q2 : ¬ (k : Int) < 2000 := by have := hme hmt; omega
          clear hme
          go_wp2
          go_ret
          exact ⟨rfl, HB9.out⟩
        · clear hme
          go_wp2
          go_ret
          exact ⟨rfl, HB9.out⟩
  · have hr : Hid (aloT (plainE n f d p r dr o sl md fr zs) p L si (penF pd) M = ba []) := if_neg hE
    have j1 : (plainE n f d p r dr o sl md fr zs != 0) = true := bne_iff_ne.2 hE
    rw [hr.out]
    generalize plainE n f d p r dr o sl md fr zs = E at *
    clear hE hT hL hM hr
    go_enter Try.func8, Try.ntmps8
    go_wp2_with fail
    refine HP.out.mono ?_
    rintro e w2 ⟨rfl, hb⟩
    have HB2 := hidden (bthen HB0.out hb)
    clear hb HP
    go_wp2
    go_ret
    exact ⟨rfl, HB2.out⟩
end Go.Proofs.Ytkolhbacgoafcab
