/- Several texts of one's own in one: what each proves, and its conditions, is said ahead of it. -/
import Derived.Test.YtkolhbacgoafcaaGreatBf
import Derived.Test.YtkolhbacgoafcaaGreatBg
import Derived.Test.YtkolhbacgoafcaaGreatBc
import Derived.Test.YtkolhbacgoafcaaGreatBe
import Derived.Deep.DeepCutAuto
import Derived.Deep.RegionHeld3
import Derived.Laws.CopyOwn
import Derived.Laws.Tables

/- The document's call Step of layer 18 returns what plain functions give, and makes at most new memory; conditions: rows lie where they say, numbers and lengths fit int, at most a hundred thousand votes. -/
namespace Go.Proofs.YtkolhbacgoafcaaGreat
open Go.ChangeShapes Go.WideShapes Go.ChangeAt Go.RowKit
set_option linter.unusedVariables false
attribute [local go_sem] cell_rg

set_option maxRecDepth 100000 in
set_option maxHeartbeats 2000000 in
theorem rBStep_any (n f d p r dr o sl md fr : Int) (ad : Option Addr) (cap : Nat) (zs : List Int) (R D L : Nat) (s : ByteArray) (hs : s.size ≤ 9223372036854775807) (si ri : Int) (hsi : -9223372036854775808 ≤ si ∧ si ≤ 9223372036854775807) (hri : -9223372036854775808 ≤ ri ∧ ri ≤ 9223372036854775807) (a2 : Option Addr) (c2 : Nat) (votes : List ByteArray) (w : World) (hl : zs.length ≤ 9223372036854775807) (hT : Tab w ad zs) (hR : gate (plainE n f d p r dr o sl md fr zs) (3 * (f + 1)) = (R : Int)) (hL : gate (plainE n f d p r dr o sl md fr zs) (3 * (f + 1) * d) = (L : Int))
    (hR15 : R ≤ 15) (hL60 : L ≤ 60) (hLD : L = R * D) (hd1 : plainE n f d p r dr o sl md fr zs = 0 → (R : Int) = 3 * (f + 1) ∧ d = (D : Int) ∧ 1 ≤ D ∧ D ≤ 4) (hd0 : ¬ plainE n f d p r dr o sl md fr zs = 0 → R = 0) (hn : votes.length ≤ 100000) (hV : kStr.Lies w.heap.size w (.slice a2 votes.length c2) votes) (hz : ∀ t ∈ votes, t.size ≤ 9223372036854775807) :
    Calls Tryz.prog 6 #[.agg #[.int .i64 n, .int .i64 f, .int .i64 d, .int .i64 p, .int .i64 r, .int .i64 dr, .int .i64 o, .int .i64 sl, .int .i64 md, .int .i64 fr, .slice ad zs.length cap], .string s, .int .i64 si, .int .i64 ri, .slice a2 votes.length c2] w fun e w' => e = .returned (.tuple #[.string (ba (stpL n f d p r dr o sl md fr ad cap zs D L votes (wellL L s) si)), .int .i64 (stpS n f d p r dr o sl md fr ad cap zs D L votes (wellL L s) si), .int .i64 (stpR n f d p r dr o sl md fr ad cap zs D L votes (wellL L s) si ri), .bool (stpP n f d p r dr o sl md fr ad cap zs D L votes (wellL L s))]) ∧ Below w.heap.size w w' := by
  have HB0 := hidden (ballc w (.cells #[.int .i64 n, .int .i64 f, .int .i64 d, .int .i64 p, .int .i64 r, .int .i64 dr, .int .i64 o, .int .i64 sl, .int .i64 md, .int .i64 fr, .slice ad zs.length cap] 24))
  have hLL : plainE n f d p r dr o sl md fr zs = 0 → 1 ≤ L := fun e => by
    obtain ⟨h1, h2, h3, h4⟩ := hd1 e
    obtain ⟨_, _, f1, _⟩ := plainE_ok e
    rw [hLD]
    exact Nat.mul_pos (by omega) (by omega)
  have HT := hidden (hT.below HB0.out)
  have HK := hidden (blk_nw w #[.int .i64 n, .int .i64 f, .int .i64 d, .int .i64 p, .int .i64 r, .int .i64 dr, .int .i64 o, .int .i64 sl, .int .i64 md, .int .i64 fr, .slice ad zs.length cap] 24)
  have HM := hidden (rPMove_any n f d p r dr o sl md fr ad cap zs R D L s a2 c2 votes (w.alloc (.cells #[.int .i64 n, .int .i64 f, .int .i64 d, .int .i64 p, .int .i64 r, .int .i64 dr, .int .i64 o, .int .i64 sl, .int .i64 md, .int .i64 fr, .slice ad zs.length cap] 24)) hl HT.out hR hL hR15 hL60 hLD hd1 hd0 hn (hV.later HB0.out) hz)
  have hPP : Hid (stpP n f d p r dr o sl md fr ad cap zs D L votes (wellL L s) = (endF (newB (hrdF n f d p r dr o sl md fr ad cap zs votes) D (wellL L s) L) == 1)) := rfl
  have CN := hidden (fun V h => rNext_any n f d p r dr o sl md fr ad cap zs si ri (stpP n f d p r dr o sl md fr ad cap zs D L votes (wellL L s)) V hl h hsi hri)
  have hp4 : plainE n f d p r dr o sl md fr zs = 0 → p ≤ 400 := fun h => by obtain ⟨_, _, _, _, _, _, _, _, hp2, _⟩ := plainE_ok h; exact hp2
  have hsb : -9223372036854775808 ≤ stpS n f d p r dr o sl md fr ad cap zs D L votes (wellL L s) si ∧ stpS n f d p r dr o sl md fr ad cap zs D L votes (wellL L s) si ≤ 9223372036854775807 := by
    unfold stpS
    by_cases hE : plainE n f d p r dr o sl md fr zs = 0
    · exact nxt1_bd hsi.2 (by have := hp4 hE; omega)
    · unfold nxt1
      rw [if_neg hE]
      omega
  have CB := hidden (fun V h => rBit_any n f d p r dr o sl md fr ad cap zs L (stpS n f d p r dr o sl md fr ad cap zs D L votes (wellL L s) si) V hl h hL hL60 hsb)
  have CG := hidden (fun V h => rPBegin_any n f d p r dr o sl md fr ad cap zs L (ba (newL (hrdF n f d p r dr o sl md fr ad cap zs votes) D (wellL L s))) (bitI (plainE n f d p r dr o sl md fr zs) p L (stpS n f d p r dr o sl md fr ad cap zs D L votes (wellL L s) si)) V hl h hL hL60 hLL)
  rw [wellL_ba (by rw [newL_len, wellL_len])] at CG
  have h1 : Hid (stpL n f d p r dr o sl md fr ad cap zs D L votes (wellL L s) si = (newL (hrdF n f d p r dr o sl md fr ad cap zs votes) D (wellL L s)).set 0 (begC8 (bitI (plainE n f d p r dr o sl md fr zs) p L (stpS n f d p r dr o sl md fr ad cap zs D L votes (wellL L s) si)))) := rfl
  have h2 : Hid (stpS n f d p r dr o sl md fr ad cap zs D L votes (wellL L s) si = nxt1 (plainE n f d p r dr o sl md fr zs) p si (stpP n f d p r dr o sl md fr ad cap zs D L votes (wellL L s))) := rfl
  have h3 : Hid (stpR n f d p r dr o sl md fr ad cap zs D L votes (wellL L s) si ri = nxt2 (plainE n f d p r dr o sl md fr zs) p si ri (stpP n f d p r dr o sl md fr ad cap zs D L votes (wellL L s))) := rfl
  rw [← h2.out, ← h3.out] at CN
  rw [← h1.out] at CG
  clear hT hV hz hR hL hLD hd1 hd0 hLL h1 h2 h3 hp4 hsb
  generalize stpL n f d p r dr o sl md fr ad cap zs D L votes (wellL L s) si = o1 at *
  generalize stpS n f d p r dr o sl md fr ad cap zs D L votes (wellL L s) si = o2 at *
  generalize stpR n f d p r dr o sl md fr ad cap zs D L votes (wellL L s) si ri = o3 at *
  generalize stpP n f d p r dr o sl md fr ad cap zs D L votes (wellL L s) = o4 at *
  generalize endF (newB (hrdF n f d p r dr o sl md fr ad cap zs votes) D (wellL L s) L) = en at *
  generalize ba (newL (hrdF n f d p r dr o sl md fr ad cap zs votes) D (wellL L s)) = mv at *
  generalize bitI (plainE n f d p r dr o sl md fr zs) p L o2 = bi at *
  generalize ba o1 = ot at *
  generalize votes.length = M at *
  have hpp := hPP.out
  subst hpp
  generalize hbb : (en == 1) = bb at *
  clear hPP
  have j := hbb
  clear hbb
  go_enter Tryz.func6, Tryz.ntmps6
  go_wp2_with fail
  refine HM.out.mono ?_
  rintro e w2 ⟨rfl, hb⟩
  have HB2 := hidden (bthen HB0.out hb)
  have HT2 := hidden (HT.out.below hb)
  have HK2 := hidden (blk_later HK.out hb)
  have c0 := blk_cell HK2.out
  have l0 := blk_lt HK2.out
  clear hb HT HK HM
  go_wp2_with fail
  refine (CN.out _ HT2.out).mono ?_
  rintro e w3 ⟨rfl, hb⟩
  have HB3 := hidden (bthen HB2.out hb)
  have HT3 := hidden (HT2.out.below hb)
  have HK3 := hidden (blk_later HK2.out hb)
  clear hb HT2 HK2 CN c0 l0
  have c0 := blk_cell HK3.out
  have l0 := blk_lt HK3.out
  go_wp2
  refine wp_region_quiet_below (by kernel_rfl) (by kernel_rfl) ?_
  repeat (go_big_quiet_step (first | (go_at_call 16; exact Calls.regrown_of (CB.out _ (HT3.out.below (below_regrown _ _ _)))) | (go_at_call 15; exact Calls.regrown_of (CG.out _ (HT3.out.below (below_regrown _ _ _))))))
  refine wpQuiet_nil ?_
  intro w5 hw5
  have HB5 := hidden (bthen HB3.out (rg_below hw5))
  clear hw5 c0 l0
  go_wp2
  exact bodyPost_ret (v := .tuple #[.string ot, .int .i64 o2, .int .i64 o3, .bool bb]) (by simp [results, Tryz.results6, go_sem]) rfl ⟨rfl, HB5.out⟩
end Go.Proofs.YtkolhbacgoafcaaGreat

/- The fixed configuration of the statements, and what is plain of it; no conditions. -/
namespace Go.Proofs.YtkolhbacgoafcaaGreat
open Go.ChangeShapes Go.WideShapes Go.ChangeAt Go.RowKit
set_option linter.unusedVariables false

theorem Tab.four (w : World) (t : TypeId) (g : Nat) (hg : g = w.heap.size) : Tab (w.alloc (.cells #[.int .i64 0, .int .i64 1, .int .i64 2, .int .i64 3] t)) (some ⟨g, 0, none⟩) [0, 1, 2, 3] := by
  subst hg
  intro i hi
  refine ⟨_, rfl, ?_⟩
  have hi' : i = 0 ∨ i = 1 ∨ i = 2 ∨ i = 3 := by simp at hi; omega
  rcases hi' with rfl | rfl | rfl | rfl <;> exact World.cell?_alloc_mark w _ t _ _
theorem Tab.none (w : World) : Tab w none [] := fun i hi => absurd hi (Nat.not_lt_zero _)
theorem plainE_small : plainE 4 1 1 20 64 1 64 190 10 3 [0, 1, 2, 3] = 0 := by decide
theorem plainE_zero : plainE 0 0 0 0 0 0 0 0 0 0 [] = 7 := by decide
/-- The same call, where the answer is spelt otherwise. -/
theorem Calls.ret_to {P : Program} {F : FuncId} {args : Array Value} {w : World} {v u : Value} (h : Calls P F args w fun e w' => e = .returned v ∧ Below w.heap.size w w') (e : v = u) : Calls P F args w fun e w' => e = .returned u ∧ Below w.heap.size w w' := by
  rw [← e]; exact h
theorem val_i {a b : Int} (h : a = b) : Value.int .i64 a = .int .i64 b := by rw [h]
end Go.Proofs.YtkolhbacgoafcaaGreat

/- The fixed calls of the statements on package pipe come out as they must, and make at most new memory; no conditions. -/
namespace Go.Proofs.YtkolhbacgoafcaaGreat
open Go.ChangeShapes Go.WideShapes Go.ChangeAt Go.RowKit
set_option linter.unusedVariables false

theorem pval_s {a b : ByteArray} (h : a = b) : Value.string a = .string b := by rw [h]
theorem pval_t {a b : ByteArray} {i j : Int} (h : a = b) (k : i = j) : Value.tuple #[.string a, .int .i64 i] = .tuple #[.string b, .int .i64 j] := by rw [h, k]
theorem hrdF_small (ad : Option Addr) (votes : List ByteArray) : hrdF 4 1 1 20 64 1 64 190 10 3 ad 4 [0, 1, 2, 3] votes = hrdB 0 4 1 votes := by
  funext x b
  unfold hrdF
  rw [plainE_small]
theorem blank_small17 : ba (zerL 6) = ⟨#[48, 48, 48, 48, 48, 48]⟩ := by decide +kernel
theorem tell_small17 : dgB 6 (valG (ba (tellL 1 (wellL 6 ⟨#[48, 49, 51, 52, 53, 50]⟩) 6))) = ⟨#[48, 49, 48, 49, 50, 50]⟩ := by decide +kernel
theorem begin_small17 : ba ((wellL 6 ⟨#[50, 50, 50, 50, 50, 50]⟩).set 0 (begC8 1)) = ⟨#[49, 50, 50, 50, 50, 50]⟩ := by decide +kernel
theorem move_small17 : ba (newL (hrdB 0 4 1 [⟨#[49, 49, 49, 49, 49, 49]⟩, ⟨#[49, 49, 49, 49, 49, 49]⟩, ⟨#[49, 49, 49, 49, 49, 49]⟩]) 1 (wellL 6 ⟨#[48, 48, 48, 48, 48, 49]⟩)) = ⟨#[48, 49, 52, 49, 49, 52]⟩ := by decide +kernel
theorem end_small17 : endF (newB (hrdB 0 4 1 [⟨#[49, 49, 49, 49, 49, 49]⟩, ⟨#[49, 49, 49, 49, 49, 49]⟩, ⟨#[49, 49, 49, 49, 49, 49]⟩]) 1 (wellL 6 ⟨#[48, 48, 48, 48, 48, 49]⟩) 6) = 1 := by decide +kernel
theorem move17_any (g : Nat) (a2 : Option Addr) (w : World) (hT : Tab w (some ⟨g, 0, none⟩) [0, 1, 2, 3]) (hV : kStr.Lies w.heap.size w (.slice a2 3 3) [⟨#[49, 49, 49, 49, 49, 49]⟩, ⟨#[49, 49, 49, 49, 49, 49]⟩, ⟨#[49, 49, 49, 49, 49, 49]⟩]) :
    Calls Tryz.prog 11 #[.agg #[.int .i64 4, .int .i64 1, .int .i64 1, .int .i64 20, .int .i64 64, .int .i64 1, .int .i64 64, .int .i64 190, .int .i64 10, .int .i64 3, .slice (some ⟨g, 0, none⟩) 4 4], .string ⟨#[48, 48, 48, 48, 48, 49]⟩, .slice a2 3 3] w fun e w' => e = .returned (.tuple #[.string ⟨#[48, 49, 52, 49, 49, 52]⟩, .int .i64 1]) ∧ Below w.heap.size w w' :=
  Calls.ret_to (Move_any 4 1 1 20 64 1 64 190 10 3 (some ⟨g, 0, none⟩) 4 [0, 1, 2, 3] 6 1 6 ⟨#[48, 48, 48, 48, 48, 49]⟩ (by decide) a2 3 [⟨#[49, 49, 49, 49, 49, 49]⟩, ⟨#[49, 49, 49, 49, 49, 49]⟩, ⟨#[49, 49, 49, 49, 49, 49]⟩] w (by decide) hT (by rw [plainE_small]; rfl) (by rw [plainE_small]; rfl) (by decide) (by decide) (by decide) (.inr ⟨rfl, by decide, by decide⟩) (by decide) hV (by decide))
    (by rw [hrdF_small]; exact pval_t move_small17 end_small17)
end Go.Proofs.YtkolhbacgoafcaaGreat

/- The calls rowOf, ends and begin of package beat make, read and turn a row of ends; conditions: the table lies where it says, lengths fit int, the row is a block of its own. -/
namespace Go.Proofs.YtkolhbacgoafcaaGreat
open Go.ChangeShapes Go.WideShapes Go.ChangeAt Go.RowKit
set_option linter.unusedVariables false
attribute [local go_sem] cell_rg

/-- What comes of what was on its way: Since and ends, tick by tick. -/
def alL (P : Int) (L : Nat) (s0 : Int) (pend : Nat → Bool) : Nat → List Int
  | 0 => [s0]
  | k + 1 => alL P L s0 pend k ++ [nxF P ((alL P L s0 pend k).getD k 0) (if k < L then pend k else bgF P L ((alL P L s0 pend k).getD (k - L + 1) 0))]
def sF (P : Int) (L : Nat) (s0 : Int) (pend : Nat → Bool) (k : Nat) : Int := (alL P L s0 pend k).getD k 0
def eF (P : Int) (L : Nat) (s0 : Int) (pend : Nat → Bool) (k : Nat) : Bool := if k < L then pend k else bgF P L (sF P L s0 pend (k - L + 1))
section
variable {P : Int} {L : Nat} {s0 : Int} {pend : Nat → Bool}
theorem alL_len : ∀ k, (alL P L s0 pend k).length = k + 1
  | 0 => rfl
  | k + 1 => by
    show (alL P L s0 pend k ++ [_]).length = _
    rw [List.length_append, alL_len k]
    rfl
theorem alL_at (j : Nat) : ∀ k, j ≤ k → (alL P L s0 pend k).getD j 0 = sF P L s0 pend j
  | 0, h => by
    obtain rfl : j = 0 := by omega
    rfl
  | k + 1, h => by
    by_cases e : j = k + 1
    · subst e
      rfl
    · rw [← alL_at j k (by omega)]
      show (alL P L s0 pend k ++ [_]).getD j 0 = _
      rw [List.getD_eq_getElem?_getD, List.getElem?_append_left (by rw [alL_len]; omega), List.getD_eq_getElem?_getD]
theorem sF_0 : sF P L s0 pend 0 = s0 := rfl
theorem sF_s (hL : 1 ≤ L) (k : Nat) : sF P L s0 pend (k + 1) = nxF P (sF P L s0 pend k) (eF P L s0 pend k) := by
  have h : sF P L s0 pend (k + 1) = nxF P ((alL P L s0 pend k).getD k 0) (if k < L then pend k else bgF P L ((alL P L s0 pend k).getD (k - L + 1) 0)) := by
    show (alL P L s0 pend k ++ [_]).getD (k + 1) 0 = _
    rw [List.getD_eq_getElem?_getD, List.getElem?_append_right (by rw [alL_len]; omega), alL_len, Nat.sub_self]
    rfl
  rw [h, alL_at k k (Nat.le_refl _)]
  unfold eF
  by_cases hk : k < L
  · rw [if_pos hk, if_pos hk]
  · rw [if_neg hk, if_neg hk, alL_at _ k (by omega)]
end
/-- The row of ends behind k ticks. -/
def rgV (P : Int) (L : Nat) (s0 : Int) (pend : Nat → Bool) (k j : Nat) : Bool := if j < k then bgF P L (sF P L s0 pend (k - 1 - (k - 1 - j) % L + 1)) else pend j
def rgL (P : Int) (L : Nat) (s0 : Int) (pend : Nat → Bool) (k : Nat) : List Bool := (List.range L).map (rgV P L s0 pend k)
section
variable {P : Int} {L : Nat} {s0 : Int} {pend : Nat → Bool}
theorem rgL_len (k : Nat) : (rgL P L s0 pend k).length = L := by simp [rgL]
theorem rgL_at (k : Nat) {j : Nat} (hj : j < L) : (rgL P L s0 pend k).getD j false = rgV P L s0 pend k j := by
  rw [List.getD_eq_getElem?_getD]
  simp [rgL, hj]
theorem rg_now (hL : 1 ≤ L) (k : Nat) : (rgL P L s0 pend k).getD (k % L) false = eF P L s0 pend k := by
  have hm := Nat.mod_lt k (show 0 < L by omega)
  rw [rgL_at k hm]
  unfold rgV eF
  by_cases hk : k < L
  · rw [Nat.mod_eq_of_lt hk, if_neg (by omega), if_pos hk]
  · have hd := Nat.div_add_mod k L
    have h1 : k % L < k := by omega
    rw [if_pos h1, if_neg hk]
    congr 2
    have hq : 1 ≤ k / L := Nat.div_pos (by omega) (by omega)
    obtain ⟨q, hqq⟩ : ∃ q, k / L = q + 1 := ⟨k / L - 1, by omega⟩
    rw [hqq, Nat.mul_add, Nat.mul_one] at hd
    have e : k - 1 - k % L = (L - 1) + L * q := by omega
    rw [e, Nat.add_mul_mod_self_left, Nat.mod_eq_of_lt (by omega)]
    omega
theorem rg_next (hL : 1 ≤ L) (k : Nat) : (rgL P L s0 pend k).set (k % L) (bgF P L (sF P L s0 pend (k + 1))) = rgL P L s0 pend (k + 1) := by
  have hm := Nat.mod_lt k (show 0 < L by omega)
  apply List.ext_getElem
  · rw [List.length_set, rgL_len, rgL_len]
  · intro j h1 h2
    have hj : j < L := by rw [List.length_set, rgL_len] at h1; exact h1
    have hd := Nat.div_add_mod k L
    rw [List.getElem_set]
    have g2 : (rgL P L s0 pend (k + 1))[j] = rgV P L s0 pend (k + 1) j := by
      have := rgL_at (P := P) (s0 := s0) (pend := pend) (k + 1) hj
      rw [List.getD_eq_getElem?_getD, List.getElem?_eq_getElem h2] at this
      exact this
    rw [g2]
    by_cases e : k % L = j
    · rw [if_pos e]
      unfold rgV
      rw [if_pos (by have := Nat.mod_le k L; omega)]
      congr 2
      have e2 : (k + 1 - 1 - j) % L = 0 := by
        rw [Nat.add_sub_cancel, ← e, show k - k % L = L * (k / L) by omega, Nat.mul_mod_right]
      rw [e2]
      omega
    · rw [if_neg e]
      have h3 : j < (rgL P L s0 pend k).length := by rw [rgL_len]; exact hj
      have g1 : (rgL P L s0 pend k)[j] = rgV P L s0 pend k j := by
        have := rgL_at (P := P) (s0 := s0) (pend := pend) k hj
        rw [List.getD_eq_getElem?_getD, List.getElem?_eq_getElem h3] at this
        exact this
      rw [g1]
      unfold rgV
      by_cases hk : j < k
      · rw [if_pos hk, if_pos (by omega)]
        congr 2
        have h4 : (k - j) % L ≠ 0 := by
          intro h0
          have h5 := Nat.div_add_mod (k - j) L
          rw [h0, Nat.add_zero] at h5
          have h6 : k = j + L * ((k - j) / L) := by omega
          have h7 : k % L = j := by
            rw [h6, Nat.add_mul_mod_self_left, Nat.mod_eq_of_lt hj]
          exact e h7
        have h8 : (k - j) % L = (k - 1 - j) % L + 1 := by
          have h9 := Nat.div_add_mod (k - 1 - j) L
          have h10 := Nat.mod_lt (k - 1 - j) (show 0 < L by omega)
          have h11 : k - j = (k - 1 - j) % L + 1 + L * ((k - 1 - j) / L) := by omega
          by_cases h12 : (k - 1 - j) % L + 1 < L
          · rw [h11, Nat.add_mul_mod_self_left, Nat.mod_eq_of_lt h12]
          · exfalso
            apply h4
            rw [h11, Nat.add_mul_mod_self_left, show (k - 1 - j) % L + 1 = L by omega, Nat.mod_self]
        have h13 := Nat.mod_le (k - 1 - j) L
        rw [show k + 1 - 1 - j = k - j by omega, h8]
        omega
      · rw [if_neg hk, if_neg (by
          intro h4
          have : j = k := by omega
          subst this
          exact e (Nat.mod_eq_of_lt hj))]
end
end Go.Proofs.YtkolhbacgoafcaaGreat

/- The calls rowOf, ends and begin of package beat make, read and turn a row of ends; conditions: the table lies where it says, lengths fit int, the row is a block of its own. -/
namespace Go.Proofs.YtkolhbacgoafcaaGreat
open Go.ChangeShapes Go.WideShapes Go.ChangeAt Go.RowKit
set_option linter.unusedVariables false
attribute [local go_sem] cell_rg

/-- A row of bools that is a block of its own. -/
def bolV (l : List Bool) : Array Value := (l.map Value.bool).toArray
def LBlk (W : World) (g : Nat) (l : List Bool) : Prop := W.heap[g]? = some (.cells (bolV l) 4 (0, 0))
theorem bolV_at (l : List Bool) (i : Nat) (h : i < l.length) : (bolV l)[i]? = some (.bool (l.getD i false)) := by
  rw [List.getD_eq_getElem?_getD, List.getElem?_eq_getElem h, Option.getD_some]
  simp [bolV, h]
theorem bolV_set (l : List Bool) (i : Nat) (b : Bool) : (bolV l).setIfInBounds i (.bool b) = bolV (l.set i b) := by
  apply Array.ext'
  simp only [bolV, Array.toList_setIfInBounds, List.map_set]
theorem bolV_made (n : Nat) : madeCells #[Value.bool false] n = bolV (List.replicate n false) := by
  have h := toList_madeCells_one (Value.bool false) n
  apply Array.ext'
  rw [h]
  simp [bolV]
theorem infoBol : (Tryz.prog.info? 4).map (fun i => (i.zero, i.size, i.bytes)) = some (some (.bool false), 1, 1) := by kernel_rfl
theorem make_bols (n : Nat) (hn : n ≤ 100000) (w : World) : (Instr.makeSlice 46 (.int .i64 (n : Int)) (.int .i64 (n : Int))).run Tryz.prog w = .ok (.slice (some ⟨w.heap.size, 0, none⟩) n n) (w.alloc (.cells (bolV (List.replicate n false)) 4)) := by
  rw [← bolV_made]
  exact run_make_row' 46 4 (.bool false) 1 Tryz.underlying46 infoBol rfl .i64 .i64 n (by omega) (by omega) w
theorem LBlk.lt {W : World} {g : Nat} {l : List Bool} (h : LBlk W g l) : g < W.heap.size := (Array.getElem?_eq_some_iff.1 h).1
theorem LBlk.later {W W' : World} {g : Nat} {l : List Bool} (h : LBlk W g l) (hb : Below W.heap.size W W') : LBlk W' g l := (hb.block g h.lt).trans h
theorem LBlk.cell {W : World} {g : Nat} {l : List Bool} (h : LBlk W g l) (i : Nat) (hi : i < l.length) : W.cell? ⟨g, i, none⟩ = some (.bool (l.getD i false)) := by
  rw [← bolV_at l i hi]
  simp [World.cell?, show W.heap[g]? = _ from h]
theorem LBlk.open {W : World} {g : Nat} {l : List Bool} (h : LBlk W g l) (i : Nat) : W.frozen? ⟨g, i, none⟩ = false := by
  simp [World.frozen?, show W.heap[g]? = _ from h]
theorem LBlk.set {W : World} {g : Nat} {l : List Bool} (h : LBlk W g l) (i : Nat) (b : Bool) : LBlk (W.setCell ⟨g, i, none⟩ (.bool b)) g (l.set i b) := by
  have := heap_setCell_same W g i _ _ (.bool b) h
  rw [bolV_set] at this
  exact this
theorem LBlk.other {W : World} {g : Nat} {l : List Bool} (h : LBlk W g l) (a : Addr) (v : Value) (ha : g ≠ a.block) : LBlk (W.setCell a v) g l := (heap_setCell_other W a g v ha).trans h
/-- What is on its way, byte by byte. -/
def penF (s : ByteArray) (j : Nat) : Bool := if h : j < s.size then ((s[j]'h).toNat : Int) == 49 else false
theorem pen_fill (s : ByteArray) (L M : Nat) (hM : M = L ∨ M = s.size) (hML : M ≤ L) : fillL false L (penF s) M = (List.range L).map (penF s) := by
  unfold fillL
  apply List.map_congr_left
  intro j hj
  have hj := List.mem_range.1 hj
  by_cases h : j < M
  · rw [if_pos h]
  · rw [if_neg h]
    unfold penF
    rw [dif_neg (by omega)]
theorem rg_0 (P : Int) (L : Nat) (s0 : Int) (s : ByteArray) : rgL P L s0 (penF s) 0 = (List.range L).map (penF s) := by
  unfold rgL
  apply List.map_congr_left
  intro j _
  unfold rgV
  rw [if_neg (by omega)]

theorem read2B {w : World} {b : Nat} {z0 z1 : Value} {t : TypeId} (h : w.heap[b]? = some (.cells #[z0, z1] t (0, 0))) (v0 v1 : Value) :
    ((w.setCell ⟨b, 0, none⟩ v0).setCell ⟨b, 1, none⟩ v1).cell? ⟨b, 0, none⟩ = some v0 ∧ ((w.setCell ⟨b, 0, none⟩ v0).setCell ⟨b, 1, none⟩ v1).cell? ⟨b, 1, none⟩ = some v1 := by
  have h1 := heap_setCell_same _ b 0 _ _ v0 h
  have h2 := heap_setCell_same _ b 1 _ _ v1 h1
  constructor <;> (simp only [World.cell?, h2]; rfl)
set_option maxHeartbeats 2000000 in
theorem rowOf_any (n f d p r dr o sl md fr : Int) (ad : Option Addr) (cap : Nat) (zs : List Int) (L : Nat) (s : ByteArray) (hs : s.size ≤ 9223372036854775807) (w : World) (hl : zs.length ≤ 9223372036854775807) (hT : Tab w ad zs) (hL : gate (plainE n f d p r dr o sl md fr zs) (3 * (f + 1) * d) = (L : Int)) (hL60 : L ≤ 60) :
    Calls Tryz.prog 22 #[.agg #[.int .i64 n, .int .i64 f, .int .i64 d, .int .i64 p, .int .i64 r, .int .i64 dr, .int .i64 o, .int .i64 sl, .int .i64 md, .int .i64 fr, .slice ad zs.length cap], .string s] w fun e w' => ∃ g, e = .returned (.agg #[.slice (some ⟨g, 0, none⟩) L L, .int .i64 0]) ∧ LBlk w' g ((List.range L).map (penF s)) ∧ w.heap.size ≤ g ∧ Below w.heap.size w w' := by
  have HB0 := hidden (bthen (ballc w (.cells #[.int .i64 n, .int .i64 f, .int .i64 d, .int .i64 p, .int .i64 r, .int .i64 dr, .int .i64 o, .int .i64 sl, .int .i64 md, .int .i64 fr, .slice ad zs.length cap] 24)) (ballc _ (.cells #[.slice none 0 0, .int .i64 0] 48)))
  have HT := hidden (hT.below HB0.out)
  have CL := hidden (fun V h => Length_any n f d p r dr o sl md fr ad cap zs V hl h)
  rw [hL] at CL
  have HK := hidden (blk_newAt (w.alloc (.cells #[.int .i64 n, .int .i64 f, .int .i64 d, .int .i64 p, .int .i64 r, .int .i64 dr, .int .i64 o, .int .i64 sl, .int .i64 md, .int .i64 fr, .slice ad zs.length cap] 24)) #[.slice none 0 0, .int .i64 0] 48 (b := w.heap.size + 1) (by simp))
  have hmk := fun V => make_bols L (by omega) V
  clear hT hL
  obtain ⟨M, hmn, hML, hMs, hMor⟩ : ∃ M : Nat, min (L : Int) (s.size : Int) = (M : Int) ∧ M ≤ L ∧ M ≤ s.size ∧ (M = L ∨ M = s.size) := ⟨min L s.size, by omega, by omega, by omega, by omega⟩
  have HFL := hidden (pen_fill s L M hMor hML)
  clear hMor
  go_enter Tryz.func22, Tryz.ntmps22
  go_wp2_with fail
  refine (CL.out _ HT.out).mono ?_
  rintro e w2 ⟨rfl, hb⟩
  have HB2 := hidden (bthen HB0.out hb)
  have HK2 := hidden (blk_later HK.out hb)
  clear hb HT HK CL
  have HR2 := hidden (blk_later HK2.out (ballc w2 (.cells (bolV (List.replicate L false)) 4)))
  have HL2 : Hid (LBlk (w2.alloc (.cells (bolV (List.replicate L false)) 4)) w2.heap.size (fillL false L (penF s) 0)) := by
    show LBlk _ _ _
    rw [fillL_0]
    exact blk_nw w2 _ _
  have HB3 := hidden (bthen HB2.out (ballc w2 (.cells (bolV (List.replicate L false)) 4)))
  have hw2 : w.heap.size + 1 < w2.heap.size := blk_lt HK2.out
  clear HK2
  go_wp2
  clear hmk
  generalize w2.alloc (.cells (bolV (List.replicate L false)) 4) = W0 at *
  go_loopw [15] (fun i wr => ∃ k : Nat, k ≤ M ∧ i = .int .i64 k ∧ LBlk wr w2.heap.size (fillL false L (penF s) k) ∧ wr.heap[w.heap.size + 1]? = some (.cells #[.slice none 0 0, .int .i64 0] 48 (0, 0)) ∧ Below w.heap.size w wr) (fun i _ => M - (intV i).toNat)
  case atStart => exact ⟨0, Nat.zero_le _, rfl, HL2.out, HR2.out, HB3.out⟩
  case round =>
    obtain ⟨k, hk, rfl, hX, hR, hB⟩ := hrel
    clear HL2 HR2 HB3
    have HX := hidden hX
    have HR := hidden hR
    have HB := hidden hB
    by_cases hlt : k < M
    · have i1 : (0 : Int) ≤ (k : Int) := by omega
      have i2 : (k : Int) < (M : Int) := by omega
      have i3 : (k : Int) < (L : Int) := by omega
      have hj : k < s.size := by omega
      have i4 : (k : Int) < (s.size : Int) := by omega
      have HS : Hid ((fillL false L (penF s) k).set k (penF s k) = fillL false L (penF s) (k + 1)) := fillL_set false L (penF s) k (by omega)
      have HPN : Hid (penF s k = (((s[k]'hj).toNat : Int) == 49)) := dif_pos hj
      have c0 := hX.cell k (by rw [fillL_len]; omega)
      have f0 := hX.open k
      have l0 := hX.lt
      clear hX hR hB
      generalize (fillL false L (penF s) k).getD k false = y at *
      go_wp2
      have hset := HX.out.set k (penF s k)
      rw [HS.out, HPN.out] at hset
      go_roundw
      case rel => exact ⟨k + 1, by omega, by go_num, hset, (heap_setCell_other _ _ _ _ (by simp; omega)).trans HR.out, HB.out.setCell (p := ⟨w2.heap.size, k, none⟩) (by simp; omega) _⟩
      case measure => simp [intV]; omega
    · obtain rfl : k = M := by omega
      have i2 : ¬ (k : Int) < (k : Int) := by omega
      rw [HFL.out] at hX
      have HX := hidden hX
      have c0 := blk_cell hR
      have f0 := blk_frozen hR
      have l0 := blk_lt hR
      have h2 := hX.lt
      clear hX hR hB
      go_wp2
      obtain ⟨r0, r1⟩ := read2B HR.out (.slice (some ⟨w2.heap.size, 0, none⟩) L L) (.int .i64 0)
      exact bodyPost_ret (v := .agg #[.slice (some ⟨w2.heap.size, 0, none⟩) L L, .int .i64 0]) (by simp [results, Tryz.results22, go_sem, r0, r1]) rfl ⟨w2.heap.size, rfl, (HX.out.other ⟨w.heap.size + 1, 0, none⟩ _ (by simp; omega)).other ⟨w.heap.size + 1, 1, none⟩ _ (by simp; omega), by omega, (HB.out.setCell (p := ⟨w.heap.size + 1, 0, none⟩) (by simp) _).setCell (p := ⟨w.heap.size + 1, 1, none⟩) (by simp) _⟩
end Go.Proofs.YtkolhbacgoafcaaGreat

/- The calls ends, begin and tick of package beat read and turn a row of ends, and what stands around it; conditions: the table lies where it says, the row and what stands around it are blocks of their own. -/
namespace Go.Proofs.YtkolhbacgoafcaaGreat
open Go.ChangeShapes Go.WideShapes Go.ChangeAt Go.RowKit
set_option linter.unusedVariables false
attribute [local go_sem] cell_rg

/-- All but two blocks stays. -/
structure Two2 (b g : Nat) (X Y : World) : Prop where
  os : Y.os = X.os
  tape : Y.tape = X.tape
  output : Y.output = X.output
  size : X.heap.size ≤ Y.heap.size
  block : ∀ k, k < X.heap.size → k ≠ b → k ≠ g → Y.heap[k]? = X.heap[k]?
theorem Two2.of_below {b g : Nat} {X Y : World} (h : Below X.heap.size X Y) : Two2 b g X Y := ⟨h.os, h.tape, h.output, h.size, fun k hk _ _ => h.block k hk⟩
theorem Two2.trans {b g : Nat} {X Y Z : World} (h : Two2 b g X Y) (k : Two2 b g Y Z) : Two2 b g X Z := ⟨k.os.trans h.os, k.tape.trans h.tape, k.output.trans h.output, Nat.le_trans h.size k.size, fun i hi h1 h2 => (k.block i (Nat.lt_of_lt_of_le hi h.size) h1 h2).trans (h.block i hi h1 h2)⟩
theorem Two2.below {b g : Nat} {X Y Z : World} (h : Two2 b g X Y) (k : Below Y.heap.size Y Z) : Two2 b g X Z := h.trans (Two2.of_below k)
theorem Two2.setB {b g : Nat} {X Y : World} (h : Two2 b g X Y) (i : Nat) (v : Value) : Two2 b g X (Y.setCell ⟨b, i, none⟩ v) := ⟨h.os, h.tape, h.output, by simpa using h.size, fun k hk h1 h2 => (heap_setCell_other _ _ _ _ h1).trans (h.block k hk h1 h2)⟩
theorem Two2.setG {b g : Nat} {X Y : World} (h : Two2 b g X Y) (i : Nat) (v : Value) : Two2 b g X (Y.setCell ⟨g, i, none⟩ v) := ⟨h.os, h.tape, h.output, by simpa using h.size, fun k hk h1 h2 => (heap_setCell_other _ _ _ _ h2).trans (h.block k hk h1 h2)⟩
theorem Two2.drew {b g : Nat} {X Y : World} (h : Two2 b g X Y) : Two2 b g X Y.drew := ⟨h.os, h.tape, h.output, h.size, h.block⟩
theorem Two2.refl (b g : Nat) (X : World) : Two2 b g X X := ⟨rfl, rfl, rfl, Nat.le_refl _, fun _ _ _ _ => rfl⟩
theorem Two2.blk {b g k : Nat} {X Y : World} {o : Obj} (h : Two2 b g X Y) (hk : X.heap[k]? = some o) (h1 : k ≠ b) (h2 : k ≠ g) : Y.heap[k]? = some o := (h.block k (blk_lt hk) h1 h2).trans hk
theorem Two2.to_below {b g n : Nat} {X Y : World} (h : Two2 b g X Y) (hb : n ≤ b) (hg : n ≤ g) (hn : n ≤ X.heap.size) : Below n X Y := ⟨h.os, h.tape, h.output, h.size, fun k hk => h.block k (by omega) (by omega) (by omega)⟩

set_option maxHeartbeats 1000000 in
theorem ends_any (B g L now : Nat) (ps : List Bool) (t0 : TypeId) (C : Array Value) (w : World) (hB : w.heap[B]? = some (.cells C t0 (0, 0))) (h0 : C[0]? = some (.slice (some ⟨g, 0, none⟩) L L)) (h1 : C[1]? = some (.int .i64 (now : Int))) (hg : LBlk w g ps) (hL : ps.length = L) (hn : now < L) :
    Calls Tryz.prog 46 #[.pointer (some ⟨B, 0, none⟩)] w fun e w' => e = .returned (.bool (ps.getD now false)) ∧ Below w.heap.size w w' := by
  have c0 : w.cell? ⟨B, 0, none⟩ = some (.slice (some ⟨g, 0, none⟩) L L) := (blk_cell hB 0).trans h0
  have c1 : w.cell? ⟨B, 1, none⟩ = some (.int .i64 (now : Int)) := (blk_cell hB 1).trans h1
  have c2 := hg.cell now (by omega)
  have i1 : (0 : Int) ≤ (now : Int) := by omega
  have i2 : (now : Int) < (L : Int) := by omega
  clear hB h0 h1 hg hL
  generalize ps.getD now false = b at *
  go_enter Tryz.func46, Tryz.ntmps46
  go_wp2
  go_region
  all_goals
    go_wp2
    go_ret
    exact ⟨rfl, (Below.refl _ _).drew⟩
set_option maxHeartbeats 1000000 in
theorem begin_any (B g L now : Nat) (hBg : B ≠ g) (bit : Int) (ps : List Bool) (t0 : TypeId) (C : Array Value) (w : World) (hB : w.heap[B]? = some (.cells C t0 (0, 0))) (h0 : C[0]? = some (.slice (some ⟨g, 0, none⟩) L L)) (h1 : C[1]? = some (.int .i64 (now : Int))) (hg : LBlk w g ps) (hL : ps.length = L) (hL60 : L ≤ 60) (hn : now < L) :
    Calls Tryz.prog 47 #[.pointer (some ⟨B, 0, none⟩), .int .i64 bit] w fun e w' => e = .returned (.tuple #[]) ∧ w'.heap[B]? = some (.cells (C.setIfInBounds 1 (.int .i64 (((now + 1) % L : Nat) : Int))) t0 (0, 0)) ∧ LBlk w' g (ps.set now (bit == 1)) ∧ Two2 B g w w' := by
  have c0 : w.cell? ⟨B, 0, none⟩ = some (.slice (some ⟨g, 0, none⟩) L L) := (blk_cell hB 0).trans h0
  have c1 : w.cell? ⟨B, 1, none⟩ = some (.int .i64 (now : Int)) := (blk_cell hB 1).trans h1
  have f1 := blk_frozen hB 1
  have lB := blk_lt hB
  have c2 := hg.cell now (by omega)
  have f2 := hg.open now
  have lg := hg.lt
  have i1 : (0 : Int) ≤ (now : Int) := by omega
  have i2 : (now : Int) < (L : Int) := by omega
  have i3 : ¬ (L : Int) = 0 := by omega
  have i4 : (0 : Int) < (L : Int) := by omega
  have t1 : IntKind.i64.wrap ((now : Int) + 1) = (now : Int) + 1 := IntWalk.i64_in _ (by omega)
  have t2 : ((now : Int) + 1).tmod (L : Int) = (((now + 1) % L : Nat) : Int) := by
    rw [Int.tmod_eq_emod_of_nonneg (by omega)]
    simp
  have t3 : IntKind.i64.wrap ((((now + 1) % L : Nat) : Int)) = (((now + 1) % L : Nat) : Int) := IntWalk.i64_in _ (by have := Nat.mod_lt (now + 1) (show 0 < L by omega); omega)
  have HB := hidden hB
  have HG := hidden hg
  clear hB h0 h1 hg hL
  generalize ps.getD now false = b at *
  generalize hnx : (now + 1) % L = nx at *
  clear hnx
  go_enter Tryz.func47, Tryz.ntmps47
  go_wp2
  go_region
  go_wp2
  go_region
  go_wp2
  have hb1 := heap_setCell_same (w.setCell ⟨g, now, none⟩ (.bool (bit == 1))) B 1 C t0 (.int .i64 (nx : Int)) ((heap_setCell_other _ _ _ _ hBg).trans HB.out)
  have hg1 := (HG.out.set now (bit == 1)).other ⟨B, 1, none⟩ (.int .i64 (nx : Int)) (fun e => hBg e.symm)
  refine bodyPost_end (results_none rfl _ _ _) rfl ⟨rfl, hb1, hg1, ((((Two2.refl B g w).setG now (.bool (bit == 1))).setB 1 (.int .i64 (nx : Int))).drew).drew⟩
/-- A pulse that goes on by itself, in memory. -/
def betC (L g now : Nat) (n f d p r dr o sl md fr : Int) (ad : Option Addr) (cap : Nat) (zs : List Int) (s : Int) : Array Value := #[.slice (some ⟨g, 0, none⟩) L L, .int .i64 (now : Int), .int .i64 n, .int .i64 f, .int .i64 d, .int .i64 p, .int .i64 r, .int .i64 dr, .int .i64 o, .int .i64 sl, .int .i64 md, .int .i64 fr, .slice ad zs.length cap, .int .i64 s]
theorem bit_one {P L s : Int} : (bitI 0 P L s == 1) = bgF P L s := by
  unfold bitI
  rw [if_pos rfl]
  cases h : bgF P L s <;> simp

set_option maxRecDepth 100000 in
set_option maxHeartbeats 4000000 in
theorem tick_any (n f d p r dr o sl md fr : Int) (ad : Option Addr) (cap : Nat) (zs : List Int) (B g L now : Nat) (hBg : B ≠ g) (s : Int) (ps : List Bool) (w : World) (hl : zs.length ≤ 9223372036854775807) (hT : Tab w ad zs) (hE : plainE n f d p r dr o sl md fr zs = 0) (hLL : gate (plainE n f d p r dr o sl md fr zs) (3 * (f + 1) * d) = (L : Int)) (hL60 : L ≤ 60) (hs : -9223372036854775808 ≤ s ∧ s ≤ 9223372036854775807) (n0 : Nat) (hT0 : ∀ V, Below n0 w V → Tab V ad zs) (hn0 : n0 ≤ B ∧ n0 ≤ g)
    (hB : w.heap[B]? = some (.cells (betC L g now n f d p r dr o sl md fr ad cap zs s) 51 (0, 0))) (hg : LBlk w g ps) (hL : ps.length = L) (hn : now < L) :
    Calls Tryz.prog 23 #[.pointer (some ⟨B, 0, none⟩)] w fun e w' => e = .returned (.bool (ps.getD now false)) ∧ w'.heap[B]? = some (.cells (betC L g ((now + 1) % L) n f d p r dr o sl md fr ad cap zs (nxF p s (ps.getD now false))) 51 (0, 0)) ∧ LBlk w' g (ps.set now (bgF p L (nxF p s (ps.getD now false)))) ∧ Two2 B g w w' := by
  have CE := hidden (ends_any B g L now ps 51 _ w hB rfl rfl hg hL hn)
  have hp4 : p ≤ 400 := by obtain ⟨_, _, _, _, _, _, _, _, hp2, _⟩ := plainE_ok hE; exact hp2
  generalize ps.getD now false = e1 at *
  have CN := hidden (fun V h => BNext_any n f d p r dr o sl md fr ad cap zs s 0 e1 V hl h hs (by decide))
  have hsb := nxt1_bd (E := 0) (P := p) (b := e1) hs.2 (by omega)
  have hnx : Hid (nxt1 0 p s e1 = nxF p s e1) := if_pos rfl
  have CB := hidden (fun V h => BBit_any n f d p r dr o sl md fr ad cap zs L (nxt1 0 p s e1) V hl h hLL hL60 hsb)
  rw [hE] at CN CB
  rw [hnx.out] at CN CB
  have hbo := hidden (bit_one (P := p) (L := (L : Int)) (s := nxF p s e1))
  have CG := hidden (fun V h1 h2 => begin_any B g L now hBg (bitI 0 p L (nxF p s e1)) ps 51 (betC L g now n f d p r dr o sl md fr ad cap zs (nxF p s e1)) V h1 rfl rfl h2 hL hL60 hn)
  rw [hbo.out] at CG
  have HB := hidden hB
  have HG := hidden hg
  have HT0 := hidden hT0
  clear hbo hnx hsb hE hLL hT hT0
  generalize nxF p s e1 = s2 at *
  generalize bitI 0 p L s2 = bi at *
  generalize bgF p L s2 = bo at *
  generalize nxt2 0 p s 0 e1 = q2 at *
  go_enter Tryz.func23, Tryz.ntmps23
  go_wp2_with fail
  refine CE.out.mono ?_
  rintro e w2 ⟨rfl, hb⟩
  have HB2 := hidden (blk_later HB.out hb)
  have HG2 := hidden (HG.out.later hb)
  have HW2 := hidden hb
  have c0 := blk_cell HB2.out
  have f0 := blk_frozen HB2.out
  have l0 := blk_lt HB2.out
  have hB0 := blk_lt HB.out
  clear hb CE
  unfold betC at c0
  go_wp2
  have HD2 := hidden (show w2.drew.heap[B]? = _ from HB2.out)
  have HGD := hidden (show LBlk w2.drew g ps from HG2.out)
  have HW2t := hidden ((Two2.of_below HW2.out : Two2 B g w w2).drew)
  have HV2 := hidden (HW2t.out.to_below hn0.1 hn0.2 (show n0 ≤ w.heap.size by omega))
  have HD2 := hidden (show w2.drew.heap[B]? = _ from HB2.out)
  have HGD := hidden (show LBlk w2.drew g ps from HG2.out)
  have HW2t := hidden ((Two2.of_below HW2.out : Two2 B g w w2).drew)
  have HV2 := hidden (HW2t.out.to_below hn0.1 hn0.2 (show n0 ≤ w.heap.size by omega))
  have HD2 := hidden (show w2.drew.heap[B]? = _ from HB2.out)
  have HGD := hidden (show LBlk w2.drew g ps from HG2.out)
  have HW2t := hidden ((Two2.of_below HW2.out : Two2 B g w w2).drew)
  have HV2 := hidden (HW2t.out.to_below hn0.1 hn0.2 (show n0 ≤ w.heap.size by omega))
  have HD2 := hidden (show w2.drew.heap[B]? = _ from HB2.out)
  have HGD := hidden (show LBlk w2.drew g ps from HG2.out)
  have HW2t := hidden ((Two2.of_below HW2.out : Two2 B g w w2).drew)
  have HV2 := hidden (HW2t.out.to_below hn0.1 hn0.2 (show n0 ≤ w.heap.size by omega))
  have hmix : Tryz.prog.follows .mixedOrders = true := by kernel_rfl
  refine wp_region_any hmix ?_
  change wpAny _ _ _ _ _ _ _ w2.drew
  refine wpAny_take (i := 0) (v := .pointer (some ⟨B, 0, none⟩)) rfl (by kernel_rfl) (by kernel_rfl) (by kernel_rfl) (fun _ _ _ h => h) (Or.inl ⟨by rfl, fun X => by go_simp⟩) ?_
  refine wpAny_take (i := 1) (v := .pointer (some ⟨B, 0, none⟩)) rfl (by kernel_rfl) (by kernel_rfl) (by kernel_rfl) (fun _ _ _ h => h) (Or.inl ⟨by rfl, fun X => by go_simp⟩) ?_
  refine wpAny_take (i := 2) (v := .pointer (some ⟨B, 0, none⟩)) rfl (by kernel_rfl) (by kernel_rfl) (by kernel_rfl) (fun _ _ _ h => h) (Or.inl ⟨by rfl, fun X => by go_simp⟩) ?_
  refine wpAny_take (i := 3) (v := .pointer (some ⟨B, 2, none⟩)) rfl (by kernel_rfl) (by kernel_rfl) (by kernel_rfl) (fun _ _ _ h => h) (Or.inl ⟨by rfl, fun X => by go_simp⟩) ?_
  refine wpAny_take (i := 5) (v := .pointer (some ⟨B, 0, none⟩)) rfl (by kernel_rfl) (by kernel_rfl) (by kernel_rfl) (fun _ _ _ h => h) (Or.inl ⟨by rfl, fun X => by go_simp⟩) ?_
  refine wpAny_take (i := 6) (v := .pointer (some ⟨B, 0, none⟩)) rfl (by kernel_rfl) (by kernel_rfl) (by kernel_rfl) (fun _ _ _ h => h) (Or.inl ⟨by rfl, fun X => by go_simp⟩) ?_
  refine wpAny_take (i := 7) (v := .pointer (some ⟨B, 13, none⟩)) rfl (by kernel_rfl) (by kernel_rfl) (by kernel_rfl) (fun _ _ _ h => h) (Or.inl ⟨by rfl, fun X => by go_simp⟩) ?_
  refine wpAny_take (i := 9) (v := .bool e1) rfl (by kernel_rfl) (by kernel_rfl) (by kernel_rfl) (fun _ _ _ h => h) (Or.inl ⟨by rfl, fun X => by go_simp⟩) ?_
  refine wpAny_ready (rs := [4, 8]) (by kernel_rfl) (by simp) ?_
  refine AllReady.cons rfl (fun K hK => ?_) ?_
  · rw [if_pos (by rfl)]
    go_simp
    refine hK _ _ ?_
    clear hK K
    refine wpAny_ready (rs := [8]) (by kernel_rfl) (by simp) ?_
    refine AllReady.cons rfl (fun K hK => ?_) AllReady.nil
    rw [if_pos (by rfl)]
    go_simp
    refine hK _ _ ?_
    clear hK K c0 f0
    refine wpAny_ready (rs := [10]) (by kernel_rfl) (by simp) ?_
    refine AllReady.cons rfl (fun K hK => ?_) AllReady.nil
    rw [if_pos (by rfl)]
    go_simp
    refine (CN.out _ (HT0.out _ HV2.out)).mono ?_
    rintro e w3 ⟨rfl, hb3⟩
    refine hK _ _ ?_
    clear hK K
    refine wpAny_take (i := 11) (v := .tuple #[.int .i64 s2, .int .i64 q2]) rfl (by kernel_rfl) (by kernel_rfl) (by kernel_rfl) (fun _ _ _ h => h) (Or.inl ⟨by rfl, fun X => by go_simp⟩) ?_
    refine wpAny_take (i := 12) (v := .int .i64 s2) rfl (by kernel_rfl) (by kernel_rfl) (by kernel_rfl) (fun _ _ _ h => h) (Or.inl ⟨by rfl, fun X => by go_simp⟩) ?_
    refine wpAny_take (i := 13) (v := .int .i64 q2) rfl (by kernel_rfl) (by kernel_rfl) (by kernel_rfl) (fun _ _ _ h => h) (Or.inl ⟨by rfl, fun X => by go_simp⟩) ?_
    refine wpAny_take (i := 14) (v := .pointer (some ⟨B, 0, none⟩)) rfl (by kernel_rfl) (by kernel_rfl) (by kernel_rfl) (fun _ _ _ h => h) (Or.inl ⟨by rfl, fun X => by go_simp⟩) ?_
    refine wpAny_take (i := 15) (v := .pointer (some ⟨B, 13, none⟩)) rfl (by kernel_rfl) (by kernel_rfl) (by kernel_rfl) (fun _ _ _ h => h) (Or.inl ⟨by rfl, fun X => by go_simp⟩) ?_
    refine wpAny_ready (rs := [16]) (by kernel_rfl) (by simp) ?_
    have c0 := blk_cell (blk_later HD2.out hb3)
    have f0 := blk_frozen (blk_later HD2.out hb3)
    refine AllReady.cons rfl (fun K hK => ?_) AllReady.nil
    rw [if_pos (by rfl)]
    go_simp
    refine hK _ _ ?_
    clear hK K
    refine wpAny_done (by kernel_rfl) ?_ _
    clear c0 f0
    have HB4 := hidden (show (w3.setCell ⟨B, 13, none⟩ (.int .i64 s2)).drew.heap[B]? = some (.cells (betC L g now n f d p r dr o sl md fr ad cap zs s2) 51 (0, 0)) from heap_setCell_same w3 B 13 _ _ (.int .i64 s2) (blk_later HD2.out hb3))
    have HG4 := hidden (show LBlk (w3.setCell ⟨B, 13, none⟩ (.int .i64 s2)).drew g ps from (HGD.out.later hb3).other ⟨B, 13, none⟩ (.int .i64 s2) (fun e => hBg e.symm))
    have HW4 := (((HW2t.out.below hb3).setB 13 (.int .i64 s2))).drew
    have HV4 := hidden (HW4.to_below hn0.1 hn0.2 (show n0 ≤ w.heap.size by omega))
    have c0 := blk_cell HB4.out
    have f0 := blk_frozen HB4.out
    unfold betC at c0
    clear hb3
    go_wp2
    refine wp_region_any hmix ?_
    change wpAny _ _ _ _ _ _ _ (w3.setCell ⟨B, 13, none⟩ (.int .i64 s2)).drew
    generalize (w3.setCell ⟨B, 13, none⟩ (.int .i64 s2)).drew = w4 at *
    refine wpAny_take (i := 0) (v := .pointer (some ⟨B, 0, none⟩)) rfl (by kernel_rfl) (by kernel_rfl) (by kernel_rfl) (fun _ _ _ h => h) (Or.inl ⟨by rfl, fun X => by go_simp⟩) ?_
    refine wpAny_take (i := 1) (v := .pointer (some ⟨B, 0, none⟩)) rfl (by kernel_rfl) (by kernel_rfl) (by kernel_rfl) (fun _ _ _ h => h) (Or.inl ⟨by rfl, fun X => by go_simp⟩) ?_
    refine wpAny_take (i := 2) (v := .pointer (some ⟨B, 0, none⟩)) rfl (by kernel_rfl) (by kernel_rfl) (by kernel_rfl) (fun _ _ _ h => h) (Or.inl ⟨by rfl, fun X => by go_simp⟩) ?_
    refine wpAny_take (i := 3) (v := .pointer (some ⟨B, 0, none⟩)) rfl (by kernel_rfl) (by kernel_rfl) (by kernel_rfl) (fun _ _ _ h => h) (Or.inl ⟨by rfl, fun X => by go_simp⟩) ?_
    refine wpAny_take (i := 4) (v := .pointer (some ⟨B, 0, none⟩)) rfl (by kernel_rfl) (by kernel_rfl) (by kernel_rfl) (fun _ _ _ h => h) (Or.inl ⟨by rfl, fun X => by go_simp⟩) ?_
    refine wpAny_take (i := 5) (v := .pointer (some ⟨B, 2, none⟩)) rfl (by kernel_rfl) (by kernel_rfl) (by kernel_rfl) (fun _ _ _ h => h) (Or.inl ⟨by rfl, fun X => by go_simp⟩) ?_
    refine wpAny_take (i := 7) (v := .pointer (some ⟨B, 0, none⟩)) rfl (by kernel_rfl) (by kernel_rfl) (by kernel_rfl) (fun _ _ _ h => h) (Or.inl ⟨by rfl, fun X => by go_simp⟩) ?_
    refine wpAny_take (i := 8) (v := .pointer (some ⟨B, 0, none⟩)) rfl (by kernel_rfl) (by kernel_rfl) (by kernel_rfl) (fun _ _ _ h => h) (Or.inl ⟨by rfl, fun X => by go_simp⟩) ?_
    refine wpAny_take (i := 9) (v := .pointer (some ⟨B, 13, none⟩)) rfl (by kernel_rfl) (by kernel_rfl) (by kernel_rfl) (fun _ _ _ h => h) (Or.inl ⟨by rfl, fun X => by go_simp⟩) ?_
    refine wpAny_ready (rs := [6, 10]) (by kernel_rfl) (by simp) ?_
    refine AllReady.cons rfl (fun K hK => ?_) ?_
    · rw [if_pos (by rfl)]
      go_simp
      refine hK _ _ ?_
      clear hK K
      refine wpAny_ready (rs := [10]) (by kernel_rfl) (by simp) ?_
      refine AllReady.cons rfl (fun K hK => ?_) AllReady.nil
      rw [if_pos (by rfl)]
      go_simp
      refine hK _ _ ?_
      clear hK K c0 f0
      refine wpAny_ready (rs := [11]) (by kernel_rfl) (by simp) ?_
      refine AllReady.cons rfl (fun K hK => ?_) AllReady.nil
      rw [if_pos (by rfl)]
      go_simp
      refine (CB.out _ (HT0.out _ HV4.out)).mono ?_
      rintro e w5 ⟨rfl, hb5⟩
      refine hK _ _ ?_
      clear hK K
      refine wpAny_ready (rs := [12]) (by kernel_rfl) (by simp) ?_
      refine AllReady.cons rfl (fun K hK => ?_) AllReady.nil
      rw [if_pos (by rfl)]
      go_simp
      refine (CG.out _ (blk_later HB4.out hb5) (HG4.out.later hb5)).mono ?_
      rintro e w6 ⟨rfl, q1, q2, q3⟩
      have HF := hidden (And.intro q1 (And.intro q2 ((HW4.below hb5).trans q3)))
      clear q1 q2 q3 hb5
      refine hK _ _ ?_
      clear hK K
      refine wpAny_done (by kernel_rfl) ?_ _
      go_wp2
      go_ret
      exact ⟨rfl, HF.out⟩
    · refine AllReady.cons rfl (fun K hK => ?_) AllReady.nil
      rw [if_pos (by rfl)]
      go_simp
      refine hK _ _ ?_
      clear hK K
      refine wpAny_ready (rs := [6]) (by kernel_rfl) (by simp) ?_
      refine AllReady.cons rfl (fun K hK => ?_) AllReady.nil
      rw [if_pos (by rfl)]
      go_simp
      refine hK _ _ ?_
      clear hK K c0 f0
      refine wpAny_ready (rs := [11]) (by kernel_rfl) (by simp) ?_
      refine AllReady.cons rfl (fun K hK => ?_) AllReady.nil
      rw [if_pos (by rfl)]
      go_simp
      refine (CB.out _ (HT0.out _ HV4.out)).mono ?_
      rintro e w5 ⟨rfl, hb5⟩
      refine hK _ _ ?_
      clear hK K
      refine wpAny_ready (rs := [12]) (by kernel_rfl) (by simp) ?_
      refine AllReady.cons rfl (fun K hK => ?_) AllReady.nil
      rw [if_pos (by rfl)]
      go_simp
      refine (CG.out _ (blk_later HB4.out hb5) (HG4.out.later hb5)).mono ?_
      rintro e w6 ⟨rfl, q1, q2, q3⟩
      have HF := hidden (And.intro q1 (And.intro q2 ((HW4.below hb5).trans q3)))
      clear q1 q2 q3 hb5
      refine hK _ _ ?_
      clear hK K
      refine wpAny_done (by kernel_rfl) ?_ _
      go_wp2
      go_ret
      exact ⟨rfl, HF.out⟩
  · refine AllReady.cons rfl (fun K hK => ?_) AllReady.nil
    rw [if_pos (by rfl)]
    go_simp
    refine hK _ _ ?_
    clear hK K
    refine wpAny_ready (rs := [4]) (by kernel_rfl) (by simp) ?_
    refine AllReady.cons rfl (fun K hK => ?_) AllReady.nil
    rw [if_pos (by rfl)]
    go_simp
    refine hK _ _ ?_
    clear hK K c0 f0
    refine wpAny_ready (rs := [10]) (by kernel_rfl) (by simp) ?_
    refine AllReady.cons rfl (fun K hK => ?_) AllReady.nil
    rw [if_pos (by rfl)]
    go_simp
    refine (CN.out _ (HT0.out _ HV2.out)).mono ?_
    rintro e w3 ⟨rfl, hb3⟩
    refine hK _ _ ?_
    clear hK K
    refine wpAny_take (i := 11) (v := .tuple #[.int .i64 s2, .int .i64 q2]) rfl (by kernel_rfl) (by kernel_rfl) (by kernel_rfl) (fun _ _ _ h => h) (Or.inl ⟨by rfl, fun X => by go_simp⟩) ?_
    refine wpAny_take (i := 12) (v := .int .i64 s2) rfl (by kernel_rfl) (by kernel_rfl) (by kernel_rfl) (fun _ _ _ h => h) (Or.inl ⟨by rfl, fun X => by go_simp⟩) ?_
    refine wpAny_take (i := 13) (v := .int .i64 q2) rfl (by kernel_rfl) (by kernel_rfl) (by kernel_rfl) (fun _ _ _ h => h) (Or.inl ⟨by rfl, fun X => by go_simp⟩) ?_
    refine wpAny_take (i := 14) (v := .pointer (some ⟨B, 0, none⟩)) rfl (by kernel_rfl) (by kernel_rfl) (by kernel_rfl) (fun _ _ _ h => h) (Or.inl ⟨by rfl, fun X => by go_simp⟩) ?_
    refine wpAny_take (i := 15) (v := .pointer (some ⟨B, 13, none⟩)) rfl (by kernel_rfl) (by kernel_rfl) (by kernel_rfl) (fun _ _ _ h => h) (Or.inl ⟨by rfl, fun X => by go_simp⟩) ?_
    refine wpAny_ready (rs := [16]) (by kernel_rfl) (by simp) ?_
    have c0 := blk_cell (blk_later HD2.out hb3)
    have f0 := blk_frozen (blk_later HD2.out hb3)
    refine AllReady.cons rfl (fun K hK => ?_) AllReady.nil
    rw [if_pos (by rfl)]
    go_simp
    refine hK _ _ ?_
    clear hK K
    refine wpAny_done (by kernel_rfl) ?_ _
    clear c0 f0
    have HB4 := hidden (show (w3.setCell ⟨B, 13, none⟩ (.int .i64 s2)).drew.heap[B]? = some (.cells (betC L g now n f d p r dr o sl md fr ad cap zs s2) 51 (0, 0)) from heap_setCell_same w3 B 13 _ _ (.int .i64 s2) (blk_later HD2.out hb3))
    have HG4 := hidden (show LBlk (w3.setCell ⟨B, 13, none⟩ (.int .i64 s2)).drew g ps from (HGD.out.later hb3).other ⟨B, 13, none⟩ (.int .i64 s2) (fun e => hBg e.symm))
    have HW4 := (((HW2t.out.below hb3).setB 13 (.int .i64 s2))).drew
    have HV4 := hidden (HW4.to_below hn0.1 hn0.2 (show n0 ≤ w.heap.size by omega))
    have c0 := blk_cell HB4.out
    have f0 := blk_frozen HB4.out
    unfold betC at c0
    clear hb3
    go_wp2
    refine wp_region_any hmix ?_
    change wpAny _ _ _ _ _ _ _ (w3.setCell ⟨B, 13, none⟩ (.int .i64 s2)).drew
    generalize (w3.setCell ⟨B, 13, none⟩ (.int .i64 s2)).drew = w4 at *
    refine wpAny_take (i := 0) (v := .pointer (some ⟨B, 0, none⟩)) rfl (by kernel_rfl) (by kernel_rfl) (by kernel_rfl) (fun _ _ _ h => h) (Or.inl ⟨by rfl, fun X => by go_simp⟩) ?_
    refine wpAny_take (i := 1) (v := .pointer (some ⟨B, 0, none⟩)) rfl (by kernel_rfl) (by kernel_rfl) (by kernel_rfl) (fun _ _ _ h => h) (Or.inl ⟨by rfl, fun X => by go_simp⟩) ?_
    refine wpAny_take (i := 2) (v := .pointer (some ⟨B, 0, none⟩)) rfl (by kernel_rfl) (by kernel_rfl) (by kernel_rfl) (fun _ _ _ h => h) (Or.inl ⟨by rfl, fun X => by go_simp⟩) ?_
    refine wpAny_take (i := 3) (v := .pointer (some ⟨B, 0, none⟩)) rfl (by kernel_rfl) (by kernel_rfl) (by kernel_rfl) (fun _ _ _ h => h) (Or.inl ⟨by rfl, fun X => by go_simp⟩) ?_
    refine wpAny_take (i := 4) (v := .pointer (some ⟨B, 0, none⟩)) rfl (by kernel_rfl) (by kernel_rfl) (by kernel_rfl) (fun _ _ _ h => h) (Or.inl ⟨by rfl, fun X => by go_simp⟩) ?_
    refine wpAny_take (i := 5) (v := .pointer (some ⟨B, 2, none⟩)) rfl (by kernel_rfl) (by kernel_rfl) (by kernel_rfl) (fun _ _ _ h => h) (Or.inl ⟨by rfl, fun X => by go_simp⟩) ?_
    refine wpAny_take (i := 7) (v := .pointer (some ⟨B, 0, none⟩)) rfl (by kernel_rfl) (by kernel_rfl) (by kernel_rfl) (fun _ _ _ h => h) (Or.inl ⟨by rfl, fun X => by go_simp⟩) ?_
    refine wpAny_take (i := 8) (v := .pointer (some ⟨B, 0, none⟩)) rfl (by kernel_rfl) (by kernel_rfl) (by kernel_rfl) (fun _ _ _ h => h) (Or.inl ⟨by rfl, fun X => by go_simp⟩) ?_
    refine wpAny_take (i := 9) (v := .pointer (some ⟨B, 13, none⟩)) rfl (by kernel_rfl) (by kernel_rfl) (by kernel_rfl) (fun _ _ _ h => h) (Or.inl ⟨by rfl, fun X => by go_simp⟩) ?_
    refine wpAny_ready (rs := [6, 10]) (by kernel_rfl) (by simp) ?_
    refine AllReady.cons rfl (fun K hK => ?_) ?_
    · rw [if_pos (by rfl)]
      go_simp
      refine hK _ _ ?_
      clear hK K
      refine wpAny_ready (rs := [10]) (by kernel_rfl) (by simp) ?_
      refine AllReady.cons rfl (fun K hK => ?_) AllReady.nil
      rw [if_pos (by rfl)]
      go_simp
      refine hK _ _ ?_
      clear hK K c0 f0
      refine wpAny_ready (rs := [11]) (by kernel_rfl) (by simp) ?_
      refine AllReady.cons rfl (fun K hK => ?_) AllReady.nil
      rw [if_pos (by rfl)]
      go_simp
      refine (CB.out _ (HT0.out _ HV4.out)).mono ?_
      rintro e w5 ⟨rfl, hb5⟩
      refine hK _ _ ?_
      clear hK K
      refine wpAny_ready (rs := [12]) (by kernel_rfl) (by simp) ?_
      refine AllReady.cons rfl (fun K hK => ?_) AllReady.nil
      rw [if_pos (by rfl)]
      go_simp
      refine (CG.out _ (blk_later HB4.out hb5) (HG4.out.later hb5)).mono ?_
      rintro e w6 ⟨rfl, q1, q2, q3⟩
      have HF := hidden (And.intro q1 (And.intro q2 ((HW4.below hb5).trans q3)))
      clear q1 q2 q3 hb5
      refine hK _ _ ?_
      clear hK K
      refine wpAny_done (by kernel_rfl) ?_ _
      go_wp2
      go_ret
      exact ⟨rfl, HF.out⟩
    · refine AllReady.cons rfl (fun K hK => ?_) AllReady.nil
      rw [if_pos (by rfl)]
      go_simp
      refine hK _ _ ?_
      clear hK K
      refine wpAny_ready (rs := [6]) (by kernel_rfl) (by simp) ?_
      refine AllReady.cons rfl (fun K hK => ?_) AllReady.nil
      rw [if_pos (by rfl)]
      go_simp
      refine hK _ _ ?_
      clear hK K c0 f0
      refine wpAny_ready (rs := [11]) (by kernel_rfl) (by simp) ?_
      refine AllReady.cons rfl (fun K hK => ?_) AllReady.nil
      rw [if_pos (by rfl)]
      go_simp
      refine (CB.out _ (HT0.out _ HV4.out)).mono ?_
      rintro e w5 ⟨rfl, hb5⟩
      refine hK _ _ ?_
      clear hK K
      refine wpAny_ready (rs := [12]) (by kernel_rfl) (by simp) ?_
      refine AllReady.cons rfl (fun K hK => ?_) AllReady.nil
      rw [if_pos (by rfl)]
      go_simp
      refine (CG.out _ (blk_later HB4.out hb5) (HG4.out.later hb5)).mono ?_
      rintro e w6 ⟨rfl, q1, q2, q3⟩
      have HF := hidden (And.intro q1 (And.intro q2 ((HW4.below hb5).trans q3)))
      clear q1 q2 q3 hb5
      refine hK _ _ ?_
      clear hK K
      refine wpAny_done (by kernel_rfl) ?_ _
      go_wp2
      go_ret
      exact ⟨rfl, HF.out⟩
end Go.Proofs.YtkolhbacgoafcaaGreat

/- Laws on operations of regions whose order is drawn, at whole rows: a load of a struct that lies in a block, a store of a struct into its block; no conditions. -/
namespace Go.Proofs.YtkolhbacgoafcaaGreat
open Go.ChangeShapes Go.WideShapes Go.ChangeAt Go.RowKit
set_option linter.unusedVariables false

/-- A load of a struct that lies in a block, in every world that meets S. -/
theorem yieldsIf_load_row {P : Program} {ops : Array Oper} {S : World → Prop} {op : Oper} {a : Act} (hw : Region.wanted op (yielded ops a.tmps) = true) (ty : TypeId) (x : Operand) (ho : op.op = .load ty x)
    (g : Nat) (hx : a.eval x = .pointer (some ⟨g, 0, none⟩)) (t : TypeId) (cs : Array Value) (fr : Nat × Nat) (d : TypeDesc) (hS : ∀ w, S w → w.heap[g]? = some (.cells cs t fr))
    (hu : P.underlying ty = some d) (hd : (match d with | .struct _ | .array _ _ => true | _ => false) = true) (hi : (P.info? ty).map (·.size) = some cs.size) : YieldsIf P ops S op (.agg cs) a :=
  .inl ⟨hw, fun w hw' => by
    unfold execOp
    simp only [ho, hx, Instr.loadAt, Instr.sureAddr, Sem.run_bind, Sem.run_pure, Result.andThen_ok, run_loadVar_row w g t ty cs fr d (hS w hw') hu hd hi]⟩
theorem yieldsIf_move {P : Program} {ops : Array Oper} {S : World → Prop} {op : Oper} {a : Act} (hw : Region.wanted op (yielded ops a.tmps) = true) (x : Operand) (ho : op.op = .move x) {v : Value} (hx : a.eval x = v) : YieldsIf P ops S op v a :=
  .inl ⟨hw, fun w hw' => by
    unfold execOp
    simp only [ho, hx]
    rfl⟩
theorem yieldsIf_build {P : Program} {ops : Array Oper} {S : World → Prop} {op : Oper} {a : Act} (hw : Region.wanted op (yielded ops a.tmps) = true) {v : Value} (h : ∀ w, (execOp a.eval op).run P w = .ok (.value v) w) : YieldsIf P ops S op v a := .inl ⟨hw, fun w _ => h w⟩
theorem Chn.row {n g : Nat} {w w' : World} (h : Chn n w w') (hg : n ≤ g) (cs : Array Value) : Chn n w (w'.setRow g cs) := ⟨below_setRow h.1 hg cs, by rw [size_setRow]; exact h.2⟩
theorem row_same {w : World} {g : Nat} {old : Array Value} {t : TypeId} {fr : Nat × Nat} (h : w.heap[g]? = some (.cells old t fr)) (cs : Array Value) : (w.setRow g cs).heap[g]? = some (.cells cs t fr) := setRow_heap w g old cs t fr h
theorem row_other {w : World} {g k : Nat} {o : Obj} (h : w.heap[k]? = some o) (hk : k ≠ g) (cs : Array Value) : (w.setRow g cs).heap[k]? = some o := (setRow_other w g k cs hk).trans h
theorem blk_ne {w : World} {g k : Nat} {A B : Array Value} {t u : TypeId} {p q : Nat × Nat} (h : w.heap[g]? = some (.cells A t p)) (k' : w.heap[k]? = some (.cells B u q)) (ht : t ≠ u) : g ≠ k := by
  intro e
  subst e
  rw [h] at k'
  simp at k'
  exact ht k'.2.1
end Go.Proofs.YtkolhbacgoafcaaGreat

/- The call Alone of package beat returns the digits that plain functions give, and makes at most new memory; conditions: the table lies where it says, lengths fit int. -/
namespace Go.Proofs.YtkolhbacgoafcaaGreat
open Go.ChangeShapes Go.WideShapes Go.ChangeAt Go.RowKit
set_option linter.unusedVariables false
set_option linter.unusedSimpArgs false
attribute [local go_sem] cell_rg

theorem sF_bd {P : Int} {L : Nat} {s0 : Int} {pend : Nat → Bool} (hL : 1 ≤ L) (h0 : -9223372036854775808 ≤ s0 ∧ s0 ≤ 9223372036854775807) (hP : 0 ≤ P ∧ P ≤ 400) : ∀ k, -9223372036854775808 ≤ sF P L s0 pend k ∧ sF P L s0 pend k ≤ 9223372036854775807
  | 0 => h0
  | k + 1 => by
    rw [sF_s hL]
    have := satF_bd (s := sF P L s0 pend k) (P := P) (sF_bd hL h0 hP k).2 (by omega)
    unfold nxF
    split <;> omega
def digB (b : Bool) : UInt8 := if b = true then 49 else 48
def aloL (P : Int) (L : Nat) (s0 : Int) (pend : Nat → Bool) (M : Nat) : List UInt8 := (List.range M).map fun k => digB (eF P L s0 pend k)
def aloT (E P : Int) (L : Nat) (s0 : Int) (pend : Nat → Bool) (M : Nat) : ByteArray := if E = 0 then ba (aloL P L s0 pend M) else ba []
/-- A tick of the pulse that goes on by itself, counted. -/
theorem tick_k (n f d p r dr o sl md fr : Int) (ad : Option Addr) (cap : Nat) (zs : List Int) (B g L : Nat) (hL1 : 1 ≤ L) (hBg : B ≠ g) (si : Int) (pend : Nat → Bool) (k : Nat) (w : World) (hl : zs.length ≤ 9223372036854775807) (hT : Tab w ad zs) (hE : plainE n f d p r dr o sl md fr zs = 0) (hLL : gate (plainE n f d p r dr o sl md fr zs) (3 * (f + 1) * d) = (L : Int)) (hL60 : L ≤ 60) (hs : -9223372036854775808 ≤ si ∧ si ≤ 9223372036854775807) (n0 : Nat) (hT0 : ∀ V, Below n0 w V → Tab V ad zs) (hn0 : n0 ≤ B ∧ n0 ≤ g)
    (hB : w.heap[B]? = some (.cells (betC L g (k % L) n f d p r dr o sl md fr ad cap zs (sF p L si pend k)) 51 (0, 0))) (hg : LBlk w g (rgL p L si pend k)) :
    Calls Tryz.prog 23 #[.pointer (some ⟨B, 0, none⟩)] w fun e w' => e = .returned (.bool (eF p L si pend k)) ∧ w'.heap[B]? = some (.cells (betC L g ((k + 1) % L) n f d p r dr o sl md fr ad cap zs (sF p L si pend (k + 1))) 51 (0, 0)) ∧ LBlk w' g (rgL p L si pend (k + 1)) ∧ Two2 B g w w' := by
  obtain ⟨_, _, _, _, _, _, _, hp1, hp2, _⟩ := plainE_ok hE
  have hp0 : 0 ≤ p := by
    have := plainE_ok hE
    have : 0 ≤ (f + 1) * d := Int.mul_nonneg (by omega) (by omega)
    omega
  refine (tick_any n f d p r dr o sl md fr ad cap zs B g L (k % L) hBg (sF p L si pend k) (rgL p L si pend k) w hl hT hE hLL hL60 (sF_bd hL1 hs ⟨hp0, hp2⟩ k) n0 hT0 hn0 hB hg (rgL_len k) (Nat.mod_lt k (by omega))).mono ?_
  rintro e w' ⟨rfl, q1, q2, q3⟩
  rw [rg_now hL1] at q1 q2 ⊢
  rw [← sF_s hL1] at q1 q2
  rw [rg_next hL1] at q2
  rw [Nat.mod_add_mod] at q1
  exact ⟨rfl, q1, q2, q3⟩

/-- Fourteen cells set, one after another. -/
theorem set14 {w : World} {b : Nat} {c0 c1 c2 c3 c4 c5 c6 c7 c8 c9 c10 c11 c12 c13 : Value} {t : TypeId} (h : w.heap[b]? = some (.cells #[c0, c1, c2, c3, c4, c5, c6, c7, c8, c9, c10, c11, c12, c13] t (0, 0))) (v0 v1 v2 v3 v4 v5 v6 v7 v8 v9 v10 v11 v12 v13 : Value) :
    ((((((((((((((w.setCell ⟨b, 0, none⟩ v0).setCell ⟨b, 1, none⟩ v1).setCell ⟨b, 2, none⟩ v2).setCell ⟨b, 3, none⟩ v3).setCell ⟨b, 4, none⟩ v4).setCell ⟨b, 5, none⟩ v5).setCell ⟨b, 6, none⟩ v6).setCell ⟨b, 7, none⟩ v7).setCell ⟨b, 8, none⟩ v8).setCell ⟨b, 9, none⟩ v9).setCell ⟨b, 10, none⟩ v10).setCell ⟨b, 11, none⟩ v11).setCell ⟨b, 12, none⟩ v12).setCell ⟨b, 13, none⟩ v13).heap[b]? = some (.cells #[v0, v1, v2, v3, v4, v5, v6, v7, v8, v9, v10, v11, v12, v13] t (0, 0)) := by
  have h0 := heap_setCell_same _ b 0 _ _ v0 h
  simp only [List.setIfInBounds_toArray, List.set_cons_zero, List.set_cons_succ] at h0
  have h1 := heap_setCell_same _ b 1 _ _ v1 h0
  simp only [List.setIfInBounds_toArray, List.set_cons_zero, List.set_cons_succ] at h1
  have h2 := heap_setCell_same _ b 2 _ _ v2 h1
  simp only [List.setIfInBounds_toArray, List.set_cons_zero, List.set_cons_succ] at h2
  have h3 := heap_setCell_same _ b 3 _ _ v3 h2
  simp only [List.setIfInBounds_toArray, List.set_cons_zero, List.set_cons_succ] at h3
  have h4 := heap_setCell_same _ b 4 _ _ v4 h3
  simp only [List.setIfInBounds_toArray, List.set_cons_zero, List.set_cons_succ] at h4
  have h5 := heap_setCell_same _ b 5 _ _ v5 h4
  simp only [List.setIfInBounds_toArray, List.set_cons_zero, List.set_cons_succ] at h5
  have h6 := heap_setCell_same _ b 6 _ _ v6 h5
  simp only [List.setIfInBounds_toArray, List.set_cons_zero, List.set_cons_succ] at h6
  have h7 := heap_setCell_same _ b 7 _ _ v7 h6
  simp only [List.setIfInBounds_toArray, List.set_cons_zero, List.set_cons_succ] at h7
  have h8 := heap_setCell_same _ b 8 _ _ v8 h7
  simp only [List.setIfInBounds_toArray, List.set_cons_zero, List.set_cons_succ] at h8
  have h9 := heap_setCell_same _ b 9 _ _ v9 h8
  simp only [List.setIfInBounds_toArray, List.set_cons_zero, List.set_cons_succ] at h9
  have h10 := heap_setCell_same _ b 10 _ _ v10 h9
  simp only [List.setIfInBounds_toArray, List.set_cons_zero, List.set_cons_succ] at h10
  have h11 := heap_setCell_same _ b 11 _ _ v11 h10
  simp only [List.setIfInBounds_toArray, List.set_cons_zero, List.set_cons_succ] at h11
  have h12 := heap_setCell_same _ b 12 _ _ v12 h11
  simp only [List.setIfInBounds_toArray, List.set_cons_zero, List.set_cons_succ] at h12
  have h13 := heap_setCell_same _ b 13 _ _ v13 h12
  simp only [List.setIfInBounds_toArray, List.set_cons_zero, List.set_cons_succ] at h13
  exact h13
theorem LBlk.other14 {w : World} {b g : Nat} {l : List Bool} (h : LBlk w g l) (hb : g ≠ b) (v0 v1 v2 v3 v4 v5 v6 v7 v8 v9 v10 v11 v12 v13 : Value) :
    LBlk ((((((((((((((w.setCell ⟨b, 0, none⟩ v0).setCell ⟨b, 1, none⟩ v1).setCell ⟨b, 2, none⟩ v2).setCell ⟨b, 3, none⟩ v3).setCell ⟨b, 4, none⟩ v4).setCell ⟨b, 5, none⟩ v5).setCell ⟨b, 6, none⟩ v6).setCell ⟨b, 7, none⟩ v7).setCell ⟨b, 8, none⟩ v8).setCell ⟨b, 9, none⟩ v9).setCell ⟨b, 10, none⟩ v10).setCell ⟨b, 11, none⟩ v11).setCell ⟨b, 12, none⟩ v12).setCell ⟨b, 13, none⟩ v13) g l := by
  have h0 := h.other ⟨b, 0, none⟩ v0 hb
  have h1 := h0.other ⟨b, 1, none⟩ v1 hb
  have h2 := h1.other ⟨b, 2, none⟩ v2 hb
  have h3 := h2.other ⟨b, 3, none⟩ v3 hb
  have h4 := h3.other ⟨b, 4, none⟩ v4 hb
  have h5 := h4.other ⟨b, 5, none⟩ v5 hb
  have h6 := h5.other ⟨b, 6, none⟩ v6 hb
  have h7 := h6.other ⟨b, 7, none⟩ v7 hb
  have h8 := h7.other ⟨b, 8, none⟩ v8 hb
  have h9 := h8.other ⟨b, 9, none⟩ v9 hb
  have h10 := h9.other ⟨b, 10, none⟩ v10 hb
  have h11 := h10.other ⟨b, 11, none⟩ v11 hb
  have h12 := h11.other ⟨b, 12, none⟩ v12 hb
  have h13 := h12.other ⟨b, 13, none⟩ v13 hb
  exact h13
set_option maxRecDepth 100000 in
set_option maxHeartbeats 4000000 in
theorem Alone_any (n f d p r dr o sl md fr : Int) (ad : Option Addr) (cap : Nat) (zs : List Int) (L : Nat) (si : Int) (hsi : -9223372036854775808 ≤ si ∧ si ≤ 9223372036854775807) (pd : ByteArray) (hpd : pd.size ≤ 9223372036854775807) (tk : Int) (M : Nat) (hM : clampF tk 0 2000 = (M : Int)) (w : World) (hl : zs.length ≤ 9223372036854775807) (hT : Tab w ad zs) (hL : gate (plainE n f d p r dr o sl md fr zs) (3 * (f + 1) * d) = (L : Int)) (hL60 : L ≤ 60) :
    Calls Tryz.prog 10 #[.agg #[.int .i64 n, .int .i64 f, .int .i64 d, .int .i64 p, .int .i64 r, .int .i64 dr, .int .i64 o, .int .i64 sl, .int .i64 md, .int .i64 fr, .slice ad zs.length cap], .int .i64 si, .string pd, .int .i64 tk] w fun e w' => e = .returned (.string (aloT (plainE n f d p r dr o sl md fr zs) p L si (penF pd) M)) ∧ Below w.heap.size w w' := by
  have HB0 := hidden (ballc w (.cells #[.int .i64 n, .int .i64 f, .int .i64 d, .int .i64 p, .int .i64 r, .int .i64 dr, .int .i64 o, .int .i64 sl, .int .i64 md, .int .i64 fr, .slice ad zs.length cap] 24))
  have HT := hidden (hT.below HB0.out)
  have HK := hidden (blk_nw w #[.int .i64 n, .int .i64 f, .int .i64 d, .int .i64 p, .int .i64 r, .int .i64 dr, .int .i64 o, .int .i64 sl, .int .i64 md, .int .i64 fr, .slice ad zs.length cap] 24)
  have HP := hidden (plain_any n f d p r dr o sl md fr ad cap zs (w.alloc (.cells #[.int .i64 n, .int .i64 f, .int .i64 d, .int .i64 p, .int .i64 r, .int .i64 dr, .int .i64 o, .int .i64 sl, .int .i64 md, .int .i64 fr, .slice ad zs.length cap] 24)) hl HT.out)
  by_cases hE : plainE n f d p r dr o sl md fr zs = 0
  · have CR := hidden (fun V h => rowOf_any n f d p r dr o sl md fr ad cap zs L pd hpd V hl h hL hL60)
    have CC := hidden (fun V => clamp_any tk 0 2000 V)
    rw [hM] at CC
    have hL1 : 1 ≤ L := by
      have := plainE_ok hE
      rw [hE] at hL
      have h1 : (1 : Int) * 1 ≤ (f + 1) * d := Int.mul_le_mul (by omega) (by omega) (by omega) (by omega)
      have h2 : gate 0 (3 * (f + 1) * d) = 3 * (f + 1) * d := rfl
      rw [h2, Int.mul_assoc] at hL
      omega
    have hM2 : M ≤ 2000 := by
      unfold clampF at hM
      split at hM
      · omega
      · split at hM <;> omega
    have CT := hidden (fun (W V : World) (B g k : Nat) (h0 : Tab W ad zs) (h1 : B ≠ g) (h2 : Below W.heap.size W V) (h3 : W.heap.size ≤ B ∧ W.heap.size ≤ g) h4 h5 => tick_k n f d p r dr o sl md fr ad cap zs B g L hL1 h1 si (penF pd) k V hl (h0.below h2) hE hL hL60 hsi W.heap.size (fun X hX => h0.below (h2.trans hX)) h3 h4 h5)
    have hr0 := hidden (rg_0 p L si pd)
    have hrT : Hid (aloT (plainE n f d p r dr o sl md fr zs) p L si (penF pd) M = ba (aloL p L si (penF pd) M)) := if_pos hE
    rw [hrT.out]
    rw [hE] at HP
    have hmk := fun V => make_bytes M (by omega) V
    clear hT hL hE hM hrT
    go_enter Tryz.func10, Tryz.ntmps10
    go_wp2_with fail
    refine HP.out.mono ?_
    rintro e w2 ⟨rfl, hb⟩
    have HB2 := hidden (bthen HB0.out hb)
    have HT2 := hidden (HT.out.below hb)
    have HK2 := hidden (blk_later HK.out hb)
    have hsz2 : w.heap.size < w2.heap.size := blk_lt HK2.out
    clear hb HT HK HP
    have hC0 : Chn w2.heap.size w2 w2 := Chn.refl (Nat.le_refl _)
    have hS : ∀ V, Chn w2.heap.size w2 V → V.cell? ⟨w.heap.size, 0, none⟩ = some (.int .i64 n) ∧ V.cell? ⟨w.heap.size, 1, none⟩ = some (.int .i64 f) ∧ V.cell? ⟨w.heap.size, 2, none⟩ = some (.int .i64 d) ∧ V.cell? ⟨w.heap.size, 3, none⟩ = some (.int .i64 p) ∧ V.cell? ⟨w.heap.size, 4, none⟩ = some (.int .i64 r) ∧ V.cell? ⟨w.heap.size, 5, none⟩ = some (.int .i64 dr) ∧ V.cell? ⟨w.heap.size, 6, none⟩ = some (.int .i64 o) ∧ V.cell? ⟨w.heap.size, 7, none⟩ = some (.int .i64 sl) ∧ V.cell? ⟨w.heap.size, 8, none⟩ = some (.int .i64 md) ∧ V.cell? ⟨w.heap.size, 9, none⟩ = some (.int .i64 fr) ∧ V.cell? ⟨w.heap.size, 10, none⟩ = some (.slice ad zs.length cap) := fun V hV => by
      have l1 := blk_cell (blk_later HK2.out hV.1)
      exact ⟨l1 0, l1 1, l1 2, l1 3, l1 4, l1 5, l1 6, l1 7, l1 8, l1 9, l1 10⟩
    go_wp2
    go_cut [9] (fun p1 wx => ∃ B g : Nat, p1 = .pointer (some ⟨B, 0, none⟩) ∧ wx.heap[B]? = some (.cells (betC L g (0 % L) n f d p r dr o sl md fr ad cap zs (sF p L si (penF pd) 0)) 51 (0, 0)) ∧ LBlk wx g (rgL p L si (penF pd) 0) ∧ B ≠ g ∧ w2.heap.size ≤ B ∧ w2.heap.size ≤ g ∧ Chn w2.heap.size w2 wx)
    case first =>
      go_region_held3 (fun V => V.cell? ⟨w.heap.size, 0, none⟩ = some (.int .i64 n) ∧ V.cell? ⟨w.heap.size, 1, none⟩ = some (.int .i64 f) ∧ V.cell? ⟨w.heap.size, 2, none⟩ = some (.int .i64 d) ∧ V.cell? ⟨w.heap.size, 3, none⟩ = some (.int .i64 p) ∧ V.cell? ⟨w.heap.size, 4, none⟩ = some (.int .i64 r) ∧ V.cell? ⟨w.heap.size, 5, none⟩ = some (.int .i64 dr) ∧ V.cell? ⟨w.heap.size, 6, none⟩ = some (.int .i64 o) ∧ V.cell? ⟨w.heap.size, 7, none⟩ = some (.int .i64 sl) ∧ V.cell? ⟨w.heap.size, 8, none⟩ = some (.int .i64 md) ∧ V.cell? ⟨w.heap.size, 9, none⟩ = some (.int .i64 fr) ∧ V.cell? ⟨w.heap.size, 10, none⟩ = some (.slice ad zs.length cap)) (first | exact hS _ (by repeat (first | with_reducible assumption | with_reducible refine Chn.drew ?_ | with_reducible refine Chn.alloc ?_ _ | with_reducible refine Chn.set ?_ _ _ (Nat.le_refl _) _)))
        (first
        | (go_at_call 22; refine (CR.out _ (HT2.out.below (Chn.out (by repeat (first | with_reducible assumption | with_reducible refine Chn.drew ?_ | with_reducible refine Chn.alloc ?_ _ | with_reducible refine Chn.set ?_ _ _ (Nat.le_refl _) _))))).mono ?_; rintro e w4 ⟨g4, rfl, hk4, hg4, hb4⟩; have hC4 := Chn.below (show Chn w2.heap.size w2 _ from (by repeat (first | with_reducible assumption | with_reducible refine Chn.drew ?_ | with_reducible refine Chn.alloc ?_ _ | with_reducible refine Chn.set ?_ _ _ (Nat.le_refl _) _))) hb4; have hx4 := hidden (fun (b : Nat) (o : Obj) h => blk_later (b := b) (o := o) h hb4); (first | (have kx4 := hx4.out _ _ (heap_alloc_new w2.drew _); have ky4 := blk_cell kx4; have kz4 := blk_frozen kx4; (try simp only [World.size_drew] at kx4 ky4 kz4)) | skip); clear hb4))
      all_goals
        have lk4 := hk4.lt
        simp only [World.size_alloc, World.size_drew] at hg4
        go_wp2_with fail
        go_meet
        case rel =>
          refine ⟨_, g4, rfl, ?_, ?_, ?_, ?_, ?_, (by repeat (first | with_reducible assumption | with_reducible refine Chn.drew ?_ | with_reducible refine Chn.alloc ?_ _ | with_reducible refine Chn.set ?_ _ _ (Nat.le_refl _) _))⟩
          · rw [Nat.zero_mod, sF_0]
            unfold betC
            first
            | (have hq := set14 kx4 (.slice (some ⟨g4, 0, none⟩) L L) (.int .i64 0) (.int .i64 n) (.int .i64 f) (.int .i64 d) (.int .i64 p) (.int .i64 r) (.int .i64 dr) (.int .i64 o) (.int .i64 sl) (.int .i64 md) (.int .i64 fr) (.slice ad zs.length cap) (.int .i64 si)
               exact hq)
            | exact heap_alloc_new w4 _
          · rw [hr0.out]
            first
            | (have hne : g4 ≠ w2.heap.size := by have := kx4; omega
               have hq := LBlk.other14 (b := w2.heap.size) hk4 hne (.slice (some ⟨g4, 0, none⟩) L L) (.int .i64 0) (.int .i64 n) (.int .i64 f) (.int .i64 d) (.int .i64 p) (.int .i64 r) (.int .i64 dr) (.int .i64 o) (.int .i64 sl) (.int .i64 md) (.int .i64 fr) (.slice ad zs.length cap) (.int .i64 si)
               exact hq)
            | with_reducible exact LBlk.later hk4 (ballc w4 _)
          · omega
          · first
            | with_reducible exact Nat.le_refl _
            | with_reducible exact Chn.le hC4
          · omega
    case rest =>
      obtain ⟨B, g, rfl, hBB, hGG, hne, hB2, hg2, hCC⟩ := hcut
      have hBl := blk_lt hBB
      have hgl := hGG.lt
      have HBB := hidden (blk_later hBB (ballc wc (.cells (bvals (List.replicate M 0)) 5)))
      have HGG := hidden (hGG.later (ballc wc (.cells (bvals (List.replicate M 0)) 5)))
      have HCC := hidden (hCC.alloc (.cells (bvals (List.replicate M 0)) 5))
      have HO : Hid ((wc.alloc (.cells (bvals (List.replicate M 0)) 5)).heap[wc.heap.size]? = some (.cells (bvals (fillL 0 M (fun k => digB (eF p L si (penF pd) k)) 0)) 5 (0, 0))) := by
        show _ = _
        rw [fillL_0]
        exact heap_alloc_new wc _
      have HFA : Hid (fillL 0 M (fun k => digB (eF p L si (penF pd) k)) M = aloL p L si (penF pd) M) := fillL_all _ _ _
      clear hBB hGG hCC hr0 hC0 hS CR
      go_wp2_with fail
      refine (CC.out _).mono ?_
      rintro e w5 ⟨rfl, rfl⟩
      clear CC
      go_wp2
      clear hmk
      generalize hW0 : wc.alloc (.cells (bvals (List.replicate M 0)) 5) = W0 at *
      clear hW0
      go_loopw [26] (fun i wr => ∃ k : Nat, k ≤ M ∧ i = .int .i64 k ∧ wr.heap[wc.heap.size]? = some (.cells (bvals (fillL 0 M (fun k => digB (eF p L si (penF pd) k)) k)) 5 (0, 0)) ∧ wr.heap[B]? = some (.cells (betC L g (k % L) n f d p r dr o sl md fr ad cap zs (sF p L si (penF pd) k)) 51 (0, 0)) ∧ LBlk wr g (rgL p L si (penF pd) k) ∧ Chn w2.heap.size w2 wr) (fun i _ => M - (intV i).toNat)
      case atStart => exact ⟨0, Nat.zero_le _, rfl, HO.out, HBB.out, HGG.out, HCC.out⟩
      case round =>
        obtain ⟨k, hk, rfl, hO, hB, hG, hC⟩ := hrel
        clear HO HBB HGG HCC
        by_cases hlt : k < M
        · have i1 : (0 : Int) ≤ (k : Int) := by omega
          have i2 : (k : Int) < (M : Int) := by omega
          have hS0 := fillL_set 0 M (fun k => digB (eF p L si (penF pd) k)) k hlt
          have hlen : (fillL 0 M (fun k => digB (eF p L si (penF pd) k)) k).length = M := fillL_len _ _ _ _
          have o1 := heap_setCell_same wr wc.heap.size k _ _ (.int .u8 48) hO
          rw [show (bvals (fillL 0 M (fun k => digB (eF p L si (penF pd) k)) k)).setIfInBounds k (Value.int .u8 48) = _ from bvals_set _ k 48 (by decide)] at o1
          have b1 := (heap_setCell_other wr ⟨wc.heap.size, k, none⟩ B (.int .u8 48) (by simp; omega)).trans hB
          have g1 := hG.other ⟨wc.heap.size, k, none⟩ (.int .u8 48) (by simp; omega)
          have C1 := hC.set wc.heap.size k (by have := hC.2; omega) (.int .u8 48)
          have CK := hidden (CT.out w2 _ B g k HT2.out hne C1.1 ⟨hB2, hg2⟩ b1 g1)
          obtain ⟨y0, c0⟩ : ∃ y, wr.cell? ⟨wc.heap.size, k, none⟩ = some (.int .u8 y) := ⟨_, (blk_cell hO k).trans (bvals_at _ k (by rw [hlen]; exact hlt))⟩
          have f0 := blk_frozen hO k
          have l0 := blk_lt hO
          have HS0 := hidden hS0
          have HL0 := hidden (show k < (fillL 0 M (fun k => digB (eF p L si (penF pd) k)) k).length by rw [hlen]; exact hlt)
          have HC1 := hidden C1
          have HO1 := hidden o1
          clear hS0 hlen o1 b1 g1 C1 hO hB hG hC
          generalize fillL 0 M (fun k => digB (eF p L si (penF pd) k)) k = F0 at *
          cases hek : eF p L si (penF pd) k
          · have HS1 : Hid (F0.set k (UInt8.ofNat 48) = fillL 0 M (fun k => digB (eF p L si (penF pd) k)) (k + 1)) := by
              have := HS0.out
              rw [hek] at this
              exact this
            rw [hek] at CK
            clear HS0 hek
            go_wp2_with fail
            refine CK.out.mono ?_
            rintro e w6 ⟨rfl, q1, q2, q3⟩
            have HQ := hidden (And.intro ((q3.block wc.heap.size (blk_lt HO1.out) (by omega) (by omega)).trans HO1.out) (And.intro q1 (And.intro q2 (show Chn w2.heap.size w2 w6 from ⟨HC1.out.1.trans (q3.to_below hB2 hg2 HC1.out.2), Nat.le_trans HC1.out.2 q3.size⟩))))
            rw [HS1.out] at HQ
            clear q1 q2 q3
            go_wp2
            go_roundw
            case rel => exact ⟨k + 1, by omega, by go_num, HQ.out⟩
            case measure => simp [intV]; omega
          · have HS1 : Hid ((F0.set k (UInt8.ofNat 48)).set k (UInt8.ofNat 49) = fillL 0 M (fun k => digB (eF p L si (penF pd) k)) (k + 1)) := by
              have := HS0.out
              rw [hek] at this
              show _ = _
              rw [List.set_set]
              exact this
            rw [hek] at CK
            clear HS0 hek
            go_wp2_with fail
            refine CK.out.mono ?_
            rintro e w6 ⟨rfl, q1, q2, q3⟩
            have o6 := (q3.block wc.heap.size (blk_lt HO1.out) (by omega) (by omega)).trans HO1.out
            have HC6 := hidden (show Chn w2.heap.size w2 w6 from ⟨HC1.out.1.trans (q3.to_below hB2 hg2 HC1.out.2), Nat.le_trans HC1.out.2 q3.size⟩)
            have o7 := heap_setCell_same w6 wc.heap.size k _ _ (.int .u8 49) o6
            rw [show (bvals (F0.set k (UInt8.ofNat 48))).setIfInBounds k (Value.int .u8 49) = _ from bvals_set _ k 49 (by decide), HS1.out] at o7
            have HQ := hidden (And.intro o7 (And.intro ((heap_setCell_other w6 ⟨wc.heap.size, k, none⟩ B (.int .u8 49) (by simp; omega)).trans q1) (And.intro (q2.other ⟨wc.heap.size, k, none⟩ (.int .u8 49) (by simp; omega)) (HC6.out.set wc.heap.size k (by have := HC6.out.2; omega) (.int .u8 49)))))
            obtain ⟨y6, c6⟩ : ∃ y, w6.cell? ⟨wc.heap.size, k, none⟩ = some (.int .u8 y) := ⟨_, (blk_cell o6 k).trans (bvals_at _ k (by rw [List.length_set]; exact HL0.out))⟩
            have f0 := blk_frozen o6 k
            have l0 := blk_lt o6
            clear q1 q2 q3 o6 o7
            go_wp2
            go_roundw
            case rel => exact ⟨k + 1, by omega, by go_num, HQ.out⟩
            case measure => simp [intV]; omega
        · obtain rfl : k = M := by omega
          have i2 : ¬ (k : Int) < (k : Int) := by omega
          rw [HFA.out] at hO
          have hcv := conv_blk hO
          rw [show (aloL p L si (penF pd) k).length = k by simp [aloL]] at hcv
          have HB5 := hidden (bthen HB2.out hC.1)
          clear hO hB hG hC HFA
          generalize hal : aloL p L si (penF pd) k = al at *
          have HAL := hidden hal
          clear hal
          go_wp2
          go_ret
          exact ⟨by rw [HAL.out]; rfl, HB5.out⟩
  · have hr : Hid (aloT (plainE n f d p r dr o sl md fr zs) p L si (penF pd) M = ba []) := if_neg hE
    have j1 : (plainE n f d p r dr o sl md fr zs != 0) = true := bne_iff_ne.2 hE
    rw [hr.out]
    generalize plainE n f d p r dr o sl md fr zs = E at *
    clear hE hT hL hM hr
    go_enter Tryz.func10, Tryz.ntmps10
    go_wp2_with fail
    refine HP.out.mono ?_
    rintro e w2 ⟨rfl, hb⟩
    have HB2 := hidden (bthen HB0.out hb)
    clear hb HP
    go_wp2
    go_ret
    exact ⟨rfl, HB2.out⟩
end Go.Proofs.YtkolhbacgoafcaaGreat

/- The fixed calls of the statements on package beat come out as they must, and make at most new memory; no conditions. -/
namespace Go.Proofs.YtkolhbacgoafcaaGreat
open Go.ChangeShapes Go.WideShapes Go.ChangeAt Go.RowKit
set_option linter.unusedVariables false

theorem small18_any (w : World) :
    Calls Tryz.prog 7 #[] w fun e w' => ∃ g, e = .returned (.agg #[.int .i64 4, .int .i64 1, .int .i64 1, .int .i64 20, .int .i64 64, .int .i64 1, .int .i64 64, .int .i64 190, .int .i64 10, .int .i64 3, .slice (some ⟨g, 0, none⟩) 4 4]) ∧ Tab w' (some ⟨g, 0, none⟩) [0, 1, 2, 3] ∧ Below w.heap.size w w' := by
  go_enter Tryz.func7, Tryz.ntmps7
  go_wp2
  refine bodyPost_ret (v := .agg #[.int .i64 4, .int .i64 1, .int .i64 1, .int .i64 20, .int .i64 64, .int .i64 1, .int .i64 64, .int .i64 190, .int .i64 10, .int .i64 3, .slice (some ⟨w.heap.size + 1, 0, none⟩) 4 4]) (by simp [results, Tryz.results7, go_sem]) rfl ⟨_, rfl, Tab.four _ _ _ (by simp), Joins.below_alloc2 _ _ _⟩
theorem bval_2 {a b c d : Int} (h : a = c) (k : b = d) : Value.tuple #[.int .i64 a, .int .i64 b] = .tuple #[.int .i64 c, .int .i64 d] := by rw [h, k]
theorem bval_4 {a b : ByteArray} {i j k l : Int} {x y : Bool} (h1 : a = b) (h2 : i = j) (h3 : k = l) (h4 : x = y) : Value.tuple #[.string a, .int .i64 i, .int .i64 k, .bool x] = .tuple #[.string b, .int .i64 j, .int .i64 l, .bool y] := by rw [h1, h2, h3, h4]
theorem bval_i {a b : Int} (h : a = b) : Value.int .i64 a = .int .i64 b := by rw [h]
theorem stpP_small (ad : Option Addr) : stpP 4 1 1 20 64 1 64 190 10 3 ad 4 [0, 1, 2, 3] 1 6 [⟨#[49, 49, 49, 49, 49, 49]⟩, ⟨#[49, 49, 49, 49, 49, 49]⟩, ⟨#[49, 49, 49, 49, 49, 49]⟩] (wellL 6 ⟨#[48, 48, 48, 48, 48, 49]⟩) = true := by
  unfold stpP
  rw [hrdF_small, end_small17]
  rfl
theorem stpS_small (ad : Option Addr) : stpS 4 1 1 20 64 1 64 190 10 3 ad 4 [0, 1, 2, 3] 1 6 [⟨#[49, 49, 49, 49, 49, 49]⟩, ⟨#[49, 49, 49, 49, 49, 49]⟩, ⟨#[49, 49, 49, 49, 49, 49]⟩] (wellL 6 ⟨#[48, 48, 48, 48, 48, 49]⟩) 19 = 0 := by
  unfold stpS
  rw [stpP_small, plainE_small]
  rfl
theorem stpR_small (ad : Option Addr) : stpR 4 1 1 20 64 1 64 190 10 3 ad 4 [0, 1, 2, 3] 1 6 [⟨#[49, 49, 49, 49, 49, 49]⟩, ⟨#[49, 49, 49, 49, 49, 49]⟩, ⟨#[49, 49, 49, 49, 49, 49]⟩] (wellL 6 ⟨#[48, 48, 48, 48, 48, 49]⟩) 19 1 = 2 := by
  unfold stpR
  rw [stpP_small, plainE_small]
  rfl
theorem begin_small18 : ba ((newL (hrdB 0 4 1 [⟨#[49, 49, 49, 49, 49, 49]⟩, ⟨#[49, 49, 49, 49, 49, 49]⟩, ⟨#[49, 49, 49, 49, 49, 49]⟩]) 1 (wellL 6 ⟨#[48, 48, 48, 48, 48, 49]⟩)).set 0 (begC8 0)) = ⟨#[48, 49, 52, 49, 49, 52]⟩ := by decide +kernel
theorem stpL_small (ad : Option Addr) : ba (stpL 4 1 1 20 64 1 64 190 10 3 ad 4 [0, 1, 2, 3] 1 6 [⟨#[49, 49, 49, 49, 49, 49]⟩, ⟨#[49, 49, 49, 49, 49, 49]⟩, ⟨#[49, 49, 49, 49, 49, 49]⟩] (wellL 6 ⟨#[48, 48, 48, 48, 48, 49]⟩) 19) = ⟨#[48, 49, 52, 49, 49, 52]⟩ := by
  unfold stpL
  rw [stpS_small, hrdF_small, plainE_small, show bitI 0 20 ((6 : Nat) : Int) 0 = 0 by decide]
  exact begin_small18
theorem alone_small18 : aloT 0 20 6 13 (penF ⟨#[]⟩) 8 = ⟨#[48, 48, 48, 48, 48, 48, 49, 48]⟩ := by decide +kernel
theorem step18_any (g : Nat) (a2 : Option Addr) (w : World) (hT : Tab w (some ⟨g, 0, none⟩) [0, 1, 2, 3]) (hV : kStr.Lies w.heap.size w (.slice a2 3 3) [⟨#[49, 49, 49, 49, 49, 49]⟩, ⟨#[49, 49, 49, 49, 49, 49]⟩, ⟨#[49, 49, 49, 49, 49, 49]⟩]) :
    Calls Tryz.prog 5 #[.agg #[.int .i64 4, .int .i64 1, .int .i64 1, .int .i64 20, .int .i64 64, .int .i64 1, .int .i64 64, .int .i64 190, .int .i64 10, .int .i64 3, .slice (some ⟨g, 0, none⟩) 4 4], .string ⟨#[48, 48, 48, 48, 48, 49]⟩, .int .i64 19, .int .i64 1, .slice a2 3 3] w fun e w' => e = .returned (.tuple #[.string ⟨#[48, 49, 52, 49, 49, 52]⟩, .int .i64 0, .int .i64 2, .bool true]) ∧ Below w.heap.size w w' :=
  Calls.ret_to (BStep_any 4 1 1 20 64 1 64 190 10 3 (some ⟨g, 0, none⟩) 4 [0, 1, 2, 3] 6 1 6 ⟨#[48, 48, 48, 48, 48, 49]⟩ (by decide) 19 1 (by decide) (by decide) a2 3 [⟨#[49, 49, 49, 49, 49, 49]⟩, ⟨#[49, 49, 49, 49, 49, 49]⟩, ⟨#[49, 49, 49, 49, 49, 49]⟩] w (by decide) hT (by rw [plainE_small]; rfl) (by rw [plainE_small]; rfl) (by decide) (by decide) (by decide) (.inr ⟨rfl, by decide, by decide⟩) (by decide) hV (by decide))
    (bval_4 (stpL_small _) (stpS_small _) (stpR_small _) (stpP_small _))
set_option maxHeartbeats 4000000 in
theorem known18_any (w : World) :
    Calls Tryz.prog 4 #[] w fun e w' => e = .returned (.bool true) ∧ Below w.heap.size w w' := by
  go_enter Tryz.func4, Tryz.ntmps4
  go_wp2_with fail
  refine (small18_any _).mono ?_
  rintro e w3 ⟨g, rfl, hT, hb⟩
  have HB3 := hidden hb
  have HC := hidden (blk_nw w3 #[.int .i64 4, .int .i64 1, .int .i64 1, .int .i64 20, .int .i64 64, .int .i64 1, .int .i64 64, .int .i64 190, .int .i64 10, .int .i64 3, .slice (some ⟨g, 0, none⟩) 4 4] 24)
  have hC := ballc w3 (.cells #[.int .i64 4, .int .i64 1, .int .i64 1, .int .i64 20, .int .i64 64, .int .i64 1, .int .i64 64, .int .i64 190, .int .i64 10, .int .i64 3, .slice (some ⟨g, 0, none⟩) 4 4] 24)
  have HT3 := hidden (hT.below hC)
  have HBC := hidden (bthen HB3.out hC)
  clear hT hb hC
  go_wp2_with fail
  refine (Calls.ret_to (BNext_any 4 1 1 20 64 1 64 190 10 3 (some ⟨g, 0, none⟩) 4 [0, 1, 2, 3] 19 1 true _ (by decide) HT3.out (by decide) (by decide)) (bval_2 (c := 0) (d := 2) (by rw [plainE_small]; rfl) (by rw [plainE_small]; rfl))).mono ?_
  rintro e w4 ⟨rfl, hb⟩
  have HB4 := hidden (bthen HBC.out hb)
  have HT4 := hidden (HT3.out.below hb)
  have HC4 := hidden (blk_later HC.out hb)
  clear hb HT3
  have c0 := blk_cell HC4.out
  have l0 := blk_lt HC4.out
  go_wp2_with fail
  refine (Calls.ret_to (BNext_any 4 1 1 20 64 1 64 190 10 3 (some ⟨g, 0, none⟩) 4 [0, 1, 2, 3] 19 2 false _ (by decide) HT4.out (by decide) (by decide)) (bval_2 (c := 20) (d := 0) (by rw [plainE_small]; rfl) (by rw [plainE_small]; rfl))).mono ?_
  rintro e w5 ⟨rfl, hb⟩
  have HB5 := hidden (bthen HB4.out hb)
  have HT5 := hidden (HT4.out.below hb)
  have HC5 := hidden (blk_later HC4.out hb)
  clear hb HT4 c0 l0
  have c0 := blk_cell HC5.out
  have l0 := blk_lt HC5.out
  have hV : kStr.Lies (w5.alloc (.cells #[.string ⟨#[49, 49, 49, 49, 49, 49]⟩, .string ⟨#[49, 49, 49, 49, 49, 49]⟩, .string ⟨#[49, 49, 49, 49, 49, 49]⟩] 9)).heap.size (w5.alloc (.cells #[.string ⟨#[49, 49, 49, 49, 49, 49]⟩, .string ⟨#[49, 49, 49, 49, 49, 49]⟩, .string ⟨#[49, 49, 49, 49, 49, 49]⟩] 9)) (.slice (some ⟨w5.heap.size, 0, none⟩) 3 3) [⟨#[49, 49, 49, 49, 49, 49]⟩, ⟨#[49, 49, 49, 49, 49, 49]⟩, ⟨#[49, 49, 49, 49, 49, 49]⟩] :=
    Kind.Lies.of_block (K := kStr) (es := [⟨#[49, 49, 49, 49, 49, 49]⟩, ⟨#[49, 49, 49, 49, 49, 49]⟩, ⟨#[49, 49, 49, 49, 49, 49]⟩]) (heap_alloc_new w5 (.cells #[.string ⟨#[49, 49, 49, 49, 49, 49]⟩, .string ⟨#[49, 49, 49, 49, 49, 49]⟩, .string ⟨#[49, 49, 49, 49, 49, 49]⟩] 9)) (by simp [maxLen])
  have CM := hidden (step18_any g (some ⟨w5.heap.size, 0, none⟩) (w5.alloc (.cells #[.string ⟨#[49, 49, 49, 49, 49, 49]⟩, .string ⟨#[49, 49, 49, 49, 49, 49]⟩, .string ⟨#[49, 49, 49, 49, 49, 49]⟩] 9)) (HT5.out.below (ballc _ _)) hV)
  have HB6 := hidden (bthen HB5.out (ballc _ (.cells #[.string ⟨#[49, 49, 49, 49, 49, 49]⟩, .string ⟨#[49, 49, 49, 49, 49, 49]⟩, .string ⟨#[49, 49, 49, 49, 49, 49]⟩] 9)))
  have HT6 := hidden (HT5.out.below (ballc _ (.cells #[.string ⟨#[49, 49, 49, 49, 49, 49]⟩, .string ⟨#[49, 49, 49, 49, 49, 49]⟩, .string ⟨#[49, 49, 49, 49, 49, 49]⟩] 9)))
  have HC6 := hidden (blk_later HC5.out (ballc _ (.cells #[.string ⟨#[49, 49, 49, 49, 49, 49]⟩, .string ⟨#[49, 49, 49, 49, 49, 49]⟩, .string ⟨#[49, 49, 49, 49, 49, 49]⟩] 9)))
  clear hV HT5
  go_wp2_with fail
  refine CM.out.mono ?_
  rintro e w7 ⟨rfl, hb⟩
  have HB7 := hidden (bthen HB6.out hb)
  have HT7 := hidden (HT6.out.below hb)
  have HC7 := hidden (blk_later HC6.out hb)
  clear hb HT6 CM c0 l0
  have c0 := blk_cell HC7.out
  have l0 := blk_lt HC7.out
  go_wp2_with fail
  refine (Calls.ret_to (BBit_any 4 1 1 20 64 1 64 190 10 3 (some ⟨g, 0, none⟩) 4 [0, 1, 2, 3] 6 14 _ (by decide) HT7.out (by rw [plainE_small]; rfl) (by decide) (by decide)) (bval_i (b := 1) (by rw [plainE_small]; decide))).mono ?_
  rintro e w8 ⟨rfl, hb⟩
  have HB8 := hidden (bthen HB7.out hb)
  have HT8 := hidden (HT7.out.below hb)
  have HC8 := hidden (blk_later HC7.out hb)
  clear hb HT7 c0 l0
  have c0 := blk_cell HC8.out
  have l0 := blk_lt HC8.out
  go_wp2_with fail
  refine (Calls.ret_to (BBit_any 4 1 1 20 64 1 64 190 10 3 (some ⟨g, 0, none⟩) 4 [0, 1, 2, 3] 6 15 _ (by decide) HT8.out (by rw [plainE_small]; rfl) (by decide) (by decide)) (bval_i (b := 0) (by rw [plainE_small]; decide))).mono ?_
  rintro e w9 ⟨rfl, hb⟩
  have HB9 := hidden (bthen HB8.out hb)
  have HT9 := hidden (HT8.out.below hb)
  have HC9 := hidden (blk_later HC8.out hb)
  clear hb HT8 c0 l0
  have c0 := blk_cell HC9.out
  have l0 := blk_lt HC9.out
  go_wp2_with fail
  refine (Calls.ret_to (BBit_any 4 1 1 20 64 1 64 190 10 3 (some ⟨g, 0, none⟩) 4 [0, 1, 2, 3] 6 20 _ (by decide) HT9.out (by rw [plainE_small]; rfl) (by decide) (by decide)) (bval_i (b := 1) (by rw [plainE_small]; decide))).mono ?_
  rintro e w10 ⟨rfl, hb⟩
  have HB10 := hidden (bthen HB9.out hb)
  have HT10 := hidden (HT9.out.below hb)
  have HC10 := hidden (blk_later HC9.out hb)
  clear hb HT9 c0 l0
  have c0 := blk_cell HC10.out
  have l0 := blk_lt HC10.out
  go_wp2_with fail
  refine (Calls.ret_to (Alone_any 4 1 1 20 64 1 64 190 10 3 (some ⟨g, 0, none⟩) 4 [0, 1, 2, 3] 6 13 (by decide) ⟨#[]⟩ (by decide) 8 8 (by decide) _ (by decide) HT10.out (by rw [plainE_small]; rfl) (by decide)) (pval_s (b := ⟨#[48, 48, 48, 48, 48, 48, 49, 48]⟩) (by rw [plainE_small]; exact alone_small18))).mono ?_
  rintro e w11 ⟨rfl, hb⟩
  have HB11 := hidden (bthen HB10.out hb)
  clear hb c0 l0
  go_wp2
  go_ret
  exact ⟨rfl, HB11.out⟩
end Go.Proofs.YtkolhbacgoafcaaGreat
