/- The walk of the statement TallyOrder: the call returns true, and makes at most new memory; conditions: the table and the votes lie where they say, and lengths fit int. -/
import Derived.Test.YtklcjfbdneallaaTalK
import Derived.Test.YtklcjfbdneallaaTalS
namespace Go.Proofs.Ytklcjfbdneallaa.LawTallyOrder
open Go.ChangeShapes Go.WideShapes Go.ChangeAt Go.RowKit
set_option linter.unusedVariables false
attribute [local go_sem] cell_rg

theorem rev_snoc (l : List Int) (k : Nat) (hk : k < l.length) : l.reverse.take (k + 1) = l.reverse.take k ++ [l[l.length - 1 - k]'(by omega)] := by
  have hr : k < l.reverse.length := by simpa using hk
  rw [List.take_add_one, List.getElem?_eq_getElem hr, List.getElem_reverse]
  rfl
/-- The votes behind k rounds: the last k, backwards, those that are votes. -/
def backL (vs : List Int) (k : Nat) : List Int := (vs.reverse.take k).filter (fun z => voteB z)
theorem backL_yes (vs : List Int) (k : Nat) (hk : k < vs.length) (h : voteB (vs[vs.length - 1 - k]'(by omega)) = true) : backL vs (k + 1) = backL vs k ++ [vs[vs.length - 1 - k]'(by omega)] := by
  unfold backL
  rw [rev_snoc vs k hk, List.filter_append]
  simp [h]
theorem backL_no (vs : List Int) (k : Nat) (hk : k < vs.length) (h : voteB (vs[vs.length - 1 - k]'(by omega)) = false) : backL vs (k + 1) = backL vs k := by
  unfold backL
  rw [rev_snoc vs k hk, List.filter_append]
  simp [h]
theorem backL_le (vs : List Int) (k : Nat) : (backL vs k).length ≤ k := by
  unfold backL
  exact Nat.le_trans (List.length_filter_le _ _) (by rw [List.length_take]; exact Nat.min_le_left _ _)
theorem backL_all (vs : List Int) : backL vs vs.length = vs.reverse.filter (fun z => voteB z) := by
  unfold backL
  rw [List.take_of_length_le (by simp)]
theorem cnt_back (v : Int) (hv : voteB v = true) (vs : List Int) : cntL v (backL vs vs.length) = cntL v vs := by
  rw [backL_all]
  unfold cntL
  rw [List.countP_filter, List.countP_reverse]
  congr 1
  funext z
  by_cases h : z = v
  · subst h; simp [hv]
  · simp [h]
theorem len_votes (zs : List Int) (h : ∀ z ∈ zs, voteB z = true) : zs.length = cntL 0 zs + cntL 1 zs + cntL 2 zs := by
  unfold cntL
  induction zs with
  | nil => rfl
  | cons z zs ih =>
    rw [List.countP_cons, List.countP_cons, List.countP_cons, List.length_cons]
    have := ih (fun y hy => h y (List.mem_cons_of_mem _ hy))
    have hz := of_decide_eq_true (h z (List.mem_cons_self ..))
    have : z = 0 ∨ z = 1 ∨ z = 2 := by omega
    rcases this with rfl | rfl | rfl <;> simp <;> omega
theorem len_back (vs : List Int) : (backL vs vs.length).length = cntL 0 vs + cntL 1 vs + cntL 2 vs := by
  rw [len_votes (backL vs vs.length) (by rw [backL_all]; intro z hz; exact (List.mem_filter.1 hz).2), cnt_back 0 rfl, cnt_back 1 rfl, cnt_back 2 rfl]

set_option maxHeartbeats 4000000 in
theorem walk (n f d p r dr o sl md fr : Int) (ad : Option Addr) (cap : Nat) (zs : List Int) (now : Int) (a2 : Option Addr) (c2 : Nat) (vs : List Int) (w : World) (hl : zs.length ≤ 9223372036854775807) (hT : Tab w ad zs) (_ : -9223372036854775808 ≤ now ∧ now ≤ 9223372036854775807) (hlv : vs.length ≤ 9223372036854775807) (hV : kInt.Lies w.heap.size w (.slice a2 vs.length c2) vs) :
    Calls Try.prog 6 #[.agg #[.int .i64 n, .int .i64 f, .int .i64 d, .int .i64 p, .int .i64 r, .int .i64 dr, .int .i64 o, .int .i64 sl, .int .i64 md, .int .i64 fr, .slice ad zs.length cap], .int .i64 now, .slice a2 vs.length c2] w fun e w' => e = .returned (.bool true) ∧ Below w.heap.size w w' := by
  have HT := hidden (hT.below (ballc w (.cells #[.int .i64 n, .int .i64 f, .int .i64 d, .int .i64 p, .int .i64 r, .int .i64 dr, .int .i64 o, .int .i64 sl, .int .i64 md, .int .i64 fr, .slice ad zs.length cap] 24)))
  have HV := hidden (hV.later (ballc w (.cells #[.int .i64 n, .int .i64 f, .int .i64 d, .int .i64 p, .int .i64 r, .int .i64 dr, .int .i64 o, .int .i64 sl, .int .i64 md, .int .i64 fr, .slice ad zs.length cap] 24)))
  clear hT hV
  by_cases h60 : 60 < vs.length
  · have h60' : (60 : Int) < vs.length := by omega
    clear HT HV
    go_enter Try.func6, Try.ntmps6
    go_wp2_with (go_at_call 9; refine (known13_any _).mono ?_; rintro e w1 ⟨rfl, hb⟩)
    go_ret
    exact ⟨rfl, bthen (ballc w _) hb⟩
  have h60' : ¬ (60 : Int) < vs.length := by omega
  obtain ⟨i0, hi, hz0, hz1, hz2⟩ := info_of infoInt
  have hn1 : IntKind.i64.wrap ((vs.length : Int) - 1) = (vs.length : Int) - 1 := IntWalk.i64_in _ (by omega)
  go_enter Try.func6, Try.ntmps6
  go_wp2
  have HBX := hidden (box_at (w := w) (C := #[.int .i64 n, .int .i64 f, .int .i64 d, .int .i64 p, .int .i64 r, .int .i64 dr, .int .i64 o, .int .i64 sl, .int .i64 md, .int .i64 fr, .slice ad zs.length cap]) (t := 24) (Below.refl _ _))
  have HB0 := hidden (ballc w (.cells #[.int .i64 n, .int .i64 f, .int .i64 d, .int .i64 p, .int .i64 r, .int .i64 dr, .int .i64 o, .int .i64 sl, .int .i64 md, .int .i64 fr, .slice ad zs.length cap] 24))
  generalize hW0 : w.alloc (.cells #[.int .i64 n, .int .i64 f, .int .i64 d, .int .i64 p, .int .i64 r, .int .i64 dr, .int .i64 o, .int .i64 sl, .int .i64 md, .int .i64 fr, .slice ad zs.length cap] 24) = W0 at *
  go_loopw [7, 9] (fun v i wr => ∃ k : Nat, k ≤ vs.length ∧ i = .int .i64 ((vs.length : Int) - 1 - (k : Int)) ∧ wr.ownsRow W0.heap.size 3 1 v (backL vs k).length (kInt.flat (backL vs k)) ∧ Below W0.heap.size W0 wr) (fun _ i _ => (intV i + 1).toNat)
  case atStart => exact ⟨0, Nat.zero_le _, by simp, World.ownsRow_nil _ _ _ _, Below.refl _ _⟩
  case round =>
    obtain ⟨k, hk, rfl, hown, hb⟩ := hrel
    by_cases hlt : k < vs.length
    · obtain ⟨b, off, rfl, hbl, e0⟩ := kInt_at HV.out (vs.length - 1 - k) (by omega)
      have f0 : wr.cell? ⟨b, off + (vs.length - 1 - k), none⟩ = some (.int .i64 (vs[vs.length - 1 - k]'(by omega))) := (hb.cell (p := ⟨b, off + (vs.length - 1 - k), none⟩) hbl).trans e0
      have hbl' : b < wr.heap.size := Nat.lt_of_lt_of_le hbl hb.size
      clear e0
      have hyes := hidden (backL_yes vs k hlt)
      have hno := hidden (backL_no vs k hlt)
      have hle := backL_le vs k
      generalize vs[vs.length - 1 - k]'(by omega) = z at f0 hyes hno
      have hj : ((vs.length : Int) - 1 - (k : Int)) = ((vs.length - 1 - k : Nat) : Int) := by omega
      have hjm : IntKind.i64.wrap (((vs.length - 1 - k : Nat) : Int) - 1) = ((vs.length - 1 - k : Nat) : Int) - 1 := IntWalk.i64_in _ (by omega)
      have HJ : Hid (((vs.length - 1 - k : Nat) : Int) - 1 = (vs.length : Int) - 1 - ((k + 1 : Nat) : Int)) := by show _ = _; omega
      have HJ2 : Hid (((vs.length - 1 - k : Nat) : Int) = (vs.length : Int) - 1 - (k : Int)) := by show _ = _; omega
      rw [hj]
      have j1 : vs.length - 1 - k < vs.length := by omega
      generalize vs.length - 1 - k = j at *
      have i1 : (0 : Int) ≤ (j : Int) := by omega
      have i2 : (j : Int) < (vs.length : Int) := by omega
      clear hj
      have hbs := hb.size
      have HB := hidden hb
      have HO := hidden hown
      by_cases hz : 0 ≤ z ∧ z < 3
      · have HS := hidden (hyes.out (voteB_yes hz.1 hz.2))
        have q1 : decide (0 ≤ z) = true := decide_eq_true hz.1
        have q2 : decide (z ≤ 2) = true := decide_eq_true (by omega)
        clear hyes hno hz
        go_wp2_with (at_builtin; refine kInt.wpList_append _ rfl _ _ 22 rfl W0.heap.size 3 i0 (.int .i64 0) 8 Try.underlying22 hi hz0 hz1 hz2 rfl u7 _ _ rfl (hown.alloc _) (.slice (some ⟨wr.heap.size, 0, none⟩) 1 1) [z] rfl (Kind.Lies.of_block (K := kInt) (es := [z]) (heap_alloc_new wr _) (by simp [maxLen])) (by simp only [maxLen, List.length_singleton]; omega) (by simp only [List.length_singleton]; omega) (by simp; omega) ?_; intro v4 w4 hown4 hgrow4 _)
        go_roundw
        case rel => exact ⟨k + 1, by omega, by rw [← HJ.out], by rw [HS.out, Kind.flat_append, List.length_append]; exact hown4, (hb.alloc hbs _).grown hgrow4 (by simp; omega) (own_from hown)⟩
        case measure => first | (simp [intV]; done) | (simp [intV]; omega)
      · have HS := hidden (hno.out (voteB_no hz))
        by_cases hz1' : 0 ≤ z
        · have q1 : decide (0 ≤ z) = true := decide_eq_true hz1'
          have q2 : decide (z ≤ 2) = false := decide_eq_false (by omega)
          clear hyes hno hz
          go_wp2
          go_roundw
          case rel => exact ⟨k + 1, by omega, by rw [← HJ.out], by rw [HS.out]; exact HO.out, HB.out⟩
          case measure => first | (simp [intV]; done) | (simp [intV]; omega)
        · have q1 : decide (0 ≤ z) = false := decide_eq_false hz1'
          clear hyes hno hz
          go_wp2
          go_roundw
          case rel => exact ⟨k + 1, by omega, by rw [← HJ.out], by rw [HS.out]; exact HO.out, HB.out⟩
          case measure => first | (simp [intV]; done) | (simp [intV]; omega)
    · obtain rfl : k = vs.length := by omega
      have c0 := cnt_back 0 rfl vs
      have c1 := cnt_back 1 rfl vs
      have c2' := cnt_back 2 rfl vs
      have hlen := len_back vs
      have hle := backL_le vs vs.length
      obtain ⟨a3, c3, rfl⟩ := own_slice hown
      have HR := hidden (Kind.Lies.of_own hown)
      have HV3 := hidden (HV.out.later hb)
      have HT3 := hidden (HT.out.below hb)
      have HB3 := hidden (bthen HB0.out hb)
      have hbx : ∀ i, wr.cell? ⟨w.heap.size, i, none⟩ = _ := fun i => (hb.cell (p := ⟨w.heap.size, i, none⟩) HBX.out.2).trans (HBX.out.1 i)
      have hsz : w.heap.size < wr.heap.size := Nat.lt_of_lt_of_le HBX.out.2 hb.size
      have hlt3 : ((vs.length : Int) - 1 - (vs.length : Int)) = -1 := by omega
      rw [hlt3]
      have l0 := cntL_le 0 vs
      have l1 := cntL_le 1 vs
      have l2 := cntL_le 2 vs
      have f0 : ∀ v, voteB v = true → cntL v (backL vs vs.length) = cntL v vs → cntF v (backL vs vs.length) = (cntL v vs : Int) := fun v hv h => by
        have := of_decide_eq_true hv
        rw [cntF_in this.1 this.2, h]
      have g0 : ∀ v, voteB v = true → cntF v vs = (cntL v vs : Int) := fun v hv => by
        have := of_decide_eq_true hv
        rw [cntF_in this.1 this.2]
      have K0 := hidden (fun V h => Calls.ret_to (Count_any 0 a2 vs.length c2 vs hlv V h) (val_i (g0 0 rfl)))
      have K1 := hidden (fun V h => Calls.ret_to (Count_any 1 a2 vs.length c2 vs hlv V h) (val_i (g0 1 rfl)))
      have K2 := hidden (fun V h => Calls.ret_to (Count_any 2 a2 vs.length c2 vs hlv V h) (val_i (g0 2 rfl)))
      have B0 := hidden (fun V h => Calls.ret_to (Count_any 0 a3 (backL vs vs.length).length c3 (backL vs vs.length) (by omega) V h) (val_i (f0 0 rfl c0)))
      have B1 := hidden (fun V h => Calls.ret_to (Count_any 1 a3 (backL vs vs.length).length c3 (backL vs vs.length) (by omega) V h) (val_i (f0 1 rfl c1)))
      have B2 := hidden (fun V h => Calls.ret_to (Count_any 2 a3 (backL vs vs.length).length c3 (backL vs vs.length) (by omega) V h) (val_i (f0 2 rfl c2')))
      have M1 := hidden (fun V h h2 => Most_any n f d p r dr o sl md fr ad cap zs a2 vs.length c2 vs V hl h hlv h2)
      have L1 := hidden (fun V h h2 => Least_any n f d p r dr o sl md fr ad cap zs now a2 vs.length c2 vs V hl h hlv h2)
      have M2 := hidden (fun V h h2 => Calls.ret_to (Most_any n f d p r dr o sl md fr ad cap zs a3 (backL vs vs.length).length c3 (backL vs vs.length) V hl h (by omega) h2) (val_i (b := mostF (plainE n f d p r dr o sl md fr zs) n f vs) (by unfold mostF; rw [c0, c1])))
      have L2 := hidden (fun V h h2 => Calls.ret_to (Least_any n f d p r dr o sl md fr ad cap zs now a3 (backL vs vs.length).length c3 (backL vs vs.length) V hl h (by omega) h2) (val_i (b := leastF (plainE n f d p r dr o sl md fr zs) f now vs) (by unfold leastF; rw [c0, c1, c2'])))
      clear f0 g0 c0 c1 c2' hown hlt hk HBX
      generalize mostF (plainE n f d p r dr o sl md fr zs) n f vs = ms at *
      generalize leastF (plainE n f d p r dr o sl md fr zs) f now vs = ls at *
      generalize backL vs vs.length = back at *
      generalize cntL 0 vs = x0 at *
      generalize cntL 1 vs = x1 at *
      generalize cntL 2 vs = x2 at *
      have s0 : ∀ x : Int, (x == x) = true := fun x => by simp
      have s1 : IntKind.i64.wrap (0 + (x0 : Int)) = (x0 : Int) := by rw [IntWalk.i64_in _ (by omega)]; omega
      have s2 : IntKind.i64.wrap ((x0 : Int) + (x1 : Int)) = (x0 : Int) + (x1 : Int) := IntWalk.i64_in _ (by omega)
      have s3 : IntKind.i64.wrap ((x0 : Int) + (x1 : Int) + (x2 : Int)) = (back.length : Int) := by rw [IntWalk.i64_in _ (by omega)]; omega
      clear hlen
      have HO := hidden (Below.refl wr.heap.size wr)
      go_wp2
      refine wp_loop_rounds 4 ?_
      rw [rounds_succ]
      go_wp2_with fail
      refine (K0.out _ (HV3.out.later HO.out)).mono ?_
      rintro e y0 ⟨rfl, hb0⟩
      have HP0 := hidden (bthen HO.out hb0)
      clear hb0
      go_wp2_with fail
      refine (B0.out _ (HR.out.later HP0.out)).mono ?_
      rintro e z0 ⟨rfl, hb0⟩
      have HQ0 := hidden (bthen HP0.out hb0)
      clear hb0
      go_wp2_with fail
      refine (K0.out _ (HV3.out.later HQ0.out)).mono ?_
      rintro e x0' ⟨rfl, hb0⟩
      have HX0 := hidden (bthen HQ0.out hb0)
      clear hb0 HQ0 HP0
      go_wp2
      rw [rounds_succ]
      go_wp2_with fail
      refine (K1.out _ (HV3.out.later HX0.out)).mono ?_
      rintro e y1 ⟨rfl, hb1⟩
      have HP1 := hidden (bthen HX0.out hb1)
      clear hb1
      go_wp2_with fail
      refine (B1.out _ (HR.out.later HP1.out)).mono ?_
      rintro e z1 ⟨rfl, hb1⟩
      have HQ1 := hidden (bthen HP1.out hb1)
      clear hb1
      go_wp2_with fail
      refine (K1.out _ (HV3.out.later HQ1.out)).mono ?_
      rintro e x1' ⟨rfl, hb1⟩
      have HX1 := hidden (bthen HQ1.out hb1)
      clear hb1 HQ1 HP1
      go_wp2
      rw [rounds_succ]
      go_wp2_with fail
      refine (K2.out _ (HV3.out.later HX1.out)).mono ?_
      rintro e y2 ⟨rfl, hb2⟩
      have HP2 := hidden (bthen HX1.out hb2)
      clear hb2
      go_wp2_with fail
      refine (B2.out _ (HR.out.later HP2.out)).mono ?_
      rintro e z2 ⟨rfl, hb2⟩
      have HQ2 := hidden (bthen HP2.out hb2)
      clear hb2
      go_wp2_with fail
      refine (K2.out _ (HV3.out.later HQ2.out)).mono ?_
      rintro e x2' ⟨rfl, hb2⟩
      have HX2 := hidden (bthen HQ2.out hb2)
      clear hb2 HQ2 HP2
      go_wp2
      rw [rounds_succ]
      have hbx2 : ∀ i, x2'.cell? ⟨w.heap.size, i, none⟩ = _ := fun i => (HX2.out.cell (p := ⟨w.heap.size, i, none⟩) hsz).trans (hbx i)
      have hsz2 : w.heap.size < x2'.heap.size := Nat.lt_of_lt_of_le hsz HX2.out.size
      have HR4 := hidden (HR.out.later HX2.out)
      have HV4 := hidden (HV3.out.later HX2.out)
      have HT4 := hidden (HT3.out.below HX2.out)
      have HB4 := hidden (bthen HB3.out HX2.out)
      clear HX0 HX1 HX2 hbx hsz
      go_wp2
      refine wp_region_quiet_below (by kernel_rfl) (by kernel_rfl) ?_
      repeat (go_big_quiet_step (fail))
      go_big_quiet_step ((go_at_call 18; exact Calls.regrown_of (M2.out _ (HT4.out.below (below_regrown _ _ _)) (HR4.out.later (below_regrown _ _ _)))))
      repeat (go_big_quiet_step (fail))
      go_big_quiet_step ((go_at_call 18; exact Calls.regrown_of (M1.out _ (HT4.out.below (below_regrown _ _ _)) (HV4.out.later (below_regrown _ _ _)))))
      repeat (go_big_quiet_step (fail))
      go_big_quiet_step ((go_at_call 20; exact Calls.regrown_of (L2.out _ (HT4.out.below (below_regrown _ _ _)) (HR4.out.later (below_regrown _ _ _)))))
      repeat (go_big_quiet_step (fail))
      go_big_quiet_step ((go_at_call 20; exact Calls.regrown_of (L1.out _ (HT4.out.below (below_regrown _ _ _)) (HV4.out.later (below_regrown _ _ _)))))
      repeat (go_big_quiet_step (first | (go_at_call 9; exact Calls.regrown_of (known13_any _))))
      refine wpQuiet_nil ?_
      intro w5 hw5
      have hb5 := rg_below hw5
      clear hw5
      go_wp2
      go_ret
      exact ⟨rfl, bthen HB4.out hb5⟩
end Go.Proofs.Ytklcjfbdneallaa.LawTallyOrder
