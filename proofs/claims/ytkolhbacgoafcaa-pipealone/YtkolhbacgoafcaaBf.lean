/- Several texts of one's own in one: what each proves, and its conditions, is said ahead of it. -/
import Derived.Test.YtkolhbacgoafcaaBe
import Derived.Test.YtkolhbacgoafcaaBa
import Derived.Test.YtkolhbacgoafcaaBc
import Derived.Test.YtkolhbacgoafcaaBd
import Derived.RangeFuncNested
import Derived.RangeFuncBound
import Derived.RangeFuncCalls
import Derived.RangeFuncLeaves
import Derived.Shelf.Abstract
import Derived.Shelf.RegionOpen
import Derived.OwnWalkIn
import Derived.TacticsInMore
import Derived.LoopNIn
import Derived.LoopIn

/- The document's calls Enough, Most and Least return what plain functions give, and make at most new memory; conditions: the table and the votes lie where they say, and lengths fit int. -/
namespace Go.Proofs.Ytkolhbacgoafcaa
open Go.ChangeShapes Go.WideShapes Go.ChangeAt Go.RowKit
set_option linter.unusedVariables false

attribute [local go_sem] cell_rg

set_option maxHeartbeats 2000000 in
theorem rEnough_any (n f d p r dr o sl md fr : Int) (ad : Option Addr) (cap : Nat) (zs : List Int) (v : Int) (a2 : Option Addr) (len c2 : Nat) (vs : List Int) (w : World) (hl : zs.length ≤ 9223372036854775807) (hT : Tab w ad zs) (hlv : vs.length ≤ 9223372036854775807) (hV : kInt.Lies w.heap.size w (.slice a2 len c2) vs) :
    Calls Try.prog 51 #[.agg #[.int .i64 n, .int .i64 f, .int .i64 d, .int .i64 p, .int .i64 r, .int .i64 dr, .int .i64 o, .int .i64 sl, .int .i64 md, .int .i64 fr, .slice ad zs.length cap], .int .i64 v, .slice a2 len c2] w fun e w' => e = .returned (.bool (enoughB (plainE n f d p r dr o sl md fr zs) n f v vs)) ∧ Below w.heap.size w w' := by
  have HT := hidden (hT.below (ballc w (.cells #[.int .i64 n, .int .i64 f, .int .i64 d, .int .i64 p, .int .i64 r, .int .i64 dr, .int .i64 o, .int .i64 sl, .int .i64 md, .int .i64 fr, .slice ad zs.length cap] 24)))
  have HQ := hidden (fun V h => refPlain_any n f d p r dr o sl md fr ad cap zs V hl h)
  have HK := hidden (fun h => plainE_ok (n := n) (f := f) (d := d) (p := p) (r := r) (dr := dr) (o := o) (sl := sl) (md := md) (fr := fr) (zs := zs) h)
  have HV := hidden (hV.later (ballc w (.cells #[.int .i64 n, .int .i64 f, .int .i64 d, .int .i64 p, .int .i64 r, .int .i64 dr, .int .i64 o, .int .i64 sl, .int .i64 md, .int .i64 fr, .slice ad zs.length cap] 24)))
  have C2 := hidden (fun V h => Calls.to_below (rTCount_any v a2 len c2 vs hlv V h))
  clear hT hV
  generalize plainE n f d p r dr o sl md fr zs = E at HQ HK
  by_cases hE : E = 0
  · obtain ⟨n1, n2, f1, f2, n3, _⟩ := HK.out hE
    subst hE
    have HE := hidden (enoughB_ok (E := 0) rfl n f v vs)
    generalize cntF v vs = c at *
    have t1 : IntKind.i64.wrap (n - f) = n - f := IntWalk.i64_in _ (by omega)
    have i0 : ((0 : Int) == 0) = true := rfl
    go_enter Try.func51, Try.ntmps51
    go_wp2
    refine wp_region_quiet_below (by kernel_rfl) (by kernel_rfl) ?_
    repeat (go_big_quiet_step (first | (go_at_call 17; exact Calls.regrown_of (HQ.out _ (HT.out.below (below_regrown _ _ _)))) | (go_at_call 84; exact Calls.regrown_of (C2.out _ (HV.out.later (below_regrown _ _ _))))))
    refine wpQuiet_nil ?_
    intro w2 hw2
    have HB2 : Hid (Below w.heap.size w w2) := bthen (ballc w _) (rg_below hw2)
    clear hw2
    go_wp2
    go_ret
    exact ⟨ret_b HE.out.symm, HB2.out⟩
  · have HE := hidden (enoughB_no hE n f v vs)
    have iE : (E == 0) = false := by simp [hE]
    clear HK
    go_enter Try.func51, Try.ntmps51
    go_wp2
    refine wp_region_quiet_below (by kernel_rfl) (by kernel_rfl) ?_
    repeat (go_big_quiet_step (first | (go_at_call 17; exact Calls.regrown_of (HQ.out _ (HT.out.below (below_regrown _ _ _))))))
    refine wpQuiet_nil ?_
    intro w2 hw2
    have HB2 : Hid (Below w.heap.size w w2) := bthen (ballc w _) (rg_below hw2)
    clear hw2
    go_wp2
    go_ret
    exact ⟨ret_b HE.out.symm, HB2.out⟩

/-- The first exchange by quorums. -/
theorem most_1 {E n f : Int} {vs : List Int} (h : enoughB E n f 1 vs = true) : mostF E n f vs = 1 := by
  have h2 := of_decide_eq_true h
  exact mostF_1 h2.1 (by rw [cntF_in (by decide) (by decide)] at h2; exact h2.2)
theorem most_0 {E n f : Int} {vs : List Int} (h1 : enoughB E n f 1 vs = false) (h : enoughB E n f 0 vs = true) : mostF E n f vs = 0 := by
  have h2 := of_decide_eq_true h
  have h3 := of_decide_eq_false h1
  rw [cntF_in (by decide) (by decide)] at h2 h3
  exact mostF_0 h2.1 (fun k => h3 ⟨h2.1, k⟩) h2.2
theorem most_2 {E n f : Int} {vs : List Int} (h1 : enoughB E n f 1 vs = false) (h : enoughB E n f 0 vs = false) : mostF E n f vs = 2 := by
  by_cases hE : E = 0
  · have h2 := of_decide_eq_false h
    have h3 := of_decide_eq_false h1
    rw [cntF_in (by decide) (by decide)] at h2 h3
    exact mostF_2 hE (fun k => h3 ⟨hE, k⟩) (fun k => h2 ⟨hE, k⟩)
  · exact mostF_no hE _ _ _

set_option maxHeartbeats 2000000 in
theorem rMost_any (n f d p r dr o sl md fr : Int) (ad : Option Addr) (cap : Nat) (zs : List Int) (a2 : Option Addr) (len c2 : Nat) (vs : List Int) (w : World) (hl : zs.length ≤ 9223372036854775807) (hT : Tab w ad zs) (hlv : vs.length ≤ 9223372036854775807) (hV : kInt.Lies w.heap.size w (.slice a2 len c2) vs) :
    Calls Try.prog 49 #[.agg #[.int .i64 n, .int .i64 f, .int .i64 d, .int .i64 p, .int .i64 r, .int .i64 dr, .int .i64 o, .int .i64 sl, .int .i64 md, .int .i64 fr, .slice ad zs.length cap], .slice a2 len c2] w fun e w' => e = .returned (.int .i64 (mostF (plainE n f d p r dr o sl md fr zs) n f vs)) ∧ Below w.heap.size w w' := by
  have C := fun v V h h2 => rEnough_any n f d p r dr o sl md fr ad cap zs v a2 len c2 vs V hl h hlv h2
  have HT := hidden (hT.below (ballc w (.cells #[.int .i64 n, .int .i64 f, .int .i64 d, .int .i64 p, .int .i64 r, .int .i64 dr, .int .i64 o, .int .i64 sl, .int .i64 md, .int .i64 fr, .slice ad zs.length cap] 24)))
  have HV := hidden (hV.later (ballc w (.cells #[.int .i64 n, .int .i64 f, .int .i64 d, .int .i64 p, .int .i64 r, .int .i64 dr, .int .i64 o, .int .i64 sl, .int .i64 md, .int .i64 fr, .slice ad zs.length cap] 24)))
  have C1 := C 1
  have C0 := C 0
  have m1 := fun h => most_1 (E := plainE n f d p r dr o sl md fr zs) (n := n) (f := f) (vs := vs) h
  have m0 := fun h => most_0 (E := plainE n f d p r dr o sl md fr zs) (n := n) (f := f) (vs := vs) h
  have m2 := fun h => most_2 (E := plainE n f d p r dr o sl md fr zs) (n := n) (f := f) (vs := vs) h
  clear C hT hV
  generalize mostF (plainE n f d p r dr o sl md fr zs) n f vs = M at *
  generalize enoughB (plainE n f d p r dr o sl md fr zs) n f 1 vs = q1 at *
  generalize enoughB (plainE n f d p r dr o sl md fr zs) n f 0 vs = q0 at *
  cases q1
  · cases q0
    · have HM := hidden (m2 rfl rfl)
      clear m0 m1 m2
      go_enter Try.func49, Try.ntmps49
      go_wp2_with fail
      refine (C1 _ HT.out HV.out).mono ?_
      rintro e w2 ⟨rfl, hb2⟩
      have HB2 := hidden hb2
      obtain ⟨hbox, hsz⟩ := box_at hb2
      clear hb2 C1
      go_wp2_with fail
      refine (C0 _ (HT.out.below HB2.out) (HV.out.later HB2.out)).mono ?_
      rintro e w3 ⟨rfl, hb3⟩
      have HB3 := hidden (bthen (ballc w _) (bthen HB2.out hb3))
      clear hb3 C0 hbox hsz
      go_wp2
      go_ret
      exact ⟨ret_i HM.out.symm, HB3.out⟩
    · have HM := hidden (m0 rfl rfl)
      clear m0 m1 m2
      go_enter Try.func49, Try.ntmps49
      go_wp2_with fail
      refine (C1 _ HT.out HV.out).mono ?_
      rintro e w2 ⟨rfl, hb2⟩
      have HB2 := hidden hb2
      obtain ⟨hbox, hsz⟩ := box_at hb2
      clear hb2 C1
      go_wp2_with fail
      refine (C0 _ (HT.out.below HB2.out) (HV.out.later HB2.out)).mono ?_
      rintro e w3 ⟨rfl, hb3⟩
      have HB3 := hidden (bthen (ballc w _) (bthen HB2.out hb3))
      clear hb3 C0 hbox hsz
      go_wp2
      go_ret
      exact ⟨ret_i HM.out.symm, HB3.out⟩
  · have HM := hidden (m1 rfl)
    clear m0 m1 m2
    go_enter Try.func49, Try.ntmps49
    go_wp2_with fail
    refine (C1 _ HT.out HV.out).mono ?_
    rintro e w2 ⟨rfl, hb2⟩
    have HB3 := hidden (bthen (ballc w _) hb2)
    clear hb2 C1
    go_wp2
    go_ret
    exact ⟨ret_i HM.out.symm, HB3.out⟩

set_option maxHeartbeats 4000000 in
theorem rLeast_any (n f d p r dr o sl md fr : Int) (ad : Option Addr) (cap : Nat) (zs : List Int) (now : Int) (a2 : Option Addr) (len c2 : Nat) (vs : List Int) (w : World) (hl : zs.length ≤ 9223372036854775807) (hT : Tab w ad zs) (hlv : vs.length ≤ 9223372036854775807) (hV : kInt.Lies w.heap.size w (.slice a2 len c2) vs) :
    Calls Try.prog 50 #[.agg #[.int .i64 n, .int .i64 f, .int .i64 d, .int .i64 p, .int .i64 r, .int .i64 dr, .int .i64 o, .int .i64 sl, .int .i64 md, .int .i64 fr, .slice ad zs.length cap], .int .i64 now, .slice a2 len c2] w fun e w' => e = .returned (.int .i64 (leastF (plainE n f d p r dr o sl md fr zs) f now vs)) ∧ Below w.heap.size w w' := by
  have HQ := hidden (refPlain_any n f d p r dr o sl md fr ad cap zs (w.alloc (.cells #[.int .i64 n, .int .i64 f, .int .i64 d, .int .i64 p, .int .i64 r, .int .i64 dr, .int .i64 o, .int .i64 sl, .int .i64 md, .int .i64 fr, .slice ad zs.length cap] 24)) hl (hT.below (ballc _ _)))
  have HK := hidden (fun h => plainE_ok (n := n) (f := f) (d := d) (p := p) (r := r) (dr := dr) (o := o) (sl := sl) (md := md) (fr := fr) (zs := zs) h)
  have HV := hidden (hV.later (ballc w (.cells #[.int .i64 n, .int .i64 f, .int .i64 d, .int .i64 p, .int .i64 r, .int .i64 dr, .int .i64 o, .int .i64 sl, .int .i64 md, .int .i64 fr, .slice ad zs.length cap] 24)))
  have C := fun v V h => Calls.to_below (rTCount_any v a2 len c2 vs hlv V h)
  have C0 := C 0
  have C1 := C 1
  have C2 := C 2
  rw [cntF_in (by decide) (by decide)] at C0 C1 C2
  have C0 := hidden C0
  have C1 := hidden C1
  have C2 := hidden C2
  clear hT hV C
  generalize plainE n f d p r dr o sl md fr zs = E at HQ HK
  by_cases hE : E = 0
  · obtain ⟨n1, n2, f1, f2, n3, _⟩ := HK.out hE
    subst hE
    have m0 := fun h => leastF_0 (E := 0) rfl (f := f) (now := now) (zs := vs) h
    have m1 := fun h => leastF_1 (E := 0) rfl (f := f) (now := now) (zs := vs) h
    have m2 := fun h => leastF_2 (E := 0) rfl (f := f) (now := now) (zs := vs) h
    have m3 := fun h => leastF_n (E := 0) rfl (f := f) (now := now) (zs := vs) h
    generalize leastF 0 f now vs = M at *
    generalize cntL 0 vs = k0 at *
    generalize cntL 1 vs = k1 at *
    generalize cntL 2 vs = k2 at *
    by_cases h0 : f + 1 ≤ (k0 : Int)
    · have g0 : f < (k0 : Int) := by omega
      have HM := hidden (m0 h0)
      clear m0 m1 m2 m3
      go_enter Try.func50, Try.ntmps50
      go_wp2_with fail
      refine HQ.out.mono ?_
      rintro e w2 ⟨rfl, hb2⟩
      have HV2 := hidden (HV.out.later hb2)
      have HBX := hidden hb2
      obtain ⟨hbox, hsz⟩ := box_at hb2
      clear hb2 HQ HK HV
      go_wp2
      refine wp_loop_rounds 4 ?_
      rw [rounds_succ]
      go_wp2
      refine wp_region_quiet_below (by kernel_rfl) (by kernel_rfl) ?_
      repeat (go_big_quiet_step (first | (go_at_call 84; exact Calls.regrown_of (C0.out _ (HV2.out.later (below_regrown _ _ _))))))
      refine wpQuiet_nil ?_
      intro w3 hw
      have HC := hidden (rg_below hw)
      clear hw
      obtain ⟨hbox, hsz⟩ := box_at (bthen HBX.out HC.out)
      have HV2 := hidden (HV2.out.later HC.out)
      have HBX := hidden (bthen HBX.out HC.out)
      clear HC
      go_wp2
      go_ret
      exact ⟨ret_i HM.out.symm, bthen (ballc w _) HBX.out⟩
    · have g0 : ¬ f < (k0 : Int) := by omega
      by_cases h1 : f + 1 ≤ (k1 : Int)
      · have g1 : f < (k1 : Int) := by omega
        have HM := hidden (m1 h0 h1)
        clear m0 m1 m2 m3
        go_enter Try.func50, Try.ntmps50
        go_wp2_with fail
        refine HQ.out.mono ?_
        rintro e w2 ⟨rfl, hb2⟩
        have HV2 := hidden (HV.out.later hb2)
        have HBX := hidden hb2
        obtain ⟨hbox, hsz⟩ := box_at hb2
        clear hb2 HQ HK HV
        go_wp2
        refine wp_loop_rounds 4 ?_
        rw [rounds_succ]
        go_wp2
        refine wp_region_quiet_below (by kernel_rfl) (by kernel_rfl) ?_
        repeat (go_big_quiet_step (first | (go_at_call 84; exact Calls.regrown_of (C0.out _ (HV2.out.later (below_regrown _ _ _))))))
        refine wpQuiet_nil ?_
        intro w3 hw
        have HC := hidden (rg_below hw)
        clear hw
        obtain ⟨hbox, hsz⟩ := box_at (bthen HBX.out HC.out)
        have HV2 := hidden (HV2.out.later HC.out)
        have HBX := hidden (bthen HBX.out HC.out)
        clear HC
        go_wp2
        rw [rounds_succ]
        go_wp2
        refine wp_region_quiet_below (by kernel_rfl) (by kernel_rfl) ?_
        repeat (go_big_quiet_step (first | (go_at_call 84; exact Calls.regrown_of (C1.out _ (HV2.out.later (below_regrown _ _ _))))))
        refine wpQuiet_nil ?_
        intro w4 hw
        have HC := hidden (rg_below hw)
        clear hw
        obtain ⟨hbox, hsz⟩ := box_at (bthen HBX.out HC.out)
        have HV2 := hidden (HV2.out.later HC.out)
        have HBX := hidden (bthen HBX.out HC.out)
        clear HC
        go_wp2
        go_ret
        exact ⟨ret_i HM.out.symm, bthen (ballc w _) HBX.out⟩
      · have g1 : ¬ f < (k1 : Int) := by omega
        by_cases h2 : f + 1 ≤ (k2 : Int)
        · have g2 : f < (k2 : Int) := by omega
          have HM := hidden (m2 h0 h1 h2)
          clear m0 m1 m2 m3
          go_enter Try.func50, Try.ntmps50
          go_wp2_with fail
          refine HQ.out.mono ?_
          rintro e w2 ⟨rfl, hb2⟩
          have HV2 := hidden (HV.out.later hb2)
          have HBX := hidden hb2
          obtain ⟨hbox, hsz⟩ := box_at hb2
          clear hb2 HQ HK HV
          go_wp2
          refine wp_loop_rounds 4 ?_
          rw [rounds_succ]
          go_wp2
          refine wp_region_quiet_below (by kernel_rfl) (by kernel_rfl) ?_
          repeat (go_big_quiet_step (first | (go_at_call 84; exact Calls.regrown_of (C0.out _ (HV2.out.later (below_regrown _ _ _))))))
          refine wpQuiet_nil ?_
          intro w3 hw
          have HC := hidden (rg_below hw)
          clear hw
          obtain ⟨hbox, hsz⟩ := box_at (bthen HBX.out HC.out)
          have HV2 := hidden (HV2.out.later HC.out)
          have HBX := hidden (bthen HBX.out HC.out)
          clear HC
          go_wp2
          rw [rounds_succ]
          go_wp2
          refine wp_region_quiet_below (by kernel_rfl) (by kernel_rfl) ?_
          repeat (go_big_quiet_step (first | (go_at_call 84; exact Calls.regrown_of (C1.out _ (HV2.out.later (below_regrown _ _ _))))))
          refine wpQuiet_nil ?_
          intro w4 hw
          have HC := hidden (rg_below hw)
          clear hw
          obtain ⟨hbox, hsz⟩ := box_at (bthen HBX.out HC.out)
          have HV2 := hidden (HV2.out.later HC.out)
          have HBX := hidden (bthen HBX.out HC.out)
          clear HC
          go_wp2
          rw [rounds_succ]
          go_wp2
          refine wp_region_quiet_below (by kernel_rfl) (by kernel_rfl) ?_
          repeat (go_big_quiet_step (first | (go_at_call 84; exact Calls.regrown_of (C2.out _ (HV2.out.later (below_regrown _ _ _))))))
          refine wpQuiet_nil ?_
          intro w5 hw
          have HC := hidden (rg_below hw)
          clear hw
          obtain ⟨hbox, hsz⟩ := box_at (bthen HBX.out HC.out)
          have HV2 := hidden (HV2.out.later HC.out)
          have HBX := hidden (bthen HBX.out HC.out)
          clear HC
          go_wp2
          go_ret
          exact ⟨ret_i HM.out.symm, bthen (ballc w _) HBX.out⟩
        · have g2 : ¬ f < (k2 : Int) := by omega
          have HM := hidden (m3 h0 h1 h2)
          clear m0 m1 m2 m3
          go_enter Try.func50, Try.ntmps50
          go_wp2_with fail
          refine HQ.out.mono ?_
          rintro e w2 ⟨rfl, hb2⟩
          have HV2 := hidden (HV.out.later hb2)
          have HBX := hidden hb2
          obtain ⟨hbox, hsz⟩ := box_at hb2
          clear hb2 HQ HK HV
          go_wp2
          refine wp_loop_rounds 4 ?_
          rw [rounds_succ]
          go_wp2
          refine wp_region_quiet_below (by kernel_rfl) (by kernel_rfl) ?_
          repeat (go_big_quiet_step (first | (go_at_call 84; exact Calls.regrown_of (C0.out _ (HV2.out.later (below_regrown _ _ _))))))
          refine wpQuiet_nil ?_
          intro w3 hw
          have HC := hidden (rg_below hw)
          clear hw
          obtain ⟨hbox, hsz⟩ := box_at (bthen HBX.out HC.out)
          have HV2 := hidden (HV2.out.later HC.out)
          have HBX := hidden (bthen HBX.out HC.out)
          clear HC
          go_wp2
          rw [rounds_succ]
          go_wp2
          refine wp_region_quiet_below (by kernel_rfl) (by kernel_rfl) ?_
          repeat (go_big_quiet_step (first | (go_at_call 84; exact Calls.regrown_of (C1.out _ (HV2.out.later (below_regrown _ _ _))))))
          refine wpQuiet_nil ?_
          intro w4 hw
          have HC := hidden (rg_below hw)
          clear hw
          obtain ⟨hbox, hsz⟩ := box_at (bthen HBX.out HC.out)
          have HV2 := hidden (HV2.out.later HC.out)
          have HBX := hidden (bthen HBX.out HC.out)
          clear HC
          go_wp2
          rw [rounds_succ]
          go_wp2
          refine wp_region_quiet_below (by kernel_rfl) (by kernel_rfl) ?_
          repeat (go_big_quiet_step (first | (go_at_call 84; exact Calls.regrown_of (C2.out _ (HV2.out.later (below_regrown _ _ _))))))
          refine wpQuiet_nil ?_
          intro w5 hw
          have HC := hidden (rg_below hw)
          clear hw
          obtain ⟨hbox, hsz⟩ := box_at (bthen HBX.out HC.out)
          have HV2 := hidden (HV2.out.later HC.out)
          have HBX := hidden (bthen HBX.out HC.out)
          clear HC
          go_wp2
          rw [rounds_succ]
          go_wp2
          go_ret
          exact ⟨ret_i HM.out.symm, bthen (ballc w _) HBX.out⟩
  · have HE := hidden (leastF_no hE f now vs)
    clear HK
    go_enter Try.func50, Try.ntmps50
    go_wp2_with fail
    refine HQ.out.mono ?_
    rintro e w2 ⟨rfl, hb2⟩
    have HB2 : Hid (Below w.heap.size w w2) := bthen (ballc w _) hb2
    clear hb2 HQ HV
    go_wp2
    go_ret
    exact ⟨ret_i HE.out.symm, HB2.out⟩
end Go.Proofs.Ytkolhbacgoafcaa

/- The integer calls Clamp, Mod and Sat of the document's answer for layer 1 return what plain functions on integers give, and leave the world as it was; for integers that fit int. -/
namespace Go.Proofs.Ytkolhbacgoafcaa
open Go.ChangeShapes Go.WideShapes Go.ChangeAt Go.RowKit
set_option linter.unusedVariables false

theorem rclamp_any (n lo hi : Int) (w : World) :
    Calls Try.prog 58 #[.int .i64 n, .int .i64 lo, .int .i64 hi] w fun e w' => e = .returned (.int .i64 (clampF n lo hi)) ∧ w = w' := by
  by_cases h1 : n < lo
  · have e : clampF n lo hi = lo := by unfold clampF; rw [if_pos (Or.inl h1)]
    rw [e]; clear e
    go_enter Try.func58, Try.ntmps58
    go_wp2
    go_ret
    exact ⟨by first | rfl | exact ret_i (by omega), rfl⟩
  · by_cases h2 : hi < lo
    · have e : clampF n lo hi = lo := by unfold clampF; rw [if_pos (Or.inr h2)]
      rw [e]; clear e
      go_enter Try.func58, Try.ntmps58
      go_wp2
      go_ret
      exact ⟨by first | rfl | exact ret_i (by omega), rfl⟩
    · by_cases h3 : n ≤ hi
      · have e : clampF n lo hi = n := by unfold clampF; rw [if_neg (by omega), if_pos h3]
        rw [e]; clear e
        go_enter Try.func58, Try.ntmps58
        go_wp2
        go_ret
        exact ⟨by first | rfl | exact ret_i (by omega), rfl⟩
      · have e : clampF n lo hi = hi := by unfold clampF; rw [if_neg (by omega), if_neg h3]
        rw [e]; clear e
        go_enter Try.func58, Try.ntmps58
        go_wp2
        go_ret
        exact ⟨by first | rfl | exact ret_i (by omega), rfl⟩
theorem rmod_any (n b : Int) (w : World) (hn : (Lit.int .i64 n).wf = true) (hb : (Lit.int .i64 b).wf = true) :
    Calls Try.prog 48 #[.int .i64 n, .int .i64 b] w fun e w' => e = .returned (.int .i64 (modF n b)) ∧ w = w' := by
  have bn := bd64 hn
  have bb := bd64 hb
  by_cases h1 : b < 1
  · have e : modF n b = 0 := by unfold modF; rw [if_pos h1]
    rw [e]; clear e
    go_enter Try.func48, Try.ntmps48
    go_wp2
    go_ret
    exact ⟨rfl, rfl⟩
  · by_cases h2 : n.tmod b < 0
    · have e : modF n b = n.tmod b + b := by unfold modF; rw [if_neg h1, if_pos h2]
      rw [e]; clear e
      have hr : -b < n.tmod b := by have := Int.lt_tmod_of_pos n (show 0 < b by omega); omega
      go_enter Try.func48, Try.ntmps48
      go_wp2
      go_ret
      exact ⟨rfl, rfl⟩
    · have e : modF n b = n.tmod b := by unfold modF; rw [if_neg h1, if_neg h2]
      rw [e]; clear e
      go_enter Try.func48, Try.ntmps48
      go_wp2
      go_ret
      exact ⟨rfl, rfl⟩
theorem rsat_any (n m : Int) (w : World) (hn : (Lit.int .i64 n).wf = true) (hm : (Lit.int .i64 m).wf = true) :
    Calls Try.prog 57 #[.int .i64 n, .int .i64 m] w fun e w' => e = .returned (.int .i64 (satF n m)) ∧ w = w' := by
  have bn := bd64 hn
  have bb := bd64 hm
  by_cases h1 : n < 0
  · have e : satF n m = 0 := by unfold satF; rw [if_pos (Or.inl h1)]
    rw [e]; clear e
    go_enter Try.func57, Try.ntmps57
    go_wp2
    go_ret
    exact ⟨rfl, rfl⟩
  · by_cases h2 : m < 0
    · have e : satF n m = 0 := by unfold satF; rw [if_pos (Or.inr h2)]
      rw [e]; clear e
      go_enter Try.func57, Try.ntmps57
      go_wp2
      go_ret
      exact ⟨rfl, rfl⟩
    · by_cases h3 : m ≤ n
      · have e : satF n m = m := by unfold satF; rw [if_neg (by omega), if_pos h3]
        rw [e]; clear e
        go_enter Try.func57, Try.ntmps57
        go_wp2
        go_ret
        exact ⟨rfl, rfl⟩
      · have e : satF n m = n + 1 := by unfold satF; rw [if_neg (by omega), if_neg h3]
        rw [e]; clear e
        go_enter Try.func57, Try.ntmps57
        go_wp2
        go_ret
        exact ⟨rfl, rfl⟩
end Go.Proofs.Ytkolhbacgoafcaa

/- The document's calls Start, value, told, Step, Code and Read of layer 14 return what plain functions give, and make at most new memory; conditions: the table and the votes lie where they say, and lengths and numbers fit int. -/
namespace Go.Proofs.Ytkolhbacgoafcaa
open Go.ChangeShapes Go.WideShapes Go.ChangeAt Go.RowKit
set_option linter.unusedVariables false
attribute [local go_sem] cell_rg

theorem rStart_any (z : Int) (w : World) :
    Calls Try.prog 19 #[.int .i64 z] w fun e w' => e = .returned (agB (startF z)) ∧ Below w.heap.size w w' := by
  by_cases h : z = 1
  · subst h
    go_enter Try.func19, Try.ntmps19
    go_wp2
    exact bodyPost_ret (v := .agg #[.int .i64 1, .bool false]) (by simp [results, Try.results19, go_sem]) rfl ⟨rfl, ballc _ _⟩
  · have e : startF z = (0, false) := if_neg h
    rw [e]
    have e2 : (z == 1) = false := by simp [h]
    go_enter Try.func19, Try.ntmps19
    go_wp2
    exact bodyPost_ret (v := .agg #[.int .i64 0, .bool false]) (by simp [results, Try.results19, go_sem]) rfl ⟨rfl, ballc _ _⟩
theorem rvalue_any (b : Int × Bool) (w : World) :
    Calls Try.prog 47 #[.agg #[.int .i64 b.1, .bool b.2]] w fun e w' => e = .returned (.int .i64 (valF b)) ∧ Below w.heap.size w w' := by
  obtain ⟨v, s⟩ := b
  by_cases h : v < 0
  · rw [valF_lo h]
    have e1 : decide (v < 0) = true := decide_eq_true h
    go_enter Try.func47, Try.ntmps47
    go_wp2
    go_ret
    exact ⟨rfl, ballc _ _⟩
  · have e1 : decide (v < 0) = false := decide_eq_false h
    by_cases h2 : 3 ≤ v
    · rw [valF_hi h h2]
      have e2 : decide (2 < v) = true := decide_eq_true (by omega)
      go_enter Try.func47, Try.ntmps47
      go_wp2
      go_ret
      exact ⟨rfl, ballc _ _⟩
    · rw [valF_in h h2]
      have e2 : decide (2 < v) = false := decide_eq_false (by omega)
      go_enter Try.func47, Try.ntmps47
      go_wp2
      go_ret
      exact ⟨rfl, ballc _ _⟩
theorem rRead_any (c : Int) (w : World) :
    Calls Try.prog 100 #[.int .i64 c] w fun e w' => e = .returned (agB (readK c)) ∧ Below w.heap.size w w' := by
  by_cases h : c < 0
  · have e : readK c = (2, false) := if_pos (.inl h)
    rw [e]
    have e1 : decide (c < 0) = true := decide_eq_true h
    go_enter Try.func100, Try.ntmps100
    go_wp2
    exact bodyPost_ret (v := .agg #[.int .i64 2, .bool false]) (by simp [results, Try.results100, go_sem]) rfl ⟨rfl, ballc _ _⟩
  · have e1 : decide (c < 0) = false := decide_eq_false h
    by_cases h2 : 6 ≤ c
    · have e : readK c = (2, false) := if_pos (.inr h2)
      rw [e]
      have e2 : decide (5 < c) = true := decide_eq_true (by omega)
      go_enter Try.func100, Try.ntmps100
      go_wp2
      exact bodyPost_ret (v := .agg #[.int .i64 2, .bool false]) (by simp [results, Try.results100, go_sem]) rfl ⟨rfl, ballc _ _⟩
    · have e2 : decide (5 < c) = false := decide_eq_false (by omega)
      have e : readK c = (c.tmod 3, decide (3 ≤ c)) := if_neg (by omega)
      rw [e]
      have hc : c = 0 ∨ c = 1 ∨ c = 2 ∨ c = 3 ∨ c = 4 ∨ c = 5 := by omega
      clear e e1 e2 h h2
      rcases hc with rfl | rfl | rfl | rfl | rfl | rfl
      all_goals
        go_enter Try.func100, Try.ntmps100
        go_wp2
        refine bodyPost_ret (v := _) (by simp [results, Try.results100, go_sem]; rfl) rfl ⟨rfl, ?_⟩
        first | exact ballc _ _ | exact below2T (ballc _ _) (Nat.le_refl _) _ _
theorem rCode_any (b : Int × Bool) (w : World) :
    Calls Try.prog 22 #[.agg #[.int .i64 b.1, .bool b.2]] w fun e w' => e = .returned (.int .i64 (codeF b)) ∧ Below w.heap.size w w' := by
  obtain ⟨v, s⟩ := b
  have HV := hidden (fun V => rvalue_any (v, s) V)
  have hq := valF_bd (v, s)
  cases s
  · have e : codeF (v, false) = valF (v, false) := if_neg (by simp)
    rw [e]
    generalize valF (v, false) = q at *
    go_enter Try.func22, Try.ntmps22
    go_wp2_with fail
    refine (HV.out _).mono ?_
    rintro e w2 ⟨rfl, hb⟩
    have HB := hidden (bthen (ballc w _) hb)
    clear hb
    go_wp2
    go_ret
    exact ⟨rfl, HB.out⟩
  · have e : codeF (v, true) = valF (v, true) + 3 := (if_pos rfl).trans (Int.add_comm _ _)
    rw [e]
    generalize valF (v, true) = q at *
    go_enter Try.func22, Try.ntmps22
    go_wp2_with fail
    refine (HV.out _).mono ?_
    rintro e w2 ⟨rfl, hb⟩
    have HB := hidden (bthen (ballc w _) hb)
    clear hb
    go_wp2
    go_ret
    exact ⟨rfl, HB.out⟩

def toldF (k : Int) : Int := if k = 1 ∨ k = 2 then 1 else 0
theorem rtold_any (k : Int) (w : World) :
    Calls Try.prog 52 #[.int .i64 k] w fun e w' => e = .returned (.int .i64 (toldF k)) ∧ w = w' := by
  by_cases h1 : k = 1
  · subst h1
    go_enter Try.func52, Try.ntmps52
    go_wp2
    go_ret
    exact ⟨rfl, rfl⟩
  · have e1 : (k == 1) = false := by simp [h1]
    by_cases h2 : k = 2
    · subst h2
      clear h1
      go_enter Try.func52, Try.ntmps52
      go_wp2
      go_ret
      exact ⟨rfl, rfl⟩
    · have e2 : (k == 2) = false := by simp [h2]
      have e : toldF k = 0 := if_neg (by omega)
      rw [e]
      go_enter Try.func52, Try.ntmps52
      go_wp2
      go_ret
      exact ⟨rfl, rfl⟩
theorem obey_told {b : Int × Bool} {k : Int} (h : valF b = 2 ∨ b.2 = false) : obeyF b k = (toldF k, false) := by
  have hn : ¬ (valF b ≠ 2 ∧ b.2 = true) := by rintro ⟨h1, h2⟩; rcases h with h | h; exact h1 h; rw [h] at h2; cases h2
  unfold toldF
  by_cases h2 : k = 1 ∨ k = 2
  · rw [if_pos h2]; exact obeyF_1 hn h2
  · rw [if_neg h2]; exact obeyF_0 hn h2
set_option maxHeartbeats 2000000 in
theorem rKStep_any (n f d p r dr o sl md fr : Int) (ad : Option Addr) (cap : Nat) (zs : List Int) (x : Int) (b : Int × Bool) (k : Int) (a2 : Option Addr) (len c2 : Nat) (vs : List Int) (w : World) (hl : zs.length ≤ 9223372036854775807) (hT : Tab w ad zs) (hx : (Lit.int .i64 x).wf = true) (hlv : vs.length ≤ 9223372036854775807) (hV : kInt.Lies w.heap.size w (.slice a2 len c2) vs) :
    Calls Try.prog 21 #[.agg #[.int .i64 n, .int .i64 f, .int .i64 d, .int .i64 p, .int .i64 r, .int .i64 dr, .int .i64 o, .int .i64 sl, .int .i64 md, .int .i64 fr, .slice ad zs.length cap], .int .i64 x, .agg #[.int .i64 b.1, .bool b.2], .int .i64 k, .slice a2 len c2] w fun e w' => e = .returned (agB (stepF (plainE n f d p r dr o sl md fr zs) n f x b k vs)) ∧ Below w.heap.size w w' := by
  have hB0 : Below w.heap.size w (((w.alloc (.cells #[.int .i64 n, .int .i64 f, .int .i64 d, .int .i64 p, .int .i64 r, .int .i64 dr, .int .i64 o, .int .i64 sl, .int .i64 md, .int .i64 fr, .slice ad zs.length cap] 24)).alloc (.cells #[.int .i64 b.1, .bool b.2] 40)).alloc (.cells #[.int .i64 0, .bool false] 40)) := bthen (bthen (ballc w _) (ballc _ _)) (ballc _ _)
  have HT := hidden (hT.below hB0)
  have HV := hidden (hV.later hB0)
  have hk0 := blk_later (blk_later (blk_nw w #[.int .i64 n, .int .i64 f, .int .i64 d, .int .i64 p, .int .i64 r, .int .i64 dr, .int .i64 o, .int .i64 sl, .int .i64 md, .int .i64 fr, .slice ad zs.length cap] 24) (ballc _ (.cells #[.int .i64 b.1, .bool b.2] 40))) (ballc _ (.cells #[.int .i64 0, .bool false] 40))
  have hk1 := blk_later (blk_newAt (w.alloc (.cells #[.int .i64 n, .int .i64 f, .int .i64 d, .int .i64 p, .int .i64 r, .int .i64 dr, .int .i64 o, .int .i64 sl, .int .i64 md, .int .i64 fr, .slice ad zs.length cap] 24)) #[.int .i64 b.1, .bool b.2] 40 (b := w.heap.size + 1) (by simp)) (ballc _ (.cells #[.int .i64 0, .bool false] 40))
  have hk2 := blk_newAt ((w.alloc (.cells #[.int .i64 n, .int .i64 f, .int .i64 d, .int .i64 p, .int .i64 r, .int .i64 dr, .int .i64 o, .int .i64 sl, .int .i64 md, .int .i64 fr, .slice ad zs.length cap] 24)).alloc (.cells #[.int .i64 b.1, .bool b.2] 40)) #[.int .i64 0, .bool false] 40 (b := w.heap.size + 2) (by simp)
  have HK0 := hidden hk0
  have HK1 := hidden hk1
  have HK2 := hidden hk2
  have HB0 := hidden hB0
  have M1 := hidden (fun V h h2 => rMost_any n f d p r dr o sl md fr ad cap zs a2 len c2 vs V hl h hlv h2)
  have L1 := hidden (fun V h h2 => rLeast_any n f d p r dr o sl md fr ad cap zs (valF b) a2 len c2 vs V hl h hlv h2)
  have E1 := hidden (fun v V h h2 => rEnough_any n f d p r dr o sl md fr ad cap zs v a2 len c2 vs V hl h hlv h2)
  have TO := hidden (fun V => rtold_any k V)
  have ot := obey_told (b := b) (k := k)
  have os := obeyF_s (b := b) (k := k)
  have VA := hidden (fun V => rvalue_any b V)
  have HM := hidden (fun V => rmod_any x 3 V hx rfl)
  have s0 := stepF_0 (E := plainE n f d p r dr o sl md fr zs) (n := n) (f := f) (x := x) (b := b) (k := k) (vs := vs)
  have s1 := stepF_1 (E := plainE n f d p r dr o sl md fr zs) (n := n) (f := f) (x := x) (b := b) (k := k) (vs := vs)
  have s2 := stepF_2 (E := plainE n f d p r dr o sl md fr zs) (n := n) (f := f) (x := x) (b := b) (k := k) (vs := vs)
  have h3 := modF3 x
  clear hT hV hB0 hk0 hk1 hk2
  generalize plainE n f d p r dr o sl md fr zs = E at *
  generalize stepF E n f x b k vs = r at *
  obtain ⟨bv, bs⟩ := b
  dsimp only at *
  generalize mostF E n f vs = ms at *
  generalize valF (bv, bs) = q at *
  generalize leastF E f q vs = ls at *
  generalize modF x 3 = m at *
  have hm : m = 0 ∨ m = 1 ∨ m = 2 := by omega
  clear h3 hx
  rcases hm with rfl | rfl | rfl
  · obtain rfl := s0 rfl
    clear s0 s1 s2 L1 E1 TO ot os
    go_enter Try.func21, Try.ntmps21
    go_wp2_with fail
    generalize (((w.alloc (.cells #[.int .i64 n, .int .i64 f, .int .i64 d, .int .i64 p, .int .i64 r, .int .i64 dr, .int .i64 o, .int .i64 sl, .int .i64 md, .int .i64 fr, .slice ad zs.length cap] 24)).alloc (.cells #[.int .i64 bv, .bool bs] 40)).alloc (.cells #[.int .i64 0, .bool false] 40)) = W0 at *
    refine (VA.out _).mono ?_
    rintro e wv ⟨rfl, hb⟩
    have HB_wv := hidden (hb)
    clear hb
    have c0 := fun i => blk_cell (blk_later HK0.out HB_wv.out) i
    have c1 := fun i => blk_cell (blk_later HK1.out HB_wv.out) i
    have c2' := fun i => blk_cell (blk_later HK2.out HB_wv.out) i
    have l0 := blk_lt (blk_later HK0.out HB_wv.out)
    have l1 := blk_lt (blk_later HK1.out HB_wv.out)
    have l2 := blk_lt (blk_later HK2.out HB_wv.out)
    have fz := fun i => blk_frozen (blk_later HK2.out HB_wv.out) i
    go_wp2_with fail
    refine (HM.out _).mono ?_
    rintro e wm ⟨rfl, rfl⟩
    go_wp2_with fail
    refine (M1.out _ (HT.out.below HB_wv.out) (HV.out.later HB_wv.out)).mono ?_
    rintro e wa ⟨rfl, hb⟩
    have HB_wa := hidden (bthen HB_wv.out hb)
    clear hb c0 c1 c2' l0 l1 l2 fz
    have c0 := fun i => blk_cell (blk_later HK0.out HB_wa.out) i
    have c1 := fun i => blk_cell (blk_later HK1.out HB_wa.out) i
    have c2' := fun i => blk_cell (blk_later HK2.out HB_wa.out) i
    have l0 := blk_lt (blk_later HK0.out HB_wa.out)
    have l1 := blk_lt (blk_later HK1.out HB_wa.out)
    have l2 := blk_lt (blk_later HK2.out HB_wa.out)
    have fz := fun i => blk_frozen (blk_later HK2.out HB_wa.out) i
    go_wp2
    obtain ⟨r0, r1⟩ := read2T (blk_later HK2.out HB_wa.out) (.int .i64 ms) (.bool false)
    exact bodyPost_ret (v := .agg #[.int .i64 ms, .bool false]) (by simp [results, Try.results21, go_sem, r0, r1]) rfl ⟨rfl, below2T (bthen HB0.out HB_wa.out) (by omega) _ _⟩
  · obtain rfl := s1 rfl
    clear s0 s1 s2 M1 TO ot os
    have E2 := hidden (E1.out ls)
    clear E1
    generalize enoughB E n f ls vs = en at *
    go_enter Try.func21, Try.ntmps21
    go_wp2_with fail
    generalize (((w.alloc (.cells #[.int .i64 n, .int .i64 f, .int .i64 d, .int .i64 p, .int .i64 r, .int .i64 dr, .int .i64 o, .int .i64 sl, .int .i64 md, .int .i64 fr, .slice ad zs.length cap] 24)).alloc (.cells #[.int .i64 bv, .bool bs] 40)).alloc (.cells #[.int .i64 0, .bool false] 40)) = W0 at *
    refine (VA.out _).mono ?_
    rintro e wv ⟨rfl, hb⟩
    have HB_wv := hidden (hb)
    clear hb
    have c0 := fun i => blk_cell (blk_later HK0.out HB_wv.out) i
    have c1 := fun i => blk_cell (blk_later HK1.out HB_wv.out) i
    have c2' := fun i => blk_cell (blk_later HK2.out HB_wv.out) i
    have l0 := blk_lt (blk_later HK0.out HB_wv.out)
    have l1 := blk_lt (blk_later HK1.out HB_wv.out)
    have l2 := blk_lt (blk_later HK2.out HB_wv.out)
    have fz := fun i => blk_frozen (blk_later HK2.out HB_wv.out) i
    go_wp2_with fail
    refine (HM.out _).mono ?_
    rintro e wm ⟨rfl, rfl⟩
    go_wp2_with fail
    refine (HM.out _).mono ?_
    rintro e wm2 ⟨rfl, rfl⟩
    go_wp2_with fail
    refine (L1.out _ (HT.out.below HB_wv.out) (HV.out.later HB_wv.out)).mono ?_
    rintro e wb ⟨rfl, hb⟩
    have HB_wb := hidden (bthen HB_wv.out hb)
    clear hb c0 c1 c2' l0 l1 l2 fz
    have c0 := fun i => blk_cell (blk_later HK0.out HB_wb.out) i
    have c1 := fun i => blk_cell (blk_later HK1.out HB_wb.out) i
    have c2' := fun i => blk_cell (blk_later HK2.out HB_wb.out) i
    have l0 := blk_lt (blk_later HK0.out HB_wb.out)
    have l1 := blk_lt (blk_later HK1.out HB_wb.out)
    have l2 := blk_lt (blk_later HK2.out HB_wb.out)
    have fz := fun i => blk_frozen (blk_later HK2.out HB_wb.out) i
    go_wp2_with fail
    refine (E2.out _ (HT.out.below HB_wb.out) (HV.out.later HB_wb.out)).mono ?_
    rintro e wc ⟨rfl, hb⟩
    have HB_wc := hidden (bthen HB_wb.out hb)
    clear hb c0 c1 c2' l0 l1 l2 fz
    have c0 := fun i => blk_cell (blk_later HK0.out HB_wc.out) i
    have c1 := fun i => blk_cell (blk_later HK1.out HB_wc.out) i
    have c2' := fun i => blk_cell (blk_later HK2.out HB_wc.out) i
    have l0 := blk_lt (blk_later HK0.out HB_wc.out)
    have l1 := blk_lt (blk_later HK1.out HB_wc.out)
    have l2 := blk_lt (blk_later HK2.out HB_wc.out)
    have fz := fun i => blk_frozen (blk_later HK2.out HB_wc.out) i
    go_wp2
    obtain ⟨r0, r1⟩ := read2T (blk_later HK2.out HB_wc.out) (.int .i64 ls) (.bool en)
    exact bodyPost_ret (v := .agg #[.int .i64 ls, .bool en]) (by simp [results, Try.results21, go_sem, r0, r1]) rfl ⟨rfl, below2T (bthen HB0.out HB_wc.out) (by omega) _ _⟩
  · obtain rfl := s2 rfl
    clear s0 s1 s2 M1 L1 E1
    by_cases hq : q = 2
    · have g1 : (q == 2) = true := by simp [hq]
      rw [ot (.inl hq)]
      generalize toldF k = tk at *
      clear ot os
      go_enter Try.func21, Try.ntmps21
      go_wp2_with fail
      generalize (((w.alloc (.cells #[.int .i64 n, .int .i64 f, .int .i64 d, .int .i64 p, .int .i64 r, .int .i64 dr, .int .i64 o, .int .i64 sl, .int .i64 md, .int .i64 fr, .slice ad zs.length cap] 24)).alloc (.cells #[.int .i64 bv, .bool bs] 40)).alloc (.cells #[.int .i64 0, .bool false] 40)) = W0 at *
      refine (VA.out _).mono ?_
      rintro e wv ⟨rfl, hb⟩
      have HB_wv := hidden (hb)
      clear hb
      have c0 := fun i => blk_cell (blk_later HK0.out HB_wv.out) i
      have c1 := fun i => blk_cell (blk_later HK1.out HB_wv.out) i
      have c2' := fun i => blk_cell (blk_later HK2.out HB_wv.out) i
      have l0 := blk_lt (blk_later HK0.out HB_wv.out)
      have l1 := blk_lt (blk_later HK1.out HB_wv.out)
      have l2 := blk_lt (blk_later HK2.out HB_wv.out)
      have fz := fun i => blk_frozen (blk_later HK2.out HB_wv.out) i
      go_wp2_with fail
      refine (HM.out _).mono ?_
      rintro e wm ⟨rfl, rfl⟩
      go_wp2_with fail
      refine (HM.out _).mono ?_
      rintro e wm2 ⟨rfl, rfl⟩
      go_wp2_with fail
      refine (TO.out _).mono ?_
      rintro e wt ⟨rfl, rfl⟩
      go_wp2
      obtain ⟨r0, r1⟩ := read2T (blk_later HK2.out HB_wv.out) (.int .i64 tk) (.bool false)
      exact bodyPost_ret (v := .agg #[.int .i64 tk, .bool false]) (by simp [results, Try.results21, go_sem, r0, r1]) rfl ⟨rfl, below2T (bthen HB0.out HB_wv.out) (by omega) _ _⟩
    · have g1 : (q == 2) = false := by simp [hq]
      cases bs
      · rw [ot (.inr rfl)]
        generalize toldF k = tk at *
        clear ot os
        go_enter Try.func21, Try.ntmps21
        go_wp2_with fail
        generalize (((w.alloc (.cells #[.int .i64 n, .int .i64 f, .int .i64 d, .int .i64 p, .int .i64 r, .int .i64 dr, .int .i64 o, .int .i64 sl, .int .i64 md, .int .i64 fr, .slice ad zs.length cap] 24)).alloc (.cells #[.int .i64 bv, .bool false] 40)).alloc (.cells #[.int .i64 0, .bool false] 40)) = W0 at *
        refine (VA.out _).mono ?_
        rintro e wv ⟨rfl, hb⟩
        have HB_wv := hidden (hb)
        clear hb
        have c0 := fun i => blk_cell (blk_later HK0.out HB_wv.out) i
        have c1 := fun i => blk_cell (blk_later HK1.out HB_wv.out) i
        have c2' := fun i => blk_cell (blk_later HK2.out HB_wv.out) i
        have l0 := blk_lt (blk_later HK0.out HB_wv.out)
        have l1 := blk_lt (blk_later HK1.out HB_wv.out)
        have l2 := blk_lt (blk_later HK2.out HB_wv.out)
        have fz := fun i => blk_frozen (blk_later HK2.out HB_wv.out) i
        go_wp2_with fail
        refine (HM.out _).mono ?_
        rintro e wm ⟨rfl, rfl⟩
        go_wp2_with fail
        refine (HM.out _).mono ?_
        rintro e wm2 ⟨rfl, rfl⟩
        go_wp2_with fail
        refine (TO.out _).mono ?_
        rintro e wt ⟨rfl, rfl⟩
        go_wp2
        obtain ⟨r0, r1⟩ := read2T (blk_later HK2.out HB_wv.out) (.int .i64 tk) (.bool false)
        exact bodyPost_ret (v := .agg #[.int .i64 tk, .bool false]) (by simp [results, Try.results21, go_sem, r0, r1]) rfl ⟨rfl, below2T (bthen HB0.out HB_wv.out) (by omega) _ _⟩
      · rw [os hq rfl]
        clear ot os TO
        go_enter Try.func21, Try.ntmps21
        go_wp2_with fail
        generalize (((w.alloc (.cells #[.int .i64 n, .int .i64 f, .int .i64 d, .int .i64 p, .int .i64 r, .int .i64 dr, .int .i64 o, .int .i64 sl, .int .i64 md, .int .i64 fr, .slice ad zs.length cap] 24)).alloc (.cells #[.int .i64 bv, .bool true] 40)).alloc (.cells #[.int .i64 0, .bool false] 40)) = W0 at *
        refine (VA.out _).mono ?_
        rintro e wv ⟨rfl, hb⟩
        have HB_wv := hidden (hb)
        clear hb
        have c0 := fun i => blk_cell (blk_later HK0.out HB_wv.out) i
        have c1 := fun i => blk_cell (blk_later HK1.out HB_wv.out) i
        have c2' := fun i => blk_cell (blk_later HK2.out HB_wv.out) i
        have l0 := blk_lt (blk_later HK0.out HB_wv.out)
        have l1 := blk_lt (blk_later HK1.out HB_wv.out)
        have l2 := blk_lt (blk_later HK2.out HB_wv.out)
        have fz := fun i => blk_frozen (blk_later HK2.out HB_wv.out) i
        go_wp2_with fail
        refine (HM.out _).mono ?_
        rintro e wm ⟨rfl, rfl⟩
        go_wp2_with fail
        refine (HM.out _).mono ?_
        rintro e wm2 ⟨rfl, rfl⟩
        go_wp2
        obtain ⟨r0, r1⟩ := read2T (blk_later HK2.out HB_wv.out) (.int .i64 q) (.bool false)
        exact bodyPost_ret (v := .agg #[.int .i64 q, .bool false]) (by simp [results, Try.results21, go_sem, r0, r1]) rfl ⟨rfl, below2T (bthen HB0.out HB_wv.out) (by omega) _ _⟩
end Go.Proofs.Ytkolhbacgoafcaa

/- The document's own Byte returns a text of one byte, and makes at most new memory; no conditions. -/
namespace Go.Proofs.Ytkolhbacgoafcaa
open Go.ChangeShapes Go.WideShapes Go.ChangeAt Go.RowKit
set_option linter.unusedVariables false

theorem rbyte_any (n : Int) (w : World) :
    Calls Try.prog 40 #[.int .i64 n] w fun e w' => e = .returned (.string (numStr [n % 256])) ∧ Below w.heap.size w w' := by
  have hcv := conv_cells w [n % 256] 1
  simp only [List.map_cons, List.map_nil, List.length_cons, List.length_nil, Nat.zero_add] at hcv
  go_enter Try.func40, Try.ntmps40
  go_wp2
  go_ret
  exact ⟨rfl, (Below.refl _ _).alloc (Nat.le_refl _) _⟩
theorem numStr_size (zs : List Int) : (numStr zs).size = zs.length := by simp [numStr, ByteArray.size]
theorem numStr_append (a b : List Int) : numStr a ++ numStr b = numStr (a ++ b) := by
  apply ByteArray.ext
  simp [numStr, ByteArray.data_append]
theorem numStr_nil : (ByteArray.mk #[]) = numStr [] := rfl
end Go.Proofs.Ytkolhbacgoafcaa

/- The document's calls bit, code, digit, Of, Values, Vote, Step, Number and Bits of layer 16 return what plain functions give, and make at most new memory; conditions: rows lie where they say, lengths fit int. -/
namespace Go.Proofs.Ytkolhbacgoafcaa
open Go.ChangeShapes Go.WideShapes Go.ChangeAt Go.RowKit
set_option linter.unusedVariables false
attribute [local go_sem] cell_rg

def ubit (c : Int) : Int := if c = 49 then 1 else 0
theorem ubit_vdg {s : ByteArray} {k : Nat} (h : k < s.size) : ubit ((s[k]'h).toNat : Int) = if vdg 1 s k = 1 then 1 else 0 := by
  unfold ubit vdg
  rw [dif_pos h]
  generalize ((s[k]'h).toNat : Int) = c
  by_cases e : c = 49
  · subst e; decide
  · rw [if_neg e]
    symm
    apply if_neg
    split <;> omega
theorem start_ubit {s : ByteArray} {k : Nat} (h : k < s.size) : startF (ubit ((s[k]'h).toNat : Int)) = startF (vdg 1 s k) := by
  rw [ubit_vdg h]
  unfold startF
  by_cases e : vdg 1 s k = 1 <;> simp [e]
theorem rdigit_any (b : Int × Bool) (w : World) :
    Calls Try.prog 102 #[.agg #[.int .i64 b.1, .bool b.2]] w fun e w' => e = .returned (.string (ba [UInt8.ofNat (48 + (codeF b).toNat)])) ∧ Below w.heap.size w w' := by
  obtain ⟨v, s⟩ := b
  have C1 := hidden (fun V => rCode_any (v, s) V)
  have hb := codeF_bd (v, s)
  generalize codeF (v, s) = q at *
  have C2 := hidden (fun V => rbyte_any (48 + q) V)
  have HE : Hid (numStr [(48 + q) % 256] = ba [UInt8.ofNat (48 + q.toNat)]) := by
    show _ = _
    rw [numStr_one, show ((48 + q) % 256).toNat = 48 + q.toNat by omega]
  rw [HE.out] at C2
  dsimp only at C1
  generalize ba [UInt8.ofNat (48 + q.toNat)] = out at *
  go_enter Try.func102, Try.ntmps102
  go_wp2_with fail
  refine (C1.out _).mono ?_
  rintro e w2 ⟨rfl, hb⟩
  have HB2 := hidden (bthen (ballc w _) hb)
  clear hb
  go_wp2_with fail
  refine (C2.out _).mono ?_
  rintro e w3 ⟨rfl, hb⟩
  have HB3 := hidden (bthen HB2.out hb)
  clear hb
  go_wp2
  go_ret
  exact ⟨rfl, HB3.out⟩
theorem rcode_any (s : ByteArray) (k : Nat) (h : k < s.size) (w : World) :
    Calls Try.prog 75 #[.int .u8 ((s[k]'h).toNat : Int)] w fun e w' => e = .returned (agB (bitK s k)) ∧ Below w.heap.size w w' := by
  have HB : Hid (bitK s k = readK (vdg 5 s k)) := rfl
  have hno := fun q => vdg_no (last := 5) h q
  have hin := fun q r => vdg_in (last := 5) h q r
  have hlt := (s[k]'h).toNat_lt
  rw [HB.out]
  generalize vdg 5 s k = z at *
  generalize hc : ((s[k]'h).toNat : Int) = c at *
  have hc0 : 0 ≤ c ∧ c < 256 := by omega
  clear hc hlt HB
  by_cases h1 : c < 48
  · obtain rfl := hno (.inl h1)
    have d1 : decide (c < 48) = true := decide_eq_true h1
    have C1 := hidden (fun V => rRead_any (-1) V)
    generalize readK (-1) = b at *
    obtain ⟨bv, bs⟩ := b
    unfold agB at C1 ⊢
    dsimp only at C1 ⊢
    clear hno hin h1
    go_enter Try.func75, Try.ntmps75
    go_wp2_with fail
    refine (C1.out _).mono ?_
    rintro e w2 ⟨rfl, hb⟩
    have hk := blk_later (blk_nw w #[.int .i64 0, .bool false] 40) hb
    have c0 := fun i => blk_cell hk i
    have f0 := fun i => blk_frozen hk i
    have l0 := blk_lt hk
    have HB := hidden (bthen (ballc w _) hb)
    have HK := hidden hk
    clear hb hk
    go_wp2
    obtain ⟨r0, r1⟩ := read2T HK.out (.int .i64 bv) (.bool bs)
    exact bodyPost_ret (v := .agg #[.int .i64 bv, .bool bs]) (by simp [results, Try.results75, go_sem, r0, r1]) rfl ⟨rfl, below2T HB.out (Nat.le_refl _) _ _⟩
  · have d1 : decide (c < 48) = false := decide_eq_false h1
    by_cases h2 : 53 < c
    · obtain rfl := hno (.inr (by omega))
      have d2 : decide (53 < c) = true := decide_eq_true h2
      have C1 := hidden (fun V => rRead_any (-1) V)
      generalize readK (-1) = b at *
      obtain ⟨bv, bs⟩ := b
      unfold agB at C1 ⊢
      dsimp only at C1 ⊢
      clear hno hin h1 h2
      go_enter Try.func75, Try.ntmps75
      go_wp2_with fail
      refine (C1.out _).mono ?_
      rintro e w2 ⟨rfl, hb⟩
      have hk := blk_later (blk_nw w #[.int .i64 0, .bool false] 40) hb
      have c0 := fun i => blk_cell hk i
      have f0 := fun i => blk_frozen hk i
      have l0 := blk_lt hk
      have HB := hidden (bthen (ballc w _) hb)
      have HK := hidden hk
      clear hb hk
      go_wp2
      obtain ⟨r0, r1⟩ := read2T HK.out (.int .i64 bv) (.bool bs)
      exact bodyPost_ret (v := .agg #[.int .i64 bv, .bool bs]) (by simp [results, Try.results75, go_sem, r0, r1]) rfl ⟨rfl, below2T HB.out (Nat.le_refl _) _ _⟩
    · have d2 : decide (53 < c) = false := decide_eq_false h2
      have e := hin h1 (by omega)
      have C1 := hidden (fun V => rRead_any (c - 48) V)
      rw [e]
      generalize readK (c - 48) = b at *
      obtain ⟨bv, bs⟩ := b
      unfold agB at C1 ⊢
      dsimp only at C1 ⊢
      clear hno hin e
      go_enter Try.func75, Try.ntmps75
      go_wp2_with fail
      refine (C1.out _).mono ?_
      rintro e w2 ⟨rfl, hb⟩
      have hk := blk_later (blk_nw w #[.int .i64 0, .bool false] 40) hb
      have c0 := fun i => blk_cell hk i
      have f0 := fun i => blk_frozen hk i
      have l0 := blk_lt hk
      have HB := hidden (bthen (ballc w _) hb)
      have HK := hidden hk
      clear hb hk
      go_wp2
      obtain ⟨r0, r1⟩ := read2T HK.out (.int .i64 bv) (.bool bs)
      exact bodyPost_ret (v := .agg #[.int .i64 bv, .bool bs]) (by simp [results, Try.results75, go_sem, r0, r1]) rfl ⟨rfl, below2T HB.out (Nat.le_refl _) _ _⟩
theorem rVote_any (s : ByteArray) (k : Nat) (w : World) (hs : s.size ≤ 9223372036854775807) :
    Calls Try.prog 20 #[.string s, .int .i64 (k : Int)] w fun e w' => e = .returned (.int .i64 (vdg 2 s k)) ∧ w = w' := by
  have d0 : decide ((k : Int) < 0) = false := decide_eq_false (by omega)
  by_cases h2 : s.size ≤ k
  · have d3 : decide (s.size ≤ k) = true := decide_eq_true h2
    have d3' : (s.size : Int) ≤ (k : Int) := by omega
    have e := hidden (vdg_out (last := 2) h2)
    go_enter Try.func20, Try.ntmps20
    go_wp2
    go_ret
    exact ⟨ret_i e.out.symm, rfl⟩
  · have hj : k < s.size := by omega
    have d2 : decide (s.size ≤ k) = false := decide_eq_false h2
    have d3 : decide ((s.size : Int) ≤ (k : Int)) = false := decide_eq_false (by omega)
    have hb := (s[k]'hj).toNat_lt
    by_cases h3 : ((s[k]'hj).toNat : Int) < 48
    · have e := hidden (vdg_no (last := 2) hj (.inl h3))
      have d4 : decide (((s[k]'hj).toNat : Int) < 48) = true := decide_eq_true h3
      go_enter Try.func20, Try.ntmps20
      go_wp2
      go_ret
      exact ⟨ret_i e.out.symm, rfl⟩
    · have d4 : decide (((s[k]'hj).toNat : Int) < 48) = false := decide_eq_false h3
      by_cases h4 : (50 : Int) < ((s[k]'hj).toNat : Int)
      · have e := hidden (vdg_no (last := 2) hj (.inr h4))
        have d5 : decide ((50 : Int) < ((s[k]'hj).toNat : Int)) = true := decide_eq_true h4
        go_enter Try.func20, Try.ntmps20
        go_wp2
        go_ret
        exact ⟨ret_i e.out.symm, rfl⟩
      · have e := hidden (vdg_in (last := 2) hj h3 h4)
        have d5 : decide ((50 : Int) < ((s[k]'hj).toNat : Int)) = false := decide_eq_false h4
        go_enter Try.func20, Try.ntmps20
        go_wp2
        go_ret
        exact ⟨ret_i e.out.symm, rfl⟩
set_option maxHeartbeats 1000000 in
theorem rValues_any (s : ByteArray) (hs : s.size ≤ 100000) (w : World) :
    Calls Try.prog 35 #[.string s] w fun e w' => e = .returned (.string (dgB s.size (valG s))) ∧ Below w.heap.size w w' := by
  go_enter Try.func35, Try.ntmps35
  go_wp2
  go_loopw [3, 4] (fun a i wr => ∃ k : Nat, k ≤ s.size ∧ i = .int .i64 k ∧ a = .string (dgB k (valG s)) ∧ Below w.heap.size w wr) (fun _ i _ => s.size - (intV i).toNat)
  case atStart => exact ⟨0, Nat.zero_le _, rfl, rfl, Below.refl _ _⟩
  case round =>
    obtain ⟨k, hk, rfl, rfl, hB⟩ := hrel
    have HB := hidden hB
    clear hB
    by_cases hlt : k < s.size
    · have i2 : (k : Int) < (s.size : Int) := by omega
      have C1 := hidden (fun V => rcode_any s k hlt V)
      have hv := valG_int s k
      have hbd := valG_bd s k
      have z1 : (dgB k (valG s)).size ≤ 100000 := by rw [dgB_size]; omega
      have z2 : ∀ c, (ba [c]).size = 1 := fun _ => rfl
      have HS : Hid (dgB (k + 1) (valG s) = dgB k (valG s) ++ ba [UInt8.ofNat (48 + valG s k)]) := dgB_s k (valG s)
      generalize bitK s k = b at *
      obtain ⟨bv, bs⟩ := b
      unfold agB at C1
      dsimp only at C1 hv
      have C3 := hidden (fun V => rbyte_any (48 + bv) V)
      have HE : Hid (numStr [(48 + bv) % 256] = ba [UInt8.ofNat (48 + valG s k)]) := by
        show _ = _
        rw [numStr_one, show ((48 + bv) % 256).toNat = 48 + valG s k by omega]
      rw [HE.out] at C3
      have hfd : ∀ V : World, (Instr.field 40 (.agg #[.int .i64 bv, .bool bs]) 0).run Try.prog V = .ok (.int .i64 bv) V := fun _ => by kernel_rfl
      clear HE
      have z3 := z2 (UInt8.ofNat (48 + valG s k))
      clear z2
      generalize ba [UInt8.ofNat (48 + valG s k)] = dd at *
      generalize dgB k (valG s) = cur at *
      have hbv : 0 ≤ bv ∧ bv ≤ 2 := by omega
      clear hv hbd
      go_wp2_with fail
      refine (C1.out _).mono ?_
      rintro e w2 ⟨rfl, hb⟩
      have HB3 := hidden (bthen HB.out hb)
      clear hb
      go_wp2_with fail
      refine (C3.out _).mono ?_
      rintro e w4 ⟨rfl, hb⟩
      have HB4 := hidden (bthen HB3.out hb)
      clear hb
      go_wp2
      go_roundw
      case rel => exact ⟨k + 1, by omega, by go_num, by rw [HS.out], HB4.out⟩
      case measure => simp [intV]; omega
    · obtain rfl : k = s.size := by omega
      go_wp2
      go_ret
      exact ⟨rfl, HB.out⟩
theorem numG_stay {s : ByteArray} : ∀ k j, s.size ≤ k → numG s (k + j) = numG s k
  | k, 0, h => rfl
  | k, j + 1, h => by
    rw [show k + (j + 1) = (k + j) + 1 by omega]
    show numG s (k + j) + (if vdg 1 s (k + j) = 1 then 2 ^ (k + j) else 0) = _
    rw [vdg_out (by omega), if_neg (by decide), Nat.add_zero, numG_stay k j h]
set_option maxHeartbeats 4000000 in
theorem rVStep_any (n f d p r dr o sl md fr : Int) (ad : Option Addr) (cap : Nat) (zs : List Int) (x : Int) (codes told : ByteArray) (a2 : Option Addr) (c2 : Nat) (votes : List ByteArray) (w : World) (hl : zs.length ≤ 9223372036854775807) (hT : Tab w ad zs) (hx : (Lit.int .i64 x).wf = true)
    (hs1 : codes.size ≤ 100000) (hs2 : told.size ≤ 9223372036854775807) (hn : votes.length ≤ 100000) (hV : kStr.Lies w.heap.size w (.slice a2 votes.length c2) votes) (hz : ∀ t ∈ votes, t.size ≤ 9223372036854775807) :
    Calls Try.prog 83 #[.agg #[.int .i64 n, .int .i64 f, .int .i64 d, .int .i64 p, .int .i64 r, .int .i64 dr, .int .i64 o, .int .i64 sl, .int .i64 md, .int .i64 fr, .slice ad zs.length cap], .int .i64 x, .string codes, .string told, .slice a2 votes.length c2] w fun e w' => e = .returned (.string (dgB codes.size (stpG (plainE n f d p r dr o sl md fr zs) n f x codes told votes))) ∧ Below w.heap.size w w' := by
  have HT := hidden (hT.below (ballc w (.cells #[.int .i64 n, .int .i64 f, .int .i64 d, .int .i64 p, .int .i64 r, .int .i64 dr, .int .i64 o, .int .i64 sl, .int .i64 md, .int .i64 fr, .slice ad zs.length cap] 24)))
  have HV := hidden (hV.later (ballc w (.cells #[.int .i64 n, .int .i64 f, .int .i64 d, .int .i64 p, .int .i64 r, .int .i64 dr, .int .i64 o, .int .i64 sl, .int .i64 md, .int .i64 fr, .slice ad zs.length cap] 24)))
  have HK := hidden (blk_nw w #[.int .i64 n, .int .i64 f, .int .i64 d, .int .i64 p, .int .i64 r, .int .i64 dr, .int .i64 o, .int .i64 sl, .int .i64 md, .int .i64 fr, .slice ad zs.length cap] 24)
  have HB0 := hidden (ballc w (.cells #[.int .i64 n, .int .i64 f, .int .i64 d, .int .i64 p, .int .i64 r, .int .i64 dr, .int .i64 o, .int .i64 sl, .int .i64 md, .int .i64 fr, .slice ad zs.length cap] 24))
  have HZ := hidden hz
  obtain ⟨i0, hi, hz0, hz1, hz2⟩ := info_of infoInt
  clear hT hV hz
  go_enter Try.func83, Try.ntmps83
  go_wp2
  generalize w.alloc (.cells #[.int .i64 n, .int .i64 f, .int .i64 d, .int .i64 p, .int .i64 r, .int .i64 dr, .int .i64 o, .int .i64 sl, .int .i64 md, .int .i64 fr, .slice ad zs.length cap] 24) = wa at *
  go_loopw [11, 12] (fun a i wr => ∃ k : Nat, k ≤ codes.size ∧ i = .int .i64 k ∧ a = .string (dgB k (stpG (plainE n f d p r dr o sl md fr zs) n f x codes told votes)) ∧ Below wa.heap.size wa wr) (fun _ i _ => codes.size - (intV i).toNat)
  case atStart => exact ⟨0, Nat.zero_le _, rfl, rfl, Below.refl _ _⟩
  case round =>
    obtain ⟨k, hk, rfl, rfl, hB⟩ := hrel
    have HB := hidden hB
    clear hB
    by_cases hlt : k < codes.size
    · have i2 : (k : Int) < (codes.size : Int) := by omega
      have z1 : (dgB k (stpG (plainE n f d p r dr o sl md fr zs) n f x codes told votes)).size ≤ 100000 := by rw [dgB_size]; omega
      have HS : Hid (dgB (k + 1) (stpG (plainE n f d p r dr o sl md fr zs) n f x codes told votes) = dgB k (stpG (plainE n f d p r dr o sl md fr zs) n f x codes told votes) ++ ba [UInt8.ofNat (48 + stpG (plainE n f d p r dr o sl md fr zs) n f x codes told votes k)]) := dgB_s k _
      generalize hcur : dgB k (stpG (plainE n f d p r dr o sl md fr zs) n f x codes told votes) = cur at *
      have HCUR := hidden hcur
      clear hcur
      obtain ⟨wY, rfl⟩ : ∃ wY, wY = wr := ⟨_, rfl⟩
      go_wp2
      go_loopw [13, 14] (fun a i wr => ∃ j : Nat, j ≤ votes.length ∧ i = .int .i64 j ∧ wr.ownsRow wY.heap.size 3 1 a j (kInt.flat (votesP (votes.take j) k)) ∧ Below wY.heap.size wY wr) (fun _ i _ => votes.length - (intV i).toNat)
      case atStart => exact ⟨0, Nat.zero_le _, rfl, World.ownsRow_nil _ _ _ _, Below.refl _ _⟩
      case round =>
        obtain ⟨j, hj, rfl, hown, hB⟩ := hrel
        have HBj := hidden hB
        have HO := hidden hown
        have hBB := bthen HB.out hB
        by_cases hjl : j < votes.length
        · have j2 : (j : Int) < (votes.length : Int) := by omega
          obtain ⟨b, off, rfl, hbl, e0⟩ := kStr_at (HV.out.later hBB) j hjl
          have hm : votes.getD j noB ∈ votes := by rw [List.getD_eq_getElem?_getD, List.getElem?_eq_getElem hjl, Option.getD_some]; exact List.getElem_mem hjl
          have C1 := hidden (fun V => rVote_any (votes.getD j noB) k V (HZ.out _ hm))
          have HTK : Hid (votesP (votes.take (j + 1)) k = votesP (votes.take j) k ++ [vdg 2 (votes.getD j noB) k]) := by
            show _ = _
            unfold votesP
            rw [List.take_succ_eq_append_getElem hjl, List.map_append, List.getD_eq_getElem?_getD, List.getElem?_eq_getElem hjl, Option.getD_some]
            rfl
          clear hB hown hBB hm
          generalize vdg 2 (votes.getD j noB) k = z at *
          generalize votes.getD j noB = t at *
          go_wp2_with (first
            | (go_at_call 20; refine (C1.out _).mono ?_; rintro e w4 ⟨rfl, rfl⟩)
            | (at_builtin; refine kInt.wpList_append _ rfl (.tmp 27) (.tmp 34) 22 rfl wY.heap.size 3 i0 (.int .i64 0) 8 Try.underlying22 hi hz0 hz1 hz2 rfl u13 j _ rfl (HO.out.alloc _) (.slice (some ⟨wr.heap.size, 0, none⟩) 1 1) [z] rfl (Kind.Lies.of_block (K := kInt) (es := [z]) (heap_alloc_new wr _) (by simp [maxLen])) (by simp only [maxLen, List.length_singleton]; omega) (by simp only [List.length_singleton]; omega) (by have := HBj.out.size; simp; omega) ?_; intro v3 w3 hown3 hgrow3 _))
          have hB3 : Below wY.heap.size wY w3 := (HBj.out.alloc HBj.out.size _).grown hgrow3 (by have := HBj.out.size; simp; omega) (own_from HO.out)
          have hrow : w3.ownsRow wY.heap.size 3 1 v3 (j + 1) (kInt.flat (votesP (votes.take (j + 1)) k)) := by
            rw [HTK.out, Kind.flat_append]
            exact hown3
          go_roundw
          case rel => exact ⟨j + 1, by omega, by go_num, hrow, hB3⟩
          case measure => simp [intV]; omega
        · obtain rfl : j = votes.length := by omega
          rw [List.take_length] at hown
          obtain ⟨al, cl, rfl⟩ := own_slice hown
          have hli := hidden (Kind.Lies.of_own (K := kInt) (es := votesP votes k) (by rw [votesP_len]; exact hown))
          have HBB := hidden hBB
          have HKr := hidden (blk_later HK.out hBB)
          have c0 := fun i => blk_cell HKr.out i
          have l0 := blk_lt HKr.out
          have HTr := hidden (HT.out.below hBB)
          have i1 : (0 : Int) ≤ (k : Int) := by omega
          have C1 := hidden (fun V => rcode_any codes k hlt V)
          have C2 := hidden (fun V => rVote_any told k V hs2)
          have C3 := hidden (fun V h1 h2 => rKStep_any n f d p r dr o sl md fr ad cap zs x (bitK codes k) (vdg 2 told k) al votes.length cl (votesP votes k) V hl h1 hx (by rw [votesP_len]; omega) h2)
          have C4 := hidden (fun V => rdigit_any (stpB (plainE n f d p r dr o sl md fr zs) n f x codes told votes k) V)
          have HR : Hid (stpB (plainE n f d p r dr o sl md fr zs) n f x codes told votes k = stepF (plainE n f d p r dr o sl md fr zs) n f x (bitK codes k) (vdg 2 told k) (votesP votes k)) := rfl
          rw [← HR.out] at C3
          have HG : Hid (48 + stpG (plainE n f d p r dr o sl md fr zs) n f x codes told votes k = 48 + (codeF (stpB (plainE n f d p r dr o sl md fr zs) n f x codes told votes k)).toNat) := rfl
          rw [HG.out] at HS
          clear HR HG hown hB hBB HO
          have z3 : (ba [UInt8.ofNat (48 + (codeF (stpB (plainE n f d p r dr o sl md fr zs) n f x codes told votes k)).toNat)]).size = 1 := rfl
          generalize ba [UInt8.ofNat (48 + (codeF (stpB (plainE n f d p r dr o sl md fr zs) n f x codes told votes k)).toNat)] = dd at *
          generalize stpB (plainE n f d p r dr o sl md fr zs) n f x codes told votes k = q at *
          generalize hvp : votesP votes k = vp at *
          generalize bitK codes k = bk at *
          generalize vdg 2 told k = td at *
          obtain ⟨bv, bs⟩ := bk
          obtain ⟨qv, qs⟩ := q
          unfold agB at C1 C3
          dsimp only at C1 C3 C4
          have HBw := hidden (bthen HB0.out HBB.out)
          go_wp2
          refine wp_region_quiet_below (by kernel_rfl) (by kernel_rfl) ?_
          repeat (go_big_quiet_step (first
            | (go_at_call 75; exact Calls.regrown_of (C1.out _))
            | (go_at_call 20; exact Calls.regrown_of (Calls.to_below (C2.out _)))
            | (go_at_call 21; exact Calls.regrown_of (C3.out _ (HTr.out.below (below_regrown _ _ _)) (hli.out.later (below_regrown _ _ _))))
            | (go_at_call 102; exact Calls.regrown_of (C4.out _))))
          refine wpQuiet_nil ?_
          intro w6 hw6
          have HB6 := hidden (bthen HBB.out (rg_below hw6))
          clear hw6 c0 l0
          go_wp2
          go_roundw
          case rel => exact ⟨k + 1, by omega, by go_num, by rw [HS.out], HB6.out⟩
          case measure => simp [intV]; omega
    · obtain rfl : k = codes.size := by omega
      go_wp2
      go_ret
      exact ⟨rfl, bthen HB0.out HB.out⟩
end Go.Proofs.Ytkolhbacgoafcaa

/- The document's calls Tells, Hears, King and Ages of layer 15 return what plain functions give, and make at most new memory; conditions: the table lies where it says. -/
namespace Go.Proofs.Ytkolhbacgoafcaa
open Go.ChangeShapes Go.WideShapes Go.ChangeAt Go.RowKit
set_option linter.unusedVariables false


set_option maxHeartbeats 1000000 in
theorem rHears_any (n f d p r dr o sl md fr : Int) (ad : Option Addr) (cap : Nat) (zs : List Int) (age : Int) (R : Nat) (hR15 : R ≤ 15) (hd : R = 0 ∨ 1 ≤ d ∧ d ≤ 4) (w : World) (hl : zs.length ≤ 9223372036854775807) (hT : Tab w ad zs) (hR : gate (plainE n f d p r dr o sl md fr zs) (3 * (f + 1)) = (R : Int)) :
    Calls Try.prog 80 #[.agg #[.int .i64 n, .int .i64 f, .int .i64 d, .int .i64 p, .int .i64 r, .int .i64 dr, .int .i64 o, .int .i64 sl, .int .i64 md, .int .i64 fr, .slice ad zs.length cap], .int .i64 age] w fun e W' => e = .returned (.int .i64 (hearF R d age)) ∧ Below w.heap.size w W' := by
  have HC := hidden (fun V h => refRounds_any n f d p r dr o sl md fr ad cap zs V hl h)
  rw [hR] at HC
  have HT := hidden (hT.below (ballc w (.cells #[.int .i64 n, .int .i64 f, .int .i64 d, .int .i64 p, .int .i64 r, .int .i64 dr, .int .i64 o, .int .i64 sl, .int .i64 md, .int .i64 fr, .slice ad zs.length cap] 24)))
  have HK := hidden (blk_nw w #[.int .i64 n, .int .i64 f, .int .i64 d, .int .i64 p, .int .i64 r, .int .i64 dr, .int .i64 o, .int .i64 sl, .int .i64 md, .int .i64 fr, .slice ad zs.length cap] 24)
  have HB0 := hidden (ballc w (.cells #[.int .i64 n, .int .i64 f, .int .i64 d, .int .i64 p, .int .i64 r, .int .i64 dr, .int .i64 o, .int .i64 sl, .int .i64 md, .int .i64 fr, .slice ad zs.length cap] 24))
  clear hT hR
  go_enter Try.func80, Try.ntmps80
  go_wp2
  generalize w.alloc (.cells #[.int .i64 n, .int .i64 f, .int .i64 d, .int .i64 p, .int .i64 r, .int .i64 dr, .int .i64 o, .int .i64 sl, .int .i64 md, .int .i64 fr, .slice ad zs.length cap] 24) = wa at *
  go_loopw [5] (fun i wr => ∃ k : Nat, k ≤ R ∧ i = .int .i64 k ∧ (∀ j, j < k → hearB d age j = false) ∧ Below wa.heap.size wa wr) (fun i _ => R - (intV i).toNat)
  case atStart => exact ⟨0, Nat.zero_le _, rfl, fun j hj => absurd hj (Nat.not_lt_zero _), Below.refl _ _⟩
  case round =>
    obtain ⟨k, hk, rfl, hn, hB⟩ := hrel
    have HB := hidden hB
    have HN := hidden hn
    have HTr := hidden (HT.out.below hB)
    have HKr := hidden (blk_later HK.out hB)
    have c0 := fun i => blk_cell HKr.out i
    have l0 := blk_lt HKr.out
    clear hB hn
    go_wp2_with fail
    refine (HC.out _ HTr.out).mono ?_
    rintro e w2 ⟨rfl, hb⟩
    have HB2 := hidden (bthen HB.out hb)
    have HK2 := hidden (blk_later HKr.out hb)
    clear hb c0 l0 HKr HTr HB
    have c0 := fun i => blk_cell HK2.out i
    have l0 := blk_lt HK2.out
    by_cases hlt : k < R
    · obtain ⟨q1, q2⟩ := xd_bd hR15 hd hlt
      have q3 : 1 ≤ d ∧ d ≤ 4 := by omega
      have q4 : ((k : Int) + 1) * d = (k : Int) * d + d := by rw [Int.add_mul, Int.one_mul]
      have i2 : (k : Int) < (R : Int) := by omega
      by_cases ht : (k : Int) * d + d = age
      · have hres := hidden (show hearF R d age = _ from first_hit hlt (decide_eq_true ht) HN.out)
        have j : (age == (((k : Int) + 1) * d)) = true := by simp [← ht, q4]
        clear ht hd
        go_wp2
        go_ret
        exact ⟨ret_i hres.out.symm, bthen HB0.out HB2.out⟩
      · have HN2 : Hid (∀ j, j < k + 1 → hearB d age j = false) := fun j hj => by
          by_cases e : j = k
          · subst e; exact decide_eq_false ht
          · exact HN.out j (by omega)
        have j : (age == (((k : Int) + 1) * d)) = false := by rw [beq_eq_false_iff_ne]; intro h; exact ht (by rw [h, q4])
        clear ht hd
        go_wp2
        go_roundw
        case rel => exact ⟨k + 1, by omega, by go_num, HN2.out, HB2.out⟩
        case measure => simp [intV]; omega
    · obtain rfl : k = R := by omega
      have hres := hidden (show hearF k d age = _ from first_none HN.out)
      have i2 : ¬ (k : Int) < (k : Int) := by omega
      go_wp2
      go_ret
      exact ⟨ret_i hres.out.symm, bthen HB0.out HB2.out⟩

theorem rPKing_any (n f d p r dr o sl md fr : Int) (ad : Option Addr) (cap : Nat) (zs : List Int) (x : Int) (R : Nat) (hx : -9223372036854775808 ≤ x ∧ x ≤ 9223372036854775807) (w : World) (hl : zs.length ≤ 9223372036854775807) (hT : Tab w ad zs) (hR : gate (plainE n f d p r dr o sl md fr zs) (3 * (f + 1)) = (R : Int)) :
    Calls Try.prog 82 #[.agg #[.int .i64 n, .int .i64 f, .int .i64 d, .int .i64 p, .int .i64 r, .int .i64 dr, .int .i64 o, .int .i64 sl, .int .i64 md, .int .i64 fr, .slice ad zs.length cap], .int .i64 x] w fun e W' => e = .returned (.int .i64 (kingF R x)) ∧ Below w.heap.size w W' := by
  have HC := hidden (fun V h => refRounds_any n f d p r dr o sl md fr ad cap zs V hl h)
  rw [hR] at HC
  have HT := hidden (hT.below (ballc w (.cells #[.int .i64 n, .int .i64 f, .int .i64 d, .int .i64 p, .int .i64 r, .int .i64 dr, .int .i64 o, .int .i64 sl, .int .i64 md, .int .i64 fr, .slice ad zs.length cap] 24)))
  clear hT hR
  by_cases h0 : x < 0
  · have e1 : decide (x < 0) = true := decide_eq_true h0
    have hr := hidden (kingF_lo (R := R) h0)
    clear h0
    go_enter Try.func82, Try.ntmps82
    go_wp2
    go_ret
    exact ⟨ret_i hr.out.symm, ballc _ _⟩
  · have e1 : decide (x < 0) = false := decide_eq_false h0
    by_cases h1 : (R : Int) ≤ x
    · have e2 : decide ((R : Int) ≤ x) = true := decide_eq_true h1
      have hr := hidden (kingF_hi h1)
      clear h1
      go_enter Try.func82, Try.ntmps82
      go_wp2_with fail
      refine (HC.out _ HT.out).mono ?_
      rintro e w2 ⟨rfl, hb⟩
      have HB := hidden (bthen (ballc w _) hb)
      clear hb
      go_wp2
      go_ret
      exact ⟨ret_i hr.out.symm, HB.out⟩
    · have e2 : decide ((R : Int) ≤ x) = false := decide_eq_false h1
      have hr := hidden (kingF_in (R := R) (x := x) (by omega) (by omega))
      have e3 : x.tdiv 3 = x / 3 := by rw [Int.tdiv_eq_ediv_of_nonneg (by omega)]
      clear h1
      go_enter Try.func82, Try.ntmps82
      go_wp2_with fail
      refine (HC.out _ HT.out).mono ?_
      rintro e w2 ⟨rfl, hb⟩
      have HB := hidden (bthen (ballc w _) hb)
      clear hb
      go_wp2
      go_ret
      exact ⟨ret_i hr.out.symm, HB.out⟩

/-- When exchanges are told. -/
def agesL (d : Int) (k : Nat) : List Int := (List.range k).map fun (j : Nat) => (j : Int) * d
theorem agesL_s (d : Int) (k : Nat) : agesL d (k + 1) = agesL d k ++ [(k : Int) * d] := by simp [agesL, List.range_succ]
theorem agesL_len (d : Int) (k : Nat) : (agesL d k).length = k := by simp [agesL]
end Go.Proofs.Ytkolhbacgoafcaa

/- A law of one's own on ranges over a function whose rounds all go on: the function hands so many rounds what a number gives, and what the rounds keep is counted by their number; conditions: no round leaves the loop. -/
namespace Go.Proofs.Ytkolhbacgoafcaa
open Go.ChangeShapes Go.WideShapes Go.ChangeAt Go.RowKit Go.Shelf
set_option linter.unusedVariables false

theorem from_up {B C : Nat} {X Y : World} (h : KeepsFrom B X Y) (k : B ≤ C) : KeepsFrom C X Y := ⟨h.size, fun i o hi => h.same i o (Nat.le_trans k hi)⟩
theorem own_up {β : Type} {B C : Nat} {I : β → World → Prop} (h : OwnFrom B I) (k : B ≤ C) : OwnFrom C I := fun s X Y row hs hg hr => h s X Y row hs hg (fun r e => ⟨Nat.le_trans k (hr r e).1, (hr r e).2⟩)
theorem from_put {C l : Nat} {X : World} (o : Obj) (h : l < C) : KeepsFrom C X (X.putObj l o) := KeepsFrom.of_grownBy (grownBy_putObj' X l o) (fun j e => by cases e; exact h)
theorem below_grown {X Y : World} (h : Below X.heap.size X Y) : X.grownBy Y none := ⟨h.os, h.tape, h.output, h.size, fun k hk _ => h.block k hk⟩
theorem own_below' {β : Type} {B : Nat} {I : β → World → Prop} (h : OwnFrom B I) {s : β} {X Y : World} (hs : I s X) (hb : Below X.heap.size X Y) : I s Y := h s X Y none hs (below_grown hb) (fun r e => by cases e)
theorem own_put {β : Type} {B D : Nat} {I : β → World → Prop} (h : OwnFrom B I) {s : β} {X : World} (hs : I s X) (hB : B ≤ D) (hK : X.heap[D]? = some (.deferred (some []))) : I s (X.putObj D (.deferred none)) := h.putObj _ hs hB hK rfl
theorem cells_own {β : Type} (B b : Nat) (C : Array Value) (t : TypeId) : OwnFrom B (fun (_ : β) W => W.heap[b]? = some (.cells C t (0, 0))) := fun s X Y row hs hg hr =>
  (hg.block b (Array.getElem?_eq_some_iff.1 hs).1 (fun e => by obtain ⟨_, o, ho, hc⟩ := hr b e.symm; rw [hs] at ho; cases ho; cases hc)).trans hs
/-- A round is a round at any depth, and within another loop's round. -/
theorem round_any {m m' l l2 : Nat} {f : FuncId} {tmps : Array Value} {assign body : Code} {w : World} {R : Ending → World → Prop} (h : RoundIn Fence.wide m Try.prog l f tmps assign body w R) : RoundIn (Fence.wide.inRound l2) m' Try.prog l f tmps assign body w R := ⟨h.1, fun c cs _ => h.2 c cs (fun d hd => by cases hd)⟩
theorem round_dep {m m' l : Nat} {f : FuncId} {tmps : Array Value} {assign body : Code} {w : World} {R : Ending → World → Prop} (h : RoundIn Fence.wide m Try.prog l f tmps assign body w R) : RoundIn Fence.wide m' Try.prog l f tmps assign body w R := ⟨h.1, fun c cs _ => h.2 c cs (fun d hd => by cases hd)⟩
/-- A region whose order is drawn goes in a loop's round as it goes elsewhere, where nothing in it is deferred. -/
theorem op_round {P : Program} {n l : Nat} {ops : Array Oper} {Q : Exit → Act → World → Prop} {i : Nat} {K : Act → World → Prop} {a : Act} {w : World} (hd : ∀ o, ops[i]? = some o → ∀ c, o.op ≠ .defer c) (h : wpOpIn Fence.wide n P ops Q i K a w) : wpOpIn (Fence.wide.inRound l) n P ops Q i K a w := by
  unfold wpOpIn at h ⊢
  cases ho : ops[i]? with
  | none =>
    rw [ho] at h
    exact h
  | some o =>
    rw [ho] at h
    simp only at h ⊢
    by_cases hw : Region.wanted o (yielded ops a.tmps) = true
    · rw [if_pos hw] at h ⊢
      unfold Oper.wpIn at h ⊢
      refine ⟨fun f hf => trivial, ?_⟩
      have h2 := h.2
      rw [show (Fence.wide.inRound l).round = some l from rfl, Oper.semAt_some l a.eval o (hd o ho)]
      exact h2
    · rw [if_neg hw] at h ⊢
      exact ⟨fun f hf => trivial, h.2⟩
theorem any_round {P : Program} {n l : Nat} {md : Region.Mode} {ops : Array Oper} {Q : Exit → Act → World → Prop} (hd : ∀ (i : Nat) (o : Oper), ops[i]? = some o → ∀ c : Call, o.op ≠ Op.defer c) : ∀ (fuel : Nat) (listed : Array Bool) (a : Act) (w : World), wpAnyIn Fence.wide n P md ops Q fuel listed a w → wpAnyIn (Fence.wide.inRound l) n P md ops Q fuel listed a w
  | 0, _, _, _, h => h
  | fuel + 1, listed, a, w, h => ⟨h.1, fun i hi => wpOpIn_mono (fun a' w' h' => any_round hd fuel _ a' w' h') (op_round (hd i) (h.2 i hi))⟩
theorem no_defer {ops : Array Oper} (h : ops.toList.all (fun o => match o.op with | .defer _ => false | _ => true) = true) (i : Nat) (o : Oper) (ho : ops[i]? = some o) (c : Call) : o.op ≠ Op.defer c := by
  intro e
  have hm : o ∈ ops.toList := by
    rw [← Array.getElem?_toList] at ho
    exact List.mem_of_getElem? ho
  have := List.all_eq_true.1 h o hm
  rw [e] at this
  cases this
/-- A function that hands R values to the rounds of its loop, one after another. -/
def Gives (m gf : Nat) (lb : Array Value) (R : Nat) (encs : Nat → Array Value) (Kp : World → World → Prop) (w : World) : Prop :=
  ∀ (l : Nat) (J : Nat → World → Prop) (W : World), Below w.heap.size w W → OwnFrom W.heap.size J →
    (∀ k V, k < R → J k V → YieldAt Fence.wide (m - 1) Try.prog l (encs k) V fun e V' => e = .returned (.bool true) ∧ J (k + 1) V' ∧ Kp V V' ∧ KeepsFrom W.heap.size V V') →
    J 0 W → CallsIn Fence.wide m Try.prog gf (#[.func (.yield l) #[] #[]] ++ lb) W fun e W' => (∃ v, e = .returned v) ∧ J R W'
/-- A round that goes on. -/
def goesOn (B : Nat) (Kp : World → World → Prop) (J : World → Prop) (W : World) : Exit → Act → World → Prop
  | .normal, _, W' => KeepsFrom B W W' ∧ Kp W W' ∧ J W'
  | .ret, _, _ => False
  | .exit _, _, _ => False
  | .goto _, _, _ => False
  | .panic _, _, _ => False
  | .outgrown, _, _ => False
theorem rf_gives {g : Operand} {ps : Array Tmp} {assign body : Code} {Q : Exit → Act → World → Prop} {a : Act} {w : World} {m gf : Nat} {lb : Array Value} {R : Nat} {encs : Nat → Array Value} {Kp : World → World → Prop} {w0 : World}
    (hg : a.eval g = .func (.func gf) #[] lb) (eg : Enters Try.prog gf) (hseq : Gives (m - 1) gf lb R encs Kp w0) (hb0 : Below w0.heap.size w0 w) (hps : ∀ k, (encs k).size = ps.size)
    (hKt : ∀ {A B C : World}, Kp A B → Kp B C → Kp A C) (hKb : ∀ (W : World) (l : Nat) (o o' : Obj), w.heap.size ≤ l → W.heap[l]? = some o → o.isCells = false → Kp W (W.putObj l o'))
    (I : Nat → World → Prop) (hI : OwnFrom w.heap.size I) (h0 : I 0 w) (a₁ : Nat → Act)
    (hassign : ∀ (l k : Nat) (W : World) (K : Act → World → Prop), K (a₁ k) W → assign.wpIn (Fence.wide.inRound l) (m - 1 - 1) Try.prog (Exit.then K (fun _ _ _ => False)) { tmps := (ps.zip (encs k)).foldl (fun t (p, v) => t.setIfInBounds p v) a.tmps, defers := [] } W)
    (hbody : ∀ (l k : Nat) (W : World), w.heap.size ≤ l → k < R → I k W → body.wpIn (Fence.wide.inRound l) (m - 1 - 1) Try.prog (goesOn w.heap.size Kp (I (k + 1)) W) (a₁ k) W)
    (hdone : ∀ (D : Nat) (W : World), w.heap.size ≤ D → I R W → W.heap[D]? = some (.deferred (some [])) → Q .normal { a with defers := { target := .collected D, args := #[] } :: a.defers } W) :
    (Code.rangeFunc g ps assign body).wpIn Fence.wide m Try.prog Q a w := by
  refine wpIn_rangeFunc fun fn hfn => ?_
  obtain ⟨rec, hrec⟩ : ∃ rec : LoopState → Loop, rec = fun st => { state := st, pending := none, fn, tmps := a.tmps, params := ps, assign, body, defers := w.heap.size } := ⟨_, rfl⟩
  have hst : ∀ st st', { rec st with state := st' } = rec st' := fun st st' => by rw [hrec]
  have hne : ∀ st, (rec st).state = st := fun st => by rw [hrec]
  obtain ⟨V1, hV1⟩ : ∃ V1, (w.alloc (.deferred (some []))).alloc (.loop (rec .ready)) = V1 := ⟨_, rfl⟩
  have s1 : V1.heap.size = w.heap.size + 1 + 1 := by rw [← hV1]; simp
  have kl : V1.heap[w.heap.size + 1]? = some (.loop (rec .ready)) := by
    have h := World.alloc_heap_new (w.alloc (.deferred (some []))) (.loop (rec .ready))
    rw [← hV1]
    rwa [World.size_alloc] at h
  have kd : V1.heap[w.heap.size]? = some (.deferred (some [])) := by
    rw [← hV1]
    exact (Below.heap_alloc _ _ _ (by simp)).trans (World.alloc_heap_new w _)
  have i1 : I 0 V1 := by
    rw [← hV1]
    exact hI.alloc _ (hI.alloc _ h0)
  have bl : Below w0.heap.size w0 V1 := by
    rw [← hV1]
    exact bthen (bthen hb0 (ballc w _)) (ballc _ _)
  refine ⟨w.heap.size + 1, [{ target := .collected w.heap.size, args := #[] }], V1, { target := .fn (.func gf) lb, args := #[.func (.yield (w.heap.size + 1)) #[] #[]] }, V1, gf, #[.func (.yield (w.heap.size + 1)) #[] #[]] ++ lb, V1, ?enter, ?res, fun _ _ => trivial, ?inv, fun h => (by cases h), ?calls⟩
  case enter =>
    rw [← hV1, hrec]
    exact run_enterLoop_outer fn a.tmps ps assign body
  case res =>
    simp only [resolve, hg]
    simp [go_sem]
  case inv =>
    unfold Enters at eg
    simp [invoke, go_sem, eg]
  case calls =>
    have hJ : OwnFrom V1.heap.size (fun k W => I k W ∧ W.heap[w.heap.size + 1]? = some (.loop (rec .ready)) ∧ W.heap[w.heap.size]? = some (.deferred (some []))) := by
      intro k X Y row hs hgr hr
      have hx : ∀ j, j < V1.heap.size → some j ≠ row := fun j hj e => by have := (hr j e.symm).1; omega
      exact ⟨own_up hI (by omega) k X Y row hs.1 hgr hr, (hgr.block _ (Array.getElem?_eq_some_iff.1 hs.2.1).1 (hx _ (by omega))).trans hs.2.1, (hgr.block _ (Array.getElem?_eq_some_iff.1 hs.2.2).1 (hx _ (by omega))).trans hs.2.2⟩
    refine (hseq (w.heap.size + 1) _ V1 bl hJ ?round ⟨i1, kl, kd⟩).mono ?after
    case round =>
      rintro k V hk ⟨hi, hl, hd⟩
      have lt : w.heap.size + 1 < V.heap.size := (Array.getElem?_eq_some_iff.1 hl).1
      have hy := run_yield (P := Try.prog) (args := encs k) hl (by rw [hrec]; exact hps k)
      rw [hrec] at hy
      refine ⟨fn, _, assign, body, hy, roundIn_of_wpIn hfn (hassign _ k V _ ⟨_, run_beginRound hl (hne _), ?_⟩)⟩
      rw [hst]
      have l2 : (V.putObj (w.heap.size + 1) (.loop (rec .busy))).heap[w.heap.size + 1]? = some (.loop (rec .busy)) := World.putObj_heap_same lt
      have d2 : (V.putObj (w.heap.size + 1) (.loop (rec .busy))).heap[w.heap.size]? = some (.deferred (some [])) := (World.putObj_heap_other (by omega)).trans hd
      refine wpIn_mono (hbody _ k _ (by omega) hk (hI.putObj _ hi (by omega) hl rfl)) ?_
      intro e a3 V3 hp
      cases e with
      | normal =>
        obtain ⟨f3, p3, i3⟩ := hp
        have l3 := f3.same _ _ (by omega) l2 rfl
        have d3 := f3.same _ _ (Nat.le_refl _) d2 rfl
        have hend := run_endRound (P := Try.prog) none l3
        refine ⟨_, _, hend, rfl, ⟨hI.putObj _ i3 (by omega) l3 rfl, ?_, (World.putObj_heap_other (by omega)).trans d3⟩, hKt (hKt (hKb _ _ _ _ (by omega) hl rfl) p3) (hKb _ _ _ _ (by omega) l3 rfl), ?_⟩
        · rw [World.putObj_heap_same (Array.getElem?_eq_some_iff.1 l3).1, hrec]
          rfl
        · exact ((from_put _ (by omega)).trans (from_up f3 (by omega))).trans (from_put _ (by omega))
      | ret => exact hp.elim
      | exit id => exact hp.elim
      | goto t => exact hp.elim
      | panic ch => exact hp.elim
      | outgrown => exact hp.elim
    case after =>
      rintro e V2 ⟨⟨v, rfl⟩, hi, hl, hd⟩
      refine ⟨none, _, ?_, hdone w.heap.size _ (Nat.le_refl _) (hI.putObj (.loop (rec .exhausted)) hi (by omega) hl rfl) ((World.putObj_heap_other (by omega)).trans hd)⟩
      have h := run_endLoop (P := Try.prog) hl (by rw [hne]; decide)
      rw [hst] at h
      rw [h, hrec]
end Go.Proofs.Ytkolhbacgoafcaa

/- The iterators of packages plan and pipe hand their rounds each exchange, with when it is told and with the codes of its stretch; conditions: what they have captured lies where it says, and a round keeps it. -/
namespace Go.Proofs.Ytkolhbacgoafcaa
open Go.ChangeShapes Go.WideShapes Go.ChangeAt Go.RowKit Go.Shelf
set_option linter.unusedVariables false
attribute [local go_sem] Oper.semAt_some

set_option maxRecDepth 100000 in
set_option maxHeartbeats 2000000 in
theorem ages_gives (n f d p r dr o sl md fr : Int) (ad : Option Addr) (cap : Nat) (zs : List Int) (R : Nat) (hR : R ≤ 15) (hd : R = 0 ∨ 1 ≤ d ∧ d ≤ 4) (m : Nat) (hm : 1 ≤ m) (gr gc : Nat) (Kp : World → World → Prop)
    (hKp : ∀ X Y, Kp X Y → X.heap[gc]? = some (.cells #[.int .i64 n, .int .i64 f, .int .i64 d, .int .i64 p, .int .i64 r, .int .i64 dr, .int .i64 o, .int .i64 sl, .int .i64 md, .int .i64 fr, .slice ad zs.length cap] 24 (0, 0)) → Y.heap[gc]? = some (.cells #[.int .i64 n, .int .i64 f, .int .i64 d, .int .i64 p, .int .i64 r, .int .i64 dr, .int .i64 o, .int .i64 sl, .int .i64 md, .int .i64 fr, .slice ad zs.length cap] 24 (0, 0))) (w : World)
    (b1 : w.heap[gr]? = some (.cells #[.int .i64 (R : Int)] 3 (0, 0))) (b2 : w.heap[gc]? = some (.cells #[.int .i64 n, .int .i64 f, .int .i64 d, .int .i64 p, .int .i64 r, .int .i64 dr, .int .i64 o, .int .i64 sl, .int .i64 md, .int .i64 fr, .slice ad zs.length cap] 24 (0, 0))) :
    Gives m 97 #[.pointer (some ⟨gr, 0, none⟩), .pointer (some ⟨gc, 0, none⟩)] R (fun k => #[.int .i64 (k : Int), .int .i64 ((k : Int) * d)]) Kp w := by
  intro l J W hW _ hY h0
  replace b1 := (hW.block gr (Array.getElem?_eq_some_iff.1 b1).1).trans b1
  replace b2 := (hW.block gc (Array.getElem?_eq_some_iff.1 b2).1).trans b2
  have c1 := blk_cell b1 0
  have HK := hidden b2
  clear b2 hW
  refine callsIn_of_wp Try.func97 rfl trivial ?_ rfl
  simp only [Try.ntmps97, List.size_toArray, List.length_cons, List.length_nil, Nat.reduceAdd, Nat.reduceSub, Array.replicate_succ, Array.replicate_zero, List.push_toArray, List.append_toArray, List.nil_append, List.cons_append]
  gi_wp2
  clear c1 b1
  gi_loopw [6] (fun i wr => ∃ k : Nat, k ≤ R ∧ i = .int .i64 k ∧ J k wr ∧ Hid (wr.heap[gc]? = some (.cells #[.int .i64 n, .int .i64 f, .int .i64 d, .int .i64 p, .int .i64 r, .int .i64 dr, .int .i64 o, .int .i64 sl, .int .i64 md, .int .i64 fr, .slice ad zs.length cap] 24 (0, 0))))
    (fun i _ => R - (intV i).toNat)
  case atStart => exact ⟨0, Nat.zero_le _, rfl, h0, HK⟩
  case round =>
    obtain ⟨k, hk, rfl, hJs, hb2⟩ := hrel
    by_cases hlt : k < R
    · have c2 := fun i => blk_cell hb2.out i
      obtain ⟨q1, q2⟩ := xd_bd hR hd hlt
      obtain ⟨fn, tmps, assign, body, hy, hRd⟩ := hY k wr hlt hJs
      clear hY hJs hd h0
      gi_wp2
      refine hRd.mono ?_
      rintro e W3 ⟨rfl, hJ3, hk3, _⟩
      have hb3 := hidden (hKp _ _ hk3 hb2.out)
      gi_wp2
      go_roundw
      case rel => exact ⟨k + 1, by omega, by simp, hJ3, hb3⟩
      case measure => simp [intV]; omega
    · obtain rfl : k = R := by omega
      gi_wp2
      go_end0
      exact ⟨⟨_, rfl⟩, hJs⟩
end Go.Proofs.Ytkolhbacgoafcaa
