/- The document's calls Enough, Most and Least return what plain functions give, and make at most new memory; conditions: the table and the votes lie where they say, and lengths fit int. -/
import Derived.Test.YtohgmliafidalaaTalR
namespace Go.Proofs.Ytohgmliafidalaa
open Go.ChangeShapes Go.WideShapes Go.ChangeAt Go.RowKit
set_option linter.unusedVariables false

attribute [local go_sem] cell_rg

set_option maxHeartbeats 2000000 in
theorem rEnough_any (n f d p r dr o sl md fr : Int) (ad : Option Addr) (cap : Nat) (zs : List Int) (v : Int) (a2 : Option Addr) (len c2 : Nat) (vs : List Int) (w : World) (hl : zs.length ≤ 9223372036854775807) (hT : Tab w ad zs) (hlv : vs.length ≤ 9223372036854775807) (hV : kInt.Lies w.heap.size w (.slice a2 len c2) vs) :
    Calls Try.prog 127 #[.agg #[.int .i64 n, .int .i64 f, .int .i64 d, .int .i64 p, .int .i64 r, .int .i64 dr, .int .i64 o, .int .i64 sl, .int .i64 md, .int .i64 fr, .slice ad zs.length cap], .int .i64 v, .slice a2 len c2] w fun e w' => e = .returned (.bool (enoughB (plainE n f d p r dr o sl md fr zs) n f v vs)) ∧ Below w.heap.size w w' := by
  have HT := hidden (hT.below (ballc w (.cells #[.int .i64 n, .int .i64 f, .int .i64 d, .int .i64 p, .int .i64 r, .int .i64 dr, .int .i64 o, .int .i64 sl, .int .i64 md, .int .i64 fr, .slice ad zs.length cap] 24)))
  have HQ := hidden (fun V h => refPlain_any n f d p r dr o sl md fr ad cap zs V hl h)
  have HK := hidden (fun h => plainE_ok (n := n) (f := f) (d := d) (p := p) (r := r) (dr := dr) (o := o) (sl := sl) (md := md) (fr := fr) (zs := zs) h)
  have HV := hidden (hV.later (ballc w (.cells #[.int .i64 n, .int .i64 f, .int .i64 d, .int .i64 p, .int .i64 r, .int .i64 dr, .int .i64 o, .int .i64 sl, .int .i64 md, .int .i64 fr, .slice ad zs.length cap] 24)))
  have C2 := hidden (fun V h => Calls.to_below (rTCount_any v a2 len c2 vs hlv V h))
  clear hT hV
  generalize plainE n f d p r dr o sl md fr zs = E at HQ HK
  by_cases hE : E = 0
  · obtain ⟨n1, n2, f1, f2, n3, _⟩ := HK.out hE
    subst hE
    have HE := hidden (enoughB_ok (E := 0) rfl n f v vs)
    generalize cntF v vs = c at *
    have t1 : IntKind.i64.wrap (n - f) = n - f := IntWalk.i64_in _ (by omega)
    have i0 : ((0 : Int) == 0) = true := rfl
    go_enter Try.func127, Try.ntmps127
    go_wp2
    refine wp_region_quiet_below (by kernel_rfl) (by kernel_rfl) ?_
    repeat (go_big_quiet_step (first | (go_at_call 9; exact Calls.regrown_of (HQ.out _ (HT.out.below (below_regrown _ _ _)))) | (go_at_call 134; exact Calls.regrown_of (C2.out _ (HV.out.later (below_regrown _ _ _))))))
    refine wpQuiet_nil ?_
    intro w2 hw2
    have HB2 : Hid (Below w.heap.size w w2) := bthen (ballc w _) (rg_below hw2)
    clear hw2
    go_wp2
    go_ret
    exact ⟨ret_b HE.out.symm, HB2.out⟩
  · have HE := hidden (enoughB_no hE n f v vs)
    have iE : (E == 0) = false := by simp [hE]
    clear HK
    go_enter Try.func127, Try.ntmps127
    go_wp2
    refine wp_region_quiet_below (by kernel_rfl) (by kernel_rfl) ?_
    repeat (go_big_quiet_step (first | (go_at_call 9; exact Calls.regrown_of (HQ.out _ (HT.out.below (below_regrown _ _ _))))))
    refine wpQuiet_nil ?_
    intro w2 hw2
    have HB2 : Hid (Below w.heap.size w w2) := bthen (ballc w _) (rg_below hw2)
    clear hw2
    go_wp2
    go_ret
    exact ⟨ret_b HE.out.symm, HB2.out⟩

/-- The first exchange by quorums. -/
theorem most_1 {E n f : Int} {vs : List Int} (h : enoughB E n f 1 vs = true) : mostF E n f vs = 1 := by
  have h2 := of_decide_eq_true h
  exact mostF_1 h2.1 (by rw [cntF_in (by decide) (by decide)] at h2; exact h2.2)
theorem most_0 {E n f : Int} {vs : List Int} (h1 : enoughB E n f 1 vs = false) (h : enoughB E n f 0 vs = true) : mostF E n f vs = 0 := by
  have h2 := of_decide_eq_true h
  have h3 := of_decide_eq_false h1
  rw [cntF_in (by decide) (by decide)] at h2 h3
  exact mostF_0 h2.1 (fun k => h3 ⟨h2.1, k⟩) h2.2
theorem most_2 {E n f : Int} {vs : List Int} (h1 : enoughB E n f 1 vs = false) (h : enoughB E n f 0 vs = false) : mostF E n f vs = 2 := by
  by_cases hE : E = 0
  · have h2 := of_decide_eq_false h
    have h3 := of_decide_eq_false h1
    rw [cntF_in (by decide) (by decide)] at h2 h3
    exact mostF_2 hE (fun k => h3 ⟨hE, k⟩) (fun k => h2 ⟨hE, k⟩)
  · exact mostF_no hE _ _ _

set_option maxHeartbeats 2000000 in
theorem rMost_any (n f d p r dr o sl md fr : Int) (ad : Option Addr) (cap : Nat) (zs : List Int) (a2 : Option Addr) (len c2 : Nat) (vs : List Int) (w : World) (hl : zs.length ≤ 9223372036854775807) (hT : Tab w ad zs) (hlv : vs.length ≤ 9223372036854775807) (hV : kInt.Lies w.heap.size w (.slice a2 len c2) vs) :
    Calls Try.prog 125 #[.agg #[.int .i64 n, .int .i64 f, .int .i64 d, .int .i64 p, .int .i64 r, .int .i64 dr, .int .i64 o, .int .i64 sl, .int .i64 md, .int .i64 fr, .slice ad zs.length cap], .slice a2 len c2] w fun e w' => e = .returned (.int .i64 (mostF (plainE n f d p r dr o sl md fr zs) n f vs)) ∧ Below w.heap.size w w' := by
  have C := fun v V h h2 => rEnough_any n f d p r dr o sl md fr ad cap zs v a2 len c2 vs V hl h hlv h2
  have HT := hidden (hT.below (ballc w (.cells #[.int .i64 n, .int .i64 f, .int .i64 d, .int .i64 p, .int .i64 r, .int .i64 dr, .int .i64 o, .int .i64 sl, .int .i64 md, .int .i64 fr, .slice ad zs.length cap] 24)))
  have HV := hidden (hV.later (ballc w (.cells #[.int .i64 n, .int .i64 f, .int .i64 d, .int .i64 p, .int .i64 r, .int .i64 dr, .int .i64 o, .int .i64 sl, .int .i64 md, .int .i64 fr, .slice ad zs.length cap] 24)))
  have C1 := C 1
  have C0 := C 0
  have m1 := fun h => most_1 (E := plainE n f d p r dr o sl md fr zs) (n := n) (f := f) (vs := vs) h
  have m0 := fun h => most_0 (E := plainE n f d p r dr o sl md fr zs) (n := n) (f := f) (vs := vs) h
  have m2 := fun h => most_2 (E := plainE n f d p r dr o sl md fr zs) (n := n) (f := f) (vs := vs) h
  clear C hT hV
  generalize mostF (plainE n f d p r dr o sl md fr zs) n f vs = M at *
  generalize enoughB (plainE n f d p r dr o sl md fr zs) n f 1 vs = q1 at *
  generalize enoughB (plainE n f d p r dr o sl md fr zs) n f 0 vs = q0 at *
  cases q1
  · cases q0
    · have HM := hidden (m2 rfl rfl)
      clear m0 m1 m2
      go_enter Try.func125, Try.ntmps125
      go_wp2_with fail
      refine (C1 _ HT.out HV.out).mono ?_
      rintro e w2 ⟨rfl, hb2⟩
      have HB2 := hidden hb2
      obtain ⟨hbox, hsz⟩ := box_at hb2
      clear hb2 C1
      go_wp2_with fail
      refine (C0 _ (HT.out.below HB2.out) (HV.out.later HB2.out)).mono ?_
      rintro e w3 ⟨rfl, hb3⟩
      have HB3 := hidden (bthen (ballc w _) (bthen HB2.out hb3))
      clear hb3 C0 hbox hsz
      go_wp2
      go_ret
      exact ⟨ret_i HM.out.symm, HB3.out⟩
    · have HM := hidden (m0 rfl rfl)
      clear m0 m1 m2
      go_enter Try.func125, Try.ntmps125
      go_wp2_with fail
      refine (C1 _ HT.out HV.out).mono ?_
      rintro e w2 ⟨rfl, hb2⟩
      have HB2 := hidden hb2
      obtain ⟨hbox, hsz⟩ := box_at hb2
      clear hb2 C1
      go_wp2_with fail
      refine (C0 _ (HT.out.below HB2.out) (HV.out.later HB2.out)).mono ?_
      rintro e w3 ⟨rfl, hb3⟩
      have HB3 := hidden (bthen (ballc w _) (bthen HB2.out hb3))
      clear hb3 C0 hbox hsz
      go_wp2
      go_ret
      exact ⟨ret_i HM.out.symm, HB3.out⟩
  · have HM := hidden (m1 rfl)
    clear m0 m1 m2
    go_enter Try.func125, Try.ntmps125
    go_wp2_with fail
    refine (C1 _ HT.out HV.out).mono ?_
    rintro e w2 ⟨rfl, hb2⟩
    have HB3 := hidden (bthen (ballc w _) hb2)
    clear hb2 C1
    go_wp2
    go_ret
    exact ⟨ret_i HM.out.symm, HB3.out⟩

set_option maxHeartbeats 4000000 in
theorem rLeast_any (n f d p r dr o sl md fr : Int) (ad : Option Addr) (cap : Nat) (zs : List Int) (now : Int) (a2 : Option Addr) (len c2 : Nat) (vs : List Int) (w : World) (hl : zs.length ≤ 9223372036854775807) (hT : Tab w ad zs) (hlv : vs.length ≤ 9223372036854775807) (hV : kInt.Lies w.heap.size w (.slice a2 len c2) vs) :
    Calls Try.prog 126 #[.agg #[.int .i64 n, .int .i64 f, .int .i64 d, .int .i64 p, .int .i64 r, .int .i64 dr, .int .i64 o, .int .i64 sl, .int .i64 md, .int .i64 fr, .slice ad zs.length cap], .int .i64 now, .slice a2 len c2] w fun e w' => e = .returned (.int .i64 (leastF (plainE n f d p r dr o sl md fr zs) f now vs)) ∧ Below w.heap.size w w' := by
  have HQ := hidden (refPlain_any n f d p r dr o sl md fr ad cap zs (w.alloc (.cells #[.int .i64 n, .int .i64 f, .int .i64 d, .int .i64 p, .int .i64 r, .int .i64 dr, .int .i64 o, .int .i64 sl, .int .i64 md, .int .i64 fr, .slice ad zs.length cap] 24)) hl (hT.below (ballc _ _)))
  have HK := hidden (fun h => plainE_ok (n := n) (f := f) (d := d) (p := p) (r := r) (dr := dr) (o := o) (sl := sl) (md := md) (fr := fr) (zs := zs) h)
  have HV := hidden (hV.later (ballc w (.cells #[.int .i64 n, .int .i64 f, .int .i64 d, .int .i64 p, .int .i64 r, .int .i64 dr, .int .i64 o, .int .i64 sl, .int .i64 md, .int .i64 fr, .slice ad zs.length cap] 24)))
  have C := fun v V h => Calls.to_below (rTCount_any v a2 len c2 vs hlv V h)
  have C0 := C 0
  have C1 := C 1
  have C2 := C 2
  rw [cntF_in (by decide) (by decide)] at C0 C1 C2
  have C0 := hidden C0
  have C1 := hidden C1
  have C2 := hidden C2
  clear hT hV C
  generalize plainE n f d p r dr o sl md fr zs = E at HQ HK
  by_cases hE : E = 0
  · obtain ⟨n1, n2, f1, f2, n3, _⟩ := HK.out hE
    subst hE
    have m0 := fun h => leastF_0 (E := 0) rfl (f := f) (now := now) (zs := vs) h
    have m1 := fun h => leastF_1 (E := 0) rfl (f := f) (now := now) (zs := vs) h
    have m2 := fun h => leastF_2 (E := 0) rfl (f := f) (now := now) (zs := vs) h
    have m3 := fun h => leastF_n (E := 0) rfl (f := f) (now := now) (zs := vs) h
    generalize leastF 0 f now vs = M at *
    generalize cntL 0 vs = k0 at *
    generalize cntL 1 vs = k1 at *
    generalize cntL 2 vs = k2 at *
    by_cases h0 : f + 1 ≤ (k0 : Int)
    · have g0 : f < (k0 : Int) := by omega
      have HM := hidden (m0 h0)
      clear m0 m1 m2 m3
      go_enter Try.func126, Try.ntmps126
      go_wp2_with fail
      refine HQ.out.mono ?_
      rintro e w2 ⟨rfl, hb2⟩
      have HV2 := hidden (HV.out.later hb2)
      have HBX := hidden hb2
      obtain ⟨hbox, hsz⟩ := box_at hb2
      clear hb2 HQ HK HV
      go_wp2
      refine wp_loop_rounds 4 ?_
      rw [rounds_succ]
      go_wp2
      refine wp_region_quiet_below (by kernel_rfl) (by kernel_rfl) ?_
      repeat (go_big_quiet_step (first | (go_at_call 134; exact Calls.regrown_of (C0.out _ (HV2.out.later (below_regrown _ _ _))))))
      refine wpQuiet_nil ?_
      intro w3 hw
      have HC := hidden (rg_below hw)
      clear hw
      obtain ⟨hbox, hsz⟩ := box_at (bthen HBX.out HC.out)
      have HV2 := hidden (HV2.out.later HC.out)
      have HBX := hidden (bthen HBX.out HC.out)
      clear HC
      go_wp2
      go_ret
      exact ⟨ret_i HM.out.symm, bthen (ballc w _) HBX.out⟩
    · have g0 : ¬ f < (k0 : Int) := by omega
      by_cases h1 : f + 1 ≤ (k1 : Int)
      · have g1 : f < (k1 : Int) := by omega
        have HM := hidden (m1 h0 h1)
        clear m0 m1 m2 m3
        go_enter Try.func126, Try.ntmps126
        go_wp2_with fail
        refine HQ.out.mono ?_
        rintro e w2 ⟨rfl, hb2⟩
        have HV2 := hidden (HV.out.later hb2)
        have HBX := hidden hb2
        obtain ⟨hbox, hsz⟩ := box_at hb2
        clear hb2 HQ HK HV
        go_wp2
        refine wp_loop_rounds 4 ?_
        rw [rounds_succ]
        go_wp2
        refine wp_region_quiet_below (by kernel_rfl) (by kernel_rfl) ?_
        repeat (go_big_quiet_step (first | (go_at_call 134; exact Calls.regrown_of (C0.out _ (HV2.out.later (below_regrown _ _ _))))))
        refine wpQuiet_nil ?_
        intro w3 hw
        have HC := hidden (rg_below hw)
        clear hw
        obtain ⟨hbox, hsz⟩ := box_at (bthen HBX.out HC.out)
        have HV2 := hidden (HV2.out.later HC.out)
        have HBX := hidden (bthen HBX.out HC.out)
        clear HC
        go_wp2
        rw [rounds_succ]
        go_wp2
        refine wp_region_quiet_below (by kernel_rfl) (by kernel_rfl) ?_
        repeat (go_big_quiet_step (first | (go_at_call 134; exact Calls.regrown_of (C1.out _ (HV2.out.later (below_regrown _ _ _))))))
        refine wpQuiet_nil ?_
        intro w4 hw
        have HC := hidden (rg_below hw)
        clear hw
        obtain ⟨hbox, hsz⟩ := box_at (bthen HBX.out HC.out)
        have HV2 := hidden (HV2.out.later HC.out)
        have HBX := hidden (bthen HBX.out HC.out)
        clear HC
        go_wp2
        go_ret
        exact ⟨ret_i HM.out.symm, bthen (ballc w _) HBX.out⟩
      · have g1 : ¬ f < (k1 : Int) := by omega
        by_cases h2 : f + 1 ≤ (k2 : Int)
        · have g2 : f < (k2 : Int) := by omega
          have HM := hidden (m2 h0 h1 h2)
          clear m0 m1 m2 m3
          go_enter Try.func126, Try.ntmps126
          go_wp2_with fail
          refine HQ.out.mono ?_
          rintro e w2 ⟨rfl, hb2⟩
          have HV2 := hidden (HV.out.later hb2)
          have HBX := hidden hb2
          obtain ⟨hbox, hsz⟩ := box_at hb2
          clear hb2 HQ HK HV
          go_wp2
          refine wp_loop_rounds 4 ?_
          rw [rounds_succ]
          go_wp2
          refine wp_region_quiet_below (by kernel_rfl) (by kernel_rfl) ?_
          repeat (go_big_quiet_step (first | (go_at_call 134; exact Calls.regrown_of (C0.out _ (HV2.out.later (below_regrown _ _ _))))))
          refine wpQuiet_nil ?_
          intro w3 hw
          have HC := hidden (rg_below hw)
          clear hw
          obtain ⟨hbox, hsz⟩ := box_at (bthen HBX.out HC.out)
          have HV2 := hidden (HV2.out.later HC.out)
          have HBX := hidden (bthen HBX.out HC.out)
          clear HC
          go_wp2
          rw [rounds_succ]
          go_wp2
          refine wp_region_quiet_below (by kernel_rfl) (by kernel_rfl) ?_
          repeat (go_big_quiet_step (first | (go_at_call 134; exact Calls.regrown_of (C1.out _ (HV2.out.later (below_regrown _ _ _))))))
          refine wpQuiet_nil ?_
          intro w4 hw
          have HC := hidden (rg_below hw)
          clear hw
          obtain ⟨hbox, hsz⟩ := box_at (bthen HBX.out HC.out)
          have HV2 := hidden (HV2.out.later HC.out)
          have HBX := hidden (bthen HBX.out HC.out)
          clear HC
          go_wp2
          rw [rounds_succ]
          go_wp2
          refine wp_region_quiet_below (by kernel_rfl) (by kernel_rfl) ?_
          repeat (go_big_quiet_step (first | (go_at_call 134; exact Calls.regrown_of (C2.out _ (HV2.out.later (below_regrown _ _ _))))))
          refine wpQuiet_nil ?_
          intro w5 hw
          have HC := hidden (rg_below hw)
          clear hw
          obtain ⟨hbox, hsz⟩ := box_at (bthen HBX.out HC.out)
          have HV2 := hidden (HV2.out.later HC.out)
          have HBX := hidden (bthen HBX.out HC.out)
          clear HC
          go_wp2
          go_ret
          exact ⟨ret_i HM.out.symm, bthen (ballc w _) HBX.out⟩
        · have g2 : ¬ f < (k2 : Int) := by omega
          have HM := hidden (m3 h0 h1 h2)
          clear m0 m1 m2 m3
          go_enter Try.func126, Try.ntmps126
          go_wp2_with fail
          refine HQ.out.mono ?_
          rintro e w2 ⟨rfl, hb2⟩
          have HV2 := hidden (HV.out.later hb2)
          have HBX := hidden hb2
          obtain ⟨hbox, hsz⟩ := box_at hb2
          clear hb2 HQ HK HV
          go_wp2
          refine wp_loop_rounds 4 ?_
          rw [rounds_succ]
          go_wp2
          refine wp_region_quiet_below (by kernel_rfl) (by kernel_rfl) ?_
          repeat (go_big_quiet_step (first | (go_at_call 134; exact Calls.regrown_of (C0.out _ (HV2.out.later (below_regrown _ _ _))))))
          refine wpQuiet_nil ?_
          intro w3 hw
          have HC := hidden (rg_below hw)
          clear hw
          obtain ⟨hbox, hsz⟩ := box_at (bthen HBX.out HC.out)
          have HV2 := hidden (HV2.out.later HC.out)
          have HBX := hidden (bthen HBX.out HC.out)
          clear HC
          go_wp2
          rw [rounds_succ]
          go_wp2
          refine wp_region_quiet_below (by kernel_rfl) (by kernel_rfl) ?_
          repeat (go_big_quiet_step (first | (go_at_call 134; exact Calls.regrown_of (C1.out _ (HV2.out.later (below_regrown _ _ _))))))
          refine wpQuiet_nil ?_
          intro w4 hw
          have HC := hidden (rg_below hw)
          clear hw
          obtain ⟨hbox, hsz⟩ := box_at (bthen HBX.out HC.out)
          have HV2 := hidden (HV2.out.later HC.out)
          have HBX := hidden (bthen HBX.out HC.out)
          clear HC
          go_wp2
          rw [rounds_succ]
          go_wp2
          refine wp_region_quiet_below (by kernel_rfl) (by kernel_rfl) ?_
          repeat (go_big_quiet_step (first | (go_at_call 134; exact Calls.regrown_of (C2.out _ (HV2.out.later (below_regrown _ _ _))))))
          refine wpQuiet_nil ?_
          intro w5 hw
          have HC := hidden (rg_below hw)
          clear hw
          obtain ⟨hbox, hsz⟩ := box_at (bthen HBX.out HC.out)
          have HV2 := hidden (HV2.out.later HC.out)
          have HBX := hidden (bthen HBX.out HC.out)
          clear HC
          go_wp2
          rw [rounds_succ]
          go_wp2
          go_ret
          exact ⟨ret_i HM.out.symm, bthen (ballc w _) HBX.out⟩
  · have HE := hidden (leastF_no hE f now vs)
    clear HK
    go_enter Try.func126, Try.ntmps126
    go_wp2_with fail
    refine HQ.out.mono ?_
    rintro e w2 ⟨rfl, hb2⟩
    have HB2 : Hid (Below w.heap.size w w2) := bthen (ballc w _) hb2
    clear hb2 HQ HV
    go_wp2
    go_ret
    exact ⟨ret_i HE.out.symm, HB2.out⟩
end Go.Proofs.Ytohgmliafidalaa
