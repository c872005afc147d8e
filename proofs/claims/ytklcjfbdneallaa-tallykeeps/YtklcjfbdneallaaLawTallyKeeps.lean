/- The walk of the statement TallyKeeps: the call returns true, and makes at most new memory; conditions: the table and the votes lie where they say, and lengths fit int. -/
import Derived.Test.YtklcjfbdneallaaTalK
import Derived.Test.YtklcjfbdneallaaTalS
namespace Go.Proofs.Ytklcjfbdneallaa.LawTallyKeeps
open Go.ChangeShapes Go.WideShapes Go.ChangeAt Go.RowKit
set_option linter.unusedVariables false
attribute [local go_sem] cell_rg

theorem cnt_two (zs : List Int) : cntL 0 zs + cntL 1 zs ≤ zs.length := by
  unfold cntL
  induction zs with
  | nil => exact Nat.le_refl _
  | cons z zs ih =>
    rw [List.countP_cons, List.countP_cons, List.length_cons]
    by_cases h0 : z = 0
    · subst h0; simp; omega
    · by_cases h1 : z = 1
      · subst h1; simp; omega
      · simp [h0, h1]; omega
/-- What the statement asks of a vote v. -/
def Kept (n f now v : Int) (zs : List Int) : Prop := enoughB 0 n f v zs = false ∨ (enoughB 0 n f v zs = true ∧ mostF 0 n f zs = v ∧ leastF 0 f now zs = v ∧ ¬ f + 1 ≤ cntF (1 - v) zs)
theorem kept0 {n f : Int} (now : Int) {zs : List Int} (h1 : (zs.length : Int) = n) (h4 : 3 * f + 1 ≤ n) (h5 : 0 ≤ f) : Kept n f now 0 zs := by
  have t := cnt_two zs
  unfold Kept
  rw [enoughB_ok rfl, cntF_in (by decide) (by decide)]
  by_cases h : n - f ≤ (cntL 0 zs : Int)
  · right
    refine ⟨decide_eq_true h, mostF_0 rfl (by omega) h, leastF_0 rfl (by omega), ?_⟩
    rw [show (1 : Int) - 0 = 1 from rfl, cntF_in (by decide) (by decide)]
    omega
  · exact .inl (decide_eq_false h)
theorem kept1 {n f : Int} (now : Int) {zs : List Int} (h1 : (zs.length : Int) = n) (h4 : 3 * f + 1 ≤ n) (h5 : 0 ≤ f) : Kept n f now 1 zs := by
  have t := cnt_two zs
  unfold Kept
  rw [enoughB_ok rfl, cntF_in (by decide) (by decide)]
  by_cases h : n - f ≤ (cntL 1 zs : Int)
  · right
    refine ⟨decide_eq_true h, mostF_1 rfl h, leastF_1 rfl (by omega) (by omega), ?_⟩
    rw [show (1 : Int) - 1 = 0 from rfl, cntF_in (by decide) (by decide)]
    omega
  · exact .inl (decide_eq_false h)

set_option maxHeartbeats 2000000 in
theorem walk (n f d p r dr o sl md fr : Int) (ad : Option Addr) (cap : Nat) (zs : List Int) (now : Int) (a2 : Option Addr) (c2 : Nat) (vs : List Int) (w : World) (hl : zs.length ≤ 9223372036854775807) (hT : Tab w ad zs) (_ : -9223372036854775808 ≤ now ∧ now ≤ 9223372036854775807) (hlv : vs.length ≤ 9223372036854775807) (hV : kInt.Lies w.heap.size w (.slice a2 vs.length c2) vs) :
    Calls Try.prog 5 #[.agg #[.int .i64 n, .int .i64 f, .int .i64 d, .int .i64 p, .int .i64 r, .int .i64 dr, .int .i64 o, .int .i64 sl, .int .i64 md, .int .i64 fr, .slice ad zs.length cap], .int .i64 now, .slice a2 vs.length c2] w fun e w' => e = .returned (.bool true) ∧ Below w.heap.size w w' := by
  have HT := hidden (hT.below (ballc w (.cells #[.int .i64 n, .int .i64 f, .int .i64 d, .int .i64 p, .int .i64 r, .int .i64 dr, .int .i64 o, .int .i64 sl, .int .i64 md, .int .i64 fr, .slice ad zs.length cap] 24)))
  have HV := hidden (hV.later (ballc w (.cells #[.int .i64 n, .int .i64 f, .int .i64 d, .int .i64 p, .int .i64 r, .int .i64 dr, .int .i64 o, .int .i64 sl, .int .i64 md, .int .i64 fr, .slice ad zs.length cap] 24)))
  have HQ := hidden (fun V h => refPlain_any n f d p r dr o sl md fr ad cap zs V hl h)
  have S1 := hidden (fun V h => Some_any n f d p r dr o sl md fr ad cap zs V hl h)
  have K1 := hidden (fun v V h => Count_any v a2 vs.length c2 vs hlv V h)
  have E1 := hidden (fun v V h h2 => Enough_any n f d p r dr o sl md fr ad cap zs v a2 vs.length c2 vs V hl h hlv h2)
  have M1 := hidden (fun V h h2 => Most_any n f d p r dr o sl md fr ad cap zs a2 vs.length c2 vs V hl h hlv h2)
  have L1 := hidden (fun V h h2 => Least_any n f d p r dr o sl md fr ad cap zs now a2 vs.length c2 vs V hl h hlv h2)
  have HK := hidden (fun h => plainE_ok (n := n) (f := f) (d := d) (p := p) (r := r) (dr := dr) (o := o) (sl := sl) (md := md) (fr := fr) (zs := zs) h)
  clear hT hV
  generalize plainE n f d p r dr o sl md fr zs = E at *
  by_cases hE : E = 0
  · obtain ⟨n1, n2, f1, f2, n3, _⟩ := HK.out hE
    subst hE
    rw [gate_ok] at S1
    by_cases h1 : (vs.length : Int) = n
    · have H0 := hidden (kept0 now h1 (by omega) f1)
      have H1 := hidden (kept1 now h1 (by omega) f1)
      subst h1
      have t1 : IntKind.i64.wrap (f + 1) = f + 1 := IntWalk.i64_in _ (by omega)
      have hne : (vs.length : Int) == (vs.length : Int) := by simp
      have e0 := E1.out 0
      have e1 := E1.out 1
      have k0 := K1.out 1
      have k1 := K1.out 0
      have q0 := H0.out
      have q1 := H1.out
      unfold Kept at q0 q1
      rw [show (1 : Int) - 0 = 1 from rfl] at q0
      rw [show (1 : Int) - 1 = 0 from rfl] at q1
      have k1b := cntF_bd 1 vs
      have k0b := cntF_bd 0 vs
      clear H0 H1 E1 K1 HK
      generalize enoughB 0 vs.length f 0 vs = en0 at *
      generalize enoughB 0 vs.length f 1 vs = en1 at *
      generalize mostF 0 vs.length f vs = ms at *
      generalize leastF 0 f now vs = ls at *
      generalize cntF 1 vs = cn1 at *
      generalize cntF 0 vs = cn0 at *
      rcases q0 with rfl | ⟨rfl, rfl, rfl, q0⟩ <;> rcases q1 with rfl | ⟨rfl, q1, q1', q1''⟩
      all_goals try (exfalso; omega)
      all_goals
        try subst q1
        try subst q1'
        try (have q1d : decide (f + 1 ≤ cn0) = false := decide_eq_false q1'')
        try (have q0d : decide (f + 1 ≤ cn1) = false := decide_eq_false q0)
        go_enter Try.func5, Try.ntmps5
        go_wp2_with fail
        refine (HQ.out _ HT.out).mono ?_
        rintro e w2 ⟨rfl, hb2⟩
        have HT2 := hidden (HT.out.below hb2)
        have HV2 := hidden (HV.out.later hb2)
        have HB2 : Hid (Below w.heap.size w w2) := bthen (ballc w _) hb2
        have HX2 := hidden hb2
        obtain ⟨hbox, hsz⟩ := box_at hb2
        clear hb2
        go_wp2
        refine wp_loop_rounds 3 ?_
        rw [rounds_succ]
        go_wp2
        refine wp_region_quiet_below (by kernel_rfl) (by kernel_rfl) ?_
        repeat (go_big_quiet_step (first
          | (go_at_call 16; exact Calls.regrown_of (e0 _ (HT2.out.below (below_regrown _ _ _)) (HV2.out.later (below_regrown _ _ _))))
          | (go_at_call 18; exact Calls.regrown_of (M1.out _ (HT2.out.below (below_regrown _ _ _)) (HV2.out.later (below_regrown _ _ _))))
          | (go_at_call 20; exact Calls.regrown_of (L1.out _ (HT2.out.below (below_regrown _ _ _)) (HV2.out.later (below_regrown _ _ _))))
          | (go_at_call 14; exact Calls.regrown_of (k0 _ (HV2.out.later (below_regrown _ _ _))))
          | (go_at_call 12; exact Calls.regrown_of (S1.out _ (HT2.out.below (below_regrown _ _ _))))))
        refine wpQuiet_nil ?_
        intro w3 hw3
        have hb3 := rg_below hw3
        clear hw3 hbox hsz
        have HX3 := hidden (bthen HX2.out hb3)
        have HT3 := hidden (HT2.out.below hb3)
        have HV3 := hidden (HV2.out.later hb3)
        obtain ⟨hbox, hsz⟩ := box_at HX3.out
        clear hb3 HX2 HT2 HV2 HB2
        go_wp2
        rw [rounds_succ]
        go_wp2
        refine wp_region_quiet_below (by kernel_rfl) (by kernel_rfl) ?_
        repeat (go_big_quiet_step (first
          | (go_at_call 16; exact Calls.regrown_of (e1 _ (HT3.out.below (below_regrown _ _ _)) (HV3.out.later (below_regrown _ _ _))))
          | (go_at_call 18; exact Calls.regrown_of (M1.out _ (HT3.out.below (below_regrown _ _ _)) (HV3.out.later (below_regrown _ _ _))))
          | (go_at_call 20; exact Calls.regrown_of (L1.out _ (HT3.out.below (below_regrown _ _ _)) (HV3.out.later (below_regrown _ _ _))))
          | (go_at_call 14; exact Calls.regrown_of (k1 _ (HV3.out.later (below_regrown _ _ _))))
          | (go_at_call 12; exact Calls.regrown_of (S1.out _ (HT3.out.below (below_regrown _ _ _))))))
        refine wpQuiet_nil ?_
        intro w4 hw4
        have hb4 := rg_below hw4
        clear hw4 hbox hsz
        have HX4 := hidden (bthen HX3.out hb4)
        obtain ⟨hbox, hsz⟩ := box_at HX4.out
        clear hb4 HX3 HT3 HV3
        go_wp2
        rw [rounds_succ]
        go_wp2_with (go_at_call 9; refine (known13_any _).mono ?_; rintro e w5 ⟨rfl, hb⟩)
        go_ret
        exact ⟨rfl, bthen (ballc w _) (bthen HX4.out hb)⟩
    · have j2 : ((vs.length : Int) == n) = false := by simp; omega
      clear S1 K1 E1 M1 L1 HK
      go_enter Try.func5, Try.ntmps5
      go_wp2_with fail
      refine (HQ.out _ HT.out).mono ?_
      rintro e w2 ⟨rfl, hb2⟩
      have HB2 : Hid (Below w.heap.size w w2) := bthen (ballc w _) hb2
      obtain ⟨hbox, hsz⟩ := box_at hb2
      clear hb2
      go_wp2_with (go_at_call 9; refine (known13_any _).mono ?_; rintro e w1 ⟨rfl, hb⟩)
      go_ret
      exact ⟨rfl, bthen HB2.out hb⟩
  · have j2 : (E == 0) = false := by simp [hE]
    clear S1 K1 E1 M1 L1 HK
    go_enter Try.func5, Try.ntmps5
    go_wp2_with fail
    refine (HQ.out _ HT.out).mono ?_
    rintro e w2 ⟨rfl, hb2⟩
    have HB2 : Hid (Below w.heap.size w w2) := bthen (ballc w _) hb2
    clear hb2
    go_wp2_with (go_at_call 9; refine (known13_any _).mono ?_; rintro e w1 ⟨rfl, hb⟩)
    go_ret
    exact ⟨rfl, bthen HB2.out hb⟩
end Go.Proofs.Ytklcjfbdneallaa.LawTallyKeeps
