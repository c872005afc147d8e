/- Several texts of one's own in one: what each proves, and its conditions, is said ahead of it. -/
import Derived.Test.YtkolhbacgoafcaaGreatBc
import Derived.Test.YtkolhbacgoafcaaGreatBa
import Derived.Shelf.Abstract
import Derived.Test.YtkolhbacgoafcaaGreatRep
import Derived.Deep.RegionHeld3
import Derived.Deep.DeepCutAuto

/- The calls Quorum, Some, Enough, Most and Least of package tally return what plain functions give, and make at most new memory; conditions: the table and the votes lie where they say, and lengths fit int. -/
namespace Go.Proofs.YtkolhbacgoafcaaGreat
open Go.ChangeShapes Go.WideShapes Go.ChangeAt Go.RowKit
set_option linter.unusedVariables false
attribute [local go_sem] idx3_0 idx3_1 idx3_2

theorem Quorum_any (n f d p r dr o sl md fr : Int) (ad : Option Addr) (cap : Nat) (zs : List Int) (w : World) (hl : zs.length ≤ 9223372036854775807) (hT : Tab w ad zs) :
    Calls Tryz.prog 108 #[.agg #[.int .i64 n, .int .i64 f, .int .i64 d, .int .i64 p, .int .i64 r, .int .i64 dr, .int .i64 o, .int .i64 sl, .int .i64 md, .int .i64 fr, .slice ad zs.length cap]] w fun e w' => e = .returned (.int .i64 (gate (plainE n f d p r dr o sl md fr zs) (n - f))) ∧ Below w.heap.size w w' := by
  have HQ := hidden (plain_any n f d p r dr o sl md fr ad cap zs (w.alloc (.cells #[.int .i64 n, .int .i64 f, .int .i64 d, .int .i64 p, .int .i64 r, .int .i64 dr, .int .i64 o, .int .i64 sl, .int .i64 md, .int .i64 fr, .slice ad zs.length cap] 24)) hl (hT.below (ballc _ _)))
  have HK := hidden (fun h => plainE_ok (n := n) (f := f) (d := d) (p := p) (r := r) (dr := dr) (o := o) (sl := sl) (md := md) (fr := fr) (zs := zs) h)
  clear hT
  generalize plainE n f d p r dr o sl md fr zs = E at HQ HK
  by_cases hE : E = 0
  · subst hE
    obtain ⟨n1, n2, f1, f2, _⟩ := HK.out rfl
    go_enter Tryz.func108, Tryz.ntmps108
    go_wp2_with fail
    refine HQ.out.mono ?_
    rintro e w2 ⟨rfl, hb2⟩
    have HB2 : Hid (Below w.heap.size w w2) := bthen (ballc w _) hb2
    obtain ⟨hbox, hsz⟩ := box_at hb2
    clear hb2 HQ HK
    go_wp2
    go_ret
    exact ⟨ret_i (gate_ok _).symm, HB2.out⟩
  · go_enter Tryz.func108, Tryz.ntmps108
    go_wp2_with fail
    refine HQ.out.mono ?_
    rintro e w2 ⟨rfl, hb2⟩
    have HB2 : Hid (Below w.heap.size w w2) := bthen (ballc w _) hb2
    clear hb2 HQ HK
    go_wp2
    go_ret
    exact ⟨ret_i (gate_no hE _).symm, HB2.out⟩
theorem Some_any (n f d p r dr o sl md fr : Int) (ad : Option Addr) (cap : Nat) (zs : List Int) (w : World) (hl : zs.length ≤ 9223372036854775807) (hT : Tab w ad zs) :
    Calls Tryz.prog 110 #[.agg #[.int .i64 n, .int .i64 f, .int .i64 d, .int .i64 p, .int .i64 r, .int .i64 dr, .int .i64 o, .int .i64 sl, .int .i64 md, .int .i64 fr, .slice ad zs.length cap]] w fun e w' => e = .returned (.int .i64 (gate (plainE n f d p r dr o sl md fr zs) (f + 1))) ∧ Below w.heap.size w w' := by
  have HQ := hidden (plain_any n f d p r dr o sl md fr ad cap zs (w.alloc (.cells #[.int .i64 n, .int .i64 f, .int .i64 d, .int .i64 p, .int .i64 r, .int .i64 dr, .int .i64 o, .int .i64 sl, .int .i64 md, .int .i64 fr, .slice ad zs.length cap] 24)) hl (hT.below (ballc _ _)))
  have HK := hidden (fun h => plainE_ok (n := n) (f := f) (d := d) (p := p) (r := r) (dr := dr) (o := o) (sl := sl) (md := md) (fr := fr) (zs := zs) h)
  clear hT
  generalize plainE n f d p r dr o sl md fr zs = E at HQ HK
  by_cases hE : E = 0
  · subst hE
    obtain ⟨n1, n2, f1, f2, _⟩ := HK.out rfl
    go_enter Tryz.func110, Tryz.ntmps110
    go_wp2_with fail
    refine HQ.out.mono ?_
    rintro e w2 ⟨rfl, hb2⟩
    have HB2 : Hid (Below w.heap.size w w2) := bthen (ballc w _) hb2
    obtain ⟨hbox, hsz⟩ := box_at hb2
    clear hb2 HQ HK
    go_wp2
    go_ret
    exact ⟨ret_i (gate_ok _).symm, HB2.out⟩
  · go_enter Tryz.func110, Tryz.ntmps110
    go_wp2_with fail
    refine HQ.out.mono ?_
    rintro e w2 ⟨rfl, hb2⟩
    have HB2 : Hid (Below w.heap.size w w2) := bthen (ballc w _) hb2
    clear hb2 HQ HK
    go_wp2
    go_ret
    exact ⟨ret_i (gate_no hE _).symm, HB2.out⟩

theorem Enough_any (n f d p r dr o sl md fr : Int) (ad : Option Addr) (cap : Nat) (zs : List Int) (v : Int) (a2 : Option Addr) (len c2 : Nat) (vs : List Int) (w : World) (hl : zs.length ≤ 9223372036854775807) (hT : Tab w ad zs) (hlv : vs.length ≤ 9223372036854775807) (hV : kInt.Lies w.heap.size w (.slice a2 len c2) vs) :
    Calls Tryz.prog 103 #[.agg #[.int .i64 n, .int .i64 f, .int .i64 d, .int .i64 p, .int .i64 r, .int .i64 dr, .int .i64 o, .int .i64 sl, .int .i64 md, .int .i64 fr, .slice ad zs.length cap], .int .i64 v, .slice a2 len c2] w fun e w' => e = .returned (.bool (enoughB (plainE n f d p r dr o sl md fr zs) n f v vs)) ∧ Below w.heap.size w w' := by
  have HQ := hidden (Quorum_any n f d p r dr o sl md fr ad cap zs (w.alloc (.cells #[.int .i64 n, .int .i64 f, .int .i64 d, .int .i64 p, .int .i64 r, .int .i64 dr, .int .i64 o, .int .i64 sl, .int .i64 md, .int .i64 fr, .slice ad zs.length cap] 24)) hl (hT.below (ballc _ _)))
  have HK := hidden (fun h => plainE_ok (n := n) (f := f) (d := d) (p := p) (r := r) (dr := dr) (o := o) (sl := sl) (md := md) (fr := fr) (zs := zs) h)
  have HV := hidden (hV.later (ballc w (.cells #[.int .i64 n, .int .i64 f, .int .i64 d, .int .i64 p, .int .i64 r, .int .i64 dr, .int .i64 o, .int .i64 sl, .int .i64 md, .int .i64 fr, .slice ad zs.length cap] 24)))
  clear hT hV
  generalize plainE n f d p r dr o sl md fr zs = E at HQ HK
  by_cases hE : E = 0
  · obtain ⟨n1, n2, f1, f2, n3, _⟩ := HK.out hE
    subst hE
    rw [gate_ok] at HQ
    have HE := hidden (enoughB_ok (E := 0) rfl n f v vs)
    have hq : 0 < n - f := by omega
    generalize n - f = q at *
    have C2 := fun V h => TCount_any v a2 len c2 vs hlv V h
    generalize cntF v vs = c at *
    have iq : decide (0 < q) = true := by simp [hq]
    by_cases hc : q ≤ c
    · rw [decide_eq_true hc] at HE
      have ic : decide (q ≤ c) = true := by simp [hc]
      go_enter Tryz.func103, Tryz.ntmps103
      go_wp2_with fail
      refine HQ.out.mono ?_
      rintro e w2 ⟨rfl, hb2⟩
      have HV2 := hidden (HV.out.later hb2)
      have HB2 : Hid (Below w.heap.size w w2) := bthen (ballc w _) hb2
      clear hb2 HQ HK HV
      go_wp2_with fail
      refine (C2 _ HV2.out).mono ?_
      rintro e w3 ⟨rfl, hb3⟩
      have HB3 := hidden (bthen HB2.out hb3)
      clear hb3 C2 HB2
      go_wp2
      go_ret
      exact ⟨ret_b HE.out.symm, HB3.out⟩
    · rw [decide_eq_false hc] at HE
      have ic : decide (q ≤ c) = false := by simp; omega
      go_enter Tryz.func103, Tryz.ntmps103
      go_wp2_with fail
      refine HQ.out.mono ?_
      rintro e w2 ⟨rfl, hb2⟩
      have HV2 := hidden (HV.out.later hb2)
      have HB2 : Hid (Below w.heap.size w w2) := bthen (ballc w _) hb2
      clear hb2 HQ HK HV
      go_wp2_with fail
      refine (C2 _ HV2.out).mono ?_
      rintro e w3 ⟨rfl, hb3⟩
      have HB3 := hidden (bthen HB2.out hb3)
      clear hb3 C2 HB2
      go_wp2
      go_ret
      exact ⟨ret_b HE.out.symm, HB3.out⟩
  · rw [gate_no hE] at HQ
    have HE := hidden (enoughB_no hE n f v vs)
    clear hE HK
    go_enter Tryz.func103, Tryz.ntmps103
    go_wp2_with fail
    refine HQ.out.mono ?_
    rintro e w2 ⟨rfl, hb2⟩
    have HB2 : Hid (Below w.heap.size w w2) := bthen (ballc w _) hb2
    clear hb2 HQ
    go_wp2
    go_ret
    exact ⟨ret_b HE.out.symm, HB2.out⟩

set_option maxHeartbeats 2000000 in
theorem Most_any (n f d p r dr o sl md fr : Int) (ad : Option Addr) (cap : Nat) (zs : List Int) (a2 : Option Addr) (len c2 : Nat) (vs : List Int) (w : World) (hl : zs.length ≤ 9223372036854775807) (hT : Tab w ad zs) (hlv : vs.length ≤ 9223372036854775807) (hV : kInt.Lies w.heap.size w (.slice a2 len c2) vs) :
    Calls Tryz.prog 101 #[.agg #[.int .i64 n, .int .i64 f, .int .i64 d, .int .i64 p, .int .i64 r, .int .i64 dr, .int .i64 o, .int .i64 sl, .int .i64 md, .int .i64 fr, .slice ad zs.length cap], .slice a2 len c2] w fun e w' => e = .returned (.int .i64 (mostF (plainE n f d p r dr o sl md fr zs) n f vs)) ∧ Below w.heap.size w w' := by
  have HQ := hidden (Quorum_any n f d p r dr o sl md fr ad cap zs (w.alloc (.cells #[.int .i64 n, .int .i64 f, .int .i64 d, .int .i64 p, .int .i64 r, .int .i64 dr, .int .i64 o, .int .i64 sl, .int .i64 md, .int .i64 fr, .slice ad zs.length cap] 24)) hl (hT.below (ballc _ _)))
  have HK := hidden (fun h => plainE_ok (n := n) (f := f) (d := d) (p := p) (r := r) (dr := dr) (o := o) (sl := sl) (md := md) (fr := fr) (zs := zs) h)
  have HV := hidden (hV.later (ballc w (.cells #[.int .i64 n, .int .i64 f, .int .i64 d, .int .i64 p, .int .i64 r, .int .i64 dr, .int .i64 o, .int .i64 sl, .int .i64 md, .int .i64 fr, .slice ad zs.length cap] 24)))
  have C2 := fun V h => counted_any a2 len c2 vs hlv V h
  clear hT hV
  generalize plainE n f d p r dr o sl md fr zs = E at HQ HK
  by_cases hE : E = 0
  · obtain ⟨n1, n2, f1, f2, n3, _⟩ := HK.out hE
    subst hE
    rw [gate_ok] at HQ
    have hq : 0 < n - f := by omega
    have m1 := fun h => mostF_1 (E := 0) rfl (n := n) (f := f) (zs := vs) h
    have m0 := fun h => mostF_0 (E := 0) rfl (n := n) (f := f) (zs := vs) h
    have m2 := fun h => mostF_2 (E := 0) rfl (n := n) (f := f) (zs := vs) h
    generalize mostF 0 n f vs = M at *
    generalize n - f = q at *
    generalize cntL 0 vs = k0 at *
    generalize cntL 1 vs = k1 at *
    generalize cntL 2 vs = k2 at *
    have iq : (q == 0) = false := by simp; omega
    by_cases h1 : q ≤ (k1 : Int)
    · have HM := hidden (m1 h1)
      clear m0 m1 m2
      go_enter Tryz.func101, Tryz.ntmps101
      go_wp2_with fail
      refine HQ.out.mono ?_
      rintro e w2 ⟨rfl, hb2⟩
      have HV2 := hidden (HV.out.later hb2)
      have HB2 : Hid (Below w.heap.size w w2) := bthen (ballc w _) hb2
      clear hb2 HQ HK HV
      go_wp2_with fail
      refine (C2 _ HV2.out).mono ?_
      rintro e w3 ⟨rfl, hb3⟩
      have HB3 := hidden (bthen HB2.out hb3)
      clear hb3 C2 HB2
      go_wp2
      go_ret
      exact ⟨ret_i HM.out.symm, bthen HB3.out (ballc _ _)⟩
    · by_cases h0 : q ≤ (k0 : Int)
      · have HM := hidden (m0 h1 h0)
        clear m0 m1 m2
        go_enter Tryz.func101, Tryz.ntmps101
        go_wp2_with fail
        refine HQ.out.mono ?_
        rintro e w2 ⟨rfl, hb2⟩
        have HV2 := hidden (HV.out.later hb2)
        have HB2 : Hid (Below w.heap.size w w2) := bthen (ballc w _) hb2
        clear hb2 HQ HK HV
        go_wp2_with fail
        refine (C2 _ HV2.out).mono ?_
        rintro e w3 ⟨rfl, hb3⟩
        have HB3 := hidden (bthen HB2.out hb3)
        clear hb3 C2 HB2
        go_wp2
        go_ret
        exact ⟨ret_i HM.out.symm, bthen HB3.out (ballc _ _)⟩
      · have HM := hidden (m2 h1 h0)
        clear m0 m1 m2
        go_enter Tryz.func101, Tryz.ntmps101
        go_wp2_with fail
        refine HQ.out.mono ?_
        rintro e w2 ⟨rfl, hb2⟩
        have HV2 := hidden (HV.out.later hb2)
        have HB2 : Hid (Below w.heap.size w w2) := bthen (ballc w _) hb2
        clear hb2 HQ HK HV
        go_wp2_with fail
        refine (C2 _ HV2.out).mono ?_
        rintro e w3 ⟨rfl, hb3⟩
        have HB3 := hidden (bthen HB2.out hb3)
        clear hb3 C2 HB2
        go_wp2
        go_ret
        exact ⟨ret_i HM.out.symm, bthen HB3.out (ballc _ _)⟩
  · rw [gate_no hE] at HQ
    have HE := hidden (mostF_no hE n f vs)
    clear hE HK
    go_enter Tryz.func101, Tryz.ntmps101
    go_wp2_with fail
    refine HQ.out.mono ?_
    rintro e w2 ⟨rfl, hb2⟩
    have HV2 := hidden (HV.out.later hb2)
    have HB2 : Hid (Below w.heap.size w w2) := bthen (ballc w _) hb2
    clear hb2 HQ HV
    go_wp2_with fail
    refine (C2 _ HV2.out).mono ?_
    rintro e w3 ⟨rfl, hb3⟩
    have HB3 := hidden (bthen HB2.out hb3)
    clear hb3 C2 HB2
    go_wp2
    go_ret
    exact ⟨ret_i HE.out.symm, bthen HB3.out (ballc _ _)⟩
set_option maxHeartbeats 4000000 in
theorem Least_any (n f d p r dr o sl md fr : Int) (ad : Option Addr) (cap : Nat) (zs : List Int) (now : Int) (a2 : Option Addr) (len c2 : Nat) (vs : List Int) (w : World) (hl : zs.length ≤ 9223372036854775807) (hT : Tab w ad zs) (hlv : vs.length ≤ 9223372036854775807) (hV : kInt.Lies w.heap.size w (.slice a2 len c2) vs) :
    Calls Tryz.prog 102 #[.agg #[.int .i64 n, .int .i64 f, .int .i64 d, .int .i64 p, .int .i64 r, .int .i64 dr, .int .i64 o, .int .i64 sl, .int .i64 md, .int .i64 fr, .slice ad zs.length cap], .int .i64 now, .slice a2 len c2] w fun e w' => e = .returned (.int .i64 (leastF (plainE n f d p r dr o sl md fr zs) f now vs)) ∧ Below w.heap.size w w' := by
  have HQ := hidden (Some_any n f d p r dr o sl md fr ad cap zs (w.alloc (.cells #[.int .i64 n, .int .i64 f, .int .i64 d, .int .i64 p, .int .i64 r, .int .i64 dr, .int .i64 o, .int .i64 sl, .int .i64 md, .int .i64 fr, .slice ad zs.length cap] 24)) hl (hT.below (ballc _ _)))
  have HK := hidden (fun h => plainE_ok (n := n) (f := f) (d := d) (p := p) (r := r) (dr := dr) (o := o) (sl := sl) (md := md) (fr := fr) (zs := zs) h)
  have HV := hidden (hV.later (ballc w (.cells #[.int .i64 n, .int .i64 f, .int .i64 d, .int .i64 p, .int .i64 r, .int .i64 dr, .int .i64 o, .int .i64 sl, .int .i64 md, .int .i64 fr, .slice ad zs.length cap] 24)))
  have C2 := fun V h => counted_any a2 len c2 vs hlv V h
  clear hT hV
  generalize plainE n f d p r dr o sl md fr zs = E at HQ HK
  by_cases hE : E = 0
  · obtain ⟨n1, n2, f1, f2, n3, _⟩ := HK.out hE
    subst hE
    rw [gate_ok] at HQ
    have hq : 0 < f + 1 := by omega
    have m0 := fun h => leastF_0 (E := 0) rfl (f := f) (now := now) (zs := vs) h
    have m1 := fun h => leastF_1 (E := 0) rfl (f := f) (now := now) (zs := vs) h
    have m2 := fun h => leastF_2 (E := 0) rfl (f := f) (now := now) (zs := vs) h
    have m3 := fun h => leastF_n (E := 0) rfl (f := f) (now := now) (zs := vs) h
    generalize leastF 0 f now vs = M at *
    generalize f + 1 = q at *
    generalize cntL 0 vs = k0 at *
    generalize cntL 1 vs = k1 at *
    generalize cntL 2 vs = k2 at *
    have iq : (q == 0) = false := by simp; omega
    by_cases h0 : q ≤ (k0 : Int)
    · have HM := hidden (m0 h0)
      clear m0 m1 m2 m3
      go_enter Tryz.func102, Tryz.ntmps102
      go_wp2_with fail
      refine HQ.out.mono ?_
      rintro e w2 ⟨rfl, hb2⟩
      have HV2 := hidden (HV.out.later hb2)
      have HB2 : Hid (Below w.heap.size w w2) := bthen (ballc w _) hb2
      clear hb2 HQ HK HV
      go_wp2_with fail
      refine (C2 _ HV2.out).mono ?_
      rintro e w3 ⟨rfl, hb3⟩
      have HB3 := hidden (bthen HB2.out hb3)
      clear hb3 C2 HB2
      go_wp2
      refine wp_loop_rounds 4 ?_
      rw [rounds_succ]
      go_wp2
      go_ret
      first | exact ⟨ret_i HM.out.symm, HB3.out⟩ | exact ⟨ret_i HM.out.symm, bthen HB3.out (ballc _ _)⟩
    · by_cases h1 : q ≤ (k1 : Int)
      · have HM := hidden (m1 h0 h1)
        clear m0 m1 m2 m3
        go_enter Tryz.func102, Tryz.ntmps102
        go_wp2_with fail
        refine HQ.out.mono ?_
        rintro e w2 ⟨rfl, hb2⟩
        have HV2 := hidden (HV.out.later hb2)
        have HB2 : Hid (Below w.heap.size w w2) := bthen (ballc w _) hb2
        clear hb2 HQ HK HV
        go_wp2_with fail
        refine (C2 _ HV2.out).mono ?_
        rintro e w3 ⟨rfl, hb3⟩
        have HB3 := hidden (bthen HB2.out hb3)
        clear hb3 C2 HB2
        go_wp2
        refine wp_loop_rounds 4 ?_
        rw [rounds_succ]
        go_wp2
        rw [rounds_succ]
        go_wp2
        go_ret
        first | exact ⟨ret_i HM.out.symm, HB3.out⟩ | exact ⟨ret_i HM.out.symm, bthen HB3.out (ballc _ _)⟩
      · by_cases h2 : q ≤ (k2 : Int)
        · have HM := hidden (m2 h0 h1 h2)
          clear m0 m1 m2 m3
          go_enter Tryz.func102, Tryz.ntmps102
          go_wp2_with fail
          refine HQ.out.mono ?_
          rintro e w2 ⟨rfl, hb2⟩
          have HV2 := hidden (HV.out.later hb2)
          have HB2 : Hid (Below w.heap.size w w2) := bthen (ballc w _) hb2
          clear hb2 HQ HK HV
          go_wp2_with fail
          refine (C2 _ HV2.out).mono ?_
          rintro e w3 ⟨rfl, hb3⟩
          have HB3 := hidden (bthen HB2.out hb3)
          clear hb3 C2 HB2
          go_wp2
          refine wp_loop_rounds 4 ?_
          rw [rounds_succ]
          go_wp2
          rw [rounds_succ]
          go_wp2
          rw [rounds_succ]
          go_wp2
          go_ret
          first | exact ⟨ret_i HM.out.symm, HB3.out⟩ | exact ⟨ret_i HM.out.symm, bthen HB3.out (ballc _ _)⟩
        · have HM := hidden (m3 h0 h1 h2)
          clear m0 m1 m2 m3
          go_enter Tryz.func102, Tryz.ntmps102
          go_wp2_with fail
          refine HQ.out.mono ?_
          rintro e w2 ⟨rfl, hb2⟩
          have HV2 := hidden (HV.out.later hb2)
          have HB2 : Hid (Below w.heap.size w w2) := bthen (ballc w _) hb2
          clear hb2 HQ HK HV
          go_wp2_with fail
          refine (C2 _ HV2.out).mono ?_
          rintro e w3 ⟨rfl, hb3⟩
          have HB3 := hidden (bthen HB2.out hb3)
          clear hb3 C2 HB2
          go_wp2
          refine wp_loop_rounds 4 ?_
          rw [rounds_succ]
          go_wp2
          rw [rounds_succ]
          go_wp2
          rw [rounds_succ]
          go_wp2
          rw [rounds_succ]
          go_wp2
          go_ret
          first | exact ⟨ret_i HM.out.symm, HB3.out⟩ | exact ⟨ret_i HM.out.symm, bthen HB3.out (ballc _ _)⟩
  · rw [gate_no hE] at HQ
    have HE := hidden (leastF_no hE f now vs)
    clear hE HK
    go_enter Tryz.func102, Tryz.ntmps102
    go_wp2_with fail
    refine HQ.out.mono ?_
    rintro e w2 ⟨rfl, hb2⟩
    have HB2 : Hid (Below w.heap.size w w2) := bthen (ballc w _) hb2
    clear hb2 HQ HV
    go_wp2
    go_ret
    exact ⟨ret_i HE.out.symm, HB2.out⟩
end Go.Proofs.YtkolhbacgoafcaaGreat

/- The calls Start, valueOf, obey, Step, Code and Read of package king return what plain functions give, and make at most new memory; conditions: the table and the votes lie where they say, and lengths and numbers fit int. -/
namespace Go.Proofs.YtkolhbacgoafcaaGreat
open Go.ChangeShapes Go.WideShapes Go.ChangeAt Go.RowKit
set_option linter.unusedVariables false
attribute [local go_sem] cell_rg

theorem set2T {w : World} {b : Nat} {z0 z1 : Value} {t : TypeId} (h : w.heap[b]? = some (.cells #[z0, z1] t (0, 0))) (v0 v1 : Value) :
    ((w.setCell ⟨b, 0, none⟩ v0).setCell ⟨b, 1, none⟩ v1).heap[b]? = some (.cells #[v0, v1] t (0, 0)) := by
  have h1 := heap_setCell_same _ b 0 _ _ v0 h
  have h2 := heap_setCell_same _ b 1 _ _ v1 h1
  simpa using h2
theorem read2T {w : World} {b : Nat} {z0 z1 : Value} {t : TypeId} (h : w.heap[b]? = some (.cells #[z0, z1] t (0, 0))) (v0 v1 : Value) :
    ((w.setCell ⟨b, 0, none⟩ v0).setCell ⟨b, 1, none⟩ v1).cell? ⟨b, 0, none⟩ = some v0 ∧ ((w.setCell ⟨b, 0, none⟩ v0).setCell ⟨b, 1, none⟩ v1).cell? ⟨b, 1, none⟩ = some v1 := by
  have h2 := set2T h v0 v1
  refine ⟨?_, ?_⟩ <;> simp only [World.cell?, h2] <;> rfl
theorem below2T {B : Nat} {a w : World} {b : Nat} (h : Below B a w) (hp : B ≤ b) (v0 v1 : Value) : Below B a ((w.setCell ⟨b, 0, none⟩ v0).setCell ⟨b, 1, none⟩ v1) :=
  (h.setCell (p := ⟨b, 0, none⟩) hp _).setCell (p := ⟨b, 1, none⟩) hp _
theorem Start_any (z : Int) (w : World) :
    Calls Tryz.prog 30 #[.int .i64 z] w fun e w' => e = .returned (agB (startF z)) ∧ Below w.heap.size w w' := by
  by_cases h : z = 1
  · subst h
    go_enter Tryz.func30, Tryz.ntmps30
    go_wp2
    exact bodyPost_ret (v := .agg #[.int .i64 1, .bool false]) (by simp [results, Tryz.results30, go_sem]) rfl ⟨rfl, ballc _ _⟩
  · have e : startF z = (0, false) := if_neg h
    rw [e]
    have e2 : (z == 1) = false := by simp [h]
    go_enter Tryz.func30, Tryz.ntmps30
    go_wp2
    exact bodyPost_ret (v := .agg #[.int .i64 0, .bool false]) (by simp [results, Tryz.results30, go_sem]) rfl ⟨rfl, ballc _ _⟩
theorem valueOf_any (b : Int × Bool) (w : World) :
    Calls Tryz.prog 55 #[.agg #[.int .i64 b.1, .bool b.2]] w fun e w' => e = .returned (.int .i64 (valF b)) ∧ Below w.heap.size w w' := by
  obtain ⟨v, s⟩ := b
  by_cases h : v < 0
  · rw [valF_lo h]
    have e1 : decide (v < 0) = true := decide_eq_true h
    go_enter Tryz.func55, Tryz.ntmps55
    go_wp2
    go_ret
    exact ⟨rfl, ballc _ _⟩
  · have e1 : decide (v < 0) = false := decide_eq_false h
    by_cases h2 : 3 ≤ v
    · rw [valF_hi h h2]
      have e2 : decide (3 ≤ v) = true := decide_eq_true h2
      go_enter Tryz.func55, Tryz.ntmps55
      go_wp2
      go_ret
      exact ⟨rfl, ballc _ _⟩
    · rw [valF_in h h2]
      have e2 : decide (3 ≤ v) = false := decide_eq_false h2
      go_enter Tryz.func55, Tryz.ntmps55
      go_wp2
      go_ret
      exact ⟨rfl, ballc _ _⟩
theorem Read_any (c : Int) (w : World) :
    Calls Tryz.prog 89 #[.int .i64 c] w fun e w' => e = .returned (agB (readK c)) ∧ Below w.heap.size w w' := by
  by_cases h : c < 0
  · have e : readK c = (2, false) := if_pos (.inl h)
    rw [e]
    have e1 : decide (c < 0) = true := decide_eq_true h
    go_enter Tryz.func89, Tryz.ntmps89
    go_wp2
    exact bodyPost_ret (v := .agg #[.int .i64 2, .bool false]) (by simp [results, Tryz.results89, go_sem]) rfl ⟨rfl, ballc _ _⟩
  · have e1 : decide (c < 0) = false := decide_eq_false h
    by_cases h2 : 6 ≤ c
    · have e : readK c = (2, false) := if_pos (.inr h2)
      rw [e]
      have e2 : decide (6 ≤ c) = true := decide_eq_true h2
      go_enter Tryz.func89, Tryz.ntmps89
      go_wp2
      exact bodyPost_ret (v := .agg #[.int .i64 2, .bool false]) (by simp [results, Tryz.results89, go_sem]) rfl ⟨rfl, ballc _ _⟩
    · have e2 : decide (6 ≤ c) = false := decide_eq_false h2
      have e : readK c = (c.tmod 3, decide (3 ≤ c)) := if_neg (by omega)
      rw [e]
      have hc : c = 0 ∨ c = 1 ∨ c = 2 ∨ c = 3 ∨ c = 4 ∨ c = 5 := by omega
      clear e e1 e2 h h2
      rcases hc with rfl | rfl | rfl | rfl | rfl | rfl
      all_goals
        go_enter Tryz.func89, Tryz.ntmps89
        go_wp2
        refine bodyPost_ret (v := _) (by simp [results, Tryz.results89, go_sem]; rfl) rfl ⟨rfl, ?_⟩
        first | exact ballc _ _ | exact below2T (ballc _ _) (Nat.le_refl _) _ _
theorem Code_any (b : Int × Bool) (w : World) :
    Calls Tryz.prog 29 #[.agg #[.int .i64 b.1, .bool b.2]] w fun e w' => e = .returned (.int .i64 (codeF b)) ∧ Below w.heap.size w w' := by
  obtain ⟨v, s⟩ := b
  have HV := hidden (fun V => valueOf_any (v, s) V)
  have hq := valF_bd (v, s)
  cases s
  · have e : codeF (v, false) = valF (v, false) := if_neg (by simp)
    rw [e]
    generalize valF (v, false) = q at *
    go_enter Tryz.func29, Tryz.ntmps29
    go_wp2_with fail
    refine (HV.out _).mono ?_
    rintro e w2 ⟨rfl, hb⟩
    have HB := hidden (bthen (ballc w _) hb)
    clear hb
    go_wp2
    go_ret
    exact ⟨rfl, HB.out⟩
  · have e : codeF (v, true) = 3 + valF (v, true) := if_pos rfl
    rw [e]
    generalize valF (v, true) = q at *
    go_enter Tryz.func29, Tryz.ntmps29
    go_wp2_with fail
    refine (HV.out _).mono ?_
    rintro e w2 ⟨rfl, hb⟩
    have HB := hidden (bthen (ballc w _) hb)
    clear hb
    go_wp2
    go_ret
    exact ⟨rfl, HB.out⟩

theorem obey_any (b : Int × Bool) (k : Int) (w : World) :
    Calls Tryz.prog 104 #[.agg #[.int .i64 b.1, .bool b.2], .int .i64 k] w fun e w' => e = .returned (agB (obeyF b k)) ∧ Below w.heap.size w w' := by
  obtain ⟨v, s⟩ := b
  have HV := hidden (fun V => valueOf_any (v, s) V)
  have hs := obeyF_s (b := (v, s)) (k := k)
  have h1 := obeyF_1 (b := (v, s)) (k := k)
  have h0 := obeyF_0 (b := (v, s)) (k := k)
  dsimp only at hs h1 h0
  generalize valF (v, s) = q at *
  generalize obeyF (v, s) k = r at *
  by_cases hq : q = 2
  · subst hq
    by_cases hk : k = 1
    · obtain rfl := h1 (fun h => h.1 rfl) (.inl hk)
      subst hk
      clear hs h1 h0
      go_enter Tryz.func104, Tryz.ntmps104
      go_wp2_with fail
      refine (HV.out _).mono ?_
      rintro e w2 ⟨rfl, hb⟩
      have hk0 := blk_later (blk_later (blk_nw w _ _) (ballc _ (.cells #[.int .i64 0, .bool false] 62))) hb
      have hk1 := blk_later (blk_newAt (w.alloc (.cells #[.int .i64 v, .bool s] 62)) #[.int .i64 0, .bool false] 62 (b := w.heap.size + 1) (by simp)) hb
      have hc0 := fun i => blk_cell hk0 i
      have hc1 := fun i => blk_cell hk1 i
      have hop := fun i => blk_frozen hk1 i
      have hl0 := blk_lt hk0
      have hl1 := blk_lt hk1
      have HB := hidden (bthen (bthen (ballc w _) (ballc _ _)) hb)
      have HK := hidden hk1
      clear hb hk0 hk1 HV
      go_wp2
      obtain ⟨r0, r1⟩ := read2T HK.out (.int .i64 1) (.bool false)
      exact bodyPost_ret (v := .agg #[.int .i64 1, .bool false]) (by simp [results, Tryz.results104, go_sem, r0, r1]) rfl ⟨rfl, below2T HB.out (by omega) _ _⟩
    · have j1 : (k == 1) = false := by simp [hk]
      by_cases hk2 : k = 2
      · obtain rfl := h1 (fun h => h.1 rfl) (.inr hk2)
        subst hk2
        clear hs h1 h0 hk
        go_enter Tryz.func104, Tryz.ntmps104
        go_wp2_with fail
        refine (HV.out _).mono ?_
        rintro e w2 ⟨rfl, hb⟩
        have hk0 := blk_later (blk_later (blk_nw w _ _) (ballc _ (.cells #[.int .i64 0, .bool false] 62))) hb
        have hk1 := blk_later (blk_newAt (w.alloc (.cells #[.int .i64 v, .bool s] 62)) #[.int .i64 0, .bool false] 62 (b := w.heap.size + 1) (by simp)) hb
        have hc0 := fun i => blk_cell hk0 i
        have hc1 := fun i => blk_cell hk1 i
        have hop := fun i => blk_frozen hk1 i
        have hl0 := blk_lt hk0
        have hl1 := blk_lt hk1
        have HB := hidden (bthen (bthen (ballc w _) (ballc _ _)) hb)
        have HK := hidden hk1
        clear hb hk0 hk1 HV
        go_wp2
        obtain ⟨r0, r1⟩ := read2T HK.out (.int .i64 1) (.bool false)
        exact bodyPost_ret (v := .agg #[.int .i64 1, .bool false]) (by simp [results, Tryz.results104, go_sem, r0, r1]) rfl ⟨rfl, below2T HB.out (by omega) _ _⟩
      · have j2 : (k == 2) = false := by simp [hk2]
        obtain rfl := h0 (fun h => h.1 rfl) (by omega)
        clear hs h1 h0
        go_enter Tryz.func104, Tryz.ntmps104
        go_wp2_with fail
        refine (HV.out _).mono ?_
        rintro e w2 ⟨rfl, hb⟩
        have hk0 := blk_later (blk_later (blk_nw w _ _) (ballc _ (.cells #[.int .i64 0, .bool false] 62))) hb
        have hk1 := blk_later (blk_newAt (w.alloc (.cells #[.int .i64 v, .bool s] 62)) #[.int .i64 0, .bool false] 62 (b := w.heap.size + 1) (by simp)) hb
        have hc0 := fun i => blk_cell hk0 i
        have hc1 := fun i => blk_cell hk1 i
        have hop := fun i => blk_frozen hk1 i
        have hl0 := blk_lt hk0
        have hl1 := blk_lt hk1
        have HB := hidden (bthen (bthen (ballc w _) (ballc _ _)) hb)
        have HK := hidden hk1
        clear hb hk0 hk1 HV
        go_wp2
        obtain ⟨r0, r1⟩ := read2T HK.out (.int .i64 0) (.bool false)
        exact bodyPost_ret (v := .agg #[.int .i64 0, .bool false]) (by simp [results, Tryz.results104, go_sem, r0, r1]) rfl ⟨rfl, below2T HB.out (by omega) _ _⟩
  · have j0 : (q == 2) = false := by simp [hq]
    cases s
    · by_cases hk : k = 1
      · obtain rfl := h1 (fun h => by cases h.2) (.inl hk)
        subst hk
        clear hs h1 h0
        go_enter Tryz.func104, Tryz.ntmps104
        go_wp2_with fail
        refine (HV.out _).mono ?_
        rintro e w2 ⟨rfl, hb⟩
        have hk0 := blk_later (blk_later (blk_nw w _ _) (ballc _ (.cells #[.int .i64 0, .bool false] 62))) hb
        have hk1 := blk_later (blk_newAt (w.alloc (.cells #[.int .i64 v, .bool false] 62)) #[.int .i64 0, .bool false] 62 (b := w.heap.size + 1) (by simp)) hb
        have hc0 := fun i => blk_cell hk0 i
        have hc1 := fun i => blk_cell hk1 i
        have hop := fun i => blk_frozen hk1 i
        have hl0 := blk_lt hk0
        have hl1 := blk_lt hk1
        have HB := hidden (bthen (bthen (ballc w _) (ballc _ _)) hb)
        have HK := hidden hk1
        clear hb hk0 hk1 HV
        go_wp2
        obtain ⟨r0, r1⟩ := read2T HK.out (.int .i64 1) (.bool false)
        exact bodyPost_ret (v := .agg #[.int .i64 1, .bool false]) (by simp [results, Tryz.results104, go_sem, r0, r1]) rfl ⟨rfl, below2T HB.out (by omega) _ _⟩
      · have j1 : (k == 1) = false := by simp [hk]
        by_cases hk2 : k = 2
        · obtain rfl := h1 (fun h => by cases h.2) (.inr hk2)
          subst hk2
          clear hs h1 h0 hk
          go_enter Tryz.func104, Tryz.ntmps104
          go_wp2_with fail
          refine (HV.out _).mono ?_
          rintro e w2 ⟨rfl, hb⟩
          have hk0 := blk_later (blk_later (blk_nw w _ _) (ballc _ (.cells #[.int .i64 0, .bool false] 62))) hb
          have hk1 := blk_later (blk_newAt (w.alloc (.cells #[.int .i64 v, .bool false] 62)) #[.int .i64 0, .bool false] 62 (b := w.heap.size + 1) (by simp)) hb
          have hc0 := fun i => blk_cell hk0 i
          have hc1 := fun i => blk_cell hk1 i
          have hop := fun i => blk_frozen hk1 i
          have hl0 := blk_lt hk0
          have hl1 := blk_lt hk1
          have HB := hidden (bthen (bthen (ballc w _) (ballc _ _)) hb)
          have HK := hidden hk1
          clear hb hk0 hk1 HV
          go_wp2
          obtain ⟨r0, r1⟩ := read2T HK.out (.int .i64 1) (.bool false)
          exact bodyPost_ret (v := .agg #[.int .i64 1, .bool false]) (by simp [results, Tryz.results104, go_sem, r0, r1]) rfl ⟨rfl, below2T HB.out (by omega) _ _⟩
        · have j2 : (k == 2) = false := by simp [hk2]
          obtain rfl := h0 (fun h => by cases h.2) (by omega)
          clear hs h1 h0
          go_enter Tryz.func104, Tryz.ntmps104
          go_wp2_with fail
          refine (HV.out _).mono ?_
          rintro e w2 ⟨rfl, hb⟩
          have hk0 := blk_later (blk_later (blk_nw w _ _) (ballc _ (.cells #[.int .i64 0, .bool false] 62))) hb
          have hk1 := blk_later (blk_newAt (w.alloc (.cells #[.int .i64 v, .bool false] 62)) #[.int .i64 0, .bool false] 62 (b := w.heap.size + 1) (by simp)) hb
          have hc0 := fun i => blk_cell hk0 i
          have hc1 := fun i => blk_cell hk1 i
          have hop := fun i => blk_frozen hk1 i
          have hl0 := blk_lt hk0
          have hl1 := blk_lt hk1
          have HB := hidden (bthen (bthen (ballc w _) (ballc _ _)) hb)
          have HK := hidden hk1
          clear hb hk0 hk1 HV
          go_wp2
          obtain ⟨r0, r1⟩ := read2T HK.out (.int .i64 0) (.bool false)
          exact bodyPost_ret (v := .agg #[.int .i64 0, .bool false]) (by simp [results, Tryz.results104, go_sem, r0, r1]) rfl ⟨rfl, below2T HB.out (by omega) _ _⟩
    · obtain rfl := hs hq rfl
      clear hs h1 h0
      go_enter Tryz.func104, Tryz.ntmps104
      go_wp2_with fail
      refine (HV.out _).mono ?_
      rintro e w2 ⟨rfl, hb⟩
      have hk0 := blk_later (blk_later (blk_nw w _ _) (ballc _ (.cells #[.int .i64 0, .bool false] 62))) hb
      have hk1 := blk_later (blk_newAt (w.alloc (.cells #[.int .i64 v, .bool true] 62)) #[.int .i64 0, .bool false] 62 (b := w.heap.size + 1) (by simp)) hb
      have hc0 := fun i => blk_cell hk0 i
      have hc1 := fun i => blk_cell hk1 i
      have hop := fun i => blk_frozen hk1 i
      have hl0 := blk_lt hk0
      have hl1 := blk_lt hk1
      have HB := hidden (bthen (bthen (ballc w _) (ballc _ _)) hb)
      have HK := hidden hk1
      clear hb hk0 hk1 HV
      go_wp2
      obtain ⟨r0, r1⟩ := read2T HK.out (.int .i64 q) (.bool false)
      exact bodyPost_ret (v := .agg #[.int .i64 q, .bool false]) (by simp [results, Tryz.results104, go_sem, r0, r1]) rfl ⟨rfl, below2T HB.out (by omega) _ _⟩
set_option maxHeartbeats 2000000 in
theorem KStep_any (n f d p r dr o sl md fr : Int) (ad : Option Addr) (cap : Nat) (zs : List Int) (x : Int) (b : Int × Bool) (k : Int) (a2 : Option Addr) (len c2 : Nat) (vs : List Int) (w : World) (hl : zs.length ≤ 9223372036854775807) (hT : Tab w ad zs) (hx : (Lit.int .i64 x).wf = true) (hlv : vs.length ≤ 9223372036854775807) (hV : kInt.Lies w.heap.size w (.slice a2 len c2) vs) :
    Calls Tryz.prog 86 #[.agg #[.int .i64 n, .int .i64 f, .int .i64 d, .int .i64 p, .int .i64 r, .int .i64 dr, .int .i64 o, .int .i64 sl, .int .i64 md, .int .i64 fr, .slice ad zs.length cap], .int .i64 x, .agg #[.int .i64 b.1, .bool b.2], .int .i64 k, .slice a2 len c2] w fun e w' => e = .returned (agB (stepF (plainE n f d p r dr o sl md fr zs) n f x b k vs)) ∧ Below w.heap.size w w' := by
  have hB0 : Below w.heap.size w (((w.alloc (.cells #[.int .i64 n, .int .i64 f, .int .i64 d, .int .i64 p, .int .i64 r, .int .i64 dr, .int .i64 o, .int .i64 sl, .int .i64 md, .int .i64 fr, .slice ad zs.length cap] 24)).alloc (.cells #[.int .i64 b.1, .bool b.2] 62)).alloc (.cells #[.int .i64 0, .bool false] 62)) := bthen (bthen (ballc w _) (ballc _ _)) (ballc _ _)
  have HT := hidden (hT.below hB0)
  have HV := hidden (hV.later hB0)
  have hk0 := blk_later (blk_later (blk_nw w #[.int .i64 n, .int .i64 f, .int .i64 d, .int .i64 p, .int .i64 r, .int .i64 dr, .int .i64 o, .int .i64 sl, .int .i64 md, .int .i64 fr, .slice ad zs.length cap] 24) (ballc _ (.cells #[.int .i64 b.1, .bool b.2] 62))) (ballc _ (.cells #[.int .i64 0, .bool false] 62))
  have hk1 := blk_later (blk_newAt (w.alloc (.cells #[.int .i64 n, .int .i64 f, .int .i64 d, .int .i64 p, .int .i64 r, .int .i64 dr, .int .i64 o, .int .i64 sl, .int .i64 md, .int .i64 fr, .slice ad zs.length cap] 24)) #[.int .i64 b.1, .bool b.2] 62 (b := w.heap.size + 1) (by simp)) (ballc _ (.cells #[.int .i64 0, .bool false] 62))
  have hk2 := blk_newAt ((w.alloc (.cells #[.int .i64 n, .int .i64 f, .int .i64 d, .int .i64 p, .int .i64 r, .int .i64 dr, .int .i64 o, .int .i64 sl, .int .i64 md, .int .i64 fr, .slice ad zs.length cap] 24)).alloc (.cells #[.int .i64 b.1, .bool b.2] 62)) #[.int .i64 0, .bool false] 62 (b := w.heap.size + 2) (by simp)
  have HK0 := hidden hk0
  have HK1 := hidden hk1
  have HK2 := hidden hk2
  have HB0 := hidden hB0
  have M1 := hidden (fun V h h2 => Most_any n f d p r dr o sl md fr ad cap zs a2 len c2 vs V hl h hlv h2)
  have L1 := hidden (fun V h h2 => Least_any n f d p r dr o sl md fr ad cap zs (valF b) a2 len c2 vs V hl h hlv h2)
  have E1 := hidden (fun v V h h2 => Enough_any n f d p r dr o sl md fr ad cap zs v a2 len c2 vs V hl h hlv h2)
  have OB := hidden (fun V => obey_any b k V)
  have VA := hidden (fun V => valueOf_any b V)
  have HM := hidden (fun V => mod_any x 3 V hx rfl)
  have s0 := stepF_0 (E := plainE n f d p r dr o sl md fr zs) (n := n) (f := f) (x := x) (b := b) (k := k) (vs := vs)
  have s1 := stepF_1 (E := plainE n f d p r dr o sl md fr zs) (n := n) (f := f) (x := x) (b := b) (k := k) (vs := vs)
  have s2 := stepF_2 (E := plainE n f d p r dr o sl md fr zs) (n := n) (f := f) (x := x) (b := b) (k := k) (vs := vs)
  have h3 := modF3 x
  clear hT hV hB0 hk0 hk1 hk2
  generalize plainE n f d p r dr o sl md fr zs = E at *
  generalize stepF E n f x b k vs = r at *
  obtain ⟨bv, bs⟩ := b
  dsimp only at *
  generalize mostF E n f vs = ms at *
  generalize valF (bv, bs) = q at *
  generalize leastF E f q vs = ls at *
  generalize modF x 3 = m at *
  have hm : m = 0 ∨ m = 1 ∨ m = 2 := by omega
  clear h3 hx
  rcases hm with rfl | rfl | rfl
  · obtain rfl := s0 rfl
    clear s0 s1 s2 L1 E1 OB VA
    go_enter Tryz.func86, Tryz.ntmps86
    go_wp2_with fail
    refine (HM.out _).mono ?_
    rintro e wm ⟨rfl, rfl⟩
    generalize (((w.alloc (.cells #[.int .i64 n, .int .i64 f, .int .i64 d, .int .i64 p, .int .i64 r, .int .i64 dr, .int .i64 o, .int .i64 sl, .int .i64 md, .int .i64 fr, .slice ad zs.length cap] 24)).alloc (.cells #[.int .i64 bv, .bool bs] 62)).alloc (.cells #[.int .i64 0, .bool false] 62)) = W0 at *
    have c0 := fun i => blk_cell HK0.out i
    have c1 := fun i => blk_cell HK1.out i
    have c2' := fun i => blk_cell HK2.out i
    have l0 := blk_lt HK0.out
    have l1 := blk_lt HK1.out
    have l2 := blk_lt HK2.out
    have fz := fun i => blk_frozen HK2.out i
    go_wp2_with fail
    refine (M1.out _ HT.out HV.out).mono ?_
    rintro e wa ⟨rfl, hb⟩
    have HB_wa := hidden (hb)
    clear hb c0 c1 c2' l0 l1 l2 fz
    have c0 := fun i => blk_cell (blk_later HK0.out HB_wa.out) i
    have c1 := fun i => blk_cell (blk_later HK1.out HB_wa.out) i
    have c2' := fun i => blk_cell (blk_later HK2.out HB_wa.out) i
    have l0 := blk_lt (blk_later HK0.out HB_wa.out)
    have l1 := blk_lt (blk_later HK1.out HB_wa.out)
    have l2 := blk_lt (blk_later HK2.out HB_wa.out)
    have fz := fun i => blk_frozen (blk_later HK2.out HB_wa.out) i
    go_wp2
    obtain ⟨r0, r1⟩ := read2T (blk_later HK2.out HB_wa.out) (.int .i64 ms) (.bool false)
    exact bodyPost_ret (v := .agg #[.int .i64 ms, .bool false]) (by simp [results, Tryz.results86, go_sem, r0, r1]) rfl ⟨rfl, below2T (bthen HB0.out HB_wa.out) (by omega) _ _⟩
  · obtain rfl := s1 rfl
    clear s0 s1 s2 M1 OB
    have E2 := hidden (E1.out ls)
    clear E1
    generalize enoughB E n f ls vs = en at *
    go_enter Tryz.func86, Tryz.ntmps86
    go_wp2_with fail
    refine (HM.out _).mono ?_
    rintro e wm ⟨rfl, rfl⟩
    generalize (((w.alloc (.cells #[.int .i64 n, .int .i64 f, .int .i64 d, .int .i64 p, .int .i64 r, .int .i64 dr, .int .i64 o, .int .i64 sl, .int .i64 md, .int .i64 fr, .slice ad zs.length cap] 24)).alloc (.cells #[.int .i64 bv, .bool bs] 62)).alloc (.cells #[.int .i64 0, .bool false] 62)) = W0 at *
    have c0 := fun i => blk_cell HK0.out i
    have c1 := fun i => blk_cell HK1.out i
    have c2' := fun i => blk_cell HK2.out i
    have l0 := blk_lt HK0.out
    have l1 := blk_lt HK1.out
    have l2 := blk_lt HK2.out
    have fz := fun i => blk_frozen HK2.out i
    go_wp2_with fail
    refine wp_region_quiet_below (by kernel_rfl) (by kernel_rfl) ?_
    repeat (go_big_quiet_step (first
      | (go_at_call 55; exact Calls.regrown_of (VA.out _))
      | (go_at_call 102; exact Calls.regrown_of (L1.out _ (HT.out.below (below_regrown _ _ _)) (HV.out.later (below_regrown _ _ _))))))
    refine wpQuiet_nil ?_
    intro wb hwb
    have HB_wb := hidden (rg_below hwb)
    clear hwb c0 c1 c2' l0 l1 l2 fz
    have c0 := fun i => blk_cell (blk_later HK0.out HB_wb.out) i
    have c1 := fun i => blk_cell (blk_later HK1.out HB_wb.out) i
    have c2' := fun i => blk_cell (blk_later HK2.out HB_wb.out) i
    have l0 := blk_lt (blk_later HK0.out HB_wb.out)
    have l1 := blk_lt (blk_later HK1.out HB_wb.out)
    have l2 := blk_lt (blk_later HK2.out HB_wb.out)
    have fz := fun i => blk_frozen (blk_later HK2.out HB_wb.out) i
    go_wp2_with fail
    refine (E2.out _ (HT.out.below HB_wb.out) (HV.out.later HB_wb.out)).mono ?_
    rintro e wc ⟨rfl, hb⟩
    have HB_wc := hidden (bthen HB_wb.out hb)
    clear hb c0 c1 c2' l0 l1 l2 fz
    have c0 := fun i => blk_cell (blk_later HK0.out HB_wc.out) i
    have c1 := fun i => blk_cell (blk_later HK1.out HB_wc.out) i
    have c2' := fun i => blk_cell (blk_later HK2.out HB_wc.out) i
    have l0 := blk_lt (blk_later HK0.out HB_wc.out)
    have l1 := blk_lt (blk_later HK1.out HB_wc.out)
    have l2 := blk_lt (blk_later HK2.out HB_wc.out)
    have fz := fun i => blk_frozen (blk_later HK2.out HB_wc.out) i
    go_wp2
    obtain ⟨r0, r1⟩ := read2T (blk_later HK2.out HB_wc.out) (.int .i64 ls) (.bool en)
    exact bodyPost_ret (v := .agg #[.int .i64 ls, .bool en]) (by simp [results, Tryz.results86, go_sem, r0, r1]) rfl ⟨rfl, below2T (bthen HB0.out HB_wc.out) (by omega) _ _⟩
  · obtain rfl := s2 rfl
    clear s0 s1 s2 M1 L1 E1 VA
    generalize obeyF (bv, bs) k = r at *
    obtain ⟨rv, rs⟩ := r
    go_enter Tryz.func86, Tryz.ntmps86
    go_wp2_with fail
    refine (HM.out _).mono ?_
    rintro e wm ⟨rfl, rfl⟩
    generalize (((w.alloc (.cells #[.int .i64 n, .int .i64 f, .int .i64 d, .int .i64 p, .int .i64 r, .int .i64 dr, .int .i64 o, .int .i64 sl, .int .i64 md, .int .i64 fr, .slice ad zs.length cap] 24)).alloc (.cells #[.int .i64 bv, .bool bs] 62)).alloc (.cells #[.int .i64 0, .bool false] 62)) = W0 at *
    have c0 := fun i => blk_cell HK0.out i
    have c1 := fun i => blk_cell HK1.out i
    have c2' := fun i => blk_cell HK2.out i
    have l0 := blk_lt HK0.out
    have l1 := blk_lt HK1.out
    have l2 := blk_lt HK2.out
    have fz := fun i => blk_frozen HK2.out i
    go_wp2_with fail
    refine (OB.out _).mono ?_
    rintro e wa ⟨rfl, hb⟩
    have HB_wa := hidden (hb)
    clear hb c0 c1 c2' l0 l1 l2 fz
    have c0 := fun i => blk_cell (blk_later HK0.out HB_wa.out) i
    have c1 := fun i => blk_cell (blk_later HK1.out HB_wa.out) i
    have c2' := fun i => blk_cell (blk_later HK2.out HB_wa.out) i
    have l0 := blk_lt (blk_later HK0.out HB_wa.out)
    have l1 := blk_lt (blk_later HK1.out HB_wa.out)
    have l2 := blk_lt (blk_later HK2.out HB_wa.out)
    have fz := fun i => blk_frozen (blk_later HK2.out HB_wa.out) i
    unfold agB
    go_wp2
    obtain ⟨r0, r1⟩ := read2T (blk_later HK2.out HB_wa.out) (.int .i64 rv) (.bool rs)
    exact bodyPost_ret (v := .agg #[.int .i64 rv, .bool rs]) (by simp [results, Tryz.results86, go_sem, r0, r1]) rfl ⟨rfl, below2T (bthen HB0.out HB_wa.out) (by omega) _ _⟩
end Go.Proofs.YtkolhbacgoafcaaGreat

/- The calls digitAt, digits, bitAt and votesAt of package vec return what plain functions give, and make at most new memory; conditions: rows lie where they say, lengths fit int, and at most a hundred thousand digits are asked for. -/
namespace Go.Proofs.YtkolhbacgoafcaaGreat
open Go.ChangeShapes Go.WideShapes Go.ChangeAt Go.RowKit Go.Shelf
set_option linter.unusedVariables false
attribute [local go_sem] cell_rg

theorem vdigitAt_any (s : ByteArray) (k : Nat) (last : Int) (w : World) (hs : s.size ≤ 9223372036854775807) (hl : 0 ≤ last ∧ last ≤ 9) :
    Calls Tryz.prog 87 #[.string s, .int .i64 (k : Int), .int .i64 last] w fun e w' => e = .returned (.int .i64 (vdg last s k)) ∧ w = w' := by
  by_cases h2 : s.size ≤ k
  · have d3 : (s.size : Int) ≤ (k : Int) := by omega
    have e := hidden (vdg_out (last := last) h2)
    go_enter Tryz.func87, Tryz.ntmps87
    go_wp2
    go_ret
    exact ⟨ret_i e.out.symm, rfl⟩
  · have hj : k < s.size := by omega
    have d3 : ¬ (s.size : Int) ≤ (k : Int) := by omega
    have hb := (s[k]'hj).toNat_lt
    by_cases h3 : ((s[k]'hj).toNat : Int) < 48
    · have e := hidden (vdg_no (last := last) hj (.inl h3))
      have d4 : decide (((s[k]'hj).toNat : Int) - 48 < 0) = true := decide_eq_true (by omega)
      go_enter Tryz.func87, Tryz.ntmps87
      go_wp2
      go_ret
      exact ⟨ret_i e.out.symm, rfl⟩
    · have d4 : decide (((s[k]'hj).toNat : Int) - 48 < 0) = false := decide_eq_false (by omega)
      by_cases h4 : last + 48 < ((s[k]'hj).toNat : Int)
      · have e := hidden (vdg_no (last := last) hj (.inr h4))
        have d5 : decide (last < ((s[k]'hj).toNat : Int) - 48) = true := decide_eq_true (by omega)
        go_enter Tryz.func87, Tryz.ntmps87
        go_wp2
        go_ret
        exact ⟨ret_i e.out.symm, rfl⟩
      · have e := hidden (vdg_in (last := last) hj h3 h4)
        have d5 : decide (last < ((s[k]'hj).toNat : Int) - 48) = false := decide_eq_false (by omega)
        go_enter Tryz.func87, Tryz.ntmps87
        go_wp2
        go_ret
        exact ⟨ret_i e.out.symm, rfl⟩

theorem bvals_fill (n : Nat) (h : Nat → UInt8) : bvals (List.replicate n 0) = bvals (fillL 0 n h 0) := by rw [fillL_0]
set_option maxHeartbeats 2000000 in
theorem digits_any (n : Nat) (hn : n ≤ 100000) (F : Nat) (lb : Array Value) (eF : Enters Tryz.prog F) (g : Nat → Nat) (hg : ∀ k, k < n → g k ≤ 9) (w : World)
    (hG : ∀ k : Nat, k < n → ∀ V, Below w.heap.size w V → Calls Tryz.prog F (#[.int .i64 (k : Int)] ++ lb) V fun e V' => e = .returned (.int .i64 (g k : Int)) ∧ Below V.heap.size V V') :
    Calls Tryz.prog 69 #[.int .i64 (n : Int), .func (.func F) #[] lb] w fun e w' => e = .returned (.string (dgB n g)) ∧ Below w.heap.size w w' := by
  have hmk := fun V => make_bytes n hn V
  have HG := hidden hG
  have HGB := hidden hg
  have HK0 : Hid ((w.alloc (.cells (bvals (List.replicate n 0)) 5)).heap[w.heap.size]? = some (.cells (bvals (fillL 0 n (fun j => UInt8.ofNat (48 + g j)) 0)) 5 (0, 0))) := by
    show _ = _
    rw [fillL_0]
    exact blk_nw w _ _
  have HB0 : Hid (Below w.heap.size w (w.alloc (.cells (bvals (List.replicate n 0)) 5))) := ballc w _
  have HL : Hid ((fillL (0 : UInt8) n (fun j => UInt8.ofNat (48 + g j)) n) = dgL n g) := fillL_all _ _ _
  have HLn : Hid (∀ k, (fillL (0 : UInt8) n (fun j => UInt8.ofNat (48 + g j)) k).length = n) := fun k => fillL_len _ _ _ _
  clear hG hg
  unfold Enters at eF
  go_enter Tryz.func69, Tryz.ntmps69
  go_wp2
  clear hmk
  generalize (w.alloc (.cells (bvals (List.replicate n 0)) 5)) = W0 at *
  go_loopw [10] (fun i wr => ∃ k : Nat, k ≤ n ∧ i = .int .i64 k ∧ wr.heap[w.heap.size]? = some (.cells (bvals (fillL 0 n (fun j => UInt8.ofNat (48 + g j)) k)) 5 (0, 0)) ∧ Below w.heap.size w wr) (fun i _ => n - (intV i).toNat)
  case atStart => exact ⟨0, Nat.zero_le _, rfl, HK0.out, HB0.out⟩
  case round =>
    obtain ⟨k, hk, rfl, hX, hB⟩ := hrel
    clear HK0 HB0
    by_cases hlt : k < n
    · have i1 : (0 : Int) ≤ (k : Int) := by omega
      have i2 : (k : Int) < (n : Int) := by omega
      have hcall := HG.out k hlt wr hB
      have hgb := HGB.out k hlt
      have HS : Hid ((fillL (0 : UInt8) n (fun j => UInt8.ofNat (48 + g j)) k).set k (UInt8.ofNat (48 + g k)) = fillL 0 n (fun j => UInt8.ofNat (48 + g j)) (k + 1)) := fillL_set (0 : UInt8) n (fun j => UInt8.ofNat (48 + g j)) k hlt
      have HB := hidden hB
      have HX := hidden hX
      clear hX hB
      generalize hz : g k = z at *
      have HZ := hidden hz
      clear hz
      go_wp2_with (go_at_fn F; refine hcall.mono ?_; rintro e w2 ⟨rfl, hb⟩; refine Hid.out ?_)
      have hX2 := blk_later HX.out hb
      have HB2 := hidden (bthen HB.out hb)
      have HX2 := hidden hX2
      have c0 := blk_cell hX2 k
      rw [bvals_at _ k (by rw [HLn.out]; exact hlt)] at c0
      have f0 := blk_frozen hX2 k
      have l0 := blk_lt hX2
      clear hb hX2 hcall HX
      refine hidden ?_
      go_wp2
      have hset := heap_setCell_same w2 w.heap.size k _ _ (.int .u8 ((48 + z : Nat) : Int)) HX2.out
      rw [bvals_set _ k (48 + z) (by omega), HS.out] at hset
      rw [show ((48 + z : Nat) : Int) = 48 + (z : Int) by omega] at hset
      go_roundw
      case rel => exact ⟨k + 1, by omega, by go_num, hset, HB2.out.setCell (p := ⟨w.heap.size, k, none⟩) (Nat.le_refl _) _⟩
      case measure => simp [intV]; omega
    · obtain rfl : k = n := by omega
      have i2 : ¬ (k : Int) < (k : Int) := by omega
      rw [HL.out] at hX
      have hcv := conv_blk hX
      rw [dgL_len] at hcv
      have HB := hidden hB
      clear hX hB
      have HD : Hid (dgB k g = ba (dgL k g)) := rfl
      generalize ba (dgL k g) = out at *
      go_wp2
      go_ret
      exact ⟨by rw [HD.out]; rfl, HB.out⟩

theorem bitAt_any (s : ByteArray) (k : Nat) (w : World) (hs : s.size ≤ 9223372036854775807) :
    Calls Tryz.prog 72 #[.string s, .int .i64 (k : Int)] w fun e w' => e = .returned (agB (bitK s k)) ∧ Below w.heap.size w w' := by
  have C1 := hidden (fun V => vdigitAt_any s k 5 V hs (by decide))
  have C2 := hidden (fun V => Read_any (vdg 5 s k) V)
  have HE : Hid (bitK s k = readK (vdg 5 s k)) := rfl
  generalize readK (vdg 5 s k) = b at *
  generalize vdg 5 s k = c at *
  obtain ⟨bv, bs⟩ := b
  unfold agB at C2 ⊢
  rw [HE.out]
  clear hs
  go_enter Tryz.func72, Tryz.ntmps72
  go_wp2_with fail
  refine (C1.out _).mono ?_
  rintro e w2 ⟨rfl, rfl⟩
  go_wp2_with fail
  refine (C2.out _).mono ?_
  rintro e w3 ⟨rfl, hb⟩
  have hk := blk_later (blk_nw w #[.int .i64 0, .bool false] 62) hb
  have c0 := fun i => blk_cell hk i
  have f0 := fun i => blk_frozen hk i
  have l0 := blk_lt hk
  have HB := hidden (bthen (ballc w _) hb)
  have HK := hidden hk
  clear hb hk
  go_wp2
  obtain ⟨r0, r1⟩ := read2T HK.out (.int .i64 bv) (.bool bs)
  exact bodyPost_ret (v := .agg #[.int .i64 bv, .bool bs]) (by simp [results, Tryz.results72, go_sem, r0, r1]) rfl ⟨rfl, below2T HB.out (Nat.le_refl _) _ _⟩

/-- What each text tells of one place. -/
def votesP (votes : List ByteArray) (k : Nat) : List Int := votes.map fun t => vdg 2 t k
theorem votesP_len (votes : List ByteArray) (k : Nat) : (votesP votes k).length = votes.length := by simp [votesP]
theorem votesP_fill (votes : List ByteArray) (k : Nat) : (List.range votes.length).map (fun i => vdg 2 (votes.getD i noB) k) = votesP votes k := by
  unfold votesP
  apply List.ext_getElem
  · simp
  · intro i h1 h2
    simp at h1 h2
    simp [h1]
set_option maxHeartbeats 2000000 in
theorem votesAt_any (a2 : Option Addr) (c2 : Nat) (votes : List ByteArray) (k : Nat) (w : World) (hn : votes.length ≤ 100000) (hV : kStr.Lies w.heap.size w (.slice a2 votes.length c2) votes) (hz : ∀ t ∈ votes, t.size ≤ 9223372036854775807) :
    Calls Tryz.prog 88 #[.slice a2 votes.length c2, .int .i64 (k : Int)] w fun e w' => ∃ g, e = .returned (.slice (some ⟨g, 0, none⟩) votes.length votes.length) ∧ IBlk w' g (votesP votes k) ∧ Below w.heap.size w w' := by
  obtain ⟨N, hN⟩ : ∃ N, N = votes.length := ⟨_, rfl⟩
  have hN5 : N ≤ 100000 := by omega
  have hmk := fun V => make_ints N rfl (by omega) V
  have HV := hidden hV
  have HZ := hidden hz
  have HK0 : Hid (IBlk (w.alloc (.cells (kInt.flat (List.replicate N 0)).toArray 3)) w.heap.size (fillL 0 N (fun i => vdg 2 (votes.getD i noB) k) 0)) := by
    show IBlk _ _ _
    rw [fillL_0]
    exact blk_nw w _ _
  have HB0 : Hid (Below w.heap.size w (w.alloc (.cells (kInt.flat (List.replicate N 0)).toArray 3))) := ballc w _
  have HF : Hid (fillL 0 N (fun i => vdg 2 (votes.getD i noB) k) N = votesP votes k) := by show _ = _; rw [fillL_all, hN]; exact votesP_fill votes k
  have HN := hidden hN
  rw [← hN] at HV ⊢
  clear hV hz hN
  go_enter Tryz.func88, Tryz.ntmps88
  go_wp2
  clear hmk
  generalize w.alloc (.cells (kInt.flat (List.replicate N 0)).toArray 3) = W0 at *
  go_loopw [13] (fun i wr => ∃ j : Nat, j ≤ N ∧ i = .int .i64 j ∧ IBlk wr w.heap.size (fillL 0 N (fun i => vdg 2 (votes.getD i noB) k) j) ∧ Below w.heap.size w wr) (fun i _ => N - (intV i).toNat)
  case atStart => exact ⟨0, Nat.zero_le _, rfl, HK0.out, HB0.out⟩
  case round =>
    obtain ⟨j, hj, rfl, hX, hB⟩ := hrel
    clear HK0 HB0
    have HB := hidden hB
    have HX := hidden hX
    by_cases hlt : j < N
    · have i1 : (0 : Int) ≤ (j : Int) := by omega
      have i2 : (j : Int) < (N : Int) := by omega
      have hjv : j < votes.length := by rw [← HN.out]; exact hlt
      obtain ⟨b, off, rfl, hbl, e0⟩ := kStr_at (HV.out.below hB) j hjv
      have hm : votes.getD j noB ∈ votes := by rw [List.getD_eq_getElem?_getD, List.getElem?_eq_getElem hjv, Option.getD_some]; exact List.getElem_mem hjv
      have C1 := hidden (fun V => vdigitAt_any (votes.getD j noB) k 2 V (HZ.out _ hm) (by decide))
      have HS : Hid ((fillL 0 N (fun i => vdg 2 (votes.getD i noB) k) j).set j (vdg 2 (votes.getD j noB) k) = fillL 0 N (fun i => vdg 2 (votes.getD i noB) k) (j + 1)) := fillL_set 0 N (fun i => vdg 2 (votes.getD i noB) k) j hlt
      have c0 := hX.cell j (by rw [fillL_len]; exact hlt)
      have f0 := hX.open j
      have l0 := hX.lt
      have lb := Nat.lt_of_lt_of_le hbl hB.size
      clear hX hB hm hjv
      generalize hz : vdg 2 (votes.getD j noB) k = z at *
      clear hz
      generalize votes.getD j noB = t at *
      generalize (fillL 0 N (fun i => vdg 2 (votes.getD i noB) k) j).getD j 0 = y at *
      go_wp2_with fail
      refine (C1.out _).mono ?_
      rintro e w2 ⟨rfl, rfl⟩
      go_wp2
      have hset := HX.out.set j z
      rw [HS.out] at hset
      go_roundw
      case rel => exact ⟨j + 1, by omega, by go_num, hset, HB.out.setCell (p := ⟨w.heap.size, j, none⟩) (Nat.le_refl _) _⟩
      case measure => simp [intV]; omega
    · obtain rfl : j = N := by omega
      have i2 : ¬ (j : Int) < (j : Int) := by omega
      clear hX hB
      go_wp2
      go_ret
      exact ⟨_, rfl, by rw [← HF.out]; exact HX.out, HB.out⟩
end Go.Proofs.YtkolhbacgoafcaaGreat

/- The calls Of, Values, Bits and Number of package vec, and what Of, Values and Bits hand on, return what plain functions give, and make at most new memory; conditions: lengths of texts are at most a hundred thousand. -/
namespace Go.Proofs.YtkolhbacgoafcaaGreat
open Go.ChangeShapes Go.WideShapes Go.ChangeAt Go.RowKit Go.Shelf
set_option linter.unusedVariables false
attribute [local go_sem] cell_rg

theorem Values1_any (s : ByteArray) (hs : s.size ≤ 9223372036854775807) (k g : Nat) (w : World) (hk : w.heap[g]? = some (.cells #[.string s] 9 (0, 0))) :
    Calls Tryz.prog 71 #[.int .i64 (k : Int), .pointer (some ⟨g, 0, none⟩)] w fun e w' => e = .returned (.int .i64 (valG s k : Int)) ∧ Below w.heap.size w w' := by
  have C1 := hidden (fun V => bitAt_any s k V hs)
  rw [valG_int]
  generalize bitK s k = b at *
  obtain ⟨bv, bs⟩ := b
  unfold agB at C1
  dsimp only at C1 ⊢
  have hfd : ∀ V : World, (Instr.field 62 (.agg #[.int .i64 bv, .bool bs]) 0).run Tryz.prog V = .ok (.int .i64 bv) V := fun _ => by kernel_rfl
  have c0 : w.cell? ⟨g, 0, none⟩ = some (.string s) := blk_cell hk 0
  have l0 := blk_lt hk
  clear hk hs
  go_enter Tryz.func71, Tryz.ntmps71
  go_wp2_with fail
  refine (C1.out _).mono ?_
  rintro e w2 ⟨rfl, hb⟩
  have HB3 := hidden hb
  clear hb
  go_wp2
  go_ret
  exact ⟨rfl, HB3.out⟩
/-- The digit of a number at a place. -/
def bitG (n : Nat) (k : Nat) : Nat := n / 2 ^ k % 2
theorem bitG_bd (n k : Nat) : bitG n k ≤ 1 := by unfold bitG; omega
theorem and_one (x : Nat) (h : x < 9223372036854775808) : bits .and .i64 (x : Int) 1 = ((x % 2 : Nat) : Int) := by
  unfold bits
  have e : (BitVec.ofInt IntKind.i64.bits (x : Int) &&& BitVec.ofInt IntKind.i64.bits 1).toNat = x % 2 := by
    rw [BitVec.toNat_and]
    simp only [BitVec.toNat_ofInt]
    have h1 : ((x : Int) % ((2 ^ IntKind.i64.bits : Nat) : Int)).toNat = x := by
      have : ((2 ^ IntKind.i64.bits : Nat) : Int) = 18446744073709551616 := by decide
      rw [this]; omega
    have h2 : ((1 : Int) % ((2 ^ IntKind.i64.bits : Nat) : Int)).toNat = 1 := by decide
    rw [h1, h2, Nat.and_one_is_mod]
  show IntKind.i64.wrap _ = _
  simp only
  rw [e]
  exact IntWalk.i64_in _ (by omega)

theorem Values_any (s : ByteArray) (hs : s.size ≤ 100000) (w : World) :
    Calls Tryz.prog 54 #[.string s] w fun e w' => e = .returned (.string (dgB s.size (valG s))) ∧ Below w.heap.size w w' := by
  have hmf : ∀ (fn : Fn) (first cap : Array Value) (w : World), (Instr.makeFunc fn first cap).run Tryz.prog w = .ok (.func fn first cap) w := fun _ _ _ _ => rfl
  have CD := hidden (digits_any s.size hs 71 #[.pointer (some ⟨w.heap.size, 0, none⟩)] (enters_of Tryz.func71 (by kernel_rfl) rfl) (valG s) (fun k _ => by have := valG_bd s k; omega) (w.alloc (.cells #[.string s] 9))
    (fun k hk V hV => Values1_any s (by omega) k w.heap.size V (blk_later (blk_nw w #[.string s] 9) hV)))
  go_enter Tryz.func54, Tryz.ntmps54
  go_wp2_with fail
  refine CD.out.mono ?_
  rintro e w2 ⟨rfl, hb⟩
  have HB := hidden (bthen (ballc w _) hb)
  clear hb
  go_wp2
  go_ret
  exact ⟨rfl, HB.out⟩
/-- How many digits a width asks for. -/
def widF (width : Int) : Nat := (min (max width 0) 64).toNat
theorem widF_bd (width : Int) : widF width ≤ 64 := by unfold widF; omega
/-- The number of the first places of a text. -/
def numG (s : ByteArray) : Nat → Nat
  | 0 => 0
  | k + 1 => numG s k + (if vdg 1 s k = 1 then 2 ^ k else 0)
theorem numG_lt (s : ByteArray) : ∀ k, numG s k < 2 ^ k
  | 0 => Nat.one_pos
  | k + 1 => by
    have := numG_lt s k
    unfold numG
    split <;> (rw [Nat.pow_succ]; omega)
theorem or_pow : ∀ k : Nat, k < 8 → ∀ x : Nat, x < 2 ^ k → bits .or .i64 (x : Int) ((2 ^ k : Nat) : Int) = ((x + 2 ^ k : Nat) : Int) := by decide +kernel
end Go.Proofs.YtkolhbacgoafcaaGreat

/- The calls shift and endOf of package pipe return what plain functions give, shift with the stretch one place on; conditions: the stretch lies in a row of one's own, and has one place at least. -/
namespace Go.Proofs.YtkolhbacgoafcaaGreat
open Go.ChangeShapes Go.WideShapes Go.ChangeAt Go.RowKit
set_option linter.unusedVariables false

theorem cut8 (g off D : Nat) (hD : 1 ≤ D) : ∃ sp, (∀ W : World, (Instr.slice 52 (.slice (some ⟨g, off, none⟩) D D) (some (.int .i64 1)) none none).run Tryz.prog W = .ok (.slice sp (D - 1) (D - 1)) W) ∧ (1 < D → sp = some ⟨g, off + 1, none⟩) := by
  refine ⟨if D = 1 then some ⟨g, off, none⟩ else some ⟨g, off + 1, none⟩, fun W => ?_, fun h => if_neg (by omega)⟩
  have ht : Tryz.prog.underlying 52 = some (.slice (Tryz.prog.elem 52)) := by kernel_rfl
  rw [run_slice_l W 52 _ D D ht .i64 1 (by omega) (by omega)]
  have hz : (sizeOf (Tryz.prog.elem 52)).run Tryz.prog W = .ok 1 W := by kernel_rfl
  rw [hz]
  simp only [Result.andThen, sliced]
  by_cases h : D = 1
  · simp [h]
  · simp [h, Addr.add]
theorem cut8_last (g off D : Nat) (hD : 1 ≤ D) (hs : D ≤ 1000) (W : World) : (Instr.slice 52 (.slice (some ⟨g, off, none⟩) D D) (some (.int .i64 ((D : Int) - 1))) none none).run Tryz.prog W = .ok (.slice (some ⟨g, off + D - 1, none⟩) 1 1) W := by
  have ht : Tryz.prog.underlying 52 = some (.slice (Tryz.prog.elem 52)) := by kernel_rfl
  rw [run_slice_l W 52 _ D D ht .i64 ((D : Int) - 1) (by omega) (by omega)]
  have hz : (sizeOf (Tryz.prog.elem 52)).run Tryz.prog W = .ok 1 W := by kernel_rfl
  rw [hz]
  obtain ⟨n, rfl⟩ : ∃ n, D = n + 1 := ⟨D - 1, by omega⟩
  have e : (((n + 1 : Nat) : Int) - 1).toNat = n := by omega
  simp only [Result.andThen, sliced, e]
  have h2 : n + 1 - n = 1 := by omega
  have h3 : off + (n + 1) - 1 = off + n := by omega
  rw [h2, h3]
  by_cases h : n = 0
  · subst h
    simp [Addr.add]
  · simp [Addr.add, h]

set_option maxHeartbeats 1000000 in
theorem shift_any (g off D : Nat) (l : List UInt8) (c : UInt8) (hD : 1 ≤ D) (hs : D ≤ 1000) (hf : off + D ≤ l.length) (w : World) (h : FBlk w g l) :
    Calls Tryz.prog 26 #[.slice (some ⟨g, off, none⟩) D D, .string (ba [c])] w fun e w' => e = .returned (.string (ba [at8 l (off + D - 1)])) ∧ FBlk w' g (shL l off D c) ∧ w.grownBy w' (some g) := by
  have HE := hidden (shL_ovr c hD hf)
  have HC := hidden (fun V => cut8_last g off D hD hs V)
  obtain ⟨sp, hc1, hsp⟩ := cut8 g off D hD
  have HT : Hid ((convert 52 9 (.slice (some ⟨g, off + D - 1, none⟩) 1 1)).run Tryz.prog w = .ok (.string (ba [at8 l (off + D - 1)])) w) := h.one (off + D - 1) (by omega) 1
  obtain ⟨w1, r1, h1, g1⟩ := copy_on h hD hf 3 sp (D - 1) D hsp
  obtain ⟨w2, r2, h2, g2⟩ := copy_head h1 hD (by rw [ovr_len]; exact hf) 3 D c
  have HB : Hid (FBlk w2 g (shL l off D c)) := by
    show FBlk _ _ _
    rw [← HE.out]
    exact h2
  have HG : Hid (w.grownBy w2 (some g)) := ⟨g2.os.trans g1.os, g2.tape.trans g1.tape, g2.output.trans g1.output, Nat.le_trans g1.size g2.size, fun k hk hne => (g2.block k (Nat.lt_of_lt_of_le hk g1.size) hne).trans (g1.block k hk hne)⟩
  have hcl := HC.out w
  have hct := HT.out
  clear h1 h2 g1 g2 h hsp HC HE hf
  generalize at8 l (off + D - 1) = z at *
  generalize ba [z] = zt at *
  generalize ba [c] = ct at *
  go_enter Tryz.func26, Tryz.ntmps26
  go_wp2
  go_ret
  exact ⟨rfl, HB.out, HG.out⟩
theorem endOf_any (b : UInt8) (w : World) :
    Calls Tryz.prog 28 #[.string (ba [b])] w fun e w' => e = .returned (.int .i64 (if valG (ba [b]) 0 = 1 then 1 else 0)) ∧ Below w.heap.size w w' := by
  have CV := hidden (fun V => Values_any (ba [b]) (by rw [ba_size]; simp) V)
  have e1 : dgB (ba [b]).size (valG (ba [b])) = ba [UInt8.ofNat (48 + valG (ba [b]) 0)] := by
    rw [ba_size]
    rfl
  rw [e1] at CV
  have hv := valG_bd (ba [b]) 0
  generalize valG (ba [b]) 0 = v at *
  generalize ba [b] = s at *
  clear e1
  by_cases h1 : v = 1
  · subst h1
    have e2 : Hid (((ba [UInt8.ofNat (48 + 1)]).toList == [49]) = true) := by
      show _ = _
      rw [ByteArray.toList_eq]
      decide
    rw [if_pos rfl]
    generalize ba [UInt8.ofNat (48 + 1)] = q at *
    have e3 := e2.out
    go_enter Tryz.func28, Tryz.ntmps28
    go_wp2_with fail
    refine (CV.out _).mono ?_
    rintro e w2 ⟨rfl, hb⟩
    have HB := hidden hb
    clear hb
    go_wp2
    go_ret
    exact ⟨rfl, HB.out⟩
  · have e2 : Hid (((ba [UInt8.ofNat (48 + v)]).toList == [49]) = false) := by
      show _ = _
      rw [ByteArray.toList_eq]
      have : v = 0 ∨ v = 2 := by omega
      rcases this with rfl | rfl <;> decide
    rw [if_neg h1]
    generalize ba [UInt8.ofNat (48 + v)] = q at *
    have e3 := e2.out
    go_enter Tryz.func28, Tryz.ntmps28
    go_wp2_with fail
    refine (CV.out _).mono ?_
    rintro e w2 ⟨rfl, hb⟩
    have HB := hidden hb
    clear hb
    go_wp2
    go_ret
    exact ⟨rfl, HB.out⟩
end Go.Proofs.YtkolhbacgoafcaaGreat

/- So many zeros as a text: what strings.Repeat and the document's own repetition of one zero return; they make at most new memory; conditions: at most a thousand. -/
namespace Go.Proofs.YtkolhbacgoafcaaGreat
open Go.ChangeShapes Go.WideShapes Go.ChangeAt Go.RowKit Go.Shelf
set_option linter.unusedVariables false

/-- So many zeros. -/
def zerL (n : Nat) : List UInt8 := List.replicate n 48
theorem extraRep : Builder.Extra Tryz.prog Tryz.laysRepeat_ren where
  sizeBuilder := by kernel_rfl
  liesBuilder := by kernel_rfl
  t5 := Tryz.laysRepeat.t5
  a5 := Tryz.laysRepeat.a5
  z5 := Tryz.laysRepeat.z5
  v5 := Tryz.laysRepeat.v5
  infoByte := by kernel_rfl
  cellsByte := by kernel_rfl
  sizeByte := by kernel_rfl
  neB5 := by decide
theorem renRep : Tryz.laysRepeat_ren.f 105 = 66 := by kernel_rfl
theorem RepZ_any (n : Nat) (w : World) (hn : n ≤ 1000) :
    Calls Tryz.prog 66 #[.string ⟨#[48]⟩, .int .i64 n] w fun e w' => e = .returned (.string (ba (zerL n))) ∧ Below w.heap.size w w' := by
  have h := Any.strings_Repeat Tryz.laysRepeat extraRep ⟨#[48]⟩ n w (by omega) (by show 1 * n ≤ _; omega)
  rw [renRep] at h
  refine h.mono fun e w' ⟨he, hw⟩ => ⟨?_, hw⟩
  rw [he]
  have e : Lib.repeatL (ByteArray.mk #[48]).data.toList n = List.replicate n (48 : UInt8) := by
    have := Lib.repeatL_replicate 48 1 n
    rw [Nat.mul_one] at this
    exact this
  rw [e]
  rfl
theorem zerL_s (k : Nat) : ba (zerL k) ++ ⟨#[48]⟩ = ba (zerL (k + 1)) := by
  have : (⟨#[48]⟩ : ByteArray) = ba [48] := rfl
  rw [this, ba_append]
  unfold zerL
  rw [List.replicate_succ']
theorem rRepZ_any (n : Nat) (w : World) (hn : n ≤ 1000) :
    Calls Tryz.prog 73 #[.string ⟨#[48]⟩, .int .i64 n] w fun e w' => e = .returned (.string (ba (zerL n))) ∧ w = w' := by
  go_enter Tryz.func73, Tryz.ntmps73
  go_wp2
  go_loop [5, 6] (fun s i => ∃ k : Nat, k ≤ n ∧ s = .string (ba (zerL k)) ∧ i = .int .i64 k) (fun _ i => n - (intV i).toNat)
  case atStart => exact ⟨0, Nat.zero_le _, rfl, rfl⟩
  case round =>
    obtain ⟨k, hk, rfl, rfl⟩ := hrel
    by_cases hlt : k < n
    · have hz := zerL_s k
      have HZ := hidden hz
      clear hz
      have hsz : (ba (zerL k)).size = k := by rw [ba_size, zerL, List.length_replicate]
      have hns : ¬ 9223372036854775807 < (ba (zerL k)).size + 1 := by omega
      clear hsz
      have i2 : (k : Int) < (n : Int) := by omega
      go_wp2
      go_round
      case rel => exact ⟨k + 1, by omega, by rw [← HZ.out], by go_num⟩
      case measure => simp [intV]; omega
    · obtain rfl : k = n := by omega
      go_wp2
      go_ret
      exact ⟨rfl, rfl⟩
end Go.Proofs.YtkolhbacgoafcaaGreat

/- The calls stepper and Step of package vec, and what stepper hands back, return what plain functions give, and make at most new memory; conditions: rows lie where they say, lengths fit int, and at most a hundred thousand codes and votes. -/
namespace Go.Proofs.YtkolhbacgoafcaaGreat
open Go.ChangeShapes Go.WideShapes Go.ChangeAt Go.RowKit Go.Shelf
set_option linter.unusedVariables false
attribute [local go_sem] cell_rg

theorem blkV_new {w w' : World} {C : Array Value} {t : TypeId} (hb : Below (w.alloc (.cells C t)).heap.size (w.alloc (.cells C t)) w') : w'.heap[w.heap.size]? = some (.cells C t (0, 0)) := (hb.block _ (by simp)).trans (heap_alloc_new w _)
theorem blkV_newD {w w' : World} {C : Array Value} {t : TypeId} (hb : Below (w.alloc (.cells C t)).drew.heap.size (w.alloc (.cells C t)).drew w') : w'.heap[w.heap.size]? = some (.cells C t (0, 0)) := (hb.block _ (by simp)).trans (heap_alloc_new w _)
theorem blkV_newE {w w' : World} {C : Array Value} {t : TypeId} (hb : Below (w.alloc (.cells C t)).drew.drew.heap.size (w.alloc (.cells C t)).drew.drew w') : w'.heap[w.heap.size]? = some (.cells C t (0, 0)) := (hb.block _ (by simp)).trans (heap_alloc_new w _)
/-- A block that lies there. -/
def Lay (g : Nat) (o : Obj) (w : World) : Prop := w.heap[g]? = some o
theorem Lay.alloc {g : Nat} {o : Obj} {w : World} (h : Lay g o w) (p : Obj) : Lay g o (w.alloc p) := blk_later h (ballc w p)
theorem Lay.drew {g : Nat} {o : Obj} {w : World} (h : Lay g o w) : Lay g o w.drew := h
theorem Lay.below {g : Nat} {o : Obj} {w w' : World} (h : Lay g o w) (hb : Below w.heap.size w w') : Lay g o w' := blk_later h hb
theorem Lay.iblk {g : Nat} {l : List Int} {w : World} (h : Lay g (.cells (kInt.flat l).toArray 3 (0, 0)) w) : IBlk w g l := h

set_option maxHeartbeats 4000000 in
theorem stepper1_any (n f d p r dr o sl md fr : Int) (ad : Option Addr) (cap : Nat) (zs : List Int) (x : Int) (codes told : ByteArray) (a2 : Option Addr) (c2 : Nat) (votes : List ByteArray) (k g0 g1 g2 g3 g4 : Nat) (w : World) (hl : zs.length ≤ 9223372036854775807) (hT : Tab w ad zs) (hx : (Lit.int .i64 x).wf = true)
    (hs1 : codes.size ≤ 9223372036854775807) (hs2 : told.size ≤ 9223372036854775807) (hn : votes.length ≤ 100000) (hV : kStr.Lies w.heap.size w (.slice a2 votes.length c2) votes) (hz : ∀ t ∈ votes, t.size ≤ 9223372036854775807)
    (b0 : w.heap[g0]? = some (.cells #[.int .i64 n, .int .i64 f, .int .i64 d, .int .i64 p, .int .i64 r, .int .i64 dr, .int .i64 o, .int .i64 sl, .int .i64 md, .int .i64 fr, .slice ad zs.length cap] 24 (0, 0))) (b1 : w.heap[g1]? = some (.cells #[.int .i64 x] 3 (0, 0))) (b2 : w.heap[g2]? = some (.cells #[.string codes] 9 (0, 0))) (b3 : w.heap[g3]? = some (.cells #[.string told] 9 (0, 0))) (b4 : w.heap[g4]? = some (.cells #[.slice a2 votes.length c2] 25 (0, 0))) :
    Calls Tryz.prog 85 #[.int .i64 (k : Int), .pointer (some ⟨g0, 0, none⟩), .pointer (some ⟨g1, 0, none⟩), .pointer (some ⟨g2, 0, none⟩), .pointer (some ⟨g3, 0, none⟩), .pointer (some ⟨g4, 0, none⟩)] w fun e w' => e = .returned (.int .i64 (stpG (plainE n f d p r dr o sl md fr zs) n f x codes told votes k : Int)) ∧ Below w.heap.size w w' := by
  have hC0 : Chn w.heap.size w w := Chn.refl (Nat.le_refl _)
  have hS : ∀ w', Chn w.heap.size w w' → (w'.cell? ⟨g0, 0, none⟩ = some (.int .i64 n) ∧ w'.cell? ⟨g0, 1, none⟩ = some (.int .i64 f) ∧ w'.cell? ⟨g0, 2, none⟩ = some (.int .i64 d) ∧ w'.cell? ⟨g0, 3, none⟩ = some (.int .i64 p) ∧ w'.cell? ⟨g0, 4, none⟩ = some (.int .i64 r) ∧ w'.cell? ⟨g0, 5, none⟩ = some (.int .i64 dr) ∧ w'.cell? ⟨g0, 6, none⟩ = some (.int .i64 o) ∧ w'.cell? ⟨g0, 7, none⟩ = some (.int .i64 sl) ∧ w'.cell? ⟨g0, 8, none⟩ = some (.int .i64 md) ∧ w'.cell? ⟨g0, 9, none⟩ = some (.int .i64 fr) ∧ w'.cell? ⟨g0, 10, none⟩ = some (.slice ad zs.length cap) ∧ w'.cell? ⟨g1, 0, none⟩ = some (.int .i64 x) ∧ w'.cell? ⟨g2, 0, none⟩ = some (.string codes) ∧ w'.cell? ⟨g3, 0, none⟩ = some (.string told) ∧ w'.cell? ⟨g4, 0, none⟩ = some (.slice a2 votes.length c2)) := fun V hV => by
    have l0 := blk_cell ((hV.1.block _ (blk_lt b0)).trans b0)
    exact ⟨l0 0, l0 1, l0 2, l0 3, l0 4, l0 5, l0 6, l0 7, l0 8, l0 9, l0 10, blk_cell ((hV.1.block _ (blk_lt b1)).trans b1) 0, blk_cell ((hV.1.block _ (blk_lt b2)).trans b2) 0, blk_cell ((hV.1.block _ (blk_lt b3)).trans b3) 0, blk_cell ((hV.1.block _ (blk_lt b4)).trans b4) 0⟩
  have CB := fun V => bitAt_any codes k V hs1
  have CD := fun V => vdigitAt_any told k 2 V hs2 (by decide)
  have CV : ∀ V, Chn w.heap.size w V → Calls Tryz.prog 88 #[.slice a2 votes.length c2, .int .i64 (k : Int)] V fun e w' => ∃ g, e = .returned (.slice (some ⟨g, 0, none⟩) votes.length votes.length) ∧ Lay g (.cells (kInt.flat (votesP votes k)).toArray 3 (0, 0)) w' ∧ Below V.heap.size V w' := fun V hb => (votesAt_any a2 c2 votes k V hn (hV.later hb.1) hz).mono fun e w' ⟨g, he, hI, hb⟩ => ⟨g, he, hI, hb⟩
  have CS := fun g V (hb : Chn w.heap.size w V) (hg : Lay g (.cells (kInt.flat (votesP votes k)).toArray 3 (0, 0)) V) => KStep_any n f d p r dr o sl md fr ad cap zs x (bitK codes k) (vdg 2 told k) (some ⟨g, 0, none⟩) votes.length votes.length (votesP votes k) V hl (hT.below hb.1) hx (by rw [votesP_len]; omega) (by have h := (Lay.iblk hg).lies (by rw [votesP_len]; simp only [maxLen]; omega); rwa [votesP_len] at h)
  have HQ : Hid ((stpG (plainE n f d p r dr o sl md fr zs) n f x codes told votes k : Int) = codeF (stpB (plainE n f d p r dr o sl md fr zs) n f x codes told votes k)) := stpG_int _ _ _ _ _ _ _ _
  have HR : Hid (stpB (plainE n f d p r dr o sl md fr zs) n f x codes told votes k = stepF (plainE n f d p r dr o sl md fr zs) n f x (bitK codes k) (vdg 2 told k) (votesP votes k)) := rfl
  rw [HQ.out, HR.out]
  clear HQ HR
  have CC := hidden (fun V => Code_any (stepF (plainE n f d p r dr o sl md fr zs) n f x (bitK codes k) (vdg 2 told k) (votesP votes k)) V)
  generalize stepF (plainE n f d p r dr o sl md fr zs) n f x (bitK codes k) (vdg 2 told k) (votesP votes k) = q at *
  generalize (kInt.flat (votesP votes k)).toArray = vcells at *
  generalize bitK codes k = bk at *
  generalize vdg 2 told k = td at *
  generalize votes.length = M at *
  obtain ⟨bv, bs⟩ := bk
  obtain ⟨qv, qs⟩ := q
  unfold agB at CB CS
  dsimp only at CB CS CC
  clear hV hz hT hs1 hs2 b0 b1 b2 b3 b4
  go_enter Tryz.func85, Tryz.ntmps85
  go_upto_region 1 with fail
  go_cut [8] (fun pt wx => ∃ g : Nat, pt = .pointer (some ⟨g, 0, none⟩) ∧ wx.heap[g]? = some (.cells #[.int .i64 qv, .bool qs] 62 (0, 0)) ∧ w.heap.size ≤ g ∧ Chn w.heap.size w wx)
  case first =>
    go_region_held3 (fun w' => w'.cell? ⟨g0, 0, none⟩ = some (.int .i64 n) ∧ w'.cell? ⟨g0, 1, none⟩ = some (.int .i64 f) ∧ w'.cell? ⟨g0, 2, none⟩ = some (.int .i64 d) ∧ w'.cell? ⟨g0, 3, none⟩ = some (.int .i64 p) ∧ w'.cell? ⟨g0, 4, none⟩ = some (.int .i64 r) ∧ w'.cell? ⟨g0, 5, none⟩ = some (.int .i64 dr) ∧ w'.cell? ⟨g0, 6, none⟩ = some (.int .i64 o) ∧ w'.cell? ⟨g0, 7, none⟩ = some (.int .i64 sl) ∧ w'.cell? ⟨g0, 8, none⟩ = some (.int .i64 md) ∧ w'.cell? ⟨g0, 9, none⟩ = some (.int .i64 fr) ∧ w'.cell? ⟨g0, 10, none⟩ = some (.slice ad zs.length cap) ∧ w'.cell? ⟨g1, 0, none⟩ = some (.int .i64 x) ∧ w'.cell? ⟨g2, 0, none⟩ = some (.string codes) ∧ w'.cell? ⟨g3, 0, none⟩ = some (.string told) ∧ w'.cell? ⟨g4, 0, none⟩ = some (.slice a2 M c2)) (first | exact hS _ (by repeat (first | with_reducible assumption | with_reducible refine Chn.drew ?_ | with_reducible refine Chn.alloc ?_ _ | with_reducible refine Chn.set ?_ _ _ (by first | exact Nat.le_refl _ | exact Chn.le hC4 | exact Chn.le hC5 | exact Chn.le hC6) _)))
      (first
      | (go_at_call 72; refine (CB _).mono ?_; rintro e w4 ⟨rfl, hb4⟩; clear CB; have hC4 := Chn.below (show Chn w.heap.size w _ from (by repeat (first | with_reducible assumption | with_reducible refine Chn.drew ?_ | with_reducible refine Chn.alloc ?_ _ | with_reducible refine Chn.set ?_ _ _ (by first | exact Nat.le_refl _ | exact Chn.le hC4 | exact Chn.le hC5 | exact Chn.le hC6) _))) hb4; (first | (have kx4 := (hb4.block _ (Array.getElem?_eq_some_iff.1 kx5).1).trans kx5; have ky4 := blk_cell kx4; have kz4 := blk_frozen kx4) | (have kx4 := (hb4.block _ (Array.getElem?_eq_some_iff.1 kx6).1).trans kx6; have ky4 := blk_cell kx4; have kz4 := blk_frozen kx4) | (have kx4 := blkV_new hb4; have ky4 := blk_cell kx4; have kz4 := blk_frozen kx4) | (have kx4 := blkV_newD hb4; have ky4 := blk_cell kx4; have kz4 := blk_frozen kx4) | (have kx4 := blkV_newE hb4; have ky4 := blk_cell kx4; have kz4 := blk_frozen kx4) | skip); (first | (have hI4 := Lay.below (show Lay g5 _ _ from (by repeat (first | with_reducible assumption | with_reducible refine Lay.drew ?_ | with_reducible refine Lay.alloc ?_ _))) hb4) | skip); clear hb4)
      | (go_at_call 87; refine (CD _).mono ?_; rintro e w9 ⟨rfl, rfl⟩; clear CD)
      | (go_at_call 88; refine (CV _ (by repeat (first | with_reducible assumption | with_reducible refine Chn.drew ?_ | with_reducible refine Chn.alloc ?_ _ | with_reducible refine Chn.set ?_ _ _ (by first | exact Nat.le_refl _ | exact Chn.le hC4 | exact Chn.le hC5 | exact Chn.le hC6) _))).mono ?_; rintro e w5 ⟨g5, rfl, hI5, hb5⟩; clear CV; have hC5 := Chn.below (show Chn w.heap.size w _ from (by repeat (first | with_reducible assumption | with_reducible refine Chn.drew ?_ | with_reducible refine Chn.alloc ?_ _ | with_reducible refine Chn.set ?_ _ _ (by first | exact Nat.le_refl _ | exact Chn.le hC4 | exact Chn.le hC5 | exact Chn.le hC6) _))) hb5; (first | (have kx5 := (hb5.block _ (Array.getElem?_eq_some_iff.1 kx4).1).trans kx4; have ky5 := blk_cell kx5; have kz5 := blk_frozen kx5) | (have kx5 := (hb5.block _ (Array.getElem?_eq_some_iff.1 kx6).1).trans kx6; have ky5 := blk_cell kx5; have kz5 := blk_frozen kx5) | (have kx5 := blkV_new hb5; have ky5 := blk_cell kx5; have kz5 := blk_frozen kx5) | (have kx5 := blkV_newD hb5; have ky5 := blk_cell kx5; have kz5 := blk_frozen kx5) | (have kx5 := blkV_newE hb5; have ky5 := blk_cell kx5; have kz5 := blk_frozen kx5) | skip); clear hb5)
      | (go_at_call 86; refine (CS g5 _ (by repeat (first | with_reducible assumption | with_reducible refine Chn.drew ?_ | with_reducible refine Chn.alloc ?_ _ | with_reducible refine Chn.set ?_ _ _ (by first | exact Nat.le_refl _ | exact Chn.le hC4 | exact Chn.le hC5 | exact Chn.le hC6) _)) (by repeat (first | with_reducible assumption | with_reducible refine Lay.drew ?_ | with_reducible refine Lay.alloc ?_ _))).mono ?_; rintro e w6 ⟨rfl, hb6⟩; clear CS; have hC6 := Chn.below (show Chn w.heap.size w _ from (by repeat (first | with_reducible assumption | with_reducible refine Chn.drew ?_ | with_reducible refine Chn.alloc ?_ _ | with_reducible refine Chn.set ?_ _ _ (by first | exact Nat.le_refl _ | exact Chn.le hC4 | exact Chn.le hC5 | exact Chn.le hC6) _))) hb6; (first | (have kx6 := (hb6.block _ (Array.getElem?_eq_some_iff.1 kx4).1).trans kx4; have ky6 := blk_cell kx6; have kz6 := blk_frozen kx6) | (have kx6 := (hb6.block _ (Array.getElem?_eq_some_iff.1 kx5).1).trans kx5; have ky6 := blk_cell kx6; have kz6 := blk_frozen kx6) | (have kx6 := blkV_new hb6; have ky6 := blk_cell kx6; have kz6 := blk_frozen kx6) | (have kx6 := blkV_newD hb6; have ky6 := blk_cell kx6; have kz6 := blk_frozen kx6) | (have kx6 := blkV_newE hb6; have ky6 := blk_cell kx6; have kz6 := blk_frozen kx6) | skip); clear hb6))
    all_goals
      go_wp2_with fail
      go_meet
      case rel =>
        refine ⟨_, rfl, ?_, ?_, (by repeat (first | with_reducible assumption | with_reducible refine Chn.drew ?_ | with_reducible refine Chn.alloc ?_ _ | with_reducible refine Chn.set ?_ _ _ (by first | exact Nat.le_refl _ | exact Chn.le hC4 | exact Chn.le hC5 | exact Chn.le hC6) _))⟩
        · first
            | with_reducible exact set2T kx6 _ _
            | exact heap_alloc_new _ _
        · first
            | with_reducible exact Nat.le_refl _
            | with_reducible exact Chn.le hC4
            | with_reducible exact Chn.le hC5
            | with_reducible exact Chn.le hC6
  case rest =>
    obtain ⟨g, rfl, hBl, hg, hC⟩ := hcut
    have e0 := fun i => blk_cell hBl i
    have lg := blk_lt hBl
    have HC := hidden hC
    clear hBl hg hC CB CD CV CS hS
    go_wp2_with fail
    refine (CC.out _).mono ?_
    rintro e w7 ⟨rfl, hb⟩
    have HB := hidden (bthen HC.out.1 hb)
    clear hb
    go_wp2
    go_ret
    exact ⟨rfl, HB.out⟩

theorem stepper_any (n f d p r dr o sl md fr : Int) (ad : Option Addr) (cap : Nat) (zs : List Int) (x : Int) (codes told : ByteArray) (a2 : Option Addr) (c2 M : Nat) (w : World) :
    Calls Tryz.prog 70 #[.agg #[.int .i64 n, .int .i64 f, .int .i64 d, .int .i64 p, .int .i64 r, .int .i64 dr, .int .i64 o, .int .i64 sl, .int .i64 md, .int .i64 fr, .slice ad zs.length cap], .int .i64 x, .string codes, .string told, .slice a2 M c2] w fun e w' => ∃ g0 g1 g2 g3 g4, e = .returned (.func (.func 85) #[] #[.pointer (some ⟨g0, 0, none⟩), .pointer (some ⟨g1, 0, none⟩), .pointer (some ⟨g2, 0, none⟩), .pointer (some ⟨g3, 0, none⟩), .pointer (some ⟨g4, 0, none⟩)])
      ∧ w'.heap[g0]? = some (.cells #[.int .i64 n, .int .i64 f, .int .i64 d, .int .i64 p, .int .i64 r, .int .i64 dr, .int .i64 o, .int .i64 sl, .int .i64 md, .int .i64 fr, .slice ad zs.length cap] 24 (0, 0)) ∧ w'.heap[g1]? = some (.cells #[.int .i64 x] 3 (0, 0)) ∧ w'.heap[g2]? = some (.cells #[.string codes] 9 (0, 0)) ∧ w'.heap[g3]? = some (.cells #[.string told] 9 (0, 0)) ∧ w'.heap[g4]? = some (.cells #[.slice a2 M c2] 25 (0, 0)) ∧ Below w.heap.size w w' := by
  have hmf : ∀ (fn : Fn) (first cap : Array Value) (w : World), (Instr.makeFunc fn first cap).run Tryz.prog w = .ok (.func fn first cap) w := fun _ _ _ _ => rfl
  have k0 := blk_nw w #[.int .i64 n, .int .i64 f, .int .i64 d, .int .i64 p, .int .i64 r, .int .i64 dr, .int .i64 o, .int .i64 sl, .int .i64 md, .int .i64 fr, .slice ad zs.length cap] 24
  have k1 := blk_newAt (w.alloc (.cells #[.int .i64 n, .int .i64 f, .int .i64 d, .int .i64 p, .int .i64 r, .int .i64 dr, .int .i64 o, .int .i64 sl, .int .i64 md, .int .i64 fr, .slice ad zs.length cap] 24)) #[.int .i64 x] 3 (b := w.heap.size + 1) (by simp)
  have k2 := blk_newAt ((w.alloc (.cells #[.int .i64 n, .int .i64 f, .int .i64 d, .int .i64 p, .int .i64 r, .int .i64 dr, .int .i64 o, .int .i64 sl, .int .i64 md, .int .i64 fr, .slice ad zs.length cap] 24)).alloc (.cells #[.int .i64 x] 3)) #[.string codes] 9 (b := w.heap.size + 1 + 1) (by simp)
  have k3 := blk_newAt (((w.alloc (.cells #[.int .i64 n, .int .i64 f, .int .i64 d, .int .i64 p, .int .i64 r, .int .i64 dr, .int .i64 o, .int .i64 sl, .int .i64 md, .int .i64 fr, .slice ad zs.length cap] 24)).alloc (.cells #[.int .i64 x] 3)).alloc (.cells #[.string codes] 9)) #[.string told] 9 (b := w.heap.size + 1 + 1 + 1) (by simp)
  have k4 := blk_newAt ((((w.alloc (.cells #[.int .i64 n, .int .i64 f, .int .i64 d, .int .i64 p, .int .i64 r, .int .i64 dr, .int .i64 o, .int .i64 sl, .int .i64 md, .int .i64 fr, .slice ad zs.length cap] 24)).alloc (.cells #[.int .i64 x] 3)).alloc (.cells #[.string codes] 9)).alloc (.cells #[.string told] 9)) #[.slice a2 M c2] 25 (b := w.heap.size + 1 + 1 + 1 + 1) (by simp)
  have K0 := hidden (blk_later (blk_later (blk_later (blk_later k0 (ballc _ (.cells #[.int .i64 x] 3))) (ballc _ (.cells #[.string codes] 9))) (ballc _ (.cells #[.string told] 9))) (ballc _ (.cells #[.slice a2 M c2] 25)))
  have K1 := hidden (blk_later (blk_later (blk_later k1 (ballc _ (.cells #[.string codes] 9))) (ballc _ (.cells #[.string told] 9))) (ballc _ (.cells #[.slice a2 M c2] 25)))
  have K2 := hidden (blk_later (blk_later k2 (ballc _ (.cells #[.string told] 9))) (ballc _ (.cells #[.slice a2 M c2] 25)))
  have K3 := hidden (blk_later k3 (ballc _ (.cells #[.slice a2 M c2] 25)))
  have K4 := hidden k4
  have HB := hidden (bthen (bthen (bthen (bthen (ballc w (.cells #[.int .i64 n, .int .i64 f, .int .i64 d, .int .i64 p, .int .i64 r, .int .i64 dr, .int .i64 o, .int .i64 sl, .int .i64 md, .int .i64 fr, .slice ad zs.length cap] 24)) (ballc _ (.cells #[.int .i64 x] 3))) (ballc _ (.cells #[.string codes] 9))) (ballc _ (.cells #[.string told] 9))) (ballc _ (.cells #[.slice a2 M c2] 25)))
  clear k0 k1 k2 k3 k4
  go_enter Tryz.func70, Tryz.ntmps70
  go_wp2
  go_ret
  exact ⟨_, _, _, _, _, rfl, K0.out, K1.out, K2.out, K3.out, K4.out, HB.out⟩

set_option maxHeartbeats 1000000 in
theorem VStep_any (n f d p r dr o sl md fr : Int) (ad : Option Addr) (cap : Nat) (zs : List Int) (x : Int) (codes told : ByteArray) (a2 : Option Addr) (c2 : Nat) (votes : List ByteArray) (w : World) (hl : zs.length ≤ 9223372036854775807) (hT : Tab w ad zs) (hx : (Lit.int .i64 x).wf = true)
    (hs1 : codes.size ≤ 100000) (hs2 : told.size ≤ 9223372036854775807) (hn : votes.length ≤ 100000) (hV : kStr.Lies w.heap.size w (.slice a2 votes.length c2) votes) (hz : ∀ t ∈ votes, t.size ≤ 9223372036854775807) :
    Calls Tryz.prog 53 #[.agg #[.int .i64 n, .int .i64 f, .int .i64 d, .int .i64 p, .int .i64 r, .int .i64 dr, .int .i64 o, .int .i64 sl, .int .i64 md, .int .i64 fr, .slice ad zs.length cap], .int .i64 x, .string codes, .string told, .slice a2 votes.length c2] w fun e w' => e = .returned (.string (dgB codes.size (stpG (plainE n f d p r dr o sl md fr zs) n f x codes told votes))) ∧ Below w.heap.size w w' := by
  have C1 := hidden (fun V => stepper_any n f d p r dr o sl md fr ad cap zs x codes told a2 c2 votes.length V)
  have C2 : ∀ (V : World) (g0 g1 g2 g3 g4 : Nat), Below w.heap.size w V → V.heap[g0]? = some (.cells #[.int .i64 n, .int .i64 f, .int .i64 d, .int .i64 p, .int .i64 r, .int .i64 dr, .int .i64 o, .int .i64 sl, .int .i64 md, .int .i64 fr, .slice ad zs.length cap] 24 (0, 0)) → V.heap[g1]? = some (.cells #[.int .i64 x] 3 (0, 0)) → V.heap[g2]? = some (.cells #[.string codes] 9 (0, 0)) → V.heap[g3]? = some (.cells #[.string told] 9 (0, 0)) → V.heap[g4]? = some (.cells #[.slice a2 votes.length c2] 25 (0, 0)) →
      Calls Tryz.prog 69 #[.int .i64 (codes.size : Int), .func (.func 85) #[] #[.pointer (some ⟨g0, 0, none⟩), .pointer (some ⟨g1, 0, none⟩), .pointer (some ⟨g2, 0, none⟩), .pointer (some ⟨g3, 0, none⟩), .pointer (some ⟨g4, 0, none⟩)]] V fun e w' => e = .returned (.string (dgB codes.size (stpG (plainE n f d p r dr o sl md fr zs) n f x codes told votes))) ∧ Below V.heap.size V w' :=
    fun V g0 g1 g2 g3 g4 hb b0 b1 b2 b3 b4 => digits_any codes.size hs1 85 #[.pointer (some ⟨g0, 0, none⟩), .pointer (some ⟨g1, 0, none⟩), .pointer (some ⟨g2, 0, none⟩), .pointer (some ⟨g3, 0, none⟩), .pointer (some ⟨g4, 0, none⟩)] (enters_of Tryz.func85 (by kernel_rfl) rfl) (stpG (plainE n f d p r dr o sl md fr zs) n f x codes told votes) (fun k _ => by have := stpG_bd (plainE n f d p r dr o sl md fr zs) n f x codes told votes k; omega) V
      (fun k hk W hW => stepper1_any n f d p r dr o sl md fr ad cap zs x codes told a2 c2 votes k g0 g1 g2 g3 g4 W hl (hT.below (bthen hb hW)) hx (by omega) hs2 hn (hV.later (bthen hb hW)) hz (blk_later b0 hW) (blk_later b1 hW) (blk_later b2 hW) (blk_later b3 hW) (blk_later b4 hW))
  have C2 := hidden C2
  clear hT hV hz
  generalize stpG (plainE n f d p r dr o sl md fr zs) n f x codes told votes = G at *
  go_enter Tryz.func53, Tryz.ntmps53
  go_wp2_with fail
  refine (C1.out _).mono ?_
  rintro e w2 ⟨g0, g1, g2, g3, g4, rfl, b0, b1, b2, b3, b4, hb⟩
  have HB2 := hidden (bthen (ballc w _) hb)
  have CX := hidden (C2.out w2 g0 g1 g2 g3 g4 HB2.out b0 b1 b2 b3 b4)
  clear hb b0 b1 b2 b3 b4
  go_wp2_with fail
  refine CX.out.mono ?_
  rintro e w3 ⟨rfl, hb⟩
  have HB3 := hidden (bthen HB2.out hb)
  clear hb
  go_wp2
  go_ret
  exact ⟨rfl, HB3.out⟩
end Go.Proofs.YtkolhbacgoafcaaGreat

/- The call part of the statements on package vec returns the text of one place, and what a step makes of one place is what it makes of the whole there; conditions: lengths fit int. -/
namespace Go.Proofs.YtkolhbacgoafcaaGreat
open Go.ChangeShapes Go.WideShapes Go.ChangeAt Go.RowKit
set_option linter.unusedVariables false

/-- The text of one place. -/
def prt (s : ByteArray) (k : Nat) : ByteArray := if k < s.size then s.extract k (k + 1) else noB
theorem prt_in {s : ByteArray} {k : Nat} (h : k < s.size) : prt s k = s.extract k (k + 1) := if_pos h
theorem prt_size (s : ByteArray) (k : Nat) : (prt s k).size ≤ 1 := by
  unfold prt
  split
  · rw [ByteArray.size_extract]; omega
  · decide
theorem prt_one {s : ByteArray} {k : Nat} (h : k < s.size) : (prt s k).size = 1 := by
  rw [prt_in h, ByteArray.size_extract]; omega
theorem vdg_prt (last : Int) (s : ByteArray) (k : Nat) : vdg last (prt s k) 0 = vdg last s k := by
  by_cases h : k < s.size
  · have h1 : 0 < (prt s k).size := by rw [prt_one h]; decide
    have e : (prt s k)[0]'h1 = s[k]'h := by
      have h2 : (prt s k)[0]'h1 = (s.extract k (k + 1))[0]'(by rw [← prt_in h]; exact h1) := by congr 1; exact prt_in h
      rw [h2, ByteArray.getElem_extract]
      rfl
    unfold vdg
    rw [dif_pos h1, dif_pos h, e]
  · have e : prt s k = noB := if_neg h
    rw [e, vdg_out (by decide), vdg_out (by omega)]
theorem dgB_extract {n : Nat} {g : Nat → Nat} {k : Nat} (hk : k < n) : (dgB n g).extract k (k + 1) = dgB 1 (fun _ => g k) := by
  apply ByteArray.ext
  rw [ByteArray.data_extract]
  simp only [dgB, ba, dgL]
  rw [List.extract_toArray]
  congr 1
  rw [List.extract_eq_take_drop]
  apply List.ext_getElem
  · simp; omega
  · intro i h1 h2
    simp at h1 h2 ⊢
    have : i = 0 := by omega
    subst this
    simp
theorem stp_prt (E n f x : Int) (codes told : ByteArray) (votes : List ByteArray) (k : Nat) : stpG E n f x (prt codes k) (prt told k) (votes.map fun t => prt t k) 0 = stpG E n f x codes told votes k := by
  unfold stpG stpB bitK
  rw [vdg_prt, vdg_prt, List.map_map]
  congr 4
  funext t
  exact vdg_prt 2 t k
theorem step_prt (E n f x : Int) (codes told : ByteArray) (votes : List ByteArray) {k : Nat} (hk : k < codes.size) : dgB (prt codes k).size (stpG E n f x (prt codes k) (prt told k) (votes.map fun t => prt t k)) = (dgB codes.size (stpG E n f x codes told votes)).extract k (k + 1) := by
  rw [dgB_extract hk, prt_one hk]
  refine dgB_congr fun j hj => ?_
  have : j = 0 := by omega
  subst this
  exact stp_prt E n f x codes told votes k
end Go.Proofs.YtkolhbacgoafcaaGreat
