/- The calls Quorum, Some, Enough, Most and Least of package tally return what plain functions give, and make at most new memory; conditions: the table and the votes lie where they say, and lengths fit int. -/
import Derived.Test.YtohgmliafidalaaTalA
import Derived.Test.YtohgmliafidalaaConfF
namespace Go.Proofs.Ytohgmliafidalaa
open Go.ChangeShapes Go.WideShapes Go.ChangeAt Go.RowKit
set_option linter.unusedVariables false
attribute [local go_sem] idx3_0 idx3_1 idx3_2

theorem Quorum_any (n f d p r dr o sl md fr : Int) (ad : Option Addr) (cap : Nat) (zs : List Int) (w : World) (hl : zs.length ≤ 9223372036854775807) (hT : Tab w ad zs) :
    Calls Try.prog 150 #[.agg #[.int .i64 n, .int .i64 f, .int .i64 d, .int .i64 p, .int .i64 r, .int .i64 dr, .int .i64 o, .int .i64 sl, .int .i64 md, .int .i64 fr, .slice ad zs.length cap]] w fun e w' => e = .returned (.int .i64 (gate (plainE n f d p r dr o sl md fr zs) (n - f))) ∧ Below w.heap.size w w' := by
  have HQ := hidden (plain_any n f d p r dr o sl md fr ad cap zs (w.alloc (.cells #[.int .i64 n, .int .i64 f, .int .i64 d, .int .i64 p, .int .i64 r, .int .i64 dr, .int .i64 o, .int .i64 sl, .int .i64 md, .int .i64 fr, .slice ad zs.length cap] 24)) hl (hT.below (ballc _ _)))
  have HK := hidden (fun h => plainE_ok (n := n) (f := f) (d := d) (p := p) (r := r) (dr := dr) (o := o) (sl := sl) (md := md) (fr := fr) (zs := zs) h)
  clear hT
  generalize plainE n f d p r dr o sl md fr zs = E at HQ HK
  by_cases hE : E = 0
  · subst hE
    obtain ⟨n1, n2, f1, f2, _⟩ := HK.out rfl
    go_enter Try.func150, Try.ntmps150
    go_wp2_with fail
    refine HQ.out.mono ?_
    rintro e w2 ⟨rfl, hb2⟩
    have HB2 : Hid (Below w.heap.size w w2) := bthen (ballc w _) hb2
    obtain ⟨hbox, hsz⟩ := box_at hb2
    clear hb2 HQ HK
    go_wp2
    go_ret
    exact ⟨ret_i (gate_ok _).symm, HB2.out⟩
  · go_enter Try.func150, Try.ntmps150
    go_wp2_with fail
    refine HQ.out.mono ?_
    rintro e w2 ⟨rfl, hb2⟩
    have HB2 : Hid (Below w.heap.size w w2) := bthen (ballc w _) hb2
    clear hb2 HQ HK
    go_wp2
    go_ret
    exact ⟨ret_i (gate_no hE _).symm, HB2.out⟩
theorem Some_any (n f d p r dr o sl md fr : Int) (ad : Option Addr) (cap : Nat) (zs : List Int) (w : World) (hl : zs.length ≤ 9223372036854775807) (hT : Tab w ad zs) :
    Calls Try.prog 152 #[.agg #[.int .i64 n, .int .i64 f, .int .i64 d, .int .i64 p, .int .i64 r, .int .i64 dr, .int .i64 o, .int .i64 sl, .int .i64 md, .int .i64 fr, .slice ad zs.length cap]] w fun e w' => e = .returned (.int .i64 (gate (plainE n f d p r dr o sl md fr zs) (f + 1))) ∧ Below w.heap.size w w' := by
  have HQ := hidden (plain_any n f d p r dr o sl md fr ad cap zs (w.alloc (.cells #[.int .i64 n, .int .i64 f, .int .i64 d, .int .i64 p, .int .i64 r, .int .i64 dr, .int .i64 o, .int .i64 sl, .int .i64 md, .int .i64 fr, .slice ad zs.length cap] 24)) hl (hT.below (ballc _ _)))
  have HK := hidden (fun h => plainE_ok (n := n) (f := f) (d := d) (p := p) (r := r) (dr := dr) (o := o) (sl := sl) (md := md) (fr := fr) (zs := zs) h)
  clear hT
  generalize plainE n f d p r dr o sl md fr zs = E at HQ HK
  by_cases hE : E = 0
  · subst hE
    obtain ⟨n1, n2, f1, f2, _⟩ := HK.out rfl
    go_enter Try.func152, Try.ntmps152
    go_wp2_with fail
    refine HQ.out.mono ?_
    rintro e w2 ⟨rfl, hb2⟩
    have HB2 : Hid (Below w.heap.size w w2) := bthen (ballc w _) hb2
    obtain ⟨hbox, hsz⟩ := box_at hb2
    clear hb2 HQ HK
    go_wp2
    go_ret
    exact ⟨ret_i (gate_ok _).symm, HB2.out⟩
  · go_enter Try.func152, Try.ntmps152
    go_wp2_with fail
    refine HQ.out.mono ?_
    rintro e w2 ⟨rfl, hb2⟩
    have HB2 : Hid (Below w.heap.size w w2) := bthen (ballc w _) hb2
    clear hb2 HQ HK
    go_wp2
    go_ret
    exact ⟨ret_i (gate_no hE _).symm, HB2.out⟩

theorem Enough_any (n f d p r dr o sl md fr : Int) (ad : Option Addr) (cap : Nat) (zs : List Int) (v : Int) (a2 : Option Addr) (len c2 : Nat) (vs : List Int) (w : World) (hl : zs.length ≤ 9223372036854775807) (hT : Tab w ad zs) (hlv : vs.length ≤ 9223372036854775807) (hV : kInt.Lies w.heap.size w (.slice a2 len c2) vs) :
    Calls Try.prog 143 #[.agg #[.int .i64 n, .int .i64 f, .int .i64 d, .int .i64 p, .int .i64 r, .int .i64 dr, .int .i64 o, .int .i64 sl, .int .i64 md, .int .i64 fr, .slice ad zs.length cap], .int .i64 v, .slice a2 len c2] w fun e w' => e = .returned (.bool (enoughB (plainE n f d p r dr o sl md fr zs) n f v vs)) ∧ Below w.heap.size w w' := by
  have HQ := hidden (Quorum_any n f d p r dr o sl md fr ad cap zs (w.alloc (.cells #[.int .i64 n, .int .i64 f, .int .i64 d, .int .i64 p, .int .i64 r, .int .i64 dr, .int .i64 o, .int .i64 sl, .int .i64 md, .int .i64 fr, .slice ad zs.length cap] 24)) hl (hT.below (ballc _ _)))
  have HK := hidden (fun h => plainE_ok (n := n) (f := f) (d := d) (p := p) (r := r) (dr := dr) (o := o) (sl := sl) (md := md) (fr := fr) (zs := zs) h)
  have HV := hidden (hV.later (ballc w (.cells #[.int .i64 n, .int .i64 f, .int .i64 d, .int .i64 p, .int .i64 r, .int .i64 dr, .int .i64 o, .int .i64 sl, .int .i64 md, .int .i64 fr, .slice ad zs.length cap] 24)))
  clear hT hV
  generalize plainE n f d p r dr o sl md fr zs = E at HQ HK
  by_cases hE : E = 0
  · obtain ⟨n1, n2, f1, f2, n3, _⟩ := HK.out hE
    subst hE
    rw [gate_ok] at HQ
    have HE := hidden (enoughB_ok (E := 0) rfl n f v vs)
    have hq : 0 < n - f := by omega
    generalize n - f = q at *
    have C2 := fun V h => TCount_any v a2 len c2 vs hlv V h
    generalize cntF v vs = c at *
    have iq : decide (0 < q) = true := by simp [hq]
    by_cases hc : q ≤ c
    · rw [decide_eq_true hc] at HE
      have ic : decide (q ≤ c) = true := by simp [hc]
      go_enter Try.func143, Try.ntmps143
      go_wp2_with fail
      refine HQ.out.mono ?_
      rintro e w2 ⟨rfl, hb2⟩
      have HV2 := hidden (HV.out.later hb2)
      have HB2 : Hid (Below w.heap.size w w2) := bthen (ballc w _) hb2
      clear hb2 HQ HK HV
      go_wp2_with fail
      refine (C2 _ HV2.out).mono ?_
      rintro e w3 ⟨rfl, hb3⟩
      have HB3 := hidden (bthen HB2.out hb3)
      clear hb3 C2 HB2
      go_wp2
      go_ret
      exact ⟨ret_b HE.out.symm, HB3.out⟩
    · rw [decide_eq_false hc] at HE
      have ic : decide (q ≤ c) = false := by simp; omega
      go_enter Try.func143, Try.ntmps143
      go_wp2_with fail
      refine HQ.out.mono ?_
      rintro e w2 ⟨rfl, hb2⟩
      have HV2 := hidden (HV.out.later hb2)
      have HB2 : Hid (Below w.heap.size w w2) := bthen (ballc w _) hb2
      clear hb2 HQ HK HV
      go_wp2_with fail
      refine (C2 _ HV2.out).mono ?_
      rintro e w3 ⟨rfl, hb3⟩
      have HB3 := hidden (bthen HB2.out hb3)
      clear hb3 C2 HB2
      go_wp2
      go_ret
      exact ⟨ret_b HE.out.symm, HB3.out⟩
  · rw [gate_no hE] at HQ
    have HE := hidden (enoughB_no hE n f v vs)
    clear hE HK
    go_enter Try.func143, Try.ntmps143
    go_wp2_with fail
    refine HQ.out.mono ?_
    rintro e w2 ⟨rfl, hb2⟩
    have HB2 : Hid (Below w.heap.size w w2) := bthen (ballc w _) hb2
    clear hb2 HQ
    go_wp2
    go_ret
    exact ⟨ret_b HE.out.symm, HB2.out⟩

set_option maxHeartbeats 2000000 in
theorem Most_any (n f d p r dr o sl md fr : Int) (ad : Option Addr) (cap : Nat) (zs : List Int) (a2 : Option Addr) (len c2 : Nat) (vs : List Int) (w : World) (hl : zs.length ≤ 9223372036854775807) (hT : Tab w ad zs) (hlv : vs.length ≤ 9223372036854775807) (hV : kInt.Lies w.heap.size w (.slice a2 len c2) vs) :
    Calls Try.prog 141 #[.agg #[.int .i64 n, .int .i64 f, .int .i64 d, .int .i64 p, .int .i64 r, .int .i64 dr, .int .i64 o, .int .i64 sl, .int .i64 md, .int .i64 fr, .slice ad zs.length cap], .slice a2 len c2] w fun e w' => e = .returned (.int .i64 (mostF (plainE n f d p r dr o sl md fr zs) n f vs)) ∧ Below w.heap.size w w' := by
  have HQ := hidden (Quorum_any n f d p r dr o sl md fr ad cap zs (w.alloc (.cells #[.int .i64 n, .int .i64 f, .int .i64 d, .int .i64 p, .int .i64 r, .int .i64 dr, .int .i64 o, .int .i64 sl, .int .i64 md, .int .i64 fr, .slice ad zs.length cap] 24)) hl (hT.below (ballc _ _)))
  have HK := hidden (fun h => plainE_ok (n := n) (f := f) (d := d) (p := p) (r := r) (dr := dr) (o := o) (sl := sl) (md := md) (fr := fr) (zs := zs) h)
  have HV := hidden (hV.later (ballc w (.cells #[.int .i64 n, .int .i64 f, .int .i64 d, .int .i64 p, .int .i64 r, .int .i64 dr, .int .i64 o, .int .i64 sl, .int .i64 md, .int .i64 fr, .slice ad zs.length cap] 24)))
  have C2 := fun V h => counted_any a2 len c2 vs hlv V h
  clear hT hV
  generalize plainE n f d p r dr o sl md fr zs = E at HQ HK
  by_cases hE : E = 0
  · obtain ⟨n1, n2, f1, f2, n3, _⟩ := HK.out hE
    subst hE
    rw [gate_ok] at HQ
    have hq : 0 < n - f := by omega
    have m1 := fun h => mostF_1 (E := 0) rfl (n := n) (f := f) (zs := vs) h
    have m0 := fun h => mostF_0 (E := 0) rfl (n := n) (f := f) (zs := vs) h
    have m2 := fun h => mostF_2 (E := 0) rfl (n := n) (f := f) (zs := vs) h
    generalize mostF 0 n f vs = M at *
    generalize n - f = q at *
    generalize cntL 0 vs = k0 at *
    generalize cntL 1 vs = k1 at *
    generalize cntL 2 vs = k2 at *
    have iq : (q == 0) = false := by simp; omega
    by_cases h1 : q ≤ (k1 : Int)
    · have HM := hidden (m1 h1)
      clear m0 m1 m2
      go_enter Try.func141, Try.ntmps141
      go_wp2_with fail
      refine HQ.out.mono ?_
      rintro e w2 ⟨rfl, hb2⟩
      have HV2 := hidden (HV.out.later hb2)
      have HB2 : Hid (Below w.heap.size w w2) := bthen (ballc w _) hb2
      clear hb2 HQ HK HV
      go_wp2_with fail
      refine (C2 _ HV2.out).mono ?_
      rintro e w3 ⟨rfl, hb3⟩
      have HB3 := hidden (bthen HB2.out hb3)
      clear hb3 C2 HB2
      go_wp2
      go_ret
      exact ⟨ret_i HM.out.symm, bthen HB3.out (ballc _ _)⟩
    · by_cases h0 : q ≤ (k0 : Int)
      · have HM := hidden (m0 h1 h0)
        clear m0 m1 m2
        go_enter Try.func141, Try.ntmps141
        go_wp2_with fail
        refine HQ.out.mono ?_
        rintro e w2 ⟨rfl, hb2⟩
        have HV2 := hidden (HV.out.later hb2)
        have HB2 : Hid (Below w.heap.size w w2) := bthen (ballc w _) hb2
        clear hb2 HQ HK HV
        go_wp2_with fail
        refine (C2 _ HV2.out).mono ?_
        rintro e w3 ⟨rfl, hb3⟩
        have HB3 := hidden (bthen HB2.out hb3)
        clear hb3 C2 HB2
        go_wp2
        go_ret
        exact ⟨ret_i HM.out.symm, bthen HB3.out (ballc _ _)⟩
      · have HM := hidden (m2 h1 h0)
        clear m0 m1 m2
        go_enter Try.func141, Try.ntmps141
        go_wp2_with fail
        refine HQ.out.mono ?_
        rintro e w2 ⟨rfl, hb2⟩
        have HV2 := hidden (HV.out.later hb2)
        have HB2 : Hid (Below w.heap.size w w2) := bthen (ballc w _) hb2
        clear hb2 HQ HK HV
        go_wp2_with fail
        refine (C2 _ HV2.out).mono ?_
        rintro e w3 ⟨rfl, hb3⟩
        have HB3 := hidden (bthen HB2.out hb3)
        clear hb3 C2 HB2
        go_wp2
        go_ret
        exact ⟨ret_i HM.out.symm, bthen HB3.out (ballc _ _)⟩
  · rw [gate_no hE] at HQ
    have HE := hidden (mostF_no hE n f vs)
    clear hE HK
    go_enter Try.func141, Try.ntmps141
    go_wp2_with fail
    refine HQ.out.mono ?_
    rintro e w2 ⟨rfl, hb2⟩
    have HV2 := hidden (HV.out.later hb2)
    have HB2 : Hid (Below w.heap.size w w2) := bthen (ballc w _) hb2
    clear hb2 HQ HV
    go_wp2_with fail
    refine (C2 _ HV2.out).mono ?_
    rintro e w3 ⟨rfl, hb3⟩
    have HB3 := hidden (bthen HB2.out hb3)
    clear hb3 C2 HB2
    go_wp2
    go_ret
    exact ⟨ret_i HE.out.symm, bthen HB3.out (ballc _ _)⟩
set_option maxHeartbeats 4000000 in
theorem Least_any (n f d p r dr o sl md fr : Int) (ad : Option Addr) (cap : Nat) (zs : List Int) (now : Int) (a2 : Option Addr) (len c2 : Nat) (vs : List Int) (w : World) (hl : zs.length ≤ 9223372036854775807) (hT : Tab w ad zs) (hlv : vs.length ≤ 9223372036854775807) (hV : kInt.Lies w.heap.size w (.slice a2 len c2) vs) :
    Calls Try.prog 142 #[.agg #[.int .i64 n, .int .i64 f, .int .i64 d, .int .i64 p, .int .i64 r, .int .i64 dr, .int .i64 o, .int .i64 sl, .int .i64 md, .int .i64 fr, .slice ad zs.length cap], .int .i64 now, .slice a2 len c2] w fun e w' => e = .returned (.int .i64 (leastF (plainE n f d p r dr o sl md fr zs) f now vs)) ∧ Below w.heap.size w w' := by
  have HQ := hidden (Some_any n f d p r dr o sl md fr ad cap zs (w.alloc (.cells #[.int .i64 n, .int .i64 f, .int .i64 d, .int .i64 p, .int .i64 r, .int .i64 dr, .int .i64 o, .int .i64 sl, .int .i64 md, .int .i64 fr, .slice ad zs.length cap] 24)) hl (hT.below (ballc _ _)))
  have HK := hidden (fun h => plainE_ok (n := n) (f := f) (d := d) (p := p) (r := r) (dr := dr) (o := o) (sl := sl) (md := md) (fr := fr) (zs := zs) h)
  have HV := hidden (hV.later (ballc w (.cells #[.int .i64 n, .int .i64 f, .int .i64 d, .int .i64 p, .int .i64 r, .int .i64 dr, .int .i64 o, .int .i64 sl, .int .i64 md, .int .i64 fr, .slice ad zs.length cap] 24)))
  have C2 := fun V h => counted_any a2 len c2 vs hlv V h
  clear hT hV
  generalize plainE n f d p r dr o sl md fr zs = E at HQ HK
  by_cases hE : E = 0
  · obtain ⟨n1, n2, f1, f2, n3, _⟩ := HK.out hE
    subst hE
    rw [gate_ok] at HQ
    have hq : 0 < f + 1 := by omega
    have m0 := fun h => leastF_0 (E := 0) rfl (f := f) (now := now) (zs := vs) h
    have m1 := fun h => leastF_1 (E := 0) rfl (f := f) (now := now) (zs := vs) h
    have m2 := fun h => leastF_2 (E := 0) rfl (f := f) (now := now) (zs := vs) h
    have m3 := fun h => leastF_n (E := 0) rfl (f := f) (now := now) (zs := vs) h
    generalize leastF 0 f now vs = M at *
    generalize f + 1 = q at *
    generalize cntL 0 vs = k0 at *
    generalize cntL 1 vs = k1 at *
    generalize cntL 2 vs = k2 at *
    have iq : (q == 0) = false := by simp; omega
    by_cases h0 : q ≤ (k0 : Int)
    · have HM := hidden (m0 h0)
      clear m0 m1 m2 m3
      go_enter Try.func142, Try.ntmps142
      go_wp2_with fail
      refine HQ.out.mono ?_
      rintro e w2 ⟨rfl, hb2⟩
      have HV2 := hidden (HV.out.later hb2)
      have HB2 : Hid (Below w.heap.size w w2) := bthen (ballc w _) hb2
      clear hb2 HQ HK HV
      go_wp2_with fail
      refine (C2 _ HV2.out).mono ?_
      rintro e w3 ⟨rfl, hb3⟩
      have HB3 := hidden (bthen HB2.out hb3)
      clear hb3 C2 HB2
      go_wp2
      refine wp_loop_rounds 4 ?_
      rw [rounds_succ]
      go_wp2
      go_ret
      first | exact ⟨ret_i HM.out.symm, HB3.out⟩ | exact ⟨ret_i HM.out.symm, bthen HB3.out (ballc _ _)⟩
    · by_cases h1 : q ≤ (k1 : Int)
      · have HM := hidden (m1 h0 h1)
        clear m0 m1 m2 m3
        go_enter Try.func142, Try.ntmps142
        go_wp2_with fail
        refine HQ.out.mono ?_
        rintro e w2 ⟨rfl, hb2⟩
        have HV2 := hidden (HV.out.later hb2)
        have HB2 : Hid (Below w.heap.size w w2) := bthen (ballc w _) hb2
        clear hb2 HQ HK HV
        go_wp2_with fail
        refine (C2 _ HV2.out).mono ?_
        rintro e w3 ⟨rfl, hb3⟩
        have HB3 := hidden (bthen HB2.out hb3)
        clear hb3 C2 HB2
        go_wp2
        refine wp_loop_rounds 4 ?_
        rw [rounds_succ]
        go_wp2
        rw [rounds_succ]
        go_wp2
        go_ret
        first | exact ⟨ret_i HM.out.symm, HB3.out⟩ | exact ⟨ret_i HM.out.symm, bthen HB3.out (ballc _ _)⟩
      · by_cases h2 : q ≤ (k2 : Int)
        · have HM := hidden (m2 h0 h1 h2)
          clear m0 m1 m2 m3
          go_enter Try.func142, Try.ntmps142
          go_wp2_with fail
          refine HQ.out.mono ?_
          rintro e w2 ⟨rfl, hb2⟩
          have HV2 := hidden (HV.out.later hb2)
          have HB2 : Hid (Below w.heap.size w w2) := bthen (ballc w _) hb2
          clear hb2 HQ HK HV
          go_wp2_with fail
          refine (C2 _ HV2.out).mono ?_
          rintro e w3 ⟨rfl, hb3⟩
          have HB3 := hidden (bthen HB2.out hb3)
          clear hb3 C2 HB2
          go_wp2
          refine wp_loop_rounds 4 ?_
          rw [rounds_succ]
          go_wp2
          rw [rounds_succ]
          go_wp2
          rw [rounds_succ]
          go_wp2
          go_ret
          first | exact ⟨ret_i HM.out.symm, HB3.out⟩ | exact ⟨ret_i HM.out.symm, bthen HB3.out (ballc _ _)⟩
        · have HM := hidden (m3 h0 h1 h2)
          clear m0 m1 m2 m3
          go_enter Try.func142, Try.ntmps142
          go_wp2_with fail
          refine HQ.out.mono ?_
          rintro e w2 ⟨rfl, hb2⟩
          have HV2 := hidden (HV.out.later hb2)
          have HB2 : Hid (Below w.heap.size w w2) := bthen (ballc w _) hb2
          clear hb2 HQ HK HV
          go_wp2_with fail
          refine (C2 _ HV2.out).mono ?_
          rintro e w3 ⟨rfl, hb3⟩
          have HB3 := hidden (bthen HB2.out hb3)
          clear hb3 C2 HB2
          go_wp2
          refine wp_loop_rounds 4 ?_
          rw [rounds_succ]
          go_wp2
          rw [rounds_succ]
          go_wp2
          rw [rounds_succ]
          go_wp2
          rw [rounds_succ]
          go_wp2
          go_ret
          first | exact ⟨ret_i HM.out.symm, HB3.out⟩ | exact ⟨ret_i HM.out.symm, bthen HB3.out (ballc _ _)⟩
  · rw [gate_no hE] at HQ
    have HE := hidden (leastF_no hE f now vs)
    clear hE HK
    go_enter Try.func142, Try.ntmps142
    go_wp2_with fail
    refine HQ.out.mono ?_
    rintro e w2 ⟨rfl, hb2⟩
    have HB2 : Hid (Below w.heap.size w w2) := bthen (ballc w _) hb2
    clear hb2 HQ HV
    go_wp2
    go_ret
    exact ⟨ret_i HE.out.symm, HB2.out⟩
end Go.Proofs.Ytohgmliafidalaa
