/- The walk of the statement BoundClocks: the call returns true, and makes at most new memory; conditions: the table and the rows lie where they say, and their lengths fit int. -/
import Derived.Test.YtoemloggbljikabClockU
namespace Go.Proofs.Ytoemloggbljikab.LawBoundClocks
open Go.ChangeShapes Go.WideShapes Go.ChangeAt Go.RowKit
set_option linter.unusedVariables false
attribute [local go_sem] cell_rg

theorem mid_last {o sl b : Int} {zs : List Int} (hb : b < (zs.length : Int)) (sl1 : 1 ≤ sl) : midE o sl b ≤ lastE o sl zs := by
  unfold lastE midE
  have h : b * sl ≤ ((zs.length : Int) - 1) * sl := Int.mul_le_mul_of_nonneg_right (by omega) (by omega)
  omega
theorem clock_in {r dr : Int} (h : 0 ≤ dr) (h1 : 0 ≤ r - dr) (h2 : r + dr ≤ 128) (l : List Int) (t : Nat) (ht : t ≤ 1000) : 0 ≤ clockE r dr l t ∧ clockE r dr l t ≤ 128000 := by
  have b := clockE_bd (r := r) h l t
  obtain ⟨c0, c1⟩ := mul_bd (show 0 ≤ (t : Int) by omega) (show (t : Int) ≤ 1000 by omega) h1 (show r - dr ≤ 128 by omega)
  obtain ⟨e0, e1⟩ := mul_bd (show 0 ≤ (t : Int) by omega) (show (t : Int) ≤ 1000 by omega) (show 0 ≤ r + dr by omega) h2
  omega

/-- Where there is nothing to ask. -/
theorem none_asked (n f d p r dr o sl md fr : Int) (ad : Option Addr) (cap : Nat) (zs : List Int) (s : Int) (lad : Option Addr) (lcap : Nat) (ls : List Int) (kad : Option Addr) (kcap : Nat) (ks : List Int) (w : World) (hl : zs.length ≤ 9223372036854775807) (hT : Tab w ad zs) (h : ¬ (rightE n f d p r dr o sl md fr zs = 0 ∧ 0 ≤ s ∧ s < (zs.length : Int))) :
    Calls Try.prog 3 #[.agg #[.int .i64 n, .int .i64 f, .int .i64 d, .int .i64 p, .int .i64 r, .int .i64 dr, .int .i64 o, .int .i64 sl, .int .i64 md, .int .i64 fr, .slice ad zs.length cap], .int .i64 s, .slice lad ls.length lcap, .slice kad ks.length kcap] w fun e w' => e = .returned (.bool true) ∧ Below w.heap.size w w' := by
  have HP := hidden (BRight_any n f d p r dr o sl md fr ad cap zs (w.alloc (.cells #[.int .i64 n, .int .i64 f, .int .i64 d, .int .i64 p, .int .i64 r, .int .i64 dr, .int .i64 o, .int .i64 sl, .int .i64 md, .int .i64 fr, .slice ad zs.length cap] 24)) hl (hT.below (ballc _ _)))
  clear hT
  generalize rightE n f d p r dr o sl md fr zs = E at *
  by_cases hE : E = 0
  case neg =>
    clear h
    go_enter Try.func3, Try.ntmps3
    go_wp2_with fail
    refine HP.out.mono ?_
    rintro e w2 ⟨rfl, hb2⟩
    have HB2 := hidden hb2
    clear hb2
    obtain ⟨hbox, hsz⟩ := box_at HB2.out
    go_wp2_with fail
    refine (known4_any _).mono ?_
    rintro e w3 ⟨rfl, hb3⟩
    have HB3 := hidden (bthen HB2.out hb3)
    clear hb3
    go_wp2
    go_ret
    exact ⟨rfl, bthen (ballc w _) HB3.out⟩

  subst hE
  by_cases c0 : s < 0
  case pos =>
    clear h
    go_enter Try.func3, Try.ntmps3
    go_wp2_with fail
    refine HP.out.mono ?_
    rintro e w2 ⟨rfl, hb2⟩
    have HB2 := hidden hb2
    clear hb2
    obtain ⟨hbox, hsz⟩ := box_at HB2.out
    go_wp2_with fail
    refine (known4_any _).mono ?_
    rintro e w3 ⟨rfl, hb3⟩
    have HB3 := hidden (bthen HB2.out hb3)
    clear hb3
    go_wp2
    go_ret
    exact ⟨rfl, bthen (ballc w _) HB3.out⟩

  have c1 : (zs.length : Int) ≤ s := by omega
  clear h
  go_enter Try.func3, Try.ntmps3
  go_wp2_with fail
  refine HP.out.mono ?_
  rintro e w2 ⟨rfl, hb2⟩
  have HB2 := hidden hb2
  clear hb2
  obtain ⟨hbox, hsz⟩ := box_at HB2.out
  go_wp2_with fail
  refine (known4_any _).mono ?_
  rintro e w3 ⟨rfl, hb3⟩
  have HB3 := hidden (bthen HB2.out hb3)
  clear hb3
  go_wp2
  go_ret
  exact ⟨rfl, bthen (ballc w _) HB3.out⟩


set_option maxHeartbeats 4000000 in
theorem asked (n f d p r dr o sl md fr : Int) (ad : Option Addr) (cap : Nat) (zs : List Int) (s : Int) (lad : Option Addr) (lcap : Nat) (ls : List Int) (kad : Option Addr) (kcap : Nat) (ks : List Int) (w : World) (hl : zs.length ≤ 9223372036854775807) (hT : Tab w ad zs) (hll : ls.length ≤ 9223372036854775807) (hTl : Tab w lad ls) (hlk : ks.length ≤ 9223372036854775807) (hTk : Tab w kad ks)
    (hR : rightE n f d p r dr o sl md fr zs = 0) (s1 : 0 ≤ s) (s2 : s < (zs.length : Int)) :
    Calls Try.prog 3 #[.agg #[.int .i64 n, .int .i64 f, .int .i64 d, .int .i64 p, .int .i64 r, .int .i64 dr, .int .i64 o, .int .i64 sl, .int .i64 md, .int .i64 fr, .slice ad zs.length cap], .int .i64 s, .slice lad ls.length lcap, .slice kad ks.length kcap] w fun e w' => e = .returned (.bool true) ∧ Below w.heap.size w w' := by
  obtain ⟨hE, hF⟩ := rightE_ok hR
  have HT := hidden (hT.below (ballc w (.cells #[.int .i64 n, .int .i64 f, .int .i64 d, .int .i64 p, .int .i64 r, .int .i64 dr, .int .i64 o, .int .i64 sl, .int .i64 md, .int .i64 fr, .slice ad zs.length cap] 24)))
  have HTl := hidden (hTl.below (ballc w (.cells #[.int .i64 n, .int .i64 f, .int .i64 d, .int .i64 p, .int .i64 r, .int .i64 dr, .int .i64 o, .int .i64 sl, .int .i64 md, .int .i64 fr, .slice ad zs.length cap] 24)))
  have HTk := hidden (hTk.below (ballc w (.cells #[.int .i64 n, .int .i64 f, .int .i64 d, .int .i64 p, .int .i64 r, .int .i64 dr, .int .i64 o, .int .i64 sl, .int .i64 md, .int .i64 fr, .slice ad zs.length cap] 24)))
  have HP := hidden (BRight_any n f d p r dr o sl md fr ad cap zs (w.alloc (.cells #[.int .i64 n, .int .i64 f, .int .i64 d, .int .i64 p, .int .i64 r, .int .i64 dr, .int .i64 o, .int .i64 sl, .int .i64 md, .int .i64 fr, .slice ad zs.length cap] 24)) hl HT.out)
  rw [hR] at HP
  obtain ⟨F0, F1, F2⟩ := rightF_ok hF
  obtain ⟨M1, M2⟩ := lastE_bd hE
  obtain ⟨_, _, _, _, _, d1, d2, _, p2, r1, r2, dr1, dr2, o1, o2, sl1, sl2, _, _, _, _, z1, z2, _⟩ := plainE_ok hE
  have p1 := plainE_p hE
  obtain ⟨g1, g2⟩ := guardF_in d1 d2 r1 r2 dr1 dr2 M1 M2
  have g3 : r ≤ guardF d r dr (lastE o sl zs) := by
    have := guardF_bd d1 d2 r1 r2 dr1 dr2 M1 M2
    unfold guardF; omega
  have mM := mid_last (o := o) s2 sl1
  obtain ⟨A1, A2⟩ := midE_bd s1 (show s ≤ 31 by omega) o1 o2 sl1 sl2
  have HG := hidden (fun v h => BGuard_any n f d p r dr o sl md fr ad cap zs v hl h)
  have HM := hidden (fun v h => BMiddle_any n f d p r dr o sl md fr ad cap zs s v hl h)
  rw [hE, slotB_yes s1 s2] at HM
  rw [hE] at HG
  simp only [gate_ok, placeE_yes] at HG HM
  have HUl := hidden (fun (t : Nat) v (ht : t ≤ 1000) h => units_any n f d p r dr o sl md fr ad cap zs lad lcap ls t v r1 r2 dr1 dr2 ht hll h)
  have HUk := hidden (fun (t : Nat) v (ht : t ≤ 1000) h => units_any n f d p r dr o sl md fr ad cap zs kad kcap ks t v r1 r2 dr1 dr2 ht hlk h)
  obtain ⟨G, hGG⟩ : ∃ G, G = guardF d r dr (lastE o sl zs) := ⟨_, rfl⟩
  rw [← hGG] at HG F0 F1 g1 g2 g3
  have HX := hidden (fun (T : Nat) h3 h4 h5 => clocks_meet (p := p) (mine := ls) (other := ks) (T := T) d1 r1 dr1 dr2 A1 mM hGG F1 g3 h3 h4 h5)
  have HY := hidden (fun T hT => clocks_reach (p := p) (mine := ls) d1 r1 dr1 dr2 mM F1 g3 T hT)
  have HIl := hidden (fun t ht => clock_in dr1 (show 0 ≤ r - dr by omega) (show r + dr ≤ 128 by omega) ls t ht)
  have HIk := hidden (fun t ht => clock_in dr1 (show 0 ≤ r - dr by omega) (show r + dr ≤ 128 by omega) ks t ht)
  have HJl := hidden (fun t => unitE_bd (r := r) dr1 ls t)
  have HJk := hidden (fun t => unitE_bd (r := r) dr1 ks t)
  obtain ⟨u0, u1⟩ := mul_bd (show 0 ≤ d by omega) d2 (show 0 ≤ r by omega) r2
  clear hGG hE hF hR hT hTl hTk mM F0 F1 F2 M1 M2 g3
  generalize midE o sl s = m at *
  have n1 : ¬ s < 0 := by omega
  have n2 : ¬ (zs.length : Int) ≤ s := by omega
  have HNN := hidden (show (0 : Nat) ≤ 0 from Nat.le_refl _)
  go_enter Try.func3, Try.ntmps3
  go_wp2_with fail
  refine HP.out.mono ?_
  rintro e w2 ⟨rfl, hb2⟩
  have HB2 := hidden hb2
  clear hb2
  obtain ⟨hbox, hsz⟩ := box_at HB2.out

  go_wp2_with fail
  refine (HM.out _ (HT.out.below HB2.out)).mono ?_
  rintro e w3 ⟨rfl, hb3⟩
  have HB3 := hidden (bthen HB2.out hb3)
  clear hb3 hbox hsz HB2
  obtain ⟨hbox, hsz⟩ := box_at HB3.out
  go_wp2
  go_loopw [10, 11, 12] (fun av bv tv wl => ∃ T : Nat, (T : Int) ≤ p ∧ av = .int .i64 (clockE r dr ls T) ∧ bv = .int .i64 (clockE r dr ks T) ∧ tv = .int .i64 T ∧ (∀ t, t < T → clockE r dr ls t < m) ∧ Below (w.alloc (.cells #[.int .i64 n, .int .i64 f, .int .i64 d, .int .i64 p, .int .i64 r, .int .i64 dr, .int .i64 o, .int .i64 sl, .int .i64 md, .int .i64 fr, .slice ad zs.length cap] 24)).heap.size (w.alloc (.cells #[.int .i64 n, .int .i64 f, .int .i64 d, .int .i64 p, .int .i64 r, .int .i64 dr, .int .i64 o, .int .i64 sl, .int .i64 md, .int .i64 fr, .slice ad zs.length cap] 24)) wl) (fun _ _ tv _ => (p - intOf tv).toNat)
  case atStart => exact ⟨0, by omega, rfl, rfl, rfl, fun t ht => absurd ht (Nat.not_lt_zero _), HB3.out⟩
  case round =>
    obtain ⟨T, hTp, rfl, rfl, rfl, hbef, hbl⟩ := hrel
    have HBef := hidden hbef
    have HBl := hidden hbl
    clear hbef hbl hbox hsz
    obtain ⟨hbox, hsz⟩ := box_at HBl.out
    have hT1 : T ≤ 1000 := by omega
    obtain ⟨a0, a1⟩ := HIl.out T hT1
    obtain ⟨b0, b1⟩ := HIk.out T hT1
    obtain ⟨v0, v1⟩ := HJl.out T
    obtain ⟨x0, x1⟩ := HJk.out T
    have HSl : Hid (clockE r dr ls (T + 1) = clockE r dr ls T + unitE r dr ls T) := rfl
    have HSk : Hid (clockE r dr ks (T + 1) = clockE r dr ks T + unitE r dr ks T) := rfl
    have HQl := hidden (HUl.out T _ hT1 (HTl.out.below HBl.out))
    have HQk := hidden (fun v h => HUk.out T v hT1 h)
    by_cases c0 : clockE r dr ls T < m
    · have HBef1 : Hid (∀ t, t < T + 1 → clockE r dr ls t < m) := fun t ht => by
        by_cases e : t = T
        · subst e; exact c0
        · exact HBef.out t (by omega)
      have c1 : (T : Int) < p := by
        rcases (by omega : (T : Int) < p ∨ (T : Int) = p) with h | h
        · exact h
        · exact absurd (HY.out T h) (by omega)
      generalize clockE r dr ls T = A at *
      generalize clockE r dr ks T = B at *
      generalize unitE r dr ls T = U at *
      generalize unitE r dr ks T = V at *
      go_wp2_with fail
      refine HQl.out.mono ?_
      rintro e w4 ⟨rfl, hb4⟩
      have HB4 := hidden (bthen HBl.out hb4)
      clear hb4 hbox hsz
      obtain ⟨hbox, hsz⟩ := box_at HB4.out
      go_wp2_with fail
      refine (HQk.out _ (HTk.out.below HB4.out)).mono ?_
      rintro e w5 ⟨rfl, hb5⟩
      have HB5 := hidden (bthen HB4.out hb5)
      clear hb5 hbox hsz
      go_wp2
      go_roundw
      case rel => exact ⟨T + 1, by omega, by rw [HSl.out], by rw [HSk.out], by go_num, HBef1.out, HB5.out⟩
      case measure => simp [intOf]; omega
    · have hmA : m ≤ clockE r dr ls T := by omega
      obtain ⟨y0, y1, y2⟩ := HX.out T HBef.out hmA hTp
      have HY1 := hidden y1
      have HY2 := hidden y2
      clear y1 y2 HQl HQk HSl HSk HBef HX HY HUl HIl HJl v0 v1 x0 x1 b0 b1
      generalize clockE r dr ls T = A at *
      have c0' : decide (A < m) = false := decide_eq_false c0
      obtain ⟨D, rfl⟩ : ∃ D : Nat, d = (D : Int) := ⟨d.toNat, by omega⟩
      have eD : ((D : Int)).toNat = D := by omega
      rw [eD] at HY1 HY2
      clear eD
      go_wp2
      go_loopw [11, 12, 13] (fun bv tv iv wl => ∃ i : Nat, i ≤ D ∧ bv = .int .i64 (clockE r dr ks (T + i)) ∧ tv = .int .i64 ((T + i : Nat) : Int) ∧ iv = .int .i64 i ∧ Below (w.alloc (.cells #[.int .i64 n, .int .i64 f, .int .i64 (D : Int), .int .i64 p, .int .i64 r, .int .i64 dr, .int .i64 o, .int .i64 sl, .int .i64 md, .int .i64 fr, .slice ad zs.length cap] 24)).heap.size (w.alloc (.cells #[.int .i64 n, .int .i64 f, .int .i64 (D : Int), .int .i64 p, .int .i64 r, .int .i64 dr, .int .i64 o, .int .i64 sl, .int .i64 md, .int .i64 fr, .slice ad zs.length cap] 24)) wl) (fun _ _ iv _ => D - (intOf iv).toNat)
      case atStart => exact ⟨0, Nat.zero_le _, rfl, rfl, rfl, HBl.out⟩
      case round =>
        obtain ⟨i, hi, rfl, rfl, rfl, hbl2⟩ := hrel
        have HBm := hidden hbl2
        clear hbl2 hbox hsz
        obtain ⟨hbox, hsz⟩ := box_at HBm.out
        have hT2 : T + i ≤ 1000 := by omega
        obtain ⟨b0, b1⟩ := HIk.out (T + i) hT2
        obtain ⟨x0, x1⟩ := HJk.out (T + i)
        by_cases hiD : i < D
        · have HSk : Hid (clockE r dr ks (T + (i + 1)) = clockE r dr ks (T + i) + unitE r dr ks (T + i)) := rfl
          have HQk := hidden (HUk.out (T + i) _ hT2 (HTk.out.below HBm.out))
          generalize clockE r dr ks (T + i) = B at *
          generalize unitE r dr ks (T + i) = V at *
          generalize hti : T + i = ti at *
          have HTI := hidden hti
          clear hti
          go_wp2_with fail
          refine HQk.out.mono ?_
          rintro e w5 ⟨rfl, hb5⟩
          have HB5 := hidden (bthen HBm.out hb5)
          clear hb5 hbox hsz
          go_wp2
          go_roundw
          case rel => exact ⟨i + 1, by omega, by rw [HSk.out], by rw [show T + (i + 1) = ti + 1 by have := HTI.out; omega]; go_num, by go_num, HB5.out⟩
          case measure => simp [intOf]; omega
        · have hi' : i = D := by omega
          subst hi'
          have hy1 := HY1.out
          have hy2 := HY2.out
          clear HY1 HY2 HUk HIk HJk
          generalize clockE r dr ks (T + i) = B at *
          have y3 : B - m - (i : Int) * r ≤ G := by simpa using hy1
          have y4 : -G ≤ B - m - (i : Int) * r := by simpa using hy2
          clear hy1 hy2
          have y5 : ((T + i : Nat) : Int) < p := by omega
          generalize ((T + i : Nat) : Int) = tt at *
          go_wp2_with fail
          refine (HG.out _ (HT.out.below HBm.out)).mono ?_
          rintro e w5 ⟨rfl, hb5⟩
          have HB5 := hidden (bthen HBm.out hb5)
          clear hb5 hbox hsz
          obtain ⟨hbox, hsz⟩ := box_at HB5.out
          go_wp2_with fail
          refine (known4_any _).mono ?_
          rintro e w6 ⟨rfl, hb6⟩
          have HB6 := hidden (bthen HB5.out hb6)
          clear hb6 hbox hsz
          go_wp2
          go_ret
          exact ⟨rfl, bthen (ballc w _) HB6.out⟩
theorem walk (n f d p r dr o sl md fr : Int) (ad : Option Addr) (cap : Nat) (zs : List Int) (s : Int) (lad : Option Addr) (lcap : Nat) (ls : List Int) (kad : Option Addr) (kcap : Nat) (ks : List Int) (w : World) (hl : zs.length ≤ 9223372036854775807) (hT : Tab w ad zs) (hs : -9223372036854775808 ≤ s ∧ s ≤ 9223372036854775807) (hll : ls.length ≤ 9223372036854775807) (hTl : Tab w lad ls) (hwl : ∀ z ∈ ls, (Lit.int .i64 z).wf = true) (hlk : ks.length ≤ 9223372036854775807) (hTk : Tab w kad ks) (hwk : ∀ z ∈ ks, (Lit.int .i64 z).wf = true) :
    Calls Try.prog 3 #[.agg #[.int .i64 n, .int .i64 f, .int .i64 d, .int .i64 p, .int .i64 r, .int .i64 dr, .int .i64 o, .int .i64 sl, .int .i64 md, .int .i64 fr, .slice ad zs.length cap], .int .i64 s, .slice lad ls.length lcap, .slice kad ks.length kcap] w fun e w' => e = .returned (.bool true) ∧ Below w.heap.size w w' := by
  by_cases h : rightE n f d p r dr o sl md fr zs = 0 ∧ 0 ≤ s ∧ s < (zs.length : Int)
  · exact asked n f d p r dr o sl md fr ad cap zs s lad lcap ls kad kcap ks w hl hT hll hTl hlk hTk h.1 h.2.1 h.2.2
  · exact none_asked n f d p r dr o sl md fr ad cap zs s lad lcap ls kad kcap ks w hl hT h
end Go.Proofs.Ytoemloggbljikab.LawBoundClocks
