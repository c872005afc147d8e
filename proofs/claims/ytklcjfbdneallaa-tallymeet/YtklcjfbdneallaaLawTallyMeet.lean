/- The walk of the statement TallyMeet: the call returns true, and makes at most new memory; conditions: the table and the votes lie where they say, and lengths fit int. -/
import Derived.Test.YtklcjfbdneallaaTalK
import Derived.Test.YtklcjfbdneallaaTalS
namespace Go.Proofs.Ytklcjfbdneallaa.LawTallyMeet
open Go.ChangeShapes Go.WideShapes Go.ChangeAt Go.RowKit
set_option linter.unusedVariables false
attribute [local go_sem] cell_rg

/-- At how many of the first k places two rows differ. -/
def difN (xs bs : List Int) : Nat → Nat
  | 0 => 0
  | k + 1 => difN xs bs k + if xs.getD k 0 = bs.getD k 0 then 0 else 1
theorem difN_le (xs bs : List Int) (k : Nat) : difN xs bs k ≤ k := by
  induction k with
  | zero => exact Nat.le_refl _
  | succ k ih => unfold difN; split <;> omega
theorem cnt_near (v : Int) (xs bs : List Int) (k : Nat) (ha : k ≤ xs.length) (hb : k ≤ bs.length) : cntL v (xs.take k) ≤ cntL v (bs.take k) + difN xs bs k := by
  induction k with
  | zero => simp [cntL]
  | succ k ih =>
    have h := ih (by omega) (by omega)
    have h1 : k < xs.length := by omega
    have h2 : k < bs.length := by omega
    rw [take_snocV xs h1, take_snocV bs h2, cntL_snoc, cntL_snoc]
    have e1 : xs.getD k 0 = xs[k] := by simp [h1]
    have e2 : bs.getD k 0 = bs[k] := by simp [h2]
    unfold difN
    rw [e1, e2]
    generalize xs[k] = x
    generalize bs[k] = y
    repeat' split
    all_goals omega
theorem cnt_two (zs : List Int) : cntL 0 zs + cntL 1 zs ≤ zs.length := by
  unfold cntL
  induction zs with
  | nil => exact Nat.le_refl _
  | cons z zs ih =>
    rw [List.countP_cons, List.countP_cons, List.length_cons]
    by_cases h0 : z = 0
    · subst h0; simp; omega
    · by_cases h1 : z = 1
      · subst h1; simp; omega
      · simp [h0, h1]; omega
/-- Whether two rows of votes are near. -/
def nearB (E n f : Int) (xs bs : List Int) : Bool := decide (E = 0 ∧ (xs.length : Int) = n ∧ (bs.length : Int) = n ∧ (difN xs bs xs.length : Int) ≤ f)

set_option maxHeartbeats 2000000 in
theorem near_any (n f d p r dr o sl md fr : Int) (ad : Option Addr) (cap : Nat) (zs : List Int) (a1 : Option Addr) (c1 : Nat) (xs : List Int) (a2 : Option Addr) (c2 : Nat) (bs : List Int) (w : World) (hl : zs.length ≤ 9223372036854775807) (hT : Tab w ad zs) (hla : xs.length ≤ 9223372036854775807) (hA : kInt.Lies w.heap.size w (.slice a1 xs.length c1) xs) (hlb : bs.length ≤ 9223372036854775807) (hB : kInt.Lies w.heap.size w (.slice a2 bs.length c2) bs) :
    Calls Try.prog 22 #[.agg #[.int .i64 n, .int .i64 f, .int .i64 d, .int .i64 p, .int .i64 r, .int .i64 dr, .int .i64 o, .int .i64 sl, .int .i64 md, .int .i64 fr, .slice ad zs.length cap], .slice a1 xs.length c1, .slice a2 bs.length c2] w fun e w' => e = .returned (.bool (nearB (plainE n f d p r dr o sl md fr zs) n f xs bs)) ∧ Below w.heap.size w w' := by
  have HT := hidden (hT.below (ballc w (.cells #[.int .i64 n, .int .i64 f, .int .i64 d, .int .i64 p, .int .i64 r, .int .i64 dr, .int .i64 o, .int .i64 sl, .int .i64 md, .int .i64 fr, .slice ad zs.length cap] 24)))
  have HQ := hidden (fun V h => refPlain_any n f d p r dr o sl md fr ad cap zs V hl h)
  have HA := hidden (hA.later (ballc w (.cells #[.int .i64 n, .int .i64 f, .int .i64 d, .int .i64 p, .int .i64 r, .int .i64 dr, .int .i64 o, .int .i64 sl, .int .i64 md, .int .i64 fr, .slice ad zs.length cap] 24)))
  have HB := hidden (hB.later (ballc w (.cells #[.int .i64 n, .int .i64 f, .int .i64 d, .int .i64 p, .int .i64 r, .int .i64 dr, .int .i64 o, .int .i64 sl, .int .i64 md, .int .i64 fr, .slice ad zs.length cap] 24)))
  clear hT hA hB
  generalize plainE n f d p r dr o sl md fr zs = E at *
  by_cases hE : E = 0
  · subst hE
    by_cases h1 : (xs.length : Int) = n
    · by_cases h2 : (bs.length : Int) = n
      · have HN : Hid (nearB 0 n f xs bs = decide ((difN xs bs xs.length : Int) ≤ f)) := by
          show _ = _
          unfold nearB
          simp [h1, h2]
        rw [HN.out]
        subst h1
        have h2' : bs.length = xs.length := by omega
        rw [h2'] at HB ⊢
        have j1 : (((xs.length : Int) == (xs.length : Int))) = true := by simp
        go_enter Try.func22, Try.ntmps22
        go_wp2_with fail
        refine (HQ.out _ HT.out).mono ?_
        rintro e w2 ⟨rfl, hb2⟩
        have HB2 : Hid (Below w.heap.size w w2) := bthen (ballc w _) hb2
        have HA2 := hidden (HA.out.later hb2)
        have HC2 := hidden (HB.out.later hb2)
        obtain ⟨hbox, hsz⟩ := box_at hb2
        have d1 : ∀ k : Nat, k ≤ xs.length → (difN xs bs k : Int) ≤ 9223372036854775806 ∨ k = xs.length := fun k hk => by
          by_cases e : k = xs.length
          · exact .inr e
          · have := difN_le xs bs k; left; omega
        clear hb2 HQ HT HA HB HN h2
        go_wp2
        go_loopw [7, 8] (fun c i wr => ∃ k : Nat, k ≤ xs.length ∧ c = .int .i64 (difN xs bs k : Int) ∧ i = .int .i64 k ∧ Below w2.heap.size w2 wr) (fun _ i _ => xs.length - (intV i).toNat)
        case atStart => exact ⟨0, Nat.zero_le _, rfl, rfl, Below.refl _ _⟩
        case round =>
          obtain ⟨k, hk, rfl, rfl, hbr⟩ := hrel
          have HBR := hidden hbr
          have bx : ∀ i, wr.cell? ⟨w.heap.size, i, none⟩ = _ := fun i => (hbr.cell (p := ⟨w.heap.size, i, none⟩) hsz).trans (hbox i)
          have hsz2 : w.heap.size < wr.heap.size := Nat.lt_of_lt_of_le hsz hbr.size
          clear hbox
          by_cases hlt : k < xs.length
          · obtain ⟨b, off, rfl, hbl, e0⟩ := kInt_at HA2.out k hlt
            obtain ⟨bb, off2, rfl, hbl2, e1⟩ := kInt_at HC2.out k (by omega)
            have g1 : xs.getD k 0 = xs[k] := by simp [hlt]
            have g2 : bs.getD k 0 = bs[k]'(by omega) := by simp [show k < bs.length by omega]
            have HS : Hid (difN xs bs (k + 1) = difN xs bs k + if xs[k] = bs[k]'(by omega) then 0 else 1) := by
              show _ = _
              rw [← g1, ← g2]; rfl
            have d2 := difN_le xs bs k
            have e0' := (hbr.cell (p := ⟨b, off + k, none⟩) hbl).trans e0
            have e1' := (hbr.cell (p := ⟨bb, off2 + k, none⟩) hbl2).trans e1
            have hbl' : b < wr.heap.size := Nat.lt_of_lt_of_le hbl hbr.size
            have hbl2' : bb < wr.heap.size := Nat.lt_of_lt_of_le hbl2 hbr.size
            generalize xs[k] = x at e0' HS
            generalize bs[k]'(by omega) = y at e1' HS
            generalize difN xs bs k = c at *
            have i1 : (0 : Int) ≤ (k : Int) := by omega
            have i2 : (k : Int) < (xs.length : Int) := by omega
            clear g1 g2 d1 e0 e1 hbr
            by_cases hxy : x = y
            · subst hxy
              rw [if_pos rfl] at HS
              have j3 : (x == x) = true := by simp
              go_wp2
              refine wp_region_quiet_below (by kernel_rfl) (by kernel_rfl) ?_
              repeat (go_big_quiet_step (fail))
              refine wpQuiet_nil ?_
              intro w3 hw3
              have hb3 := rg_below hw3
              clear hw3
              go_wp2
              go_roundw
              case rel => exact ⟨k + 1, by omega, by rw [HS.out]; rfl, by go_num, bthen HBR.out hb3⟩
              case measure => simp [intV]; omega
            · rw [if_neg hxy] at HS
              have j3 : (x == y) = false := by simp [hxy]
              go_wp2
              refine wp_region_quiet_below (by kernel_rfl) (by kernel_rfl) ?_
              repeat (go_big_quiet_step (fail))
              refine wpQuiet_nil ?_
              intro w3 hw3
              have hb3 := rg_below hw3
              clear hw3
              go_wp2
              go_roundw
              case rel => exact ⟨k + 1, by omega, by rw [HS.out]; rfl, by go_num, bthen HBR.out hb3⟩
              case measure => simp [intV]; omega
          · obtain rfl : k = xs.length := by omega
            go_wp2
            go_ret
            exact ⟨rfl, bthen HB2.out HBR.out⟩
      · have HN : Hid (nearB 0 n f xs bs = false) := by
          show _ = _
          unfold nearB
          simp [h2]
        subst h1
        have j2 : ((bs.length : Int) == (xs.length : Int)) = false := by simp; omega
        have j3 : ¬ ((bs.length : Int) = (xs.length : Int)) := h2
        go_enter Try.func22, Try.ntmps22
        go_wp2_with fail
        refine (HQ.out _ HT.out).mono ?_
        rintro e w2 ⟨rfl, hb2⟩
        have HB2 : Hid (Below w.heap.size w w2) := bthen (ballc w _) hb2
        obtain ⟨hbox, hsz⟩ := box_at hb2
        clear hb2 HQ HT HA HB
        go_wp2
        go_ret
        exact ⟨ret_b HN.out.symm, HB2.out⟩
    · have HN : Hid (nearB 0 n f xs bs = false) := by
        show _ = _
        unfold nearB
        simp [h1]
      have j2 : ((xs.length : Int) == n) = false := by simp; omega
      go_enter Try.func22, Try.ntmps22
      go_wp2_with fail
      refine (HQ.out _ HT.out).mono ?_
      rintro e w2 ⟨rfl, hb2⟩
      have HB2 : Hid (Below w.heap.size w w2) := bthen (ballc w _) hb2
      obtain ⟨hbox, hsz⟩ := box_at hb2
      clear hb2 HQ HT HA HB
      go_wp2
      go_ret
      exact ⟨ret_b HN.out.symm, HB2.out⟩
  · have HN : Hid (nearB E n f xs bs = false) := by
      show _ = _
      unfold nearB
      simp [hE]
    have j2 : (E == 0) = false := by simp [hE]
    go_enter Try.func22, Try.ntmps22
    go_wp2_with fail
    refine (HQ.out _ HT.out).mono ?_
    rintro e w2 ⟨rfl, hb2⟩
    have HB2 : Hid (Below w.heap.size w w2) := bthen (ballc w _) hb2
    clear hb2 HQ HT HA HB
    go_wp2
    go_ret
    exact ⟨ret_b HN.out.symm, HB2.out⟩

theorem meet {n f : Int} {xs bs : List Int} (h1 : (xs.length : Int) = n) (h2 : (bs.length : Int) = n) (h3 : (difN xs bs xs.length : Int) ≤ f) (h4 : 3 * f + 1 ≤ n) (h5 : 0 ≤ f) :
    ((mostF 0 n f xs = mostF 0 n f bs) ∨ mostF 0 n f xs = 2 ∨ mostF 0 n f bs = 2) ∧ ∀ v, n - f ≤ cntF v xs → f + 1 ≤ cntF v bs := by
  have hc := fun v => cnt_near v xs bs xs.length (Nat.le_refl _) (by omega)
  have e2 : bs.take xs.length = bs := List.take_of_length_le (by omega)
  rw [List.take_length, e2] at hc
  have c0 := hc 0
  have c1 := hc 1
  have t1 := cnt_two xs
  have t2 := cnt_two bs
  constructor
  · by_cases a1 : n - f ≤ (cntL 1 xs : Int)
    · rw [mostF_1 rfl a1]
      by_cases b1 : n - f ≤ (cntL 1 bs : Int)
      · rw [mostF_1 rfl b1]; exact .inl rfl
      · by_cases b0 : n - f ≤ (cntL 0 bs : Int)
        · exfalso; omega
        · rw [mostF_2 rfl b1 b0]; exact .inr (.inr rfl)
    · by_cases a0 : n - f ≤ (cntL 0 xs : Int)
      · rw [mostF_0 rfl a1 a0]
        by_cases b1 : n - f ≤ (cntL 1 bs : Int)
        · exfalso; omega
        · by_cases b0 : n - f ≤ (cntL 0 bs : Int)
          · rw [mostF_0 rfl b1 b0]; exact .inl rfl
          · rw [mostF_2 rfl b1 b0]; exact .inr (.inr rfl)
      · rw [mostF_2 rfl a1 a0]; exact .inr (.inl rfl)
  · intro v hv
    have := hc v
    unfold cntF at *
    split at hv
    · rename_i h; rw [if_pos h]; omega
    · omega

set_option maxHeartbeats 2000000 in
theorem walk (n f d p r dr o sl md fr : Int) (ad : Option Addr) (cap : Nat) (zs : List Int) (a1 : Option Addr) (c1 : Nat) (xs : List Int) (a2 : Option Addr) (c2 : Nat) (bs : List Int) (v : Int) (w : World) (hl : zs.length ≤ 9223372036854775807) (hT : Tab w ad zs) (hla : xs.length ≤ 9223372036854775807) (hA : kInt.Lies w.heap.size w (.slice a1 xs.length c1) xs) (hlb : bs.length ≤ 9223372036854775807) (hB : kInt.Lies w.heap.size w (.slice a2 bs.length c2) bs) (_ : -9223372036854775808 ≤ v ∧ v ≤ 9223372036854775807) :
    Calls Try.prog 4 #[.agg #[.int .i64 n, .int .i64 f, .int .i64 d, .int .i64 p, .int .i64 r, .int .i64 dr, .int .i64 o, .int .i64 sl, .int .i64 md, .int .i64 fr, .slice ad zs.length cap], .slice a1 xs.length c1, .slice a2 bs.length c2, .int .i64 v] w fun e w' => e = .returned (.bool true) ∧ Below w.heap.size w w' := by
  have HT := hidden (hT.below (ballc w (.cells #[.int .i64 n, .int .i64 f, .int .i64 d, .int .i64 p, .int .i64 r, .int .i64 dr, .int .i64 o, .int .i64 sl, .int .i64 md, .int .i64 fr, .slice ad zs.length cap] 24)))
  have HA := hidden (hA.later (ballc w (.cells #[.int .i64 n, .int .i64 f, .int .i64 d, .int .i64 p, .int .i64 r, .int .i64 dr, .int .i64 o, .int .i64 sl, .int .i64 md, .int .i64 fr, .slice ad zs.length cap] 24)))
  have HB := hidden (hB.later (ballc w (.cells #[.int .i64 n, .int .i64 f, .int .i64 d, .int .i64 p, .int .i64 r, .int .i64 dr, .int .i64 o, .int .i64 sl, .int .i64 md, .int .i64 fr, .slice ad zs.length cap] 24)))
  have N1 := hidden (fun V h h2 h3 => near_any n f d p r dr o sl md fr ad cap zs a1 c1 xs a2 c2 bs V hl h hla h2 hlb h3)
  have S1 := hidden (fun V h => Some_any n f d p r dr o sl md fr ad cap zs V hl h)
  have K1 := hidden (fun V h => Count_any v a2 bs.length c2 bs hlb V h)
  have E1 := hidden (fun V h h2 => Enough_any n f d p r dr o sl md fr ad cap zs v a1 xs.length c1 xs V hl h hla h2)
  have M1 := hidden (fun V h h2 => Most_any n f d p r dr o sl md fr ad cap zs a1 xs.length c1 xs V hl h hla h2)
  have M2 := hidden (fun V h h2 => Most_any n f d p r dr o sl md fr ad cap zs a2 bs.length c2 bs V hl h hlb h2)
  have HK := hidden (fun h => plainE_ok (n := n) (f := f) (d := d) (p := p) (r := r) (dr := dr) (o := o) (sl := sl) (md := md) (fr := fr) (zs := zs) h)
  clear hT hA hB
  generalize plainE n f d p r dr o sl md fr zs = E at *
  cases hN : nearB E n f xs bs
  · rw [hN] at N1
    go_enter Try.func4, Try.ntmps4
    go_wp2_with fail
    refine (N1.out _ HT.out HA.out HB.out).mono ?_
    rintro e w2 ⟨rfl, hb2⟩
    have HB2 : Hid (Below w.heap.size w w2) := bthen (ballc w _) hb2
    clear hb2
    go_wp2_with (go_at_call 9; refine (known13_any _).mono ?_; rintro e w1 ⟨rfl, hb⟩)
    go_ret
    exact ⟨rfl, bthen HB2.out hb⟩
  rw [hN] at N1
  obtain ⟨hE, h1, h2, h3⟩ := of_decide_eq_true hN
  obtain ⟨n1, n2, f1, f2, n3, _⟩ := HK.out hE
  subst hE
  obtain ⟨hm, hv⟩ := meet h1 h2 h3 (by omega) f1
  have HV := hidden (hv v)
  have HM := hidden hm
  have HE := hidden (enoughB_ok (E := 0) rfl n f v xs)
  rw [HE.out] at E1
  rw [gate_ok] at S1
  clear hm hv h1 h2 h3 hN HE
  generalize mostF 0 n f xs = m1 at *
  generalize mostF 0 n f bs = m2 at *
  generalize cntF v xs = k1 at *
  generalize cntF v bs = k2 at *
  go_enter Try.func4, Try.ntmps4
  go_wp2_with fail
  refine (N1.out _ HT.out HA.out HB.out).mono ?_
  rintro e w2 ⟨rfl, hb2⟩
  have HB2 : Hid (Below w.heap.size w w2) := bthen (ballc w _) hb2
  have HT2 := hidden (HT.out.below hb2)
  have HA2 := hidden (HA.out.later hb2)
  have HC2 := hidden (HB.out.later hb2)
  obtain ⟨hbox, hsz⟩ := box_at hb2
  have HX2 := hidden hb2
  clear hb2 N1
  go_wp2
  refine wp_region_quiet_below (by kernel_rfl) (by kernel_rfl) ?_
  repeat (go_big_quiet_step (fail))
  go_big_quiet_step ((go_at_call 18; exact Calls.regrown_of (M1.out _ (HT2.out.below (below_regrown _ _ _)) (HA2.out.later (below_regrown _ _ _)))))
  repeat (go_big_quiet_step (fail))
  go_big_quiet_step ((go_at_call 18; exact Calls.regrown_of (M2.out _ (HT2.out.below (below_regrown _ _ _)) (HC2.out.later (below_regrown _ _ _)))))
  repeat (go_big_quiet_step (fail))
  refine wpQuiet_nil ?_
  intro w4 hw4
  have hb4 := rg_below hw4
  clear hw4
  have HX4 := hidden (bthen HX2.out hb4)
  have HC4 := hidden (HC2.out.later hb4)
  have HA4 := hidden (HA2.out.later hb4)
  have HT4 := hidden (HT.out.below HX4.out)
  have HB4 := hidden (bthen (ballc w _) HX4.out)
  clear hb4 hbox hsz
  obtain ⟨hbox, hsz⟩ := box_at HX4.out
  clear M1 M2 HA HB HA2 HC2 HT2 HX2 HB2 HX4 HT
  have t1 : IntKind.i64.wrap (f + 1) = f + 1 := IntWalk.i64_in _ (by omega)
  have hq : (decide (n - f ≤ k1) = false) ∨ (decide (n - f ≤ k1) = true ∧ decide (f + 1 ≤ k2) = true ∧ f + 1 ≤ k2) := by
    by_cases h : n - f ≤ k1
    · exact .inr ⟨decide_eq_true h, decide_eq_true (HV.out h), HV.out h⟩
    · exact .inl (decide_eq_false h)
  generalize decide (n - f ≤ k1) = en at *
  clear HV
  rcases hq with rfl | ⟨rfl, q1, q2⟩
  all_goals
    rcases HM.out with h | h | h
    all_goals
      subst h
      try (have j0 : (m1 == m1) = true := by simp)
      go_wp2
      all_goals
        refine wp_region_quiet_below (by kernel_rfl) (by kernel_rfl) ?_
        repeat (go_big_quiet_step (first
          | (go_at_call 16; exact Calls.regrown_of (E1.out _ (HT4.out.below (below_regrown _ _ _)) (HA4.out.later (below_regrown _ _ _))))
          | (go_at_call 14; exact Calls.regrown_of (K1.out _ (HC4.out.later (below_regrown _ _ _))))
          | (go_at_call 12; exact Calls.regrown_of (S1.out _ (HT4.out.below (below_regrown _ _ _))))
          | (go_at_call 9; exact Calls.regrown_of (known13_any _))))
        refine wpQuiet_nil ?_
        intro w5 hw5
        have hb5 := rg_below hw5
        clear hw5
        go_wp2
        go_ret
        exact ⟨rfl, bthen HB4.out hb5⟩
end Go.Proofs.Ytklcjfbdneallaa.LawTallyMeet
