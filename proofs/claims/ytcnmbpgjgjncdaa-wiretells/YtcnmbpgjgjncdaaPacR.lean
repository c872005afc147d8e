/- The call Right of package packet returns what the plain function gives, and makes at most new memory; conditions: the table lies where it says, lengths fit int. -/
import Derived.Test.YtcnmbpgjgjncdaaPacA
import Derived.Test.YtcnmbpgjgjncdaaConfB
namespace Go.Proofs.Ytcnmbpgjgjncdaa
open Go.ChangeShapes Go.WideShapes Go.ChangeAt Go.RowKit
set_option linter.unusedVariables false

section
variable {E R B L M : Int} {vo : ByteArray} {ex : Int} {ve : ByteArray} {ps cy : Int} {te : ByteArray}
theorem pr_E (h : ¬ E = 0) : pRight E R B L M vo ex ve ps cy te = E := if_pos h
theorem pr_A (h : E = 0) (a : areD vo R = false) : pRight E R B L M vo ex ve ps cy te = 3 := (if_neg (not_not_intro h)).trans (if_pos a)
theorem pr_B (h : E = 0) (a : areD vo R = true) (b : ex < 0 ∨ R < ex ∨ (ex = 0 ∧ emp ve = false) ∨ (¬ ex = 0 ∧ areD ve B = false)) : pRight E R B L M vo ex ve ps cy te = 16 := (if_neg (not_not_intro h)).trans ((if_neg (by simp [a])).trans (if_pos b))
theorem pr_C (h : E = 0) (a : areD vo R = true) (b : ¬ (ex < 0 ∨ R < ex ∨ (ex = 0 ∧ emp ve = false) ∨ (¬ ex = 0 ∧ areD ve B = false))) (c : ps < 0 ∨ L < ps) : pRight E R B L M vo ex ve ps cy te = 11 := (if_neg (not_not_intro h)).trans ((if_neg (by simp [a])).trans ((if_neg b).trans (if_pos c)))
theorem pr_D (h : E = 0) (a : areD vo R = true) (b : ¬ (ex < 0 ∨ R < ex ∨ (ex = 0 ∧ emp ve = false) ∨ (¬ ex = 0 ∧ areD ve B = false))) (c : ¬ (ps < 0 ∨ L < ps)) (d : cy < 0 ∨ M ≤ cy ∨ (ps = 0 ∧ (¬ cy = 0 ∨ emp te = false))) : pRight E R B L M vo ex ve ps cy te = 2 := (if_neg (not_not_intro h)).trans ((if_neg (by simp [a])).trans ((if_neg b).trans ((if_neg c).trans (if_pos d))))
theorem pr_F (h : E = 0) (a : areD vo R = true) (b : ¬ (ex < 0 ∨ R < ex ∨ (ex = 0 ∧ emp ve = false) ∨ (¬ ex = 0 ∧ areD ve B = false))) (c : ¬ (ps < 0 ∨ L < ps)) (d : ¬ (cy < 0 ∨ M ≤ cy ∨ (ps = 0 ∧ (¬ cy = 0 ∨ emp te = false)))) (f : 16 < te.size) : pRight E R B L M vo ex ve ps cy te = 15 := (if_neg (not_not_intro h)).trans ((if_neg (by simp [a])).trans ((if_neg b).trans ((if_neg c).trans ((if_neg d).trans (if_pos f)))))
theorem pr_O (h : E = 0) (a : areD vo R = true) (b : ¬ (ex < 0 ∨ R < ex ∨ (ex = 0 ∧ emp ve = false) ∨ (¬ ex = 0 ∧ areD ve B = false))) (c : ¬ (ps < 0 ∨ L < ps)) (d : ¬ (cy < 0 ∨ M ≤ cy ∨ (ps = 0 ∧ (¬ cy = 0 ∨ emp te = false)))) (f : ¬ 16 < te.size) : pRight E R B L M vo ex ve ps cy te = 0 := (if_neg (not_not_intro h)).trans ((if_neg (by simp [a])).trans ((if_neg b).trans ((if_neg c).trans ((if_neg d).trans (if_neg f)))))
end
attribute [local go_sem] cell_rg
set_option maxHeartbeats 8000000 in
theorem Right_any (n f d p r dr o sl md fr : Int) (ad : Option Addr) (cap : Nat) (zs : List Int) (vo : ByteArray) (ex : Int) (ve : ByteArray) (ps cy : Int) (te : ByteArray) (w : World) (hl : zs.length ≤ 9223372036854775807) (hT : Tab w ad zs) (sv : vo.size ≤ 9223372036854775807) (se : ve.size ≤ 9223372036854775807) (st : te.size ≤ 9223372036854775807) :
    Calls Try.prog 23 #[.agg #[.int .i64 n, .int .i64 f, .int .i64 d, .int .i64 p, .int .i64 r, .int .i64 dr, .int .i64 o, .int .i64 sl, .int .i64 md, .int .i64 fr, .slice ad zs.length cap], .agg #[.string vo, .int .i64 ex, .string ve, .int .i64 ps, .int .i64 cy, .string te]] w fun e w' => e = .returned (.int .i64 (pRight (plainE n f d p r dr o sl md fr zs) (3 * (f + 1)) (8 + n) zs.length md vo ex ve ps cy te)) ∧ Below w.heap.size w w' := by
  have CP := fun V h => plain_any n f d p r dr o sl md fr ad cap zs V hl h
  have CR := fun V h => Rounds_any n f d p r dr o sl md fr ad cap zs V hl h
  have CB := fun V h => Bits_any n f d p r dr o sl md fr ad cap zs V hl h
  have HT := hidden (hT.below (bthen (ballc w (.cells #[.int .i64 n, .int .i64 f, .int .i64 d, .int .i64 p, .int .i64 r, .int .i64 dr, .int .i64 o, .int .i64 sl, .int .i64 md, .int .i64 fr, .slice ad zs.length cap] 24)) (ballc _ (.cells #[.string vo, .int .i64 ex, .string ve, .int .i64 ps, .int .i64 cy, .string te] 26))))
  have HW0 := hidden (bthen (ballc w (.cells #[.int .i64 n, .int .i64 f, .int .i64 d, .int .i64 p, .int .i64 r, .int .i64 dr, .int .i64 o, .int .i64 sl, .int .i64 md, .int .i64 fr, .slice ad zs.length cap] 24)) (ballc _ (.cells #[.string vo, .int .i64 ex, .string ve, .int .i64 ps, .int .i64 cy, .string te] 26)))
  clear hT
  go_enter Try.func23, Try.ntmps23
  go_wp2_with fail
  refine (CP _ HT.out).mono ?_
  rintro r w1 ⟨rfl, hb1⟩
  have HB1 := hidden hb1
  have HC1 := hidden (bthen HW0.out hb1)
  obtain ⟨g1, g2, g4, g3⟩ := box_two hb1
  clear hb1 CP
  by_cases hE : plainE n f d p r dr o sl md fr zs = 0
  · rw [hE]
    rw [hE] at CR CB
    simp only [gate_ok] at CR CB
    have HE := hidden hE
    clear hE
    go_wp2_with fail
    refine (CR _ (HT.out.below HB1.out)).mono ?_
    rintro r w2 ⟨rfl, hb2⟩
    have HB2 := hidden (bthen HB1.out hb2)
    have HC2 := hidden (bthen HC1.out hb2)
    clear hb2 g1 g2 g3 g4 HB1 HC1 CR
    obtain ⟨g1, g2, g4, g3⟩ := box_two HB2.out
    generalize hR : 3 * (f + 1) = R at *
    go_wp2_with fail
    refine (areDigits_any vo R _ sv).mono ?_
    rintro r w3 ⟨rfl, hb3⟩
    have HB3 := hidden (bthen HB2.out hb3)
    have HC3 := hidden (bthen HC2.out hb3)
    clear hb3 g1 g2 g3 g4 HB2 HC2
    obtain ⟨g1, g2, g4, g3⟩ := box_two HB3.out
    cases hA : areD vo R
    · go_wp2
      go_ret
      exact ⟨ret_i (by rw [pr_A HE.out (by rw [hR]; exact hA)]), HC3.out⟩
    · by_cases b1 : ex < 0
      · have u1 : decide (ex < 0) = true := by simp [b1]
        go_wp2
        go_ret
        exact ⟨ret_i (by first | exact (pr_B HE.out hA (.inl b1)).symm | (rw [hR]; exact (pr_B HE.out hA (.inl b1)).symm)), HC3.out⟩
      have u1 : decide (ex < 0) = false := by simp; omega
      by_cases b2 : R < ex
      · have u2 : decide (R < ex) = true := by simp [b2]
        go_wp2
        go_ret
        exact ⟨ret_i (by first | exact (pr_B HE.out hA (.inr (.inl b2))).symm | (rw [hR]; exact (pr_B HE.out hA (.inr (.inl b2))).symm)), HC3.out⟩
      have u2 : decide (R < ex) = false := by simp; omega
      by_cases b3 : ex = 0
      · have u3 : (ex == 0) = true := by simp [b3]
        have u5 : (ex != 0) = false := by simp [b3]
        cases hv : emp ve
        · have u4 : ve.toList.isEmpty = false := hv
          have HD := hidden (pr_B (R := R) (B := 8 + n) (L := (zs.length : Int)) (M := md) (ps := ps) (cy := cy) (te := te) HE.out hA (.inr (.inr (.inl ⟨b3, hv⟩))))
          clear b3
          go_wp2
          go_ret
          exact ⟨ret_i (by first | exact HD.out.symm | (rw [hR]; exact HD.out.symm)), HC3.out⟩
        · have u4 : ve.toList.isEmpty = true := hv
          have HBB : Hid (¬ (ex < 0 ∨ R < ex ∨ (ex = 0 ∧ emp ve = false) ∨ (¬ ex = 0 ∧ areD ve (8 + n) = false))) := fun h => by
            rcases h with h | h | ⟨_, h⟩ | ⟨h, _⟩
            · exact b1 h
            · exact b2 h
            · rw [hv] at h; cases h
            · exact h b3
          clear hv b3
          go_wp2
          refine wp_region_quiet_below (by kernel_rfl) (by kernel_rfl) ?_
          repeat (go_big_quiet_step (fail))
          refine wpQuiet_nil ?_
          intro w4 hw4
          have hb4 := rg_below hw4
          have HB4 := hidden (bthen HB3.out hb4)
          have HC4 := hidden (bthen HC3.out hb4)
          clear hw4 hb4 g1 g2 g3 g4 HB3 HC3
          obtain ⟨g1, g2, g4, g3⟩ := box_two HB4.out
          by_cases c1 : ps < 0
          · have q1 : decide (ps < 0) = true := by simp [c1]
            go_wp2
            go_ret
            exact ⟨ret_i (by first | exact (pr_C HE.out hA HBB.out (.inl c1)).symm | (rw [hR]; exact (pr_C HE.out hA HBB.out (.inl c1)).symm)), HC4.out⟩
          have q1 : decide (ps < 0) = false := by simp; omega
          by_cases c2 : (zs.length : Int) < ps
          · have q2 : decide ((zs.length : Int) < ps) = true := by simp [c2]
            go_wp2
            go_ret
            exact ⟨ret_i (by first | exact (pr_C HE.out hA HBB.out (.inr c2)).symm | (rw [hR]; exact (pr_C HE.out hA HBB.out (.inr c2)).symm)), HC4.out⟩
          have q2 : decide ((zs.length : Int) < ps) = false := by simp; omega
          have HQ : Hid (¬ (ps < 0 ∨ (zs.length : Int) < ps)) := fun h => h.elim c1 c2
          by_cases d1 : cy < 0
          · have q3 : decide (cy < 0) = true := by simp [d1]
            go_wp2
            go_ret
            exact ⟨ret_i (by first | exact (pr_D HE.out hA HBB.out HQ.out (.inl d1)).symm | (rw [hR]; exact (pr_D HE.out hA HBB.out HQ.out (.inl d1)).symm)), HC4.out⟩
          have q3 : decide (cy < 0) = false := by simp; omega
          by_cases d2 : md ≤ cy
          · have q4 : decide (md ≤ cy) = true := by simp [d2]
            go_wp2
            go_ret
            exact ⟨ret_i (by first | exact (pr_D HE.out hA HBB.out HQ.out (.inr (.inl d2))).symm | (rw [hR]; exact (pr_D HE.out hA HBB.out HQ.out (.inr (.inl d2))).symm)), HC4.out⟩
          have q4 : decide (md ≤ cy) = false := by simp; omega
          by_cases e1 : ps = 0
          · have q5 : (ps == 0) = true := by simp [e1]
            by_cases e2 : cy = 0
            · have q6 : (cy == 0) = true := by simp [e2]
              have q9 : (cy != 0) = false := by simp [e2]
              cases e3 : emp te
              · have q7 : te.toList.isEmpty = false := e3
                have HD := hidden (pr_D (R := R) (B := 8 + n) (L := (zs.length : Int)) (M := md) (cy := cy) (ps := ps) (te := te) HE.out hA HBB.out HQ.out (.inr (.inr ⟨e1, .inr e3⟩)))
                clear e1 e2
                go_wp2
                go_ret
                exact ⟨ret_i (by first | exact HD.out.symm | (rw [hR]; exact HD.out.symm)), HC4.out⟩
              · have q7 : te.toList.isEmpty = true := e3
                have HN : Hid (¬ (cy < 0 ∨ md ≤ cy ∨ (ps = 0 ∧ (¬ cy = 0 ∨ emp te = false)))) := fun h => by
                  rcases h with h | h | ⟨_, h | h⟩
                  · exact d1 h
                  · exact d2 h
                  · exact h e2
                  · rw [e3] at h; cases h
                by_cases f1 : 16 < te.size
                · have q8 : (16 : Int) < te.size := by omega
                  have HD := hidden (pr_F (R := R) (B := 8 + n) (L := (zs.length : Int)) (M := md) (cy := cy) (ps := ps) (te := te) HE.out hA HBB.out HQ.out HN.out f1)
                  clear HN
                  clear e1 e2
                  go_wp2
                  go_ret
                  exact ⟨ret_i (by first | exact HD.out.symm | (rw [hR]; exact HD.out.symm)), HC4.out⟩
                · have q8 : ¬ (16 : Int) < te.size := by omega
                  have HD := hidden (pr_O (R := R) (B := 8 + n) (L := (zs.length : Int)) (M := md) (cy := cy) (ps := ps) (te := te) HE.out hA HBB.out HQ.out HN.out f1)
                  clear HN
                  clear e1 e2
                  go_wp2
                  go_ret
                  exact ⟨ret_i (by first | exact HD.out.symm | (rw [hR]; exact HD.out.symm)), HC4.out⟩
            · have q6 : (cy == 0) = false := by simp [e2]
              have q9 : (cy != 0) = true := by simp [e2]
              have HD := hidden (pr_D (R := R) (B := 8 + n) (L := (zs.length : Int)) (M := md) (cy := cy) (ps := ps) (te := te) HE.out hA HBB.out HQ.out (.inr (.inr ⟨e1, .inl e2⟩)))
              clear e1
              go_wp2
              go_ret
              exact ⟨ret_i (by first | exact HD.out.symm | (rw [hR]; exact HD.out.symm)), HC4.out⟩
          · have q5 : (ps == 0) = false := by simp [e1]
            have HN : Hid (¬ (cy < 0 ∨ md ≤ cy ∨ (ps = 0 ∧ (¬ cy = 0 ∨ emp te = false)))) := fun h => by
              rcases h with h | h | ⟨h, _⟩
              · exact d1 h
              · exact d2 h
              · exact e1 h
            by_cases f1 : 16 < te.size
            · have q8 : (16 : Int) < te.size := by omega
              have HD := hidden (pr_F (R := R) (B := 8 + n) (L := (zs.length : Int)) (M := md) (cy := cy) (ps := ps) (te := te) HE.out hA HBB.out HQ.out HN.out f1)
              clear HN
              go_wp2
              go_ret
              exact ⟨ret_i (by first | exact HD.out.symm | (rw [hR]; exact HD.out.symm)), HC4.out⟩
            · have q8 : ¬ (16 : Int) < te.size := by omega
              have HD := hidden (pr_O (R := R) (B := 8 + n) (L := (zs.length : Int)) (M := md) (cy := cy) (ps := ps) (te := te) HE.out hA HBB.out HQ.out HN.out f1)
              clear HN
              go_wp2
              go_ret
              exact ⟨ret_i (by first | exact HD.out.symm | (rw [hR]; exact HD.out.symm)), HC4.out⟩
      · have u3 : (ex == 0) = false := by simp [b3]
        have u5 : (ex != 0) = true := by simp [b3]
        have CA := fun V => areDigits_any ve (8 + n) V se
        cases hD : areD ve (8 + n)
        · rw [hD] at CA
          go_wp2
          refine wp_region_quiet_below (by kernel_rfl) (by kernel_rfl) ?_
          repeat (go_big_quiet_step (first | (go_at_call 32; exact Calls.regrown_of (CB _ (HT.out.below (bthen HB3.out (below_regrown _ _ _))))) | (go_at_call 46; exact Calls.regrown_of (CA _))))
          refine wpQuiet_nil ?_
          intro w4 hw4
          have hb4 := rg_below hw4
          have HB4 := hidden (bthen HB3.out hb4)
          have HC4 := hidden (bthen HC3.out hb4)
          clear hw4 hb4 g1 g2 g3 g4 HB3 HC3
          obtain ⟨g1, g2, g4, g3⟩ := box_two HB4.out
          go_wp2
          go_ret
          exact ⟨ret_i (by first | exact (pr_B HE.out hA (.inr (.inr (.inr ⟨b3, hD⟩)))).symm | (rw [hR]; exact (pr_B HE.out hA (.inr (.inr (.inr ⟨b3, hD⟩)))).symm)), HC4.out⟩
        · rw [hD] at CA
          have HBB : Hid (¬ (ex < 0 ∨ R < ex ∨ (ex = 0 ∧ emp ve = false) ∨ (¬ ex = 0 ∧ areD ve (8 + n) = false))) := fun h => by
            rcases h with h | h | ⟨h, _⟩ | ⟨_, h⟩
            · exact b1 h
            · exact b2 h
            · exact b3 h
            · rw [hD] at h; cases h
          clear hD
          go_wp2
          refine wp_region_quiet_below (by kernel_rfl) (by kernel_rfl) ?_
          repeat (go_big_quiet_step (first | (go_at_call 32; exact Calls.regrown_of (CB _ (HT.out.below (bthen HB3.out (below_regrown _ _ _))))) | (go_at_call 46; exact Calls.regrown_of (CA _))))
          refine wpQuiet_nil ?_
          intro w4 hw4
          have hb4 := rg_below hw4
          have HB4 := hidden (bthen HB3.out hb4)
          have HC4 := hidden (bthen HC3.out hb4)
          clear hw4 hb4 g1 g2 g3 g4 HB3 HC3
          obtain ⟨g1, g2, g4, g3⟩ := box_two HB4.out
          by_cases c1 : ps < 0
          · have q1 : decide (ps < 0) = true := by simp [c1]
            go_wp2
            go_ret
            exact ⟨ret_i (by first | exact (pr_C HE.out hA HBB.out (.inl c1)).symm | (rw [hR]; exact (pr_C HE.out hA HBB.out (.inl c1)).symm)), HC4.out⟩
          have q1 : decide (ps < 0) = false := by simp; omega
          by_cases c2 : (zs.length : Int) < ps
          · have q2 : decide ((zs.length : Int) < ps) = true := by simp [c2]
            go_wp2
            go_ret
            exact ⟨ret_i (by first | exact (pr_C HE.out hA HBB.out (.inr c2)).symm | (rw [hR]; exact (pr_C HE.out hA HBB.out (.inr c2)).symm)), HC4.out⟩
          have q2 : decide ((zs.length : Int) < ps) = false := by simp; omega
          have HQ : Hid (¬ (ps < 0 ∨ (zs.length : Int) < ps)) := fun h => h.elim c1 c2
          by_cases d1 : cy < 0
          · have q3 : decide (cy < 0) = true := by simp [d1]
            go_wp2
            go_ret
            exact ⟨ret_i (by first | exact (pr_D HE.out hA HBB.out HQ.out (.inl d1)).symm | (rw [hR]; exact (pr_D HE.out hA HBB.out HQ.out (.inl d1)).symm)), HC4.out⟩
          have q3 : decide (cy < 0) = false := by simp; omega
          by_cases d2 : md ≤ cy
          · have q4 : decide (md ≤ cy) = true := by simp [d2]
            go_wp2
            go_ret
            exact ⟨ret_i (by first | exact (pr_D HE.out hA HBB.out HQ.out (.inr (.inl d2))).symm | (rw [hR]; exact (pr_D HE.out hA HBB.out HQ.out (.inr (.inl d2))).symm)), HC4.out⟩
          have q4 : decide (md ≤ cy) = false := by simp; omega
          by_cases e1 : ps = 0
          · have q5 : (ps == 0) = true := by simp [e1]
            by_cases e2 : cy = 0
            · have q6 : (cy == 0) = true := by simp [e2]
              have q9 : (cy != 0) = false := by simp [e2]
              cases e3 : emp te
              · have q7 : te.toList.isEmpty = false := e3
                have HD := hidden (pr_D (R := R) (B := 8 + n) (L := (zs.length : Int)) (M := md) (cy := cy) (ps := ps) (te := te) HE.out hA HBB.out HQ.out (.inr (.inr ⟨e1, .inr e3⟩)))
                clear e1 e2
                go_wp2
                go_ret
                exact ⟨ret_i (by first | exact HD.out.symm | (rw [hR]; exact HD.out.symm)), HC4.out⟩
              · have q7 : te.toList.isEmpty = true := e3
                have HN : Hid (¬ (cy < 0 ∨ md ≤ cy ∨ (ps = 0 ∧ (¬ cy = 0 ∨ emp te = false)))) := fun h => by
                  rcases h with h | h | ⟨_, h | h⟩
                  · exact d1 h
                  · exact d2 h
                  · exact h e2
                  · rw [e3] at h; cases h
                by_cases f1 : 16 < te.size
                · have q8 : (16 : Int) < te.size := by omega
                  have HD := hidden (pr_F (R := R) (B := 8 + n) (L := (zs.length : Int)) (M := md) (cy := cy) (ps := ps) (te := te) HE.out hA HBB.out HQ.out HN.out f1)
                  clear HN
                  clear e1 e2
                  go_wp2
                  go_ret
                  exact ⟨ret_i (by first | exact HD.out.symm | (rw [hR]; exact HD.out.symm)), HC4.out⟩
                · have q8 : ¬ (16 : Int) < te.size := by omega
                  have HD := hidden (pr_O (R := R) (B := 8 + n) (L := (zs.length : Int)) (M := md) (cy := cy) (ps := ps) (te := te) HE.out hA HBB.out HQ.out HN.out f1)
                  clear HN
                  clear e1 e2
                  go_wp2
                  go_ret
                  exact ⟨ret_i (by first | exact HD.out.symm | (rw [hR]; exact HD.out.symm)), HC4.out⟩
            · have q6 : (cy == 0) = false := by simp [e2]
              have q9 : (cy != 0) = true := by simp [e2]
              have HD := hidden (pr_D (R := R) (B := 8 + n) (L := (zs.length : Int)) (M := md) (cy := cy) (ps := ps) (te := te) HE.out hA HBB.out HQ.out (.inr (.inr ⟨e1, .inl e2⟩)))
              clear e1
              go_wp2
              go_ret
              exact ⟨ret_i (by first | exact HD.out.symm | (rw [hR]; exact HD.out.symm)), HC4.out⟩
          · have q5 : (ps == 0) = false := by simp [e1]
            have HN : Hid (¬ (cy < 0 ∨ md ≤ cy ∨ (ps = 0 ∧ (¬ cy = 0 ∨ emp te = false)))) := fun h => by
              rcases h with h | h | ⟨h, _⟩
              · exact d1 h
              · exact d2 h
              · exact e1 h
            by_cases f1 : 16 < te.size
            · have q8 : (16 : Int) < te.size := by omega
              have HD := hidden (pr_F (R := R) (B := 8 + n) (L := (zs.length : Int)) (M := md) (cy := cy) (ps := ps) (te := te) HE.out hA HBB.out HQ.out HN.out f1)
              clear HN
              go_wp2
              go_ret
              exact ⟨ret_i (by first | exact HD.out.symm | (rw [hR]; exact HD.out.symm)), HC4.out⟩
            · have q8 : ¬ (16 : Int) < te.size := by omega
              have HD := hidden (pr_O (R := R) (B := 8 + n) (L := (zs.length : Int)) (M := md) (cy := cy) (ps := ps) (te := te) HE.out hA HBB.out HQ.out HN.out f1)
              clear HN
              go_wp2
              go_ret
              exact ⟨ret_i (by first | exact HD.out.symm | (rw [hR]; exact HD.out.symm)), HC4.out⟩
  · have hE' := hE
    go_wp2
    go_ret
    exact ⟨ret_i (pr_E hE').symm, HC1.out⟩
end Go.Proofs.Ytcnmbpgjgjncdaa
