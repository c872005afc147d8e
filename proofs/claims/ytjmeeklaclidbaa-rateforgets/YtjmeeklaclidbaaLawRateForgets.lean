/- The walk of RateForgets: for rows that lie in memory and integers that fit int it returns true and makes at most new memory. -/
import Derived.Test.YtjmeeklaclidbaaRateK
namespace Go.Proofs.Ytjmeeklaclidbaa.LawRateForgets
open Go.ChangeShapes Go.WideShapes Go.ChangeAt Go.RowKit Go.Shelf
set_option linter.unusedVariables false
attribute [local go_sem ↓] Go.wp_at_zero Go.wp_at_succ

theorem takeL_live (now width limit : Int) (es : List Note) (x : Int) : takeL now width limit (live now width es) x = takeL now width limit es x := by unfold takeL; rw [live_live]
theorem cnt_live_add (now width x : Int) (ls : List Note) (e : Note) : cntN x (live now width (addL ls e)) ≤ cntN x ls + 1 := by
  have h1 : cntN x (live now width (addL ls e)) ≤ cntN x (addL ls e) := by
    unfold cntN live
    exact (List.Sublist.filter _ List.filter_sublist).length_le
  have h2 : cntN x (addL ls e) ≤ cntN x ls + 1 := by
    unfold addL
    rw [cntN_snoc]
    have h3 : cntN x (if 64 ≤ ls.length then ls.drop (ls.length - 64 + 1) else ls) ≤ cntN x ls := by
      split
      · unfold cntN; exact (List.Sublist.filter _ (List.drop_sublist _ _)).length_le
      · exact Nat.le_refl _
    generalize cntN x (if 64 ≤ ls.length then ls.drop (ls.length - 64 + 1) else ls) = c at h3 ⊢
    split <;> omega
  omega
theorem take_facts (now width limit : Int) (es : List Note) (x : Int) : ((takeL now width limit es x).2 = 17 ∨ ((takeL now width limit es x).2 ≠ 17 ∧ (cntN x (live now width (takeL now width limit es x).1) : Int) ≤ limit)) ∧ (takeL now width limit es x).1.length ≤ max es.length 64 := by
  refine ⟨?_, takeL_len now width limit es x⟩
  by_cases h1 : limit ≤ (cntN x (live now width es) : Int)
  · exact .inl (by rw [takeL_no h1])
  · have h2 := cnt_live_add now width x (live now width es) (noteOf x now)
    refine .inr ?_
    by_cases h3 : 64 ≤ (live now width es).length
    · rw [takeL_full h1 h3]; exact ⟨by simp, by simp only; omega⟩
    · rw [takeL_yes h1 h3]; exact ⟨by simp, by simp only; omega⟩
set_option maxHeartbeats 4000000 in
theorem walk (ad : Option Addr) (cap : Nat) (es : List Note) (now width limit x : Int) (W : World) (hl : es.length ≤ 9223372036854775807) (hE : Ents W.heap.size W (.slice ad es.length cap) es)
    (hnow : (Lit.int .i64 now).wf = true) (hwd : (Lit.int .i64 width).wf = true) (hlm : (Lit.int .i64 limit).wf = true) (hx0 : -9223372036854775808 ≤ x ∧ x ≤ 9223372036854775807) :
    Calls Try.prog 6 #[.agg #[.slice ad es.length cap, .int .i64 now, .int .i64 width, .int .i64 limit], .int .i64 x] W fun e w' => e = .returned (.bool true) ∧ Below W.heap.size W w' := by
  have hx := wf64' hx0
  have hlim := bd64 hlm
  have hB0' : Below W.heap.size W (W.alloc (.cells #[.slice ad es.length cap, .int .i64 now, .int .i64 width, .int .i64 limit] 24)) := ballc _ _
  go_enter Try.func6, Try.ntmps6
  go_wp2
  go_quiet (fail)
  have hB0 : Below W.heap.size W ((W.alloc (.cells #[.slice ad es.length cap, .int .i64 now, .int .i64 width, .int .i64 limit] 24)).drewN nq) := ⟨hB0'.os, hB0'.tape, hB0'.output, hB0'.size, hB0'.block⟩
  generalize ((W.alloc (.cells #[.slice ad es.length cap, .int .i64 now, .int .i64 width, .int .i64 limit] 24)).drewN nq) = W0 at hB0 ⊢
  clear hB0'
  have hE0 := hE.later hB0
  by_cases h100 : 100 < es.length
  · go_wp2_with (go_at_call 9; refine (known7_any _).mono ?_; rintro e w1 ⟨rfl, hb⟩)
    go_ret
    exact ⟨rfl, bthen hB0 hb⟩
  obtain ⟨hfacts, htl⟩ := take_facts now width limit es x
  have hll := live_le now width es
  have CT := fun V h => Take_own ad es.length cap x now width limit es hx (by omega) V h
  have CP := fun V h => rPurge_any ad es.length cap now width es (by omega) V h
  have CR := fun a c V h => Take_own a (live now width es).length c x now width limit (live now width es) hx (by omega) V h
  rw [takeL_live] at CR
  have CO := fun a l c V h => rOf_any a l c x now width (takeL now width limit es x).1 (by omega) V h
  generalize takeL now width limit es x = tk at *
  obtain ⟨tl, te⟩ := tk
  dsimp only at htl CT CR CO hfacts
  generalize live now width es = ls at *
  generalize cntN x (live now width tl) = cn at *
  go_wp2_with fail
  refine (CT _ hE0).mono ?_
  rintro r w1 ⟨v1, rfl, ho1, hb1⟩
  obtain ⟨a1, c1, rfl⟩ := own_slice ho1
  have hE1 := hE0.later hb1
  have hL1 := Ents.of_own ho1
  have hB1 := bthen hB0 hb1
  clear hE0 hb1 ho1 CT hB0
  go_wp2_with fail
  refine (CP _ hE1).mono ?_
  rintro r w2 ⟨a2, c2, rfl, hR2, hb2⟩
  have hL2 := hL1.later hb2
  have hB2 := bthen hB1 hb2
  clear hE1 hb2 hL1 hB1 CP
  go_wp2_with fail
  refine (CR _ _ _ hR2).mono ?_
  rintro r w3 ⟨v3, rfl, ho3, hb3⟩
  obtain ⟨a3, c3, rfl⟩ := own_slice ho3
  have hL3 := hL2.later hb3
  have hR3 := Ents.of_own ho3
  have hB3 := bthen hB2 hb3
  clear hb3 hL2 hR2 hB2 ho3 CR
  go_wp2_with fail
  refine (Same_any _ _ _ _ _ _ tl _ (by omega) hL3 hR3).mono ?_
  rintro r w4 ⟨rfl, hb4⟩
  have hL4 := hL3.later hb4
  have hB4 := bthen hB3 hb4
  clear hb4 hL3 hR3 hB3
  have hmx : (tl.length : Int) ≤ max (es.length : Int) 64 := by omega
  have hm1 : ¬ ((es.length : Int) < 64 ∧ (64 : Int) < tl.length) := by omega
  rcases hfacts with rfl | ⟨hne, hle⟩
  · go_wp2_with (go_at_call 9; refine (known7_any _).mono ?_; rintro e w6 ⟨rfl, hb6⟩)
    all_goals first | omega | (go_ret; exact ⟨rfl, bthen hB4 hb6⟩)
  · have q1 : (te == 17) = false := by simp [hne]
    go_wp2_with fail
    refine (CO _ _ _ _ hL4).mono ?_
    rintro r w5 ⟨rfl, hb5⟩
    have hB5 := bthen hB4 hb5
    go_wp2_with (go_at_call 9; refine (known7_any _).mono ?_; rintro e w6 ⟨rfl, hb6⟩)
    all_goals first | omega | (go_ret; exact ⟨rfl, bthen hB5 hb6⟩)
end Go.Proofs.Ytjmeeklaclidbaa.LawRateForgets
