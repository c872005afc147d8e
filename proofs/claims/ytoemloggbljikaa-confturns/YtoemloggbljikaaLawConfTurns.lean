/- The walk of the statement ConfTurns: the call returns true, and makes at most new memory; conditions: the table lies where it says, and its length fits int. -/
import Derived.Test.YtoemloggbljikaaTurnM
import Derived.Deep.RegionLaw
namespace Go.Proofs.Ytoemloggbljikaa.LawConfTurns
open Go.ChangeShapes Go.WideShapes Go.ChangeAt Go.RowKit
set_option linter.unusedVariables false
attribute [local go_sem] cell_rg
attribute [local go_sem ↓] Go.wp_at_zero Go.wp_at_succ
theorem info3 : (Try.prog.info? 3).map (fun i => (i.zero, i.size, i.bytes)) = some (some (.int .i64 0), 1, 8) := by kernel_rfl

theorem turn_start (n f d p r dr o sl md fr : Int) (ad : Option Addr) (cap : Nat) (zs : List Int) (w : World) : TurnS w.heap.size 3 #[.int .i64 n, .int .i64 f, .int .i64 d, .int .i64 p, .int .i64 r, .int .i64 dr, .int .i64 o, .int .i64 sl, .int .i64 md, .int .i64 fr, .slice ad zs.length cap] (w.alloc (.cells #[.int .i64 n, .int .i64 f, .int .i64 d, .int .i64 p, .int .i64 r, .int .i64 dr, .int .i64 o, .int .i64 sl, .int .i64 md, .int .i64 fr, .slice ad zs.length cap] 24)) ((w.alloc (.cells #[.int .i64 n, .int .i64 f, .int .i64 d, .int .i64 p, .int .i64 r, .int .i64 dr, .int .i64 o, .int .i64 sl, .int .i64 md, .int .i64 fr, .slice ad zs.length cap] 24)).alloc (.cells #[.int .i64 n, .int .i64 f, .int .i64 d, .int .i64 p, .int .i64 r, .int .i64 dr, .int .i64 o, .int .i64 sl, .int .i64 md, .int .i64 fr, .slice none 0 0] 24)) (.slice none 0 0) 0 [] := by
  have e : (w.alloc (.cells #[.int .i64 n, .int .i64 f, .int .i64 d, .int .i64 p, .int .i64 r, .int .i64 dr, .int .i64 o, .int .i64 sl, .int .i64 md, .int .i64 fr, .slice ad zs.length cap] 24)).heap.size = w.heap.size + 1 := by simp
  have c := fun i => World.cell?_alloc_mark (w.alloc (.cells #[.int .i64 n, .int .i64 f, .int .i64 d, .int .i64 p, .int .i64 r, .int .i64 dr, .int .i64 o, .int .i64 sl, .int .i64 md, .int .i64 fr, .slice ad zs.length cap] 24)) #[.int .i64 n, .int .i64 f, .int .i64 d, .int .i64 p, .int .i64 r, .int .i64 dr, .int .i64 o, .int .i64 sl, .int .i64 md, .int .i64 fr, .slice none 0 0] 24 (0, 0) i
  rw [e] at c
  have fz := Joins.unfrozen_of_block (heap_alloc_new (w.alloc (.cells #[.int .i64 n, .int .i64 f, .int .i64 d, .int .i64 p, .int .i64 r, .int .i64 dr, .int .i64 o, .int .i64 sl, .int .i64 md, .int .i64 fr, .slice ad zs.length cap] 24)) (.cells #[.int .i64 n, .int .i64 f, .int .i64 d, .int .i64 p, .int .i64 r, .int .i64 dr, .int .i64 o, .int .i64 sl, .int .i64 md, .int .i64 fr, .slice none 0 0] 24)) 10
  rw [e] at fz
  have b := ballc (w.alloc (.cells #[.int .i64 n, .int .i64 f, .int .i64 d, .int .i64 p, .int .i64 r, .int .i64 dr, .int .i64 o, .int .i64 sl, .int .i64 md, .int .i64 fr, .slice ad zs.length cap] 24)) (.cells #[.int .i64 n, .int .i64 f, .int .i64 d, .int .i64 p, .int .i64 r, .int .i64 dr, .int .i64 o, .int .i64 sl, .int .i64 md, .int .i64 fr, .slice none 0 0] 24)
  rw [e] at b
  refine ⟨World.ownsRow_nil _ _ _ _, fun j hj => ?_, by rw [c]; rfl, fz, by simp, b⟩
  rw [c]
  have hj' : j = 0 ∨ j = 1 ∨ j = 2 ∨ j = 3 ∨ j = 4 ∨ j = 5 ∨ j = 6 ∨ j = 7 ∨ j = 8 ∨ j = 9 := by omega
  rcases hj' with rfl | rfl | rfl | rfl | rfl | rfl | rfl | rfl | rfl | rfl <;> rfl

theorem many (n f d p r dr o sl md fr : Int) (ad : Option Addr) (cap : Nat) (zs : List Int) (s : Int) (w : World) (h40 : 40 < zs.length) (hl : zs.length ≤ 9223372036854775807) :
    Calls Try.prog 5 #[.agg #[.int .i64 n, .int .i64 f, .int .i64 d, .int .i64 p, .int .i64 r, .int .i64 dr, .int .i64 o, .int .i64 sl, .int .i64 md, .int .i64 fr, .slice ad zs.length cap], .int .i64 s] w fun e w' => e = .returned (.bool true) ∧ Below w.heap.size w w' := by
  go_enter Try.func5, Try.ntmps5
  go_wp2_with fail
  refine (known3_any _).mono ?_
  rintro e w3 ⟨rfl, hb3⟩
  have HB3 := hidden hb3
  clear hb3
  go_wp2
  go_ret
  exact ⟨rfl, bthen (ballc w _) HB3.out⟩

set_option maxRecDepth 100000 in
set_option maxHeartbeats 4000000 in
theorem few (n f d p r dr o sl md fr : Int) (ad : Option Addr) (cap : Nat) (zs : List Int) (s : Int) (w : World) (h40 : zs.length ≤ 40) (hT : Tab w ad zs) :
    Calls Try.prog 5 #[.agg #[.int .i64 n, .int .i64 f, .int .i64 d, .int .i64 p, .int .i64 r, .int .i64 dr, .int .i64 o, .int .i64 sl, .int .i64 md, .int .i64 fr, .slice ad zs.length cap], .int .i64 s] w fun e w' => e = .returned (.bool true) ∧ Below w.heap.size w w' := by
  have HT : Hid (Tab (w.alloc (.cells #[.int .i64 n, .int .i64 f, .int .i64 d, .int .i64 p, .int .i64 r, .int .i64 dr, .int .i64 o, .int .i64 sl, .int .i64 md, .int .i64 fr, .slice ad zs.length cap] 24)) ad zs) := hT.below (ballc _ _)
  have HS0 := hidden (turn_start n f d p r dr o sl md fr ad cap zs w)
  obtain ⟨i0, hi0, hz0, hz1, hz2⟩ := info_parts info3
  clear hT
  go_enter Try.func5, Try.ntmps5
  go_wp2
  go_loopw [6] (fun i wr => ∃ (m : Nat) (v : Value), m ≤ zs.length ∧ i = .int .i64 ((m : Int) - 1) ∧ TurnS w.heap.size 3 #[.int .i64 n, .int .i64 f, .int .i64 d, .int .i64 p, .int .i64 r, .int .i64 dr, .int .i64 o, .int .i64 sl, .int .i64 md, .int .i64 fr, .slice ad zs.length cap] (w.alloc (.cells #[.int .i64 n, .int .i64 f, .int .i64 d, .int .i64 p, .int .i64 r, .int .i64 dr, .int .i64 o, .int .i64 sl, .int .i64 md, .int .i64 fr, .slice ad zs.length cap] 24)) wr v (zs.length - m) (intVals (zs.reverse.take (zs.length - m)))) (fun i _ => (intOf i + 1).toNat)
  case atStart => exact ⟨zs.length, _, Nat.le_refl _, rfl, by rw [Nat.sub_self]; exact HS0.out⟩
  case round =>
    obtain ⟨m, v, hm, rfl, hS⟩ := hrel
    clear HS0
    have hbox : ∀ i, wr.cell? ⟨w.heap.size, i, none⟩ = #[.int .i64 n, .int .i64 f, .int .i64 d, .int .i64 p, .int .i64 r, .int .i64 dr, .int .i64 o, .int .i64 sl, .int .i64 md, .int .i64 fr, .slice ad zs.length cap][i]? := fun i => by
      rw [hS.bel.cell (by simp)]; exact World.cell?_alloc_mark _ _ _ _ i
    have HTr : Hid (Tab wr ad zs) := HT.out.below (by simpa using hS.bel)
    have HS := hidden hS
    have hct := hS.ct
    have hfz := hS.fz
    have hlt := hS.lt
    have hown := hS.own
    clear hS
    by_cases hm0 : 0 < m
    · obtain ⟨j, rfl⟩ : ∃ j, m = j + 1 := ⟨m - 1, by omega⟩
      have e : ((j + 1 : Nat) : Int) - 1 = (j : Int) := by omega
      rw [e]
      have hal0 : ∀ a, ad = some a → (a.add j).block < w.heap.size + 1 := fun a ha => by
        obtain ⟨a', ha', _, h⟩ := HT.out.lies j (by omega)
        rw [ha] at ha'
        cases ha'
        simpa using h
      obtain ⟨a, rfl, hc, hal⟩ := HTr.out.lies j (by omega)
      have hal1 := hal0 a rfl
      clear hal0
      have HZ := hidden (rev_take_succ (zs := zs) j (by omega))
      generalize zs.getD j 0 = z at hc HZ
      have j0 : (0 : Int) ≤ (j : Int) := by omega
      have j1 : (j : Int) < (zs.length : Int) := by omega
      have hbox10 := hbox 10
      simp at hbox10
      have hk : zs.length - (j + 1) ≤ 40 := by omega
      generalize hkk : zs.length - (j + 1) = k at *
      have HKK := hidden hkk
      clear hkk
      go_wp2_with fail
      have hne1 := ownBlock_ne (b := w.heap.size + 1) hown (by omega)
      have hnw : ∀ ob, Below wr.heap.size wr ((wr.alloc ob).drew) := fun ob => (ballc wr ob).drew
      go_region_law ((refine step_append_lies _ (by rfl) _ _ _ (by rfl) (w.heap.size + 2) 3 i0 _ 1 8 Try.underlying22 hi0 hz0 hz1 hz2 rfl (by omega) _ k _ (by rfl) ((hown.alloc _).drew) ⟨wr.heap.size, 0, none⟩ 1 1 [.int .i64 z] (by rfl) (by rfl) (World.news_of_block (cs := #[.int .i64 z]) (t := 3) (fr := (0, 0)) (heap_alloc_new wr _)) (by simp [Value.oneCell']) (by omega) (by unfold maxLen; omega) (by omega) (by simp; omega) (wr.heap.size + 1) (by simp) ?_; intro g cap3 w3 hown1 hgrow hat hlt1; have hc3 : w3.cell? ⟨w.heap.size + 1, 10, none⟩ = some v := (by rw [hgrow.cell_far _ (by simp; omega) hne1, (hnw _).cell hlt]; exact hct); have hf3 : w3.frozen? ⟨w.heap.size + 1, 10, none⟩ = false := (by rw [hgrow.frozen_far _ (by simp; omega) hne1, (hnw _).frozen hlt]; exact hfz)))
      all_goals
        have R1 := hidden (HS.out.step (hnw _) hgrow hown1)
        clear hown1 hgrow hat hlt1 hnw hne1 hc3 hf3 hown hct hfz hbox hbox10
        go_wp2
        go_roundw
        case rel =>
          refine ⟨j, .slice (some ⟨g, 0, none⟩) (k + 1) cap3, by omega, by go_num, ?_⟩
          have e1 : zs.length - j = k + 1 := by have := HKK.out; omega
          have e2 : intVals (zs.reverse.take (k + 1)) = intVals (zs.reverse.take k) ++ [.int .i64 z] := by
            have h := HZ.out
            rw [e1] at h
            rw [h]; simp [intVals]
          rw [e1, e2]
          exact R1.out
        case measure => simp [intOf]
    · have hm' : m = 0 := by omega
      subst hm'
      have HS1 : Hid (TurnS w.heap.size 3 #[.int .i64 n, .int .i64 f, .int .i64 d, .int .i64 p, .int .i64 r, .int .i64 dr, .int .i64 o, .int .i64 sl, .int .i64 md, .int .i64 fr, .slice ad zs.length cap] (w.alloc (.cells #[.int .i64 n, .int .i64 f, .int .i64 d, .int .i64 p, .int .i64 r, .int .i64 dr, .int .i64 o, .int .i64 sl, .int .i64 md, .int .i64 fr, .slice ad zs.length cap] 24)) wr v zs.reverse.length (intVals zs.reverse)) := by
        have h := HS.out
        rw [Nat.sub_zero, List.take_of_length_le (by simp)] at h
        rw [List.length_reverse]; exact h
      clear HS hown
      have HYL : Hid (zs.reverse.length = zs.length) := List.length_reverse
      have HYP := hidden (plainE_reverse n f d p r dr o sl md fr zs)
      generalize zs.reverse = ys at HS1 HYL HYP
      obtain ⟨ad', cap', rfl, hT'⟩ := HS1.out.tab
      clear hT'
      have HPc := hidden (fun v h => plain_any n f d p r dr o sl md fr ad cap zs v (by omega) h)
      have HPd := hidden (fun v h => plain_any n f d p r dr o sl md fr ad' cap' ys v (by have := HYL.out; omega) h)
      rw [HYP.out] at HPd
      have HKO := hidden (fun (h : plainE n f d p r dr o sl md fr zs = 0) zs' hl hn => plainE_foreign (zs' := zs') h hl hn)
      have HKN := hidden (fun (h : plainE n f d p r dr o sl md fr zs = 0) => plainE_empty h)
      generalize plainE n f d p r dr o sl md fr zs = E at HPc HPd HKO HKN
      clear hct hfz hbox HTr HYP
      obtain ⟨x0, x1, x2, x3, x4, x5, x6, x7, x8, x9, x10⟩ := HS1.out.box
      have hfz := HS1.out.fz
      obtain ⟨hbox, hbel⟩ := HS1.out.first
      have HBr := hidden hbel
      clear hbel
      have hlt0 : w.heap.size < wr.heap.size := by omega
      have HTd : Hid (Tab wr ad' ys) := by
        obtain ⟨ad2, cap2, e2, h2⟩ := HS1.out.tab
        simp at e2
        rw [e2.1]; exact h2
      go_wp2
      refine wp_region_quiet_below (by kernel_rfl) (by kernel_rfl) ?_
      repeat (go_big_quiet_step (fail))
      go_big_quiet_step ((go_at_call 9; exact Calls.regrown_of (HPd.out _ (HTd.out.below (below_regrown _ _ _)))))
      repeat (go_big_quiet_step (fail))
      go_big_quiet_step ((go_at_call 9; exact Calls.regrown_of (HPc.out _ ((HT.out.below HBr.out).below (below_regrown _ _ _)))))
      repeat (go_big_quiet_step (fail))
      refine wpQuiet_nil ?_
      intro w2 hw2
      have HS2 := hidden (HS1.out.grow (rg_below hw2))
      have HB2 := hidden (bthen HBr.out (rg_below hw2))
      clear hw2 x0 x1 x2 x3 x4 x5 x6 x7 x8 x9 x10 hbox hfz
      obtain ⟨x0, x1, x2, x3, x4, x5, x6, x7, x8, x9, x10⟩ := HS2.out.box
      obtain ⟨hbox, _⟩ := HS2.out.first
      go_wp2_with fail
      refine (HPc.out _ (HT.out.below HB2.out)).mono ?_
      rintro e w3 ⟨rfl, hb3⟩
      have HS3 := hidden (HS2.out.grow hb3)
      have HB3 := hidden (bthen HB2.out hb3)
      clear hb3 x0 x1 x2 x3 x4 x5 x6 x7 x8 x9 x10 hbox
      obtain ⟨x0, x1, x2, x3, x4, x5, x6, x7, x8, x9, x10⟩ := HS3.out.box
      obtain ⟨hbox, _⟩ := HS3.out.first
      have hfz := HS3.out.fz
      by_cases hE : E = 0
      case neg =>
        go_wp2_with fail
        refine (known3_any _).mono ?_
        rintro e w9 ⟨rfl, hb9⟩
        have HB9 := hidden (bthen HB3.out hb9)
        clear hb9
        go_wp2
        go_ret
        exact ⟨rfl, bthen (ballc w _) HB9.out⟩
      subst hE
      have HKN0 := hidden (HKN.out rfl)
      clear HKN
      by_cases hs0 : 0 ≤ s
      case neg =>
        have hs0' : decide (0 ≤ s) = false := decide_eq_false hs0
        go_wp2_with fail
        refine (known3_any _).mono ?_
        rintro e w9 ⟨rfl, hb9⟩
        have HB9 := hidden (bthen HB3.out hb9)
        clear hb9
        go_wp2
        go_ret
        exact ⟨rfl, bthen (ballc w _) HB9.out⟩
      by_cases hs1 : s < (ys.length : Int)
      case neg =>
        go_wp2_with fail
        refine (known3_any _).mono ?_
        rintro e w9 ⟨rfl, hb9⟩
        have HB9 := hidden (bthen HB3.out hb9)
        clear hb9
        go_wp2
        go_ret
        exact ⟨rfl, bthen (ballc w _) HB9.out⟩
      obtain ⟨t, rfl⟩ : ∃ t : Nat, s = (t : Int) := ⟨s.toNat, by omega⟩
      have ht : t < ys.length := by omega
      obtain ⟨g, capg, eg, hg2, _⟩ := HS3.out.own.form (by omega)
      simp at eg
      obtain ⟨rfl, rfl⟩ := eg
      have hput := HS3.out.put t ht n
      obtain ⟨hS4, hc4, hf4⟩ := hput
      have HS4 := hidden hS4
      have hgne : ¬ g = w.heap.size + 1 := by omega
      clear hS4
      generalize ys.getD t 0 = yt at hc4
      have HPd4 := hidden (fun v h => plain_any n f d p r dr o sl md fr (some ⟨g, 0, none⟩) cap' (ys.set t n) v (by have := HYL.out; rw [List.length_set]; omega) h)
      rw [HKO.out rfl (ys.set t n) (by rw [List.length_set]; exact HYL.out) (mem_set ht n)] at HPd4
      have HT4 : Hid (Tab (w3.setCell ⟨g, t, none⟩ (.int .i64 n)) (some ⟨g, 0, none⟩) (ys.set t n)) := by
        obtain ⟨ad2, cap2, e2, h2⟩ := HS4.out.tab
        simp at e2
        rw [e2.1]; exact h2
      obtain ⟨_, hb4⟩ := HS4.out.first
      have HB4 := hidden hb4
      clear hb4
      simp only [List.length_set] at HPd4
      go_wp2_with fail
      refine (HPd4.out _ HT4.out).mono ?_
      rintro e w5 ⟨rfl, hb5⟩
      have HS5 := hidden (HS4.out.grow hb5)
      have HB5 := hidden (bthen HB4.out hb5)
      clear hb5 x0 x1 x2 x3 x4 x5 x6 x7 x8 x9 x10 hbox hfz hc4 hf4
      obtain ⟨x0, x1, x2, x3, x4, x5, x6, x7, x8, x9, x10⟩ := HS5.out.box
      have hfz := HS5.out.fz
      have HS6 := hidden HS5.out.nil
      obtain ⟨_, hb6⟩ := HS6.out.first
      have HB6 := hidden hb6
      clear hb6
      have HPd6 := hidden (fun v => plain_any n f d p r dr o sl md fr none 0 [] v (by simp) (Tab.none v))
      rw [HKN0.out] at HPd6
      simp only [List.length_nil] at HPd6
      go_wp2_with fail
      refine (HPd6.out _).mono ?_
      rintro e w7 ⟨rfl, hb7⟩
      have HB7 := hidden (bthen HB6.out hb7)
      clear hb7 x0 x1 x2 x3 x4 x5 x6 x7 x8 x9 x10 hfz
      go_wp2_with fail
      refine (known3_any _).mono ?_
      rintro e w9 ⟨rfl, hb9⟩
      have HB9 := hidden (bthen HB7.out hb9)
      clear hb9
      go_wp2
      go_ret
      exact ⟨rfl, bthen (ballc w _) HB9.out⟩
theorem walk (n f d p r dr o sl md fr : Int) (ad : Option Addr) (cap : Nat) (zs : List Int) (s : Int) (w : World) (hl : zs.length ≤ 9223372036854775807) (hT : Tab w ad zs) (hs : -9223372036854775808 ≤ s ∧ s ≤ 9223372036854775807) :
    Calls Try.prog 5 #[.agg #[.int .i64 n, .int .i64 f, .int .i64 d, .int .i64 p, .int .i64 r, .int .i64 dr, .int .i64 o, .int .i64 sl, .int .i64 md, .int .i64 fr, .slice ad zs.length cap], .int .i64 s] w fun e w' => e = .returned (.bool true) ∧ Below w.heap.size w w' := by
  by_cases h : 40 < zs.length
  · exact many n f d p r dr o sl md fr ad cap zs s w h hl
  · exact few n f d p r dr o sl md fr ad cap zs s w (by omega) hT
end Go.Proofs.Ytoemloggbljikaa.LawConfTurns
