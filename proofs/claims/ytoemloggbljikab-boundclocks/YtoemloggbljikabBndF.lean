/- The calls Begin, Middle, Guard, Settle, All and Right of package bound return what the document says, and make at most new memory; conditions: the table lies where it says, and its length fits int. -/
import Derived.Test.YtoemloggbljikabBndG
namespace Go.Proofs.Ytoemloggbljikab
open Go.ChangeShapes Go.WideShapes Go.ChangeAt Go.RowKit
set_option linter.unusedVariables false
attribute [local go_sem] cell_rg

/-- Two boxes of the call's own, in a later world. -/
theorem box_at2 {w wl : World} {C C' : Array Value} {t t' : TypeId} (hb : Below ((w.alloc (.cells C t)).alloc (.cells C' t')).heap.size ((w.alloc (.cells C t)).alloc (.cells C' t')) wl) :
    (∀ i, wl.cell? ⟨w.heap.size, i, none⟩ = C[i]?) ∧ (∀ i, wl.cell? ⟨w.heap.size + 1, i, none⟩ = C'[i]?) ∧ w.heap.size + 1 < wl.heap.size := by
  have h1 := box_at (bthen (ballc (w.alloc (.cells C t)) (.cells C' t')) hb)
  have h2 := box_at hb
  have e : (w.alloc (.cells C t)).heap.size = w.heap.size + 1 := by simp
  rw [e] at h2
  exact ⟨h1.1, h2.1, h2.2⟩
/-- x, if E is no error and b, else 0. -/
def placeE (E : Int) (b : Bool) (x : Int) : Int := if E = 0 ∧ b = true then x else 0
theorem placeE_yes (x : Int) : placeE 0 true x = x := if_pos ⟨rfl, rfl⟩
theorem placeE_err {E : Int} (h : ¬ E = 0) (b : Bool) (x : Int) : placeE E b x = 0 := if_neg fun c => h c.1
theorem placeE_no (E : Int) (x : Int) : placeE E false x = 0 := if_neg fun c => by cases c.2
set_option maxHeartbeats 1000000 in
theorem BBegin_any (n f d p r dr o sl md fr : Int) (ad : Option Addr) (cap : Nat) (zs : List Int) (s : Int) (w : World) (hl : zs.length ≤ 9223372036854775807) (hT : Tab w ad zs) :
    Calls Try.prog 14 #[.agg #[.int .i64 n, .int .i64 f, .int .i64 d, .int .i64 p, .int .i64 r, .int .i64 dr, .int .i64 o, .int .i64 sl, .int .i64 md, .int .i64 fr, .slice ad zs.length cap], .int .i64 s] w fun e w' => e = .returned (.int .i64 (placeE (plainE n f d p r dr o sl md fr zs) (slotB s zs.length) (o + s * sl))) ∧ Below w.heap.size w w' := by
  have HP := hidden (cPlain_any n f d p r dr o sl md fr ad cap zs ((w.alloc (.cells #[.int .i64 n, .int .i64 f, .int .i64 d, .int .i64 p, .int .i64 r, .int .i64 dr, .int .i64 o, .int .i64 sl, .int .i64 md, .int .i64 fr, .slice ad zs.length cap] 24)).alloc (.cells #[.int .i64 n, .int .i64 f, .int .i64 d, .int .i64 p, .int .i64 r, .int .i64 dr, .int .i64 o, .int .i64 sl, .int .i64 md, .int .i64 fr, .slice ad zs.length cap] 33)) hl (hT.below (Joins.below_alloc2 _ _ _)))
  have HS := hidden (fun v => hasSlot_any n f d p r dr o sl md fr ad cap zs s v)
  have HK := hidden (fun h => plainE_ok (n := n) (f := f) (d := d) (p := p) (r := r) (dr := dr) (o := o) (sl := sl) (md := md) (fr := fr) (zs := zs) h)
  clear hT
  generalize plainE n f d p r dr o sl md fr zs = E at HP HK
  by_cases hE : E = 0
  · subst hE
    obtain ⟨_, _, _, _, _, _, _, _, _, _, _, _, _, o1, o2, sl1, sl2, _, _, _, _, z1, z2, _⟩ := HK.out rfl
    simp only [decide_true] at HP
    generalize hb : slotB s zs.length = b at HS
    cases b
    · go_enter Try.func14, Try.ntmps14
      go_wp2_with fail
      refine HP.out.mono ?_
      rintro e w2 ⟨rfl, hb2⟩
      have HB2 := hidden hb2
      clear hb2
      obtain ⟨hbox, hbox1, hsz⟩ := box_at2 HB2.out
      go_wp2_with fail
      refine (HS.out _).mono ?_
      rintro e w3 ⟨rfl, hb3⟩
      have HB3 := hidden (bthen HB2.out hb3)
      clear hb3 hbox hbox1 hsz
      go_wp2
      go_ret
      exact ⟨ret_i (placeE_no _ _).symm, bthen (Joins.below_alloc2 _ _ _) HB3.out⟩
    · obtain ⟨s1, s2⟩ := slotB_of hb
      have HI := hidden (fun v => begin_any n f d p r dr o sl md fr ad cap zs s v s1 (by omega) o1 o2 sl1 sl2)
      clear hb s1 s2 o1 o2 sl1 sl2
      go_enter Try.func14, Try.ntmps14
      go_wp2_with fail
      refine HP.out.mono ?_
      rintro e w2 ⟨rfl, hb2⟩
      have HB2 := hidden hb2
      clear hb2
      obtain ⟨hbox, hbox1, hsz⟩ := box_at2 HB2.out
      go_wp2_with fail
      refine (HS.out _).mono ?_
      rintro e w3 ⟨rfl, hb3⟩
      have HB3 := hidden (bthen HB2.out hb3)
      clear hb3 hbox hbox1 hsz
      obtain ⟨hbox, hbox1, hsz⟩ := box_at2 HB3.out
      go_wp2_with fail
      refine (HI.out _).mono ?_
      rintro e w4 ⟨rfl, hb4⟩
      have HB4 := hidden (bthen HB3.out hb4)
      clear hb4 hbox hbox1 hsz
      go_wp2
      go_ret
      exact ⟨ret_i (placeE_yes _).symm, bthen (Joins.below_alloc2 _ _ _) HB4.out⟩
  · have hd : decide (E = 0) = false := decide_eq_false hE
    rw [hd] at HP
    clear hd HK
    go_enter Try.func14, Try.ntmps14
    go_wp2_with fail
    refine HP.out.mono ?_
    rintro e w2 ⟨rfl, hb2⟩
    have HB2 := hidden hb2
    clear hb2
    go_wp2
    go_ret
    exact ⟨ret_i (placeE_err hE _ _).symm, bthen (Joins.below_alloc2 _ _ _) HB2.out⟩
set_option maxHeartbeats 1000000 in
theorem BMiddle_any (n f d p r dr o sl md fr : Int) (ad : Option Addr) (cap : Nat) (zs : List Int) (s : Int) (w : World) (hl : zs.length ≤ 9223372036854775807) (hT : Tab w ad zs) :
    Calls Try.prog 6 #[.agg #[.int .i64 n, .int .i64 f, .int .i64 d, .int .i64 p, .int .i64 r, .int .i64 dr, .int .i64 o, .int .i64 sl, .int .i64 md, .int .i64 fr, .slice ad zs.length cap], .int .i64 s] w fun e w' => e = .returned (.int .i64 (placeE (plainE n f d p r dr o sl md fr zs) (slotB s zs.length) (midE o sl s))) ∧ Below w.heap.size w w' := by
  have HP := hidden (cPlain_any n f d p r dr o sl md fr ad cap zs ((w.alloc (.cells #[.int .i64 n, .int .i64 f, .int .i64 d, .int .i64 p, .int .i64 r, .int .i64 dr, .int .i64 o, .int .i64 sl, .int .i64 md, .int .i64 fr, .slice ad zs.length cap] 24)).alloc (.cells #[.int .i64 n, .int .i64 f, .int .i64 d, .int .i64 p, .int .i64 r, .int .i64 dr, .int .i64 o, .int .i64 sl, .int .i64 md, .int .i64 fr, .slice ad zs.length cap] 33)) hl (hT.below (Joins.below_alloc2 _ _ _)))
  have HS := hidden (fun v => hasSlot_any n f d p r dr o sl md fr ad cap zs s v)
  have HK := hidden (fun h => plainE_ok (n := n) (f := f) (d := d) (p := p) (r := r) (dr := dr) (o := o) (sl := sl) (md := md) (fr := fr) (zs := zs) h)
  clear hT
  generalize plainE n f d p r dr o sl md fr zs = E at HP HK
  by_cases hE : E = 0
  · subst hE
    obtain ⟨_, _, _, _, _, _, _, _, _, _, _, _, _, o1, o2, sl1, sl2, _, _, _, _, z1, z2, _⟩ := HK.out rfl
    simp only [decide_true] at HP
    generalize hb : slotB s zs.length = b at HS
    cases b
    · go_enter Try.func6, Try.ntmps6
      go_wp2_with fail
      refine HP.out.mono ?_
      rintro e w2 ⟨rfl, hb2⟩
      have HB2 := hidden hb2
      clear hb2
      obtain ⟨hbox, hbox1, hsz⟩ := box_at2 HB2.out
      go_wp2_with fail
      refine (HS.out _).mono ?_
      rintro e w3 ⟨rfl, hb3⟩
      have HB3 := hidden (bthen HB2.out hb3)
      clear hb3 hbox hbox1 hsz
      go_wp2
      go_ret
      exact ⟨ret_i (placeE_no _ _).symm, bthen (Joins.below_alloc2 _ _ _) HB3.out⟩
    · obtain ⟨s1, s2⟩ := slotB_of hb
      have HI := hidden (fun v => middle_any n f d p r dr o sl md fr ad cap zs s v s1 (by omega) o1 o2 sl1 sl2)
      clear hb s1 s2 o1 o2 sl1 sl2
      go_enter Try.func6, Try.ntmps6
      go_wp2_with fail
      refine HP.out.mono ?_
      rintro e w2 ⟨rfl, hb2⟩
      have HB2 := hidden hb2
      clear hb2
      obtain ⟨hbox, hbox1, hsz⟩ := box_at2 HB2.out
      go_wp2_with fail
      refine (HS.out _).mono ?_
      rintro e w3 ⟨rfl, hb3⟩
      have HB3 := hidden (bthen HB2.out hb3)
      clear hb3 hbox hbox1 hsz
      obtain ⟨hbox, hbox1, hsz⟩ := box_at2 HB3.out
      go_wp2_with fail
      refine (HI.out _).mono ?_
      rintro e w4 ⟨rfl, hb4⟩
      have HB4 := hidden (bthen HB3.out hb4)
      clear hb4 hbox hbox1 hsz
      go_wp2
      go_ret
      exact ⟨ret_i (placeE_yes _).symm, bthen (Joins.below_alloc2 _ _ _) HB4.out⟩
  · have hd : decide (E = 0) = false := decide_eq_false hE
    rw [hd] at HP
    clear hd HK
    go_enter Try.func6, Try.ntmps6
    go_wp2_with fail
    refine HP.out.mono ?_
    rintro e w2 ⟨rfl, hb2⟩
    have HB2 := hidden hb2
    clear hb2
    go_wp2
    go_ret
    exact ⟨ret_i (placeE_err hE _ _).symm, bthen (Joins.below_alloc2 _ _ _) HB2.out⟩
end Go.Proofs.Ytoemloggbljikab
