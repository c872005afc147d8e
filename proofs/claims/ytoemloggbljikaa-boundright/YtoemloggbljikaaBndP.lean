/- The document's Begin, Middle, Guard, Right, Settle and All return what they say, and make at most new memory; conditions: the table lies where it says, and its length fits int. -/
import Derived.Test.YtoemloggbljikaaBndF
import Derived.Test.YtoemloggbljikaaConfG
namespace Go.Proofs.Ytoemloggbljikaa
open Go.ChangeShapes Go.WideShapes Go.ChangeAt Go.RowKit
set_option linter.unusedVariables false
attribute [local go_sem] cell_rg

set_option maxHeartbeats 1000000 in
theorem RBegin_any (n f d p r dr o sl md fr : Int) (ad : Option Addr) (cap : Nat) (zs : List Int) (s : Int) (w : World) (hl : zs.length ≤ 9223372036854775807) (hT : Tab w ad zs) :
    Calls Try.prog 19 #[.agg #[.int .i64 n, .int .i64 f, .int .i64 d, .int .i64 p, .int .i64 r, .int .i64 dr, .int .i64 o, .int .i64 sl, .int .i64 md, .int .i64 fr, .slice ad zs.length cap], .int .i64 s] w fun e w' => e = .returned (.int .i64 (placeE (plainE n f d p r dr o sl md fr zs) (slotB s zs.length) (o + s * sl))) ∧ Below w.heap.size w w' := by
  have HT := hidden (hT.below (ballc w (.cells #[.int .i64 n, .int .i64 f, .int .i64 d, .int .i64 p, .int .i64 r, .int .i64 dr, .int .i64 o, .int .i64 sl, .int .i64 md, .int .i64 fr, .slice ad zs.length cap] 24)))
  have HP := hidden (refPlain_any n f d p r dr o sl md fr ad cap zs (w.alloc (.cells #[.int .i64 n, .int .i64 f, .int .i64 d, .int .i64 p, .int .i64 r, .int .i64 dr, .int .i64 o, .int .i64 sl, .int .i64 md, .int .i64 fr, .slice ad zs.length cap] 24)) hl HT.out)
  have HK := hidden (fun h => plainE_ok (n := n) (f := f) (d := d) (p := p) (r := r) (dr := dr) (o := o) (sl := sl) (md := md) (fr := fr) (zs := zs) h)
  clear hT
  by_cases hE : plainE n f d p r dr o sl md fr zs = 0
  · obtain ⟨_, _, _, _, _, _, _, _, _, _, _, _, _, o1, o2, sl1, sl2, _, _, _, _, z1, z2, _⟩ := HK.out hE
    clear HK
    rw [hE] at HP ⊢
    clear hE
    by_cases hs : 0 ≤ s ∧ s < (zs.length : Int)
    · have HV : Hid (placeE 0 (slotB s zs.length) (o + s * sl) = o + s * sl) := by rw [slotB_yes hs.1 hs.2]; exact placeE_yes _
      obtain ⟨s1, s2⟩ := hs
      have n1 : ¬ s < 0 := by omega
      have n2 : ¬ (zs.length : Int) ≤ s := by omega
      obtain ⟨m0, m1⟩ := mul_bd s1 (show s ≤ 31 by omega) (show 0 ≤ sl by omega) sl2
      go_enter Try.func19, Try.ntmps19
      go_wp2_with fail
      refine HP.out.mono ?_
      rintro e w2 ⟨rfl, hb2⟩
      have HB2 := hidden hb2
      clear hb2
      obtain ⟨hbox, hsz⟩ := box_at HB2.out
      go_wp2
      go_ret
      exact ⟨ret_i HV.out.symm, bthen (ballc w _) HB2.out⟩
    · have HV : Hid (placeE 0 (slotB s zs.length) (o + s * sl) = 0) := by rw [slotB_no hs]; exact placeE_no _ _
      by_cases s1 : s < 0
      · clear hs
        go_enter Try.func19, Try.ntmps19
        go_wp2_with fail
        refine HP.out.mono ?_
        rintro e w2 ⟨rfl, hb2⟩
        have HB2 := hidden hb2
        clear hb2
        obtain ⟨hbox, hsz⟩ := box_at HB2.out
        go_wp2
        go_ret
        exact ⟨ret_i HV.out.symm, bthen (ballc w _) HB2.out⟩
      · have s2 : (zs.length : Int) ≤ s := by omega
        clear hs
        go_enter Try.func19, Try.ntmps19
        go_wp2_with fail
        refine HP.out.mono ?_
        rintro e w2 ⟨rfl, hb2⟩
        have HB2 := hidden hb2
        clear hb2
        obtain ⟨hbox, hsz⟩ := box_at HB2.out
        go_wp2
        go_ret
        exact ⟨ret_i HV.out.symm, bthen (ballc w _) HB2.out⟩
  · have HV := hidden (placeE_err hE (slotB s zs.length) (o + s * sl))
    generalize plainE n f d p r dr o sl md fr zs = E at *
    go_enter Try.func19, Try.ntmps19
    go_wp2_with fail
    refine HP.out.mono ?_
    rintro e w2 ⟨rfl, hb2⟩
    have HB2 := hidden hb2
    clear hb2
    obtain ⟨hbox, hsz⟩ := box_at HB2.out
    go_wp2
    go_ret
    exact ⟨ret_i HV.out.symm, bthen (ballc w _) HB2.out⟩
set_option maxHeartbeats 1000000 in
theorem RMiddle_any (n f d p r dr o sl md fr : Int) (ad : Option Addr) (cap : Nat) (zs : List Int) (s : Int) (w : World) (hl : zs.length ≤ 9223372036854775807) (hT : Tab w ad zs) :
    Calls Try.prog 21 #[.agg #[.int .i64 n, .int .i64 f, .int .i64 d, .int .i64 p, .int .i64 r, .int .i64 dr, .int .i64 o, .int .i64 sl, .int .i64 md, .int .i64 fr, .slice ad zs.length cap], .int .i64 s] w fun e w' => e = .returned (.int .i64 (placeE (plainE n f d p r dr o sl md fr zs) (slotB s zs.length) (midE o sl s))) ∧ Below w.heap.size w w' := by
  have HT := hidden (hT.below (ballc w (.cells #[.int .i64 n, .int .i64 f, .int .i64 d, .int .i64 p, .int .i64 r, .int .i64 dr, .int .i64 o, .int .i64 sl, .int .i64 md, .int .i64 fr, .slice ad zs.length cap] 24)))
  have HP := hidden (refPlain_any n f d p r dr o sl md fr ad cap zs (w.alloc (.cells #[.int .i64 n, .int .i64 f, .int .i64 d, .int .i64 p, .int .i64 r, .int .i64 dr, .int .i64 o, .int .i64 sl, .int .i64 md, .int .i64 fr, .slice ad zs.length cap] 24)) hl HT.out)
  have HK := hidden (fun h => plainE_ok (n := n) (f := f) (d := d) (p := p) (r := r) (dr := dr) (o := o) (sl := sl) (md := md) (fr := fr) (zs := zs) h)
  clear hT
  by_cases hE : plainE n f d p r dr o sl md fr zs = 0
  · obtain ⟨_, _, _, _, _, _, _, _, _, _, _, _, _, o1, o2, sl1, sl2, _, _, _, _, z1, z2, _⟩ := HK.out hE
    clear HK
    have HI := hidden (fun v h => RBegin_any n f d p r dr o sl md fr ad cap zs s v hl h)
    rw [hE] at HI
    rw [hE] at HP ⊢
    clear hE
    by_cases hs : 0 ≤ s ∧ s < (zs.length : Int)
    · have HV : Hid (placeE 0 (slotB s zs.length) (midE o sl s) = midE o sl s) := by rw [slotB_yes hs.1 hs.2]; exact placeE_yes _
      obtain ⟨s1, s2⟩ := hs
      have n1 : ¬ s < 0 := by omega
      have n2 : ¬ (zs.length : Int) ≤ s := by omega
      obtain ⟨m0, m1⟩ := mul_bd s1 (show s ≤ 31 by omega) (show 0 ≤ sl by omega) sl2
      have t1 : IntKind.i64.wrap (sl.tdiv 2) = sl / 2 := IntWalk.i64_quo sl 2 ⟨by omega, by omega, by omega⟩
      have t2 : IntKind.i64.wrap (o + s * sl + sl / 2) = midE o sl s := by unfold midE; exact IntWalk.i64_in _ (by omega)
      rw [slotB_yes s1 s2, placeE_yes] at HI
      go_enter Try.func21, Try.ntmps21
      go_wp2_with fail
      refine HP.out.mono ?_
      rintro e w2 ⟨rfl, hb2⟩
      have HB2 := hidden hb2
      clear hb2
      obtain ⟨hbox, hsz⟩ := box_at HB2.out
      have HT2 := hidden (HT.out.below HB2.out)
      go_wp2
      refine wp_region_quiet_below (by kernel_rfl) (by kernel_rfl) ?_
      repeat (go_big_quiet_step ((go_at_call 19; exact Calls.regrown_of (HI.out _ (HT2.out.below (below_regrown _ _ _))))))
      refine wpQuiet_nil ?_
      intro w3 hw3
      have HB3 := hidden (bthen HB2.out (rg_below hw3))
      clear hw3
      go_wp2
      go_ret
      exact ⟨ret_i HV.out.symm, bthen (ballc w _) HB3.out⟩
    · have HV : Hid (placeE 0 (slotB s zs.length) (midE o sl s) = 0) := by rw [slotB_no hs]; exact placeE_no _ _
      by_cases s1 : s < 0
      · clear hs
        go_enter Try.func21, Try.ntmps21
        go_wp2_with fail
        refine HP.out.mono ?_
        rintro e w2 ⟨rfl, hb2⟩
        have HB2 := hidden hb2
        clear hb2
        obtain ⟨hbox, hsz⟩ := box_at HB2.out
        go_wp2
        go_ret
        exact ⟨ret_i HV.out.symm, bthen (ballc w _) HB2.out⟩
      · have s2 : (zs.length : Int) ≤ s := by omega
        clear hs
        go_enter Try.func21, Try.ntmps21
        go_wp2_with fail
        refine HP.out.mono ?_
        rintro e w2 ⟨rfl, hb2⟩
        have HB2 := hidden hb2
        clear hb2
        obtain ⟨hbox, hsz⟩ := box_at HB2.out
        go_wp2
        go_ret
        exact ⟨ret_i HV.out.symm, bthen (ballc w _) HB2.out⟩
  · have HV := hidden (placeE_err hE (slotB s zs.length) (midE o sl s))
    generalize plainE n f d p r dr o sl md fr zs = E at *
    go_enter Try.func21, Try.ntmps21
    go_wp2_with fail
    refine HP.out.mono ?_
    rintro e w2 ⟨rfl, hb2⟩
    have HB2 := hidden hb2
    clear hb2
    obtain ⟨hbox, hsz⟩ := box_at HB2.out
    go_wp2
    go_ret
    exact ⟨ret_i HV.out.symm, bthen (ballc w _) HB2.out⟩
end Go.Proofs.Ytoemloggbljikaa
