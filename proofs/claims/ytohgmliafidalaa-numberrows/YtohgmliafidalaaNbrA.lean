/- The calls behind, Next and Apart of package number return what plain functions give, and make at most new memory; conditions: the table lies where it says, numbers and lengths fit int. -/
import Derived.Test.YtohgmliafidalaaNbrM
import Derived.Test.YtohgmliafidalaaConfQ
import Derived.Test.YtohgmliafidalaaConfP
namespace Go.Proofs.Ytohgmliafidalaa
open Go.ChangeShapes Go.WideShapes Go.ChangeAt Go.RowKit
set_option linter.unusedVariables false
attribute [local go_sem] cell_rg

theorem wfS {x : Int} (h : -9223372036854775808 ≤ x ∧ x ≤ 9223372036854775807) : (Lit.int .i64 x).wf = true := by
  have := wrap64_wf x
  rwa [IntWalk.wrap64_in x (by omega)] at this
set_option maxHeartbeats 1000000 in
theorem behind1_any (n f d p r dr o sl md fr : Int) (ad : Option Addr) (cap : Nat) (zs : List Int) (x : Int) (g : Nat) (w : World) (hx : -9223372036854775808 ≤ x ∧ x ≤ 9223372036854775807) (h1 : 2 ≤ md) (h2 : md ≤ 250) (hk : w.heap[g]? = some (.cells #[.int .i64 n, .int .i64 f, .int .i64 d, .int .i64 p, .int .i64 r, .int .i64 dr, .int .i64 o, .int .i64 sl, .int .i64 md, .int .i64 fr, .slice ad zs.length cap] 24 (0, 0))) :
    Calls Try.prog 108 #[.int .i64 x, .pointer (some ⟨g, 0, none⟩)] w fun e w' => e = .returned (.int .i64 (behF md x)) ∧ Below w.heap.size w w' := by
  have hb1 := modF_lt x h1 h2
  have C1 := hidden (fun V => Calls.to_below (mod_any x md V (wfS hx) (wfS (by omega))))
  have C2 := hidden (fun V => Calls.to_below (mod_any (modF x md + 1) md V (wfS (by omega)) (wfS (by omega))))
  have HF : Hid (behF md x = modF (modF x md + 1) md) := rfl
  rw [HF.out]
  clear HF
  generalize modF (modF x md + 1) md = z2 at *
  generalize modF x md = z1 at *
  have t1 : IntKind.i64.wrap (z1 + 1) = z1 + 1 := IntWalk.i64_in _ (by omega)
  have c0 : w.cell? ⟨g, 8, none⟩ = some (.int .i64 md) := blk_cell hk 8
  have l0 := blk_lt hk
  clear hk
  go_enter Try.func108, Try.ntmps108
  go_wp2
  refine wp_region_quiet_below (by kernel_rfl) (by kernel_rfl) ?_
  repeat (go_big_quiet_step (fail))
  go_big_quiet_step ((go_at_call 75; exact Calls.regrown_of (C1.out _)))
  repeat (go_big_quiet_step (fail))
  go_big_quiet_step ((go_at_call 75; exact Calls.regrown_of (C2.out _)))
  repeat (go_big_quiet_step (fail))
  refine wpQuiet_nil ?_
  intro w5 hw5
  have HB5 := hidden (rg_below hw5)
  clear hw5 c0 l0
  go_wp2
  go_ret
  exact ⟨rfl, HB5.out⟩
theorem behind_any (n f d p r dr o sl md fr : Int) (ad : Option Addr) (cap : Nat) (zs : List Int) (w : World) :
    Calls Try.prog 73 #[.agg #[.int .i64 n, .int .i64 f, .int .i64 d, .int .i64 p, .int .i64 r, .int .i64 dr, .int .i64 o, .int .i64 sl, .int .i64 md, .int .i64 fr, .slice ad zs.length cap]] w fun e w' => ∃ g, e = .returned (.func (.func 108) #[] #[.pointer (some ⟨g, 0, none⟩)]) ∧ w'.heap[g]? = some (.cells #[.int .i64 n, .int .i64 f, .int .i64 d, .int .i64 p, .int .i64 r, .int .i64 dr, .int .i64 o, .int .i64 sl, .int .i64 md, .int .i64 fr, .slice ad zs.length cap] 24 (0, 0)) ∧ Below w.heap.size w w' := by
  have hmf : ∀ (fn : Fn) (first cap : Array Value) (w : World), (Instr.makeFunc fn first cap).run Try.prog w = .ok (.func fn first cap) w := fun _ _ _ _ => rfl
  have K0 := hidden (blk_nw w #[.int .i64 n, .int .i64 f, .int .i64 d, .int .i64 p, .int .i64 r, .int .i64 dr, .int .i64 o, .int .i64 sl, .int .i64 md, .int .i64 fr, .slice ad zs.length cap] 24)
  have HB := hidden (ballc w (.cells #[.int .i64 n, .int .i64 f, .int .i64 d, .int .i64 p, .int .i64 r, .int .i64 dr, .int .i64 o, .int .i64 sl, .int .i64 md, .int .i64 fr, .slice ad zs.length cap] 24))
  go_enter Try.func73, Try.ntmps73
  go_wp2
  go_ret
  exact ⟨_, rfl, K0.out, HB.out⟩
set_option maxHeartbeats 2000000 in
theorem NNext_any (n f d p r dr o sl md fr : Int) (ad : Option Addr) (cap : Nat) (zs : List Int) (own : Int) (agreed : ByteArray) (w : World) (hl : zs.length ≤ 9223372036854775807) (hT : Tab w ad zs) (ho : -9223372036854775808 ≤ own ∧ own ≤ 9223372036854775807) (hs : agreed.size ≤ 9223372036854775807) :
    Calls Try.prog 27 #[.agg #[.int .i64 n, .int .i64 f, .int .i64 d, .int .i64 p, .int .i64 r, .int .i64 dr, .int .i64 o, .int .i64 sl, .int .i64 md, .int .i64 fr, .slice ad zs.length cap], .int .i64 own, .string agreed] w fun e w' => e = .returned (.int .i64 (nextF (plainE n f d p r dr o sl md fr zs) md own agreed)) ∧ Below w.heap.size w w' := by
  have HB0 := hidden (ballc w (.cells #[.int .i64 n, .int .i64 f, .int .i64 d, .int .i64 p, .int .i64 r, .int .i64 dr, .int .i64 o, .int .i64 sl, .int .i64 md, .int .i64 fr, .slice ad zs.length cap] 24))
  have HK := hidden (blk_nw w #[.int .i64 n, .int .i64 f, .int .i64 d, .int .i64 p, .int .i64 r, .int .i64 dr, .int .i64 o, .int .i64 sl, .int .i64 md, .int .i64 fr, .slice ad zs.length cap] 24)
  have HP := hidden (plain_any n f d p r dr o sl md fr ad cap zs (w.alloc (.cells #[.int .i64 n, .int .i64 f, .int .i64 d, .int .i64 p, .int .i64 r, .int .i64 dr, .int .i64 o, .int .i64 sl, .int .i64 md, .int .i64 fr, .slice ad zs.length cap] 24)) hl (hT.below (ballc _ _)))
  by_cases hE : plainE n f d p r dr o sl md fr zs = 0
  · obtain ⟨_, _, _, _, _, _, _, _, _, _, _, _, _, _, _, _, _, m1, m2, _⟩ := plainE_ok hE
    have hn := numG_lt agreed 8
    have ho2 : -9223372036854775808 ≤ ownF own agreed ∧ ownF own agreed ≤ 9223372036854775807 := by
      unfold ownF
      split
      · exact ho
      · omega
    have CB := hidden (fun V => behind_any n f d p r dr o sl md fr ad cap zs V)
    have C1 := hidden (fun g V hk => behind1_any n f d p r dr o sl md fr ad cap zs (ownF own agreed) g V ho2 m1 m2 hk)
    have CN := hidden (fun V => Number_any agreed hs V)
    have HF : Hid (nextF (plainE n f d p r dr o sl md fr zs) md own agreed = behF md (ownF own agreed)) := if_pos hE
    rw [HF.out]
    rw [hE] at HP
    clear hE hT HF
    generalize behF md (ownF own agreed) = z at *
    by_cases he : emt agreed = true
    · have h1 : ownF own agreed = own := if_pos he
      rw [h1] at C1
      have e1 : agreed.toList.isEmpty = true := he
      clear h1 he ho2 hn
      go_enter Try.func27, Try.ntmps27
      go_wp2_with fail
      refine HP.out.mono ?_
      rintro e w2 ⟨rfl, hb⟩
      have HB2 := hidden (bthen HB0.out hb)
      have HK2 := hidden (blk_later HK.out hb)
      have c0 := blk_cell HK2.out
      have l0 := blk_lt HK2.out
      clear hb HP
      go_wp2_with fail
      refine (CB.out _).mono ?_
      rintro e w3 ⟨g, rfl, hg, hb⟩
      have HB3 := hidden (bthen HB2.out hb)
      have HG := hidden hg
      clear hb hg c0 l0
      go_wp2_with fail
      refine (C1.out g _ HG.out).mono ?_
      rintro e w4 ⟨rfl, hb⟩
      have HB4 := hidden (bthen HB3.out hb)
      clear hb
      go_wp2
      go_ret
      exact ⟨rfl, HB4.out⟩
    · have h1 : ownF own agreed = (numG agreed 8 : Int) := if_neg he
      rw [h1] at C1
      have e1 : agreed.toList.isEmpty = false := by
        have : emt agreed = false := by simpa using he
        exact this
      clear h1 he ho2 hn
      generalize numG agreed 8 = nn at *
      go_enter Try.func27, Try.ntmps27
      go_wp2_with fail
      refine HP.out.mono ?_
      rintro e w2 ⟨rfl, hb⟩
      have HB2 := hidden (bthen HB0.out hb)
      have HK2 := hidden (blk_later HK.out hb)
      have c0 := blk_cell HK2.out
      have l0 := blk_lt HK2.out
      clear hb HP
      go_wp2_with fail
      refine (CN.out _).mono ?_
      rintro e w2b ⟨rfl, rfl⟩
      go_wp2_with fail
      refine (CB.out _).mono ?_
      rintro e w3 ⟨g, rfl, hg, hb⟩
      have HB3 := hidden (bthen HB2.out hb)
      have HG := hidden hg
      clear hb hg c0 l0
      go_wp2_with fail
      refine (C1.out g _ HG.out).mono ?_
      rintro e w4 ⟨rfl, hb⟩
      have HB4 := hidden (bthen HB3.out hb)
      clear hb
      go_wp2
      go_ret
      exact ⟨rfl, HB4.out⟩
  · have HF : Hid (nextF (plainE n f d p r dr o sl md fr zs) md own agreed = 0) := if_neg hE
    rw [HF.out]
    have j1 : (plainE n f d p r dr o sl md fr zs != 0) = true := bne_iff_ne.2 hE
    generalize plainE n f d p r dr o sl md fr zs = E at *
    clear hE hT HF
    go_enter Try.func27, Try.ntmps27
    go_wp2_with fail
    refine HP.out.mono ?_
    rintro e w2 ⟨rfl, hb⟩
    have HB2 := hidden (bthen HB0.out hb)
    clear hb HP
    go_wp2
    go_ret
    exact ⟨rfl, HB2.out⟩
set_option maxHeartbeats 2000000 in
theorem NApart_any (n f d p r dr o sl md fr : Int) (ad : Option Addr) (cap : Nat) (zs : List Int) (a b : Int) (w : World) (hl : zs.length ≤ 9223372036854775807) (hT : Tab w ad zs) (ha : -9223372036854775808 ≤ a ∧ a ≤ 9223372036854775807) (hb : -9223372036854775808 ≤ b ∧ b ≤ 9223372036854775807) :
    Calls Try.prog 31 #[.agg #[.int .i64 n, .int .i64 f, .int .i64 d, .int .i64 p, .int .i64 r, .int .i64 dr, .int .i64 o, .int .i64 sl, .int .i64 md, .int .i64 fr, .slice ad zs.length cap], .int .i64 a, .int .i64 b] w fun e w' => e = .returned (.int .i64 (apartF (plainE n f d p r dr o sl md fr zs) md a b)) ∧ Below w.heap.size w w' := by
  have HB0 := hidden (ballc w (.cells #[.int .i64 n, .int .i64 f, .int .i64 d, .int .i64 p, .int .i64 r, .int .i64 dr, .int .i64 o, .int .i64 sl, .int .i64 md, .int .i64 fr, .slice ad zs.length cap] 24))
  have HK := hidden (blk_nw w #[.int .i64 n, .int .i64 f, .int .i64 d, .int .i64 p, .int .i64 r, .int .i64 dr, .int .i64 o, .int .i64 sl, .int .i64 md, .int .i64 fr, .slice ad zs.length cap] 24)
  have HP := hidden (plain_any n f d p r dr o sl md fr ad cap zs (w.alloc (.cells #[.int .i64 n, .int .i64 f, .int .i64 d, .int .i64 p, .int .i64 r, .int .i64 dr, .int .i64 o, .int .i64 sl, .int .i64 md, .int .i64 fr, .slice ad zs.length cap] 24)) hl (hT.below (ballc _ _)))
  by_cases hE : plainE n f d p r dr o sl md fr zs = 0
  · obtain ⟨_, _, _, _, _, _, _, _, _, _, _, _, _, _, _, _, _, m1, m2, _⟩ := plainE_ok hE
    have b1 := modF_lt a m1 m2
    have b2 := modF_lt b m1 m2
    have C1 := hidden (fun V => Calls.to_below (mod_any a md V (wfS ha) (wfS (by omega))))
    have C2 := hidden (fun V => Calls.to_below (mod_any b md V (wfS hb) (wfS (by omega))))
    have C3 := hidden (fun V => Calls.to_below (mod_any (modF b md - modF a md) md V (wfS (by omega)) (wfS (by omega))))
    have HF : Hid (apartF (plainE n f d p r dr o sl md fr zs) md a b = modF (modF b md - modF a md) md) := if_pos hE
    rw [HF.out]
    rw [hE] at HP
    clear hE hT HF
    generalize modF (modF b md - modF a md) md = z3 at *
    generalize modF a md = z1 at *
    generalize modF b md = z2 at *
    have t1 : IntKind.i64.wrap (z2 - z1) = z2 - z1 := IntWalk.i64_in _ (by omega)
    go_enter Try.func31, Try.ntmps31
    go_wp2_with fail
    refine HP.out.mono ?_
    rintro e w2 ⟨rfl, hb⟩
    have HB2 := hidden (bthen HB0.out hb)
    have HK2 := hidden (blk_later HK.out hb)
    have c0 := blk_cell HK2.out
    have l0 := blk_lt HK2.out
    clear hb HP
    go_wp2
    refine wp_region_quiet_below (by kernel_rfl) (by kernel_rfl) ?_
    repeat (go_big_quiet_step (fail))
    go_big_quiet_step ((go_at_call 75; exact Calls.regrown_of (C2.out _)))
    repeat (go_big_quiet_step (fail))
    go_big_quiet_step ((go_at_call 75; exact Calls.regrown_of (C1.out _)))
    repeat (go_big_quiet_step (fail))
    go_big_quiet_step ((go_at_call 75; exact Calls.regrown_of (C3.out _)))
    repeat (go_big_quiet_step (fail))
    refine wpQuiet_nil ?_
    intro w5 hw5
    have HB5 := hidden (bthen HB2.out (rg_below hw5))
    clear hw5 c0 l0
    go_wp2
    go_ret
    exact ⟨rfl, HB5.out⟩
  · have HF : Hid (apartF (plainE n f d p r dr o sl md fr zs) md a b = 0) := if_neg hE
    rw [HF.out]
    have j1 : (plainE n f d p r dr o sl md fr zs != 0) = true := bne_iff_ne.2 hE
    generalize plainE n f d p r dr o sl md fr zs = E at *
    clear hE hT HF
    go_enter Try.func31, Try.ntmps31
    go_wp2_with fail
    refine HP.out.mono ?_
    rintro e w2 ⟨rfl, hb⟩
    have HB2 := hidden (bthen HB0.out hb)
    clear hb HP
    go_wp2
    go_ret
    exact ⟨rfl, HB2.out⟩
end Go.Proofs.Ytohgmliafidalaa
