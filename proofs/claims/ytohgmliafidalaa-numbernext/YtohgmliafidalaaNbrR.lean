/- The document's calls Next, Members, Apart and Row of layer 20 return what plain functions give, and make at most new memory; conditions: the table lies where it says, numbers and lengths fit int. -/
import Derived.Test.YtohgmliafidalaaNbrB
import Derived.Test.YtohgmliafidalaaNbrC
import Derived.Test.YtohgmliafidalaaDigR
import Derived.Test.YtohgmliafidalaaNumRef
import Derived.Test.YtohgmliafidalaaVecR
import Derived.Test.YtohgmliafidalaaConfRef
namespace Go.Proofs.Ytohgmliafidalaa
open Go.ChangeShapes Go.WideShapes Go.ChangeAt Go.RowKit
set_option linter.unusedVariables false
attribute [local go_sem] cell_rg

set_option maxHeartbeats 2000000 in
theorem rNNext_any (n f d p r dr o sl md fr : Int) (ad : Option Addr) (cap : Nat) (zs : List Int) (own : Int) (agreed : ByteArray) (w : World) (hl : zs.length ≤ 9223372036854775807) (hT : Tab w ad zs) (ho : -9223372036854775808 ≤ own ∧ own ≤ 9223372036854775807) (hs : agreed.size ≤ 9223372036854775807) :
    Calls Try.prog 28 #[.agg #[.int .i64 n, .int .i64 f, .int .i64 d, .int .i64 p, .int .i64 r, .int .i64 dr, .int .i64 o, .int .i64 sl, .int .i64 md, .int .i64 fr, .slice ad zs.length cap], .int .i64 own, .string agreed] w fun e w' => e = .returned (.int .i64 (nextF (plainE n f d p r dr o sl md fr zs) md own agreed)) ∧ Below w.heap.size w w' := by
  have HB0 := hidden (ballc w (.cells #[.int .i64 n, .int .i64 f, .int .i64 d, .int .i64 p, .int .i64 r, .int .i64 dr, .int .i64 o, .int .i64 sl, .int .i64 md, .int .i64 fr, .slice ad zs.length cap] 24))
  have HK := hidden (blk_nw w #[.int .i64 n, .int .i64 f, .int .i64 d, .int .i64 p, .int .i64 r, .int .i64 dr, .int .i64 o, .int .i64 sl, .int .i64 md, .int .i64 fr, .slice ad zs.length cap] 24)
  have HP := hidden (refPlain_any n f d p r dr o sl md fr ad cap zs (w.alloc (.cells #[.int .i64 n, .int .i64 f, .int .i64 d, .int .i64 p, .int .i64 r, .int .i64 dr, .int .i64 o, .int .i64 sl, .int .i64 md, .int .i64 fr, .slice ad zs.length cap] 24)) hl (hT.below (ballc _ _)))
  by_cases hE : plainE n f d p r dr o sl md fr zs = 0
  · obtain ⟨_, _, _, _, _, _, _, _, _, _, _, _, _, _, _, _, _, m1, m2, _⟩ := plainE_ok hE
    have hn := numG_lt agreed 8
    have HF : Hid (nextF (plainE n f d p r dr o sl md fr zs) md own agreed = behF md (ownF own agreed)) := if_pos hE
    rw [HF.out]
    rw [hE] at HP
    clear hE hT HF
    by_cases he : emt agreed = true
    · have h1 : ownF own agreed = own := if_pos he
      rw [h1]
      have hb1 := modF_lt own m1 m2
      have C1 := hidden (fun V => Calls.to_below (rmod_any own md V (wfS ho) (wfS (by omega))))
      have C2 := hidden (fun V => Calls.to_below (rmod_any (modF own md + 1) md V (wfS (by omega)) (wfS (by omega))))
      have HF : Hid (behF md own = modF (modF own md + 1) md) := rfl
      rw [HF.out]
      clear HF
      generalize modF (modF own md + 1) md = z2 at *
      generalize modF own md = z1 at *
      have t1 : IntKind.i64.wrap (z1 + 1) = z1 + 1 := IntWalk.i64_in _ (by omega)
      have e1 : agreed.toList.isEmpty = true := he
      clear h1 he hn
      go_enter Try.func28, Try.ntmps28
      go_wp2_with fail
      refine HP.out.mono ?_
      rintro e w2 ⟨rfl, hb⟩
      have HB2 := hidden (bthen HB0.out hb)
      have HK2 := hidden (blk_later HK.out hb)
      have c0 := blk_cell HK2.out
      have l0 := blk_lt HK2.out
      clear hb HP
      go_wp2
      refine wp_region_quiet_below (by kernel_rfl) (by kernel_rfl) ?_
      repeat (go_big_quiet_step (fail))
      go_big_quiet_step ((go_at_call 74; exact Calls.regrown_of (C1.out _)))
      repeat (go_big_quiet_step (fail))
      go_big_quiet_step ((go_at_call 74; exact Calls.regrown_of (C2.out _)))
      repeat (go_big_quiet_step (fail))
      refine wpQuiet_nil ?_
      intro w5 hw5
      have HB5 := hidden (bthen HB2.out (rg_below hw5))
      clear hw5 c0 l0
      go_wp2
      go_ret
      exact ⟨rfl, HB5.out⟩
    · have h1 : ownF own agreed = (numG agreed 8 : Int) := if_neg he
      rw [h1]
      have e1 : agreed.toList.isEmpty = false := by
        have : emt agreed = false := by simpa using he
        exact this
      have CN := hidden (fun V => Calls.to_below (rNumber_any agreed hs V))
      have C2 := hidden (fun V => Calls.to_below (rmod_any ((numG agreed 8 : Int) + 1) md V (wfS (by omega)) (wfS (by omega))))
      have HF : Hid (behF md (numG agreed 8 : Int) = modF ((numG agreed 8 : Int) + 1) md) := behF_mod _ m1
      rw [HF.out]
      clear HF
      generalize numG agreed 8 = nn at *
      have t1 : IntKind.i64.wrap ((nn : Int) + 1) = (nn : Int) + 1 := IntWalk.i64_in _ (by omega)
      generalize modF ((nn : Int) + 1) md = z2 at *
      clear h1 he
      go_enter Try.func28, Try.ntmps28
      go_wp2_with fail
      refine HP.out.mono ?_
      rintro e w2 ⟨rfl, hb⟩
      have HB2 := hidden (bthen HB0.out hb)
      have HK2 := hidden (blk_later HK.out hb)
      have c0 := blk_cell HK2.out
      have l0 := blk_lt HK2.out
      clear hb HP
      go_wp2
      refine wp_region_quiet_below (by kernel_rfl) (by kernel_rfl) ?_
      repeat (go_big_quiet_step (fail))
      go_big_quiet_step ((go_at_call 24; exact Calls.regrown_of (CN.out _)))
      repeat (go_big_quiet_step (fail))
      go_big_quiet_step ((go_at_call 74; exact Calls.regrown_of (C2.out _)))
      repeat (go_big_quiet_step (fail))
      refine wpQuiet_nil ?_
      intro w5 hw5
      have HB5 := hidden (bthen HB2.out (rg_below hw5))
      clear hw5 c0 l0
      go_wp2
      go_ret
      exact ⟨rfl, HB5.out⟩
  · have HF : Hid (nextF (plainE n f d p r dr o sl md fr zs) md own agreed = 0) := if_neg hE
    rw [HF.out]
    have j1 : (plainE n f d p r dr o sl md fr zs != 0) = true := bne_iff_ne.2 hE
    generalize plainE n f d p r dr o sl md fr zs = E at *
    clear hE hT HF
    go_enter Try.func28, Try.ntmps28
    go_wp2_with fail
    refine HP.out.mono ?_
    rintro e w2 ⟨rfl, hb⟩
    have HB2 := hidden (bthen HB0.out hb)
    clear hb HP
    go_wp2
    go_ret
    exact ⟨rfl, HB2.out⟩
set_option maxHeartbeats 2000000 in
theorem rNMembers_any (N : Nat) (f d p r dr o sl md fr : Int) (ad : Option Addr) (cap : Nat) (zs : List Int) (own agreed : ByteArray) (w : World) (hl : zs.length ≤ 9223372036854775807) (hT : Tab w ad zs) (hs1 : own.size ≤ 9223372036854775807) (hs2 : agreed.size ≤ 9223372036854775807) :
    Calls Try.prog 30 #[.agg #[.int .i64 (N : Int), .int .i64 f, .int .i64 d, .int .i64 p, .int .i64 r, .int .i64 dr, .int .i64 o, .int .i64 sl, .int .i64 md, .int .i64 fr, .slice ad zs.length cap], .string own, .string agreed] w fun e w' => e = .returned (.string (memF (plainE (N : Int) f d p r dr o sl md fr zs) N own agreed)) ∧ Below w.heap.size w w' := by
  have HB0 := hidden (ballc w (.cells #[.int .i64 (N : Int), .int .i64 f, .int .i64 d, .int .i64 p, .int .i64 r, .int .i64 dr, .int .i64 o, .int .i64 sl, .int .i64 md, .int .i64 fr, .slice ad zs.length cap] 24))
  have HK := hidden (blk_nw w #[.int .i64 (N : Int), .int .i64 f, .int .i64 d, .int .i64 p, .int .i64 r, .int .i64 dr, .int .i64 o, .int .i64 sl, .int .i64 md, .int .i64 fr, .slice ad zs.length cap] 24)
  have HP := hidden (refPlain_any (N : Int) f d p r dr o sl md fr ad cap zs (w.alloc (.cells #[.int .i64 (N : Int), .int .i64 f, .int .i64 d, .int .i64 p, .int .i64 r, .int .i64 dr, .int .i64 o, .int .i64 sl, .int .i64 md, .int .i64 fr, .slice ad zs.length cap] 24)) hl (hT.below (ballc _ _)))
  by_cases hE : plainE (N : Int) f d p r dr o sl md fr zs = 0
  · obtain ⟨n1, n2, _⟩ := plainE_ok hE
    have C1 := hidden (fun V => rDigits_any own 0 N V hs1 (by omega) (by omega))
    have C2 := hidden (fun V => rDigits_any agreed 8 N V hs2 (by omega) (by omega))
    have HF : Hid (memF (plainE (N : Int) f d p r dr o sl md fr zs) N own agreed = if emt agreed = true then digT own 0 N else digT agreed 8 N) := if_pos hE
    rw [HF.out]
    rw [hE] at HP
    clear hE hT HF
    by_cases he : emt agreed = true
    · rw [if_pos he]
      have e1 : agreed.toList.isEmpty = true := he
      generalize digT own 0 N = out at *
      clear he
      go_enter Try.func30, Try.ntmps30
      go_wp2_with fail
      refine HP.out.mono ?_
      rintro e w2 ⟨rfl, hb⟩
      have HB2 := hidden (bthen HB0.out hb)
      have HK2 := hidden (blk_later HK.out hb)
      have c0 := blk_cell HK2.out
      have l0 := blk_lt HK2.out
      clear hb HP
      go_wp2_with fail
      refine (C1.out _).mono ?_
      rintro e w3 ⟨rfl, rfl⟩
      go_wp2
      go_ret
      exact ⟨rfl, HB2.out⟩
    · rw [if_neg he]
      have e1 : agreed.toList.isEmpty = false := by
        have : emt agreed = false := by simpa using he
        exact this
      generalize digT agreed 8 N = out at *
      clear he
      go_enter Try.func30, Try.ntmps30
      go_wp2_with fail
      refine HP.out.mono ?_
      rintro e w2 ⟨rfl, hb⟩
      have HB2 := hidden (bthen HB0.out hb)
      have HK2 := hidden (blk_later HK.out hb)
      have c0 := blk_cell HK2.out
      have l0 := blk_lt HK2.out
      clear hb HP
      go_wp2_with fail
      refine (C2.out _).mono ?_
      rintro e w3 ⟨rfl, rfl⟩
      go_wp2
      go_ret
      exact ⟨rfl, HB2.out⟩
  · have HF : Hid (memF (plainE (N : Int) f d p r dr o sl md fr zs) N own agreed = noB) := if_neg hE
    rw [HF.out]
    have j1 : (plainE (N : Int) f d p r dr o sl md fr zs != 0) = true := bne_iff_ne.2 hE
    generalize plainE (N : Int) f d p r dr o sl md fr zs = E at *
    clear hE hT HF
    go_enter Try.func30, Try.ntmps30
    go_wp2_with fail
    refine HP.out.mono ?_
    rintro e w2 ⟨rfl, hb⟩
    have HB2 := hidden (bthen HB0.out hb)
    clear hb HP
    go_wp2
    go_ret
    exact ⟨rfl, HB2.out⟩
set_option maxHeartbeats 2000000 in
theorem rNApart_any (n f d p r dr o sl md fr : Int) (ad : Option Addr) (cap : Nat) (zs : List Int) (a b : Int) (w : World) (hl : zs.length ≤ 9223372036854775807) (hT : Tab w ad zs) (ha : -9223372036854775808 ≤ a ∧ a ≤ 9223372036854775807) (hb : -9223372036854775808 ≤ b ∧ b ≤ 9223372036854775807) :
    Calls Try.prog 32 #[.agg #[.int .i64 n, .int .i64 f, .int .i64 d, .int .i64 p, .int .i64 r, .int .i64 dr, .int .i64 o, .int .i64 sl, .int .i64 md, .int .i64 fr, .slice ad zs.length cap], .int .i64 a, .int .i64 b] w fun e w' => e = .returned (.int .i64 (apartF (plainE n f d p r dr o sl md fr zs) md a b)) ∧ Below w.heap.size w w' := by
  have HB0 := hidden (ballc w (.cells #[.int .i64 n, .int .i64 f, .int .i64 d, .int .i64 p, .int .i64 r, .int .i64 dr, .int .i64 o, .int .i64 sl, .int .i64 md, .int .i64 fr, .slice ad zs.length cap] 24))
  have HK := hidden (blk_nw w #[.int .i64 n, .int .i64 f, .int .i64 d, .int .i64 p, .int .i64 r, .int .i64 dr, .int .i64 o, .int .i64 sl, .int .i64 md, .int .i64 fr, .slice ad zs.length cap] 24)
  have HP := hidden (refPlain_any n f d p r dr o sl md fr ad cap zs (w.alloc (.cells #[.int .i64 n, .int .i64 f, .int .i64 d, .int .i64 p, .int .i64 r, .int .i64 dr, .int .i64 o, .int .i64 sl, .int .i64 md, .int .i64 fr, .slice ad zs.length cap] 24)) hl (hT.below (ballc _ _)))
  by_cases hE : plainE n f d p r dr o sl md fr zs = 0
  · obtain ⟨_, _, _, _, _, _, _, _, _, _, _, _, _, _, _, _, _, m1, m2, _⟩ := plainE_ok hE
    have b1 := modF_lt a m1 m2
    have b2 := modF_lt b m1 m2
    have C1 := hidden (fun V => Calls.to_below (rmod_any a md V (wfS ha) (wfS (by omega))))
    have C2 := hidden (fun V => Calls.to_below (rmod_any b md V (wfS hb) (wfS (by omega))))
    have C3 := hidden (fun V => Calls.to_below (rmod_any (modF b md - modF a md) md V (wfS (by omega)) (wfS (by omega))))
    have HF : Hid (apartF (plainE n f d p r dr o sl md fr zs) md a b = modF (modF b md - modF a md) md) := if_pos hE
    rw [HF.out]
    rw [hE] at HP
    clear hE hT HF
    generalize modF (modF b md - modF a md) md = z3 at *
    generalize modF a md = z1 at *
    generalize modF b md = z2 at *
    have t1 : IntKind.i64.wrap (z2 - z1) = z2 - z1 := IntWalk.i64_in _ (by omega)
    go_enter Try.func32, Try.ntmps32
    go_wp2_with fail
    refine HP.out.mono ?_
    rintro e w2 ⟨rfl, hb⟩
    have HB2 := hidden (bthen HB0.out hb)
    have HK2 := hidden (blk_later HK.out hb)
    have c0 := blk_cell HK2.out
    have l0 := blk_lt HK2.out
    clear hb HP
    go_wp2
    refine wp_region_quiet_below (by kernel_rfl) (by kernel_rfl) ?_
    repeat (go_big_quiet_step (fail))
    go_big_quiet_step ((go_at_call 74; exact Calls.regrown_of (C2.out _)))
    repeat (go_big_quiet_step (fail))
    go_big_quiet_step ((go_at_call 74; exact Calls.regrown_of (C1.out _)))
    repeat (go_big_quiet_step (fail))
    go_big_quiet_step ((go_at_call 74; exact Calls.regrown_of (C3.out _)))
    repeat (go_big_quiet_step (fail))
    refine wpQuiet_nil ?_
    intro w5 hw5
    have HB5 := hidden (bthen HB2.out (rg_below hw5))
    clear hw5 c0 l0
    go_wp2
    go_ret
    exact ⟨rfl, HB5.out⟩
  · have HF : Hid (apartF (plainE n f d p r dr o sl md fr zs) md a b = 0) := if_neg hE
    rw [HF.out]
    have j1 : (plainE n f d p r dr o sl md fr zs != 0) = true := bne_iff_ne.2 hE
    generalize plainE n f d p r dr o sl md fr zs = E at *
    clear hE hT HF
    go_enter Try.func32, Try.ntmps32
    go_wp2_with fail
    refine HP.out.mono ?_
    rintro e w2 ⟨rfl, hb⟩
    have HB2 := hidden (bthen HB0.out hb)
    clear hb HP
    go_wp2
    go_ret
    exact ⟨rfl, HB2.out⟩
set_option maxRecDepth 100000 in
set_option maxHeartbeats 4000000 in
theorem rNRow_any (n f d p r dr o sl md fr : Int) (ad : Option Addr) (cap : Nat) (zs : List Int) (first num : Int) (w : World) (hl : zs.length ≤ 9223372036854775807) (hT : Tab w ad zs) (hf : -9223372036854775808 ≤ first ∧ first ≤ 9223372036854775807) :
    Calls Try.prog 35 #[.agg #[.int .i64 n, .int .i64 f, .int .i64 d, .int .i64 p, .int .i64 r, .int .i64 dr, .int .i64 o, .int .i64 sl, .int .i64 md, .int .i64 fr, .slice ad zs.length cap], .int .i64 first, .int .i64 num] w fun e w' => ∃ a c, e = .returned (.slice a (rowZ (plainE n f d p r dr o sl md fr zs) md first num).length c) ∧ kInt.Lies w'.heap.size w' (.slice a (rowZ (plainE n f d p r dr o sl md fr zs) md first num).length c) (rowZ (plainE n f d p r dr o sl md fr zs) md first num) ∧ Below w.heap.size w w' := by
  have HB0 := hidden (ballc w (.cells #[.int .i64 n, .int .i64 f, .int .i64 d, .int .i64 p, .int .i64 r, .int .i64 dr, .int .i64 o, .int .i64 sl, .int .i64 md, .int .i64 fr, .slice ad zs.length cap] 24))
  have HK := hidden (blk_nw w #[.int .i64 n, .int .i64 f, .int .i64 d, .int .i64 p, .int .i64 r, .int .i64 dr, .int .i64 o, .int .i64 sl, .int .i64 md, .int .i64 fr, .slice ad zs.length cap] 24)
  have HT := hidden (hT.below HB0.out)
  have HP := hidden (refPlain_any n f d p r dr o sl md fr ad cap zs (w.alloc (.cells #[.int .i64 n, .int .i64 f, .int .i64 d, .int .i64 p, .int .i64 r, .int .i64 dr, .int .i64 o, .int .i64 sl, .int .i64 md, .int .i64 fr, .slice ad zs.length cap] 24)) hl HT.out)
  by_cases hE : plainE n f d p r dr o sl md fr zs = 0
  · obtain ⟨_, _, _, _, _, _, _, _, _, _, _, _, _, _, _, _, _, m1, m2, _⟩ := plainE_ok hE
    have hbm := rowM_bd num
    have CM := hidden (fun V => rmod_any first md V (wfS hf) (wfS (by omega)))
    have HS0 : Hid (modF first md = seqF md first 0) := rfl
    have HSB : ∀ k, -9223372036854775808 ≤ seqF md first k ∧ seqF md first k ≤ 9223372036854775807 := fun k => by
      have : 0 ≤ seqF md first k ∧ seqF md first k ≤ 249 := by
        cases k with
        | zero => exact modF_lt first m1 m2
        | succ k => exact behF_bd _ m1 m2
      omega
    have CN : ∀ (k : Nat) V, Tab V ad zs → Calls Try.prog 28 #[.agg #[.int .i64 n, .int .i64 f, .int .i64 d, .int .i64 p, .int .i64 r, .int .i64 dr, .int .i64 o, .int .i64 sl, .int .i64 md, .int .i64 fr, .slice ad zs.length cap], .int .i64 (seqF md first k), .string ⟨#[]⟩] V fun e w' => e = .returned (.int .i64 (seqF md first (k + 1))) ∧ Below V.heap.size V w' := fun k V h => by
      have z := rNNext_any n f d p r dr o sl md fr ad cap zs (seqF md first k) ⟨#[]⟩ V hl h (HSB k) (by decide)
      have e : nextF (plainE n f d p r dr o sl md fr zs) md (seqF md first k) ⟨#[]⟩ = seqF md first (k + 1) := by
        unfold nextF ownF
        rw [if_pos hE, if_pos (by decide +kernel)]
        rfl
      rw [e] at z
      exact z
    have CN := hidden CN
    have HZ : Hid (rowZ (plainE n f d p r dr o sl md fr zs) md first num = seqL md first (rowM num)) := if_pos hE
    rw [HZ.out, seqL_len]
    have hnum : num ≤ (rowM num : Int) ∨ rowM num = 2000 := by
      have := hbm.2
      unfold clampF at this
      split at this
      · left; omega
      · split at this <;> omega
    have hnum2 : ∀ k : Nat, k < rowM num → (k : Int) < num := fun k hk => by
      have := hbm.2
      unfold clampF at this
      split at this
      · omega
      · split at this <;> omega
    rw [hE] at HP
    rw [HS0.out] at CM
    clear hE hT HZ HS0 HSB
    obtain ⟨m, hm⟩ : ∃ m, m = rowM num := ⟨_, rfl⟩
    rw [← hm] at hbm hnum hnum2 ⊢
    have hm2 := hbm.1
    have HNUM := hidden hnum
    have HNUM2 := hidden hnum2
    obtain ⟨i0, hi, hz0, hz1, hz2⟩ := info_of infoInt
    clear hbm hm hnum hnum2
    go_enter Try.func35, Try.ntmps35
    go_wp2_with fail
    refine HP.out.mono ?_
    rintro e w2 ⟨rfl, hb⟩
    have HB2 := hidden (bthen HB0.out hb)
    have HK2 := hidden (blk_later HK.out hb)
    have HT2 := hidden (HT.out.below hb)
    have c0 := blk_cell HK2.out
    have l0 := blk_lt HK2.out
    clear hb HP
    go_wp2_with fail
    refine (CM.out _).mono ?_
    rintro e w3 ⟨rfl, rfl⟩
    clear c0 l0
    go_wp2
    go_loopw [7, 8, 9] (fun a nw i wr => ∃ k : Nat, k ≤ m ∧ i = .int .i64 k ∧ nw = .int .i64 (seqF md first k) ∧ wr.ownsRow w2.heap.size 3 1 a k (kInt.flat (seqL md first k)) ∧ Below w2.heap.size w2 wr) (fun _ _ i _ => m - (intV i).toNat)
    case atStart => exact ⟨0, Nat.zero_le _, rfl, rfl, World.ownsRow_nil _ _ _ _, Below.refl _ _⟩
    case round =>
      obtain ⟨k, hk, rfl, rfl, hown, hB⟩ := hrel
      have HB := hidden hB
      have HTr := hidden (HT2.out.below hB)
      have HKr := hidden (blk_later HK2.out hB)
      have HO := hidden hown
      clear hB
      by_cases hlt : k < m
      · have i2 : (k : Int) < num := HNUM2.out k hlt
        have i3 : decide ((k : Int) < num) = true := decide_eq_true i2
        have i4 : (k : Int) < 2000 := by omega
        have i5 : decide ((k : Int) < 2000) = true := decide_eq_true i4
        have HS := hidden (seqL_s md first k)
        have CK := hidden (CN.out k)
        have h2s := HB.out.size
        clear hown
        generalize seqF md first k = z at *
        go_wp2_with (at_builtin; refine kInt.wpList_append _ rfl (.tmp 26) (.tmp 28) 22 rfl w2.heap.size 3 i0 (.int .i64 0) 8 Try.underlying22 hi hz0 hz1 hz2 rfl u7 k _ rfl (HO.out.alloc _) (.slice (some ⟨wr.heap.size, 0, none⟩) 1 1) [z] rfl (Kind.Lies.of_block (K := kInt) (es := [z]) (heap_alloc_new wr _) (by simp [maxLen])) (by simp only [maxLen, List.length_singleton]; omega) (by simp only [List.length_singleton]; omega) (by simp; omega) ?_; intro v3 w3 hown3 hgrow3 _; refine Hid.out ?_)
        have hB3 : Below w2.heap.size w2 w3 := (HB.out.alloc h2s _).grown hgrow3 (by simp; omega) (own_from HO.out)
        have hrow : w3.ownsRow w2.heap.size 3 1 v3 (k + 1) (kInt.flat (seqL md first (k + 1))) := by
          rw [HS.out, Kind.flat_append]
          exact hown3
        have HR := hidden hrow
        have HB3 := hidden hB3
        have HT3 := hidden (HT2.out.below hB3)
        have HK3 := hidden (blk_later HK2.out hB3)
        have c0 := blk_cell HK3.out
        have l0 := blk_lt HK3.out
        clear hown3 hgrow3 hrow hB3
        refine hidden ?_
        go_wp2_with fail
        refine (CK.out _ HT3.out).mono ?_
        rintro e w4 ⟨rfl, hb⟩
        have HB4 := hidden (bthen HB3.out hb)
        have HR4 := hidden (own_below HR.out hb)
        clear hb c0 l0
        go_wp2
        go_roundw
        case rel => exact ⟨k + 1, by omega, by go_num, rfl, HR4.out, HB4.out⟩
        case measure => simp [intV]; omega
      · obtain rfl : k = m := by omega
        obtain ⟨ax, cx, rfl⟩ := own_slice hown
        have hlen := seqL_len md first k
        have hlies : kInt.Lies wr.heap.size wr (.slice ax k cx) (seqL md first k) := Kind.Lies.of_own (K := kInt) (base := w2.heap.size) (e := 3) (by rw [hlen]; exact hown)
        have HL := hidden hlies
        have HBZ := hidden (bthen HB2.out HB.out)
        clear hown hlies hlen
        rcases HNUM.out with hq | hq
        · have i3 : decide ((k : Int) < num) = false := decide_eq_false (by omega)
          go_wp2
          go_ret
          exact ⟨_, _, rfl, HL.out, HBZ.out⟩
        · have i4 : ¬ (k : Int) < 2000 := by omega
          have i5 : decide ((k : Int) < 2000) = false := decide_eq_false i4
          by_cases hkn : (k : Int) < num
          · have i3 : decide ((k : Int) < num) = true := decide_eq_true hkn
            clear hq
            go_wp2
            go_ret
            exact ⟨_, _, rfl, HL.out, HBZ.out⟩
          · have i3 : decide ((k : Int) < num) = false := decide_eq_false hkn
            clear hq
            go_wp2
            go_ret
            exact ⟨_, _, rfl, HL.out, HBZ.out⟩
  · have HZ : Hid (rowZ (plainE n f d p r dr o sl md fr zs) md first num = []) := if_neg hE
    rw [HZ.out]
    have j1 : (plainE n f d p r dr o sl md fr zs != 0) = true := bne_iff_ne.2 hE
    generalize plainE n f d p r dr o sl md fr zs = E at *
    clear hE hT HZ
    go_enter Try.func35, Try.ntmps35
    go_wp2_with fail
    refine HP.out.mono ?_
    rintro e w2 ⟨rfl, hb⟩
    have HB2 := hidden (bthen HB0.out hb)
    clear hb HP
    go_wp2
    go_ret
    exact ⟨none, 0, rfl, Kind.Lies.nil _ _, HB2.out⟩
end Go.Proofs.Ytohgmliafidalaa
