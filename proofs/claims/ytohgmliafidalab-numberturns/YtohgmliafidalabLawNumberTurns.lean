/- The walk of the statement NumberTurns: the call returns true, and makes at most new memory; conditions: the table lies where it says, and lengths fit int. -/
import Derived.Test.YtohgmliafidalabNbrK
import Derived.Test.YtohgmliafidalabConfRef
namespace Go.Proofs.Ytohgmliafidalab.LawNumberTurns
open Go.ChangeShapes Go.WideShapes Go.ChangeAt Go.RowKit
set_option linter.unusedVariables false
attribute [local go_sem] cell_rg

theorem seq_nat (first : Int) {md : Int} (h : 2 ≤ md) (m : Nat) (hm : md = (m : Int)) : seqF md first m = seqF md first 0 := by
  rw [seqF_at first h, seqF_at first h, hm]
  rw [show first + (m : Int) = first + (m : Int) * 1 by omega, Int.add_mul_emod_self_left]
  simp
theorem apart_seq (first : Int) {md : Int} (h : 2 ≤ md) (h2 : md ≤ 250) (a b : Nat) : apartF 0 md (seqF md first a) (seqF md first b) = ((b : Int) - a) % md := by
  unfold apartF
  rw [if_pos rfl, modF_emod _ (by omega), modF_emod _ (by omega), modF_emod _ (by omega), seqF_at first h, seqF_at first h, Int.emod_emod, Int.emod_emod, ← Int.sub_emod]
  congr 1
  omega
theorem apart_one (first : Int) {md : Int} (h : 2 ≤ md) (h2 : md ≤ 250) (a : Nat) : apartF 0 md (seqF md first a) (seqF md first (a + 1)) = 1 := by
  rw [apart_seq first h h2, show ((a + 1 : Nat) : Int) - a = 1 by omega]
  exact Int.emod_eq_of_lt (by omega) (by omega)
theorem apart_all (first : Int) {md : Int} (h : 2 ≤ md) (h2 : md ≤ 250) (a : Nat) (ha : (a : Int) < md) : apartF 0 md (seqF md first 0) (seqF md first a) = a := by
  rw [apart_seq first h h2, show ((a : Nat) : Int) - (0 : Nat) = a by omega]
  exact Int.emod_eq_of_lt (by omega) ha
theorem seq_lim (first : Int) {md : Int} (h : 2 ≤ md) (h2 : md ≤ 250) (k : Nat) : 0 ≤ seqF md first k ∧ seqF md first k < md := by
  rw [seqF_at first h]
  exact ⟨Int.emod_nonneg _ (by omega), Int.emod_lt_of_pos _ (by omega)⟩
theorem kInt_row {n₀ : Nat} {W : World} {ad : Option Addr} {len cap : Nat} {hs : List Int} (h : kInt.Lies n₀ W (.slice ad len cap) hs) (h0 : 0 < hs.length) : ∃ b off : Nat, ad = some ⟨b, off, none⟩ ∧ b < n₀ ∧ ∀ j, (hj : j < hs.length) → W.cell? ⟨b, off + j, none⟩ = some (.int .i64 hs[j]) := by
  obtain ⟨b, off, he, hb, _⟩ := kInt_at h 0 h0
  refine ⟨b, off, he, hb, fun j hj => ?_⟩
  obtain ⟨b2, off2, he2, _, hc⟩ := kInt_at h j hj
  rw [he] at he2
  simp only [Option.some.injEq, Addr.mk.injEq, and_true] at he2
  obtain ⟨rfl, rfl⟩ := he2
  exact hc

set_option maxRecDepth 100000 in
set_option maxHeartbeats 8000000 in
theorem walk (n f d p r dr o sl md fr : Int) (ad : Option Addr) (cap : Nat) (zs : List Int) (first : Int) (w : World) (hl : zs.length ≤ 9223372036854775807) (hT : Tab w ad zs) (hf : -9223372036854775808 ≤ first ∧ first ≤ 9223372036854775807) :
    Calls Try.prog 3 #[.agg #[.int .i64 n, .int .i64 f, .int .i64 d, .int .i64 p, .int .i64 r, .int .i64 dr, .int .i64 o, .int .i64 sl, .int .i64 md, .int .i64 fr, .slice ad zs.length cap], .int .i64 first] w fun e w' => e = .returned (.bool true) ∧ Below w.heap.size w w' := by
  have KN := hidden (fun V => known20_any V)
  have HB0 := hidden (ballc w (.cells #[.int .i64 n, .int .i64 f, .int .i64 d, .int .i64 p, .int .i64 r, .int .i64 dr, .int .i64 o, .int .i64 sl, .int .i64 md, .int .i64 fr, .slice ad zs.length cap] 24))
  have HK := hidden (blk_nw w #[.int .i64 n, .int .i64 f, .int .i64 d, .int .i64 p, .int .i64 r, .int .i64 dr, .int .i64 o, .int .i64 sl, .int .i64 md, .int .i64 fr, .slice ad zs.length cap] 24)
  have HT := hidden (hT.below HB0.out)
  have HP := hidden (refPlain_any n f d p r dr o sl md fr ad cap zs (w.alloc (.cells #[.int .i64 n, .int .i64 f, .int .i64 d, .int .i64 p, .int .i64 r, .int .i64 dr, .int .i64 o, .int .i64 sl, .int .i64 md, .int .i64 fr, .slice ad zs.length cap] 24)) hl HT.out)
  by_cases hE : plainE n f d p r dr o sl md fr zs = 0
  · obtain ⟨_, _, _, _, _, _, _, _, _, _, _, _, _, _, _, _, _, m1, m2, _⟩ := plainE_ok hE
    obtain ⟨m, hm⟩ : ∃ m : Nat, md = (m : Int) := ⟨md.toNat, by omega⟩
    have hlim := seq_lim first m1 m2
    have hbd : ∀ k, -9223372036854775808 ≤ seqF md first k ∧ seqF md first k ≤ 9223372036854775807 := fun k => by have := hlim k; omega
    have CR : ∀ V, Tab V ad zs → Calls Try.prog 7 #[.agg #[.int .i64 n, .int .i64 f, .int .i64 d, .int .i64 p, .int .i64 r, .int .i64 dr, .int .i64 o, .int .i64 sl, .int .i64 md, .int .i64 fr, .slice ad zs.length cap], .int .i64 first, .int .i64 (md + 1)] V fun e w' => ∃ a c, e = .returned (.slice a (m + 1) c) ∧ kInt.Lies w'.heap.size w' (.slice a (m + 1) c) (seqL md first (m + 1)) ∧ Below V.heap.size V w' := fun V h => by
      have z := NRow_any n f d p r dr o sl md fr ad cap zs first (md + 1) V hl h hf
      have e : rowZ (plainE n f d p r dr o sl md fr zs) md first (md + 1) = seqL md first (m + 1) := by
        unfold rowZ
        rw [if_pos hE]
        congr 1
        have := (rowM_bd (md + 1)).2
        unfold clampF at this
        rw [if_neg (by omega), if_pos (by omega)] at this
        omega
      rw [e, seqL_len] at z
      exact z
    have CN : ∀ (k : Nat) V, Tab V ad zs → Calls Try.prog 8 #[.agg #[.int .i64 n, .int .i64 f, .int .i64 d, .int .i64 p, .int .i64 r, .int .i64 dr, .int .i64 o, .int .i64 sl, .int .i64 md, .int .i64 fr, .slice ad zs.length cap], .int .i64 (seqF md first k), .string ⟨#[]⟩] V fun e w' => e = .returned (.int .i64 (seqF md first (k + 1))) ∧ Below V.heap.size V w' := fun k V h => by
      have z := NNext_any n f d p r dr o sl md fr ad cap zs (seqF md first k) ⟨#[]⟩ V hl h (hbd k) (by decide)
      have e : nextF (plainE n f d p r dr o sl md fr zs) md (seqF md first k) ⟨#[]⟩ = seqF md first (k + 1) := by
        unfold nextF ownF
        rw [if_pos hE, if_pos (by decide +kernel)]
        rfl
      rw [e] at z
      exact z
    have CA : ∀ (a b : Nat) (z : Int), apartF 0 md (seqF md first a) (seqF md first b) = z → ∀ V, Tab V ad zs → Calls Try.prog 9 #[.agg #[.int .i64 n, .int .i64 f, .int .i64 d, .int .i64 p, .int .i64 r, .int .i64 dr, .int .i64 o, .int .i64 sl, .int .i64 md, .int .i64 fr, .slice ad zs.length cap], .int .i64 (seqF md first a), .int .i64 (seqF md first b)] V fun e w' => e = .returned (.int .i64 z) ∧ Below V.heap.size V w' := fun a b z hz V h => by
      have q := NApart_any n f d p r dr o sl md fr ad cap zs (seqF md first a) (seqF md first b) V hl h (hbd a) (hbd b)
      rw [hE, hz] at q
      exact q
    have CR := hidden CR
    have CN := hidden CN
    have CA1 := hidden (fun k : Nat => CA k (k + 1) 1 (apart_one first m1 m2 k))
    have CA0 := hidden (fun (k : Nat) (h : (k : Int) < md) => CA 0 k k (apart_all first m1 m2 k h))
    have HLIM := hidden hlim
    have HTURN := hidden (seq_nat first m1 m hm)
    have HSQ : Hid (∀ j, j < m + 1 → (h : j < (seqL md first (m + 1)).length) → (seqL md first (m + 1))[j] = seqF md first j) := fun j _ h => by
      simp [seqL]
    have hql := seqL_len md first (m + 1)
    rw [hE] at HP
    clear hE hT CA hlim hbd
    have t1 : IntKind.i64.wrap (md + 1) = md + 1 := IntWalk.i64_in _ (by omega)
    have HM := hidden hm
    have j4 : (((m + 1 : Nat) : Int) != md + 1) = false := bne_eq_false_iff_eq.2 (by omega)
    have j5 : ((m : Int) + 1 != md + 1) = false := bne_eq_false_iff_eq.2 (by omega)
    have hm1 : 1 ≤ m := by omega
    clear hm
    go_enter Try.func3, Try.ntmps3
    go_wp2_with fail
    refine HP.out.mono ?_
    rintro e w2 ⟨rfl, hb⟩
    have HB2 := hidden (bthen HB0.out hb)
    have HK2 := hidden (blk_later HK.out hb)
    have HT2 := hidden (HT.out.below hb)
    have c0 := blk_cell HK2.out
    have l0 := blk_lt HK2.out
    clear hb HP
    go_wp2_with fail
    refine (CR.out _ HT2.out).mono ?_
    rintro e w3 ⟨a3, c3, rfl, hL, hb⟩
    have HB3 := hidden (bthen HB2.out hb)
    have HK3 := hidden (blk_later HK2.out hb)
    have HT3 := hidden (HT2.out.below hb)
    obtain ⟨bn, on, rfl, hbn, en⟩ := kInt_row hL (by rw [hql]; omega)
    have EN : Hid (∀ j, j < m + 1 → w3.cell? ⟨bn, on + j, none⟩ = some (.int .i64 (seqF md first j))) := fun j hj => by
      have z := en j (by rw [hql]; exact hj)
      rw [HSQ.out j hj (by rw [hql]; exact hj)] at z
      exact z
    clear hb hL c0 l0 en hql HSQ
    have c0 := blk_cell HK3.out
    have l0 := blk_lt HK3.out
    have e0 := EN.out 0 (by omega)
    rw [Nat.add_zero] at e0
    have em := EN.out m (by omega)
    rw [HTURN.out] at em
    have b1 : (0 : Int) ≤ md := by omega
    have b2 : md < ((m + 1 : Nat) : Int) := by have := HM.out; omega
    have b2' : md < (m : Int) + 1 := by have := HM.out; omega
    have b3 : (0 : Int) < ((m + 1 : Nat) : Int) := by omega
    have b3' : (0 : Int) < (m : Int) + 1 := by omega
    have b4 : md.toNat = m := by have := HM.out; omega
    have B4 := hidden b4
    clear b4
    have jz : (seqF md first 0 != seqF md first 0) = false := by simp
    have em2 := em
    rw [← B4.out] at em2
    clear em
    go_wp2
    refine wp_region_quiet_below (by kernel_rfl) (by kernel_rfl) ?_
    repeat (go_big_quiet_step (fail))
    refine wpQuiet_nil ?_
    intro w4 hw4
    have HB4 := hidden (bthen HB3.out (rg_below hw4))
    have HB34 := hidden (rg_below hw4)
    have HK4 := hidden (blk_later HK3.out (rg_below hw4))
    have HT4 := hidden (HT3.out.below (rg_below hw4))
    clear hw4 c0 l0 e0 em2
    go_wp2
    clear b1 b2 b2' b3 b3' jz t1 j4 j5
    go_loopw [6] (fun i wr => ∃ k : Nat, (k : Int) ≤ md ∧ i = .int .i64 k ∧ Below w4.heap.size w4 wr) (fun i _ => m - (intV i).toNat)
    case atStart => exact ⟨0, by omega, rfl, Below.refl _ _⟩
    case round =>
      obtain ⟨k, hk, rfl, hB⟩ := hrel
      have HBr := hidden hB
      have HKr := hidden (blk_later HK4.out hB)
      have HTr := hidden (HT4.out.below hB)
      have c0 := blk_cell HKr.out
      have l0 := blk_lt HKr.out
      have HM3 := hidden (bthen HB34.out hB)
      clear hB
      by_cases hlt : (k : Int) < md
      · have hkm : k < m := by have := HM.out; omega
        have ek := (HM3.out.cell (p := ⟨bn, on + k, none⟩) hbn).trans (EN.out k (by omega))
        have ek1 := (HM3.out.cell (p := ⟨bn, on + (k + 1), none⟩) hbn).trans (EN.out (k + 1) (by omega))
        have e0 := (HM3.out.cell (p := ⟨bn, on, none⟩) hbn).trans (show w3.cell? ⟨bn, on, none⟩ = some (.int .i64 (seqF md first 0)) from EN.out 0 (by omega))
        have lbn : bn < wr.heap.size := Nat.lt_of_lt_of_le hbn HM3.out.size
        have CNk := hidden (CN.out k)
        have CA1k := hidden (CA1.out k)
        have CA0k := hidden (CA0.out k hlt)
        have hz := HLIM.out k
        generalize seqF md first (k + 1) = z1 at *
        generalize seqF md first k = z at *
        generalize seqF md first 0 = z0 at *
        have i0 : (0 : Int) ≤ (k : Int) := by omega
        have i1 : (k : Int) < (m : Int) + 1 := by omega
        have i2 : (k : Int) + 1 < (m : Int) + 1 := by omega
        have i3 : (0 : Int) < (m : Int) + 1 := by omega
        have d1 : decide (z < 0) = false := decide_eq_false (by omega)
        have d2 : decide (md ≤ z) = false := decide_eq_false (by omega)
        have d3 : (z1 != z1) = false := by simp
        have d4 : ((k : Int) != (k : Int)) = false := by simp
        have t1 : IntKind.i64.wrap ((k : Int) + 1) = (k : Int) + 1 := IntWalk.i64_in _ (by omega)
        clear hz
        go_wp2
        refine wp_region_quiet_below (by kernel_rfl) (by kernel_rfl) ?_
        repeat (go_big_quiet_step (fail))
        go_big_quiet_step ((go_at_call 8; exact Calls.regrown_of (CNk.out _ (HTr.out.below (below_regrown _ _ _)))))
        repeat (go_big_quiet_step (fail))
        go_big_quiet_step ((go_at_call 9; exact Calls.regrown_of (CA1k.out _ (HTr.out.below (below_regrown _ _ _)))))
        repeat (go_big_quiet_step (fail))
        go_big_quiet_step ((go_at_call 9; exact Calls.regrown_of (CA0k.out _ (HTr.out.below (below_regrown _ _ _)))))
        repeat (go_big_quiet_step (fail))
        refine wpQuiet_nil ?_
        intro w5 hw5
        have HB5 := hidden (bthen HBr.out (rg_below hw5))
        clear hw5 c0 l0 ek ek1 e0
        go_wp2
        go_roundw
        case rel => exact ⟨k + 1, by omega, by go_num, HB5.out⟩
        case measure => simp [intV]; omega
      · have HBZ := hidden (bthen HB4.out HBr.out)
        go_wp2_with fail
        refine (KN.out _).mono ?_
        rintro e w9 ⟨rfl, hb⟩
        have HB9 := hidden (bthen HBZ.out hb)
        clear hb
        go_wp2
        go_ret
        exact ⟨rfl, HB9.out⟩
  · have j1 : (plainE n f d p r dr o sl md fr zs != 0) = true := bne_iff_ne.2 hE
    generalize plainE n f d p r dr o sl md fr zs = E at *
    clear hE hT
    go_enter Try.func3, Try.ntmps3
    go_wp2_with fail
    refine HP.out.mono ?_
    rintro e w2 ⟨rfl, hb⟩
    have HBZ := hidden (bthen HB0.out hb)
    clear hb HP
    go_wp2_with fail
    refine (KN.out _).mono ?_
    rintro e w9 ⟨rfl, hb⟩
    have HB9 := hidden (bthen HBZ.out hb)
    clear hb
    go_wp2
    go_ret
    exact ⟨rfl, HB9.out⟩
end Go.Proofs.Ytohgmliafidalab.LawNumberTurns
