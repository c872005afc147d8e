/- The walk of the statement PacketStrips: the call returns true, and makes at most new memory; conditions: the table lies where it says, lengths fit int. -/
import Derived.Test.YtjkliandhcegeaaPacK
namespace Go.Proofs.Ytjkliandhcegeaa.LawPacketStrips
open Go.ChangeShapes Go.WideShapes Go.ChangeAt Go.RowKit
set_option linter.unusedVariables false
attribute [local go_sem] cell_rg

theorem ok_of {E R B L M : Int} (vo : ByteArray) (ex : Int) (ve : ByteArray) (ps cy : Int) (te : ByteArray) (h : pRight E R B L M vo ex ve ps cy te = 0) : E = 0 ∧ areD vo R = true ∧ ¬ (ex < 0 ∨ R < ex ∨ (ex = 0 ∧ emp ve = false) ∨ (¬ ex = 0 ∧ areD ve B = false)) ∧ ¬ (ps < 0 ∨ L < ps) ∧ ¬ (cy < 0 ∨ M ≤ cy ∨ (ps = 0 ∧ (¬ cy = 0 ∨ emp te = false))) ∧ ¬ 16 < te.size := by
  by_cases e : E = 0
  · cases a : areD vo R
    · rw [pr_A e a] at h; omega
    by_cases b : ex < 0 ∨ R < ex ∨ (ex = 0 ∧ emp ve = false) ∨ (¬ ex = 0 ∧ areD ve B = false)
    · rw [pr_B e a b] at h; omega
    by_cases c : ps < 0 ∨ L < ps
    · rw [pr_C e a b c] at h; omega
    by_cases d : cy < 0 ∨ M ≤ cy ∨ (ps = 0 ∧ (¬ cy = 0 ∨ emp te = false))
    · rw [pr_D e a b c d] at h; omega
    by_cases f : 16 < te.size
    · rw [pr_F e a b c d f] at h; omega
    exact ⟨e, rfl, b, c, d, f⟩
  · rw [pr_E e] at h; exact absurd h e
theorem strip_ok {E R B L M : Int} (vo : ByteArray) (ex : Int) (ve : ByteArray) (ps cy : Int) (te : ByteArray) (hL : 0 ≤ L) (hM : 0 < M) (h : pRight E R B L M vo ex ve ps cy te = 0) : pRight E R B L M vo ex ve 0 0 ⟨#[]⟩ = 0 := by
  obtain ⟨e, a, b, c, d, f⟩ := ok_of vo ex ve ps cy te h
  exact pr_O e a b (by omega) (by rw [emp_no]; simp; omega) (by decide)
theorem carry_ok {E R B L M : Int} (vo : ByteArray) (ex : Int) (ve : ByteArray) (ps cy : Int) (te : ByteArray) (s k : Int) (hL : L ≤ 32) (h : pRight E R B L M vo ex ve ps cy te = 0) (h1 : 0 ≤ s) (h2 : s < L) (h3 : 0 ≤ k) (h4 : k < M) : pRight E R B L M vo ex ve (carS s) (carC s k) (carT s te) = 0 := by
  obtain ⟨e, a, b, c, d, f⟩ := ok_of vo ex ve ps cy te h
  have n : ¬ (s < 0 ∨ 32 ≤ s) := by omega
  have e1 : carS s = s + 1 := if_neg n
  have e2 : carC s k = k := if_neg n
  have e3 : carT s te = te := if_neg n
  rw [e1, e2, e3]
  exact pr_O e a b (by omega) (fun h => by rcases h with h | h | ⟨h, _⟩ <;> omega) f
theorem bool_split (b : Bool) : b = true ∨ b = false := by cases b <;> simp
set_option maxHeartbeats 8000000 in
theorem walk (n f d p r dr o sl md fr : Int) (ad : Option Addr) (cap : Nat) (zs : List Int) (vo : ByteArray) (ex : Int) (ve : ByteArray) (ps cy : Int) (te : ByteArray) (s k : Int) (w : World) (hl : zs.length ≤ 9223372036854775807) (hT : Tab w ad zs) (sv : vo.size ≤ 9223372036854775807) (kx : (Lit.int .i64 ex).wf = true) (se : ve.size ≤ 9223372036854775807) (kp : (Lit.int .i64 ps).wf = true) (kc : (Lit.int .i64 cy).wf = true) (st : te.size ≤ 9223372036854775807)
    (hs : -9223372036854775808 ≤ s ∧ s ≤ 9223372036854775807) (hk : -9223372036854775808 ≤ k ∧ k ≤ 9223372036854775807) :
    Calls Try.prog 8 #[.agg #[.int .i64 n, .int .i64 f, .int .i64 d, .int .i64 p, .int .i64 r, .int .i64 dr, .int .i64 o, .int .i64 sl, .int .i64 md, .int .i64 fr, .slice ad zs.length cap], .agg #[.string vo, .int .i64 ex, .string ve, .int .i64 ps, .int .i64 cy, .string te], .int .i64 s, .int .i64 k] w fun e w' => e = .returned (.bool true) ∧ Below w.heap.size w w' := by
  have HT := hidden (hT.below (bthen (ballc w (.cells #[.int .i64 n, .int .i64 f, .int .i64 d, .int .i64 p, .int .i64 r, .int .i64 dr, .int .i64 o, .int .i64 sl, .int .i64 md, .int .i64 fr, .slice ad zs.length cap] 36)) (ballc _ (.cells #[.string vo, .int .i64 ex, .string ve, .int .i64 ps, .int .i64 cy, .string te] 38))))
  have HW0 := hidden (bthen (ballc w (.cells #[.int .i64 n, .int .i64 f, .int .i64 d, .int .i64 p, .int .i64 r, .int .i64 dr, .int .i64 o, .int .i64 sl, .int .i64 md, .int .i64 fr, .slice ad zs.length cap] 36)) (ballc _ (.cells #[.string vo, .int .i64 ex, .string ve, .int .i64 ps, .int .i64 cy, .string te] 38)))
  have ct : (carT s te).size ≤ 9223372036854775807 := by unfold carT; split; decide; exact st
  have CS := fun V => Strip_any vo ex ve ps cy te V
  have CQ := fun V => Carry_any vo ex ve ps cy te s k te V
  have CZ := fun a b c V => Strip_any vo ex ve a b c V
  have C1 := fun V h => Right_any n f d p r dr o sl md fr ad cap zs vo ex ve ps cy te V hl h sv se st
  have C2 := fun V h => Right_any n f d p r dr o sl md fr ad cap zs vo ex ve 0 0 ⟨#[]⟩ V hl h sv se (by decide)
  have C3 := fun V h => Right_any n f d p r dr o sl md fr ad cap zs vo ex ve (carS s) (carC s k) (carT s te) V hl h sv se ct
  have HOK : Hid (pRight (plainE n f d p r dr o sl md fr zs) (3 * (f + 1)) (8 + n) zs.length md vo ex ve ps cy te = 0 → 1 ≤ (zs.length : Int) ∧ (zs.length : Int) ≤ 32 ∧ 2 ≤ md) := fun h => by
    have h2 := plainE_ok (ok_of _ _ _ _ _ _ h).1
    omega
  have HS : Hid (pRight (plainE n f d p r dr o sl md fr zs) (3 * (f + 1)) (8 + n) zs.length md vo ex ve ps cy te = 0 → pRight (plainE n f d p r dr o sl md fr zs) (3 * (f + 1)) (8 + n) zs.length md vo ex ve 0 0 ⟨#[]⟩ = 0) := fun h => strip_ok _ _ _ _ _ _ (by have := HOK.out h; omega) (by have := HOK.out h; omega) h
  have HK : Hid (pRight (plainE n f d p r dr o sl md fr zs) (3 * (f + 1)) (8 + n) zs.length md vo ex ve ps cy te = 0 → 0 ≤ s → s < zs.length → 0 ≤ k → k < md → pRight (plainE n f d p r dr o sl md fr zs) (3 * (f + 1)) (8 + n) zs.length md vo ex ve (carS s) (carC s k) (carT s te) = 0) := fun h h1 h2 h3 h4 => carry_ok _ _ _ _ _ _ s k (by have := HOK.out h; omega) h h1 h2 h3 h4
  generalize pRight (plainE n f d p r dr o sl md fr zs) (3 * (f + 1)) (8 + n) zs.length md vo ex ve ps cy te = E1 at *
  generalize pRight (plainE n f d p r dr o sl md fr zs) (3 * (f + 1)) (8 + n) zs.length md vo ex ve 0 0 ⟨#[]⟩ = E2 at *
  generalize pRight (plainE n f d p r dr o sl md fr zs) (3 * (f + 1)) (8 + n) zs.length md vo ex ve (carS s) (carC s k) (carT s te) = E3 at *
  generalize carS s = S at *
  generalize carC s k = K at *
  generalize carT s te = T at *
  clear hT HOK ct
  go_enter Try.func8, Try.ntmps8
  go_wp2_with fail
  refine (CS _).mono ?_
  rintro e w1 ⟨rfl, hb1⟩
  have HB1 := hidden hb1
  clear hb1 CS
  obtain ⟨g1, g2, g4, g3⟩ := box_two HB1.out
  have CQ' := CQ
  go_wp2_with fail
  refine (CQ _).mono ?_
  rintro e w2 ⟨rfl, hb2⟩
  have j1 := HB1.out.size
  simp only [World.size_alloc] at j1
  have j2 := hb2.size
  simp only [World.size_alloc] at j2
  have hW : Below w1.heap.size w1 (w2.alloc (.cells #[.string vo, .int .i64 ex, .string ve, .int .i64 S, .int .i64 K, .string T] 38)) := bthen (bthen (ballc w1 _) hb2) (ballc w2 _)
  have kk4 : w1.heap[w.heap.size]? = some (.cells #[.int .i64 n, .int .i64 f, .int .i64 d, .int .i64 p, .int .i64 r, .int .i64 dr, .int .i64 o, .int .i64 sl, .int .i64 md, .int .i64 fr, .slice ad zs.length cap] 36 (0, 0)) := (HB1.out.block _ (by simp; omega)).trans (((ballc (w.alloc (.cells #[.int .i64 n, .int .i64 f, .int .i64 d, .int .i64 p, .int .i64 r, .int .i64 dr, .int .i64 o, .int .i64 sl, .int .i64 md, .int .i64 fr, .slice ad zs.length cap] 36)) _).block _ (by simp)).trans (heap_alloc_new w _))
  have kk5 : w1.heap[w.heap.size + 1]? = some (.cells #[.string vo, .int .i64 ex, .string ve, .int .i64 ps, .int .i64 cy, .string te] 38 (0, 0)) := blk_second _ _ _ _ HB1.out
  have k4 : (w2.alloc (.cells #[.string vo, .int .i64 ex, .string ve, .int .i64 S, .int .i64 K, .string T] 38)).heap[w.heap.size]? = some (.cells #[.int .i64 n, .int .i64 f, .int .i64 d, .int .i64 p, .int .i64 r, .int .i64 dr, .int .i64 o, .int .i64 sl, .int .i64 md, .int .i64 fr, .slice ad zs.length cap] 36 (0, 0)) := (hW.block _ (by omega)).trans kk4
  have k5 : (w2.alloc (.cells #[.string vo, .int .i64 ex, .string ve, .int .i64 S, .int .i64 K, .string T] 38)).heap[w.heap.size + 1]? = some (.cells #[.string vo, .int .i64 ex, .string ve, .int .i64 ps, .int .i64 cy, .string te] 38 (0, 0)) := (hW.block _ (by omega)).trans kk5
  have k9 : (w2.alloc (.cells #[.string vo, .int .i64 ex, .string ve, .int .i64 S, .int .i64 K, .string T] 38)).heap[w1.heap.size]? = some (.cells #[.string vo, .int .i64 ex, .string ve, .int .i64 0, .int .i64 0, .string ⟨#[]⟩] 38 (0, 0)) := ((ballc w2 _).block _ (by omega)).trans ((hb2.block _ (by simp)).trans (heap_alloc_new w1 _))
  have k10 : (w2.alloc (.cells #[.string vo, .int .i64 ex, .string ve, .int .i64 S, .int .i64 K, .string T] 38)).heap[w2.heap.size]? = some (.cells #[.string vo, .int .i64 ex, .string ve, .int .i64 S, .int .i64 K, .string T] 38 (0, 0)) := heap_alloc_new w2 _
  have HT3 := hidden (HT.out.below (bthen HB1.out hW))
  have HW3 := hidden (bthen HW0.out (bthen HB1.out hW))
  have j3 : w2.heap.size < (w2.alloc (.cells #[.string vo, .int .i64 ex, .string ve, .int .i64 S, .int .i64 K, .string T] 38)).heap.size := by simp
  clear hb2 hW kk4 kk5 HB1 g1 g2 g3 g4 CQ CQ' HT HW0
  have l4 := blk_cell k4
  have l5 := blk_cell k5
  have l9 := blk_cell k9
  have l10 := blk_cell k10
  go_wp2
  generalize w2.alloc (.cells #[.string vo, .int .i64 ex, .string ve, .int .i64 S, .int .i64 K, .string T] 38) = W at *
  generalize w2.heap.size = b10 at *
  generalize w1.heap.size = b9 at *
  have i4 : w.heap.size < W.heap.size := by omega
  have i5 : w.heap.size + 1 < W.heap.size := by omega
  have i9 : b9 < W.heap.size := by omega
  refine wp_region_quiet_below (by kernel_rfl) (by kernel_rfl) ?_
  repeat (go_big_quiet_step (first
    | (go_at_call 29; exact Calls.regrown_of (CZ _ _ _ _))))
  refine wpQuiet_nil ?_
  intro w4 hw4
  have hb4 := rg_below hw4
  have HB4 := hidden hb4
  clear hw4 l4 l5 l9 l10
  have l4 := blk_cell ((hb4.block _ i4).trans k4)
  have l5 := blk_cell ((hb4.block _ i5).trans k5)
  clear hb4
  go_wp2_with fail
  refine (C1 _ (HT3.out.below HB4.out)).mono ?_
  rintro e w5 ⟨rfl, hb5⟩
  have HB5 := hidden (bthen HB4.out hb5)
  clear hb5 HB4 l4 l5 C1
  by_cases hE : E1 = 0
  · have hE2 := HS.out hE
    have HK2 := hidden (HK.out hE)
    clear HS HK
    subst hE hE2
    have l4 := blk_cell ((HB5.out.block _ i4).trans k4)
    have l9 := blk_cell ((HB5.out.block _ i9).trans k9)
    go_wp2_with fail
    refine (C2 _ (HT3.out.below HB5.out)).mono ?_
    rintro e w6 ⟨rfl, hb6⟩
    have HB6 := hidden (bthen HB5.out hb6)
    clear hb6 HB5 l4 l9 C2
    have l4 := blk_cell ((HB6.out.block _ i4).trans k4)
    have l10 := blk_cell ((HB6.out.block _ j3).trans k10)
    by_cases m1 : 0 ≤ s
    · have d1 : decide (0 ≤ s) = true := by simp [m1]
      by_cases m2 : s < zs.length
      · have d2 : decide (s < (zs.length : Int)) = true := by simp [m2]
        by_cases m3 : 0 ≤ k
        · have d3 : decide (0 ≤ k) = true := by simp [m3]
          by_cases m4 : k < md
          · have d4 : decide (k < md) = true := by simp [m4]
            have hE3 := HK2.out m1 m2 m3 m4
            subst hE3
            go_wp2_with fail
            refine (C3 _ (HT3.out.below HB6.out)).mono ?_
            rintro e w7 ⟨rfl, hb7⟩
            have HB7 := hidden (bthen HB6.out hb7)
            clear hb7
            go_wp2_with fail
            refine (known10_any _).mono ?_
            rintro e w8 ⟨rfl, hb8⟩
            go_wp2
            go_ret
            exact ⟨rfl, bthen HW3.out (bthen HB7.out hb8)⟩
          · have d4 : decide (k < md) = false := by simp; omega
            go_wp2_with fail
            refine (known10_any _).mono ?_
            rintro e w8 ⟨rfl, hb8⟩
            go_wp2
            go_ret
            exact ⟨rfl, bthen HW3.out (bthen HB6.out hb8)⟩
        · have d3 : decide (0 ≤ k) = false := by simp; omega
          go_wp2_with fail
          refine (known10_any _).mono ?_
          rintro e w8 ⟨rfl, hb8⟩
          go_wp2
          go_ret
          exact ⟨rfl, bthen HW3.out (bthen HB6.out hb8)⟩
      · have d2 : decide (s < (zs.length : Int)) = false := by simp; omega
        go_wp2_with fail
        refine (known10_any _).mono ?_
        rintro e w8 ⟨rfl, hb8⟩
        go_wp2
        go_ret
        exact ⟨rfl, bthen HW3.out (bthen HB6.out hb8)⟩
    · have d1 : decide (0 ≤ s) = false := by simp; omega
      go_wp2_with fail
      refine (known10_any _).mono ?_
      rintro e w8 ⟨rfl, hb8⟩
      go_wp2
      go_ret
      exact ⟨rfl, bthen HW3.out (bthen HB6.out hb8)⟩
  · go_wp2_with fail
    refine (known10_any _).mono ?_
    rintro e w8 ⟨rfl, hb8⟩
    go_wp2
    go_ret
    exact ⟨rfl, bthen HW3.out (bthen HB5.out hb8)⟩
end Go.Proofs.Ytjkliandhcegeaa.LawPacketStrips
