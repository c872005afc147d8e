/- The walk of the statement HoldTakes: the call returns true, and makes at most new memory; conditions: the table and the row lie where they say, lengths fit int. -/
import Derived.Test.YtcnmbpgjgjncdabHoldK
import Derived.Test.YtcnmbpgjgjncdabHoldV
import Derived.Test.YtcnmbpgjgjncdabHoldT
namespace Go.Proofs.Ytcnmbpgjgjncdab.LawHoldTakes
open Go.ChangeShapes Go.WideShapes Go.ChangeAt Go.RowKit
set_option linter.unusedVariables false
attribute [local go_sem] cell_rg

/-- What is taken, and what is left, of a list that fits; nothing of another one. -/
def takeF (E n d : Int) (hs : List ByteArray) : List ByteArray × List ByteArray := if E = 0 ∧ (hs.length : Int) = n * d then (takeN n.toNat d.toNat hs, takeR (n.toNat * d.toNat) d.toNat hs) else ([], [])
theorem takeF_no {E n d : Int} {hs : List ByteArray} (h : ¬ (E = 0 ∧ (hs.length : Int) = n * d)) : takeF E n d hs = ([], []) := if_neg h
theorem takeF_yes {N D : Nat} {hs : List ByteArray} (hf : hs.length = N * D) : takeF 0 N D hs = (takeN N D hs, takeR (N * D) D hs) := by
  unfold takeF
  rw [if_pos ⟨rfl, len_cast.2 hf⟩]
  simp
theorem Take_any (n f d p r dr o sl md fr : Int) (ad : Option Addr) (cap : Nat) (zs : List Int) (a2 : Option Addr) (c2 : Nat) (hs : List ByteArray) (w : World) (hl : zs.length ≤ 9223372036854775807) (hT : Tab w ad zs) (hlen : hs.length ≤ 9223372036854775807) (hL : kStr.Lies w.heap.size w (.slice a2 hs.length c2) hs) :
    Calls Try.prog 7 #[.agg #[.int .i64 n, .int .i64 f, .int .i64 d, .int .i64 p, .int .i64 r, .int .i64 dr, .int .i64 o, .int .i64 sl, .int .i64 md, .int .i64 fr, .slice ad zs.length cap], .slice a2 hs.length c2] w fun e w' => ∃ a1 c1 a3 c3, e = .returned (.tuple #[.slice a1 (takeF (plainE n f d p r dr o sl md fr zs) n d hs).1.length c1, .slice a3 (takeF (plainE n f d p r dr o sl md fr zs) n d hs).2.length c3]) ∧ kStr.Lies w'.heap.size w' (.slice a1 (takeF (plainE n f d p r dr o sl md fr zs) n d hs).1.length c1) (takeF (plainE n f d p r dr o sl md fr zs) n d hs).1 ∧ kStr.Lies w'.heap.size w' (.slice a3 (takeF (plainE n f d p r dr o sl md fr zs) n d hs).2.length c3) (takeF (plainE n f d p r dr o sl md fr zs) n d hs).2 ∧ Below w.heap.size w w' := by
  by_cases hE : plainE n f d p r dr o sl md fr zs = 0
  · have hk := plainE_ok hE
    obtain ⟨N, rfl⟩ : ∃ N : Nat, n = (N : Int) := ⟨n.toNat, by omega⟩
    obtain ⟨D, rfl⟩ : ∃ D : Nat, d = (D : Int) := ⟨d.toNat, by omega⟩
    by_cases h : hs.length = N * D
    · rw [hE, takeF_yes h]
      refine (Take_ok N f D p r dr o sl md fr ad cap zs a2 _ c2 hs w hl hT hE h hL).mono ?_
      rintro e w' ⟨g1, g2, e1, k1, k2, _, _, hb⟩
      have hm := mul_cast (show N ≤ 13 by omega) (show D ≤ 4 by omega)
      dsimp only
      rw [takeN_length, takeR_length]
      exact ⟨_, _, _, _, e1, lies_lit (takeN_length N D hs) k1 (by omega), lies_lit (takeR_length (N * D) D hs) k2 (by omega), hb⟩
    · rw [takeF_no (fun k => h (len_cast.1 k.2))]
      refine (Take_unfit N f D p r dr o sl md fr ad cap zs a2 _ c2 w hl hT hE hlen h).mono ?_
      rintro e w' ⟨e1, hb⟩
      exact ⟨none, 0, none, 0, e1, Kind.Lies.nil _ _, Kind.Lies.nil _ _, hb⟩
  · rw [takeF_no (fun k => hE k.1)]
    refine (Take_nil n f d p r dr o sl md fr ad cap zs a2 _ c2 w hl hT hE).mono ?_
    rintro e w' ⟨e1, hb⟩
    exact ⟨none, 0, none, 0, e1, Kind.Lies.nil _ _, Kind.Lies.nil _ _, hb⟩
theorem rTake_any (n f d p r dr o sl md fr : Int) (ad : Option Addr) (cap : Nat) (zs : List Int) (a2 : Option Addr) (c2 : Nat) (hs : List ByteArray) (w : World) (hl : zs.length ≤ 9223372036854775807) (hT : Tab w ad zs) (hlen : hs.length ≤ 9223372036854775807) (hL : kStr.Lies w.heap.size w (.slice a2 hs.length c2) hs) :
    Calls Try.prog 8 #[.agg #[.int .i64 n, .int .i64 f, .int .i64 d, .int .i64 p, .int .i64 r, .int .i64 dr, .int .i64 o, .int .i64 sl, .int .i64 md, .int .i64 fr, .slice ad zs.length cap], .slice a2 hs.length c2] w fun e w' => ∃ a1 c1 a3 c3, e = .returned (.tuple #[.slice a1 (takeF (plainE n f d p r dr o sl md fr zs) n d hs).1.length c1, .slice a3 (takeF (plainE n f d p r dr o sl md fr zs) n d hs).2.length c3]) ∧ kStr.Lies w'.heap.size w' (.slice a1 (takeF (plainE n f d p r dr o sl md fr zs) n d hs).1.length c1) (takeF (plainE n f d p r dr o sl md fr zs) n d hs).1 ∧ kStr.Lies w'.heap.size w' (.slice a3 (takeF (plainE n f d p r dr o sl md fr zs) n d hs).2.length c3) (takeF (plainE n f d p r dr o sl md fr zs) n d hs).2 ∧ Below w.heap.size w w' := by
  by_cases hE : plainE n f d p r dr o sl md fr zs = 0
  · have hk := plainE_ok hE
    obtain ⟨N, rfl⟩ : ∃ N : Nat, n = (N : Int) := ⟨n.toNat, by omega⟩
    obtain ⟨D, rfl⟩ : ∃ D : Nat, d = (D : Int) := ⟨d.toNat, by omega⟩
    by_cases h : hs.length = N * D
    · rw [hE, takeF_yes h]
      refine (rTake_ok N f D p r dr o sl md fr ad cap zs a2 _ c2 hs w hl hT hE h hL).mono ?_
      rintro e w' ⟨a1, c1, a3, c3, e1, k1, k2, hb⟩
      dsimp only
      rw [takeN_length, takeR_length]
      exact ⟨_, _, _, _, e1, k1, k2, hb⟩
    · rw [takeF_no (fun k => h (len_cast.1 k.2))]
      refine (rTake_unfit N f D p r dr o sl md fr ad cap zs a2 _ c2 w hl hT hE hlen h).mono ?_
      rintro e w' ⟨e1, hb⟩
      exact ⟨none, 0, none, 0, e1, Kind.Lies.nil _ _, Kind.Lies.nil _ _, hb⟩
  · rw [takeF_no (fun k => hE k.1)]
    refine (rTake_nil n f d p r dr o sl md fr ad cap zs a2 _ c2 w hl hT hE).mono ?_
    rintro e w' ⟨e1, hb⟩
    exact ⟨none, 0, none, 0, e1, Kind.Lies.nil _ _, Kind.Lies.nil _ _, hb⟩
theorem takeF_len {n f d p r dr o sl md fr : Int} {zs : List Int} (hs : List ByteArray) : (takeF (plainE n f d p r dr o sl md fr zs) n d hs).1.length ≤ 1000000 ∧ (takeF (plainE n f d p r dr o sl md fr zs) n d hs).2.length ≤ 1000000 := by
  by_cases h : plainE n f d p r dr o sl md fr zs = 0 ∧ (hs.length : Int) = n * d
  · have hk := plainE_ok h.1
    have hm := mul_cast (N := n.toNat) (D := d.toNat) (by omega) (by omega)
    unfold takeF
    rw [if_pos h, takeN_length, takeR_length]
    omega
  · rw [takeF_no h]; exact ⟨Nat.zero_le _, Nat.zero_le _⟩
set_option maxHeartbeats 4000000 in
theorem walk (n f d p r dr o sl md fr : Int) (ad : Option Addr) (cap : Nat) (zs : List Int) (a2 : Option Addr) (c2 : Nat) (hs : List ByteArray) (fm : Int) (w : World) (hl : zs.length ≤ 9223372036854775807) (hT : Tab w ad zs) (hlen : hs.length ≤ 9223372036854775807) (hL : kStr.Lies w.heap.size w (.slice a2 hs.length c2) hs) (hfm : -9223372036854775808 ≤ fm ∧ fm ≤ 9223372036854775807) :
    Calls Try.prog 3 #[.agg #[.int .i64 n, .int .i64 f, .int .i64 d, .int .i64 p, .int .i64 r, .int .i64 dr, .int .i64 o, .int .i64 sl, .int .i64 md, .int .i64 fr, .slice ad zs.length cap], .slice a2 hs.length c2, .int .i64 fm] w fun e w' => e = .returned (.bool true) ∧ Below w.heap.size w w' := by
  by_cases h100 : 100 < hs.length
  · have i1 : (100 : Int) < (hs.length : Int) := by omega
    go_enter Try.func3, Try.ntmps3
    go_wp2_with fail
    refine (known12_any _).mono ?_
    rintro e w1 ⟨rfl, hb⟩
    go_wp2
    go_ret
    exact ⟨rfl, bthen (ballc w _) hb⟩
  · have i1 : ¬ (100 : Int) < (hs.length : Int) := by omega
    have HT := hidden (hT.below (ballc w (.cells #[.int .i64 n, .int .i64 f, .int .i64 d, .int .i64 p, .int .i64 r, .int .i64 dr, .int .i64 o, .int .i64 sl, .int .i64 md, .int .i64 fr, .slice ad zs.length cap] 24)))
    have HL := hidden (hL.later (ballc w (.cells #[.int .i64 n, .int .i64 f, .int .i64 d, .int .i64 p, .int .i64 r, .int .i64 dr, .int .i64 o, .int .i64 sl, .int .i64 md, .int .i64 fr, .slice ad zs.length cap] 24)))
    have C1 := fun V h h2 => Take_any n f d p r dr o sl md fr ad cap zs a2 c2 hs V hl h hlen h2
    have C2 := fun V h h2 => rTake_any n f d p r dr o sl md fr ad cap zs a2 c2 hs V hl h hlen h2
    have C3 := fun V h h2 => Held_any n f d p r dr o sl md fr ad cap zs a2 hs.length c2 hs fm V hl h hlen h2
    have C4 := fun V h h2 => rHeld_any n f d p r dr o sl md fr ad cap zs a2 hs.length c2 hs fm V hl h hlen h2
    have htl := takeF_len (n := n) (f := f) (d := d) (p := p) (r := r) (dr := dr) (o := o) (sl := sl) (md := md) (fr := fr) (zs := zs) hs
    generalize takeF (plainE n f d p r dr o sl md fr zs) n d hs = X at *
    generalize heldF (plainE n f d p r dr o sl md fr zs) n d fm hs = Y at *
    obtain ⟨X1, X2⟩ := X
    dsimp only at *
    clear hT hL hfm
    go_enter Try.func3, Try.ntmps3
    go_wp2_with fail
    refine (C1 _ HT.out HL.out).mono ?_
    rintro e w1 ⟨a3, c3, a4, c4, rfl, hk1, hk2, hb⟩
    obtain ⟨hbox, hsz⟩ := box_at hb
    have HB1 := hidden hb
    have HK1 := hidden hk1
    have HK2 := hidden hk2
    clear hb hk1 hk2 C1
    go_wp2_with fail
    refine (C2 _ (HT.out.below HB1.out) (HL.out.later HB1.out)).mono ?_
    rintro e w2 ⟨a5, c5, a6, c6, rfl, hk1, hk2, hb⟩
    have HB2 := hidden (bthen HB1.out hb)
    have HK3 := hidden hk1
    have HK4 := hidden hk2
    have HK1' := hidden (HK1.out.later hb)
    have HK2' := hidden (HK2.out.later hb)
    clear hb hk1 hk2 C2 hbox hsz HK1 HK2 HB1
    obtain ⟨hbox, hsz⟩ := box_at HB2.out
    have HT2 := hidden (HT.out.below HB2.out)
    have HL2 := hidden (HL.out.later HB2.out)
    go_wp2
    refine wp_region_quiet_below (by kernel_rfl) (by kernel_rfl) ?_
    repeat (go_big_quiet_step (fail))
    go_big_quiet_step ((go_at_call 9; exact Calls.regrown_of (Same_eq _ _ _ _ _ _ X1 _ htl.1 (HK1'.out.later (below_regrown _ _ _)) (HK3.out.later (below_regrown _ _ _)))))
    repeat (go_big_quiet_step (fail))
    go_big_quiet_step ((go_at_call 9; exact Calls.regrown_of (Same_eq _ _ _ _ _ _ X2 _ htl.2 (HK2'.out.later (below_regrown _ _ _)) (HK4.out.later (below_regrown _ _ _)))))
    repeat (go_big_quiet_step (first
      | (go_at_call 10; exact Calls.regrown_of (C3 _ (HT2.out.below (below_regrown _ _ _)) (HL2.out.later (below_regrown _ _ _))))
      | (go_at_call 11; exact Calls.regrown_of (C4 _ (HT2.out.below (below_regrown _ _ _)) (HL2.out.later (below_regrown _ _ _))))
      | (go_at_call 6; exact Calls.regrown_of (known12_any _))))
    refine wpQuiet_nil ?_
    intro w3 hw3
    have HB3 := hidden (bthen (ballc w _) (bthen HB2.out (rg_below hw3)))
    clear hw3
    go_wp2
    go_ret
    exact ⟨rfl, HB3.out⟩
end Go.Proofs.Ytcnmbpgjgjncdab.LawHoldTakes
