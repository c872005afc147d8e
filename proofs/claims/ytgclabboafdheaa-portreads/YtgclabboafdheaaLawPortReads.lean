/- The walk of the statement PortReads: the call returns true, and makes at most new memory; conditions: the table and the row lie where they say, lengths fit int. -/
import Derived.Test.YtgclabboafdheaaBf
namespace Go.Proofs.Ytgclabboafdheaa.LawPortReads
open Go.ChangeShapes Go.WideShapes Go.ChangeAt Go.RowKit
set_option linter.unusedVariables false
attribute [local go_sem] cell_rg

set_option maxRecDepth 100000 in
set_option maxHeartbeats 8000000 in
theorem walk (n f d p r dr o sl md fr : Int) (ad : Option Addr) (cap : Nat) (zs : List Int) (a2 : Option Addr) (c2 : Nat) (ps : List Prt) (z : Int) (w : World) (hl : zs.length ≤ 9223372036854775807) (hT : Tab w ad zs) (hpl : ps.length ≤ 9223372036854775807) (hP : kPrt.Lies w.heap.size w (.slice a2 ps.length c2) ps) (hag : agesIn ps) (hz : -9223372036854775808 ≤ z ∧ z ≤ 9223372036854775807) :
    Calls Try.prog 8 #[.agg #[.int .i64 n, .int .i64 f, .int .i64 d, .int .i64 p, .int .i64 r, .int .i64 dr, .int .i64 o, .int .i64 sl, .int .i64 md, .int .i64 fr, .slice ad zs.length cap], .slice a2 ps.length c2, .int .i64 z] w fun e w' => e = .returned (.bool true) ∧ Below w.heap.size w w' := by
  have HB0 := hidden (ballc w (.cells #[.int .i64 n, .int .i64 f, .int .i64 d, .int .i64 p, .int .i64 r, .int .i64 dr, .int .i64 o, .int .i64 sl, .int .i64 md, .int .i64 fr, .slice ad zs.length cap] 24))
  have HK := hidden (blk_nw w #[.int .i64 n, .int .i64 f, .int .i64 d, .int .i64 p, .int .i64 r, .int .i64 dr, .int .i64 o, .int .i64 sl, .int .i64 md, .int .i64 fr, .slice ad zs.length cap] 24)
  have KN := hidden (fun V => alive_any V)
  have HT := hidden (hT.below HB0.out)
  have HP := hidden (hP.later HB0.out)
  have A1 := hidden (fun V h h2 => PRead_any n f d p r dr o sl md fr ad cap zs a2 c2 ps z V hl h hpl h2)
  have A2 := hidden (fun V h h2 => r26Read_any n f d p r dr o sl md fr ad cap zs a2 c2 ps z V hl h hpl h2)
  generalize rdT fr (lstP (plainE n f d p r dr o sl md fr zs) n.toNat fr ps) z = x0 at *
  generalize rdC fr (lstP (plainE n f d p r dr o sl md fr zs) n.toNat fr ps) z = x1 at *
  generalize rdB fr (lstP (plainE n f d p r dr o sl md fr zs) n.toNat fr ps) z = x2 at *
  have b0 := blk_cell HK.out
  have l0 := blk_lt HK.out
  have j0 : (x2 == x2) = true := by simp
  have j1 : (x1 == x1) = true := by simp
  clear hT hP hag
  by_cases h1 : 40 < ps.length
  · have d1 : decide ((40 : Int) < (ps.length : Int)) = true := decide_eq_true (by omega)
    have d2 : decide (40 < ps.length) = true := decide_eq_true h1
    go_enter Try.func8, Try.ntmps8
    go_wp2_with fail
    refine (KN.out _).mono ?_
    rintro e w2 ⟨rfl, hb2⟩
    have HB2 := hidden (bthen HB0.out hb2)
    clear hb2 b0 l0
    go_wp2
    go_ret
    exact ⟨rfl, HB2.out⟩
  have d1 : decide ((40 : Int) < (ps.length : Int)) = false := decide_eq_false (by omega)
  have d2 : decide (40 < ps.length) = false := decide_eq_false h1
  go_enter Try.func8, Try.ntmps8
  go_wp2_with fail
  generalize w.alloc (.cells #[.int .i64 n, .int .i64 f, .int .i64 d, .int .i64 p, .int .i64 r, .int .i64 dr, .int .i64 o, .int .i64 sl, .int .i64 md, .int .i64 fr, .slice ad zs.length cap] 24) = W0 at *
  refine (A1.out _ HT.out HP.out).mono ?_
  rintro e w1 ⟨rfl, hb⟩
  have HB1 := hidden (bthen HB0.out hb)
  have k0 := blk_later HK.out hb
  have HT1 := hidden (HT.out.below hb)
  have HP1 := hidden (HP.out.later hb)
  clear b0 l0 hb
  have b0 := blk_cell k0
  have l0 := blk_lt k0
  clear k0
  go_wp2_with fail
  refine (A2.out _ HT1.out HP1.out).mono ?_
  rintro e w2 ⟨rfl, hb⟩
  have HB2 := hidden (bthen HB1.out hb)
  clear b0 l0 hb
  go_wp2_with fail
  refine (KN.out _).mono ?_
  rintro e w3 ⟨rfl, hb⟩
  have HB3 := hidden (bthen HB2.out hb)
  clear hb
  go_wp2
  go_ret
  exact ⟨rfl, HB3.out⟩
end Go.Proofs.Ytgclabboafdheaa.LawPortReads
