/- The walk of the statement AgreeSteps: the call returns true, and makes at most new memory; conditions: rows lie where they say, numbers and lengths fit int. -/
import Derived.Test.YtohgmliafidalaaBf
import Derived.Test.YtohgmliafidalaaBg
namespace Go.Proofs.Ytohgmliafidalaa.LawAgreeSteps
open Go.ChangeShapes Go.WideShapes Go.ChangeAt Go.RowKit
set_option linter.unusedVariables false
attribute [local go_sem] cell_rg

set_option maxRecDepth 100000 in
set_option maxHeartbeats 4000000 in
theorem walk (n f d p r dr o sl md fr : Int) (ad : Option Addr) (cap : Nat) (zs : List Int) (age : Int) (codes got : ByteArray) (a2 : Option Addr) (c2 : Nat) (qs : List Pkt) (w : World) (hl : zs.length ≤ 9223372036854775807) (hT : Tab w ad zs) (hw : (Lit.int .i64 age).wf = true) (hs2 : codes.size ≤ 9223372036854775807) (hs3 : got.size ≤ 9223372036854775807) (hql : qs.length ≤ 9223372036854775807) (hV : kPkt.Lies w.heap.size w (.slice a2 qs.length c2) qs) (hz : ∀ q ∈ qs, q.ve.size ≤ 9223372036854775807) :
    Calls Try.prog 5 #[.agg #[.int .i64 n, .int .i64 f, .int .i64 d, .int .i64 p, .int .i64 r, .int .i64 dr, .int .i64 o, .int .i64 sl, .int .i64 md, .int .i64 fr, .slice ad zs.length cap], .agg #[.int .i64 age, .string codes, .string got], .slice a2 qs.length c2] w fun e w' => e = .returned (.bool true) ∧ Below w.heap.size w w' := by
  have KN := hidden (fun V => known19_any V)
  have HB0 := hidden (bthen (ballc w (.cells #[.int .i64 n, .int .i64 f, .int .i64 d, .int .i64 p, .int .i64 r, .int .i64 dr, .int .i64 o, .int .i64 sl, .int .i64 md, .int .i64 fr, .slice ad zs.length cap] 24)) (ballc _ (.cells #[.int .i64 age, .string codes, .string got] 37)))
  by_cases h1 : codes.size ≤ 60
  · have d1 : decide ((60 : Int) < (codes.size : Int)) = false := decide_eq_false (by omega)
    by_cases h2 : qs.length ≤ 20
    · have d2 : decide ((20 : Int) < (qs.length : Int)) = false := decide_eq_false (by omega)
      have HK := hidden (blk_later (blk_nw w #[.int .i64 n, .int .i64 f, .int .i64 d, .int .i64 p, .int .i64 r, .int .i64 dr, .int .i64 o, .int .i64 sl, .int .i64 md, .int .i64 fr, .slice ad zs.length cap] 24) (ballc _ (.cells #[.int .i64 age, .string codes, .string got] 37)))
      have HN := hidden (blk_newAt (w.alloc (.cells #[.int .i64 n, .int .i64 f, .int .i64 d, .int .i64 p, .int .i64 r, .int .i64 dr, .int .i64 o, .int .i64 sl, .int .i64 md, .int .i64 fr, .slice ad zs.length cap] 24)) #[.int .i64 age, .string codes, .string got] 37 (b := w.heap.size + 1) (by simp))
      have HT := hidden (hT.below HB0.out)
      have HV := hidden (hV.later HB0.out)
      obtain ⟨R, D, L, hR, hL, hLD, hR15, hL60, hd, _, _⟩ := len_nat n f d p r dr o sl md fr ad cap zs
      have hd2 : R = 0 ∨ 1 ≤ d ∧ d ≤ 4 := by
        rcases hd with h | ⟨h, h3, h4⟩
        · exact .inl h
        · exact .inr (by omega)
      have A1 := hidden (fun V h hv => AStep_any n f d p r dr o sl md fr ad cap zs R L age codes got (bd64 hw) (by omega) a2 c2 qs V hl h hR hL hR15 hL60 hd2 (by omega) hv hz)
      have A2 := hidden (fun V h hv => rAStep_any n f d p r dr o sl md fr ad cap zs R L age codes got (bd64 hw) (by omega) a2 c2 qs V hl h hR hL hR15 hL60 hd2 (by omega) hv hz)
      generalize (stpA (plainE n f d p r dr o sl md fr zs) R L n f d age codes got qs).age = o1 at *
      generalize (stpA (plainE n f d p r dr o sl md fr zs) R L n f d age codes got qs).codes = o2 at *
      generalize (stpA (plainE n f d p r dr o sl md fr zs) R L n f d age codes got qs).got = o3 at *
      have j1 : (o1 == o1) = true := by simp
      clear hT hR hL hLD hd hd2 hV hz
      generalize qs.length = M at *
      go_enter Try.func5, Try.ntmps5
      go_wp2_with fail
      refine (A1.out _ HT.out HV.out).mono ?_
      rintro e w2 ⟨rfl, hb⟩
      have HB2 := hidden (bthen HB0.out hb)
      have HK2 := hidden (blk_later HK.out hb)
      have HN2 := hidden (blk_later HN.out hb)
      have HT2 := hidden (HT.out.below hb)
      have HV2 := hidden (HV.out.later hb)
      clear hb
      have c0 := blk_cell HK2.out
      have l0 := blk_lt HK2.out
      have c1 := blk_cell HN2.out
      have l1 := blk_lt HN2.out
      go_wp2_with fail
      refine (A2.out _ HT2.out HV2.out).mono ?_
      rintro e w3 ⟨rfl, hb⟩
      have HB3 := hidden (bthen HB2.out hb)
      clear hb c0 l0 c1 l1
      go_wp2_with fail
      refine (KN.out _).mono ?_
      rintro e w9 ⟨rfl, hb⟩
      have HB9 := hidden (bthen HB3.out hb)
      clear hb
      go_wp2
      go_ret
      exact ⟨rfl, HB9.out⟩
    · have d2 : decide ((20 : Int) < (qs.length : Int)) = true := decide_eq_true (by omega)
      go_enter Try.func5, Try.ntmps5
      go_wp2_with fail
      refine (KN.out _).mono ?_
      rintro e w9 ⟨rfl, hb⟩
      have HB9 := hidden (bthen HB0.out hb)
      clear hb
      go_wp2
      go_ret
      exact ⟨rfl, HB9.out⟩
  · have d1 : decide ((60 : Int) < (codes.size : Int)) = true := decide_eq_true (by omega)
    go_enter Try.func5, Try.ntmps5
    go_wp2_with fail
    refine (KN.out _).mono ?_
    rintro e w9 ⟨rfl, hb⟩
    have HB9 := hidden (bthen HB0.out hb)
    clear hb
    go_wp2
    go_ret
    exact ⟨rfl, HB9.out⟩
end Go.Proofs.Ytohgmliafidalaa.LawAgreeSteps
