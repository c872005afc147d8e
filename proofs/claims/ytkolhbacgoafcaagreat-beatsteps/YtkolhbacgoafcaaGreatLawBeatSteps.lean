/- The walk of the statement BeatSteps: the call returns true, and makes at most new memory; conditions: rows lie where they say, lengths fit int. -/
import Derived.Test.YtkolhbacgoafcaaGreatBh
namespace Go.Proofs.YtkolhbacgoafcaaGreat.LawBeatSteps
open Go.ChangeShapes Go.WideShapes Go.ChangeAt Go.RowKit
set_option linter.unusedVariables false
attribute [local go_sem] cell_rg

set_option maxHeartbeats 2000000 in
theorem walk (n f d p r dr o sl md fr : Int) (ad : Option Addr) (cap : Nat) (zs : List Int) (s : ByteArray) (si : Int) (a2 : Option Addr) (c2 : Nat) (votes : List ByteArray) (w : World) (hl : zs.length ≤ 9223372036854775807) (hT : Tab w ad zs) (hs : s.size ≤ 9223372036854775807) (hsi : -9223372036854775808 ≤ si ∧ si ≤ 9223372036854775807) (hl2 : votes.length ≤ 9223372036854775807) (hV : kStr.Lies w.heap.size w (.slice a2 votes.length c2) votes) (hz : ∀ t ∈ votes, t.size ≤ 9223372036854775807) :
    Calls Tryz.prog 3 #[.agg #[.int .i64 n, .int .i64 f, .int .i64 d, .int .i64 p, .int .i64 r, .int .i64 dr, .int .i64 o, .int .i64 sl, .int .i64 md, .int .i64 fr, .slice ad zs.length cap], .string s, .int .i64 si, .slice a2 votes.length c2] w fun e w' => e = .returned (.bool true) ∧ Below w.heap.size w w' := by
  have KN := hidden (fun V => known18_any V)
  have HB0 := hidden (ballc w (.cells #[.int .i64 n, .int .i64 f, .int .i64 d, .int .i64 p, .int .i64 r, .int .i64 dr, .int .i64 o, .int .i64 sl, .int .i64 md, .int .i64 fr, .slice ad zs.length cap] 24))
  have HT : Hid (Tab (w.alloc (.cells #[.int .i64 n, .int .i64 f, .int .i64 d, .int .i64 p, .int .i64 r, .int .i64 dr, .int .i64 o, .int .i64 sl, .int .i64 md, .int .i64 fr, .slice ad zs.length cap] 24)) ad zs) := hT.below (ballc _ _)
  have HV := hidden (hV.later HB0.out)
  have HK := hidden (blk_nw w #[.int .i64 n, .int .i64 f, .int .i64 d, .int .i64 p, .int .i64 r, .int .i64 dr, .int .i64 o, .int .i64 sl, .int .i64 md, .int .i64 fr, .slice ad zs.length cap] 24)
  clear hT
  by_cases h1 : (100 : Int) < (s.size : Int) ∨ (20 : Int) < (votes.length : Int)
  · by_cases h2 : (100 : Int) < (s.size : Int)
    · have d1 : decide ((100 : Int) < (s.size : Int)) = true := decide_eq_true h2
      have d1' : decide (100 < s.size) = true := decide_eq_true (by omega)
      clear HT HV hV hz h1
      go_enter Tryz.func3, Tryz.ntmps3
      go_wp2_with fail
      refine (KN.out _).mono ?_
      rintro e w2 ⟨rfl, hb⟩
      have HB2 := hidden (bthen HB0.out hb)
      clear hb
      go_wp2
      go_ret
      exact ⟨rfl, HB2.out⟩
    · have d1 : decide ((100 : Int) < (s.size : Int)) = false := decide_eq_false h2
      have d1' : decide (100 < s.size) = false := decide_eq_false (by omega)
      have d2 : decide ((20 : Int) < (votes.length : Int)) = true := decide_eq_true (by omega)
      have d2' : decide (20 < votes.length) = true := decide_eq_true (by omega)
      have d3 : (20 : Int) < (votes.length : Int) := by omega
      clear HT HV hV hz h1
      go_enter Tryz.func3, Tryz.ntmps3
      go_wp2_with fail
      refine (KN.out _).mono ?_
      rintro e w2 ⟨rfl, hb⟩
      have HB2 := hidden (bthen HB0.out hb)
      clear hb
      go_wp2
      go_ret
      exact ⟨rfl, HB2.out⟩
  · have d1 : decide ((100 : Int) < (s.size : Int)) = false := decide_eq_false (by omega)
    have d1' : decide (100 < s.size) = false := decide_eq_false (by omega)
    have d2 : decide ((20 : Int) < (votes.length : Int)) = false := decide_eq_false (by omega)
    have d2' : decide (20 < votes.length) = false := decide_eq_false (by omega)
    have d3 : ¬ (20 : Int) < (votes.length : Int) := by omega
    obtain ⟨R, D, L, hR, hL, hLD, hR15, hL60, hd, hd1, hd0⟩ := len_nat n f d p r dr o sl md fr ad cap zs
    have hri : -9223372036854775808 ≤ ((votes.length % 4 : Nat) : Int) ∧ ((votes.length % 4 : Nat) : Int) ≤ 9223372036854775807 := by omega
    have A1 := hidden (fun V h k => BStep_any n f d p r dr o sl md fr ad cap zs R D L s hs si ((votes.length % 4 : Nat) : Int) hsi hri a2 c2 votes V hl h hR hL hR15 hL60 hLD hd (by omega) k hz)
    have A2 := hidden (fun V h k => rBStep_any n f d p r dr o sl md fr ad cap zs R D L s hs si ((votes.length % 4 : Nat) : Int) hsi hri a2 c2 votes V hl h hR hL hR15 hL60 hLD hd1 hd0 (by omega) k hz)
    have e1 : ((votes.length : Int)).tmod 4 = ((votes.length % 4 : Nat) : Int) := by rw [Int.tmod_eq_emod_of_nonneg (by omega)]; omega
    have e2 : IntKind.i64.wrap ((votes.length % 4 : Nat) : Int) = ((votes.length % 4 : Nat) : Int) := IntWalk.i64_in _ hri
    clear hR hL hLD hd hd1 hd0 hV hz h1 hri
    generalize ba (stpL n f d p r dr o sl md fr ad cap zs D L votes (wellL L s) si) = t1 at *
    generalize stpS n f d p r dr o sl md fr ad cap zs D L votes (wellL L s) si = t2 at *
    generalize stpR n f d p r dr o sl md fr ad cap zs D L votes (wellL L s) si ((votes.length % 4 : Nat) : Int) = t3 at *
    generalize stpP n f d p r dr o sl md fr ad cap zs D L votes (wellL L s) = t4 at *
    generalize hmq : votes.length % 4 = mq at *
    clear hmq
    generalize votes.length = M at *
    go_enter Tryz.func3, Tryz.ntmps3
    go_wp2_with fail
    refine (A1.out _ HT.out HV.out).mono ?_
    rintro e w2 ⟨rfl, hb⟩
    have HB2 := hidden (bthen HB0.out hb)
    have HT2 := hidden (HT.out.below hb)
    have HV2 := hidden (HV.out.later hb)
    have HK2 := hidden (blk_later HK.out hb)
    have c0 := blk_cell HK2.out
    have l0 := blk_lt HK2.out
    clear hb
    go_wp2_with fail
    refine (A2.out _ HT2.out HV2.out).mono ?_
    rintro e w3 ⟨rfl, hb⟩
    have HB3 := hidden (bthen HB2.out hb)
    clear hb c0 l0
    go_wp2_with fail
    refine (KN.out _).mono ?_
    rintro e w4 ⟨rfl, hb⟩
    have HB4 := hidden (bthen HB3.out hb)
    clear hb
    go_wp2
    go_ret
    exact ⟨rfl, HB4.out⟩
end Go.Proofs.YtkolhbacgoafcaaGreat.LawBeatSteps
