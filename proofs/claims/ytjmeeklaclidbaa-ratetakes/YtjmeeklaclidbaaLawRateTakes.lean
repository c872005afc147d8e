/- The walk of RateTakes: for rows that lie in memory and integers that fit int it returns true and makes at most new memory. -/
import Derived.Test.YtjmeeklaclidbaaRateK
namespace Go.Proofs.Ytjmeeklaclidbaa.LawRateTakes
open Go.ChangeShapes Go.WideShapes Go.ChangeAt Go.RowKit Go.Shelf
set_option linter.unusedVariables false
attribute [local go_sem ↓] Go.wp_at_zero Go.wp_at_succ

set_option maxHeartbeats 4000000 in
theorem walk (ad : Option Addr) (cap : Nat) (es : List Note) (now width limit x : Int) (W : World) (hl : es.length ≤ 9223372036854775807) (hE : Ents W.heap.size W (.slice ad es.length cap) es)
    (hnow : (Lit.int .i64 now).wf = true) (hwd : (Lit.int .i64 width).wf = true) (hlm : (Lit.int .i64 limit).wf = true) (hx0 : -9223372036854775808 ≤ x ∧ x ≤ 9223372036854775807) :
    Calls Try.prog 3 #[.agg #[.slice ad es.length cap, .int .i64 now, .int .i64 width, .int .i64 limit], .int .i64 x] W fun e w' => e = .returned (.bool true) ∧ Below W.heap.size W w' := by
  have hx := wf64' hx0
  have hlim := bd64 hlm
  have hB0' : Below W.heap.size W (W.alloc (.cells #[.slice ad es.length cap, .int .i64 now, .int .i64 width, .int .i64 limit] 24)) := ballc _ _
  go_enter Try.func3, Try.ntmps3
  go_wp2
  go_quiet (fail)
  have hB0 : Below W.heap.size W ((W.alloc (.cells #[.slice ad es.length cap, .int .i64 now, .int .i64 width, .int .i64 limit] 24)).drewN nq) := ⟨hB0'.os, hB0'.tape, hB0'.output, hB0'.size, hB0'.block⟩
  generalize ((W.alloc (.cells #[.slice ad es.length cap, .int .i64 now, .int .i64 width, .int .i64 limit] 24)).drewN nq) = W0 at hB0 ⊢
  clear hB0'
  have hE0 := hE.later hB0
  by_cases h100 : 100 < es.length
  · go_wp2_with (go_at_call 9; refine (known7_any _).mono ?_; rintro e w1 ⟨rfl, hb⟩)
    go_ret
    exact ⟨rfl, bthen hB0 hb⟩
  have htl := takeL_len now width limit es x
  have CT := fun V h => Take_own ad es.length cap x now width limit es hx (by omega) V h
  have CR := fun V h => rTake_any ad es.length cap x now width limit es hx (by omega) V h
  have CM := fun V h => Room_any ad es.length cap x now width limit es hx hlim (by omega) V h
  have CN := fun V h => rRoom_any ad es.length cap x now width limit es hlim (by omega) V h
  generalize takeL now width limit es x = tk at *
  obtain ⟨tl, te⟩ := tk
  generalize roomF limit (cntN x (live now width es)) = rm at *
  dsimp only at htl CT CR
  go_wp2_with fail
  refine (CT _ hE0).mono ?_
  rintro r w1 ⟨v1, rfl, ho1, hb1⟩
  obtain ⟨a1, c1, rfl⟩ := own_slice ho1
  have hE1 := hE0.later hb1
  have hL1 := Ents.of_own ho1
  have hB1 := bthen hB0 hb1
  clear hE0 hb1 ho1 CT hB0
  go_wp2_with fail
  refine (CR _ hE1).mono ?_
  rintro r w2 ⟨a2, c2, rfl, hR2, hb2, _⟩
  have hE2 := hE1.later hb2
  have hL2 := hL1.later hb2
  have hB2 := bthen hB1 hb2
  clear hE1 hb2 hL1 hB1 CR
  go_wp2_with fail
  refine (Same_any _ _ _ _ _ _ tl _ (by omega) hL2 hR2).mono ?_
  rintro r w3 ⟨rfl, hb3⟩
  have hE3 := hE2.later hb3
  have hB3 := bthen hB2 hb3
  clear hE2 hb3 hL2 hR2 hB2
  go_wp2_with fail
  refine (CM _ hE3).mono ?_
  rintro r w4 ⟨rfl, hb4⟩
  have hE4 := hE3.later hb4
  have hB4 := bthen hB3 hb4
  clear hE3 hb4 hB3 CM
  go_wp2_with fail
  refine (CN _ hE4).mono ?_
  rintro r w5 ⟨rfl, hb5⟩
  have hB5 := bthen hB4 hb5
  clear hE4 hb5 hB4 CN
  go_wp2_with (go_at_call 9; refine (known7_any _).mono ?_; rintro e w6 ⟨rfl, hb6⟩)
  go_ret
  exact ⟨rfl, bthen hB5 hb6⟩
end Go.Proofs.Ytjmeeklaclidbaa.LawRateTakes
