/- The walk of RateMany: for rows that lie in memory and integers that fit int it returns true and makes at most new memory. -/
import Derived.Test.YtjmeeklaclidbaaRateK
namespace Go.Proofs.Ytjmeeklaclidbaa.LawRateMany
open Go.ChangeShapes Go.WideShapes Go.ChangeAt Go.RowKit Go.Shelf
set_option linter.unusedVariables false
attribute [local go_sem ↓] Go.wp_at_zero Go.wp_at_succ

set_option maxHeartbeats 4000000 in
theorem walk (ad : Option Addr) (cap : Nat) (es : List Note) (now width limit : Int) (ad2 : Option Addr) (cap2 : Nat) (zs : List Int) (W : World) (hl : es.length ≤ 9223372036854775807) (hE : Ents W.heap.size W (.slice ad es.length cap) es)
    (hnow : (Lit.int .i64 now).wf = true) (hwd : (Lit.int .i64 width).wf = true) (hlm : (Lit.int .i64 limit).wf = true) (hl2 : zs.length ≤ 9223372036854775807) (hN : Nums W.heap.size W (.slice ad2 zs.length cap2) zs) (hz : ∀ z ∈ zs, (Lit.int .i64 z).wf = true) :
    Calls Try.prog 4 #[.agg #[.slice ad es.length cap, .int .i64 now, .int .i64 width, .int .i64 limit], .slice ad2 zs.length cap2] W fun e w' => e = .returned (.bool true) ∧ Below W.heap.size W w' := by
  have hlim := bd64 hlm
  have hB0' : Below W.heap.size W (W.alloc (.cells #[.slice ad es.length cap, .int .i64 now, .int .i64 width, .int .i64 limit] 24)) := ballc _ _
  go_enter Try.func4, Try.ntmps4
  go_wp2
  go_quiet (fail)
  have hB0 : Below W.heap.size W ((W.alloc (.cells #[.slice ad es.length cap, .int .i64 now, .int .i64 width, .int .i64 limit] 24)).drewN nq) := ⟨hB0'.os, hB0'.tape, hB0'.output, hB0'.size, hB0'.block⟩
  generalize ((W.alloc (.cells #[.slice ad es.length cap, .int .i64 now, .int .i64 width, .int .i64 limit] 24)).drewN nq) = W0 at hB0 ⊢
  clear hB0'
  have hE0 := hE.later hB0
  have hN0 := hN.later hB0
  by_cases h100 : 100 < es.length
  · have q1 : decide (100 < (es.length : Int)) = true := by simp; omega
    go_wp2_with (go_at_call 9; refine (known7_any _).mono ?_; rintro e w1 ⟨rfl, hb⟩)
    go_ret
    exact ⟨rfl, bthen hB0 hb⟩
  have q1 : decide (100 < (es.length : Int)) = false := by simp; omega
  by_cases h30 : 30 < zs.length
  · go_wp2_with (go_at_call 9; refine (known7_any _).mono ?_; rintro e w1 ⟨rfl, hb⟩)
    go_ret
    exact ⟨rfl, bthen hB0 hb⟩
  have htl := manyL_len1 now width limit es zs
  have htb := manyL_len2 now width limit es zs
  have CT := fun V h h2 => Many_any ad es.length cap ad2 zs.length cap2 now width limit es zs hz (by omega) (by omega) V h h2
  have CR := fun V h h2 => rMany_any ad es.length cap ad2 zs.length cap2 now width limit es zs hz (by omega) (by omega) V h h2
  generalize manyL now width limit es zs = tk at *
  obtain ⟨tl, tb⟩ := tk
  dsimp only at htl htb CT CR
  have htb' : tb.length ≤ 1000000 := by omega
  clear htb
  go_wp2_with fail
  refine (CT _ hE0 hN0).mono ?_
  rintro r w1 ⟨a1, c1, b1, d1, rfl, hL1, hM1, hb1⟩
  have hE1 := hE0.later hb1
  have hN1 := hN0.later hb1
  have hB1 := bthen hB0 hb1
  clear hE0 hN0 hb1 CT hB0
  go_wp2_with fail
  refine (CR _ hE1 hN1).mono ?_
  rintro r w2 ⟨a2, c2, b2, d2, rfl, hR2, hS2, hb2⟩
  have hL2 := hL1.later hb2
  have hM2 := hM1.later hb2
  have hB2 := bthen hB1 hb2
  clear hE1 hN1 hb2 hL1 hM1 hB1 CR
  go_wp2_with fail
  refine (Same_any _ _ _ _ _ _ tl _ (by omega) hL2 hR2).mono ?_
  rintro r w3 ⟨rfl, hb3⟩
  have hM3 := hM2.later hb3
  have hS3 := hS2.later hb3
  have hB3 := bthen hB2 hb3
  clear hb3 hL2 hR2 hB2 hM2 hS2
  go_wp2_with fail
  refine (Bools_any _ _ _ _ _ _ tb _ htb' hM3 hS3).mono ?_
  rintro r w4 ⟨rfl, hb4⟩
  have hB4 := bthen hB3 hb4
  clear hb4 hB3 hM3 hS3
  go_wp2_with (go_at_call 9; refine (known7_any _).mono ?_; rintro e w6 ⟨rfl, hb6⟩)
  go_ret
  exact ⟨rfl, bthen hB4 hb6⟩
end Go.Proofs.Ytjmeeklaclidbaa.LawRateMany
