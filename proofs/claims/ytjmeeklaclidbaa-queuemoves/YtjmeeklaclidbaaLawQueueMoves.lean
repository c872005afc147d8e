/- The walk of QueueMoves: for rows of items that lie in memory and integers that fit int it returns true and makes at most new memory. -/
import Derived.Test.YtjmeeklaclidbaaQueR
namespace Go.Proofs.Ytjmeeklaclidbaa.LawQueueMoves
open Go.ChangeShapes Go.WideShapes Go.ChangeAt Go.RowKit
set_option linter.unusedVariables false

set_option maxHeartbeats 4000000 in
theorem walk (ad : Option Addr) (cap : Nat) (es : List Item) (ad2 : Option Addr) (cap2 : Nat) (fs : List Item) (ticks : Int) (W : World) (hl : es.length ≤ 9223372036854775807) (hE : kItem.Lies W.heap.size W (.slice ad es.length cap) es)
    (hl2 : fs.length ≤ 9223372036854775807) (hF : kItem.Lies W.heap.size W (.slice ad2 fs.length cap2) fs) (htk : -9223372036854775808 ≤ ticks ∧ ticks ≤ 9223372036854775807) :
    Calls Try.prog 7 #[.slice ad es.length cap, .slice ad2 fs.length cap2, .int .i64 ticks] W fun e w' => e = .returned (.bool true) ∧ Below W.heap.size W w' := by
  by_cases h30 : 30 < es.length
  · have q1 : decide (30 < (es.length : Int)) = true := by simp; omega
    go_enter Try.func7, Try.ntmps7
    go_wp2_with (go_at_call 20; refine (known8_any _).mono ?_; rintro e w1 ⟨rfl, hb⟩)
    go_ret
    exact ⟨rfl, hb⟩
  have q1 : decide (30 < (es.length : Int)) = false := by simp; omega
  by_cases h31 : 30 < fs.length
  · go_enter Try.func7, Try.ntmps7
    go_wp2_with (go_at_call 20; refine (known8_any _).mono ?_; rintro e w1 ⟨rfl, hb⟩)
    go_ret
    exact ⟨rfl, hb⟩
  have CP := fun V h h2 => Push_any ad es.length cap ad2 fs.length cap2 es fs (by omega) V h h2
  have RP := fun V h h2 => rPush_any ad es.length cap ad2 fs.length cap2 es fs (by omega) V h h2
  have CS := fun V h => Step_any ad es.length cap es (by omega) V h
  have RS := fun V h => rStep_any ad es.length cap es (by omega) V h
  have CD := fun V h => Due_any ad es.length cap ticks es (by omega) V h
  have RD := fun V h => rDue_any ad es.length cap ticks es (by omega) V h
  have hpl := pushL_length es fs
  have hcl := comeL_le es
  have hrl := restL_le es
  have hpl' : (pushL es fs).length ≤ 1000000 := by omega
  have hcl' : (comeL es).length ≤ 1000000 := by omega
  have hrl' : (restL es).length ≤ 1000000 := by omega
  clear hpl hcl hrl
  generalize pushL es fs = pl at *
  generalize comeL es = cl at *
  generalize restL es = rl at *
  generalize dueN es ticks = dn at *
  generalize es.length + fs.length - 8 = gn at *
  go_enter Try.func7, Try.ntmps7
  go_wp2_with fail
  refine (CP _ hE hF).mono ?_
  rintro r w1 ⟨a1, c1, rfl, hA1, hB1⟩
  have hE1 := hE.later hB1
  have hF1 := hF.later hB1
  clear CP hE hF
  go_wp2_with fail
  refine (RP _ hE1 hF1).mono ?_
  rintro r w2 ⟨a2, c2, rfl, hR2, hb2⟩
  have hE2 := hE1.later hb2
  have hA2 := hA1.later hb2
  have hB2 := bthen hB1 hb2
  clear RP hE1 hF1 hA1 hB1 hb2
  go_wp2_with fail
  refine (CS _ hE2).mono ?_
  rintro r w3 ⟨a3, c3, b3, d3, rfl, hC3, hD3, hb3⟩
  have hE3 := hE2.later hb3
  have hA3 := hA2.later hb3
  have hR3 := hR2.later hb3
  have hB3 := bthen hB2 hb3
  clear CS hE2 hA2 hR2 hB2 hb3
  go_wp2_with fail
  refine (RS _ hE3).mono ?_
  rintro r w4 ⟨a4, c4, b4, d4, rfl, hX4, hY4, hb4⟩
  have hE4 := hE3.later hb4
  have hA4 := hA3.later hb4
  have hR4 := hR3.later hb4
  have hC4 := hC3.later hb4
  have hD4 := hD3.later hb4
  have hB4 := bthen hB3 hb4
  clear RS hE3 hA3 hR3 hC3 hD3 hB3 hb4
  go_wp2_with fail
  refine (SameI_any _ _ _ _ _ _ pl _ hpl' hA4 hR4).mono ?_
  rintro r w5 ⟨rfl, hb5⟩
  have hE5 := hE4.later hb5
  have hC5 := hC4.later hb5
  have hD5 := hD4.later hb5
  have hX5 := hX4.later hb5
  have hY5 := hY4.later hb5
  have hB5 := bthen hB4 hb5
  clear hE4 hA4 hR4 hC4 hD4 hX4 hY4 hB4 hb5
  go_wp2_with fail
  refine (SameI_any _ _ _ _ _ _ cl _ hcl' hC5 hX5).mono ?_
  rintro r w6 ⟨rfl, hb6⟩
  have hE6 := hE5.later hb6
  have hD6 := hD5.later hb6
  have hY6 := hY5.later hb6
  have hB6 := bthen hB5 hb6
  clear hE5 hC5 hD5 hX5 hY5 hB5 hb6
  go_wp2_with fail
  refine (SameI_any _ _ _ _ _ _ rl _ hrl' hD6 hY6).mono ?_
  rintro r w7 ⟨rfl, hb7⟩
  have hE7 := hE6.later hb7
  have hB7 := bthen hB6 hb7
  clear hE6 hD6 hY6 hB6 hb7
  go_wp2_with fail
  refine (CD _ hE7).mono ?_
  rintro r w8 ⟨rfl, hb8⟩
  have hE8 := hE7.later hb8
  have hB8 := bthen hB7 hb8
  clear hE7 hB7 hb8 CD
  go_wp2_with fail
  refine (RD _ hE8).mono ?_
  rintro r w9 ⟨rfl, rfl⟩
  go_wp2_with (go_at_call 20; refine (known8_any _).mono ?_; rintro e w10 ⟨rfl, hb10⟩)
  go_ret
  exact ⟨rfl, bthen hB8 hb10⟩
end Go.Proofs.Ytjmeeklaclidbaa.LawQueueMoves
