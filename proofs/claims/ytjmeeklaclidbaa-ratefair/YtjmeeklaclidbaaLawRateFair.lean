/- The walk of RateFair: for rows that lie in memory and integers that fit int it returns true and makes at most new memory. -/
import Derived.Test.YtjmeeklaclidbaaRateK
namespace Go.Proofs.Ytjmeeklaclidbaa.LawRateFair
open Go.ChangeShapes Go.WideShapes Go.ChangeAt Go.RowKit Go.Shelf
set_option linter.unusedVariables false
attribute [local go_sem ↓] Go.wp_at_zero Go.wp_at_succ

/-- How many of a node came, and how many were taken. -/
def cntA (node : Int) (zs : List Int) : Nat := (zs.filter fun z => decide (z = node)).length
def cntT (node : Int) (zs : List Int) (bs : List Bool) : Nat := ((zs.zip bs).filter fun p => decide (p.1 = node) && p.2).length
theorem cntA_snoc (node : Int) (zs : List Int) (z : Int) : cntA node (zs ++ [z]) = cntA node zs + (if z = node then 1 else 0) := by
  unfold cntA
  by_cases h : z = node <;> simp [h]
theorem cntT_snoc (node : Int) (zs : List Int) (bs : List Bool) (h : zs.length = bs.length) (z : Int) (b : Bool) : cntT node (zs ++ [z]) (bs ++ [b]) = cntT node zs bs + (if z = node ∧ b = true then 1 else 0) := by
  unfold cntT
  rw [List.zip_append h]
  by_cases h1 : z = node <;> cases b <;> simp [h1]
theorem cntA_le (node : Int) (zs : List Int) : cntA node zs ≤ zs.length := List.length_filter_le _ _
theorem cntT_le (node : Int) (zs : List Int) (bs : List Bool) : cntT node zs bs ≤ zs.length := by
  unfold cntT
  refine Nat.le_trans (List.length_filter_le _ _) ?_
  simp
  omega
theorem alive_note {now width x : Int} (hw : 1 ≤ width) (hx : (Lit.int .i64 x).wf = true) : aliveB now width (noteOf x now) = true := by
  unfold aliveB
  rw [noteOf_val hx]
  have h : signedF now (now % 65536) = 0 := by unfold signedF; rw [if_pos (by omega)]; omega
  simp only [h]
  simp
  omega
theorem fair (now width limit node : Int) (hw : 1 ≤ width) (es : List Note) (hes : es.length ≤ 40) (zs : List Int) : (∀ z ∈ zs, (Lit.int .i64 z).wf = true) → zs.length ≤ 20 →
    (live now width (manyL now width limit es zs).1).length ≤ 40 + zs.length ∧ cntN node (live now width (manyL now width limit es zs).1) = cntN node (live now width es) + cntT node zs (manyL now width limit es zs).2 ∧
    (cntT node zs (manyL now width limit es zs).2 : Int) = min (cntA node zs : Int) (roomF limit (cntN node (live now width es))) := by
  induction zs using snoc_rec with
  | h0 =>
    intro _ _
    have := live_le now width es
    refine ⟨by simp [manyL]; omega, by simp [manyL, cntT], ?_⟩
    simp only [manyL, List.foldl_nil, cntT, cntA, List.zip_nil_left, List.filter_nil, List.length_nil]
    unfold roomF
    split <;> omega
  | h1 l z ih =>
    intro hz hlen
    simp at hlen
    obtain ⟨i1, i2, i3⟩ := ih (fun y hy => hz y (by simp [hy])) (by omega)
    have hm2 := manyL_len2 now width limit es l
    have hzw := hz z (by simp)
    rw [manyL_snoc]
    generalize manyL now width limit es l = st at *
    obtain ⟨sl, sb⟩ := st
    dsimp only at *
    have hA := cntA_snoc node l z
    have hAl := cntA_le node l
    have hTl := cntT_le node l sb
    generalize hc0 : cntN node (live now width es) = c0 at *
    by_cases h1 : limit ≤ (cntN z (live now width sl) : Int)
    · rw [takeL_no h1]
      have hT := cntT_snoc node l sb hm2.symm z ((17 : Int) != 17)
      rw [if_neg (by simp)] at hT
      dsimp only
      rw [live_live, hT, hA, List.length_append]
      refine ⟨by simp; omega, by omega, ?_⟩
      by_cases h2 : z = node
      · subst h2
        rw [if_pos rfl]
        unfold roomF at i3 ⊢
        split at i3 <;> omega
      · rw [if_neg h2]; simpa using i3
    · rw [takeL_yes h1 (by omega)]
      have hT := cntT_snoc node l sb hm2.symm z ((0 : Int) != 17)
      have hal : live now width (addL (live now width sl) (noteOf z now)) = live now width sl ++ [noteOf z now] := by
        rw [addL_few _ (by omega), live_snoc_yes _ (alive_note hw hzw), live_live]
      dsimp only
      rw [hal, cntN_snoc, hT, hA, List.length_append, List.length_append, noteOf_val hzw]
      dsimp only
      by_cases h2 : z = node
      · subst h2
        rw [if_pos rfl, if_pos ⟨rfl, by decide⟩]
        refine ⟨by simp; omega, by omega, ?_⟩
        unfold roomF at i3 ⊢
        split at i3 <;> omega
      · rw [if_neg h2, if_neg (fun h => h2 h.1)]
        exact ⟨by simp; omega, by omega, by simpa using i3⟩

set_option maxHeartbeats 4000000 in
theorem walk (ad : Option Addr) (cap : Nat) (es : List Note) (now width limit : Int) (ad2 : Option Addr) (cap2 : Nat) (zs : List Int) (node : Int) (W : World) (hl : es.length ≤ 9223372036854775807) (hE : Ents W.heap.size W (.slice ad es.length cap) es)
    (hnow : (Lit.int .i64 now).wf = true) (hwd : (Lit.int .i64 width).wf = true) (hlm : (Lit.int .i64 limit).wf = true) (hl2 : zs.length ≤ 9223372036854775807) (hN : Nums W.heap.size W (.slice ad2 zs.length cap2) zs) (hz : ∀ z ∈ zs, (Lit.int .i64 z).wf = true) (hx0 : -9223372036854775808 ≤ node ∧ node ≤ 9223372036854775807) :
    Calls Try.prog 5 #[.agg #[.slice ad es.length cap, .int .i64 now, .int .i64 width, .int .i64 limit], .slice ad2 zs.length cap2, .int .i64 node] W fun e w' => e = .returned (.bool true) ∧ Below W.heap.size W w' := by
  have hx := wf64' hx0
  have hlim := bd64 hlm
  have hB0' : Below W.heap.size W (W.alloc (.cells #[.slice ad es.length cap, .int .i64 now, .int .i64 width, .int .i64 limit] 24)) := ballc _ _
  go_enter Try.func5, Try.ntmps5
  go_wp2
  go_quiet (fail)
  have hB0 : Below W.heap.size W ((W.alloc (.cells #[.slice ad es.length cap, .int .i64 now, .int .i64 width, .int .i64 limit] 24)).drewN nq) := ⟨hB0'.os, hB0'.tape, hB0'.output, hB0'.size, hB0'.block⟩
  generalize ((W.alloc (.cells #[.slice ad es.length cap, .int .i64 now, .int .i64 width, .int .i64 limit] 24)).drewN nq) = W0 at hB0 ⊢
  clear hB0'
  have hE0 := hE.later hB0
  have hN0 := hN.later hB0
  by_cases h40 : 40 < es.length
  · have q1 : decide (40 < (es.length : Int)) = true := by simp; omega
    go_wp2_with (go_at_call 9; refine (known7_any _).mono ?_; rintro e w1 ⟨rfl, hb⟩)
    go_ret
    exact ⟨rfl, bthen hB0 hb⟩
  have q1 : decide (40 < (es.length : Int)) = false := by simp; omega
  by_cases h20 : 20 < zs.length
  · have q2 : decide (20 < (zs.length : Int)) = true := by simp; omega
    go_wp2_with (go_at_call 9; refine (known7_any _).mono ?_; rintro e w1 ⟨rfl, hb⟩)
    go_ret
    exact ⟨rfl, bthen hB0 hb⟩
  have q2 : decide (20 < (zs.length : Int)) = false := by simp; omega
  by_cases hw1 : width < 1
  · go_wp2_with (go_at_call 9; refine (known7_any _).mono ?_; rintro e w1 ⟨rfl, hb⟩)
    go_ret
    exact ⟨rfl, bthen hB0 hb⟩
  have hfair := (fair now width limit node (by omega) es (by omega) zs hz (by omega)).2.2
  have htb := manyL_len2 now width limit es zs
  have CM := fun V h => Room_any ad es.length cap node now width limit es hx hlim (by omega) V h
  have CT := fun V h h2 => Many_any ad es.length cap ad2 zs.length cap2 now width limit es zs hz (by omega) (by omega) V h h2
  generalize manyL now width limit es zs = tk at *
  obtain ⟨tl, tb⟩ := tk
  dsimp only at htb CT hfair
  generalize roomF limit (cntN node (live now width es)) = rm at *
  rw [htb] at CT
  go_wp2_with fail
  refine (CM _ hE0).mono ?_
  rintro r w1 ⟨rfl, hb1⟩
  have hE1 := hE0.later hb1
  have hN1 := hN0.later hb1
  have hB1 := bthen hB0 hb1
  clear hE0 hN0 hb1 CM hB0
  go_wp2_with fail
  refine (CT _ hE1 hN1).mono ?_
  rintro r w2 ⟨a2, c2, b2, d2, rfl, hR2, hS2, hb2⟩
  have hN2 := hN1.later hb2
  have hB2 := bthen hB1 hb2
  clear hE1 hN1 hb2 hB1 CT hR2
  obtain ⟨_, _, hv, _, _, hc⟩ := id hN2
  obtain ⟨rfl, rfl⟩ : ad2 = _ ∧ cap2 = _ := by simpa using hv
  clear hv
  have HF := hidden hfair
  have HT := hidden htb
  clear hfair htb
  go_wp2
  go_loopw [14, 15, 16] (fun av tv i wr => ∃ k : Nat, k ≤ zs.length ∧ av = .int .i64 (cntA node (zs.take k) : Int) ∧ tv = .int .i64 (cntT node (zs.take k) (tb.take k) : Int) ∧ i = .int .i64 (k : Int) ∧ wr = w2) (fun _ _ i _ => zs.length - (intV i).toNat)
  case atStart => exact ⟨0, Nat.zero_le _, by simp [cntA], by simp [cntT], rfl, rfl⟩
  case round =>
    obtain ⟨k, hk, rfl, rfl, rfl, rfl⟩ := hrel
    by_cases hlt : k < zs.length
    · have hltb : k < tb.length := by have := HT.out; omega
      obtain ⟨b, off, rfl, hbl, f0⟩ := hc k hlt
      obtain ⟨b', off', rfl, hbl', e0'⟩ := hS2.at k hltb
      have f1 : wr.cell? ⟨b', off' + k, none⟩ = some (.bool tb[k]) := by simpa [kBool] using e0' 0 (by decide)
      have htake := take_snoc zs hlt
      have htakeb : tb.take (k + 1) = tb.take k ++ [tb[k]] := by rw [List.take_add_one]; simp [hltb]
      have hA := cntA_snoc node (zs.take k) (zs.getD k 0)
      have hT := cntT_snoc node (zs.take k) (tb.take k) (by rw [List.length_take, List.length_take]; omega) (zs.getD k 0) tb[k]
      rw [← htake] at hA
      rw [← htake, ← htakeb] at hT
      have hAl := cntA_le node (zs.take k)
      have hTl := cntT_le node (zs.take k) (tb.take k)
      rw [List.length_take] at hAl hTl
      clear e0' hc htake htakeb
      generalize zs.getD k 0 = z at *
      generalize tb[k] = bb at *
      generalize cntA node (zs.take k) = A0 at *
      generalize cntT node (zs.take k) (tb.take k) = T0 at *
      have HA := hidden hA
      have HTT := hidden hT
      clear hA hT
      have t1 : IntKind.i64.wrap ((A0 : Int) + 1) = (A0 : Int) + 1 := IntWalk.i64_in _ (by omega)
      have t2 : IntKind.i64.wrap ((T0 : Int) + 1) = (T0 : Int) + 1 := IntWalk.i64_in _ (by omega)
      have i1 : (0 : Int) ≤ (k : Int) := by omega
      have i2 : (k : Int) < (zs.length : Int) := by omega
      by_cases hzn : z = node
      · subst hzn
        cases bb with
        | true =>
          go_wp2
          go_roundw
          case rel => exact ⟨k + 1, by omega, by rw [HA.out, if_pos rfl]; simp, by rw [HTT.out, if_pos ⟨rfl, rfl⟩]; simp, by simp, trivial⟩
          case measure => simp [intV]; omega
        | false =>
          go_wp2
          go_roundw
          case rel => exact ⟨k + 1, by omega, by rw [HA.out, if_pos rfl]; simp, by rw [HTT.out, if_neg (by simp)]; simp, by simp, trivial⟩
          case measure => simp [intV]; omega
      · go_wp2
        go_roundw
        case rel => exact ⟨k + 1, by omega, by rw [HA.out, if_neg hzn]; simp, by rw [HTT.out, if_neg (fun h => hzn h.1)]; simp, by simp, trivial⟩
        case measure => simp [intV]; omega
    · obtain rfl : k = zs.length := by omega
      have ht := HT.out
      have e1 : tb.take zs.length = tb := by rw [← ht, List.take_length]
      rw [List.take_length, e1]
      have hfin := HF.out
      have e2 : (cntT node zs tb : Int) = if rm < (cntA node zs : Int) then rm else (cntA node zs : Int) := by rw [hfin]; split <;> omega
      generalize cntA node zs = A at *
      generalize cntT node zs tb = T at *
      clear hfin e1 ht
      go_wp2_with (go_at_call 9; refine (known7_any _).mono ?_; rintro e w6 ⟨rfl, hb6⟩)
      all_goals (go_ret; exact ⟨rfl, bthen hB2 hb6⟩)
end Go.Proofs.Ytjmeeklaclidbaa.LawRateFair
