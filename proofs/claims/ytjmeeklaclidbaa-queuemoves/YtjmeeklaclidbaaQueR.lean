/- The calls of the document's answer on items return what plain functions give; for rows of items that lie in memory, few enough. -/
import Derived.Test.YtjmeeklaclidbaaQueK
namespace Go.Proofs.Ytjmeeklaclidbaa
open Go.ChangeShapes Go.WideShapes Go.ChangeAt Go.RowKit
set_option linter.unusedVariables false

theorem rsat_any (a : Int) (w : World) (ha : (Lit.int .i64 a).wf = true) : Calls Try.prog 40 #[.int .i64 a, .int .i64 65535] w fun e w' => e = .returned (.int .i64 (satF a)) ∧ w = w' := by
  have hb := bd64 ha
  unfold satF
  by_cases h0 : a < 0
  · rw [if_pos h0]
    have q : decide (a < 0) = true := by simp; omega
    go_enter Try.func40, Try.ntmps40
    go_wp2
    go_ret
    exact ⟨rfl, rfl⟩
  · rw [if_neg h0]
    have q : decide (a < 0) = false := by simp; omega
    by_cases h1 : 65535 ≤ a
    · rw [if_pos h1]
      go_enter Try.func40, Try.ntmps40
      go_wp2
      go_ret
      exact ⟨rfl, rfl⟩
    · rw [if_neg h1]
      go_enter Try.func40, Try.ntmps40
      go_wp2
      go_ret
      exact ⟨rfl, rfl⟩
set_option maxHeartbeats 1000000 in
theorem rDue_any (ad : Option Addr) (len cap : Nat) (ticks : Int) (es : List Item) (hlen : es.length ≤ 1000000) (w : World) (hE : kItem.Lies w.heap.size w (.slice ad len cap) es) :
    Calls Try.prog 27 #[.slice ad len cap, .int .i64 ticks] w fun e w' => e = .returned (.int .i64 (dueN es ticks : Int)) ∧ w = w' := by
  obtain rfl := hE.len
  go_enter Try.func27, Try.ntmps27
  go_wp2
  go_loopw [5, 6] (fun n i wr => ∃ k : Nat, k ≤ es.length ∧ n = .int .i64 (dueN (es.take k) ticks : Int) ∧ i = .int .i64 (k : Int) ∧ w = wr) (fun _ i _ => es.length - (intV i).toNat)
  case atStart => exact ⟨0, Nat.zero_le _, rfl, rfl, rfl⟩
  case round =>
    obtain ⟨k, hk, rfl, rfl, rfl⟩ := hrel
    by_cases hlt : k < es.length
    · obtain ⟨b, off, rfl, hbl, f0, f1, f2⟩ := Lies_item hE k hlt
      have hsn := dueN_snoc (es.take k) es[k] ticks
      rw [← take_item es hlt] at hsn
      have hdl := dueN_le (es.take k) ticks
      rw [List.length_take] at hdl
      clear hE
      generalize es[k] = z at *
      generalize dueN (es.take k) ticks = n0 at *
      have t1 : IntKind.i64.wrap ((n0 : Int) + 1) = (n0 : Int) + 1 := IntWalk.i64_in _ (by omega)
      have i1 : (0 : Int) ≤ (k : Int) := by omega
      have i2 : (k : Int) < (es.length : Int) := by omega
      have HS := hidden hsn
      clear hsn
      by_cases h1 : 1 ≤ ticks
      · have q1 : decide (1 ≤ ticks) = true := by simp; omega
        by_cases h2 : z.1.2.1 ≤ ticks
        · have hcb : comesB ticks z = true := by simp [comesB]; omega
          by_cases h3 : 1 < z.1.2.1
          · go_wp2
            go_roundw
            case rel => exact ⟨k + 1, by omega, by rw [HS.out, if_pos hcb]; simp, by simp, trivial⟩
            case measure => simp [intV]; omega
          · go_wp2
            go_roundw
            case rel => exact ⟨k + 1, by omega, by rw [HS.out, if_pos hcb]; simp, by simp, trivial⟩
            case measure => simp [intV]; omega
        · have hcb : ¬ comesB ticks z = true := by simp [comesB]; omega
          have h3 : 1 < z.1.2.1 := by omega
          go_wp2
          go_roundw
          case rel => exact ⟨k + 1, by omega, by rw [HS.out, if_neg hcb]; simp, by simp, trivial⟩
          case measure => simp [intV]; omega
      · have q1 : decide (1 ≤ ticks) = false := by simp; omega
        have hcb : ¬ comesB ticks z = true := by simp [comesB]; omega
        go_wp2
        go_roundw
        case rel => exact ⟨k + 1, by omega, by rw [HS.out, if_neg hcb]; simp, by simp, trivial⟩
        case measure => simp [intV]; omega
    · obtain rfl : k = es.length := by omega
      rw [List.take_length]
      go_wp2
      go_ret
      exact ⟨rfl, rfl⟩

set_option maxHeartbeats 2000000 in
theorem rPush_any (ad : Option Addr) (len cap : Nat) (ad2 : Option Addr) (len2 cap2 : Nat) (es fs : List Item) (hl : es.length + fs.length ≤ 10000) (w : World) (hE : kItem.Lies w.heap.size w (.slice ad len cap) es) (hF : kItem.Lies w.heap.size w (.slice ad2 len2 cap2) fs) :
    Calls Try.prog 22 #[.slice ad len cap, .slice ad2 len2 cap2] w fun e w' => ∃ a c, e = .returned (.tuple #[.slice a (pushL es fs).length c, .int .i64 ((es.length + fs.length - 8 : Nat) : Int)]) ∧ kItem.Lies w'.heap.size w' (.slice a (pushL es fs).length c) (pushL es fs) ∧ Below w.heap.size w w' := by
  obtain ⟨i0, hi, hz0, hz1, hz2⟩ := info_parts infoItem
  obtain ⟨al, hal⟩ : ∃ al, es ++ fs = al := ⟨_, rfl⟩
  obtain ⟨n, hn⟩ : ∃ n, es.length + fs.length = n := ⟨_, rfl⟩
  have hln : al.length = n := by rw [← hal, List.length_append, hn]
  have hpd : pushL es fs = al.drop (n - 8) := by unfold pushL; rw [hal, hln]
  rw [hpd, hn]
  have HF2 := hidden (show kItem.flat es ++ kItem.flat fs = kItem.flat al by rw [← Kind.flat_append, hal])
  have HN := hidden hln
  have HE := hidden hn
  have hl2 : n ≤ 10000 := by omega
  clear hal hn hln hpd
  go_enter Try.func22, Try.ntmps22
  go_wp2_with (first
    | (at_builtin; refine kItem.wpList_append _ rfl _ _ 42 rfl w.heap.size 52 i0 (.agg #[.int .i64 0, .int .i64 0, .string ByteArray.empty]) 32 Try.underlying42 hi hz0 hz1 hz2 rfl (.slice none 0 0) 0 [] rfl (World.ownsRow_nil _ _ _ _) (.slice ad len cap) es rfl hE (by simp only [maxLen]; omega) (by omega) (Nat.le_refl _) ?_; intro v1 w1 hown1 hgrow1 _; have hb1 : Below w.heap.size w w1 := (Below.refl _ w).grown hgrow1 (Nat.le_refl _) (fun k h => by simp [Value.ownBlock] at h); clear hE)
    | (at_builtin; refine kItem.wpList_append _ rfl _ _ 42 rfl w.heap.size 52 i0 (.agg #[.int .i64 0, .int .i64 0, .string ByteArray.empty]) 32 Try.underlying42 hi hz0 hz1 hz2 rfl v1 _ _ rfl hown1 (.slice ad2 len2 cap2) fs rfl (hF.below hb1) (by simp only [maxLen]; omega) (by omega) hb1.size ?_; intro v2 w2 hown2 hgrow2 _))
  have hb2 : Below w.heap.size w w2 := hb1.grown hgrow2 hb1.size (own_from hown1)
  have hown3 : w2.ownsRow w.heap.size 52 kItem.k v2 al.length (kItem.flat al) := by
    rw [← HF2.out, HN.out, ← HE.out]
    simpa using hown2
  have hL2 := Kind.Lies.of_own (K := kItem) hown3
  rw [HN.out] at hown3
  obtain ⟨a2, c2, rfl⟩ := own_slice hown3
  clear hown1 hown2 hown3 hgrow1 hgrow2 hb1 hF hl
  go_loopw [6, 7] (fun v i wr => ∃ (k L : Nat) (a : Option Addr) (c : Nat), L + k = n ∧ k ≤ n - 8 ∧ v = .slice a L c ∧ kItem.Lies wr.heap.size wr (.slice a L c) (al.drop k) ∧ i = .int .i64 (k : Int) ∧ w2 = wr) (fun v i _ => n - (intV i).toNat)
  case atStart => exact ⟨0, n, a2, c2, rfl, Nat.zero_le _, rfl, hL2, rfl, rfl⟩
  case round =>
    obtain ⟨k, L, a, c, hLk, hk, rfl, hA, rfl, rfl⟩ := hrel
    have hdl : (al.drop k).length = L := by rw [List.length_drop, HN.out]; omega
    by_cases h8 : 8 < L
    · obtain ⟨b, off, rfl, hbl, _⟩ := hA.at 0 (by omega)
      have hD := hA.drop 1 (by omega)
      obtain ⟨_, _, hv, hcap, _⟩ := id hA
      have hcc : L ≤ c := by simp at hv; omega
      have k1 : ¬ c = 1 := by omega
      have k2 : (1 : Int) ≤ (L : Int) := by omega
      have k3 : (L : Int) ≤ (c : Int) := by omega
      have i1 : (8 : Int) < (L : Int) := by omega
      have t1 : IntKind.i64.wrap ((k : Int) + 1) = (k : Int) + 1 := IntWalk.i64_in _ (by omega)
      clear hv hcap
      go_wp2
      go_roundw
      case rel => exact ⟨k + 1, L - 1, some ⟨b, off + 3, none⟩, c - 1, by omega, by omega, rfl, by rw [List.drop_drop] at hD; exact hD, by simp, trivial⟩
      case measure => simp [intV]; omega
    · have i1 : ¬ (8 : Int) < (L : Int) := by omega
      have hkn : k = n - 8 := by omega
      go_wp2
      go_ret2
      have hll : al.length - k = L := by have := HN.out; omega
      exact ⟨a, c, by rw [← hkn, hll]; rfl, by rw [← hkn, hll]; exact hA, hb2⟩

set_option maxHeartbeats 4000000 in
theorem rStep_any (ad : Option Addr) (len cap : Nat) (es : List Item) (hlen : es.length ≤ 1000000) (w : World) (hE : kItem.Lies w.heap.size w (.slice ad len cap) es) :
    Calls Try.prog 24 #[.slice ad len cap] w fun e w' => ∃ a c b d, e = .returned (.tuple #[.slice a (comeL es).length c, .slice b (restL es).length d]) ∧ kItem.Lies w'.heap.size w' (.slice a (comeL es).length c) (comeL es) ∧ kItem.Lies w'.heap.size w' (.slice b (restL es).length d) (restL es) ∧ Below w.heap.size w w' := by
  obtain rfl := hE.len
  obtain ⟨i0, hi, hz0, hz1, hz2⟩ := info_parts infoItem
  go_enter Try.func24, Try.ntmps24
  go_wp2
  go_loopw [4, 5, 6] (fun vc vr i wr => ∃ k : Nat, k ≤ es.length ∧ wr.ownsRow w.heap.size 52 3 vc (comeL (es.take k)).length (kItem.flat (comeL (es.take k))) ∧ wr.ownsRow w.heap.size 52 3 vr (restL (es.take k)).length (kItem.flat (restL (es.take k))) ∧ (∀ q, vc.ownBlock = some q → vr.ownBlock ≠ some q) ∧ i = .int .i64 (k : Int) ∧ Below w.heap.size w wr) (fun _ _ i _ => es.length - (intV i).toNat)
  case atStart => exact ⟨0, Nat.zero_le _, World.ownsRow_nil _ _ _ _, World.ownsRow_nil _ _ _ _, fun q h => by simp [Value.ownBlock] at h, rfl, Below.refl _ _⟩
  case round =>
    obtain ⟨k, hk, hoc, hor, hne, rfl, hB⟩ := hrel
    by_cases hlt : k < es.length
    · obtain ⟨b, off, rfl, hbl, e0, e1, e2⟩ := Lies_item hE k hlt
      have f0 := (hB.cell (p := ⟨b, off + k * 3, none⟩) hbl).trans e0
      have f1 := (hB.cell (p := ⟨b, off + k * 3 + 1, none⟩) hbl).trans e1
      have f2 := (hB.cell (p := ⟨b, off + k * 3 + 2, none⟩) hbl).trans e2
      have hl1 := comeL_le (es.take k)
      have hl2 := restL_le (es.take k)
      rw [List.length_take] at hl1 hl2
      have htk := take_item es hlt
      have hbs := hB.size
      clear e0 e1 e2 hE
      generalize es[k] = x at *
      generalize hcs : comeL (es.take k) = cs at *
      generalize hrs : restL (es.take k) = rs at *
      have CS := fun V => rsat_any x.1.1 V x.2.1
      have i1 : (0 : Int) ≤ (k : Int) := by omega
      have i2 : (k : Int) < (es.length : Int) := by omega
      by_cases h1 : x.1.2.1 ≤ 1
      · have hc1 : comeL (es.take (k + 1)) = cs ++ [comeOf x] := by rw [htk, comeL_yes _ h1, hcs]
        have hr1 : restL (es.take (k + 1)) = rs := by rw [htk, restL_yes _ h1, hrs]
        have HC := hidden hc1
        have HR := hidden hr1
        clear hc1 hr1 htk hcs hrs
        have hA2 : Below wr.heap.size wr ((wr.alloc (.cells #[.int .i64 (satF x.1.1), .int .i64 0, .string x.1.2.2] 52)).alloc (.cells #[.int .i64 (satF x.1.1), .int .i64 0, .string x.1.2.2] 52)) := (ballc wr _).alloc (by simp) _
        have hN : ((wr.alloc (.cells #[.int .i64 (satF x.1.1), .int .i64 0, .string x.1.2.2] 52)).alloc (.cells #[.int .i64 (satF x.1.1), .int .i64 0, .string x.1.2.2] 52)).heap[wr.heap.size + 1]? = some (.cells (kItem.flat [comeOf x]).toArray 52 (0, 0)) := by
          have := heap_alloc_new (wr.alloc (.cells #[.int .i64 (satF x.1.1), .int .i64 0, .string x.1.2.2] 52)) (.cells #[.int .i64 (satF x.1.1), .int .i64 0, .string x.1.2.2] 52)
          simp only [World.size_alloc] at this
          exact this
        go_wp2_with fail
        refine (CS _).mono ?_
        rintro r w' ⟨rfl, rfl⟩
        go_wp2_with (at_builtin; (refine kItem.wpList_append _ rfl _ _ 42 rfl w.heap.size 52 i0 (.agg #[.int .i64 0, .int .i64 0, .string ByteArray.empty]) 32 Try.underlying42 hi hz0 hz1 hz2 rfl u4 _ _ rfl (own_below hoc hA2) (.slice (some ⟨wr.heap.size + 1, 0, none⟩) 1 1) [comeOf x] rfl (Kind.Lies.of_block (K := kItem) (es := [comeOf x]) hN (by simp only [maxLen, List.length_singleton]; omega)) (by simp only [maxLen, List.length_singleton]; omega) (by simp only [List.length_singleton]; omega) (by simp; omega) ?_); intro v3 w3 hown3 hgrow3 hat3)
        have hB3 : Below w.heap.size w w3 := (bthen hB hA2).grown hgrow3 (by have := hA2.size; omega) (own_from hoc)
        go_roundw
        case rel =>
          refine ⟨k + 1, by omega, by rw [HC.out, Kind.flat_append, List.length_append]; exact hown3, ?_, ?_, by simp, hB3⟩
          · rw [HR.out]
            refine (own_below hor hA2).kept hgrow3 ?_
            cases hv : u5.ownBlock with
            | none => exact .inl rfl
            | some q => exact .inr (fun e => hne q e.symm hv)
          · intro q hq hq2
            rcases hat3 with e | e
            · exact hne q (e.symm.trans hq) hq2
            · have h3 := (hor.lt q hq2).2
              rw [hq] at e
              cases e
              simp at h3
              omega
        case measure => simp [intV]; omega
      · have hc1 : comeL (es.take (k + 1)) = cs := by rw [htk, comeL_no _ h1, hcs]
        have hr1 : restL (es.take (k + 1)) = rs ++ [restOf x] := by rw [htk, restL_no _ h1, hrs]
        have HC := hidden hc1
        have HR := hidden hr1
        clear hc1 hr1 htk hcs hrs
        have hbx := bd64 x.2.2.1
        have t1 : IntKind.i64.wrap (x.1.2.1 - 1) = x.1.2.1 - 1 := IntWalk.i64_in _ (by omega)
        have hro : kItem.flat [restOf x] = [.int .i64 (satF x.1.1), .int .i64 (x.1.2.1 - 1), .string x.1.2.2] := by rw [cells_one_item, restOf_val (by omega)]
        have hA2 : Below wr.heap.size wr ((wr.alloc (.cells #[.int .i64 (satF x.1.1), .int .i64 (x.1.2.1 - 1), .string x.1.2.2] 52)).alloc (.cells #[.int .i64 (satF x.1.1), .int .i64 (x.1.2.1 - 1), .string x.1.2.2] 52)) := (ballc wr _).alloc (by simp) _
        have hN : ((wr.alloc (.cells #[.int .i64 (satF x.1.1), .int .i64 (x.1.2.1 - 1), .string x.1.2.2] 52)).alloc (.cells #[.int .i64 (satF x.1.1), .int .i64 (x.1.2.1 - 1), .string x.1.2.2] 52)).heap[wr.heap.size + 1]? = some (.cells (kItem.flat [restOf x]).toArray 52 (0, 0)) := by
          rw [hro]
          have := heap_alloc_new (wr.alloc (.cells #[.int .i64 (satF x.1.1), .int .i64 (x.1.2.1 - 1), .string x.1.2.2] 52)) (.cells #[.int .i64 (satF x.1.1), .int .i64 (x.1.2.1 - 1), .string x.1.2.2] 52)
          simp only [World.size_alloc] at this
          exact this
        clear hro
        go_wp2_with fail
        refine (CS _).mono ?_
        rintro r w' ⟨rfl, rfl⟩
        go_wp2_with (at_builtin; (refine kItem.wpList_append _ rfl _ _ 42 rfl w.heap.size 52 i0 (.agg #[.int .i64 0, .int .i64 0, .string ByteArray.empty]) 32 Try.underlying42 hi hz0 hz1 hz2 rfl u5 _ _ rfl (own_below hor hA2) (.slice (some ⟨wr.heap.size + 1, 0, none⟩) 1 1) [restOf x] rfl (Kind.Lies.of_block (K := kItem) (es := [restOf x]) hN (by simp only [maxLen, List.length_singleton]; omega)) (by simp only [maxLen, List.length_singleton]; omega) (by simp only [List.length_singleton]; omega) (by simp; omega) ?_); intro v3 w3 hown3 hgrow3 hat3)
        have hB3 : Below w.heap.size w w3 := (bthen hB hA2).grown hgrow3 (by have := hA2.size; omega) (own_from hor)
        go_roundw
        case rel =>
          refine ⟨k + 1, by omega, ?_, by rw [HR.out, Kind.flat_append, List.length_append]; exact hown3, ?_, by simp, hB3⟩
          · rw [HC.out]
            refine (own_below hoc hA2).kept hgrow3 ?_
            cases hv : u4.ownBlock with
            | none => exact .inl rfl
            | some q => exact .inr (fun e => hne q hv e.symm)
          · intro q hq hq2
            rcases hat3 with e | e
            · exact hne q hq (e.symm.trans hq2)
            · have h3 := (hoc.lt q hq).2
              rw [hq2] at e
              cases e
              simp at h3
              omega
        case measure => simp [intV]; omega
    · obtain rfl : k = es.length := by omega
      rw [List.take_length] at hoc hor
      have hLc := Kind.Lies.of_own (K := kItem) hoc
      have hLr := Kind.Lies.of_own (K := kItem) hor
      obtain ⟨a1, d1, rfl⟩ := own_slice hoc
      obtain ⟨a2, d2, rfl⟩ := own_slice hor
      go_wp2
      go_ret2
      exact ⟨a1, d1, a2, d2, rfl, hLc, hLr, hB⟩
end Go.Proofs.Ytjmeeklaclidbaa
