/- The call Step of package queue hands back what comes and what rests, in memory of its own; for rows of items that lie in memory, at most a million. -/
import Derived.Test.YtjmeeklaclidbaaQueC
import Derived.RegionTactic
namespace Go.Proofs.Ytjmeeklaclidbaa
open Go.ChangeShapes Go.WideShapes Go.ChangeAt Go.RowKit
set_option linter.unusedVariables false

theorem Two.again {n₀ : Nat} {W : World} {cs rs : List Item} {vc vr : Value} (h : Two n₀ W cs rs vc vr) : Two n₀ ((W.setCell ⟨n₀, 0, none⟩ vc).setCell ⟨n₀ + 1, 0, none⟩ vr).drew cs rs vc vr ∧ Below n₀ W ((W.setCell ⟨n₀, 0, none⟩ vc).setCell ⟨n₀ + 1, 0, none⟩ vr).drew := by
  have b0 : (W.setCell ⟨n₀, 0, none⟩ vc).heap[n₀]? = some (.cells #[vc] 42 (0, 0)) := by simpa using heap_setCell_same W n₀ 0 _ _ vc h.bc
  have b1 : (W.setCell ⟨n₀, 0, none⟩ vc).heap[n₀ + 1]? = some (.cells #[vr] 42 (0, 0)) := by rw [heap_setCell_other W ⟨n₀, 0, none⟩ (n₀ + 1) vc (by simp)]; exact h.br
  have o0 := ownsRow_setCell_below (a := ⟨n₀, 0, none⟩) h.oc (by simp) vc
  have o1 := ownsRow_setCell_below (a := ⟨n₀, 0, none⟩) h.orr (by simp) vc
  have d0 : ((W.setCell ⟨n₀, 0, none⟩ vc).setCell ⟨n₀ + 1, 0, none⟩ vr).heap[n₀]? = some (.cells #[vc] 42 (0, 0)) := by rw [heap_setCell_other _ ⟨n₀ + 1, 0, none⟩ n₀ vr (by simp)]; exact b0
  have d1 : ((W.setCell ⟨n₀, 0, none⟩ vc).setCell ⟨n₀ + 1, 0, none⟩ vr).heap[n₀ + 1]? = some (.cells #[vr] 42 (0, 0)) := by simpa using heap_setCell_same _ (n₀ + 1) 0 _ _ vr b1
  have p0 := ownsRow_setCell_below (a := ⟨n₀ + 1, 0, none⟩) o0 (by simp) vr
  have p1 := ownsRow_setCell_below (a := ⟨n₀ + 1, 0, none⟩) o1 (by simp) vr
  have hb : Below n₀ W ((W.setCell ⟨n₀, 0, none⟩ vc).setCell ⟨n₀ + 1, 0, none⟩ vr) := Below.setCell (p := ⟨n₀ + 1, 0, none⟩) (Below.setCell (p := ⟨n₀, 0, none⟩) (Below.refl _ _) (Nat.le_refl _) _) (by simp) _
  exact ⟨Two.grow ⟨d0, d1, p0, p1, h.ne⟩ (Below.refl _ _).drew, hb.drew⟩
set_option maxHeartbeats 2000000 in
theorem Step_any (ad : Option Addr) (len cap : Nat) (es : List Item) (hlen : es.length ≤ 1000000) (w : World) (hE : kItem.Lies w.heap.size w (.slice ad len cap) es) :
    Calls Try.prog 23 #[.slice ad len cap] w fun e w' => ∃ a c b d, e = .returned (.tuple #[.slice a (comeL es).length c, .slice b (restL es).length d]) ∧ kItem.Lies w'.heap.size w' (.slice a (comeL es).length c) (comeL es) ∧ kItem.Lies w'.heap.size w' (.slice b (restL es).length d) (restL es) ∧ Below w.heap.size w w' := by
  obtain rfl := hE.len
  have hB0 : Below w.heap.size w ((w.alloc (.cells #[.slice none 0 0] 42)).alloc (.cells #[.slice none 0 0] 42)) := (ballc w _).alloc (by simp) _
  have hT0 : Two w.heap.size ((w.alloc (.cells #[.slice none 0 0] 42)).alloc (.cells #[.slice none 0 0] 42)) [] [] (.slice none 0 0) (.slice none 0 0) := by
    refine ⟨?_, ?_, World.ownsRow_nil _ _ _ _, World.ownsRow_nil _ _ _ _, fun k h => by simp [Value.ownBlock] at h⟩
    · exact (Below.heap_alloc _ _ w.heap.size (by simp)).trans (heap_alloc_new w _)
    · have := heap_alloc_new (w.alloc (.cells #[.slice none 0 0] 42)) (.cells #[.slice none 0 0] 42)
      simp only [World.size_alloc] at this
      exact this
  go_enter Try.func23, Try.ntmps23
  go_wp2
  go_loopw [10] (fun i wr => ∃ (k : Nat) (vc vr : Value), k ≤ es.length ∧ i = .int .i64 (k : Int) ∧ Two w.heap.size wr (comeL (es.take k)) (restL (es.take k)) vc vr ∧ Below w.heap.size w wr) (fun i _ => es.length - (intV i).toNat)
  case atStart => exact ⟨0, _, _, Nat.zero_le _, rfl, hT0, hB0⟩
  case round =>
    obtain ⟨k, vc, vr, hk, rfl, hT, hB⟩ := hrel
    by_cases hlt : k < es.length
    · obtain ⟨b, off, rfl, hbl, e0, e1, e2⟩ := Lies_item hE k hlt
      have f0 := (hB.cell (p := ⟨b, off + k * 3, none⟩) hbl).trans e0
      have f1 := (hB.cell (p := ⟨b, off + k * 3 + 1, none⟩) hbl).trans e1
      have f2 := (hB.cell (p := ⟨b, off + k * 3 + 2, none⟩) hbl).trans e2
      have hc : comeL (es.take (k + 1)) = comeL (es.take k) ++ comeL [es[k]] := by rw [take_item es hlt, comeL_append]
      have hr : restL (es.take (k + 1)) = restL (es.take k) ++ restL [es[k]] := by rw [take_item es hlt, restL_append]
      have hl1 := comeL_le (es.take k)
      have hl2 := restL_le (es.take k)
      rw [List.length_take] at hl1 hl2
      clear e0 e1 e2 hE hT0 hB0
      generalize es[k] = z at *
      have HC := hidden hc
      have HR := hidden hr
      clear hc hr
      generalize comeL (es.take k) = cs at *
      generalize restL (es.take k) = rs at *
      have i1 : (0 : Int) ≤ (k : Int) := by omega
      have i2 : (k : Int) < (es.length : Int) := by omega
      have hTb := hT.grow (ballc wr (.cells #[.int .i64 z.1.1, .int .i64 z.1.2.1, .string z.1.2.2] 52))
      go_wp2_with fail
      refine (part_any w.heap.size z cs rs vc vr (by omega) _ hTb).mono ?_
      rintro r w1 ⟨⟨v, rfl⟩, ⟨vc', vr', hT1⟩, hb1⟩
      go_wp2
      go_roundw
      case rel => exact ⟨k + 1, vc', vr', by omega, by simp, by rw [HC.out, HR.out]; exact hT1, (hB.alloc hB.size _).trans hb1⟩
      case measure => simp [intV]; omega
    · obtain rfl : k = es.length := by omega
      rw [List.take_length] at hT
      obtain ⟨c0, c1, c2⟩ := boxed_facts hT.bc
      obtain ⟨r0, r1, r2⟩ := boxed_facts hT.br
      obtain ⟨a1, d1, rfl⟩ := own_slice hT.oc
      obtain ⟨a2, d2, rfl⟩ := own_slice hT.orr
      go_wp2
      go_region
      obtain ⟨hT2, hb2⟩ := hT.again
      have hB2 := hB.trans hb2
      generalize ((wr.setCell ⟨w.heap.size, 0, none⟩ (.slice a1 (comeL es).length d1)).setCell ⟨w.heap.size + 1, 0, none⟩ (.slice a2 (restL es).length d2)).drew = W2 at hT2 hB2 ⊢
      clear hb2 hB hT c0 c1 c2 r0 r1 r2
      obtain ⟨c0, c1, c2⟩ := boxed_facts hT2.bc
      obtain ⟨r0, r1, r2⟩ := boxed_facts hT2.br
      go_wp2
      refine bodyPost_ret (v := .tuple #[.slice a1 (comeL es).length d1, .slice a2 (restL es).length d2]) (by simp [results, Try.results23, go_sem, c0, r0]) rfl ?_
      exact ⟨a1, d1, a2, d2, rfl, Kind.Lies.of_own hT2.oc, Kind.Lies.of_own hT2.orr, hB2⟩
end Go.Proofs.Ytjmeeklaclidbaa
