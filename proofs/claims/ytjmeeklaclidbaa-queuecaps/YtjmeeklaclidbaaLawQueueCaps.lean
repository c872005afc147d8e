/- The walk of QueueCaps: for rows of items that lie in memory it returns true and makes at most new memory. -/
import Derived.Test.YtjmeeklaclidbaaQueK
namespace Go.Proofs.Ytjmeeklaclidbaa.LawQueueCaps
open Go.ChangeShapes Go.WideShapes Go.ChangeAt Go.RowKit
set_option linter.unusedVariables false

theorem newest (es fs : List Item) (k p q : Nat) (hk : 1 ≤ k) (hp : p + k = (pushL es fs).length) (hq : q + k = fs.length) (h1 : p < (pushL es fs).length) (h2 : q < fs.length) : (pushL es fs)[p] = fs[q] := by
  have hl := pushL_length es fs
  have e1 : (pushL es fs)[p]? = fs[q]? := by
    unfold pushL
    rw [List.getElem?_drop, List.length_append, List.getElem?_append_right (by omega)]
    congr 1
    omega
  rw [List.getElem?_eq_getElem h1, List.getElem?_eq_getElem h2] at e1
  exact Option.some.inj e1

set_option maxHeartbeats 4000000 in
theorem walk (ad : Option Addr) (cap : Nat) (es : List Item) (ad2 : Option Addr) (cap2 : Nat) (fs : List Item) (W : World) (hl : es.length ≤ 9223372036854775807) (hE : kItem.Lies W.heap.size W (.slice ad es.length cap) es)
    (hl2 : fs.length ≤ 9223372036854775807) (hF : kItem.Lies W.heap.size W (.slice ad2 fs.length cap2) fs) :
    Calls Try.prog 8 #[.slice ad es.length cap, .slice ad2 fs.length cap2] W fun e w' => e = .returned (.bool true) ∧ Below W.heap.size W w' := by
  by_cases h30 : 30 < es.length
  · have q1 : decide (30 < (es.length : Int)) = true := by simp; omega
    go_enter Try.func8, Try.ntmps8
    go_wp2_with (go_at_call 20; refine (known8_any _).mono ?_; rintro e w1 ⟨rfl, hb⟩)
    go_ret
    exact ⟨rfl, hb⟩
  have q1 : decide (30 < (es.length : Int)) = false := by simp; omega
  by_cases h31 : 30 < fs.length
  · go_enter Try.func8, Try.ntmps8
    go_wp2_with (go_at_call 20; refine (known8_any _).mono ?_; rintro e w1 ⟨rfl, hb⟩)
    go_ret
    exact ⟨rfl, hb⟩
  have CP := Push_any ad es.length cap ad2 fs.length cap2 es fs (by omega) W hE hF
  have hpl := pushL_length es fs
  have hnew := newest es fs
  generalize pushL es fs = pl at *
  obtain ⟨gn, hgn⟩ : ∃ gn, es.length + fs.length - 8 = gn := ⟨_, rfl⟩
  rw [hgn] at CP
  obtain ⟨L, hL⟩ : ∃ L, pl.length = L := ⟨_, rfl⟩
  rw [hL] at CP hpl
  have g1 : decide ((8 : Int) < (L : Int)) = false := decide_eq_false (by omega)
  have g2 : decide ((gn : Int) < 0) = false := decide_eq_false (by omega)
  have g3 : IntKind.i64.wrap ((gn : Int) + (L : Int)) = (es.length : Int) + (fs.length : Int) := by rw [IntWalk.i64_in _ (by omega)]; omega
  have g4 : IntKind.i64.wrap ((es.length : Int) + (fs.length : Int)) = (es.length : Int) + (fs.length : Int) := IntWalk.i64_in _ (by omega)
  have g5 : 0 < gn → L = 8 := fun h => by omega
  have HLn := hidden hL
  have HNW := hidden hnew
  have hL8 : L ≤ 8 := by omega
  clear hpl hgn hL hnew
  go_enter Try.func8, Try.ntmps8
  go_wp2_with fail
  refine CP.mono ?_
  rintro r w1 ⟨a1, c1, rfl, hA1, hB1⟩
  have hF1 := hF.later hB1
  clear CP hE hF
  have hg : (decide (0 < gn) = true ∧ ¬ ((L : Int) < 8)) ∨ decide (0 < gn) = false := by
    by_cases h : 0 < gn
    · have := g5 h
      exact .inl ⟨decide_eq_true (by omega), by omega⟩
    · exact .inr (decide_eq_false (by omega))
  clear g5
  rcases hg with ⟨g6, g7⟩ | g6
  · go_wp2
    clear g1 g2 g3 g4 g6
    go_loopw [7] (fun i wr => ∃ k : Nat, 1 ≤ k ∧ k ≤ fs.length + 1 ∧ i = .int .i64 (k : Int) ∧ Below w1.heap.size w1 wr) (fun i _ => fs.length + 1 - (intV i).toNat)
    case atStart => exact ⟨1, Nat.le_refl _, by omega, rfl, Below.refl _ _⟩
    case round =>
      obtain ⟨k, hk1, hk2, rfl, hB⟩ := hrel
      by_cases hlt : k ≤ fs.length
      · have q2 : decide ((k : Int) ≤ (fs.length : Int)) = true := decide_eq_true (by omega)
        by_cases hlt2 : k ≤ L
        · have q3 : (k : Int) ≤ (L : Int) := by omega
          obtain ⟨p, hp⟩ : ∃ p, p + k = L := ⟨L - k, by omega⟩
          obtain ⟨q, hq⟩ : ∃ q, q + k = fs.length := ⟨fs.length - k, by omega⟩
          have hLo := HLn.out
          have hp1 : p < pl.length := by omega
          have hq1 : q < fs.length := by omega
          have hsame := HNW.out k p q hk1 (by omega) hq hp1 hq1
          obtain ⟨b, off, rfl, hbl, e0, e1, e2⟩ := Lies_item hA1 p hp1
          obtain ⟨b', off', rfl, hbl', e0', e1', e2'⟩ := Lies_item hF1 q hq1
          rw [← hsame] at e0' e1' e2'
          have f0 := (hB.cell (p := ⟨b, off + p * 3, none⟩) hbl).trans e0
          have f1 := (hB.cell (p := ⟨b, off + p * 3 + 1, none⟩) hbl).trans e1
          have f2 := (hB.cell (p := ⟨b, off + p * 3 + 2, none⟩) hbl).trans e2
          have f0' := (hB.cell (p := ⟨b', off' + q * 3, none⟩) hbl').trans e0'
          have f1' := (hB.cell (p := ⟨b', off' + q * 3 + 1, none⟩) hbl').trans e1'
          have f2' := (hB.cell (p := ⟨b', off' + q * 3 + 2, none⟩) hbl').trans e2'
          clear e0 e1 e2 e0' e1' e2' hsame hA1 hF1
          generalize pl[p] = z at f0 f1 f2 f0' f1' f2'
          have t1 : IntKind.i64.wrap ((L : Int) - (k : Int)) = (p : Int) := by rw [IntWalk.i64_in _ (by omega)]; omega
          have t2 : IntKind.i64.wrap ((fs.length : Int) - (k : Int)) = (q : Int) := by rw [IntWalk.i64_in _ (by omega)]; omega
          have i1 : (0 : Int) ≤ (p : Int) := by omega
          have i2 : (p : Int) < (L : Int) := by omega
          have i3 : (0 : Int) ≤ (q : Int) := by omega
          have i4 : (q : Int) < (fs.length : Int) := by omega
          have hbnd : fs.length ≤ 30 := by omega
          clear hp hq hLo
          go_wp2
          go_quiet (fail)
          go_wp2
          go_roundw
          case rel => exact ⟨k + 1, by omega, by omega, by simp, ⟨hB.os, hB.tape, hB.output, hB.size, hB.block⟩⟩
          case measure => simp [intV]; omega
        · have q3 : ¬ (k : Int) ≤ (L : Int) := by omega
          go_wp2_with (go_at_call 20; refine (known8_any _).mono ?_; rintro e w10 ⟨rfl, hb10⟩)
          go_ret
          exact ⟨rfl, bthen (bthen hB1 hB) hb10⟩
      · have q2 : decide ((k : Int) ≤ (fs.length : Int)) = false := decide_eq_false (by omega)
        go_wp2_with (go_at_call 20; refine (known8_any _).mono ?_; rintro e w10 ⟨rfl, hb10⟩)
        go_ret
        exact ⟨rfl, bthen (bthen hB1 hB) hb10⟩
  · go_wp2
    clear g1 g2 g3 g4 g6
    go_loopw [7] (fun i wr => ∃ k : Nat, 1 ≤ k ∧ k ≤ fs.length + 1 ∧ i = .int .i64 (k : Int) ∧ Below w1.heap.size w1 wr) (fun i _ => fs.length + 1 - (intV i).toNat)
    case atStart => exact ⟨1, Nat.le_refl _, by omega, rfl, Below.refl _ _⟩
    case round =>
      obtain ⟨k, hk1, hk2, rfl, hB⟩ := hrel
      by_cases hlt : k ≤ fs.length
      · have q2 : decide ((k : Int) ≤ (fs.length : Int)) = true := decide_eq_true (by omega)
        by_cases hlt2 : k ≤ L
        · have q3 : (k : Int) ≤ (L : Int) := by omega
          obtain ⟨p, hp⟩ : ∃ p, p + k = L := ⟨L - k, by omega⟩
          obtain ⟨q, hq⟩ : ∃ q, q + k = fs.length := ⟨fs.length - k, by omega⟩
          have hLo := HLn.out
          have hp1 : p < pl.length := by omega
          have hq1 : q < fs.length := by omega
          have hsame := HNW.out k p q hk1 (by omega) hq hp1 hq1
          obtain ⟨b, off, rfl, hbl, e0, e1, e2⟩ := Lies_item hA1 p hp1
          obtain ⟨b', off', rfl, hbl', e0', e1', e2'⟩ := Lies_item hF1 q hq1
          rw [← hsame] at e0' e1' e2'
          have f0 := (hB.cell (p := ⟨b, off + p * 3, none⟩) hbl).trans e0
          have f1 := (hB.cell (p := ⟨b, off + p * 3 + 1, none⟩) hbl).trans e1
          have f2 := (hB.cell (p := ⟨b, off + p * 3 + 2, none⟩) hbl).trans e2
          have f0' := (hB.cell (p := ⟨b', off' + q * 3, none⟩) hbl').trans e0'
          have f1' := (hB.cell (p := ⟨b', off' + q * 3 + 1, none⟩) hbl').trans e1'
          have f2' := (hB.cell (p := ⟨b', off' + q * 3 + 2, none⟩) hbl').trans e2'
          clear e0 e1 e2 e0' e1' e2' hsame hA1 hF1
          generalize pl[p] = z at f0 f1 f2 f0' f1' f2'
          have t1 : IntKind.i64.wrap ((L : Int) - (k : Int)) = (p : Int) := by rw [IntWalk.i64_in _ (by omega)]; omega
          have t2 : IntKind.i64.wrap ((fs.length : Int) - (k : Int)) = (q : Int) := by rw [IntWalk.i64_in _ (by omega)]; omega
          have i1 : (0 : Int) ≤ (p : Int) := by omega
          have i2 : (p : Int) < (L : Int) := by omega
          have i3 : (0 : Int) ≤ (q : Int) := by omega
          have i4 : (q : Int) < (fs.length : Int) := by omega
          have hbnd : fs.length ≤ 30 := by omega
          clear hp hq hLo
          go_wp2
          go_quiet (fail)
          go_wp2
          go_roundw
          case rel => exact ⟨k + 1, by omega, by omega, by simp, ⟨hB.os, hB.tape, hB.output, hB.size, hB.block⟩⟩
          case measure => simp [intV]; omega
        · have q3 : ¬ (k : Int) ≤ (L : Int) := by omega
          go_wp2_with (go_at_call 20; refine (known8_any _).mono ?_; rintro e w10 ⟨rfl, hb10⟩)
          go_ret
          exact ⟨rfl, bthen (bthen hB1 hB) hb10⟩
      · have q2 : decide ((k : Int) ≤ (fs.length : Int)) = false := decide_eq_false (by omega)
        go_wp2_with (go_at_call 20; refine (known8_any _).mono ?_; rintro e w10 ⟨rfl, hb10⟩)
        go_ret
        exact ⟨rfl, bthen (bthen hB1 hB) hb10⟩
end Go.Proofs.Ytjmeeklaclidbaa.LawQueueCaps
