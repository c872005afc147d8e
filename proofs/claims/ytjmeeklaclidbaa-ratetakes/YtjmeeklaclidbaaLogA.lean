/- The iterator of package log hands every round a note that is alive, in their order; for rows of notes that lie in memory, shorter than a great bound. -/
import Derived.Test.YtjmeeklaclidbaaLogM
namespace Go.Proofs.Ytjmeeklaclidbaa
open Go.ChangeShapes Go.WideShapes Go.ChangeAt Go.RowKit Go.Shelf
set_option linter.unusedVariables false
attribute [local go_sem] Oper.semAt_some

set_option maxHeartbeats 1000000 in
theorem alive_in (F : Fence) (n : Nat) (hf : F.fn 41) (hro : F.round = none) (a : Option Addr) (len cap : Nat) (now width : Int) (w : World) :
    CallsIn F n Try.prog 41 #[.slice a len cap, .int .i64 now, .int .i64 width] w fun e w' =>
      e = .returned (.func (.func 47) #[] #[.pointer (some ⟨w.heap.size, 0, none⟩), .pointer (some ⟨w.heap.size + 1, 0, none⟩), .pointer (some ⟨w.heap.size + 1 + 1, 0, none⟩)]) ∧
      w' = ((w.alloc (.cells #[.slice a len cap] 22)).alloc (.cells #[.int .i64 now] 3)).alloc (.cells #[.int .i64 width] 3) := by
  refine callsIn_of_wp Try.func41 rfl hf ?_ hro
  simp only [Try.ntmps41, List.size_toArray, List.length_cons, List.length_nil, Nat.reduceAdd, Nat.reduceSub, Array.replicate_succ, Array.replicate_zero, List.push_toArray, List.append_toArray, List.nil_append, List.cons_append]
  gi_wp2
  go_ret
  exact ⟨rfl, rfl⟩

/-- What a round of the iterator keeps: what lay below n₀, and its own two boxes. -/
def KpA (n₀ B : Nat) (now width : Int) (W W' : World) : Prop :=
  Below n₀ W W' ∧ (Boxed W (B + 1) 3 (.int .i64 now) → Boxed W' (B + 1) 3 (.int .i64 now)) ∧ (Boxed W (B + 1 + 1) 3 (.int .i64 width) → Boxed W' (B + 1 + 1) 3 (.int .i64 width))
theorem KpA.t {n₀ B : Nat} {now width : Int} {X Y Z : World} (h : KpA n₀ B now width X Y) (k : KpA n₀ B now width Y Z) : KpA n₀ B now width X Z :=
  ⟨h.1.trans k.1, fun b => k.2.1 (h.2.1 b), fun b => k.2.2 (h.2.2 b)⟩
theorem KpA.b {n₀ B : Nat} {now width : Int} {w : World} (hn : n₀ ≤ w.heap.size) (hB : B + 1 + 1 < w.heap.size) (W : World) (l : Nat) (o o' : Obj) (hl : w.heap.size ≤ l) (h : W.heap[l]? = some o) (h1 : o.isCells = false) (h2 : o.isWalk = false) : KpA n₀ B now width W (W.putObj l o') :=
  ⟨belowK_b hn W l o o' hl h h1 h2, fun b => b.kept (grownBy_putObj' W l o') (by simp; omega), fun b => b.kept (grownBy_putObj' W l o') (by simp; omega)⟩

set_option maxRecDepth 100000 in
set_option maxHeartbeats 2000000 in
theorem alive1_in (F : Fence) (n : Nat) (hf : F.fn 47) (hs : F.fn 48) (hw : F = Fence.wide) (hro : F.round = none) (hn : 1 ≤ n) (l B n₀ : Nat) (sv : Value) (es : List Note) (now width : Int) (hlen : es.length ≤ 1000000) (J Jx : List Note → World → Prop)
    (hJ : ∀ s W o, J s W → J s (W.alloc o))
    (hY : ∀ pre x W, J pre W → pre.length < es.length → YieldAt F (n - 1) Try.prog l #[agg2 x] W fun e W' =>
      (e = .returned (.bool true) ∧ J (pre ++ [x]) W' ∧ KpA n₀ B now width W W') ∨ (e = .returned (.bool false) ∧ Jx (pre ++ [x]) W'))
    (W : World) (hn₀ : n₀ ≤ W.heap.size) (b0 : Boxed W B 22 sv) (b1 : Boxed W (B + 1) 3 (.int .i64 now)) (b2 : Boxed W (B + 1 + 1) 3 (.int .i64 width)) (hE : Ents n₀ W sv es) (h0 : J [] W) :
    CallsIn F n Try.prog 47 #[.func (.yield l) #[] #[], .pointer (some ⟨B, 0, none⟩), .pointer (some ⟨B + 1, 0, none⟩), .pointer (some ⟨B + 1 + 1, 0, none⟩)] W fun e W' => (∃ v, e = .returned v) ∧
      ((∃ ys, ys = live now width es ∧ J ys W') ∨ (∃ pre, pre <+: live now width es ∧ Jx pre W')) := by
  subst hw
  obtain ⟨ad, cap, rfl, hcap, hmax, _, hc⟩ := hE
  have c0 := b0.cell
  refine callsIn_of_wp Try.func47 rfl hf ?_ hro
  simp only [Try.ntmps47, List.size_toArray, List.length_cons, List.length_nil, Nat.reduceAdd, Nat.reduceSub, Array.replicate_succ, Array.replicate_zero, List.push_toArray, List.append_toArray, List.nil_append, List.cons_append]
  gi_wp2
  clear b0 c0
  gi_loopw [10] (fun i wr => ∃ k : Nat, k ≤ es.length ∧ i = .int .i64 k ∧ J (live now width (es.take k)) wr ∧ Below n₀ W wr ∧ Boxed wr (B + 1) 3 (.int .i64 now) ∧ Boxed wr (B + 1 + 1) 3 (.int .i64 width))
    (fun i _ => es.length - (intV i).toNat)
  case atStart => exact ⟨0, Nat.zero_le _, rfl, h0, Below.refl _ _, b1, b2⟩
  case round =>
    obtain ⟨k, hk, rfl, hJs, hB, d1, d2⟩ := hrel
    by_cases hlt : k < es.length
    · obtain ⟨b, off, rfl, hbl, e0, e1⟩ := hc k hlt
      have f0 := (hB.cell (p := ⟨b, off + k * 2, none⟩) hbl).trans e0
      have f1 := (hB.cell (p := ⟨b, off + k * 2 + 1, none⟩) hbl).trans e1
      have htake := getD_snoc_take es hlt
      clear e0 e1 hc
      generalize es.getD k note0 = z at f0 f1 htake
      have g1 := (d1.alloc (.cells #[.int .i64 z.1.1, .int .i64 z.1.2] 54)).cell
      have g2 := (d2.alloc (.cells #[.int .i64 z.1.1, .int .i64 z.1.2] 54)).cell
      have hJa := hJ _ _ (.cells #[.int .i64 z.1.1, .int .i64 z.1.2] 54) hJs
      have hBa : Below n₀ W (wr.alloc (.cells #[.int .i64 z.1.1, .int .i64 z.1.2] 54)) := hB.alloc (Nat.le_trans hn₀ hB.size) _
      have d1a := d1.alloc (.cells #[.int .i64 z.1.1, .int .i64 z.1.2] 54)
      have d2a := d2.alloc (.cells #[.int .i64 z.1.1, .int .i64 z.1.2] 54)
      have S : ∀ W, CallsIn Fence.wide (n - 1) Try.prog 48 #[.int .i64 now, .int .i64 z.1.2] W fun e w' => e = .returned (.int .i64 (signedF now z.1.2)) ∧ W = w' := fun W => callsIn_wide.2 (Signed_any now z.1.2 W)
      have hav : aliveB now width z = (decide (0 ≤ signedF now z.1.2) && decide (signedF now z.1.2 < width)) := rfl
      obtain ⟨fn, tmps, assign, body, hy, hR⟩ := hY _ z (wr.alloc (.cells #[.int .i64 z.1.1, .int .i64 z.1.2] 54)) hJa (by have := List.length_filter_le (aliveB now width) (es.take k); simp [live]; simp at this; omega)
      dsimp only [agg2] at hy
      clear hY hJs hJ
      generalize signedF now z.1.2 = sg at hav S
      by_cases h1 : 0 ≤ sg
      · by_cases h2 : sg < width
        · have hal : aliveB now width z = true := by rw [hav]; simp; omega
          gi_wp2_with (gi_at_call 48; refine (S _).mono ?_; rintro e w' ⟨rfl, rfl⟩)
          refine hR.mono ?_
          rintro e W3 (⟨rfl, hJ3, hk3⟩ | ⟨rfl, hJx3⟩)
          · gi_wp2
            go_roundw
            case rel => exact ⟨k + 1, by omega, by simp, by rw [htake, live_snoc_yes _ hal]; exact hJ3, hBa.trans hk3.1, hk3.2.1 d1a, hk3.2.2 d2a⟩
            case measure => simp [intV]; omega
          · gi_wp2
            refine bodyPost_ret (results_none rfl _ _ _) rfl ?_
            exact ⟨⟨_, rfl⟩, .inr ⟨_, by rw [← live_snoc_yes _ hal, ← htake]; exact List.IsPrefix.filter _ (List.take_prefix _ _), hJx3⟩⟩
        · have hal : aliveB now width z = false := by rw [hav]; simp; omega
          have q2 : decide (sg < width) = false := by simp; omega
          gi_wp2_with (gi_at_call 48; refine (S _).mono ?_; rintro e w' ⟨rfl, rfl⟩)
          refine ⟨fun _ h => (by cases h), ?_⟩
          gi_wp2
          go_roundw
          case rel => exact ⟨k + 1, by omega, by simp, by rw [htake, live_snoc_no _ hal]; exact hJa, hBa, d1a, d2a⟩
          case measure => simp [intV]; omega
      · have hal : aliveB now width z = false := by rw [hav]; simp; omega
        have q1 : decide (0 ≤ sg) = false := by simp; omega
        gi_wp2_with (gi_at_call 48; refine (S _).mono ?_; rintro e w' ⟨rfl, rfl⟩)
        refine ⟨fun _ h => (by cases h), ?_⟩
        gi_wp2
        go_roundw
        case rel => exact ⟨k + 1, by omega, by simp, by rw [htake, live_snoc_no _ hal]; exact hJa, hBa, d1a, d2a⟩
        case measure => simp [intV]; omega
    · obtain rfl : k = es.length := by omega
      gi_wp2
      go_end0
      exact ⟨⟨_, rfl⟩, .inl ⟨_, rfl, by simpa using hJs⟩⟩

/-- The iterator's contract. -/
theorem alive_stops (n : Nat) (hn : 1 ≤ n) (B n₀ : Nat) (sv : Value) (es : List Note) (now width : Int) (hlen : es.length ≤ 1000000) (w : World) (hB : B + 1 + 1 < w.heap.size) (hn₀ : n₀ ≤ w.heap.size)
    (b0 : Boxed w B 22 sv) (b1 : Boxed w (B + 1) 3 (.int .i64 now)) (b2 : Boxed w (B + 1 + 1) 3 (.int .i64 width)) (hE : Ents n₀ w sv es) :
    SeqStopsK Fence.wide n Try.prog 47 #[.pointer (some ⟨B, 0, none⟩), .pointer (some ⟨B + 1, 0, none⟩), .pointer (some ⟨B + 1 + 1, 0, none⟩)] (fun x : Note => #[agg2 x]) (KpA n₀ B now width) (fun ys => ys = live now width es) (fun pre => pre <+: live now width es) es.length w := fun l J Jx W hW hJ _ hY h0 =>
  alive1_in Fence.wide n trivial trivial rfl rfl hn l B n₀ sv es now width hlen J Jx (fun s W o h => hJ s W _ none h (World.grownBy_alloc W o none) (fun r e => by cases e)) hY W (Nat.le_trans hn₀ hW.size)
    ((hW.block B (by omega)).trans b0) ((hW.block (B + 1) (by omega)).trans b1) ((hW.block (B + 1 + 1) (by omega)).trans b2) (hE.below (hW.mono hn₀)) h0
end Go.Proofs.Ytjmeeklaclidbaa
