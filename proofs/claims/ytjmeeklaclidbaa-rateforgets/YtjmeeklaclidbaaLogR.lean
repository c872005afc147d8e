/- The calls alive, Purge, Of and Add of the document's answer on notes return what plain functions give; for rows of notes that lie in memory. -/
import Derived.Test.YtjmeeklaclidbaaLogN
import Derived.Test.YtjmeeklaclidbaaRingRef
namespace Go.Proofs.Ytjmeeklaclidbaa
open Go.ChangeShapes Go.WideShapes Go.ChangeAt Go.RowKit Go.Shelf
set_option linter.unusedVariables false

theorem ralive_any (e : Note) (now width : Int) (w : World) :
    Calls Try.prog 35 #[.agg #[.int .i64 e.1.1, .int .i64 e.1.2], .int .i64 now, .int .i64 width] w fun r w' => r = .returned (.bool (aliveB now width e)) ∧ Below w.heap.size w w' := by
  unfold aliveB
  have S : ∀ W, Calls Try.prog 45 #[.int .i64 now, .int .i64 e.1.2] W fun r w' => r = .returned (.int .i64 (signedF now e.1.2)) ∧ W = w' := fun W => rSigned_any now e.1.2 W
  generalize signedF now e.1.2 = sg at S
  by_cases h1 : 0 ≤ sg
  · have q1 : decide (0 ≤ sg) = true := by simp; omega
    rw [q1, Bool.true_and]
    go_enter Try.func35, Try.ntmps35
    go_wp2_with (go_at_call 45; refine (S _).mono ?_; rintro r w' ⟨rfl, rfl⟩)
    go_ret
    exact ⟨rfl, ballc _ _⟩
  · have q1 : decide (0 ≤ sg) = false := by simp; omega
    rw [q1, Bool.false_and]
    go_enter Try.func35, Try.ntmps35
    go_wp2_with (go_at_call 45; refine (S _).mono ?_; rintro r w' ⟨rfl, rfl⟩)
    go_ret
    exact ⟨rfl, ballc _ _⟩

set_option maxHeartbeats 1000000 in
theorem rOf_any (ad : Option Addr) (len cap : Nat) (node now width : Int) (es : List Note) (hlen : es.length ≤ 1000000) (w : World) (hE : Ents w.heap.size w (.slice ad len cap) es) :
    Calls Try.prog 19 #[.slice ad len cap, .int .i64 node, .int .i64 now, .int .i64 width] w fun r w' => r = .returned (.int .i64 (cntN node (live now width es) : Int)) ∧ Below w.heap.size w w' := by
  obtain ⟨_, _, hv, _, _, _, hc⟩ := id hE
  obtain ⟨rfl, rfl, rfl⟩ : ad = _ ∧ len = _ ∧ cap = _ := by simpa using hv
  clear hv hE
  go_enter Try.func19, Try.ntmps19
  go_wp2
  go_loopw [9, 10] (fun n i wr => ∃ k : Nat, k ≤ es.length ∧ n = .int .i64 (cntN node (live now width (es.take k)) : Int) ∧ i = .int .i64 (k : Int) ∧ Below w.heap.size w wr) (fun _ i _ => es.length - (intV i).toNat)
  case atStart => exact ⟨0, Nat.zero_le _, rfl, rfl, Below.refl _ _⟩
  case round =>
    obtain ⟨k, hk, rfl, rfl, hB⟩ := hrel
    by_cases hlt : k < es.length
    · obtain ⟨b, off, rfl, hbl, e0, e1⟩ := hc k hlt
      have f0 := (hB.cell (p := ⟨b, off + k * 2, none⟩) hbl).trans e0
      have f1 := (hB.cell (p := ⟨b, off + k * 2 + 1, none⟩) hbl).trans e1
      have htake := getD_snoc_take es hlt
      have hcl := Nat.le_trans (cntN_le node (live now width (es.take k))) (live_le now width (es.take k))
      rw [List.length_take] at hcl
      clear e0 e1 hc
      generalize es.getD k note0 = z at f0 f1 htake
      have i1 : (0 : Int) ≤ (k : Int) := by omega
      have i2 : (k : Int) < (es.length : Int) := by omega
      have RA := fun V => ralive_any z now width V
      have hyes : aliveB now width z = true → cntN node (live now width (es.take (k + 1))) = cntN node (live now width (es.take k)) + (if z.1.1 = node then 1 else 0) := fun h => by rw [htake, live_snoc_yes _ h, cntN_snoc]
      have hno : aliveB now width z = false → cntN node (live now width (es.take (k + 1))) = cntN node (live now width (es.take k)) := fun h => by rw [htake, live_snoc_no _ h]
      generalize hn1 : cntN node (live now width (es.take (k + 1))) = n1 at hyes hno
      generalize cntN node (live now width (es.take k)) = n0 at hyes hno hcl
      have t1 : IntKind.i64.wrap ((n0 : Int) + 1) = (n0 : Int) + 1 := IntWalk.i64_in _ (by omega)
      by_cases hz : z.1.1 = node
      · rw [if_pos hz] at hyes
        subst hz
        cases hal : aliveB now width z with
        | true =>
          rw [hal] at RA
          have hn := hyes hal
          clear hyes hno htake
          go_wp2_with (go_at_call 35; refine (RA _).mono ?_; rintro r w' ⟨rfl, hb⟩)
          go_roundw
          case rel => exact ⟨k + 1, by omega, by rw [hn1, hn]; simp, by simp, bthen hB hb⟩
          case measure => simp [intV]; omega
        | false =>
          rw [hal] at RA
          have hn := hno hal
          clear hyes hno htake
          go_wp2_with (go_at_call 35; refine (RA _).mono ?_; rintro r w' ⟨rfl, hb⟩)
          go_roundw
          case rel => exact ⟨k + 1, by omega, by rw [hn1, hn], by simp, bthen hB hb⟩
          case measure => simp [intV]; omega
      · have qz : (z.1.1 == node) = false := by simp [hz]
        rw [if_neg hz] at hyes
        have hn : n1 = n0 := by
          cases hal : aliveB now width z with
          | true => exact hyes hal
          | false => exact hno hal
        clear hyes hno htake RA
        go_wp2
        go_roundw
        case rel => exact ⟨k + 1, by omega, by rw [hn1, hn], by simp, hB⟩
        case measure => simp [intV]; omega
    · obtain rfl : k = es.length := by omega
      rw [List.take_length]
      go_wp2
      go_ret
      exact ⟨rfl, hB⟩
theorem wpList_append_entsN {P : Program} (w : World) {ops : Array Oper} {rest : List Oper} {o : Oper} {a : Act} {Q : Exit → Act → World → Prop} (hgd : o.guard = none) (s x : Operand) (t : TypeId)
    (ho : o.op = .call { callee := .builtin .append, args := #[s, x], argTypes := #[t, t] })
    (base : Nat) (e : TypeId) (i : TypeInfo) (z : Value) (bytes : Nat) (ht : P.underlying t = some (.slice e)) (hi : P.info? e = some i) (hz : i.zero = some z)
    (hsize : i.size = 2) (hby : i.bytes = bytes) (hzs : z.cells.size = 2) (v : Value) (n : Nat) (xs : List Value) (hs : a.eval s = v) (hown : w.ownsRow base e 2 v n xs) {n₀ : Nat} (sv : Value) (es : List Note) (hx : a.eval x = sv) (hE : Ents n₀ w sv es)
    (h63 : n + es.length ≤ maxLen) (hbytes : (n + es.length) * bytes ≤ 140737488355328) (hbase : base ≤ w.heap.size) (N : Nat) (hN : n + es.length = N) (h0 : 0 < N)
    (hK : ∀ (g c : Nat) (w' : World), w'.ownsRow base e 2 (.slice (some ⟨g, 0, none⟩) N c) N (xs ++ cells2 es) → w.grownBy w' v.ownBlock → (N : Int) ≤ (c : Int) → c ≤ maxLen → wpList P ops Q rest (a.put o.dst (.slice (some ⟨g, 0, none⟩) N c)) w') : wpList P ops Q (o :: rest) a w := by
  refine wpList_append_ents w hgd s x t ho base e i z bytes ht hi hz hsize hby hzs v n xs hs hown sv es hx hE h63 hbytes hbase ?_
  intro v' w' r1 r2 r3
  rw [hN] at r1
  obtain ⟨_, ⟨_, h⟩ | ⟨g, c, cur, rfl, _, _, h1, h2, _⟩⟩ := id r1
  · omega
  · exact hK g c w' r1 r2 (by omega) h2

set_option maxHeartbeats 1000000 in
theorem rPurge_own (ad : Option Addr) (len cap : Nat) (now width : Int) (es : List Note) (hlen : es.length ≤ 1000000) (w : World) (hE : Ents w.heap.size w (.slice ad len cap) es) :
    Calls Try.prog 18 #[.slice ad len cap, .int .i64 now, .int .i64 width] w fun r w' => ∃ v, r = .returned v ∧ w'.ownsRow w.heap.size 54 2 v (live now width es).length (cells2 (live now width es)) ∧ Below w.heap.size w w' := by
  obtain ⟨_, _, hv, _, _, _, hc⟩ := id hE
  obtain ⟨rfl, rfl, rfl⟩ : ad = _ ∧ len = _ ∧ cap = _ := by simpa using hv
  clear hv hE
  obtain ⟨i0, hi, hz0, hz1, hz2⟩ := info_parts infoEnt
  go_enter Try.func18, Try.ntmps18
  go_wp2
  go_loopw [7, 8] (fun v i wr => ∃ k : Nat, k ≤ es.length ∧ wr.ownsRow w.heap.size 54 2 v (live now width (es.take k)).length (cells2 (live now width (es.take k))) ∧ i = .int .i64 (k : Int) ∧ Below w.heap.size w wr) (fun _ i _ => es.length - (intV i).toNat)
  case atStart => exact ⟨0, Nat.zero_le _, World.ownsRow_nil _ _ _ _, rfl, Below.refl _ _⟩
  case round =>
    obtain ⟨k, hk, hown, rfl, hB⟩ := hrel
    by_cases hlt : k < es.length
    · obtain ⟨b, off, rfl, hbl, e0, e1⟩ := hc k hlt
      have f0 := (hB.cell (p := ⟨b, off + k * 2, none⟩) hbl).trans e0
      have f1 := (hB.cell (p := ⟨b, off + k * 2 + 1, none⟩) hbl).trans e1
      have htake := getD_snoc_take es hlt
      have hll := live_le now width (es.take k)
      rw [List.length_take] at hll
      clear hc
      generalize es.getD k note0 = z at f0 f1 htake e0 e1
      have i1 : (0 : Int) ≤ (k : Int) := by omega
      have i2 : (k : Int) < (es.length : Int) := by omega
      have RA := fun V => ralive_any z now width V
      have hyes : aliveB now width z = true → live now width (es.take (k + 1)) = live now width (es.take k) ++ [z] := fun h => by rw [htake, live_snoc_yes _ h]
      have hno : aliveB now width z = false → live now width (es.take (k + 1)) = live now width (es.take k) := fun h => by rw [htake, live_snoc_no _ h]
      generalize hn1 : live now width (es.take (k + 1)) = n1 at hyes hno
      generalize live now width (es.take k) = n0 at hyes hno hll hown
      cases hal : aliveB now width z with
      | true =>
        rw [hal] at RA
        have hn := hyes hal
        clear hyes hno htake
        go_wp2_with fail
        refine (RA _).mono ?_
        rintro r w1 ⟨rfl, hb1⟩
        have hB1 := bthen hB hb1
        have hown1 := ownsRow_below hown hb1
        have g0 := (hB1.cell (p := ⟨b, off + k * 2, none⟩) hbl).trans e0
        have g1 := (hB1.cell (p := ⟨b, off + k * 2 + 1, none⟩) hbl).trans e1
        clear f0 f1 hown
        go_wp2_with (at_builtin; refine wpList_append_ents _ rfl _ _ 22 rfl w.heap.size 54 i0 (.agg #[.int .i64 0, .int .i64 0]) 16 Try.underlying22 hi hz0 hz1 hz2 rfl u7 _ _ rfl (hown1.alloc _) (.slice (some ⟨w1.heap.size, 0, none⟩) 1 1) [z] rfl (Ents.of_block (es := [z]) (World.alloc_heap_new w1 _) (by simp only [maxLen, List.length_singleton]; omega)) (by simp only [maxLen, List.length_singleton]; omega) (by simp only [List.length_singleton]; omega) (by have := hB1.size; simp; omega) ?_; intro v2 w2 hown2 hgrow2 _)
        have hB2 : Below w.heap.size w w2 := (hB1.alloc hB1.size _).grown hgrow2 (by have := hB1.size; simp; omega) (own_base hown1)
        go_roundw
        case rel => exact ⟨k + 1, by omega, by rw [hn1, hn, cells2_append, List.length_append]; exact hown2, by simp, hB2⟩
        case measure => simp [intV]; omega
      | false =>
        rw [hal] at RA
        have hn := hno hal
        clear hyes hno htake
        go_wp2_with (go_at_call 35; refine (RA _).mono ?_; rintro r w1 ⟨rfl, hb1⟩)
        go_roundw
        case rel => exact ⟨k + 1, by omega, by rw [hn1, hn]; exact ownsRow_below hown hb1, by simp, bthen hB hb1⟩
        case measure => simp [intV]; omega
    · obtain rfl : k = es.length := by omega
      rw [List.take_length] at hown
      go_wp2
      go_ret
      exact ⟨_, rfl, hown, hB⟩
theorem rPurge_any (ad : Option Addr) (len cap : Nat) (now width : Int) (es : List Note) (hlen : es.length ≤ 1000000) (w : World) (hE : Ents w.heap.size w (.slice ad len cap) es) :
    Calls Try.prog 18 #[.slice ad len cap, .int .i64 now, .int .i64 width] w fun e w' => ∃ ad' cap', e = .returned (.slice ad' (live now width es).length cap') ∧ Ents w'.heap.size w' (.slice ad' (live now width es).length cap') (live now width es) ∧ Below w.heap.size w w' :=
  (rPurge_own ad len cap now width es hlen w hE).mono fun e w' ⟨v, he, hr, hb⟩ => by
    have hE' := Ents.of_own hr
    obtain ⟨ad', cap', rfl, h⟩ := id hE'
    exact ⟨ad', cap', he, hE', hb⟩

theorem addL_all (es : List Note) (e : Note) : addL es e = (es ++ [e]).drop (es.length + 1 - 64) := by
  by_cases h : 64 ≤ es.length
  · rw [addL_many e h, List.drop_append_of_le_length (by omega)]
    congr 2
    omega
  · rw [addL_few e (by omega), show es.length + 1 - 64 = 0 by omega]; rfl
/-- A row lies in blocks that are new. -/
def Anew (n : Nat) (ad : Option Addr) : Prop := ∀ a, ad = some a → n ≤ a.block
theorem Anew.of_own {W : World} {base : Nat} {e : TypeId} {size : Nat} {ad : Option Addr} {l c n : Nat} {xs : List Value} (h : W.ownsRow base e size (.slice ad l c) n xs) : Anew base ad := by
  rcases h.2 with ⟨hv, _⟩ | ⟨g, cap, cur, hv, hg, _⟩
  · cases hv; intro a h; cases h
  · cases hv; intro a h; cases h; exact hg
theorem Ents.kept {n₀ n₁ : Nat} {A B : World} {ad : Option Addr} {l c : Nat} {es : List Note} {row : Option Nat} (h : Ents n₀ A (.slice ad l c) es) (hn : n₀ ≤ A.heap.size) (hg : A.grownBy B row) (hf : Anew n₁ ad) (hr : ∀ g, row = some g → g < n₁) : Ents n₀ B (.slice ad l c) es := by
  obtain ⟨ad', cap, e, h1, h2, h3, hc⟩ := h
  obtain ⟨rfl, rfl, rfl⟩ : ad = ad' ∧ l = _ ∧ c = _ := by simpa using e
  refine ⟨ad, c, rfl, h1, h2, h3, fun j hj => ?_⟩
  obtain ⟨b, off, ea, hbl, c0, c1⟩ := hc j hj
  have hne : some b ≠ row := fun h => by have := hr b h.symm; have := hf _ ea; simp only at this; omega
  exact ⟨b, off, ea, hbl, (World.cell?_of_block (hg.block b (by omega) hne)).trans c0, (World.cell?_of_block (hg.block b (by omega) hne)).trans c1⟩
set_option maxHeartbeats 1000000 in
theorem rLAdd_anew (ad : Option Addr) (len cap : Nat) (es : List Note) (e : Note) (hl : es.length ≤ 1000000) (w : World) (hE : Ents w.heap.size w (.slice ad len cap) es) :
    Calls Try.prog 32 #[.slice ad len cap, agg2 e] w fun r w' => ∃ ad' cap', r = .returned (.tuple #[.slice ad' (addL es e).length cap', .bool (decide (64 ≤ es.length))]) ∧ Ents w'.heap.size w' (.slice ad' (addL es e).length cap') (addL es e) ∧ Below w.heap.size w w' ∧ Anew w.heap.size ad' := by
  obtain ⟨_, _, hv, _, _, _, _⟩ := id hE
  obtain ⟨rfl, rfl, rfl⟩ : ad = _ ∧ len = _ ∧ cap = _ := by simpa using hv
  clear hv
  obtain ⟨i0, hi, hz0, hz1, hz2⟩ := info_parts infoEnt
  have hal := addL_all es e
  have hla := addL_length es e
  simp only [agg2]
  obtain ⟨na, hna⟩ : ∃ na, es.length + 1 = na := ⟨_, rfl⟩
  have hB0 : Below w.heap.size w (w.alloc (.cells #[.int .i64 e.1.1, .int .i64 e.1.2] 54)) := (Below.refl _ w).alloc (Nat.le_refl _) _
  have hE0 := hE.later hB0
  have hx0 := Boxed2.new w e
  have t1 : IntKind.i64.wrap ((na : Int) - 64) = (na : Int) - 64 := IntWalk.i64_in _ (by omega)
  by_cases h64 : 64 < na
  · have hk1 : (0 : Int) ≤ (na : Int) - 64 := by omega
    have hk2 : (na : Int) - 64 ≤ (na : Int) := by omega
    go_enter Try.func32, Try.ntmps32
    go_wp2_with (first
      | (at_builtin; refine wpList_append_ents _ rfl _ _ 22 rfl (w.heap.size + 1) 54 i0 (.agg #[.int .i64 0, .int .i64 0]) 16 Try.underlying22 hi hz0 hz1 hz2 rfl (.slice none 0 0) 0 [] rfl (World.ownsRow_nil _ _ _ _) (.slice ad es.length cap) es rfl hE0 (by simp only [maxLen]; omega) (by omega) (by simp) ?_; intro v1 w1 hown1 hgrow1 _; clear hE0; have hx1 := hx0.kept hgrow1 (by simp [Value.ownBlock]); have x0 := hx1.cell.1; have x1 := hx1.cell.2; have hb1 : Below w.heap.size w w1 := hB0.grown hgrow1 hB0.size (fun k h => by simp [Value.ownBlock] at h))
      | (at_builtin; refine wpList_append_entsN _ rfl _ _ 22 rfl (w.heap.size + 1) 54 i0 (.agg #[.int .i64 0, .int .i64 0]) 16 Try.underlying22 hi hz0 hz1 hz2 rfl v1 _ _ rfl (hown1.alloc _) (.slice (some ⟨w1.heap.size, 0, none⟩) 1 1) [e] rfl (Ents.of_block (es := [e]) (World.alloc_heap_new w1 _) (by simp only [maxLen, List.length_singleton]; omega)) (by simp only [maxLen, List.length_singleton]; omega) (by simp only [List.length_singleton]; omega) (by have := (Array.getElem?_eq_some_iff.1 hx1).1; simp; omega) na (by simp only [List.length_singleton]; omega) (by omega) ?_; intro g2 c2 w2 hown2 hgrow2 hk4 hk5; clear x0 x1; have hk6 : ¬ c2 = na - 64 := (by omega)))
    have hb2 : Below w.heap.size w w2 := (hb1.alloc hb1.size _).grown hgrow2 (by have := hb1.size; simp; omega) (fun k h => by have := own_base hown1 k h; omega)
    have hAll : Ents w2.heap.size w2 (.slice (some ⟨g2, 0, none⟩) na c2) (es ++ [e]) := by
      have := Ents.of_own (es := es ++ [e]) (W := w2) (v := .slice (some ⟨g2, 0, none⟩) na c2) (base := w.heap.size + 1) (e := 54) (by rw [cells2_append, List.length_append, List.length_singleton, hna]; simpa using hown2)
      exact this
    have hD := hAll.drop (na - 64) (by rw [List.length_append, List.length_singleton]; omega)
    have hlen' : (addL es e).length = na - (na - 64) := by rw [hla]; omega
    have hdec : decide (64 ≤ es.length) = true := decide_eq_true (by omega)
    rw [hna] at hal
    go_ret2
    refine ⟨some ⟨g2, (na - 64) * 2, none⟩, c2 - (na - 64), ?_, ?_, hb2, fun a h => by cases h; have := own_base hown2 g2 (by simp [Value.ownBlock]); simp only; omega⟩
    · rw [hlen', hdec]; first | done | rfl
    · rw [hlen', hal]; simpa using hD
  · have q1 : decide (64 < (na : Int)) = false := by simp; omega
    go_enter Try.func32, Try.ntmps32
    go_wp2_with (first
      | (at_builtin; refine wpList_append_ents _ rfl _ _ 22 rfl (w.heap.size + 1) 54 i0 (.agg #[.int .i64 0, .int .i64 0]) 16 Try.underlying22 hi hz0 hz1 hz2 rfl (.slice none 0 0) 0 [] rfl (World.ownsRow_nil _ _ _ _) (.slice ad es.length cap) es rfl hE0 (by simp only [maxLen]; omega) (by omega) (by simp) ?_; intro v1 w1 hown1 hgrow1 _; clear hE0; have hx1 := hx0.kept hgrow1 (by simp [Value.ownBlock]); have x0 := hx1.cell.1; have x1 := hx1.cell.2; have hb1 : Below w.heap.size w w1 := hB0.grown hgrow1 hB0.size (fun k h => by simp [Value.ownBlock] at h))
      | (at_builtin; refine wpList_append_entsN _ rfl _ _ 22 rfl (w.heap.size + 1) 54 i0 (.agg #[.int .i64 0, .int .i64 0]) 16 Try.underlying22 hi hz0 hz1 hz2 rfl v1 _ _ rfl (hown1.alloc _) (.slice (some ⟨w1.heap.size, 0, none⟩) 1 1) [e] rfl (Ents.of_block (es := [e]) (World.alloc_heap_new w1 _) (by simp only [maxLen, List.length_singleton]; omega)) (by simp only [maxLen, List.length_singleton]; omega) (by simp only [List.length_singleton]; omega) (by have := (Array.getElem?_eq_some_iff.1 hx1).1; simp; omega) na (by simp only [List.length_singleton]; omega) (by omega) ?_; intro g2 c2 w2 hown2 hgrow2 hk4 hk5; clear x0 x1))
    have hb2 : Below w.heap.size w w2 := (hb1.alloc hb1.size _).grown hgrow2 (by have := hb1.size; simp; omega) (fun k h => by have := own_base hown1 k h; omega)
    have hAll : Ents w2.heap.size w2 (.slice (some ⟨g2, 0, none⟩) na c2) (es ++ [e]) := by
      have := Ents.of_own (es := es ++ [e]) (W := w2) (v := .slice (some ⟨g2, 0, none⟩) na c2) (base := w.heap.size + 1) (e := 54) (by rw [cells2_append, List.length_append, List.length_singleton, hna]; simpa using hown2)
      exact this
    have hlen' : (addL es e).length = na := by rw [hla]; omega
    have hdec : decide (64 ≤ es.length) = false := decide_eq_false (by omega)
    have hal2 : addL es e = es ++ [e] := addL_few e (by omega)
    go_ret2
    refine ⟨some ⟨g2, 0, none⟩, c2, ?_, ?_, hb2, fun a h => by cases h; have := own_base hown2 g2 (by simp [Value.ownBlock]); simp only; omega⟩
    · rw [hlen', hdec]; first | done | rfl
    · rw [hlen', hal2]; exact hAll
theorem rLAdd_any (ad : Option Addr) (len cap : Nat) (es : List Note) (e : Note) (hl : es.length ≤ 1000000) (w : World) (hE : Ents w.heap.size w (.slice ad len cap) es) :
    Calls Try.prog 32 #[.slice ad len cap, agg2 e] w fun r w' => ∃ ad' cap', r = .returned (.tuple #[.slice ad' (addL es e).length cap', .bool (decide (64 ≤ es.length))]) ∧ Ents w'.heap.size w' (.slice ad' (addL es e).length cap') (addL es e) ∧ Below w.heap.size w w' :=
  (rLAdd_anew ad len cap es e hl w hE).mono fun r w' ⟨ad', cap', hr, hE, hb, _⟩ => ⟨ad', cap', hr, hE, hb⟩
theorem rPurge_anew (ad : Option Addr) (len cap : Nat) (now width : Int) (es : List Note) (hlen : es.length ≤ 1000000) (w : World) (hE : Ents w.heap.size w (.slice ad len cap) es) :
    Calls Try.prog 18 #[.slice ad len cap, .int .i64 now, .int .i64 width] w fun e w' => ∃ ad' cap', e = .returned (.slice ad' (live now width es).length cap') ∧ Ents w'.heap.size w' (.slice ad' (live now width es).length cap') (live now width es) ∧ Below w.heap.size w w' ∧ Anew w.heap.size ad' :=
  (rPurge_own ad len cap now width es hlen w hE).mono fun e w' ⟨v, he, hr, hb⟩ => by
    have hE' := Ents.of_own hr
    obtain ⟨ad', cap', rfl, h⟩ := id hE'
    exact ⟨ad', cap', he, hE', hb, Anew.of_own hr⟩
end Go.Proofs.Ytjmeeklaclidbaa
