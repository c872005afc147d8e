/- The walk of LogCaps: for rows of notes that lie in memory it returns true and makes at most new memory. -/
import Derived.Test.YtnllidjbehonkabLogN
import Derived.Deep.AppendLies
namespace Go.Proofs.Ytnllidjbehonkab.LawLogCaps
open Go.ChangeShapes Go.WideShapes Go.ChangeAt Go.RowKit Go.Shelf
set_option linter.unusedVariables false

theorem wpList_append_entsN {P : Program} (w : World) {ops : Array Oper} {rest : List Oper} {o : Oper} {a : Act} {Q : Exit → Act → World → Prop} (hgd : o.guard = none) (s x : Operand) (t : TypeId)
    (ho : o.op = .call { callee := .builtin .append, args := #[s, x], argTypes := #[t, t] })
    (base : Nat) (e : TypeId) (i : TypeInfo) (z : Value) (bytes : Nat) (ht : P.underlying t = some (.slice e)) (hi : P.info? e = some i) (hz : i.zero = some z)
    (hsize : i.size = 2) (hby : i.bytes = bytes) (hzs : z.cells.size = 2) (v : Value) (n : Nat) (xs : List Value) (hs : a.eval s = v) (hown : w.ownsRow base e 2 v n xs) {n₀ : Nat} (sv : Value) (es : List Note) (hx : a.eval x = sv) (hE : Ents n₀ w sv es)
    (h63 : n + es.length ≤ maxLen) (hbytes : (n + es.length) * bytes ≤ 140737488355328) (hbase : base ≤ w.heap.size) (N : Nat) (hN : n + es.length = N) (h0 : 0 < N)
    (hK : ∀ (g c : Nat) (w' : World), w'.ownsRow base e 2 (.slice (some ⟨g, 0, none⟩) N c) N (xs ++ cells2 es) → w.grownBy w' v.ownBlock → (N : Int) ≤ (c : Int) → c ≤ maxLen → wpList P ops Q rest (a.put o.dst (.slice (some ⟨g, 0, none⟩) N c)) w') : wpList P ops Q (o :: rest) a w := by
  refine wpList_append_ents w hgd s x t ho base e i z bytes ht hi hz hsize hby hzs v n xs hs hown sv es hx hE h63 hbytes hbase ?_
  intro v' w' r1 r2 r3
  rw [hN] at r1
  obtain ⟨_, ⟨_, h⟩ | ⟨g, c, cur, rfl, _, _, h1, h2, _⟩⟩ := id r1
  · omega
  · exact hK g c w' r1 r2 (by omega) h2

/-- The notes, with more and more. -/
def accL (es : List Note) (fs : List Note) : List Note := fs.foldl addL es
theorem accL_snoc (es fs : List Note) (e : Note) : accL es (fs ++ [e]) = addL (accL es fs) e := by simp [accL]
theorem addL_suffix {bs xs : List Note} (e : Note) (h : bs <:+ xs) : addL bs e <:+ xs ++ [e] := by
  unfold addL
  split
  · obtain ⟨p, rfl⟩ := h
    refine ⟨p ++ bs.take (bs.length - 64 + 1), ?_⟩
    rw [List.append_assoc, ← List.append_assoc (bs.take _), List.take_append_drop, List.append_assoc]
  · obtain ⟨p, rfl⟩ := h
    exact ⟨p, by rw [List.append_assoc]⟩
theorem accL_suffix (es fs : List Note) : ∀ bs xs : List Note, bs <:+ xs → fs.foldl addL bs <:+ xs ++ fs := by
  induction fs with
  | nil => intro bs xs h; simpa using h
  | cons f fs ih =>
    intro bs xs h
    have := ih (addL bs f) (xs ++ [f]) (addL_suffix f h)
    simpa using this
theorem accL_drop (es fs : List Note) : (es ++ fs).drop ((es ++ fs).length - (accL es fs).length) = accL es fs :=
  (List.suffix_iff_eq_drop.1 (accL_suffix es fs es es (List.suffix_refl _))).symm
theorem accL_length (fs : List Note) : ∀ es : List Note, es.length ≤ 100 → (accL es fs).length ≤ 100 := by
  induction fs with
  | nil => intro es h; exact h
  | cons f fs ih => intro es h; exact ih (addL es f) (by rw [addL_length]; omega)
theorem accL_le (es fs : List Note) : (accL es fs).length ≤ es.length + fs.length := by
  have := (accL_suffix es fs es es (List.suffix_refl _)).length_le
  rw [List.length_append] at this
  exact this
theorem accL_pos (es : List Note) {fs : List Note} (h : 0 < fs.length) : 0 < (accL es fs).length := by
  have e : fs = fs.take (fs.length - 1) ++ [fs.getD (fs.length - 1) note0] := by
    rw [← getD_snoc_take fs (by omega), show fs.length - 1 + 1 = fs.length by omega, List.take_length]
  rw [e, accL_snoc, addL_length]; omega
theorem addL_last (bs : List Note) (e : Note) : (addL bs e).getD ((addL bs e).length - 1) note0 = e := by
  unfold addL
  rw [List.length_append, List.length_singleton, Nat.add_sub_cancel]
  simp

set_option maxHeartbeats 2000000 in
theorem walk (ad : Option Addr) (cap : Nat) (es : List Note) (ad' : Option Addr) (cap' : Nat) (fs : List Note) (W : World) (hl : es.length ≤ 9223372036854775807) (hE : Ents W.heap.size W (.slice ad es.length cap) es) (hl' : fs.length ≤ 9223372036854775807) (hF : Ents W.heap.size W (.slice ad' fs.length cap') fs) :
    Calls Try.prog 3 #[.slice ad es.length cap, .slice ad' fs.length cap'] W fun e w' => e = .returned (.bool true) ∧ Below W.heap.size W w' := by
  by_cases h100 : 100 < es.length
  · go_enter Try.func3, Try.ntmps3
    go_wp2_with (go_at_call 5; refine (known6_any _).mono ?_; rintro e w1 ⟨rfl, hb⟩)
    go_ret
    exact ⟨rfl, hb⟩
  have q0 : decide (100 < (es.length : Int)) = false := by simp; omega
  by_cases h101 : 100 < fs.length
  · go_enter Try.func3, Try.ntmps3
    go_wp2_with (go_at_call 5; refine (known6_any _).mono ?_; rintro e w1 ⟨rfl, hb⟩)
    go_ret
    exact ⟨rfl, hb⟩
  have q1 : decide (100 < (fs.length : Int)) = false := by simp; omega
  go_enter Try.func3, Try.ntmps3
  go_wp2
  go_loopw [5, 6] (fun v i wr => ∃ (k : Nat) (a : Option Addr) (c : Nat), k ≤ fs.length ∧ v = .slice a (accL es (fs.take k)).length c ∧ i = .int .i64 (k : Int) ∧ Ents wr.heap.size wr (.slice a (accL es (fs.take k)).length c) (accL es (fs.take k)) ∧ Below W.heap.size W wr) (fun _ i _ => fs.length - (intOf i).toNat)
  case atStart => exact ⟨0, ad, cap, Nat.zero_le _, rfl, rfl, hE, Below.refl _ _⟩
  case round =>
    obtain ⟨k, a, c, hk, rfl, rfl, hA, hB⟩ := hrel
    have hal := accL_length (fs.take k) es (by omega)
    by_cases hlt : k < fs.length
    · have hs : accL es (fs.take (k + 1)) = addL (accL es (fs.take k)) (fs.getD k note0) := by rw [getD_snoc_take fs hlt, accL_snoc]
      obtain ⟨_, _, hv, _, _, _, hc⟩ := id hF
      obtain ⟨rfl, rfl⟩ : ad' = _ ∧ cap' = _ := by simpa using hv
      obtain ⟨b, off, rfl, hbl, e0, e1⟩ := hc k hlt
      have f0 := (hB.cell (p := ⟨b, off + k * 2, none⟩) hbl).trans e0
      have f1 := (hB.cell (p := ⟨b, off + k * 2 + 1, none⟩) hbl).trans e1
      clear hv hc
      generalize fs.getD k note0 = z at f0 f1 hs e0 e1
      have hlen := addL_length (accL es (fs.take k)) z
      have hlast := addL_last (accL es (fs.take k)) z
      have ADD : ∀ V, Ents V.heap.size V (.slice a (accL es (fs.take k)).length c) (accL es (fs.take k)) → Calls Try.prog 6 #[.slice a (accL es (fs.take k)).length c, .agg #[.int .i64 z.1.1, .int .i64 z.1.2]] V fun r w' => ∃ a1 c1, r = .returned (.tuple #[.slice a1 (addL (accL es (fs.take k)) z).length c1, .bool (decide ((64 : Int) ≤ ((accL es (fs.take k)).length : Int)))]) ∧ Ents w'.heap.size w' (.slice a1 (addL (accL es (fs.take k)) z).length c1) (addL (accL es (fs.take k)) z) ∧ Below V.heap.size V w' := fun V h => by
        rw [show decide ((64 : Int) ≤ ((accL es (fs.take k)).length : Int)) = decide (64 ≤ (accL es (fs.take k)).length) from decide_eq_decide.2 (by omega)]
        exact LAdd_any a _ c (accL es (fs.take k)) z (by omega) V h
      rw [← hs] at hlen hlast
      rw [← hs] at ADD
      clear hs
      generalize hgx : accL es (fs.take (k + 1)) = nx at hlen hlast ADD
      generalize hm : (accL es (fs.take k)).length = m at hal hlen ADD hA ⊢
      obtain ⟨q, hq⟩ : ∃ q, nx.length = q + 1 := ⟨nx.length - 1, by omega⟩
      rw [hq] at hlast hlen ADD
      have hq64 : q + 1 ≤ 64 := by omega
      clear hlen
      have i1 : (0 : Int) ≤ (k : Int) := by omega
      have i2 : (k : Int) < (fs.length : Int) := by omega
      go_wp2_with fail
      refine (ADD _ hA).mono ?_
      rintro e w1 ⟨a1, c1, rfl, hN, hb1⟩
      have hN' := hN
      obtain ⟨_, _, hv, _, _, _, hc⟩ := id hN
      obtain ⟨rfl, hv2, rfl⟩ : a1 = _ ∧ q + 1 = nx.length ∧ c1 = _ := by simpa using hv
      obtain ⟨b1, off1, rfl, hbl1, d0, d1⟩ := hc q (by omega)
      rw [show q = q + 1 - 1 by omega] at d0 d1
      rw [hlast] at d0 d1
      rw [show q + 1 - 1 = q by omega] at d0 d1
      have hBW := hB.cell (p := ⟨b, off + k * 2, none⟩) hbl
      have hB1 := bthen hB hb1
      have g0 := (hB1.cell (p := ⟨b, off + k * 2, none⟩) hbl).trans e0
      have g1 := (hB1.cell (p := ⟨b, off + k * 2 + 1, none⟩) hbl).trans e1
      clear hc hv hBW f0 f1 hv2
      have i3 : (0 : Int) ≤ (q : Int) := by omega
      have i4 : (q : Int) < (q : Int) + 1 := by omega
      have j1 : ((q : Int) + 1 == 0) = false := by simp only [beq_eq_false_iff_ne]; omega
      have j2 : decide ((64 : Int) < (q : Int) + 1) = false := by simp; omega
      go_wp2
      go_quiet (fail)
      go_wp2
      go_roundw
      case rel => exact ⟨k + 1, _, _, by omega, by rw [hgx, hq], by simp, by rw [hgx, hq]; exact hN', ⟨hB1.os, hB1.tape, hB1.output, hB1.size, hB1.block⟩⟩
      case measure => simp [intOf]; omega
    · obtain rfl : k = fs.length := by omega
      rw [List.take_length] at hA hal ⊢
      have hfin := accL_drop es fs
      have hle := accL_le es fs
      by_cases hf0 : fs.length = 0
      · have hf1 : ((fs.length : Int) == 0) = true := by simp only [beq_iff_eq]; omega
        go_wp2_with (go_at_call 5; refine (known6_any _).mono ?_; rintro e w9 ⟨rfl, hb9⟩)
        go_ret
        exact ⟨rfl, bthen hB hb9⟩
      · have hf1 : ((fs.length : Int) == 0) = false := by simp only [beq_eq_false_iff_ne]; omega
        obtain ⟨i0, hi, hz0, hz1, hz2⟩ := info_parts infoEnt
        have hs0 := hB.size
        have hEr := (hE.later hB)
        have hFr := (hF.later hB)
        have hpos := accL_pos es (fs := fs) (by omega)
        generalize accL es fs = nw at hA hal hfin hle hpos ⊢
        obtain ⟨na, hna⟩ : ∃ na, es.length + fs.length = na := ⟨_, rfl⟩
        have hk2 : (0 : Int) ≤ (na : Int) - (nw.length : Int) := by omega
        have hk3 : (na : Int) - (nw.length : Int) ≤ (na : Int) := by omega
        have t1 : IntKind.i64.wrap ((na : Int) - (nw.length : Int)) = (na : Int) - (nw.length : Int) := IntWalk.i64_in _ (by omega)
        clear hal hE hF
        go_wp2_with (first
          | (at_builtin; refine wpList_append_ents _ rfl _ _ 22 rfl wr.heap.size 27 i0 (.agg #[.int .i64 0, .int .i64 0]) 16 Try.underlying22 hi hz0 hz1 hz2 rfl (.slice none 0 0) 0 [] rfl (World.ownsRow_nil _ _ _ _) (.slice ad es.length cap) es rfl hEr (by simp only [maxLen]; omega) (by omega) (Nat.le_refl _) ?_; intro v1 w1 hown1 hgrow1 _; clear hEr; have hb1 : Below wr.heap.size wr w1 := (Below.refl _ _).grown hgrow1 (Nat.le_refl _) (fun k h => by simp [Value.ownBlock] at h); have hF1 := hFr.later hb1)
          | (at_builtin; refine wpList_append_entsN _ rfl _ _ 22 rfl wr.heap.size 27 i0 (.agg #[.int .i64 0, .int .i64 0]) 16 Try.underlying22 hi hz0 hz1 hz2 rfl v1 _ _ rfl hown1 (.slice ad' fs.length cap') fs rfl hF1 (by simp only [maxLen]; omega) (by omega) hb1.size na (by omega) (by omega) ?_; intro g2 cap2 w2 hown2 hgrow2 hk4 hk5; clear hF1; have hk6 : ¬ cap2 = na - nw.length := (by omega)))
        have hb2 : Below wr.heap.size wr w2 := hb1.grown hgrow2 hb1.size (own_base hown1)
        have hAll : Ents w2.heap.size w2 (.slice (some ⟨g2, 0, none⟩) na cap2) (es ++ fs) := by
          have := Ents.of_own (es := es ++ fs) (W := w2) (v := .slice (some ⟨g2, 0, none⟩) na cap2) (base := wr.heap.size) (e := 27) (by rw [cells2_append, List.length_append, hna]; simpa using hown2)
          exact this
        have hD := hAll.drop (na - nw.length) (by rw [List.length_append]; omega)
        rw [← hna, ← List.length_append, hfin, List.length_append, hna] at hD
        have hA2 := hA.later hb2
        have hnw : na - (na - nw.length) = nw.length := by omega
        refine (Same_any _ _ _ _ _ _ nw _ (by omega) hA2 (by simpa using hD)).mono ?_
        rintro e w3 ⟨rfl, hb3⟩
        go_wp2_with (go_at_call 5; refine (known6_any _).mono ?_; rintro e w9 ⟨rfl, hb9⟩)
        go_ret
        exact ⟨rfl, bthen hB (bthen hb2 (bthen hb3 hb9))⟩
end Go.Proofs.Ytnllidjbehonkab.LawLogCaps
