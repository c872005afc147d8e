/- The calls Who and Count of the document's answer on notes return the nodes of the notes that are alive, rising, each once, and how many; for rows of notes that lie in memory. -/
import Derived.Test.YtnllidjbehonkaaLogX
import Derived.Deep.AppendLies
namespace Go.Proofs.Ytnllidjbehonkaa
open Go.ChangeShapes Go.WideShapes Go.ChangeAt Go.RowKit Go.Shelf
set_option linter.unusedVariables false

theorem own_cells1 {V : World} {base g n cap : Nat} {e : TypeId} {zs : List Int} (h : V.ownsRow base e 1 (.slice (some ⟨g, 0, none⟩) n cap) n (zs.map (Value.int .i64))) : g < V.heap.size ∧ n = zs.length ∧ n ≤ cap ∧ cap ≤ maxLen ∧ ∀ j, j < zs.length → V.cell? ⟨g, j, none⟩ = some (.int .i64 (zs.getD j 0)) := by
  obtain ⟨hl, ⟨h0, _⟩ | ⟨g', c', cur, hv, hb, hg, h1, h2, h3, h4⟩⟩ := h
  · cases h0
  · cases hv
    have hn : n = zs.length := by simpa using hl.symm
    refine ⟨(Array.getElem?_eq_some_iff.1 hg).1, hn, h1, h2, fun j hj => ?_⟩
    have c0 : (zs.map (Value.int .i64))[j]? = some (.int .i64 (zs.getD j 0)) := by simp [hj]
    rw [← h4, List.getElem?_take, if_pos (by omega)] at c0
    simpa [World.cell?, hg] using c0
theorem src_take {W : World} {g : Nat} {zs : List Int} (hc : ∀ j, j < zs.length → W.cell? ⟨g, j, none⟩ = some (.int .i64 (zs.getD j 0))) (k c : Nat) (hk : k ≤ zs.length) : Src W (.slice (some ⟨g, 0, none⟩) k c) (zs.take k) := by
  have el : (zs.take k).length = k := by rw [List.length_take]; omega
  refine .inr ⟨g, 0, c, by rw [el], fun j hj => ?_⟩
  rw [el] at hj
  rw [Nat.zero_add, hc j (by omega)]
  simp [hj]
theorem src_drop {W : World} {g : Nat} {zs : List Int} (hc : ∀ j, j < zs.length → W.cell? ⟨g, j, none⟩ = some (.int .i64 (zs.getD j 0))) (k c : Nat) (hk : k ≤ zs.length) : Src W (.slice (some ⟨g, k, none⟩) (zs.length - k) c) (zs.drop k) := by
  refine .inr ⟨g, k, c, by rw [List.length_drop], fun j hj => ?_⟩
  rw [List.length_drop] at hj
  rw [hc (k + j) (by omega)]
  simp
theorem src_end {W : World} {g : Nat} {zs : List Int} (k c : Nat) (hk : zs.length ≤ k) : Src W (.slice (some ⟨g, 0, none⟩) (zs.length - k) c) (zs.drop k) :=
  .inr ⟨g, 0, c, by rw [List.length_drop], fun j hj => by rw [List.length_drop] at hj; omega⟩
theorem src_one (W : World) (x : Int) (t : TypeId) : Src (W.alloc (.cells #[.int .i64 x] t)) (.slice (some ⟨W.heap.size, 0, none⟩) 1 1) [x] :=
  .inr ⟨_, 0, 1, rfl, fun j hj => by
    have : j = 0 := by simpa using hj
    subst this
    exact World.cell?_alloc_mark W #[.int .i64 x] t _ 0⟩

set_option maxHeartbeats 4000000 in
theorem rWho_own (ad : Option Addr) (len cap : Nat) (now width : Int) (es : List Note) (hlen : es.length ≤ 1000000) (w : World) (hE : Ents w.heap.size w (.slice ad len cap) es) :
    Calls Try.prog 32 #[.slice ad len cap, .int .i64 now, .int .i64 width] w fun r w' => ∃ v, r = .returned v ∧ w'.ownsRow w.heap.size 3 1 v (nodesOf (live now width es)).length ((nodesOf (live now width es)).map (Value.int .i64)) ∧ Below w.heap.size w w' := by
  obtain ⟨_, _, hv, _, _, _, hc⟩ := id hE
  obtain ⟨rfl, rfl, rfl⟩ : ad = _ ∧ len = _ ∧ cap = _ := by simpa using hv
  clear hv hE
  obtain ⟨i0, hi, hz0, hz1, hz2⟩ := info_parts infoInt
  go_enter Try.func32, Try.ntmps32
  go_wp2
  go_loopw [7, 8] (fun v i wr => ∃ k : Nat, k ≤ es.length ∧ wr.ownsRow w.heap.size 3 1 v (nodesOf (live now width (es.take k))).length ((nodesOf (live now width (es.take k))).map (Value.int .i64)) ∧ (nodesOf (live now width (es.take k)) = [] → v = .slice none 0 0) ∧ i = .int .i64 (k : Int) ∧ Below w.heap.size w wr) (fun _ i _ => es.length - (intOf i).toNat)
  case atStart => exact ⟨0, Nat.zero_le _, World.ownsRow_nil _ _ _ _, fun _ => rfl, rfl, Below.refl _ _⟩
  case round =>
    obtain ⟨k, hk, hown, hnil, rfl, hB⟩ := hrel
    by_cases hlt : k < es.length
    · obtain ⟨b, off, rfl, hbl, e0, e1⟩ := hc k hlt
      have f0 := (hB.cell (p := ⟨b, off + k * 2, none⟩) hbl).trans e0
      have f1 := (hB.cell (p := ⟨b, off + k * 2 + 1, none⟩) hbl).trans e1
      have htake := getD_snoc_take es hlt
      have hll := Nat.le_trans (nodesOf_length (live now width (es.take k))) (live_le now width (es.take k))
      rw [List.length_take] at hll
      clear hc
      generalize es.getD k note0 = z at f0 f1 htake e0 e1
      have i1 : (0 : Int) ≤ (k : Int) := by omega
      have i2 : (k : Int) < (es.length : Int) := by omega
      have RA := fun V => ralive_any z now width V
      have hyes : aliveB now width z = true → nodesOf (live now width (es.take (k + 1))) = ins z.1.1 (nodesOf (live now width (es.take k))) := fun h => by rw [htake, live_snoc_yes _ h, nodesOf_snoc]
      have hno : aliveB now width z = false → nodesOf (live now width (es.take (k + 1))) = nodesOf (live now width (es.take k)) := fun h => by rw [htake, live_snoc_no _ h]
      generalize hn1 : nodesOf (live now width (es.take (k + 1))) = n1 at hyes hno
      generalize nodesOf (live now width (es.take k)) = zs at hyes hno hll hown hnil
      cases hal : aliveB now width z with
      | false =>
        rw [hal] at RA
        have hn := hno hal
        clear hyes hno htake
        go_wp2_with (go_at_call 40; refine (RA _).mono ?_; rintro r w1 ⟨rfl, hb1⟩)
        go_roundw
        case rel => exact ⟨k + 1, by omega, by rw [hn1, hn]; exact ownsRow_below hown hb1, by rw [hn1, hn]; exact hnil, by simp, bthen hB hb1⟩
        case measure => simp [intOf]; omega
      | true =>
        rw [hal] at RA
        have hn := hyes hal
        clear hyes hno htake
        go_wp2_with fail
        refine (RA _).mono ?_
        rintro r w1 ⟨rfl, hb1⟩
        have hB1 := bthen hB hb1
        have hown1 := ownsRow_below hown hb1
        have g0 := (hB1.cell (p := ⟨b, off + k * 2, none⟩) hbl).trans e0
        clear f0 f1 e0 e1 hown RA
        have hsz := hB1.size
        have hmx : 4000000 ≤ maxLen := by unfold maxLen; omega
        generalize hzx : z.1.1 = x at hn g0
        have ln1 : [x].length = 1 := rfl
        by_cases hz : zs = []
        · obtain rfl := hnil hz
          subst hz
          have ln0 : ([] : List Int).length = 0 := rfl
          go_wp2
          go_loopw [9] (fun i wr2 => i = .int .i64 0 ∧ Below w1.heap.size w1 wr2) (fun _ _ => 0)
          case atStart => exact ⟨rfl, Below.refl _ _⟩
          case round =>
            obtain ⟨rfl, hB2⟩ := hrel
            go_wp2
            go_quiet (fail)
            have hB3 : Below w1.heap.size w1 (wr.drewN nq) := ⟨hB2.os, hB2.tape, hB2.output, hB2.size, hB2.block⟩
            generalize wr.drewN nq = V1 at hB3 ⊢
            go_wp2
            go_quiet (fail)
            have hBV : Below w1.heap.size w1 (V1.drewN nq) := ⟨hB3.os, hB3.tape, hB3.output, hB3.size, hB3.block⟩
            generalize V1.drewN nq = V at hBV ⊢
            clear hB3 hB2
            have sV := hBV.size
            have hbV : b < V.heap.size := by omega
            have gV := (hBV.cell (p := ⟨b, off + k * 2, none⟩) (show b < w1.heap.size by omega)).trans g0
            have F2 : True := trivial
            have S1 : Src V (.slice none 0 0) ([] : List Int) := .inl ⟨rfl, rfl⟩
            go_wp2_with (first
              | (at_builtin; refine wpList_append_nums _ rfl _ _ 37 rfl V.heap.size 3 i0 Try.underlying37 hi hz0 hz1 hz2 (.slice none 0 0) 0 [] rfl (World.ownsRow_nil _ _ _ _) _ _ rfl S1 (by omega) (by omega) (Nat.le_refl _) ?_; intro v1 a1 o1 r1; clear S1; have b1 : Below V.heap.size V a1 := (Below.refl _ V).grown r1 (Nat.le_refl _) (fun k h => by simp [Value.ownBlock] at h); have s1 := b1.size; have gg := (b1.cell (p := ⟨b, off + k * 2, none⟩) hbV).trans gV)
              | (at_builtin; refine wpList_append_nums _ rfl _ _ 37 rfl V.heap.size 3 i0 Try.underlying37 hi hz0 hz1 hz2 v1 _ _ rfl (o1.alloc _) _ [x] rfl (src_one a1 x _) (by omega) (by omega) (by simp; omega) ?_; clear F2; intro v2 a2 o2 r2; have b2 : Below V.heap.size V a2 := (b1.alloc s1 _).grown r2 (by simp; omega) (own_base o1); have s2 := b2.size; have S3 : Src a2 (.slice none 0 0) ([] : List Int) := .inl ⟨rfl, rfl⟩)
              | (at_builtin; refine wpList_append_nums _ rfl _ _ 37 rfl V.heap.size 3 i0 Try.underlying37 hi hz0 hz1 hz2 v2 _ _ rfl o2 _ _ rfl (by first | exact S3 | exact S4) (by omega) (by omega) s2 ?_; intro v3 a3 o3 r3; have b3 : Below V.heap.size V a3 := b2.grown r3 s2 (own_base o2)))
            go_roundw
            case rel =>
              refine ⟨k + 1, by omega, ?_, ?_, by simp, hB1.trans ((hBV.mono (by omega)).trans (b3.mono (by omega)))⟩
              · rw [hn1, hn]; exact ownsRow_base_a (by simpa [ins] using o3) (by omega)
              · rw [hn1, hn]; intro h; simp [ins] at h
            case measure => simp [intOf]; omega
        · obtain ⟨g, cz, rfl, _, hgl⟩ := hown1.form (List.length_pos_iff.2 hz)
          obtain ⟨_, _, hcz1, hcz2, hcz⟩ := own_cells1 hown1
          go_wp2
          go_loopw [9] (fun i wr2 => ∃ q : Nat, q ≤ zs.length ∧ i = .int .i64 (q : Int) ∧ (∀ j, j < q → zs.getD j 0 < x) ∧ Below w1.heap.size w1 wr2) (fun i _ => zs.length - (intOf i).toNat)
          case atStart => exact ⟨0, Nat.zero_le _, rfl, fun j hj => absurd hj (Nat.not_lt_zero _), Below.refl _ _⟩
          case round =>
            obtain ⟨q, hq, rfl, hbelow, hB2⟩ := hrel
            have i3 : (0 : Int) ≤ (q : Int) := by omega
            have l1 : (zs.take q).length = q := by rw [List.length_take]; omega
            have l2 : (zs.drop q).length = zs.length - q := List.length_drop
            have l3 : [x].length = 1 := rfl
            have h0 := (hB2.cell (p := ⟨b, off + k * 2, none⟩) (show b < w1.heap.size by omega)).trans g0
            by_cases hqn : q < zs.length
            · have hy := (hB2.cell (p := ⟨g, q, none⟩) hgl).trans (hcz q hqn)
              have i4 : (q : Int) < (zs.length : Int) := by omega
              by_cases hyx : zs.getD q 0 < x
              · have hb' : ∀ j, j < q + 1 → zs.getD j 0 < x := fun j hj => by
                  by_cases h : j = q
                  · rw [h]; exact hyx
                  · exact hbelow j (by omega)
                clear hbelow hcz
                generalize zs.getD q 0 = y at hy hyx
                go_wp2
                go_quiet (fail)
                go_wp2
                go_roundw
                case rel => exact ⟨q + 1, by omega, by simp, hb', ⟨hB2.os, hB2.tape, hB2.output, hB2.size, hB2.block⟩⟩
                case measure => simp [intOf]; omega
              · have hins := ins_at x zs q hq hbelow (fun _ => hyx)
                clear hbelow
                by_cases hye : zs.getD q 0 = x
                · rw [if_pos ⟨hqn, hye⟩] at hins
                  rw [hye] at hy
                  have q5 : decide (x < x) = false := by simp
                  clear hye hyx hcz
                  go_wp2
                  go_quiet (fail)
                  have hB3 : Below w1.heap.size w1 (wr.drewN nq) := ⟨hB2.os, hB2.tape, hB2.output, hB2.size, hB2.block⟩
                  have h0' := (hB3.cell (p := ⟨b, off + k * 2, none⟩) (show b < w1.heap.size by omega)).trans g0
                  have hy' : (wr.drewN nq).cell? ⟨g, q, none⟩ = some (.int .i64 x) := hy
                  generalize wr.drewN nq = V1 at hB3 h0' hy' ⊢
                  go_wp2
                  go_quiet (fail)
                  have hBV : Below w1.heap.size w1 (V1.drewN nq) := ⟨hB3.os, hB3.tape, hB3.output, hB3.size, hB3.block⟩
                  generalize V1.drewN nq = V at hBV ⊢
                  go_wp2
                  go_roundw
                  case rel => exact ⟨k + 1, by omega, by rw [hn1, hn, hins]; exact ownsRow_below hown1 hBV, by rw [hn1, hn, hins]; intro h; exact absurd h hz, by simp, hB1.trans (hBV.mono (by omega))⟩
                  case measure => simp [intOf]; omega
                · rw [if_neg (fun h => hye h.2)] at hins
                  have q5 : decide (zs.getD q 0 < x) = false := decide_eq_false hyx
                  have q6 : (zs.getD q 0 == x) = false := by simp only [beq_eq_false_iff_ne]; exact hye
                  have hcz' := hidden hcz
                  clear hcz
                  generalize zs.getD q 0 = y at hy hyx hye q5 q6
                  go_wp2
                  go_quiet (fail)
                  have hB3 : Below w1.heap.size w1 (wr.drewN nq) := ⟨hB2.os, hB2.tape, hB2.output, hB2.size, hB2.block⟩
                  have h0' := (hB3.cell (p := ⟨b, off + k * 2, none⟩) (show b < w1.heap.size by omega)).trans g0
                  have hy' : (wr.drewN nq).cell? ⟨g, q, none⟩ = some (.int .i64 y) := hy
                  generalize wr.drewN nq = V1 at hB3 h0' hy' ⊢
                  go_wp2
                  go_quiet (fail)
                  have hBV : Below w1.heap.size w1 (V1.drewN nq) := ⟨hB3.os, hB3.tape, hB3.output, hB3.size, hB3.block⟩
                  generalize V1.drewN nq = V at hBV ⊢
                  have hcz := hcz'.out
                  clear hcz' hy' h0' hB3 hy h0 hB2
                  have i5 : (q : Int) ≤ (cz : Int) := by omega
                  have i6 : (q : Int) ≤ (zs.length : Int) := by omega
                  have i7 : (zs.length : Int) ≤ (cz : Int) := by omega
                  have sV := hBV.size
                  have hbV : b < V.heap.size := by omega
                  have gV := (hBV.cell (p := ⟨b, off + k * 2, none⟩) (show b < w1.heap.size by omega)).trans g0
                  have F2 : True := trivial
                  have hcV : ∀ j, j < zs.length → V.cell? ⟨g, j, none⟩ = some (.int .i64 (zs.getD j 0)) := fun j hj => (hBV.cell (p := ⟨g, j, none⟩) hgl).trans (hcz j hj)
                  have S1 := src_take hcV q cz hq
                  clear hcz
                  have hcq : ¬ cz = q := by omega
                  go_wp2_with (first
                    | (at_builtin; refine wpList_append_nums _ rfl _ _ 37 rfl V.heap.size 3 i0 Try.underlying37 hi hz0 hz1 hz2 (.slice none 0 0) 0 [] rfl (World.ownsRow_nil _ _ _ _) _ _ rfl S1 (by omega) (by omega) (Nat.le_refl _) ?_; intro v1 a1 o1 r1; clear S1; have b1 : Below V.heap.size V a1 := (Below.refl _ V).grown r1 (Nat.le_refl _) (fun k h => by simp [Value.ownBlock] at h); have s1 := b1.size; have gg := (b1.cell (p := ⟨b, off + k * 2, none⟩) hbV).trans gV)
                    | (at_builtin; refine wpList_append_nums _ rfl _ _ 37 rfl V.heap.size 3 i0 Try.underlying37 hi hz0 hz1 hz2 v1 _ _ rfl (o1.alloc _) _ [x] rfl (src_one a1 x _) (by omega) (by omega) (by simp; omega) ?_; clear F2; intro v2 a2 o2 r2; have b2 : Below V.heap.size V a2 := (b1.alloc s1 _).grown r2 (by simp; omega) (own_base o1); have s2 := b2.size; have hc2 : ∀ j, j < zs.length → a2.cell? ⟨g, j, none⟩ = some (.int .i64 (zs.getD j 0)) := (fun j hj => (b2.cell (p := ⟨g, j, none⟩) (show g < V.heap.size by omega)).trans (hcV j hj)); have S3 := src_drop hc2 q (cz - q) hq)
                    | (at_builtin; refine wpList_append_nums _ rfl _ _ 37 rfl V.heap.size 3 i0 Try.underlying37 hi hz0 hz1 hz2 v2 _ _ rfl o2 _ _ rfl S3 (by omega) (by omega) s2 ?_; intro v3 a3 o3 r3; have b3 : Below V.heap.size V a3 := b2.grown r3 s2 (own_base o2)))
                  go_roundw
                  case rel =>
                    refine ⟨k + 1, by omega, ?_, ?_, by simp, hB1.trans ((hBV.mono (by omega)).trans (b3.mono (by omega)))⟩
                    · rw [hn1, hn, hins]
                      have el : (zs.take q ++ ([x] ++ zs.drop q)).length = 0 + (zs.take q).length + [x].length + (zs.drop q).length := by simp only [List.length_append]; omega
                      rw [el]
                      exact ownsRow_base_a (by simpa using o3) (by omega)
                    · rw [hn1, hn, hins]; intro h; simp at h
                  case measure => simp [intOf]; omega
            · obtain rfl : q = zs.length := by omega
              have hins := ins_at x zs zs.length hq hbelow (fun h => absurd h hqn)
              rw [if_neg (fun h => hqn h.1), List.take_length, List.drop_length, List.append_nil] at hins
              have i4 : decide ((zs.length : Int) < (zs.length : Int)) = false := by simp
              have ln0 : ([] : List Int).length = 0 := rfl
              have hcz' := hidden hcz
              clear hcz hbelow
              go_wp2
              go_quiet (fail)
              have hB3 : Below w1.heap.size w1 (wr.drewN nq) := ⟨hB2.os, hB2.tape, hB2.output, hB2.size, hB2.block⟩
              generalize wr.drewN nq = V1 at hB3 ⊢
              go_wp2
              go_quiet (fail)
              have hBV : Below w1.heap.size w1 (V1.drewN nq) := ⟨hB3.os, hB3.tape, hB3.output, hB3.size, hB3.block⟩
              generalize V1.drewN nq = V at hBV ⊢
              have hcz := hcz'.out
              clear hcz' hB3 h0 hB2
              have i7 : (zs.length : Int) ≤ (cz : Int) := by omega
              have sV := hBV.size
              have hbV : b < V.heap.size := by omega
              have gV := (hBV.cell (p := ⟨b, off + k * 2, none⟩) (show b < w1.heap.size by omega)).trans g0
              have F2 : True := trivial
              have hcV : ∀ j, j < zs.length → V.cell? ⟨g, j, none⟩ = some (.int .i64 (zs.getD j 0)) := fun j hj => (hBV.cell (p := ⟨g, j, none⟩) hgl).trans (hcz j hj)
              have S1 := src_take hcV zs.length cz (Nat.le_refl _)
              rw [List.take_length] at S1
              clear hcz hcV
              by_cases hcq : cz = zs.length
              · subst hcq
                have S3' : ∀ W : World, Src W (.slice (some ⟨g, 0, none⟩) 0 0) ([] : List Int) := fun W => .inr ⟨g, _, _, rfl, fun j hj => absurd hj (Nat.not_lt_zero _)⟩
                go_wp2_with (first
                  | (at_builtin; refine wpList_append_nums _ rfl _ _ 37 rfl V.heap.size 3 i0 Try.underlying37 hi hz0 hz1 hz2 (.slice none 0 0) 0 [] rfl (World.ownsRow_nil _ _ _ _) _ _ rfl S1 (by omega) (by omega) (Nat.le_refl _) ?_; intro v1 a1 o1 r1; clear S1; have b1 : Below V.heap.size V a1 := (Below.refl _ V).grown r1 (Nat.le_refl _) (fun k h => by simp [Value.ownBlock] at h); have s1 := b1.size; have gg := (b1.cell (p := ⟨b, off + k * 2, none⟩) hbV).trans gV)
                  | (at_builtin; refine wpList_append_nums _ rfl _ _ 37 rfl V.heap.size 3 i0 Try.underlying37 hi hz0 hz1 hz2 v1 _ _ rfl (o1.alloc _) _ [x] rfl (src_one a1 x _) (by omega) (by omega) (by simp; omega) ?_; clear F2; intro v2 a2 o2 r2; have b2 : Below V.heap.size V a2 := (b1.alloc s1 _).grown r2 (by simp; omega) (own_base o1); have s2 := b2.size; have S3 := S3' a2)
                  | (at_builtin; refine wpList_append_nums _ rfl _ _ 37 rfl V.heap.size 3 i0 Try.underlying37 hi hz0 hz1 hz2 v2 _ _ rfl o2 _ _ rfl S3 (by omega) (by omega) s2 ?_; intro v3 a3 o3 r3; have b3 : Below V.heap.size V a3 := b2.grown r3 s2 (own_base o2)))
                go_roundw
                case rel =>
                  refine ⟨k + 1, by omega, ?_, ?_, by simp, hB1.trans ((hBV.mono (by omega)).trans (b3.mono (by omega)))⟩
                  · rw [hn1, hn, hins]
                    have el : (zs ++ [x]).length = 0 + zs.length + [x].length + ([] : List Int).length := by simp only [List.length_append]; omega
                    rw [el]
                    exact ownsRow_base_a (by simpa using o3) (by omega)
                  · rw [hn1, hn, hins]; intro h; simp at h
                case measure => simp [intOf]; omega
              · skip
                have S3' : ∀ W : World, Src W (.slice (some ⟨g, zs.length, none⟩) 0 (cz - zs.length)) ([] : List Int) := fun W => .inr ⟨g, _, _, rfl, fun j hj => absurd hj (Nat.not_lt_zero _)⟩
                go_wp2_with (first
                  | (at_builtin; refine wpList_append_nums _ rfl _ _ 37 rfl V.heap.size 3 i0 Try.underlying37 hi hz0 hz1 hz2 (.slice none 0 0) 0 [] rfl (World.ownsRow_nil _ _ _ _) _ _ rfl S1 (by omega) (by omega) (Nat.le_refl _) ?_; intro v1 a1 o1 r1; clear S1; have b1 : Below V.heap.size V a1 := (Below.refl _ V).grown r1 (Nat.le_refl _) (fun k h => by simp [Value.ownBlock] at h); have s1 := b1.size; have gg := (b1.cell (p := ⟨b, off + k * 2, none⟩) hbV).trans gV)
                  | (at_builtin; refine wpList_append_nums _ rfl _ _ 37 rfl V.heap.size 3 i0 Try.underlying37 hi hz0 hz1 hz2 v1 _ _ rfl (o1.alloc _) _ [x] rfl (src_one a1 x _) (by omega) (by omega) (by simp; omega) ?_; clear F2; intro v2 a2 o2 r2; have b2 : Below V.heap.size V a2 := (b1.alloc s1 _).grown r2 (by simp; omega) (own_base o1); have s2 := b2.size; have S3 := S3' a2)
                  | (at_builtin; refine wpList_append_nums _ rfl _ _ 37 rfl V.heap.size 3 i0 Try.underlying37 hi hz0 hz1 hz2 v2 _ _ rfl o2 _ _ rfl S3 (by omega) (by omega) s2 ?_; intro v3 a3 o3 r3; have b3 : Below V.heap.size V a3 := b2.grown r3 s2 (own_base o2)))
                go_roundw
                case rel =>
                  refine ⟨k + 1, by omega, ?_, ?_, by simp, hB1.trans ((hBV.mono (by omega)).trans (b3.mono (by omega)))⟩
                  · rw [hn1, hn, hins]
                    have el : (zs ++ [x]).length = 0 + zs.length + [x].length + ([] : List Int).length := by simp only [List.length_append]; omega
                    rw [el]
                    exact ownsRow_base_a (by simpa using o3) (by omega)
                  · rw [hn1, hn, hins]; intro h; simp at h
                case measure => simp [intOf]; omega
    · obtain rfl : k = es.length := by omega
      rw [List.take_length] at hown
      go_wp2
      go_ret
      exact ⟨_, rfl, hown, hB⟩
theorem rWho_any (ad : Option Addr) (len cap : Nat) (now width : Int) (es : List Note) (hlen : es.length ≤ 1000000) (w : World) (hE : Ents w.heap.size w (.slice ad len cap) es) :
    Calls Try.prog 32 #[.slice ad len cap, .int .i64 now, .int .i64 width] w fun e w' => ∃ ad' cap', e = .returned (.slice ad' (nodesOf (live now width es)).length cap') ∧ Nums w'.heap.size w' (.slice ad' (nodesOf (live now width es)).length cap') (nodesOf (live now width es)) ∧ Below w.heap.size w w' :=
  (rWho_own ad len cap now width es hlen w hE).mono fun e w' ⟨v, he, hr, hb⟩ => by
    have hE' := Nums.of_own hr
    obtain ⟨ad', cap', rfl, h⟩ := id hE'
    exact ⟨ad', cap', he, hE', hb⟩
theorem rCount_any (ad : Option Addr) (len cap : Nat) (now width : Int) (es : List Note) (hlen : es.length ≤ 1000000) (w : World) (hE : Ents w.heap.size w (.slice ad len cap) es) :
    Calls Try.prog 27 #[.slice ad len cap, .int .i64 now, .int .i64 width] w fun r w' => r = .returned (.int .i64 ((nodesOf (live now width es)).length : Int)) ∧ Below w.heap.size w w' := by
  go_enter Try.func27, Try.ntmps27
  go_wp2_with (go_at_call 32; refine (rWho_any _ _ _ _ _ es hlen _ hE).mono ?_; rintro r w1 ⟨ad1, cap1, rfl, _, hb⟩)
  go_ret
  exact ⟨rfl, hb⟩
end Go.Proofs.Ytnllidjbehonkaa
