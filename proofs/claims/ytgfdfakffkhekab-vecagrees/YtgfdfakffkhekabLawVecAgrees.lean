/- The walk of the statement VecAgrees: the call returns true, and makes at most new memory; conditions: rows lie where they say, lengths fit int. -/
import Derived.Test.YtgfdfakffkhekabVecO
import Derived.Test.YtgfdfakffkhekabVecK
import Derived.Test.YtgfdfakffkhekabConfG
import Derived.Test.YtgfdfakffkhekabRowS
namespace Go.Proofs.Ytgfdfakffkhekab.LawVecAgrees
open Go.ChangeShapes Go.WideShapes Go.ChangeAt Go.RowKit
set_option linter.unusedVariables false
attribute [local go_sem] cell_rg

/-- A world behind another one in which a value still stands at its place. -/
structure RSv (n3 : Nat) (wX : World) (vb vo : Nat) (kv : Value) (V : World) : Prop where
  chn : Chn n3 wX V
  lt : vb < V.heap.size
  cell : V.cell? ⟨vb, vo, none⟩ = some kv
theorem RSv.of_chn {n3 : Nat} {wX : World} {vb vo : Nat} {kv : Value} {W V : World} (h : RSv n3 wX vb vo kv W) (hc : Chn W.heap.size W V) : RSv n3 wX vb vo kv V :=
  ⟨h.chn.below hc.out, Nat.lt_of_lt_of_le h.lt hc.le, (hc.out.cell (p := ⟨vb, vo, none⟩) h.lt).trans h.cell⟩
theorem RSv.grown {n3 : Nat} {wX : World} {vb vo : Nat} {kv : Value} {W V : World} {b : Option Nat} (h : RSv n3 wX vb vo kv W) (hg : W.grownBy V b) (hb : ∀ g, b = some g → n3 ≤ g) (hne : b ≠ some vb) : RSv n3 wX vb vo kv V := by
  refine ⟨⟨h.chn.1.grown hg h.chn.2 hb, Nat.le_trans h.chn.2 hg.size⟩, Nat.lt_of_lt_of_le h.lt hg.size, ?_⟩
  have hk := hg.block vb h.lt (fun e => hne e.symm)
  have : V.cell? ⟨vb, vo, none⟩ = W.cell? ⟨vb, vo, none⟩ := by simp only [World.cell?, hk]
  rw [this]
  exact h.cell
theorem map_s {α : Type} (g : Nat → α) (k : Nat) : (List.range (k + 1)).map g = (List.range k).map g ++ [g k] := by simp [List.range_succ]
theorem map_len {α : Type} (g : Nat → α) (k : Nat) : ((List.range k).map g).length = k := by simp
theorem lie_bd {x k N t L : Nat} (hx : x ≤ 15) (hk : k < N) (hN : N ≤ 13) : x * N ≤ 195 ∧ (x * N + k) * N ≤ 2704 := by
  have h1 : x * N ≤ 15 * 13 := Nat.mul_le_mul hx hN
  have h2 : (x * N + k) * N ≤ 208 * 13 := Nat.mul_le_mul (by omega) hN
  omega
theorem wfN (x : Nat) (hx : x ≤ 100) : (Lit.int .i64 (x : Int)).wf = true := by
  have := wrap64_wf (x : Int)
  rwa [IntWalk.wrap64_in (x : Int) (by omega)] at this
theorem mem_sizes (fs : List Int) (lies : List ByteArray) (hz : ∀ t ∈ lies, t.size ≤ 9223372036854775807) (hL : 0 < lies.length) (N wd x t : Nat) (hwd : wd ≤ 30) (now : List ByteArray) : ∀ s ∈ votesV (faI fs) lies N wd x t now, s.size ≤ 9223372036854775807 := by
  intro s hs
  unfold votesV at hs
  obtain ⟨a, _, rfl⟩ := List.mem_map.1 hs
  unfold sayV
  split
  · unfold lieV
    have hm : ((x * N + a) * N + t) % lies.length < lies.length := Nat.mod_lt _ hL
    rw [List.getD_eq_getElem?_getD, List.getElem?_eq_getElem hm, Option.getD_some]
    exact hz _ (List.getElem_mem hm)
  · rw [dgB_size]; omega

set_option maxRecDepth 100000 in
set_option maxHeartbeats 8000000 in
theorem walk_main (N : Nat) (f d p r dr o sl md fr : Int) (ad : Option Addr) (cap : Nat) (zs : List Int) (F : Nat) (hF : f = (F : Int)) (a1 : Option Addr) (c1 : Nat) (bits : List ByteArray) (a2 : Option Addr) (c2 : Nat) (fs : List Int) (a3 : Option Addr) (c3 : Nat) (lies : List ByteArray) (w : World) (hl : zs.length ≤ 9223372036854775807) (hT : Tab w ad zs)
    (hV1 : kStr.Lies w.heap.size w (.slice a1 bits.length c1) bits) (hy1 : ∀ t ∈ bits, t.size ≤ 9223372036854775807) (h2 : fs.length ≤ 9223372036854775807) (hV2 : kInt.Lies w.heap.size w (.slice a2 fs.length c2) fs) (hV3 : kStr.Lies w.heap.size w (.slice a3 lies.length c3) lies) (hy3 : ∀ t ∈ lies, t.size ≤ 9223372036854775807)
    (hE : plainE (N : Int) f d p r dr o sl md fr zs = 0) (hb1 : bits.length = N) (hfl : fs.length ≤ F) (hL0 : 0 < lies.length) (hL4 : lies.length ≤ 400) :
    Calls Try.prog 4 #[.agg #[.int .i64 (N : Int), .int .i64 f, .int .i64 d, .int .i64 p, .int .i64 r, .int .i64 dr, .int .i64 o, .int .i64 sl, .int .i64 md, .int .i64 fr, .slice ad zs.length cap], .slice a1 bits.length c1, .slice a2 fs.length c2, .slice a3 lies.length c3] w fun e w' => e = .returned (.bool true) ∧ Below w.heap.size w w' := by
  obtain ⟨n1, n2, f1, f2, fn, _⟩ := plainE_ok hE
  have hN13 : N ≤ 13 := by omega
  have hN0 : 0 < N := by omega
  have hFN : 3 * F < N := by omega
  have hF4 : F ≤ 4 := by omega
  have KN := hidden (fun V => known16_any V)
  have HB0 := hidden (ballc w (.cells #[.int .i64 (N : Int), .int .i64 f, .int .i64 d, .int .i64 p, .int .i64 r, .int .i64 dr, .int .i64 o, .int .i64 sl, .int .i64 md, .int .i64 fr, .slice ad zs.length cap] 24))
  have HP := hidden (refPlain_any (N : Int) f d p r dr o sl md fr ad cap zs (w.alloc (.cells #[.int .i64 (N : Int), .int .i64 f, .int .i64 d, .int .i64 p, .int .i64 r, .int .i64 dr, .int .i64 o, .int .i64 sl, .int .i64 md, .int .i64 fr, .slice ad zs.length cap] 24)) hl (hT.below (ballc _ _)))
  rw [hE] at HP
  have CR := hidden (fun V h => refRounds_any (N : Int) f d p r dr o sl md fr ad cap zs V hl h)
  obtain ⟨R, hR⟩ : ∃ R : Nat, R = 3 * (F + 1) := ⟨_, rfl⟩
  have hR15 : R ≤ 15 := by omega
  have HRR := hidden hR
  have HQN : Hid (∀ x : Nat, x < R → x / 3 < N) := fun x hx => by omega
  rw [hE, gate_ok, show 3 * (f + 1) = (R : Int) by omega] at CR
  clear hR
  have HT := hidden (hT.below HB0.out)
  have HK := hidden (blk_nw w #[.int .i64 (N : Int), .int .i64 f, .int .i64 d, .int .i64 p, .int .i64 r, .int .i64 dr, .int .i64 o, .int .i64 sl, .int .i64 md, .int .i64 fr, .slice ad zs.length cap] 24)
  have HV1 := hidden (hV1.later HB0.out)
  have HV2 := hidden (hV2.later HB0.out)
  have HV3 := hidden (hV3.later HB0.out)
  have HY3 := hidden hy3
  have hfac : facL (faI fs) N ≤ F := Nat.le_trans (facL_le N fs) hfl
  obtain ⟨wd, hwd⟩ : ∃ wd, (bits.getD 0 noB).size = wd := ⟨_, rfl⟩
  have HON : Hid (∃ m, m < N ∧ faI fs m = false) := by
    obtain ⟨m, hm, hf⟩ := one_honestG hfac hFN
    exact ⟨m, by omega, hf⟩
  obtain ⟨u, hu, hfin, hkeep⟩ := vec_end (fa := faI fs) (lies := lies) (N := N) (wd := wd) (F := F) (bits := bits) hfac hFN
  have HU := hidden hu
  have HFIN := hidden hfin
  have HKEEP := hidden hkeep
  have HEQ : Hid (∀ x a b c, stpG (plainE (N : Int) f d p r dr o sl md fr zs) (N : Int) f x a b c = stpG 0 N (F : Int) x a b c) := fun x a b c => by rw [hE, hF]
  have j3 : decide (f < (fs.length : Int)) = false := decide_eq_false (by omega)
  have j2 : ((bits.length : Int) != (N : Int)) = false := by simp [hb1]
  have j4 : ((lies.length : Int) == 0) = false := by simp; intro h; subst h; exact absurd hL0 (by decide)
  have j4' : ((lies.length : Int) == 0) = false := j4
  have j5 : decide ((400 : Int) < (lies.length : Int)) = false := decide_eq_false (by omega)
  have hlp : (0 : Int) < (lies.length : Int) := by omega
  have HW := hidden hwd
  have HB1 := hidden hb1
  obtain ⟨i0, hi, hz0, hz1, hz2⟩ := info_of infoStr
  obtain ⟨b1, o1, rfl, hl1, e1⟩ := kStr_row HV1.out (by omega)
  obtain ⟨b3, o3, rfl, hl3, e3⟩ := kStr_row HV3.out hL0
  clear hT hV1 hV2 hV3 hy1 hy3 hu hfin hkeep hfac hE hF hfl
  go_enter Try.func4, Try.ntmps4
  go_wp2_with fail
  refine HP.out.mono ?_
  rintro e w2 ⟨rfl, hb⟩
  have HK2 := hidden (blk_later HK.out hb)
  have HT2 := hidden (HT.out.below hb)
  have HV12 := hidden (HV1.out.later hb)
  have HV22 := hidden (HV2.out.later hb)
  have E1 : Hid (∀ V, Below w2.heap.size w2 V → ∀ j, j < N → V.cell? ⟨b1, o1 + j, none⟩ = some (.string (bits.getD j noB))) := fun V hv j hj => ((bthen hb hv).cell (p := ⟨b1, o1 + j, none⟩) hl1).trans (e1 j (by omega))
  have E3 : Hid (∀ V, Below w2.heap.size w2 V → ∀ j, j < lies.length → V.cell? ⟨b3, o3 + j, none⟩ = some (.string (lies.getD j noB))) := fun V hv j hj => ((bthen hb hv).cell (p := ⟨b3, o3 + j, none⟩) hl3).trans (e3 j hj)
  have HB02 := hidden (bthen HB0.out hb)
  have hl1' : b1 < w2.heap.size := Nat.lt_of_lt_of_le hl1 hb.size
  have hl3' : b3 < w2.heap.size := Nat.lt_of_lt_of_le hl3 hb.size
  have hww : w.heap.size < w2.heap.size := by have := hb.size; simp at this; omega
  have c0 := fun i => blk_cell HK2.out i
  have l0 := blk_lt HK2.out
  clear hb HP e1 e3 HT HK HV1 HV2 HV3 hl1 hl3
  rw [hb1] at HV12 j2 ⊢
  clear hb1
  go_wp2
  clear j2 j3 j4 j4' j5 c0 l0
  go_loopw [9, 10] (fun a i wr => ∃ k : Nat, k ≤ N ∧ i = .int .i64 k ∧ wr.ownsRow w2.heap.size 9 1 a k (kStr.flat ((List.range k).map fun i => dgB wd (ofG (bits.getD i noB)))) ∧ (∀ j, j < k → (bits.getD j noB).size = wd) ∧ (0 < k → wd ≤ 30) ∧ Below w2.heap.size w2 wr) (fun _ i _ => N - (intV i).toNat)
  case atStart => exact ⟨0, Nat.zero_le _, rfl, World.ownsRow_nil _ _ _ _, fun j hj => absurd hj (Nat.not_lt_zero _), fun h => absurd h (by decide), Below.refl _ _⟩
  case round =>
    obtain ⟨k, hk, rfl, hown, hsz, h30, hB⟩ := hrel
    have HBr := hidden hB
    have HO := hidden hown
    have HSZ := hidden hsz
    have H30 := hidden h30
    have HKr := hidden (blk_later HK2.out hB)
    have c0 := fun i => blk_cell HKr.out i
    have l0 := blk_lt HKr.out
    have hBs := hB.size
    by_cases hlt : k < N
    · have k2 : (k : Int) < (N : Int) := by omega
      have k1 : (0 : Int) ≤ (k : Int) := by omega
      have n01 : (0 : Int) < (N : Int) := by omega
      have ek := E1.out wr hB k hlt
      have e0 := E1.out wr hB 0 hN0
      rw [Nat.add_zero] at e0
      have lb1 : b1 < wr.heap.size := by omega
      have z0 := HW.out
      have HSK := hidden (map_s (fun i => dgB wd (ofG (bits.getD i noB))) k)
      clear hB hown hsz h30
      by_cases hs : (bits.getD k noB).size = wd
      · by_cases h3 : wd ≤ 30
        · have CO : ∀ V, Calls Try.prog 9 #[.string (bits.getD k noB)] V fun e w' => e = .returned (.string (dgB wd (ofG (bits.getD k noB)))) ∧ Below V.heap.size V w' := fun V => by
            have z := Of_any (bits.getD k noB) (by omega) V
            rw [hs] at z
            exact z
          have CO := hidden CO
          have d1 : decide ((30 : Int) < (wd : Int)) = false := decide_eq_false (by omega)
          have HSJ : Hid (∀ j, j < k + 1 → (bits.getD j noB).size = wd) := fun j hj => by
            by_cases e : j = k
            · subst e; exact hs
            · exact HSZ.out j (by omega)
          have zd := dgB_size wd (ofG (bits.getD k noB))
          generalize dgB wd (ofG (bits.getD k noB)) = on at *
          generalize bits.getD k noB = tk at *
          generalize bits.getD 0 noB = t0 at *
          go_wp2
          refine wp_region_quiet_below (by kernel_rfl) (by kernel_rfl) ?_
          repeat (go_big_quiet_step (fail))
          refine wpQuiet_nil ?_
          intro w6 hw6
          have HB6 := hidden (bthen HBr.out (rg_below hw6))
          have HO6 := hidden (own_below HO.out (rg_below hw6))
          have HBZ := hidden (bthen HB02.out HB6.out)
          have ek6 := ((rg_below hw6).cell (p := ⟨b1, o1 + k, none⟩) lb1).trans ek
          have lb6 : b1 < w6.heap.size := Nat.lt_of_lt_of_le lb1 (rg_below hw6).size
          clear hw6 c0 l0 ek e0
          go_wp2_with fail
          refine (CO.out _).mono ?_
          rintro e w7 ⟨rfl, hb⟩
          have HB7 := hidden (bthen HB6.out hb)
          have HO7 := hidden (own_below HO6.out hb)
          clear hb
          go_wp2_with (at_builtin; refine kStr.wpList_append _ rfl (.tmp 68) (.tmp 74) 25 rfl w2.heap.size 9 i0 (.string noB) 16 Try.underlying25 hi hz0 hz1 hz2 rfl u9 k _ rfl (HO7.out.alloc _) (.slice (some ⟨w7.heap.size, 0, none⟩) 1 1) [on] rfl (Kind.Lies.of_block (K := kStr) (es := [on]) (heap_alloc_new w7 _) (by simp [maxLen])) (by simp only [maxLen, List.length_singleton]; omega) (by simp only [List.length_singleton]; omega) (by have := HB7.out.size; simp; omega) ?_; intro v3 w3 hown3 hgrow3 _)
          have hB3 : Below w2.heap.size w2 w3 := (HB7.out.alloc HB7.out.size _).grown hgrow3 (by have := HB7.out.size; simp; omega) (own_from HO7.out)
          have hrow : w3.ownsRow w2.heap.size 9 1 v3 (k + 1) (kStr.flat ((List.range (k + 1)).map fun i => dgB wd (ofG (bits.getD i noB)))) := by
            rw [HSK.out, Kind.flat_append]
            exact hown3
          go_roundw
          case rel => exact ⟨k + 1, by omega, by go_num, hrow, HSJ.out, fun _ => h3, hB3⟩
          case measure => simp [intV]; omega
        · have d1 : decide ((30 : Int) < (wd : Int)) = true := decide_eq_true (by omega)
          generalize bits.getD k noB = tk at *
          generalize bits.getD 0 noB = t0 at *
          go_wp2
          refine wp_region_quiet_below (by kernel_rfl) (by kernel_rfl) ?_
          repeat (go_big_quiet_step (fail))
          refine wpQuiet_nil ?_
          intro w6 hw6
          have HB6 := hidden (bthen HBr.out (rg_below hw6))
          have HO6 := hidden (own_below HO.out (rg_below hw6))
          have HBZ := hidden (bthen HB02.out HB6.out)
          clear hw6 c0 l0 ek e0
          go_wp2_with fail
          refine (KN.out _).mono ?_
          rintro e w9 ⟨rfl, hb⟩
          have HB9 := hidden (bthen HBZ.out hb)
          clear hb
          go_wp2
          go_ret
          exact ⟨rfl, HB9.out⟩
      · have d0 : ((((bits.getD k noB).size : Nat) : Int) != (wd : Int)) = true := bne_iff_ne.2 (fun h => hs (by omega))
        generalize bits.getD k noB = tk at *
        generalize bits.getD 0 noB = t0 at *
        go_wp2
        refine wp_region_quiet_below (by kernel_rfl) (by kernel_rfl) ?_
        repeat (go_big_quiet_step (fail))
        refine wpQuiet_nil ?_
        intro w6 hw6
        have HB6 := hidden (bthen HBr.out (rg_below hw6))
        have HO6 := hidden (own_below HO.out (rg_below hw6))
        have HBZ := hidden (bthen HB02.out HB6.out)
        clear hw6 c0 l0 ek e0
        go_wp2_with fail
        refine (KN.out _).mono ?_
        rintro e w9 ⟨rfl, hb⟩
        have HB9 := hidden (bthen HBZ.out hb)
        clear hb
        go_wp2
        go_ret
        exact ⟨rfl, HB9.out⟩
    · have kN : ¬ (k : Int) < (N : Int) := by omega
      have hkN : k = N := by omega
      have h30' := h30 (by omega)
      have HALL : Hid (∀ i, i < N → (bits.getD i noB).size = wd) := fun i hi => hsz i (by omega)
      have hown0 : wr.ownsRow w2.heap.size 9 1 u9 N (kStr.flat (nowV (faI fs) lies N wd F bits 0)) := by
        rw [hkN] at hown
        exact hown
      have HO0 := hidden hown0
      clear hown hsz h30 hown0 HO HSZ H30
      go_wp2
      clear kN c0 l0 HKr
      go_loopw [9, 11] (fun a i wr => ∃ x : Nat, x ≤ R ∧ i = .int .i64 x ∧ wr.ownsRow w2.heap.size 9 1 a N (kStr.flat (nowV (faI fs) lies N wd F bits x)) ∧ Below w2.heap.size w2 wr) (fun _ i _ => R - (intV i).toNat)
      case atStart => exact ⟨0, Nat.zero_le _, rfl, HO0.out, HBr.out⟩
      case round =>
        obtain ⟨x, hx, rfl, hown, hB⟩ := hrel
        have HBx := hidden hB
        have HOx := hidden hown
        have HKr := hidden (blk_later HK2.out hB)
        have c0 := fun i => blk_cell HKr.out i
        have l0 := blk_lt HKr.out
        clear hown hB HO0
        obtain ⟨an, cn, rfl⟩ := own_slice HOx.out
        go_wp2_with fail
        refine (CR.out _ (HT2.out.below HBx.out)).mono ?_
        rintro e wX ⟨rfl, hb⟩
        have HBX := hidden (bthen HBx.out hb)
        have hOX := own_below HOx.out hb
        have hNL := nowV_len (faI fs) lies N wd F bits x
        have hLX : kStr.Lies wX.heap.size wX (.slice an N cn) (nowV (faI fs) lies N wd F bits x) := Kind.Lies.of_own (K := kStr) (base := w2.heap.size) (e := 9) (by rw [hNL]; exact hOX)
        have HKX := hidden (blk_later HK2.out HBX.out)
        have hXs := HBX.out.size
        clear hb hOX c0 l0 HKr HOx HBx
        have c0 := fun i => blk_cell HKX.out i
        have l0 := blk_lt HKX.out
        by_cases hlx : x < R
        · have x2 : (x : Int) < (R : Int) := by omega
          have HSZX := hidden (fun i hi => nowV_size (faI fs) lies N wd F bits x i hi)
          have HNX : Hid (nowV (faI fs) lies N wd F bits (x + 1) = (List.range N).map (nextV (faI fs) lies N wd F x (nowV (faI fs) lies N wd F bits x))) := rfl
          obtain ⟨bn, on, rfl, hbn, en⟩ := kStr_row hLX (by omega)
          have EN : Hid (∀ V, Below wX.heap.size wX V → ∀ j, j < N → V.cell? ⟨bn, on + j, none⟩ = some (.string ((nowV (faI fs) lies N wd F bits x).getD j noB))) := fun V hv j hj => (hv.cell (p := ⟨bn, on + j, none⟩) hbn).trans (en j (by omega))
          generalize nowV (faI fs) lies N wd F bits x = NX at *
          have HMS := hidden (fun t => mem_sizes fs lies HY3.out hL0 N wd x t h30' NX)
          clear en hLX hNL
          go_wp2
          go_loopw [12, 13] (fun a i wr => ∃ t : Nat, t ≤ N ∧ i = .int .i64 t ∧ wr.ownsRow wX.heap.size 9 1 a t (kStr.flat ((List.range t).map (nextV (faI fs) lies N wd F x NX))) ∧ Below wX.heap.size wX wr) (fun _ i _ => N - (intV i).toNat)
          case atStart => exact ⟨0, Nat.zero_le _, rfl, World.ownsRow_nil _ _ _ _, Below.refl _ _⟩
          case round =>
            obtain ⟨t, ht, rfl, hownN, hB⟩ := hrel
            have HBY := hidden hB
            have HON2 := hidden hownN
            have HKY := hidden (blk_later HKX.out hB)
            have hYs := hB.size
            clear c0 l0
            have c0 := fun i => blk_cell HKY.out i
            have l0 := blk_lt HKY.out
            clear hownN hB
            by_cases hlt : t < N
            · have t2 : (t : Int) < (N : Int) := by omega
              have t1 : (0 : Int) ≤ (t : Int) := by omega
              go_wp2
              obtain ⟨wY, rfl⟩ : ∃ wY, wY = wr := ⟨_, rfl⟩
              go_loopw [14, 15] (fun a i wr => ∃ k : Nat, k ≤ N ∧ i = .int .i64 k ∧ wr.ownsRow wY.heap.size 9 1 a k (kStr.flat ((List.range k).map (sayV (faI fs) lies N wd x t NX))) ∧ Below wY.heap.size wY wr) (fun _ i _ => N - (intV i).toNat)
              case atStart => exact ⟨0, Nat.zero_le _, rfl, World.ownsRow_nil _ _ _ _, Below.refl _ _⟩
              case round =>
                obtain ⟨k, hk, rfl, hownV, hB⟩ := hrel
                have HBV := hidden hB
                have HOV := hidden hownV
                have HKV := hidden (blk_later HKY.out hB)
                have hVs := hB.size
                have HBXV := hidden (bthen HBY.out hB)
                have HB2V := hidden (bthen HBX.out HBXV.out)
                clear c0 l0
                have c0 := fun i => blk_cell HKV.out i
                have l0 := blk_lt HKV.out
                clear hownV hB
                by_cases hlk : k < N
                · have k2 : (k : Int) < (N : Int) := by omega
                  have k1 : (0 : Int) ≤ (k : Int) := by omega
                  have CI := hidden (rIn_any (k : Int) a2 c2 fs h2 wr (HV22.out.later HB2V.out))
                  have HXI : Hid (decide ((k : Int) ∈ fs) = faI fs k) := rfl
                  rw [HXI.out] at CI
                  have HSV := hidden (map_s (sayV (faI fs) lies N wd x t NX) k)
                  clear HXI
                  by_cases hf : faI fs k = true
                  · rw [hf] at CI
                    have HSK : Hid (sayV (faI fs) lies N wd x t NX k = lieV lies N x k t) := if_pos hf
                    have hm : ((x * N + k) * N + t) % lies.length < lies.length := Nat.mod_lt _ hL0
                    have el := E3.out wr HB2V.out (((x * N + k) * N + t) % lies.length) hm
                    have HLI : Hid (lieV lies N x k t = lies.getD (((x * N + k) * N + t) % lies.length) noB) := rfl
                    rw [← HLI.out] at el
                    obtain ⟨q1, q2⟩ := lie_bd (t := t) (L := lies.length) (by omega : x ≤ 15) hlk hN13
                    have g1 : (x : Int) * (N : Int) = ((x * N : Nat) : Int) := (Int.natCast_mul _ _).symm
                    have g2 : (((x * N : Nat) : Int) + (k : Int)) * (N : Int) = (((x * N + k) * N : Nat) : Int) := by rw [← Int.natCast_add, ← Int.natCast_mul]
                    have g3 : ((((x * N + k) * N : Nat) : Int) + (t : Int)).tmod (lies.length : Int) = ((((x * N + k) * N + t) % lies.length : Nat) : Int) := by rw [← Int.natCast_add, Int.tmod_eq_emod_of_nonneg (by omega)]; exact (Int.natCast_emod _ _).symm
                    have i1 : (0 : Int) ≤ ((((x * N + k) * N + t) % lies.length : Nat) : Int) := Int.natCast_nonneg _
                    have i2 : ((((x * N + k) * N + t) % lies.length : Nat) : Int) < (lies.length : Int) := Int.ofNat_lt.2 hm
                    rw [HSK.out] at HSV
                    have lb3 : b3 < wr.heap.size := by omega
                    generalize lieV lies N x k t = z at *
                    generalize ((x * N + k) * N + t) % lies.length = p5 at *
                    generalize (x * N + k) * N = p2 at *
                    generalize x * N = p1 at *
                    clear hf hm HLI HSK
                    go_wp2_with fail
                    refine CI.out.mono ?_
                    rintro e w4 ⟨rfl, rfl⟩
                    go_wp2_with (at_builtin; refine kStr.wpList_append _ rfl (.tmp 97) (.tmp 115) 25 rfl wY.heap.size 9 i0 (.string noB) 16 Try.underlying25 hi hz0 hz1 hz2 rfl u14 k _ rfl (HOV.out.alloc _) (.slice (some ⟨wr.heap.size, 0, none⟩) 1 1) [z] rfl (Kind.Lies.of_block (K := kStr) (es := [z]) (heap_alloc_new wr _) (by simp [maxLen])) (by simp only [maxLen, List.length_singleton]; omega) (by simp only [List.length_singleton]; omega) (by have := HBV.out.size; simp; omega) ?_; intro v3 w3 hown3 hgrow3 _)
                    have hB3 : Below wY.heap.size wY w3 := (HBV.out.alloc HBV.out.size _).grown hgrow3 (by have := HBV.out.size; simp; omega) (own_from HOV.out)
                    have hrow : w3.ownsRow wY.heap.size 9 1 v3 (k + 1) (kStr.flat ((List.range (k + 1)).map (sayV (faI fs) lies N wd x t NX))) := by
                      rw [HSV.out, Kind.flat_append]
                      exact hown3
                    clear g1 g2 g3
                    go_roundw
                    case rel => exact ⟨k + 1, by omega, by go_num, hrow, hB3⟩
                    case measure => simp [intV]; omega
                  · have hf' : faI fs k = false := by simpa using hf
                    rw [hf'] at CI
                    have HSK : Hid (sayV (faI fs) lies N wd x t NX k = dgB wd (valG (NX.getD k noB))) := if_neg hf
                    have ek := EN.out wr HBXV.out k hlk
                    have CV : ∀ V, Calls Try.prog 12 #[.string (NX.getD k noB)] V fun e w' => e = .returned (.string (dgB wd (valG (NX.getD k noB)))) ∧ Below V.heap.size V w' := fun V => by
                      have hz := HSZX.out k hlk
                      have z := Values_any (NX.getD k noB) (by omega) V
                      rw [hz] at z
                      exact z
                    have CV := hidden CV
                    rw [HSK.out] at HSV
                    have lbn : bn < wr.heap.size := by omega
                    generalize dgB wd (valG (NX.getD k noB)) = z at *
                    generalize NX.getD k noB = nk at *
                    clear hf hf' HSK
                    go_wp2_with fail
                    refine CI.out.mono ?_
                    rintro e w4 ⟨rfl, rfl⟩
                    go_wp2_with fail
                    refine (CV.out _).mono ?_
                    rintro e w5 ⟨rfl, hb⟩
                    have HB5 := hidden (bthen HBV.out hb)
                    have HO5 := hidden (own_below HOV.out hb)
                    clear hb
                    go_wp2_with (at_builtin; refine kStr.wpList_append _ rfl (.tmp 117) (.tmp 123) 25 rfl wY.heap.size 9 i0 (.string noB) 16 Try.underlying25 hi hz0 hz1 hz2 rfl u14 k _ rfl (HO5.out.alloc _) (.slice (some ⟨w5.heap.size, 0, none⟩) 1 1) [z] rfl (Kind.Lies.of_block (K := kStr) (es := [z]) (heap_alloc_new w5 _) (by simp [maxLen])) (by simp only [maxLen, List.length_singleton]; omega) (by simp only [List.length_singleton]; omega) (by have := HB5.out.size; simp; omega) ?_; intro v3 w3 hown3 hgrow3 _)
                    have hB3 : Below wY.heap.size wY w3 := (HB5.out.alloc HB5.out.size _).grown hgrow3 (by have := HB5.out.size; simp; omega) (own_from HO5.out)
                    have hrow : w3.ownsRow wY.heap.size 9 1 v3 (k + 1) (kStr.flat ((List.range (k + 1)).map (sayV (faI fs) lies N wd x t NX))) := by
                      rw [HSV.out, Kind.flat_append]
                      exact hown3
                    go_roundw
                    case rel => exact ⟨k + 1, by omega, by go_num, hrow, hB3⟩
                    case measure => simp [intV]; omega
                · have kN2 : ¬ (k : Int) < (N : Int) := by omega
                  have hkN2 : k = N := by omega
                  have HVT : Hid ((List.range N).map (sayV (faI fs) lies N wd x t NX) = votesV (faI fs) lies N wd x t NX) := rfl
                  have hownV : wr.ownsRow wY.heap.size 9 1 u14 N (kStr.flat (votesV (faI fs) lies N wd x t NX)) := by
                    have h := HOV.out
                    rw [hkN2, HVT.out] at h
                    exact h
                  have hvl := votesV_len (faI fs) lies N wd x t NX
                  have HNE : Hid (nextV (faI fs) lies N wd F x NX t = dgB wd (stpG 0 N F x (NX.getD t noB) ((votesV (faI fs) lies N wd x t NX).getD (x / 3) noB) (votesV (faI fs) lies N wd x t NX))) := rfl
                  have HST := hidden (map_s (nextV (faI fs) lies N wd F x NX) t)
                  have hms := HMS.out t
                  obtain ⟨vA, vC, rfl⟩ := own_slice hownV
                  have hliV : kStr.Lies wr.heap.size wr (.slice vA N vC) (votesV (faI fs) lies N wd x t NX) := Kind.Lies.of_own (K := kStr) (base := wY.heap.size) (e := 9) (by rw [hvl]; exact hownV)
                  have hq := HQN.out x hlx
                  obtain ⟨vb, vo, rfl, hvb, ev⟩ := kStr_row hliV (by omega)
                  have ev := ev (x / 3) (by omega)
                  have hvY : wY.heap.size ≤ vb := own_from hownV vb rfl
                  have hownN := own_below HON2.out HBV.out
                  have hne : u12.ownBlock ≠ some vb := fun e => by have := (HON2.out.lt vb e).2; omega
                  have hRS : RSv wX.heap.size wX vb (vo + x / 3) (.string ((votesV (faI fs) lies N wd x t NX).getD (x / 3) noB)) wr := ⟨⟨HBXV.out, HBXV.out.size⟩, hvb, ev⟩
                  have hwx : (Lit.int .i64 (x : Int)).wf = true := wfN x (by omega)
                  have hqt : (x : Int).tdiv 3 = ((x / 3 : Nat) : Int) := by rw [Int.tdiv_eq_ediv_of_nonneg (by omega)]; omega
                  have etn := EN.out wX (Below.refl _ _) t hlt
                  have hszt := HSZX.out t hlt
                  have hkvs : ((votesV (faI fs) lies N wd x t NX).getD (x / 3) noB).size ≤ 9223372036854775807 := by
                    rw [List.getD_eq_getElem?_getD, List.getElem?_eq_getElem (by omega), Option.getD_some]
                    exact hms _ (List.getElem_mem _)
                  have CS : ∀ V (hC : Chn wr.heap.size wr V), Calls Try.prog 6 #[.agg #[.int .i64 (N : Int), .int .i64 f, .int .i64 d, .int .i64 p, .int .i64 r, .int .i64 dr, .int .i64 o, .int .i64 sl, .int .i64 md, .int .i64 fr, .slice ad zs.length cap], .int .i64 (x : Int), .string (NX.getD t noB), .string ((votesV (faI fs) lies N wd x t NX).getD (x / 3) noB), .slice (some ⟨vb, vo, none⟩) N vC] V fun e w' => e = .returned (.string (nextV (faI fs) lies N wd F x NX t)) ∧ Below V.heap.size V w' := fun V hC => by
                    have z := VStep_any (N : Int) f d p r dr o sl md fr ad cap zs (x : Int) (NX.getD t noB) ((votesV (faI fs) lies N wd x t NX).getD (x / 3) noB) (some ⟨vb, vo, none⟩) vC (votesV (faI fs) lies N wd x t NX) V hl (HT2.out.below (bthen HB2V.out hC.out)) hwx (by omega) hkvs (by omega) (by rw [hvl]; exact hliV.later hC.out) hms
                    rw [hvl, hszt, HEQ.out] at z
                    rw [HNE.out]
                    exact z
                  have CS := hidden CS
                  clear hms hkvs hliV hownV hvl HNE HVT ev
                  generalize hst : nextV (faI fs) lies N wd F x NX t = st at *
                  have HSTE := hidden hst
                  clear hst
                  generalize (votesV (faI fs) lies N wd x t NX).getD (x / 3) noB = kv at *
                  generalize NX.getD t noB = tn at *
                  generalize hqq : x / 3 = q at *
                  have hqz : IntKind.i64.wrap (q : Int) = (q : Int) := IntWalk.i64_in _ (by omega)
                  have HQQ := hidden hqq
                  clear hqq hszt
                  have hS : ∀ V, RSv wX.heap.size wX vb (vo + q) (.string kv) V → V.cell? ⟨w.heap.size, 0, none⟩ = some (.int .i64 (N : Int)) ∧ V.cell? ⟨w.heap.size, 1, none⟩ = some (.int .i64 f) ∧ V.cell? ⟨w.heap.size, 2, none⟩ = some (.int .i64 d) ∧ V.cell? ⟨w.heap.size, 3, none⟩ = some (.int .i64 p) ∧ V.cell? ⟨w.heap.size, 4, none⟩ = some (.int .i64 r) ∧ V.cell? ⟨w.heap.size, 5, none⟩ = some (.int .i64 dr) ∧ V.cell? ⟨w.heap.size, 6, none⟩ = some (.int .i64 o) ∧ V.cell? ⟨w.heap.size, 7, none⟩ = some (.int .i64 sl) ∧ V.cell? ⟨w.heap.size, 8, none⟩ = some (.int .i64 md) ∧ V.cell? ⟨w.heap.size, 9, none⟩ = some (.int .i64 fr) ∧ V.cell? ⟨w.heap.size, 10, none⟩ = some (.slice ad zs.length cap) ∧ V.cell? ⟨bn, on + t, none⟩ = some (.string tn) ∧ V.cell? ⟨vb, vo + q, none⟩ = some (.string kv) := by
                    intro V h
                    have l1 := blk_cell (blk_later HKX.out h.chn.out)
                    exact ⟨l1 0, l1 1, l1 2, l1 3, l1 4, l1 5, l1 6, l1 7, l1 8, l1 9, l1 10, (h.chn.1.cell (p := ⟨bn, on + t, none⟩) hbn).trans etn, h.cell⟩
                  have hC0 : Chn wr.heap.size wr wr := Chn.refl (Nat.le_refl _)
                  have b3 : (0 : Int) ≤ (q : Int) := by omega
                  have b4 : (q : Int) < (N : Int) := by omega
                  have lbn : bn < wr.heap.size := by omega
                  clear c0
                  go_wp2_with fail
                  go_region_held3 (fun V => V.cell? ⟨w.heap.size, 0, none⟩ = some (.int .i64 (N : Int)) ∧ V.cell? ⟨w.heap.size, 1, none⟩ = some (.int .i64 f) ∧ V.cell? ⟨w.heap.size, 2, none⟩ = some (.int .i64 d) ∧ V.cell? ⟨w.heap.size, 3, none⟩ = some (.int .i64 p) ∧ V.cell? ⟨w.heap.size, 4, none⟩ = some (.int .i64 r) ∧ V.cell? ⟨w.heap.size, 5, none⟩ = some (.int .i64 dr) ∧ V.cell? ⟨w.heap.size, 6, none⟩ = some (.int .i64 o) ∧ V.cell? ⟨w.heap.size, 7, none⟩ = some (.int .i64 sl) ∧ V.cell? ⟨w.heap.size, 8, none⟩ = some (.int .i64 md) ∧ V.cell? ⟨w.heap.size, 9, none⟩ = some (.int .i64 fr) ∧ V.cell? ⟨w.heap.size, 10, none⟩ = some (.slice ad zs.length cap) ∧ V.cell? ⟨bn, on + t, none⟩ = some (.string tn) ∧ V.cell? ⟨vb, vo + q, none⟩ = some (.string kv)) (first | exact hS _ (by first | with_reducible assumption | exact RSv.of_chn hRS (by repeat (first | with_reducible assumption | with_reducible refine Chn.drew ?_ | with_reducible refine Chn.alloc ?_ _))))
                    (first
                    | (go_at_call 6; refine (CS.out _ (by repeat (first | with_reducible assumption | with_reducible refine Chn.drew ?_ | with_reducible refine Chn.alloc ?_ _))).mono ?_; rintro e w5 ⟨rfl, hb5⟩; have hC5 := Chn.below (show Chn wr.heap.size wr _ from (by repeat (first | with_reducible assumption | with_reducible refine Chn.drew ?_ | with_reducible refine Chn.alloc ?_ _))) hb5; clear hb5)
                    | (refine kStr.step_append _ rfl (.tmp 125) (.tmp 139) 25 rfl wX.heap.size 9 i0 (.string noB) 16 Try.underlying25 hi hz0 hz1 hz2 rfl u12 t _ rfl ((own_below hownN hC5.out).alloc _) (.slice (some ⟨w5.heap.size, 0, none⟩) 1 1) [st] rfl (Kind.Lies.of_block (K := kStr) (es := [st]) (heap_alloc_new w5 _) (by simp only [maxLen, List.length_singleton]; omega)) (by simp only [maxLen, List.length_singleton]; omega) (by simp only [List.length_singleton]; omega) (by have := hC5.le; have := HBXV.out.size; simp; omega) ?_; intro v7 w7 hown7 hgrow7 hbl7; have hR7 := RSv.grown (RSv.of_chn hRS (hC5.alloc _)) hgrow7 (own_from hownN) hne))
                  have hrow : w7.ownsRow wX.heap.size 9 1 v7 (t + 1) (kStr.flat ((List.range (t + 1)).map (nextV (faI fs) lies N wd F x NX))) := by
                    rw [HST.out, Kind.flat_append]
                    exact hown7
                  go_wp2
                  go_roundw
                  case rel => exact ⟨t + 1, by omega, by go_num, hrow, hR7.chn.1⟩
                  case measure => simp [intV]; omega
            · have tN : ¬ (t : Int) < (N : Int) := by omega
              have htN : t = N := by omega
              have hown9 : wr.ownsRow w2.heap.size 9 1 u12 N (kStr.flat (nowV (faI fs) lies N wd F bits (x + 1))) := by
                have h := HON2.out
                rw [htN, ← HNX.out] at h
                exact own_low h hXs
              have HO9 := hidden hown9
              clear hown9
              go_wp2
              go_roundw
              case rel => exact ⟨x + 1, by omega, by go_num, HO9.out, bthen HBX.out HBY.out⟩
              case measure => simp [intV]; omega
        · have hxR : x = R := by omega
          have x2 : ¬ (x : Int) < (R : Int) := by omega
          have C1 := one_any N f d p r dr o sl md fr ad cap zs hN13 (some ⟨b1, o1, none⟩) c1 bits a2 c2 fs an cn (nowV (faI fs) lies N wd F bits x) wd u wX h30' HB1.out HALL.out h2 hNL (by rw [HB1.out]; exact HV12.out.later HBX.out) (HV22.out.later HBX.out) (by rw [hNL]; exact hLX) HU.out HON.out (fun i hi hf => by rw [hxR, HRR.out]; exact HFIN.out i hi hf) HKEEP.out
          rw [HB1.out, hNL] at C1
          have C1 := hidden C1
          clear hLX hNL
          go_wp2_with fail
          refine C1.out.mono ?_
          rintro e w5 ⟨rfl, hb⟩
          have HBZ := hidden (bthen HB02.out (bthen HBX.out hb))
          clear hb
          go_wp2_with fail
          refine (KN.out _).mono ?_
          rintro e w9 ⟨rfl, hb⟩
          have HB9 := hidden (bthen HBZ.out hb)
          clear hb
          go_wp2
          go_ret
          exact ⟨rfl, HB9.out⟩
set_option maxHeartbeats 4000000 in
theorem walk (n f d p r dr o sl md fr : Int) (ad : Option Addr) (cap : Nat) (zs : List Int) (a1 : Option Addr) (c1 : Nat) (bits : List ByteArray) (a2 : Option Addr) (c2 : Nat) (fs : List Int) (a3 : Option Addr) (c3 : Nat) (lies : List ByteArray) (w : World) (hl : zs.length ≤ 9223372036854775807) (hT : Tab w ad zs)
    (h1 : bits.length ≤ 9223372036854775807) (hV1 : kStr.Lies w.heap.size w (.slice a1 bits.length c1) bits) (hy1 : ∀ t ∈ bits, t.size ≤ 9223372036854775807) (h2 : fs.length ≤ 9223372036854775807) (hV2 : kInt.Lies w.heap.size w (.slice a2 fs.length c2) fs) (h3 : lies.length ≤ 9223372036854775807) (hV3 : kStr.Lies w.heap.size w (.slice a3 lies.length c3) lies) (hy3 : ∀ t ∈ lies, t.size ≤ 9223372036854775807) :
    Calls Try.prog 4 #[.agg #[.int .i64 n, .int .i64 f, .int .i64 d, .int .i64 p, .int .i64 r, .int .i64 dr, .int .i64 o, .int .i64 sl, .int .i64 md, .int .i64 fr, .slice ad zs.length cap], .slice a1 bits.length c1, .slice a2 fs.length c2, .slice a3 lies.length c3] w fun e w' => e = .returned (.bool true) ∧ Below w.heap.size w w' := by
  have KN := hidden (fun V => known16_any V)
  have HB0 := hidden (ballc w (.cells #[.int .i64 n, .int .i64 f, .int .i64 d, .int .i64 p, .int .i64 r, .int .i64 dr, .int .i64 o, .int .i64 sl, .int .i64 md, .int .i64 fr, .slice ad zs.length cap] 24))
  have HP := hidden (refPlain_any n f d p r dr o sl md fr ad cap zs (w.alloc (.cells #[.int .i64 n, .int .i64 f, .int .i64 d, .int .i64 p, .int .i64 r, .int .i64 dr, .int .i64 o, .int .i64 sl, .int .i64 md, .int .i64 fr, .slice ad zs.length cap] 24)) hl (hT.below (ballc _ _)))
  by_cases hE : plainE n f d p r dr o sl md fr zs = 0
  · obtain ⟨n1, n2, f1, f2, fn, _⟩ := plainE_ok hE
    obtain ⟨N, rfl⟩ : ∃ N : Nat, n = (N : Int) := ⟨n.toNat, by omega⟩
    by_cases hb : bits.length = N
    · have j2 : ((bits.length : Int) != (N : Int)) = false := bne_eq_false_iff_eq.2 (by omega)
      by_cases hfl : (fs.length : Int) ≤ f
      · have j3 : decide (f < (fs.length : Int)) = false := decide_eq_false (by omega)
        by_cases hL0 : 0 < lies.length
        · have j4 : ((lies.length : Int) == 0) = false := beq_eq_false_iff_ne.2 (by omega)
          by_cases hL4 : lies.length ≤ 400
          · obtain ⟨F, hF⟩ : ∃ F : Nat, f = (F : Int) := ⟨f.toNat, by omega⟩
            exact walk_main N f d p r dr o sl md fr ad cap zs F hF a1 c1 bits a2 c2 fs a3 c3 lies w hl hT hV1 hy1 h2 hV2 hV3 hy3 hE hb (by omega) hL0 hL4
          · have j5 : decide ((400 : Int) < (lies.length : Int)) = true := decide_eq_true (by omega)
            rw [hE] at HP
            clear hE n1 n2 f1 f2 fn hb hfl hL0 hL4
            clear hV1 hV2 hV3 hT hy1 hy3
            go_enter Try.func4, Try.ntmps4
            go_wp2_with fail
            refine HP.out.mono ?_
            rintro e w2 ⟨rfl, hb⟩
            have HBZ := hidden (bthen HB0.out hb)
            obtain ⟨hbox, hsz⟩ := box_at hb
            clear hb HP
            go_wp2_with fail
            refine (KN.out _).mono ?_
            rintro e w9 ⟨rfl, hb⟩
            have HB9 := hidden (bthen HBZ.out hb)
            clear hb
            go_wp2
            go_ret
            exact ⟨rfl, HB9.out⟩
        · have j4 : ((lies.length : Int) == 0) = true := beq_iff_eq.2 (by omega)
          rw [hE] at HP
          clear hE n1 n2 f1 f2 fn hb hfl hL0
          clear hV1 hV2 hV3 hT hy1 hy3
          go_enter Try.func4, Try.ntmps4
          go_wp2_with fail
          refine HP.out.mono ?_
          rintro e w2 ⟨rfl, hb⟩
          have HBZ := hidden (bthen HB0.out hb)
          obtain ⟨hbox, hsz⟩ := box_at hb
          clear hb HP
          go_wp2_with fail
          refine (KN.out _).mono ?_
          rintro e w9 ⟨rfl, hb⟩
          have HB9 := hidden (bthen HBZ.out hb)
          clear hb
          go_wp2
          go_ret
          exact ⟨rfl, HB9.out⟩
      · have j3 : decide (f < (fs.length : Int)) = true := decide_eq_true (by omega)
        rw [hE] at HP
        clear hE n1 n2 f1 f2 fn hb hfl
        clear hV1 hV2 hV3 hT hy1 hy3
        go_enter Try.func4, Try.ntmps4
        go_wp2_with fail
        refine HP.out.mono ?_
        rintro e w2 ⟨rfl, hb⟩
        have HBZ := hidden (bthen HB0.out hb)
        obtain ⟨hbox, hsz⟩ := box_at hb
        clear hb HP
        go_wp2_with fail
        refine (KN.out _).mono ?_
        rintro e w9 ⟨rfl, hb⟩
        have HB9 := hidden (bthen HBZ.out hb)
        clear hb
        go_wp2
        go_ret
        exact ⟨rfl, HB9.out⟩
    · have j2 : ((bits.length : Int) != (N : Int)) = true := bne_iff_ne.2 (fun h => hb (by omega))
      rw [hE] at HP
      clear hE n1 n2 f1 f2 fn hb
      clear hV1 hV2 hV3 hT hy1 hy3
      go_enter Try.func4, Try.ntmps4
      go_wp2_with fail
      refine HP.out.mono ?_
      rintro e w2 ⟨rfl, hb⟩
      have HBZ := hidden (bthen HB0.out hb)
      obtain ⟨hbox, hsz⟩ := box_at hb
      clear hb HP
      go_wp2_with fail
      refine (KN.out _).mono ?_
      rintro e w9 ⟨rfl, hb⟩
      have HB9 := hidden (bthen HBZ.out hb)
      clear hb
      go_wp2
      go_ret
      exact ⟨rfl, HB9.out⟩
  · have j1 : (plainE n f d p r dr o sl md fr zs != 0) = true := bne_iff_ne.2 hE
    generalize plainE n f d p r dr o sl md fr zs = E at *
    clear hE
    clear hV1 hV2 hV3 hT hy1 hy3
    go_enter Try.func4, Try.ntmps4
    go_wp2_with fail
    refine HP.out.mono ?_
    rintro e w2 ⟨rfl, hb⟩
    have HBZ := hidden (bthen HB0.out hb)
    obtain ⟨hbox, hsz⟩ := box_at hb
    clear hb HP
    go_wp2_with fail
    refine (KN.out _).mono ?_
    rintro e w9 ⟨rfl, hb⟩
    have HB9 := hidden (bthen HBZ.out hb)
    clear hb
    go_wp2
    go_ret
    exact ⟨rfl, HB9.out⟩
end Go.Proofs.Ytgfdfakffkhekab.LawVecAgrees
