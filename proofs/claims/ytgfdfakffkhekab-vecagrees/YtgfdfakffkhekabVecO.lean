/- The statements' call one tells that all nodes that are not faulty have the same bits, and what all of them began with, where that is so; conditions: rows lie where they say, lengths fit int. -/
import Derived.Test.YtgfdfakffkhekabVecG
import Derived.Test.YtgfdfakffkhekabKinI
namespace Go.Proofs.Ytgfdfakffkhekab
open Go.ChangeShapes Go.WideShapes Go.ChangeAt Go.RowKit
set_option linter.unusedVariables false
attribute [local go_sem] cell_rg

theorem kStr_row {n₀ : Nat} {W : World} {ad : Option Addr} {len cap : Nat} {hs : List ByteArray} (h : kStr.Lies n₀ W (.slice ad len cap) hs) (h0 : 0 < hs.length) : ∃ b off : Nat, ad = some ⟨b, off, none⟩ ∧ b < n₀ ∧ ∀ j, j < hs.length → W.cell? ⟨b, off + j, none⟩ = some (.string (hs.getD j noB)) := by
  obtain ⟨b, off, rfl, hb, _⟩ := kStr_at h 0 h0
  refine ⟨b, off, rfl, hb, fun j hj => ?_⟩
  obtain ⟨b', off', he, _, e⟩ := kStr_at h j hj
  obtain ⟨rfl, rfl⟩ : b = b' ∧ off = off' := by simpa using he
  exact e
/-- The first node that is not faulty, of the first k. -/
def hfst (fa : Nat → Bool) : Nat → Int
  | 0 => -1
  | k + 1 => if hfst fa k < 0 then (if fa k = true then hfst fa k else (k : Int)) else hfst fa k
theorem hfst_or (fa : Nat → Bool) : ∀ k, hfst fa k = -1 ∨ ∃ m : Nat, m < k ∧ fa m = false ∧ hfst fa k = m
  | 0 => .inl rfl
  | k + 1 => by
    unfold hfst
    rcases hfst_or fa k with h | ⟨m, hm, hf, h⟩
    · rw [h, if_pos (by decide)]
      by_cases hf : fa k = true
      · rw [if_pos hf]; exact .inl rfl
      · rw [if_neg hf]; exact .inr ⟨k, by omega, by simpa using hf, rfl⟩
    · rw [h, if_neg (by omega)]
      exact .inr ⟨m, by omega, hf, rfl⟩
theorem hfst_f {fa : Nat → Bool} {k : Nat} (h : fa k = true) : hfst fa (k + 1) = hfst fa k := by
  conv => lhs; unfold hfst
  rw [if_pos h]
  split <;> rfl
theorem hfst_n {fa : Nat → Bool} {k : Nat} (h : fa k = false) (h2 : hfst fa k < 0) : hfst fa (k + 1) = k := by
  conv => lhs; unfold hfst
  rw [if_pos h2, if_neg (by rw [h]; decide)]
theorem hfst_y {fa : Nat → Bool} {k : Nat} (h2 : ¬ hfst fa k < 0) : hfst fa (k + 1) = hfst fa k := by
  conv => lhs; unfold hfst
  rw [if_neg h2]
theorem hfst_ok {fa : Nat → Bool} : ∀ {k m : Nat}, m < k → fa m = false → ¬ hfst fa k < 0
  | k + 1, m, h, hf => by
    by_cases h2 : hfst fa k < 0
    · by_cases e : m = k
      · subst e; rw [hfst_n hf h2]; omega
      · exact absurd h2 (hfst_ok (by omega) hf)
    · rw [hfst_y h2]; exact h2
/-- Whether the first k nodes that are not faulty began with one bit. -/
def sameG (fa q : Nat → Bool) (m : Nat) : Nat → Bool
  | 0 => true
  | k + 1 => sameG fa q m k && (fa k || (q k == q m))
theorem sameG_all {fa q : Nat → Bool} {m : Nat} : ∀ {k : Nat}, sameG fa q m k = true → ∀ i, i < k → fa i = false → q i = q m
  | k + 1, h, i, hi, hf => by
    unfold sameG at h
    simp only [Bool.and_eq_true, Bool.or_eq_true, beq_iff_eq] at h
    by_cases e : i = k
    · subst e
      rcases h.2 with h | h
      · rw [hf] at h; cases h
      · exact h
    · exact sameG_all h.1 i (by omega) hf
/-- The byte at a place is the digit 1. -/
def is1 (s : ByteArray) (p : Nat) : Bool := decide (vdg 1 s p = 1)
theorem is1_byte {s : ByteArray} {p : Nat} (h : p < s.size) : (((s[p]'h).toNat : Int) == 49) = is1 s p := by
  unfold is1 vdg
  rw [dif_pos h]
  generalize ((s[p]'h).toNat : Int) = c
  by_cases e : c = 49
  · subst e; decide
  · have : decide ((if c < 48 ∨ 1 + 48 < c then (-1 : Int) else c - 48) = 1) = false := decide_eq_false (by split <;> omega)
    rw [this]
    simp [e]

set_option maxRecDepth 100000 in
set_option maxHeartbeats 4000000 in
theorem one_any (N : Nat) (f d p r dr o sl md fr : Int) (ad : Option Addr) (cap : Nat) (zs : List Int) (hN : N ≤ 13) (a1 : Option Addr) (c1 : Nat) (bits : List ByteArray) (a2 : Option Addr) (c2 : Nat) (fs : List Int) (a4 : Option Addr) (c4 : Nat) (now : List ByteArray) (wd : Nat) (u : Nat → Nat) (w : World)
    (hwd : wd ≤ 30) (hb1 : bits.length = N) (hbs : ∀ i, i < N → (bits.getD i noB).size = wd) (h2 : fs.length ≤ 9223372036854775807) (hn4 : now.length = N)
    (hV1 : kStr.Lies w.heap.size w (.slice a1 bits.length c1) bits) (hV2 : kInt.Lies w.heap.size w (.slice a2 fs.length c2) fs) (hV4 : kStr.Lies w.heap.size w (.slice a4 now.length c4) now)
    (hu : ∀ p, u p ≤ 1) (hon : ∃ m, m < N ∧ faI fs m = false) (hfin : ∀ i, i < N → faI fs i = false → now.getD i noB = dgB wd u)
    (hkeep : ∀ p, p < wd → ∀ v : Nat, v ≤ 1 → (∀ i, i < N → faI fs i = false → (if vdg 1 (bits.getD i noB) p = 1 then 1 else 0) = v) → u p = v) :
    Calls Try.prog 13 #[.agg #[.int .i64 (N : Int), .int .i64 f, .int .i64 d, .int .i64 p, .int .i64 r, .int .i64 dr, .int .i64 o, .int .i64 sl, .int .i64 md, .int .i64 fr, .slice ad zs.length cap], .slice a1 bits.length c1, .slice a2 fs.length c2, .slice a4 now.length c4] w fun e w' => e = .returned (.bool true) ∧ Below w.heap.size w w' := by
  have HB0 := hidden (ballc w (.cells #[.int .i64 (N : Int), .int .i64 f, .int .i64 d, .int .i64 p, .int .i64 r, .int .i64 dr, .int .i64 o, .int .i64 sl, .int .i64 md, .int .i64 fr, .slice ad zs.length cap] 24))
  have HK := hidden (blk_nw w #[.int .i64 (N : Int), .int .i64 f, .int .i64 d, .int .i64 p, .int .i64 r, .int .i64 dr, .int .i64 o, .int .i64 sl, .int .i64 md, .int .i64 fr, .slice ad zs.length cap] 24)
  have hN0 : 0 < N := by obtain ⟨m, hm, _⟩ := hon; omega
  obtain ⟨b1, o1, rfl, hl1, e1⟩ := kStr_row hV1 (by omega)
  obtain ⟨b4, o4, rfl, hl4, e4⟩ := kStr_row hV4 (by omega)
  have E1 : Hid (∀ V, Below w.heap.size w V → ∀ j, j < N → V.cell? ⟨b1, o1 + j, none⟩ = some (.string (bits.getD j noB))) := fun V hb j hj => (hb.cell (p := ⟨b1, o1 + j, none⟩) hl1).trans (e1 j (by omega))
  have E4 : Hid (∀ V, Below w.heap.size w V → ∀ j, j < N → faI fs j = false → V.cell? ⟨b4, o4 + j, none⟩ = some (.string (dgB wd u))) := fun V hb j hj hf => by rw [← hfin j hj hf]; exact (hb.cell (p := ⟨b4, o4 + j, none⟩) hl4).trans (e4 j (by omega))
  have HV2 := hidden (hV2.later HB0.out)
  have HBS := hidden hbs
  have HON := hidden hon
  have HKP := hidden hkeep
  have HU := hidden hu
  have CV := hidden (fun V => Values_any (dgB wd u) (by rw [dgB_size]; omega) V)
  have hfsz : (dgB wd u).size = wd := dgB_size wd u
  have HBY : Hid (∀ p (h : p < (dgB wd u).size), (((dgB wd u)[p]'h).toNat : Int) = 48 + (u p : Int)) := fun p h => by rw [dgB_byte wd u p (by omega) (by have := hu p; omega) h]; omega
  rw [hb1, hn4]
  generalize dgB (dgB wd u).size (valG (dgB wd u)) = vf at *
  generalize dgB wd u = fin at *
  clear e1 e4 hfin hV1 hV2 hV4 hbs hon hkeep hu hb1 hn4
  go_enter Try.func13, Try.ntmps13
  go_wp2
  have hla1 : b1 < (w.alloc (.cells #[.int .i64 (N : Int), .int .i64 f, .int .i64 d, .int .i64 p, .int .i64 r, .int .i64 dr, .int .i64 o, .int .i64 sl, .int .i64 md, .int .i64 fr, .slice ad zs.length cap] 24)).heap.size := by simp; omega
  have hla4 : b4 < (w.alloc (.cells #[.int .i64 (N : Int), .int .i64 f, .int .i64 d, .int .i64 p, .int .i64 r, .int .i64 dr, .int .i64 o, .int .i64 sl, .int .i64 md, .int .i64 fr, .slice ad zs.length cap] 24)).heap.size := by simp; omega
  generalize w.alloc (.cells #[.int .i64 (N : Int), .int .i64 f, .int .i64 d, .int .i64 p, .int .i64 r, .int .i64 dr, .int .i64 o, .int .i64 sl, .int .i64 md, .int .i64 fr, .slice ad zs.length cap] 24) = wa at *
  go_loopw [9, 10] (fun a i wr => ∃ k : Nat, k ≤ N ∧ i = .int .i64 k ∧ a = .int .i64 (hfst (faI fs) k) ∧ Below wa.heap.size wa wr) (fun _ i _ => N - (intV i).toNat)
  case atStart => exact ⟨0, Nat.zero_le _, rfl, rfl, Below.refl _ _⟩
  case round =>
    obtain ⟨k, hk, rfl, rfl, hB⟩ := hrel
    have HB := hidden hB
    have HKr := hidden (blk_later HK.out hB)
    have c0 := fun i => blk_cell HKr.out i
    have l0 := blk_lt HKr.out
    have hBs := hB.size
    have CI := hidden (rIn_any (k : Int) a2 c2 fs h2 wr (HV2.out.later hB))
    have HX : Hid (decide ((k : Int) ∈ fs) = faI fs k) := rfl
    rw [HX.out] at CI
    have hor := hfst_or (faI fs) k
    clear hB HX
    by_cases hlt : k < N
    · have k2 : (k : Int) < (N : Int) := by omega
      have k1 : (0 : Int) ≤ (k : Int) := by omega
      by_cases hf : faI fs k = true
      · rw [hf] at CI
        have HS := hidden (hfst_f hf)
        clear hf hor
        generalize hfst (faI fs) k = h0 at *
        go_wp2_with fail
        refine CI.out.mono ?_
        rintro e w2 ⟨rfl, rfl⟩
        go_wp2
        go_roundw
        case rel => exact ⟨k + 1, by omega, by go_num, by rw [HS.out], HB.out⟩
        case measure => simp [intV]; omega
      · have hf' : faI fs k = false := by simpa using hf
        rw [hf'] at CI
        have ek := E4.out wr (bthen HB0.out HB.out) k hlt hf'
        have eb := E1.out wr (bthen HB0.out HB.out) 0 hN0
        have zb := HBS.out 0 hN0
        rw [Nat.add_zero] at eb
        have lb1 : b1 < wr.heap.size := by omega
        have lb4 : b4 < wr.heap.size := by omega
        generalize bits.getD 0 noB = t0 at *
        by_cases hneg : hfst (faI fs) k < 0
        · have HS := hidden (hfst_n hf' hneg)
          clear hf hf' hor
          generalize hfst (faI fs) k = h0 at *
          go_wp2_with fail
          refine CI.out.mono ?_
          rintro e w2 ⟨rfl, rfl⟩
          go_wp2
          refine wp_region_quiet_below (by kernel_rfl) (by kernel_rfl) ?_
          repeat (go_big_quiet_step (first
            | (go_at_call 12; exact Calls.regrown_of (CV.out _))))
          refine wpQuiet_nil ?_
          intro w6 hw6
          have HB6 := hidden (bthen HB.out (rg_below hw6))
          clear hw6 c0 l0 ek eb
          go_wp2
          go_roundw
          case rel => exact ⟨k + 1, by omega, by go_num, by rw [HS.out], HB6.out⟩
          case measure => simp [intV]; omega
        · obtain ⟨m, hm, hfm, hm2⟩ : ∃ m : Nat, m < k ∧ faI fs m = false ∧ hfst (faI fs) k = m := hor.resolve_left (fun q => hneg (by rw [q]; decide))
          have HS : Hid (hfst (faI fs) (k + 1) = (m : Int)) := (hfst_y hneg).trans hm2
          have em := E4.out wr (bthen HB0.out HB.out) m (by omega) hfm
          have m1 : (0 : Int) ≤ (m : Int) := by omega
          have m2 : (m : Int) < (N : Int) := by omega
          rw [hm2]
          clear hf hf' hor hneg hfm hm2
          go_wp2_with fail
          refine CI.out.mono ?_
          rintro e w2 ⟨rfl, rfl⟩
          go_wp2
          refine wp_region_quiet_below (by kernel_rfl) (by kernel_rfl) ?_
          repeat (go_big_quiet_step (first
            | (go_at_call 12; exact Calls.regrown_of (CV.out _))))
          refine wpQuiet_nil ?_
          intro w6 hw6
          have HB6 := hidden (bthen HB.out (rg_below hw6))
          clear hw6 c0 l0 ek eb
          go_wp2
          go_roundw
          case rel => exact ⟨k + 1, by omega, by go_num, by rw [HS.out], HB6.out⟩
          case measure => simp [intV]; omega
    · have kN : ¬ (k : Int) < (N : Int) := by omega
      obtain ⟨m, hm, hfm, hm2⟩ : ∃ m : Nat, m < N ∧ faI fs m = false ∧ hfst (faI fs) k = m := by
        obtain ⟨m0, h0, h1⟩ := HON.out
        rcases hor with q | ⟨m, q1, q2, q3⟩
        · exact absurd (by rw [q]; decide) (hfst_ok (show m0 < k by omega) h1)
        · exact ⟨m, by omega, q2, q3⟩
      rw [hm2]
      have HFM := hidden hfm
      clear hor hm2 CI hfm
      go_wp2
      obtain ⟨wX, rfl⟩ : ∃ wX, wX = wr := ⟨_, rfl⟩
      clear c0 l0 kN
      go_loopw [11] (fun i wr => ∃ p : Nat, p ≤ wd ∧ i = .int .i64 p ∧ Below wX.heap.size wX wr) (fun i _ => wd - (intV i).toNat)
      case atStart => exact ⟨0, Nat.zero_le _, rfl, Below.refl _ _⟩
      case round =>
        obtain ⟨p, hp, rfl, hB⟩ := hrel
        have HBp := hidden hB
        have HBP := hidden (bthen HB.out hB)
        have HWP := hidden (bthen HB0.out HBP.out)
        have hps := HBP.out.size
        have eb := E1.out wr HWP.out 0 hN0
        have zb := HBS.out 0 hN0
        rw [Nat.add_zero] at eb
        have lb1 : b1 < wr.heap.size := by omega
        clear hB
        by_cases hlp : p < wd
        · have p1 : (0 : Int) ≤ (p : Int) := by omega
          have p2 : (p : Int) < (wd : Int) := by omega
          have hsz0 : ((bits.getD 0 noB).size : Int) = (wd : Int) := by omega
          generalize bits.getD 0 noB = t0 at *
          go_wp2
          obtain ⟨wY, rfl⟩ : ∃ wY, wY = wr := ⟨_, rfl⟩
          clear eb zb hsz0
          go_loopw [12, 13] (fun a i wr => ∃ j : Nat, j ≤ N ∧ i = .int .i64 j ∧ a = .bool (sameG (faI fs) (fun i => is1 (bits.getD i noB) p) m j) ∧ Below wY.heap.size wY wr) (fun _ i _ => N - (intV i).toNat)
          case atStart => exact ⟨0, Nat.zero_le _, rfl, rfl, Below.refl _ _⟩
          case round =>
            obtain ⟨j, hj, rfl, rfl, hB⟩ := hrel
            have HBj := hidden hB
            have HBJ := hidden (bthen HBP.out hB)
            have HWJ := hidden (bthen HWP.out hB)
            have HKr := hidden (blk_later HK.out HBJ.out)
            have c0 := fun i => blk_cell HKr.out i
            have l0 := blk_lt HKr.out
            have hjs := HBJ.out.size
            have lb1 : b1 < wr.heap.size := by omega
            have lb4 : b4 < wr.heap.size := by omega
            have m1 : (0 : Int) ≤ (m : Int) := by omega
            have m2 : (m : Int) < (N : Int) := by omega
            have em := E1.out wr HWJ.out m hm
            have zm := HBS.out m hm
            have hpm : p < (bits.getD m noB).size := by omega
            clear hB
            by_cases hlj : j < N
            · have j1 : (0 : Int) ≤ (j : Int) := by omega
              have j2 : (j : Int) < (N : Int) := by omega
              have CI := hidden (fun V h => rIn_any (j : Int) a2 c2 fs h2 V h)
              have HX : Hid (decide ((j : Int) ∈ fs) = faI fs j) := rfl
              have HVr := hidden (HV2.out.later HBJ.out)
              rw [HX.out] at CI
              clear HX
              by_cases hs : sameG (faI fs) (fun i => is1 (bits.getD i noB) p) m j = true
              · rw [hs]
                by_cases hf : faI fs j = true
                · rw [hf] at CI
                  have HS : Hid (sameG (faI fs) (fun i => is1 (bits.getD i noB) p) m (j + 1) = true) := by
                    show (sameG (faI fs) (fun i => is1 (bits.getD i noB) p) m j && _) = true
                    rw [hs, hf]; rfl
                  clear hs hf em zm hpm
                  go_wp2
                  refine wp_region_quiet_below (by kernel_rfl) (by kernel_rfl) ?_
                  repeat (go_big_quiet_step (first
                    | (go_at_call 11; exact Calls.regrown_of (Calls.to_below (CI.out _ (HVr.out.later (below_regrown _ _ _)))))))
                  refine wpQuiet_nil ?_
                  intro w6 hw6
                  have HB6 := hidden (bthen HBj.out (rg_below hw6))
                  clear hw6 c0 l0
                  go_wp2
                  go_roundw
                  case rel => exact ⟨j + 1, by omega, by go_num, by rw [HS.out], HB6.out⟩
                  case measure => simp [intV]; omega
                · have hf' : faI fs j = false := by simpa using hf
                  rw [hf'] at CI
                  have ej := E1.out wr HWJ.out j hlj
                  have zj := HBS.out j hlj
                  have hpj : p < (bits.getD j noB).size := by omega
                  have g1 := is1_byte hpj
                  have g2 := is1_byte hpm
                  have HS : Hid (sameG (faI fs) (fun i => is1 (bits.getD i noB) p) m (j + 1) = (is1 (bits.getD j noB) p == is1 (bits.getD m noB) p)) := by
                    show (sameG (faI fs) (fun i => is1 (bits.getD i noB) p) m j && _) = _
                    rw [hs, hf']; rfl
                  clear hs hf hf'
                  generalize is1 (bits.getD j noB) p = qj at *
                  generalize is1 (bits.getD m noB) p = qm at *
                  generalize bits.getD j noB = tj at *
                  generalize bits.getD m noB = tm at *
                  go_wp2
                  refine wp_region_quiet_below (by kernel_rfl) (by kernel_rfl) ?_
                  repeat (go_big_quiet_step (first
                    | (go_at_call 11; exact Calls.regrown_of (Calls.to_below (CI.out _ (HVr.out.later (below_regrown _ _ _)))))))
                  refine wpQuiet_nil ?_
                  intro w6 hw6
                  have HB6 := hidden (bthen HBj.out (rg_below hw6))
                  clear hw6 c0 l0
                  go_wp2
                  go_roundw
                  case rel => exact ⟨j + 1, by omega, by go_num, by rw [HS.out], HB6.out⟩
                  case measure => simp [intV]; omega
              · have hs' : sameG (faI fs) (fun i => is1 (bits.getD i noB) p) m j = false := by simpa using hs
                rw [hs']
                have HS : Hid (sameG (faI fs) (fun i => is1 (bits.getD i noB) p) m (j + 1) = false) := by
                  show (sameG (faI fs) (fun i => is1 (bits.getD i noB) p) m j && _) = false
                  rw [hs']; rfl
                clear hs hs' em zm hpm
                go_wp2
                refine wp_region_quiet_below (by kernel_rfl) (by kernel_rfl) ?_
                repeat (go_big_quiet_step (first
                  | (go_at_call 11; exact Calls.regrown_of (Calls.to_below (CI.out _ (HVr.out.later (below_regrown _ _ _)))))))
                refine wpQuiet_nil ?_
                intro w6 hw6
                have HB6 := hidden (bthen HBj.out (rg_below hw6))
                clear hw6 c0 l0
                go_wp2
                go_roundw
                case rel => exact ⟨j + 1, by omega, by go_num, by rw [HS.out], HB6.out⟩
                case measure => simp [intV]; omega
            · have jN : ¬ (j : Int) < (N : Int) := by omega
              have ef := E4.out wr HWJ.out m hm HFM.out
              have hpf : p < fin.size := by omega
              have hby := HBY.out p hpf
              have g2 := is1_byte hpm
              have hup := HU.out p
              have HQ : Hid (sameG (faI fs) (fun i => is1 (bits.getD i noB) p) m j = true → (u p = 1 ↔ is1 (bits.getD m noB) p = true)) := fun hs => by
                have hall := sameG_all hs
                have hv := HKP.out p hlp (if is1 (bits.getD m noB) p = true then 1 else 0) (by split <;> omega) (fun i hi hf => by
                  have h3 : is1 (bits.getD i noB) p = is1 (bits.getD m noB) p := hall i (by omega) hf
                  rw [← h3]
                  unfold is1
                  by_cases q : vdg 1 (bits.getD i noB) p = 1
                  · rw [if_pos q, if_pos (decide_eq_true q)]
                  · rw [if_neg q, if_neg (by rw [decide_eq_false q]; decide)])
                rw [hv]
                by_cases q : is1 (bits.getD m noB) p = true
                · rw [if_pos q]; exact ⟨fun _ => q, fun _ => rfl⟩
                · rw [if_neg q]; exact ⟨fun h => absurd h (by decide), fun h => absurd h q⟩
              generalize sameG (faI fs) (fun i => is1 (bits.getD i noB) p) m j = S at *
              generalize is1 (bits.getD m noB) p = qm at *
              generalize bits.getD m noB = tm at *
              have hu2 : u p = 0 ∨ u p = 1 := by omega
              rcases hu2 with hu2 | hu2
              · rw [hu2] at hby
                have hb48 : ((fin[p]'hpf).toNat : Int) = 48 := by omega
                clear hby hup
                cases S
                · go_wp2
                  go_roundw
                  case rel => exact ⟨p + 1, by omega, by go_num, bthen HBp.out HBj.out⟩
                  case measure => simp [intV]; omega
                · obtain rfl : qm = false := by
                    cases qm
                    · rfl
                    · exact absurd ((HQ.out rfl).2 rfl) (by omega)
                  go_wp2
                  go_roundw
                  case rel => exact ⟨p + 1, by omega, by go_num, bthen HBp.out HBj.out⟩
                  case measure => simp [intV]; omega
              · rw [hu2] at hby
                have hb48 : ((fin[p]'hpf).toNat : Int) = 49 := by omega
                clear hby hup
                cases S
                · go_wp2
                  go_roundw
                  case rel => exact ⟨p + 1, by omega, by go_num, bthen HBp.out HBj.out⟩
                  case measure => simp [intV]; omega
                · obtain rfl : qm = true := (HQ.out rfl).1 hu2
                  go_wp2
                  go_roundw
                  case rel => exact ⟨p + 1, by omega, by go_num, bthen HBp.out HBj.out⟩
                  case measure => simp [intV]; omega
        · have p2 : ¬ (p : Int) < (wd : Int) := by omega
          have hsz0 : ((bits.getD 0 noB).size : Int) = (wd : Int) := by omega
          generalize bits.getD 0 noB = t0 at *
          go_wp2
          go_ret
          exact ⟨rfl, HWP.out⟩
end Go.Proofs.Ytgfdfakffkhekab
