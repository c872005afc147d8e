/- The document's call Play of layer 14 returns what each node has in the end of an instance, in memory of its own, and makes at most new memory; conditions: rows lie where they say, and lengths fit int. -/
import Derived.Test.YtklcjfbdneallaaKinR
import Derived.Test.YtklcjfbdneallaaKinS
import Derived.Test.YtklcjfbdneallaaKinP
import Derived.Test.YtklcjfbdneallaaConfG
import Derived.Test.YtklcjfbdneallaaKinE
import Derived.Test.YtklcjfbdneallaaRowS
import Derived.Maps.OwnIn
namespace Go.Proofs.Ytklcjfbdneallaa
open Go.ChangeShapes Go.WideShapes Go.ChangeAt Go.RowKit
set_option linter.unusedVariables false

theorem rPlay_no (n f d p r dr o sl md fr : Int) (ad : Option Addr) (cap : Nat) (zs : List Int) (a1 : Option Addr) (l1 c1 : Nat) (a2 : Option Addr) (l2 c2 : Nat) (a3 : Option Addr) (l3 c3 : Nat) (w : World) (hl : zs.length ≤ 9223372036854775807) (hT : Tab w ad zs) (hE : ¬ plainE n f d p r dr o sl md fr zs = 0) :
    Calls Try.prog 35 #[.agg #[.int .i64 n, .int .i64 f, .int .i64 d, .int .i64 p, .int .i64 r, .int .i64 dr, .int .i64 o, .int .i64 sl, .int .i64 md, .int .i64 fr, .slice ad zs.length cap], .slice a1 l1 c1, .slice a2 l2 c2, .slice a3 l3 c3] w fun e w' => e = .returned (.slice none 0 0) ∧ Below w.heap.size w w' := by
  have HQ := hidden (refPlain_any n f d p r dr o sl md fr ad cap zs (w.alloc (.cells #[.int .i64 n, .int .i64 f, .int .i64 d, .int .i64 p, .int .i64 r, .int .i64 dr, .int .i64 o, .int .i64 sl, .int .i64 md, .int .i64 fr, .slice ad zs.length cap] 24)) hl (hT.below (ballc _ _)))
  clear hT
  generalize plainE n f d p r dr o sl md fr zs = E at HQ hE
  go_enter Try.func35, Try.ntmps35
  go_wp2_with fail
  refine HQ.out.mono ?_
  rintro e w2 ⟨rfl, hb⟩
  have HB2 := hidden (bthen (ballc w _) hb)
  have j : (E == 0) = false := by simp [hE]
  clear hb HQ
  go_wp2
  go_ret
  exact ⟨rfl, HB2.out⟩
/-- A row of bits that is made one by one. -/
def bitK (g : Nat → Int × Bool) (k : Nat) : List (Int × Bool) := (List.range k).map g
theorem bitK_s (g : Nat → Int × Bool) (k : Nat) : bitK g (k + 1) = bitK g k ++ [g k] := by
  unfold bitK
  rw [List.range_succ, List.map_append]
  rfl
theorem bitK_len (g : Nat → Int × Bool) (k : Nat) : (bitK g k).length = k := by simp [bitK]
def intK (g : Nat → Int) (k : Nat) : List Int := (List.range k).map g
theorem intK_s (g : Nat → Int) (k : Nat) : intK g (k + 1) = intK g k ++ [g k] := by
  unfold intK
  rw [List.range_succ, List.map_append]
  rfl
theorem intK_len (g : Nat → Int) (k : Nat) : (intK g k).length = k := by simp [intK]
/-- All bits of a row are bits. -/
def GoodL (bs : List (Int × Bool)) : Prop := ∀ a, valF (bs.getD a (0, false)) = (bs.getD a (0, false)).1
theorem good_start (N : Nat) (bits : List Int) : GoodL (startL N bits) := by
  intro a
  by_cases h : a < N
  · unfold startL
    rw [range_getD _ _ _ _ h]
    unfold startF
    split <;> rfl
  · have : (startL N bits).getD a (0, false) = (0, false) := by
      rw [List.getD_eq_getElem?_getD, List.getElem?_eq_none (by simp [startL]; omega)]; rfl
    rw [this]; rfl
theorem good_step {n f x : Int} {b : Int × Bool} {k : Int} {vs : List Int} : 0 ≤ (stepF 0 n f x b k vs).1 ∧ (stepF 0 n f x b k vs).1 ≤ 2 := by
  have hm := modF3 x
  have h3 : modF x 3 = 0 ∨ modF x 3 = 1 ∨ modF x 3 = 2 := by omega
  rcases h3 with h | h | h
  · rw [stepF_0 h]; exact most_bd _ _ _
  · rw [stepF_1 h]; exact least_bd _ _ _ (valF_bd b)
  · rw [stepF_2 h]
    have hv := valF_bd b
    unfold obeyF
    by_cases c1 : valF b ≠ 2 ∧ b.2 = true
    · rw [if_pos c1]; exact hv
    · rw [if_neg c1]
      by_cases c2 : k = 1 ∨ k = 2
      · rw [if_pos c2]; decide
      · rw [if_neg c2]; decide
theorem good_exch (fa : Nat → Bool) (lies : List Int) (N : Nat) (f : Int) (x : Nat) (bs : List (Int × Bool)) : GoodL (exchL fa lies N f x bs) := by
  intro a
  by_cases h : a < N
  · unfold exchL
    rw [range_getD _ _ _ _ h]
    exact valF_same good_step
  · have : (exchL fa lies N f x bs).getD a (0, false) = (0, false) := by
      rw [List.getD_eq_getElem?_getD, List.getElem?_eq_none (by simp [exchL]; omega)]; rfl
    rw [this]; rfl
theorem good_play (fa : Nat → Bool) (lies : List Int) (N : Nat) (f : Int) (bits : List Int) (x : Nat) : GoodL (playL fa lies N f bits x) := by
  cases x with
  | zero => exact good_start N bits
  | succ x => exact good_exch fa lies N f x _
set_option maxRecDepth 100000 in
set_option maxHeartbeats 4000000 in
theorem rPlay_ok (N : Nat) (f d p r dr o sl md fr : Int) (ad : Option Addr) (cap : Nat) (zs : List Int) (F : Nat) (hf : f = (F : Int)) (a1 : Option Addr) (c1 : Nat) (bits : List Int) (a2 : Option Addr) (c2 : Nat) (fs : List Int) (a3 : Option Addr) (c3 : Nat) (vs : List Int) (w : World) (hl : zs.length ≤ 9223372036854775807) (hT : Tab w ad zs) (hE : plainE (N : Int) f d p r dr o sl md fr zs = 0)
    (h1 : bits.length ≤ 9223372036854775807) (h2 : fs.length ≤ 9223372036854775807) (h3 : vs.length ≤ 9223372036854775807) (hV1 : kInt.Lies w.heap.size w (.slice a1 bits.length c1) bits) (hV2 : kInt.Lies w.heap.size w (.slice a2 fs.length c2) fs) (hV3 : kInt.Lies w.heap.size w (.slice a3 vs.length c3) vs) :
    Calls Try.prog 35 #[.agg #[.int .i64 (N : Int), .int .i64 f, .int .i64 d, .int .i64 p, .int .i64 r, .int .i64 dr, .int .i64 o, .int .i64 sl, .int .i64 md, .int .i64 fr, .slice ad zs.length cap], .slice a1 bits.length c1, .slice a2 fs.length c2, .slice a3 vs.length c3] w fun e w' => ∃ aq cq, e = .returned (.slice aq N cq) ∧ kInt.Lies w'.heap.size w' (.slice aq N cq) (endsL (faB N fs) N (playL (faB N fs) vs N f bits (3 * (F + 1)))) ∧ Below w.heap.size w w' := by
  have HQ := hidden (refPlain_any (N : Int) f d p r dr o sl md fr ad cap zs (w.alloc (.cells #[.int .i64 (N : Int), .int .i64 f, .int .i64 d, .int .i64 p, .int .i64 r, .int .i64 dr, .int .i64 o, .int .i64 sl, .int .i64 md, .int .i64 fr, .slice ad zs.length cap] 24)) hl (hT.below (ballc _ _)))
  rw [hE] at HQ
  obtain ⟨n1, n2, f1, f2, fn, d1, d2, _⟩ := plainE_ok hE
  have hN2 : N ≤ 13 := by omega
  have HF := hidden hf
  have HE := hidden hE
  have HFN : Hid (3 * F + 1 ≤ N) := by show _ ≤ _; omega
  have HT0 := hidden hT
  have HW1 := hidden hV1
  have HW2 := hidden hV2
  have HW3 := hidden hV3
  obtain ⟨iB, hiB, hzB0, hzB1, hzB2⟩ := info_of infoBit
  obtain ⟨iI, hiI, hzI0, hzI1, hzI2⟩ := info_of infoInt
  clear hT hV1 hV2 hV3 hE n1 n2 f1 f2 fn d1 d2 hf
  go_enter Try.func35, Try.ntmps35
  go_wp2_with fail
  refine HQ.out.mono ?_
  rintro e w2 ⟨rfl, hb⟩
  have HK := hidden (blk_later (blk_nw w #[.int .i64 (N : Int), .int .i64 f, .int .i64 d, .int .i64 p, .int .i64 r, .int .i64 dr, .int .i64 o, .int .i64 sl, .int .i64 md, .int .i64 fr, .slice ad zs.length cap] 24) hb)
  have HB2 := hidden (bthen (ballc w _) hb)
  have HT := hidden (HT0.out.below HB2.out)
  have HV1 := hidden (HW1.out.later HB2.out)
  have HV2 := hidden (HW2.out.later HB2.out)
  have HV3 := hidden (HW3.out.later HB2.out)
  clear hb HQ HT0 HW1 HW2 HW3
  go_wp2
  go_loopw [9, 10] (fun a i wr => ∃ k : Nat, k ≤ N ∧ i = .int .i64 k ∧ wr.ownsRow w2.heap.size 41 2 a k (kBit.flat (bitK (fun i => startF (bits.getD i 0)) k)) ∧ Below w2.heap.size w2 wr) (fun _ i _ => N - (intV i).toNat)
  case atStart => exact ⟨0, Nat.zero_le _, rfl, World.ownsRow_nil _ _ _ _, Below.refl _ _⟩
  case round =>
    obtain ⟨k, hk, rfl, hown, hB⟩ := hrel
    have c0 := fun i => blk_cell (blk_later HK.out hB) i
    have l0 := blk_lt (blk_later HK.out hB)
    by_cases hlt : k < N
    · have i2 : (k : Int) < (N : Int) := by omega
      by_cases hkb : k < bits.length
      · obtain ⟨b, off, rfl, hbl, e0⟩ := kInt_at HV1.out k hkb
        have f0 := (hB.cell (p := ⟨b, off + k, none⟩) hbl).trans e0
        have hbl' : b < wr.heap.size := Nat.lt_of_lt_of_le hbl hB.size
        have HS : Hid (bitK (fun i => startF (bits.getD i 0)) (k + 1) = bitK (fun i => startF (bits.getD i 0)) k ++ [startF bits[k]]) := by
          show _ = _
          rw [bitK_s]
          simp [hkb]
        have i1 : (0 : Int) ≤ (k : Int) := by omega
        have i3 : (k : Int) < (bits.length : Int) := by omega
        clear e0
        generalize bits[k] = z at f0 HS
        go_wp2_with fail
        refine (rStart_any z _).mono ?_
        rintro e w3 ⟨rfl, hb⟩
        have hown' := own_below hown hb
        have hB' : Below w2.heap.size w2 w3 := bthen hB hb
        clear hb hown hB
        unfold agB
        generalize startF z = sz at *
        go_wp2_with (at_builtin; refine kBit.wpList_append _ rfl (.tmp 36) (.tmp 39) 63 rfl w2.heap.size 41 iB (.agg #[.int .i64 0, .bool false]) 16 Try.underlying63 hiB hzB0 hzB1 hzB2 rfl u9 k _ rfl (hown'.alloc _) (.slice (some ⟨w3.heap.size, 0, none⟩) 1 1) [sz] rfl (Kind.Lies.of_block (K := kBit) (es := [sz]) (heap_alloc_new w3 _) (by simp only [maxLen, List.length_singleton]; omega)) (by simp only [maxLen, List.length_singleton]; omega) (by simp only [List.length_singleton]; omega) (by have := hB'.size; simp; omega) ?_; intro v4 w4 hown4 hgrow4 hbl4)
        have hB4 : Below w2.heap.size w2 w4 := (hB'.alloc hB'.size _).grown hgrow4 (by have := hB'.size; simp; omega) (own_from hown')
        have hrow : w4.ownsRow w2.heap.size 41 2 v4 (k + 1) (kBit.flat (bitK (fun i => startF (bits.getD i 0)) (k + 1))) := by
          rw [HS.out, Kind.flat_append]
          exact hown4
        go_roundw
        case rel => exact ⟨k + 1, by omega, by go_num, hrow, hB4⟩
        case measure => simp [intV]; omega
      · have HS : Hid (bitK (fun i => startF (bits.getD i 0)) (k + 1) = bitK (fun i => startF (bits.getD i 0)) k ++ [startF 0]) := by
          show _ = _
          rw [bitK_s, List.getD_eq_getElem?_getD, List.getElem?_eq_none (by omega)]
          rfl
        have i3 : ¬ (k : Int) < (bits.length : Int) := by omega
        go_wp2_with fail
        refine (rStart_any 0 _).mono ?_
        rintro e w3 ⟨rfl, hb⟩
        have hown' := own_below hown hb
        have hB' : Below w2.heap.size w2 w3 := bthen hB hb
        clear hb hown hB
        unfold agB
        generalize startF 0 = sz at *
        go_wp2_with (at_builtin; refine kBit.wpList_append _ rfl (.tmp 36) (.tmp 39) 63 rfl w2.heap.size 41 iB (.agg #[.int .i64 0, .bool false]) 16 Try.underlying63 hiB hzB0 hzB1 hzB2 rfl u9 k _ rfl (hown'.alloc _) (.slice (some ⟨w3.heap.size, 0, none⟩) 1 1) [sz] rfl (Kind.Lies.of_block (K := kBit) (es := [sz]) (heap_alloc_new w3 _) (by simp only [maxLen, List.length_singleton]; omega)) (by simp only [maxLen, List.length_singleton]; omega) (by simp only [List.length_singleton]; omega) (by have := hB'.size; simp; omega) ?_; intro v4 w4 hown4 hgrow4 hbl4)
        have hB4 : Below w2.heap.size w2 w4 := (hB'.alloc hB'.size _).grown hgrow4 (by have := hB'.size; simp; omega) (own_from hown')
        have hrow : w4.ownsRow w2.heap.size 41 2 v4 (k + 1) (kBit.flat (bitK (fun i => startF (bits.getD i 0)) (k + 1))) := by
          rw [HS.out, Kind.flat_append]
          exact hown4
        go_roundw
        case rel => exact ⟨k + 1, by omega, by go_num, hrow, hB4⟩
        case measure => simp [intV]; omega
    · obtain rfl : k = N := by omega
      obtain ⟨aA0, cA0, rfl⟩ := own_slice hown
      have HL0 : Hid (kBit.Lies wr.heap.size wr (.slice aA0 k cA0) (playL (faB k fs) vs k f bits 0)) := Kind.Lies.of_own (K := kBit) (base := w2.heap.size) (e := 41) (by rw [playL_len]; exact hown)
      have HBr := hidden hB
      obtain ⟨R, hRR⟩ : ∃ R, R = 3 * (F + 1) := ⟨_, rfl⟩
      have HRR := hidden hRR
      have hR15 : R ≤ 15 := by have := HFN.out; omega
      have HRN : Hid (∀ m, m < R → m / 3 < k) := by show ∀ _, _; intro m hm; have := HFN.out; have := HRR.out; omega
      have CR := hidden (fun V (hb : Below w2.heap.size w2 V) => refRounds_any (k : Int) f d p r dr o sl md fr ad cap zs V hl (HT.out.below hb))
      rw [HE.out, gate_ok] at CR
      have hRf : 3 * (f + 1) = (R : Int) := by rw [HF.out, hRR]; omega
      rw [hRf] at CR
      clear hown hB hRR hRf
      go_wp2
      clear c0 l0
      go_loopw [9, 12] (fun a i wr => ∃ (m : Nat) (aA : Option Addr) (cA : Nat), m ≤ R ∧ i = .int .i64 m ∧ a = .slice aA k cA ∧ kBit.Lies wr.heap.size wr (.slice aA k cA) (playL (faB k fs) vs k f bits m) ∧ Below w2.heap.size w2 wr) (fun _ i _ => R - (intV i).toNat)
      case atStart => exact ⟨0, aA0, cA0, Nat.zero_le _, rfl, rfl, HL0.out, HBr.out⟩
      case round =>
        obtain ⟨m, aA, cA, hm, rfl, rfl, hLA, hB⟩ := hrel
        have c0 := fun i => blk_cell (blk_later HK.out hB) i
        have l0 := blk_lt (blk_later HK.out hB)
        have CR1 := hidden (CR.out _ hB)
        clear HL0 HBr
        by_cases hlm : m < R
        · have im : (m : Int) < (R : Int) := by omega
          go_wp2_with fail
          refine CR1.out.mono ?_
          rintro e wX ⟨rfl, hbX⟩
          have HBX := hidden (bthen hB hbX)
          have HLX := hidden (hLA.later hbX)
          have HKX := hidden (blk_later HK.out HBX.out)
          have HTX := hidden (HT.out.below HBX.out)
          have HVX2 := hidden (HV2.out.later HBX.out)
          have HVX3 := hidden (HV3.out.later HBX.out)
          have HGX := hidden (good_play (faB k fs) vs k f bits m)
          have HPL := hidden (playL_len (faB k fs) vs k f bits m)
          have HPS : Hid (bitK (stepN (faB k fs) vs k f m (playL (faB k fs) vs k f bits m)) k = playL (faB k fs) vs k f bits (m + 1)) := rfl
          obtain ⟨BS, hBS⟩ : ∃ BS, BS = playL (faB k fs) vs k f bits m := ⟨_, rfl⟩
          rw [← hBS] at HLX HGX HPL HPS
          clear hB hbX hLA c0 l0 CR1 hBS
          go_wp2
          go_loopw [13, 14] (fun a i wr => ∃ t : Nat, t ≤ k ∧ i = .int .i64 t ∧ wr.ownsRow wX.heap.size 41 2 a t (kBit.flat (bitK (stepN (faB k fs) vs k f m BS) t)) ∧ Below wX.heap.size wX wr) (fun _ i _ => k - (intV i).toNat)
          case atStart => exact ⟨0, Nat.zero_le _, rfl, World.ownsRow_nil _ _ _ _, Below.refl _ _⟩
          case round =>
            obtain ⟨t, ht, rfl, hownN, hB3⟩ := hrel
            obtain ⟨wY, rfl⟩ : ∃ wY, wY = wr := ⟨_, rfl⟩
            have c0 := fun i => blk_cell (blk_later HKX.out hB3) i
            have l0 := blk_lt (blk_later HKX.out hB3)
            by_cases hlt2 : t < k
            · have it : (t : Int) < (k : Int) := by omega
              go_wp2
              go_loopw [15, 16] (fun a i wr => ∃ j : Nat, j ≤ k ∧ i = .int .i64 j ∧ wr.ownsRow wY.heap.size 3 1 a j (kInt.flat (intK (sayF (faB k fs) vs k m t BS) j)) ∧ Below wY.heap.size wY wr) (fun _ i _ => k - (intV i).toNat)
              case atStart => exact ⟨0, Nat.zero_le _, rfl, World.ownsRow_nil _ _ _ _, Below.refl _ _⟩
              case round =>
                obtain ⟨j, hj, rfl, hownV, hB4⟩ := hrel
                have hBx : Below wX.heap.size wX wr := bthen hB3 hB4
                clear c0 l0
                have c0 := fun i => blk_cell (blk_later HKX.out hBx) i
                have l0 := blk_lt (blk_later HKX.out hBx)
                by_cases hlj : j < k
                · have ij : (j : Int) < (k : Int) := by omega
                  have HS := hidden (intK_s (sayF (faB k fs) vs k m t BS) j)
                  have CSay := hidden (rsay_any k f d p r dr o sl md fr ad cap zs hN2 aA cA BS HPL.out a2 c2 fs h2 a3 c3 vs h3 m j t (by omega) hlj (by omega) (HGX.out j) wr (HLX.out.later hBx) (HVX2.out.later hBx) (HVX3.out.later hBx))
                  generalize sayF (faB k fs) vs k m t BS j = z at *
                  go_wp2_with fail
                  refine CSay.out.mono ?_
                  rintro e w5 ⟨rfl, hb⟩
                  have hown' := own_below hownV hb
                  have hB' : Below wY.heap.size wY w5 := bthen hB4 hb
                  clear hb hownV CSay
                  go_wp2_with (at_builtin; refine kInt.wpList_append _ rfl (.tmp 59) (.tmp 68) 22 rfl wY.heap.size 3 iI (.int .i64 0) 8 Try.underlying22 hiI hzI0 hzI1 hzI2 rfl u15 j _ rfl (hown'.alloc _) (.slice (some ⟨w5.heap.size, 0, none⟩) 1 1) [z] rfl (Kind.Lies.of_block (K := kInt) (es := [z]) (heap_alloc_new w5 _) (by simp only [maxLen, List.length_singleton]; omega)) (by simp only [maxLen, List.length_singleton]; omega) (by simp only [List.length_singleton]; omega) (by have := hB'.size; simp; omega) ?_; intro v6 w6 hown6 hgrow6 hbl6)
                  have hB6 : Below wY.heap.size wY w6 := (hB'.alloc hB'.size _).grown hgrow6 (by have := hB'.size; simp; omega) (own_from hown')
                  have hrow : w6.ownsRow wY.heap.size 3 1 v6 (j + 1) (kInt.flat (intK (sayF (faB k fs) vs k m t BS) (j + 1))) := by
                    rw [HS.out, Kind.flat_append]
                    exact hown6
                  go_roundw
                  case rel => exact ⟨j + 1, by omega, by go_num, hrow, hB6⟩
                  case measure => simp [intV]; omega
                · obtain rfl : j = k := by omega
                  obtain ⟨vA, vC, rfl⟩ := own_slice hownV
                  have hVl : (intK (sayF (faB j fs) vs j m t BS) j).length = j := intK_len _ _
                  have hliV : kInt.Lies wr.heap.size wr (.slice vA j vC) (intK (sayF (faB j fs) vs j m t BS) j) := Kind.Lies.of_own (K := kInt) (base := wY.heap.size) (e := 3) (by rw [hVl]; exact hownV)
                  have HSN : Hid (stepN (faB j fs) vs j f m BS t = stepF 0 j f m (BS.getD t (0, false)) ((intK (sayF (faB j fs) vs j m t BS) j).getD (m / 3) 0) (intK (sayF (faB j fs) vs j m t BS) j)) := rfl
                  have HS := hidden (bitK_s (stepN (faB j fs) vs j f m BS) t)
                  rw [HSN.out] at HS
                  have hq := HRN.out m hlm
                  have hqe : (m : Int) / 3 = ((m / 3 : Nat) : Int) := by omega
                  have hqt : (m : Int).tdiv 3 = ((m / 3 : Nat) : Int) := by rw [Int.tdiv_eq_ediv_of_nonneg (by omega)]; exact hqe
                  obtain ⟨vb, vo, rfl, hvb, ev⟩ := kInt_at hliV (m / 3) (by rw [hVl]; exact hq)
                  have hkv : (intK (sayF (faB j fs) vs j m t BS) j).getD (m / 3) 0 = (intK (sayF (faB j fs) vs j m t BS) j)[m / 3]'(by rw [hVl]; exact hq) := by rw [List.getD_eq_getElem?_getD, List.getElem?_eq_getElem]; rfl
                  rw [← hkv] at ev
                  obtain ⟨ba, oa, rfl, hba, ea0, ea1⟩ := kBit_at HLX.out t (by rw [HPL.out]; exact hlt2)
                  have hownN' := own_below hownN hB4
                  have hvY : wY.heap.size ≤ vb := own_from hownV vb rfl
                  have hne : u13.ownBlock ≠ some vb := fun e => by have := (hownN.lt vb e).2; omega
                  have hRS : RSt wX.heap.size wX vb (vo + m / 3) ((intK (sayF (faB j fs) vs j m t BS) j).getD (m / 3) 0) wr := ⟨⟨hBx, hBx.size⟩, hvb, ev⟩
                  have hwm : (Lit.int .i64 (m : Int)).wf = true := wfN m (by omega)
                  have CS := fun V (hC : Chn wr.heap.size wr V) => rKStep_any (j : Int) f d p r dr o sl md fr ad cap zs (m : Int) (BS.getD t (0, false)) ((intK (sayF (faB j fs) vs j m t BS) j).getD (m / 3) 0) (some ⟨vb, vo, none⟩) j vC (intK (sayF (faB j fs) vs j m t BS) j) V hl (HTX.out.below (bthen hBx hC.out)) hwm (by rw [hVl]; omega) (hliV.later hC.out)
                  rw [HE.out] at CS
                  clear hkv ev hliV hownV hownN hVl HSN hwm
                  generalize (intK (sayF (faB j fs) vs j m t BS) j).getD (m / 3) 0 = kv at *
                  generalize stepF 0 j f m (BS.getD t (0, false)) kv (intK (sayF (faB j fs) vs j m t BS) j) = st at *
                  generalize BS.getD t (0, false) = bk at *
                  generalize hqq : m / 3 = q at *
                  have HQQ := hidden hqq
                  have hqz : IntKind.i64.wrap (q : Int) = (q : Int) := wrIn rfl (by omega)
                  clear hqq
                  unfold agB at CS
                  have hS : ∀ V, RSt wX.heap.size wX vb (vo + q) kv V → V.cell? ⟨w.heap.size, 0, none⟩ = some (.int .i64 (j : Int)) ∧ V.cell? ⟨w.heap.size, 1, none⟩ = some (.int .i64 f) ∧ V.cell? ⟨w.heap.size, 2, none⟩ = some (.int .i64 d) ∧ V.cell? ⟨w.heap.size, 3, none⟩ = some (.int .i64 p) ∧ V.cell? ⟨w.heap.size, 4, none⟩ = some (.int .i64 r) ∧ V.cell? ⟨w.heap.size, 5, none⟩ = some (.int .i64 dr) ∧ V.cell? ⟨w.heap.size, 6, none⟩ = some (.int .i64 o) ∧ V.cell? ⟨w.heap.size, 7, none⟩ = some (.int .i64 sl) ∧ V.cell? ⟨w.heap.size, 8, none⟩ = some (.int .i64 md) ∧ V.cell? ⟨w.heap.size, 9, none⟩ = some (.int .i64 fr) ∧ V.cell? ⟨w.heap.size, 10, none⟩ = some (.slice ad zs.length cap) ∧ V.cell? ⟨ba, oa + t * 2, none⟩ = some (.int .i64 bk.1) ∧ V.cell? ⟨ba, oa + t * 2 + 1, none⟩ = some (.bool bk.2) ∧ V.cell? ⟨vb, vo + q, none⟩ = some (.int .i64 kv) := by
                    intro V h
                    have l1 := blk_cell (blk_later HKX.out h.chn.out)
                    exact ⟨l1 0, l1 1, l1 2, l1 3, l1 4, l1 5, l1 6, l1 7, l1 8, l1 9, l1 10, (h.chn.1.cell (p := ⟨ba, oa + t * 2, none⟩) hba).trans ea0, (h.chn.1.cell (p := ⟨ba, oa + t * 2 + 1, none⟩) hba).trans ea1, h.cell⟩
                  have hC0 : Chn wr.heap.size wr wr := Chn.refl (Nat.le_refl _)
                  have HCS := hidden CS
                  have b1 : (0 : Int) ≤ (t : Int) := by omega
                  have b3 : (0 : Int) ≤ (q : Int) := by omega
                  have b4 : (q : Int) < (j : Int) := by omega
                  have hbx2 : ba < wr.heap.size := Nat.lt_of_lt_of_le hba hBx.size
                  clear CS c0
                  go_wp2_with fail
                  go_region_held3 (fun V => V.cell? ⟨w.heap.size, 0, none⟩ = some (.int .i64 (j : Int)) ∧ V.cell? ⟨w.heap.size, 1, none⟩ = some (.int .i64 f) ∧ V.cell? ⟨w.heap.size, 2, none⟩ = some (.int .i64 d) ∧ V.cell? ⟨w.heap.size, 3, none⟩ = some (.int .i64 p) ∧ V.cell? ⟨w.heap.size, 4, none⟩ = some (.int .i64 r) ∧ V.cell? ⟨w.heap.size, 5, none⟩ = some (.int .i64 dr) ∧ V.cell? ⟨w.heap.size, 6, none⟩ = some (.int .i64 o) ∧ V.cell? ⟨w.heap.size, 7, none⟩ = some (.int .i64 sl) ∧ V.cell? ⟨w.heap.size, 8, none⟩ = some (.int .i64 md) ∧ V.cell? ⟨w.heap.size, 9, none⟩ = some (.int .i64 fr) ∧ V.cell? ⟨w.heap.size, 10, none⟩ = some (.slice ad zs.length cap) ∧ V.cell? ⟨ba, oa + t * 2, none⟩ = some (.int .i64 bk.1) ∧ V.cell? ⟨ba, oa + t * 2 + 1, none⟩ = some (.bool bk.2) ∧ V.cell? ⟨vb, vo + q, none⟩ = some (.int .i64 kv)) (first | exact hS _ (by first | with_reducible assumption | exact RSt.of_chn hRS (by repeat (first | with_reducible assumption | with_reducible refine Chn.drew ?_ | with_reducible refine Chn.alloc ?_ _))))
                    (first
                    | (go_at_call 28; refine (HCS.out _ (by repeat (first | with_reducible assumption | with_reducible refine Chn.drew ?_ | with_reducible refine Chn.alloc ?_ _))).mono ?_; rintro e w5 ⟨rfl, hb5⟩; have hC5 := Chn.below (show Chn wr.heap.size wr _ from (by repeat (first | with_reducible assumption | with_reducible refine Chn.drew ?_ | with_reducible refine Chn.alloc ?_ _))) hb5; clear hb5)
                    | (refine kBit.step_append _ rfl (.tmp 70) (.tmp 84) 63 rfl wX.heap.size 41 iB (.agg #[.int .i64 0, .bool false]) 16 Try.underlying63 hiB hzB0 hzB1 hzB2 rfl u13 t _ rfl ((own_below hownN' hC5.out).alloc _) (.slice (some ⟨w5.heap.size, 0, none⟩) 1 1) [st] rfl (Kind.Lies.of_block (K := kBit) (es := [st]) (heap_alloc_new w5 _) (by simp only [maxLen, List.length_singleton]; omega)) (by simp only [maxLen, List.length_singleton]; omega) (by simp only [List.length_singleton]; omega) (by have := hC5.le; have := hBx.size; simp; omega) ?_; intro v7 w7 hown7 hgrow7 hbl7; have hR7 := RSt.grown (RSt.of_chn hRS (hC5.alloc _)) hgrow7 (own_from hownN') hne))
                  have hrow : w7.ownsRow wX.heap.size 41 2 v7 (t + 1) (kBit.flat (bitK (stepN (faB j fs) vs j f m BS) (t + 1))) := by
                    rw [HS.out, Kind.flat_append]
                    exact hown7
                  go_wp2
                  go_roundw
                  case rel => exact ⟨t + 1, by omega, by go_num, hrow, hR7.chn.1⟩
                  case measure => simp [intV]; omega
            · obtain rfl : t = k := by omega
              obtain ⟨aN, cN, rfl⟩ := own_slice hownN
              have HLN : Hid (kBit.Lies wY.heap.size wY (.slice aN t cN) (playL (faB t fs) vs t f bits (m + 1))) := by
                rw [← HPS.out]
                exact Kind.Lies.of_own (K := kBit) (base := wX.heap.size) (e := 41) (by rw [bitK_len]; exact hownN)
              have HB5 := hidden (bthen HBX.out hB3)
              clear hownN hB3
              go_wp2
              go_roundw
              case rel => exact ⟨m + 1, aN, cN, by omega, by go_num, rfl, HLN.out, HB5.out⟩
              case measure => simp [intV]; omega
        · obtain rfl : m = R := by omega
          have im : ¬ (m : Int) < (m : Int) := by omega
          go_wp2_with fail
          refine CR1.out.mono ?_
          rintro e wX ⟨rfl, hbX⟩
          have HBX := hidden (bthen hB hbX)
          have HLX := hidden (hLA.later hbX)
          have HKX := hidden (blk_later HK.out HBX.out)
          have HVX2 := hidden (HV2.out.later HBX.out)
          have HGX := hidden (good_play (faB k fs) vs k f bits m)
          have HPL := hidden (playL_len (faB k fs) vs k f bits m)
          rw [HRR.out] at HLX HGX HPL
          have HEN : Hid (endsL (faB k fs) k (playL (faB k fs) vs k f bits (3 * (F + 1))) = intK (endN (faB k fs) (playL (faB k fs) vs k f bits (3 * (F + 1)))) k) := rfl
          obtain ⟨BS, hBS⟩ : ∃ BS, BS = playL (faB k fs) vs k f bits (3 * (F + 1)) := ⟨_, rfl⟩
          rw [← hBS] at HLX HGX HPL HEN
          have HBS := hidden hBS
          clear hB hbX hLA c0 l0 CR1 hBS
          go_wp2
          go_loopw [17, 18] (fun a i wr => ∃ t : Nat, t ≤ k ∧ i = .int .i64 t ∧ wr.ownsRow wX.heap.size 3 1 a t (kInt.flat (intK (endN (faB k fs) BS) t)) ∧ Below wX.heap.size wX wr) (fun _ i _ => k - (intV i).toNat)
          case atStart => exact ⟨0, Nat.zero_le _, rfl, World.ownsRow_nil _ _ _ _, Below.refl _ _⟩
          case round =>
            obtain ⟨t, ht, rfl, hownO, hB3⟩ := hrel
            have c0 := fun i => blk_cell (blk_later HKX.out hB3) i
            have l0 := blk_lt (blk_later HKX.out hB3)
            by_cases hlt2 : t < k
            · have it : (t : Int) < (k : Int) := by omega
              have i1 : (0 : Int) ≤ (t : Int) := by omega
              have CI := hidden (rIn_any (t : Int) a2 c2 fs h2 wr (HVX2.out.later hB3))
              rw [← faB_in (N := k) hlt2] at CI
              by_cases hfa : faB k fs t = true
              · rw [hfa] at CI
                have HS : Hid (intK (endN (faB k fs) BS) (t + 1) = intK (endN (faB k fs) BS) t ++ [-1]) := (intK_s _ _).trans (by unfold endN; rw [if_pos hfa])
                clear hfa
                go_wp2_with fail
                refine CI.out.mono ?_
                rintro e w4 ⟨rfl, rfl⟩
                go_wp2_with (at_builtin; refine kInt.wpList_append _ rfl (.tmp 96) (.tmp 97) 22 rfl wX.heap.size 3 iI (.int .i64 0) 8 Try.underlying22 hiI hzI0 hzI1 hzI2 rfl u17 t _ rfl (hownO.alloc _) (.slice (some ⟨wr.heap.size, 0, none⟩) 1 1) [-1] rfl (Kind.Lies.of_block (K := kInt) (es := [-1]) (heap_alloc_new wr _) (by decide)) (by simp only [maxLen, List.length_singleton]; omega) (by simp only [List.length_singleton]; omega) (by have := hB3.size; simp; omega) ?_; intro v6 w6 hown6 hgrow6 hbl6)
                have hB6 : Below wX.heap.size wX w6 := (hB3.alloc hB3.size _).grown hgrow6 (by have := hB3.size; simp; omega) (own_from hownO)
                have hrow : w6.ownsRow wX.heap.size 3 1 v6 (t + 1) (kInt.flat (intK (endN (faB k fs) BS) (t + 1))) := by
                  rw [HS.out, Kind.flat_append]
                  exact hown6
                go_roundw
                case rel => exact ⟨t + 1, by omega, by go_num, hrow, hB6⟩
                case measure => simp [intV]; omega
              · have hfa' : faB k fs t = false := by simpa using hfa
                rw [hfa'] at CI
                have HS : Hid (intK (endN (faB k fs) BS) (t + 1) = intK (endN (faB k fs) BS) t ++ [(BS.getD t (0, false)).1]) := (intK_s _ _).trans (by unfold endN; rw [if_neg hfa, HGX.out t])
                obtain ⟨ba, oa, rfl, hba, ea0, ea1⟩ := kBit_at HLX.out t (by rw [HPL.out]; exact hlt2)
                have fa0 := (hB3.cell (p := ⟨ba, oa + t * 2, none⟩) hba).trans ea0
                have fa1 := (hB3.cell (p := ⟨ba, oa + t * 2 + 1, none⟩) hba).trans ea1
                have hbx : ba < wr.heap.size := Nat.lt_of_lt_of_le hba hB3.size
                generalize BS.getD t (0, false) = bk at *
                obtain ⟨bk1, bk2⟩ := bk
                dsimp only at *
                clear hfa hfa' ea0 ea1
                go_wp2_with fail
                refine CI.out.mono ?_
                rintro e w4 ⟨rfl, rfl⟩
                go_wp2_with (at_builtin; refine kInt.wpList_append _ rfl (.tmp 99) (.tmp 105) 22 rfl wX.heap.size 3 iI (.int .i64 0) 8 Try.underlying22 hiI hzI0 hzI1 hzI2 rfl u17 t _ rfl (hownO.alloc _) (.slice (some ⟨wr.heap.size, 0, none⟩) 1 1) [bk1] rfl (Kind.Lies.of_block (K := kInt) (es := [bk1]) (heap_alloc_new wr _) (by simp only [maxLen, List.length_singleton]; omega)) (by simp only [maxLen, List.length_singleton]; omega) (by simp only [List.length_singleton]; omega) (by have := hB3.size; simp; omega) ?_; intro v6 w6 hown6 hgrow6 hbl6)
                have hB6 : Below wX.heap.size wX w6 := (hB3.alloc hB3.size _).grown hgrow6 (by have := hB3.size; simp; omega) (own_from hownO)
                have hrow : w6.ownsRow wX.heap.size 3 1 v6 (t + 1) (kInt.flat (intK (endN (faB k fs) BS) (t + 1))) := by
                  rw [HS.out, Kind.flat_append]
                  exact hown6
                go_roundw
                case rel => exact ⟨t + 1, by omega, by go_num, hrow, hB6⟩
                case measure => simp [intV]; omega
            · obtain rfl : t = k := by omega
              obtain ⟨aO, cO, rfl⟩ := own_slice hownO
              have HLO : Hid (kInt.Lies wr.heap.size wr (.slice aO t cO) (endsL (faB t fs) t BS)) := by
                rw [HEN.out]
                exact Kind.Lies.of_own (K := kInt) (base := wX.heap.size) (e := 3) (by rw [intK_len]; exact hownO)
              have HB9 := hidden (bthen HB2.out (bthen HBX.out hB3))
              rw [HBS.out] at HLO
              go_wp2
              go_ret
              exact ⟨aO, cO, rfl, HLO.out, HB9.out⟩
end Go.Proofs.Ytklcjfbdneallaa
