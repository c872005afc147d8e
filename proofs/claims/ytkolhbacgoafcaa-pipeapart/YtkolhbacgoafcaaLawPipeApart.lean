/- The walk of the statement PipeApart: the call returns true, and makes at most new memory; conditions: rows lie where they say, numbers and lengths fit int. -/
import Derived.Test.YtkolhbacgoafcaaBg
import Derived.Test.YtkolhbacgoafcaaBh
namespace Go.Proofs.Ytkolhbacgoafcaa.LawPipeApart
open Go.ChangeShapes Go.WideShapes Go.ChangeAt Go.RowKit
set_option linter.unusedVariables false
attribute [local go_sem] cell_rg

theorem conv_one {W : World} {g : Nat} {c : UInt8} (h : W.cell? ⟨g, 0, none⟩ = some (.int .u8 (c.toNat : Int))) :
    (convert 48 9 (.slice (some ⟨g, 0, none⟩) 1 1)).run Try.prog W = .ok (.string (ba [c])) W := by
  refine run_convert_bytes_back W 48 9 5 _ _ [c] Try.underlying48 Try.underlying5 Try.underlying9 ?_
  intro j hj
  have : j = 0 := by simp at hj; omega
  subst this
  rw [add_plain, h]
  rfl
/-- With another byte at one place. -/
theorem changed_set (s : ByteArray) (a : Nat) (c : UInt8) (h : a < s.size) : s.extract 0 a ++ ba [c] ++ s.extract (a + 1) s.size = ba ((bl s).set a c) := by
  apply ByteArray.ext
  have hl : a < s.data.toList.length := h
  simp only [ByteArray.data_append, ByteArray.data_extract, ba, bl]
  apply Array.ext'
  rw [List.set_eq_take_append_cons_drop, if_pos hl]
  simp only [Array.toList_append, Array.toList_extract, List.extract_eq_take_drop]
  have e : s.size = s.data.toList.length := rfl
  simp
  rw [List.take_of_length_le]
  rw [List.length_drop, ← e]
  omega
theorem bl_len (s : ByteArray) : (bl s).length = s.size := rfl
theorem wellL_bl (s : ByteArray) : wellL s.size s = bl s := if_pos rfl
theorem at8_set_ne {l : List UInt8} {a j : Nat} {c : UInt8} (h : a ≠ j) : at8 (l.set a c) j = at8 l j := by
  unfold at8
  rw [List.getD_eq_getElem?_getD, List.getD_eq_getElem?_getD, List.getElem?_set_ne h]
theorem newB_apart (h : Nat → UInt8 → UInt8) (D : Nat) (l : List UInt8) (a j : Nat) (c : UInt8) (hj : j ≠ a + 1) : newB h D (l.set a c) j = newB h D l j := by
  unfold newB
  by_cases e : j = 0
  · rw [if_pos e, if_pos e]
  · rw [if_neg e, if_neg e, at8_set_ne (by omega)]
theorem newL_byte (h : Nat → UInt8 → UInt8) (D : Nat) (l : List UInt8) (j : Nat) (hj : j < (ba (newL h D l)).size) : (ba (newL h D l))[j]'hj = newB h D l j := by
  show (newL h D l).toArray[j]'_ = _
  simp [newL]

theorem wfU8 (x : Int) (h : (Lit.int .u8 x).wf = true) : 0 ≤ x ∧ x < 256 := by
  simp [Lit.wf, IntKind.min, IntKind.max, IntKind.signed, IntKind.bits] at h
  omega
theorem wellL_ba' {L : Nat} {l : List UInt8} (h : l.length = L) : wellL L (ba l) = l := by
  unfold wellL
  rw [if_pos (by rw [ba_size, h]), bl_ba]
set_option maxRecDepth 100000 in
set_option maxHeartbeats 4000000 in
theorem walk (n f d p r dr o sl md fr : Int) (ad : Option Addr) (cap : Nat) (zs : List Int) (s : ByteArray) (ai ci : Int) (a2 : Option Addr) (c2 : Nat) (votes : List ByteArray) (w : World) (hl : zs.length ≤ 9223372036854775807) (hT : Tab w ad zs) (hs : s.size ≤ 9223372036854775807) (hai : -9223372036854775808 ≤ ai ∧ ai ≤ 9223372036854775807) (hci : (Lit.int .u8 ci).wf = true) (hl2 : votes.length ≤ 9223372036854775807) (hV : kStr.Lies w.heap.size w (.slice a2 votes.length c2) votes) (hz : ∀ t ∈ votes, t.size ≤ 9223372036854775807) :
    Calls Try.prog 6 #[.agg #[.int .i64 n, .int .i64 f, .int .i64 d, .int .i64 p, .int .i64 r, .int .i64 dr, .int .i64 o, .int .i64 sl, .int .i64 md, .int .i64 fr, .slice ad zs.length cap], .string s, .agg #[.int .i64 ai, .int .u8 ci], .slice a2 votes.length c2] w fun e w' => e = .returned (.bool true) ∧ Below w.heap.size w w' := by
  have KN := hidden (fun V => known17_any V)
  have HB0 := hidden (bthen (ballc w (.cells #[.int .i64 n, .int .i64 f, .int .i64 d, .int .i64 p, .int .i64 r, .int .i64 dr, .int .i64 o, .int .i64 sl, .int .i64 md, .int .i64 fr, .slice ad zs.length cap] 24)) (ballc _ (.cells #[.int .i64 ai, .int .u8 ci] 47)))
  have HT := hidden (hT.below HB0.out)
  have HV := hidden (hV.later HB0.out)
  have HK := hidden (blk_later (blk_nw w #[.int .i64 n, .int .i64 f, .int .i64 d, .int .i64 p, .int .i64 r, .int .i64 dr, .int .i64 o, .int .i64 sl, .int .i64 md, .int .i64 fr, .slice ad zs.length cap] 24) (ballc _ (.cells #[.int .i64 ai, .int .u8 ci] 47)))
  have CP := hidden (fun V h => refPlain_any n f d p r dr o sl md fr ad cap zs V hl h)
  have CL := hidden (fun V h => refLength_any n f d p r dr o sl md fr ad cap zs V hl h)
  by_cases hE : plainE n f d p r dr o sl md fr zs = 0
  · rw [hE] at CP
    obtain ⟨R, D, L, hR, hL, hLD, hR15, hL60, hd, hd1, hd0⟩ := len_nat n f d p r dr o sl md fr ad cap zs
    rw [hL] at CL
    by_cases hsl : s.size = L
    · by_cases ha0 : ai < 0
      · have d1 : decide (ai < 0) = true := decide_eq_true ha0
        have d0 : ((s.size : Int) != (L : Int)) = false := by simp [hsl]
        clear hT hE hR hL hLD hd hd1 hd0 hsl HV hV hz hci
        go_enter Try.func6, Try.ntmps6
        go_wp2
        refine wp_region_quiet_below (by kernel_rfl) (by kernel_rfl) ?_
        repeat (go_big_quiet_step (fail))
        refine wpQuiet_nil ?_
        intro w1 hw1
        have HB1 := hidden (bthen HB0.out (rg_below hw1))
        have HT1 := hidden (HT.out.below (rg_below hw1))
        have HK1 := hidden (blk_later HK.out (rg_below hw1))
        clear hw1
        have c0 := blk_cell HK1.out
        have l0 := blk_lt HK1.out
        go_wp2_with fail
        refine (CP.out _ HT1.out).mono ?_
        rintro e w2 ⟨rfl, hb⟩
        have HB2 := hidden (bthen HB1.out hb)
        have HT2 := hidden (HT1.out.below hb)
        have HK2 := hidden (blk_later HK1.out hb)
        clear hb c0 l0
        have c0 := blk_cell HK2.out
        have l0 := blk_lt HK2.out
        go_wp2_with fail
        refine (CL.out _ HT2.out).mono ?_
        rintro e w3 ⟨rfl, hb⟩
        have HB3 := hidden (bthen HB2.out hb)
        have HT3 := hidden (HT2.out.below hb)
        have HK3 := hidden (blk_later HK2.out hb)
        clear hb c0 l0
        have c0 := blk_cell HK3.out
        have l0 := blk_lt HK3.out
        go_wp2_with fail
        refine (KN.out _).mono ?_
        rintro e w9 ⟨rfl, hb⟩
        have HB9 := hidden (bthen HB3.out hb)
        clear hb
        go_wp2
        go_ret
        exact ⟨rfl, HB9.out⟩
      · by_cases ha1 : (s.size : Int) ≤ ai
        · have d1 : decide (ai < 0) = false := decide_eq_false ha0
          have d2 : decide ((s.size : Int) ≤ ai) = true := decide_eq_true ha1
          have d0 : ((s.size : Int) != (L : Int)) = false := by simp [hsl]
          clear hT hE hR hL hLD hd hd1 hd0 hsl HV hV hz hci
          go_enter Try.func6, Try.ntmps6
          go_wp2
          refine wp_region_quiet_below (by kernel_rfl) (by kernel_rfl) ?_
          repeat (go_big_quiet_step (fail))
          refine wpQuiet_nil ?_
          intro w1 hw1
          have HB1 := hidden (bthen HB0.out (rg_below hw1))
          have HT1 := hidden (HT.out.below (rg_below hw1))
          have HK1 := hidden (blk_later HK.out (rg_below hw1))
          clear hw1
          have c0 := blk_cell HK1.out
          have l0 := blk_lt HK1.out
          go_wp2_with fail
          refine (CP.out _ HT1.out).mono ?_
          rintro e w2 ⟨rfl, hb⟩
          have HB2 := hidden (bthen HB1.out hb)
          have HT2 := hidden (HT1.out.below hb)
          have HK2 := hidden (blk_later HK1.out hb)
          clear hb c0 l0
          have c0 := blk_cell HK2.out
          have l0 := blk_lt HK2.out
          go_wp2_with fail
          refine (CL.out _ HT2.out).mono ?_
          rintro e w3 ⟨rfl, hb⟩
          have HB3 := hidden (bthen HB2.out hb)
          have HT3 := hidden (HT2.out.below hb)
          have HK3 := hidden (blk_later HK2.out hb)
          clear hb c0 l0
          have c0 := blk_cell HK3.out
          have l0 := blk_lt HK3.out
          go_wp2_with fail
          refine (KN.out _).mono ?_
          rintro e w9 ⟨rfl, hb⟩
          have HB9 := hidden (bthen HB3.out hb)
          clear hb
          go_wp2
          go_ret
          exact ⟨rfl, HB9.out⟩
        · by_cases hv20 : (20 : Int) < (votes.length : Int)
          · have d1 : decide (ai < 0) = false := decide_eq_false ha0
            have d2 : decide ((s.size : Int) ≤ ai) = false := decide_eq_false ha1
            have d3 : decide ((20 : Int) < (votes.length : Int)) = true := decide_eq_true hv20
            have d3' : decide (20 < votes.length) = true := decide_eq_true (by omega)
            have d0 : ((s.size : Int) != (L : Int)) = false := by simp [hsl]
            clear hT hE hR hL hLD hd hd1 hd0 hsl HV hV hz hci
            go_enter Try.func6, Try.ntmps6
            go_wp2
            refine wp_region_quiet_below (by kernel_rfl) (by kernel_rfl) ?_
            repeat (go_big_quiet_step (fail))
            refine wpQuiet_nil ?_
            intro w1 hw1
            have HB1 := hidden (bthen HB0.out (rg_below hw1))
            have HT1 := hidden (HT.out.below (rg_below hw1))
            have HK1 := hidden (blk_later HK.out (rg_below hw1))
            clear hw1
            have c0 := blk_cell HK1.out
            have l0 := blk_lt HK1.out
            go_wp2_with fail
            refine (CP.out _ HT1.out).mono ?_
            rintro e w2 ⟨rfl, hb⟩
            have HB2 := hidden (bthen HB1.out hb)
            have HT2 := hidden (HT1.out.below hb)
            have HK2 := hidden (blk_later HK1.out hb)
            clear hb c0 l0
            have c0 := blk_cell HK2.out
            have l0 := blk_lt HK2.out
            go_wp2_with fail
            refine (CL.out _ HT2.out).mono ?_
            rintro e w3 ⟨rfl, hb⟩
            have HB3 := hidden (bthen HB2.out hb)
            have HT3 := hidden (HT2.out.below hb)
            have HK3 := hidden (blk_later HK2.out hb)
            clear hb c0 l0
            have c0 := blk_cell HK3.out
            have l0 := blk_lt HK3.out
            go_wp2_with fail
            refine (KN.out _).mono ?_
            rintro e w9 ⟨rfl, hb⟩
            have HB9 := hidden (bthen HB3.out hb)
            clear hb
            go_wp2
            go_ret
            exact ⟨rfl, HB9.out⟩
          · obtain ⟨a, rfl⟩ : ∃ a : Nat, ai = (a : Int) := ⟨ai.toNat, by omega⟩
            obtain rfl : L = s.size := hsl.symm
            have hal : a < s.size := by omega
            obtain ⟨c, rfl⟩ : ∃ c : UInt8, ci = (c.toNat : Int) := by
              have h := wfU8 ci hci
              exact ⟨UInt8.ofNat ci.toNat, by rw [UInt8.toNat_ofNat_of_lt' (show ci.toNat < 256 by omega)]; omega⟩
            have A1 := hidden (fun V h k => Move_any n f d p r dr o sl md fr ad cap zs R D s.size s hs a2 c2 votes V hl h hR hL hR15 hL60 hLD hd (by omega) k hz)
            have A2 := hidden (fun V h k => Move_any n f d p r dr o sl md fr ad cap zs R D s.size (s.extract 0 a ++ ba [c] ++ s.extract (a + 1) s.size) (by rw [changed_set s a c hal, ba_size, List.length_set]; exact hs) a2 c2 votes V hl h hR hL hR15 hL60 hLD hd (by omega) k hz)
            have hw2 : wellL s.size (s.extract 0 a ++ ba [c] ++ s.extract (a + 1) s.size) = (bl s).set a c := by
              rw [changed_set s a c hal]
              exact wellL_ba' (by rw [List.length_set]; rfl)
            rw [wellL_bl] at A1
            rw [hw2] at A2
            have hb1 : ∀ j (h : j < (ba (newL (hrdF n f d p r dr o sl md fr ad cap zs votes) D (bl s))).size) (h2 : j < (ba (newL (hrdF n f d p r dr o sl md fr ad cap zs votes) D ((bl s).set a c))).size), j ≠ a + 1 → ((((ba (newL (hrdF n f d p r dr o sl md fr ad cap zs votes) D (bl s)))[j]'h).toNat : Int) != (((ba (newL (hrdF n f d p r dr o sl md fr ad cap zs votes) D ((bl s).set a c)))[j]'h2).toNat : Int)) = false := fun j h h2 hj => by
              rw [newL_byte, newL_byte, newB_apart _ _ _ _ _ _ hj]
              simp
            have hz1 : (ba (newL (hrdF n f d p r dr o sl md fr ad cap zs votes) D (bl s))).size = s.size := by rw [ba_size, newL_len]; rfl
            have hz2 : (ba (newL (hrdF n f d p r dr o sl md fr ad cap zs votes) D ((bl s).set a c))).size = s.size := by rw [ba_size, newL_len, List.length_set]; rfl
            have hen : a + 1 < s.size → endF (newB (hrdF n f d p r dr o sl md fr ad cap zs votes) D ((bl s).set a c) s.size) = endF (newB (hrdF n f d p r dr o sl md fr ad cap zs votes) D (bl s) s.size) := fun h => by rw [newB_apart _ _ _ _ _ _ (by omega)]
            have HBY := hidden hb1
            have HZ1 := hidden hz1
            have HZ2 := hidden hz2
            have HEN := hidden hen
            clear hb1 hz1 hz2 hen hw2
            generalize ba (newL (hrdF n f d p r dr o sl md fr ad cap zs votes) D (bl s)) = t1 at *
            generalize ba (newL (hrdF n f d p r dr o sl md fr ad cap zs votes) D ((bl s).set a c)) = t2 at *
            generalize endF (newB (hrdF n f d p r dr o sl md fr ad cap zs votes) D ((bl s).set a c) s.size) = e2 at *
            generalize endF (newB (hrdF n f d p r dr o sl md fr ad cap zs votes) D (bl s) s.size) = e1 at *
            have hcv : ∀ W : World, (convert 48 9 (.slice (some ⟨W.heap.size, 0, none⟩) 1 1)).run Try.prog (W.alloc (.cells #[.int .u8 (c.toNat : Int)] 5)) = .ok (.string (ba [c])) (W.alloc (.cells #[.int .u8 (c.toNat : Int)] 5)) := fun W => conv_one (blk_cell (heap_alloc_new W _) 0)
            have hcv2 : ∀ W : World, (convert 48 9 (.slice (some ⟨W.heap.size, 0, none⟩) 1 1)).run Try.prog (W.alloc (.cells #[.int .u8 (c.toNat : Int)] 5)).drew = .ok (.string (ba [c])) (W.alloc (.cells #[.int .u8 (c.toNat : Int)] 5)).drew := fun W => hcv W.drew
            obtain ⟨b, hb⟩ : ∃ b : Nat, b = a + 1 := ⟨_, rfl⟩
            have HBA := hidden hb
            have hs1 : ∀ W : World, (Instr.slice 9 (.string s) none (some (.int .i64 (a : Int))) none).run Try.prog W = .ok (.string (s.extract 0 a)) W := fun W => by
              rw [run_slice_string_to_if W 9 s .i64 _ Try.underlying9, if_pos ⟨by omega, by omega⟩]; rfl
            have hs2 : ∀ W : World, (Instr.slice 9 (.string s) (some (.int .i64 (b : Int))) none none).run Try.prog W = .ok (.string (s.extract b s.size)) W := fun W => by
              rw [run_slice_string_from_if W 9 s .i64 _ Try.underlying9, if_pos ⟨by omega, by omega⟩]; rfl
            have q1 : (a : Int) + 1 = (b : Int) := by omega
            have q2 : IntKind.i64.wrap ((a : Int) + 1) = (b : Int) := by rw [IntWalk.i64_in _ (by omega)]; omega
            have q3 : IntKind.i64.wrap (b : Int) = (b : Int) := IntWalk.i64_in _ (by omega)
            have z0 : (ba [c]).size = 1 := by rw [ba_size]; rfl
            have z1 : (s.extract 0 a).size ≤ 60 := by rw [ByteArray.size_extract]; omega
            have z2 : (s.extract b s.size).size ≤ 60 := by rw [ByteArray.size_extract]; omega
            rw [← hb] at A2
            generalize s.extract 0 a = x1 at *
            generalize s.extract b s.size = x2 at *
            generalize ba [c] = xc at *
            have n1 : ¬ 9223372036854775807 < x1.size + xc.size := by omega
            have n2 : ¬ 9223372036854775807 < (x1 ++ xc).size + x2.size := by rw [ByteArray.size_append]; omega
            have n3 : ¬ 9223372036854775807 < x1.size + xc.size + x2.size := by omega
            have d1 : decide ((a : Int) < 0) = false := decide_eq_false (by omega)
            have d2 : decide ((s.size : Int) ≤ (a : Int)) = false := decide_eq_false (by omega)
            have d3 : decide ((20 : Int) < (votes.length : Int)) = false := decide_eq_false (by omega)
            have d3' : decide (20 < votes.length) = false := decide_eq_false (by omega)
            have d0 : ((s.size : Int) != (s.size : Int)) = false := by simp
            have HC := hidden hcv
            have HC2 := hidden hcv2
            have HS1 := hidden hs1
            have HS2 := hidden hs2
            clear hcv hcv2 hs1 hs2 hb z0 z1 z2
            generalize votes.length = M at *
            clear hT hE hR hL hLD hd hd1 hd0 hsl hV hz hci hai hv20 ha0 ha1
            go_enter Try.func6, Try.ntmps6
            go_wp2
            refine wp_region_quiet_below (by kernel_rfl) (by kernel_rfl) ?_
            repeat (go_big_quiet_step (fail))
            refine wpQuiet_nil ?_
            intro w1 hw1
            have HB1 := hidden (bthen HB0.out (rg_below hw1))
            have HT1 := hidden (HT.out.below (rg_below hw1))
            have HK1 := hidden (blk_later HK.out (rg_below hw1))
            have HV1 := hidden (HV.out.later (rg_below hw1))
            clear hw1
            have c0 := blk_cell HK1.out
            have l0 := blk_lt HK1.out
            go_wp2_with fail
            refine (CP.out _ HT1.out).mono ?_
            rintro e w2 ⟨rfl, hb⟩
            have HB2 := hidden (bthen HB1.out hb)
            have HT2 := hidden (HT1.out.below hb)
            have HK2 := hidden (blk_later HK1.out hb)
            have HV2 := hidden (HV1.out.later hb)
            clear hb c0 l0
            have c0 := blk_cell HK2.out
            have l0 := blk_lt HK2.out
            go_wp2_with fail
            refine (CL.out _ HT2.out).mono ?_
            rintro e w3 ⟨rfl, hb⟩
            have HB3 := hidden (bthen HB2.out hb)
            have HT3 := hidden (HT2.out.below hb)
            have HK3 := hidden (blk_later HK2.out hb)
            have HV3 := hidden (HV2.out.later hb)
            clear hb c0 l0
            have c0 := blk_cell HK3.out
            have l0 := blk_lt HK3.out
            go_wp2_with fail
            refine (A1.out _ HT3.out HV3.out).mono ?_
            rintro e w4 ⟨rfl, hb⟩
            clear d0 d1 d2 d3 d3'
            have HB4 := hidden (bthen HB3.out hb)
            have HT4 := hidden (HT3.out.below hb)
            have HK4 := hidden (blk_later HK3.out hb)
            have HV4 := hidden (HV3.out.later hb)
            clear hb c0 l0
            have hS : ∀ V, Chn w4.heap.size w4 V → V.cell? ⟨w.heap.size, 0, none⟩ = some (.int .i64 n) ∧ V.cell? ⟨w.heap.size, 1, none⟩ = some (.int .i64 f) ∧ V.cell? ⟨w.heap.size, 2, none⟩ = some (.int .i64 d) ∧ V.cell? ⟨w.heap.size, 3, none⟩ = some (.int .i64 p) ∧ V.cell? ⟨w.heap.size, 4, none⟩ = some (.int .i64 r) ∧ V.cell? ⟨w.heap.size, 5, none⟩ = some (.int .i64 dr) ∧ V.cell? ⟨w.heap.size, 6, none⟩ = some (.int .i64 o) ∧ V.cell? ⟨w.heap.size, 7, none⟩ = some (.int .i64 sl) ∧ V.cell? ⟨w.heap.size, 8, none⟩ = some (.int .i64 md) ∧ V.cell? ⟨w.heap.size, 9, none⟩ = some (.int .i64 fr) ∧ V.cell? ⟨w.heap.size, 10, none⟩ = some (.slice ad zs.length cap) := fun V hV => by
              have l1 := blk_cell (blk_later HK4.out hV.1)
              exact ⟨l1 0, l1 1, l1 2, l1 3, l1 4, l1 5, l1 6, l1 7, l1 8, l1 9, l1 10⟩
            have hC0 : Chn w4.heap.size w4 w4 := Chn.refl (Nat.le_refl _)
            have c0 := blk_cell HK4.out
            have l0 := blk_lt HK4.out
            have hcv := HC.out
            have hcv2 := HC2.out
            have hs1 := HS1.out
            have hs2 := HS2.out
            go_wp2
            go_region_with (go_at_call 15; refine (A2.out _ (HT4.out.below (Chn.out (by repeat (first | with_reducible assumption | with_reducible refine Chn.drew ?_ | with_reducible refine Chn.alloc ?_ _)))) (HV4.out.later (Chn.out (by repeat (first | with_reducible assumption | with_reducible refine Chn.drew ?_ | with_reducible refine Chn.alloc ?_ _))))).mono ?_; rintro e w6 ⟨rfl, hb6⟩; have hC6 := Chn.below (show Chn w4.heap.size w4 _ from (by repeat (first | with_reducible assumption | with_reducible refine Chn.drew ?_ | with_reducible refine Chn.alloc ?_ _))) hb6; clear hb6)
            all_goals
              have HB6 := hidden (bthen HB4.out hC6.1)
              clear hC6 hC0 hS hcv hcv2 hs1 hs2 c0 l0
              have hz1 := HZ1.out
              have hz2 := HZ2.out
              have hne1 : ((s.size : Int) != (s.size : Int)) = false := by simp
              by_cases hbs : b < s.size
              · have hbs' : (b : Int) < (s.size : Int) := by omega
                have hee : e2 = e1 := HEN.out (by have := HBA.out; omega)
                have hne : (e1 != e1) = false := by simp
                rw [hee]
                go_wp2
                go_loopw [15] (fun i wr => ∃ k : Nat, k ≤ s.size ∧ i = .int .i64 k ∧ Below w6.heap.size w6 wr) (fun i _ => s.size - (intV i).toNat)
                case atStart => exact ⟨0, Nat.zero_le _, rfl, Below.refl _ _⟩
                case round =>
                  obtain ⟨k, hk, rfl, hB⟩ := hrel
                  have HBr := hidden hB
                  clear hB
                  by_cases hlt : k < s.size
                  · have i1 : (0 : Int) ≤ (k : Int) := by omega
                    have i2 : (k : Int) < (s.size : Int) := by omega
                    by_cases hkb : k = b
                    · subst hkb
                      have j1 : ((k : Int) != (k : Int)) = false := by simp
                      go_wp2
                      refine wp_region_quiet_below (by kernel_rfl) (by kernel_rfl) ?_
                      repeat (go_big_quiet_step (fail))
                      refine wpQuiet_nil ?_
                      intro w7 hw7
                      have HB7 := hidden (bthen HBr.out (rg_below hw7))
                      clear hw7
                      go_wp2
                      go_roundw
                      case rel => exact ⟨k + 1, by omega, by go_num, HB7.out⟩
                      case measure => simp [intV]; omega
                    · have j1 : ((k : Int) != (b : Int)) = true := by rw [bne_iff_ne]; omega
                      have i3 : k < t1.size := by omega
                      have i4 : k < t2.size := by omega
                      have j2 := HBY.out k i3 i4 (by have := HBA.out; omega)
                      go_wp2
                      refine wp_region_quiet_below (by kernel_rfl) (by kernel_rfl) ?_
                      repeat (go_big_quiet_step (fail))
                      refine wpQuiet_nil ?_
                      intro w7 hw7
                      have HB7 := hidden (bthen HBr.out (rg_below hw7))
                      clear hw7
                      go_wp2
                      go_roundw
                      case rel => exact ⟨k + 1, by omega, by go_num, HB7.out⟩
                      case measure => simp [intV]; omega
                  · have i2 : ¬ (k : Int) < (s.size : Int) := by omega
                    have HB8 := hidden (bthen HB6.out HBr.out)
                    go_wp2_with fail
                    refine (KN.out _).mono ?_
                    rintro e w9 ⟨rfl, hb⟩
                    have HB9 := hidden (bthen HB8.out hb)
                    clear hb
                    go_wp2
                    go_ret
                    exact ⟨rfl, HB9.out⟩
              · have hbs' : ¬ (b : Int) < (s.size : Int) := by omega
                have hbs2 : decide ((b : Int) < (s.size : Int)) = false := decide_eq_false hbs'
                go_wp2
                go_loopw [15] (fun i wr => ∃ k : Nat, k ≤ s.size ∧ i = .int .i64 k ∧ Below w6.heap.size w6 wr) (fun i _ => s.size - (intV i).toNat)
                case atStart => exact ⟨0, Nat.zero_le _, rfl, Below.refl _ _⟩
                case round =>
                  obtain ⟨k, hk, rfl, hB⟩ := hrel
                  have HBr := hidden hB
                  clear hB
                  by_cases hlt : k < s.size
                  · have i1 : (0 : Int) ≤ (k : Int) := by omega
                    have i2 : (k : Int) < (s.size : Int) := by omega
                    by_cases hkb : k = b
                    · subst hkb
                      have j1 : ((k : Int) != (k : Int)) = false := by simp
                      go_wp2
                      refine wp_region_quiet_below (by kernel_rfl) (by kernel_rfl) ?_
                      repeat (go_big_quiet_step (fail))
                      refine wpQuiet_nil ?_
                      intro w7 hw7
                      have HB7 := hidden (bthen HBr.out (rg_below hw7))
                      clear hw7
                      go_wp2
                      go_roundw
                      case rel => exact ⟨k + 1, by omega, by go_num, HB7.out⟩
                      case measure => simp [intV]; omega
                    · have j1 : ((k : Int) != (b : Int)) = true := by rw [bne_iff_ne]; omega
                      have i3 : k < t1.size := by omega
                      have i4 : k < t2.size := by omega
                      have j2 := HBY.out k i3 i4 (by have := HBA.out; omega)
                      go_wp2
                      refine wp_region_quiet_below (by kernel_rfl) (by kernel_rfl) ?_
                      repeat (go_big_quiet_step (fail))
                      refine wpQuiet_nil ?_
                      intro w7 hw7
                      have HB7 := hidden (bthen HBr.out (rg_below hw7))
                      clear hw7
                      go_wp2
                      go_roundw
                      case rel => exact ⟨k + 1, by omega, by go_num, HB7.out⟩
                      case measure => simp [intV]; omega
                  · have i2 : ¬ (k : Int) < (s.size : Int) := by omega
                    have HB8 := hidden (bthen HB6.out HBr.out)
                    go_wp2_with fail
                    refine (KN.out _).mono ?_
                    rintro e w9 ⟨rfl, hb⟩
                    have HB9 := hidden (bthen HB8.out hb)
                    clear hb
                    go_wp2
                    go_ret
                    exact ⟨rfl, HB9.out⟩
    · have d0 : ((s.size : Int) != (L : Int)) = true := by
        rw [bne_iff_ne]
        omega
      clear hT hE hR hL hLD hd hd1 hd0 hsl HV hV hz hci
      go_enter Try.func6, Try.ntmps6
      go_wp2
      refine wp_region_quiet_below (by kernel_rfl) (by kernel_rfl) ?_
      repeat (go_big_quiet_step (fail))
      refine wpQuiet_nil ?_
      intro w1 hw1
      have HB1 := hidden (bthen HB0.out (rg_below hw1))
      have HT1 := hidden (HT.out.below (rg_below hw1))
      have HK1 := hidden (blk_later HK.out (rg_below hw1))
      clear hw1
      have c0 := blk_cell HK1.out
      have l0 := blk_lt HK1.out
      go_wp2_with fail
      refine (CP.out _ HT1.out).mono ?_
      rintro e w2 ⟨rfl, hb⟩
      have HB2 := hidden (bthen HB1.out hb)
      have HT2 := hidden (HT1.out.below hb)
      have HK2 := hidden (blk_later HK1.out hb)
      clear hb c0 l0
      have c0 := blk_cell HK2.out
      have l0 := blk_lt HK2.out
      go_wp2_with fail
      refine (CL.out _ HT2.out).mono ?_
      rintro e w3 ⟨rfl, hb⟩
      have HB3 := hidden (bthen HB2.out hb)
      have HT3 := hidden (HT2.out.below hb)
      have HK3 := hidden (blk_later HK2.out hb)
      clear hb c0 l0
      have c0 := blk_cell HK3.out
      have l0 := blk_lt HK3.out
      go_wp2_with fail
      refine (KN.out _).mono ?_
      rintro e w9 ⟨rfl, hb⟩
      have HB9 := hidden (bthen HB3.out hb)
      clear hb
      go_wp2
      go_ret
      exact ⟨rfl, HB9.out⟩
  · have j1 : (plainE n f d p r dr o sl md fr zs != 0) = true := bne_iff_ne.2 hE
    generalize plainE n f d p r dr o sl md fr zs = E at *
    clear hT hE HV hV hz hci
    go_enter Try.func6, Try.ntmps6
    go_wp2
    refine wp_region_quiet_below (by kernel_rfl) (by kernel_rfl) ?_
    repeat (go_big_quiet_step (fail))
    refine wpQuiet_nil ?_
    intro w1 hw1
    have HB1 := hidden (bthen HB0.out (rg_below hw1))
    have HT1 := hidden (HT.out.below (rg_below hw1))
    have HK1 := hidden (blk_later HK.out (rg_below hw1))
    clear hw1
    have c0 := blk_cell HK1.out
    have l0 := blk_lt HK1.out
    go_wp2_with fail
    refine (CP.out _ HT1.out).mono ?_
    rintro e w2 ⟨rfl, hb⟩
    have HB2 := hidden (bthen HB1.out hb)
    have HT2 := hidden (HT1.out.below hb)
    have HK2 := hidden (blk_later HK1.out hb)
    clear hb c0 l0
    have c0 := blk_cell HK2.out
    have l0 := blk_lt HK2.out
    go_wp2_with fail
    refine (KN.out _).mono ?_
    rintro e w9 ⟨rfl, hb⟩
    have HB9 := hidden (bthen HB2.out hb)
    clear hb
    go_wp2
    go_ret
    exact ⟨rfl, HB9.out⟩
end Go.Proofs.Ytkolhbacgoafcaa.LawPipeApart
