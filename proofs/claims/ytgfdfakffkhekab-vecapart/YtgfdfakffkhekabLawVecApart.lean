/- The walk of the statement VecApart: the call returns true, and makes at most new memory; conditions: rows lie where they say, lengths fit int. -/
import Derived.Test.YtgfdfakffkhekabVecP
import Derived.Test.YtgfdfakffkhekabVecK
import Derived.Laws.DeepStrings4
namespace Go.Proofs.Ytgfdfakffkhekab.LawVecApart
open Go.ChangeShapes Go.WideShapes Go.ChangeAt Go.RowKit
set_option linter.unusedVariables false
attribute [local go_sem] cell_rg

theorem wf_i64 {x : Int} (h : -9223372036854775808 ≤ x ∧ x ≤ 9223372036854775807) : (Lit.int .i64 x).wf = true := by
  simp [Lit.wf, IntKind.min, IntKind.max, IntKind.signed, IntKind.bits]
  omega
theorem cut_run (s : ByteArray) (k : Nat) (h : k < s.size) : ∀ W : World, (Instr.slice 9 (.string s) (some (.int .i64 (k : Int))) (some (.int .i64 ((k : Int) + 1))) none).run Try.prog W = .ok (.string (s.extract k (k + 1))) W := fun W => by
  rw [run_slice_string_if W 9 s .i64 .i64 (k : Int) ((k : Int) + 1) Try.underlying9, if_pos ⟨by omega, by omega⟩, if_pos ⟨by omega, by omega⟩]; rfl
/-- The statement's loop, once the last text that tells is known. -/
theorem rows_take (votes : List ByteArray) (k j : Nat) (hj : j < votes.length) : (votes.take (j + 1)).map (fun t => prt t k) = (votes.take j).map (fun t => prt t k) ++ [prt (votes.getD j noB) k] := by
  rw [List.take_succ_eq_append_getElem hj, List.map_append, List.getD_eq_getElem?_getD, List.getElem?_eq_getElem hj, Option.getD_some]
  rfl
set_option maxHeartbeats 2000000 in
theorem walk_some (n f d p r dr o sl md fr : Int) (ad : Option Addr) (cap : Nat) (zs : List Int) (x : Int) (codes : ByteArray) (a2 : Option Addr) (c2 : Nat) (votes : List ByteArray) (w : World) (hl : zs.length ≤ 9223372036854775807) (hT : Tab w ad zs) (hx : -9223372036854775808 ≤ x ∧ x ≤ 9223372036854775807) (hsz : codes.size ≤ 9223372036854775807) (hl2 : votes.length ≤ 9223372036854775807) (hV : kStr.Lies w.heap.size w (.slice a2 votes.length c2) votes) (hz : ∀ t ∈ votes, t.size ≤ 9223372036854775807) (h1 : ¬ (40 : Int) < (codes.size : Int)) (h2 : ¬ (20 : Int) < (votes.length : Int)) (h3 : 0 < votes.length) :
    Calls Try.prog 3 #[.agg #[.int .i64 n, .int .i64 f, .int .i64 d, .int .i64 p, .int .i64 r, .int .i64 dr, .int .i64 o, .int .i64 sl, .int .i64 md, .int .i64 fr, .slice ad zs.length cap], .int .i64 x, .string codes, .slice a2 votes.length c2] w fun e w' => e = .returned (.bool true) ∧ Below w.heap.size w w' := by
  have KN := hidden (fun V => known16_any V)
  have HB0 := hidden (ballc w (.cells #[.int .i64 n, .int .i64 f, .int .i64 d, .int .i64 p, .int .i64 r, .int .i64 dr, .int .i64 o, .int .i64 sl, .int .i64 md, .int .i64 fr, .slice ad zs.length cap] 24))
  have HK := hidden (blk_nw w #[.int .i64 n, .int .i64 f, .int .i64 d, .int .i64 p, .int .i64 r, .int .i64 dr, .int .i64 o, .int .i64 sl, .int .i64 md, .int .i64 fr, .slice ad zs.length cap] 24)
  have HT : Hid (Tab (w.alloc (.cells #[.int .i64 n, .int .i64 f, .int .i64 d, .int .i64 p, .int .i64 r, .int .i64 dr, .int .i64 o, .int .i64 sl, .int .i64 md, .int .i64 fr, .slice ad zs.length cap] 24)) ad zs) := hT.below (ballc _ _)
  have HV := hidden (hV.later (ballc w (.cells #[.int .i64 n, .int .i64 f, .int .i64 d, .int .i64 p, .int .i64 r, .int .i64 dr, .int .i64 o, .int .i64 sl, .int .i64 md, .int .i64 fr, .slice ad zs.length cap] 24)))
  clear hT
  have d1 : decide ((40 : Int) < (codes.size : Int)) = false := decide_eq_false h1
  have d1' : decide (40 < codes.size) = false := decide_eq_false (by omega)
  have d2 : decide ((20 : Int) < (votes.length : Int)) = false := decide_eq_false h2
  have d2' : decide (20 < votes.length) = false := decide_eq_false (by omega)
  have HWX := hidden (wf_i64 hx)
  have HZ := hidden hz
  obtain ⟨i0, hi, hz0, hz1, hz2⟩ := info_of infoStr
  have i3 : (0 : Int) < (votes.length : Int) := by omega
  have i4 : votes.length - 1 < votes.length := by omega
  obtain ⟨b, off, rfl, hbl, e0⟩ := kStr_at HV.out (votes.length - 1) i4
  have hm : votes.getD (votes.length - 1) noB ∈ votes := by rw [List.getD_eq_getElem?_getD, List.getElem?_eq_getElem i4, Option.getD_some]; exact List.getElem_mem i4
  have hts := hz _ hm
  have i5 : (votes.length : Int) - 1 = ((votes.length - 1 : Nat) : Int) := by omega
  clear hm
  generalize votes.getD (votes.length - 1) noB = told at *
  generalize hL1 : votes.length - 1 = L1 at *
  clear hL1
  clear hV hz
  go_enter Try.func3, Try.ntmps3
  go_wp2_with fail
  refine (VStep_any n f d p r dr o sl md fr ad cap zs x codes told (some ⟨b, off, none⟩) c2 votes _ hl HT.out HWX.out (by omega) hts (by omega) HV.out HZ.out).mono ?_
  rintro e w2 ⟨rfl, hb⟩
  have HB2 := hidden hb
  have hall : (dgB codes.size (stpG (plainE n f d p r dr o sl md fr zs) n f x codes told votes)).size = codes.size := dgB_size _ _
  have HCUT := hidden (fun (k : Nat) (hk : k < codes.size) => step_prt (plainE n f d p r dr o sl md fr zs) n f x codes told votes hk)
  have HT2 := hidden (HT.out.below hb)
  have HV2 := hidden (HV.out.later hb)
  have HK2 := hidden (blk_later HK.out hb)
  have HB02 := hidden (bthen HB0.out hb)
  clear hb HT HV HK
  generalize dgB codes.size (stpG (plainE n f d p r dr o sl md fr zs) n f x codes told votes) = all at *
  go_wp2
  go_loopw [11] (fun i wr => ∃ k : Nat, k ≤ codes.size ∧ i = .int .i64 k ∧ Below w2.heap.size w2 wr) (fun i _ => codes.size - (intV i).toNat)
  case atStart => exact ⟨0, Nat.zero_le _, rfl, Below.refl _ _⟩
  case round =>
    obtain ⟨k, hk, rfl, hB⟩ := hrel
    have HBr := hidden hB
    clear hB
    by_cases hlt : k < codes.size
    · have k2 : (k : Int) < (codes.size : Int) := by omega
      go_wp2
      obtain ⟨wY, rfl⟩ : ∃ wY, wY = wr := ⟨_, rfl⟩
      go_loopw [12, 13] (fun a i wr => ∃ j : Nat, j ≤ votes.length ∧ i = .int .i64 j ∧ wr.ownsRow wY.heap.size 9 1 a j (kStr.flat ((votes.take j).map fun t => prt t k)) ∧ Below wY.heap.size wY wr) (fun _ i _ => votes.length - (intV i).toNat)
      case atStart => exact ⟨0, Nat.zero_le _, rfl, World.ownsRow_nil _ _ _ _, Below.refl _ _⟩
      case round =>
        obtain ⟨j, hj, rfl, hown, hB⟩ := hrel
        have HBj := hidden hB
        have HO := hidden hown
        have hBB := bthen HBr.out hB
        by_cases hjl : j < votes.length
        · have j2 : (j : Int) < (votes.length : Int) := by omega
          obtain ⟨b', off', he', hbl', e0'⟩ := kStr_at (HV2.out.later hBB) j hjl
          obtain ⟨rfl, rfl⟩ : b = b' ∧ off = off' := by simpa using he'
          have hm : votes.getD j noB ∈ votes := by rw [List.getD_eq_getElem?_getD, List.getElem?_eq_getElem hjl, Option.getD_some]; exact List.getElem_mem hjl
          have C1 := hidden (fun V => part_any (votes.getD j noB) k V (HZ.out _ hm))
          have HTK := hidden (rows_take votes k j hjl)
          have hp1 := prt_size (votes.getD j noB) k
          clear hB hown hBB hm
          generalize prt (votes.getD j noB) k = z at *
          generalize votes.getD j noB = t at *
          go_wp2_with (first
            | (go_at_call 7; refine (C1.out _).mono ?_; rintro e w4 ⟨rfl, rfl⟩)
            | (at_builtin; refine kStr.wpList_append _ rfl (.tmp 56) (.tmp 63) 25 rfl wY.heap.size 9 i0 (.string noB) 16 Try.underlying25 hi hz0 hz1 hz2 rfl u12 j _ rfl (HO.out.alloc _) (.slice (some ⟨wr.heap.size, 0, none⟩) 1 1) [z] rfl (Kind.Lies.of_block (K := kStr) (es := [z]) (heap_alloc_new wr _) (by simp [maxLen])) (by simp only [maxLen, List.length_singleton]; omega) (by simp only [List.length_singleton]; omega) (by have := HBj.out.size; simp; omega) ?_; intro v3 w3 hown3 hgrow3 _))
          have hB3 : Below wY.heap.size wY w3 := (HBj.out.alloc HBj.out.size _).grown hgrow3 (by have := HBj.out.size; simp; omega) (own_from HO.out)
          have hrow : w3.ownsRow wY.heap.size 9 1 v3 (j + 1) (kStr.flat ((votes.take (j + 1)).map fun t => prt t k)) := by
            rw [HTK.out, Kind.flat_append]
            exact hown3
          go_roundw
          case rel => exact ⟨j + 1, by omega, by go_num, hrow, hB3⟩
          case measure => simp [intV]; omega
        · obtain rfl : j = votes.length := by omega
          have j2 : ¬ (votes.length : Int) < (votes.length : Int) := by omega
          rw [List.take_length] at hown
          obtain ⟨al, cl, rfl⟩ := own_slice hown
          have hli : Hid (kStr.Lies wr.heap.size wr (.slice al votes.length cl) (votes.map fun t => prt t k)) := Kind.Lies.of_own (K := kStr) (es := votes.map fun t => prt t k) (by rw [List.length_map]; exact hown)
          have HBB := hidden hBB
          have HKr := hidden (blk_later HK2.out hBB)
          have c0 := fun i => blk_cell HKr.out i
          have l0 := blk_lt HKr.out
          have HTr := hidden (HT2.out.below hBB)
          have i1 : (0 : Int) ≤ (k : Int) := by omega
          have CP := hidden (fun V => part_any told k V hts)
          have CS : ∀ V, Tab V ad zs → kStr.Lies V.heap.size V (.slice al votes.length cl) (votes.map fun t => prt t k) → Calls Try.prog 6 #[.agg #[.int .i64 n, .int .i64 f, .int .i64 d, .int .i64 p, .int .i64 r, .int .i64 dr, .int .i64 o, .int .i64 sl, .int .i64 md, .int .i64 fr, .slice ad zs.length cap], .int .i64 x, .string (codes.extract k (k + 1)), .string (prt told k), .slice al votes.length cl] V fun e w' => e = .returned (.string (all.extract k (k + 1))) ∧ Below V.heap.size V w' := fun V h q => by
            have z := VStep_any n f d p r dr o sl md fr ad cap zs x (prt codes k) (prt told k) al cl (votes.map fun t => prt t k) V hl h HWX.out (by have := prt_size codes k; omega) (by have := prt_size told k; omega) (by rw [List.length_map]; omega) (by rw [List.length_map]; exact q) (fun t ht => by obtain ⟨r, _, rfl⟩ := List.mem_map.1 ht; have := prt_size r k; omega)
            rw [List.length_map, HCUT.out k hlt, prt_in hlt] at z
            exact z
          have CS := hidden CS
          have s1 := cut_run codes k hlt
          have s2 := cut_run all k (by omega)
          have t1 : IntKind.i64.wrap ((k : Int) + 1) = (k : Int) + 1 := IntWalk.i64_in _ (by omega)
          generalize all.extract k (k + 1) = ae at *
          generalize codes.extract k (k + 1) = ce at *
          generalize prt told k = te at *
          clear hown hB hBB HO
          go_wp2
          refine wp_region_quiet_below (by kernel_rfl) (by kernel_rfl) ?_
          repeat (go_big_quiet_step (first
            | (go_at_call 7; exact Calls.regrown_of (Calls.to_below (CP.out _)))
            | (go_at_call 6; exact Calls.regrown_of (CS.out _ (HTr.out.below (below_regrown _ _ _)) (hli.out.later (below_regrown _ _ _))))))
          refine wpQuiet_nil ?_
          intro w6 hw6
          have HB6 := hidden (bthen HBB.out (rg_below hw6))
          clear hw6 c0 l0 t1 s1 s2
          go_wp2
          go_roundw
          case rel => exact ⟨k + 1, by omega, by go_num, HB6.out⟩
          case measure => simp [intV]; omega
    · obtain rfl : k = codes.size := by omega
      have k2 : ¬ (codes.size : Int) < (codes.size : Int) := by omega
      go_wp2_with fail
      refine (KN.out _).mono ?_
      rintro e w4 ⟨rfl, hb⟩
      have HB4 := hidden (bthen HB02.out (bthen HBr.out hb))
      clear hb
      go_wp2
      go_ret
      exact ⟨rfl, HB4.out⟩

set_option maxHeartbeats 2000000 in
theorem walk_none (n f d p r dr o sl md fr : Int) (ad : Option Addr) (cap : Nat) (zs : List Int) (x : Int) (codes : ByteArray) (a2 : Option Addr) (c2 : Nat) (votes : List ByteArray) (w : World) (hl : zs.length ≤ 9223372036854775807) (hT : Tab w ad zs) (hx : -9223372036854775808 ≤ x ∧ x ≤ 9223372036854775807) (hsz : codes.size ≤ 9223372036854775807) (hl2 : votes.length ≤ 9223372036854775807) (hV : kStr.Lies w.heap.size w (.slice a2 votes.length c2) votes) (hz : ∀ t ∈ votes, t.size ≤ 9223372036854775807) (h1 : ¬ (40 : Int) < (codes.size : Int)) (h2 : ¬ (20 : Int) < (votes.length : Int)) (h3 : ¬ 0 < votes.length) :
    Calls Try.prog 3 #[.agg #[.int .i64 n, .int .i64 f, .int .i64 d, .int .i64 p, .int .i64 r, .int .i64 dr, .int .i64 o, .int .i64 sl, .int .i64 md, .int .i64 fr, .slice ad zs.length cap], .int .i64 x, .string codes, .slice a2 votes.length c2] w fun e w' => e = .returned (.bool true) ∧ Below w.heap.size w w' := by
  have KN := hidden (fun V => known16_any V)
  have HB0 := hidden (ballc w (.cells #[.int .i64 n, .int .i64 f, .int .i64 d, .int .i64 p, .int .i64 r, .int .i64 dr, .int .i64 o, .int .i64 sl, .int .i64 md, .int .i64 fr, .slice ad zs.length cap] 24))
  have HK := hidden (blk_nw w #[.int .i64 n, .int .i64 f, .int .i64 d, .int .i64 p, .int .i64 r, .int .i64 dr, .int .i64 o, .int .i64 sl, .int .i64 md, .int .i64 fr, .slice ad zs.length cap] 24)
  have HT : Hid (Tab (w.alloc (.cells #[.int .i64 n, .int .i64 f, .int .i64 d, .int .i64 p, .int .i64 r, .int .i64 dr, .int .i64 o, .int .i64 sl, .int .i64 md, .int .i64 fr, .slice ad zs.length cap] 24)) ad zs) := hT.below (ballc _ _)
  have HV := hidden (hV.later (ballc w (.cells #[.int .i64 n, .int .i64 f, .int .i64 d, .int .i64 p, .int .i64 r, .int .i64 dr, .int .i64 o, .int .i64 sl, .int .i64 md, .int .i64 fr, .slice ad zs.length cap] 24)))
  clear hT
  have d1 : decide ((40 : Int) < (codes.size : Int)) = false := decide_eq_false h1
  have d1' : decide (40 < codes.size) = false := decide_eq_false (by omega)
  have d2 : decide ((20 : Int) < (votes.length : Int)) = false := decide_eq_false h2
  have d2' : decide (20 < votes.length) = false := decide_eq_false (by omega)
  have HWX := hidden (wf_i64 hx)
  have HZ := hidden hz
  obtain ⟨i0, hi, hz0, hz1, hz2⟩ := info_of infoStr
  have i3 : ¬ (0 : Int) < (votes.length : Int) := by omega
  have hts : codes.size ≤ 9223372036854775807 := hsz
  clear hV hz
  go_enter Try.func3, Try.ntmps3
  go_wp2_with fail
  refine (VStep_any n f d p r dr o sl md fr ad cap zs x codes codes a2 c2 votes _ hl HT.out HWX.out (by omega) hts (by omega) HV.out HZ.out).mono ?_
  rintro e w2 ⟨rfl, hb⟩
  have HB2 := hidden hb
  have hall : (dgB codes.size (stpG (plainE n f d p r dr o sl md fr zs) n f x codes codes votes)).size = codes.size := dgB_size _ _
  have HCUT := hidden (fun (k : Nat) (hk : k < codes.size) => step_prt (plainE n f d p r dr o sl md fr zs) n f x codes codes votes hk)
  have HT2 := hidden (HT.out.below hb)
  have HV2 := hidden (HV.out.later hb)
  have HK2 := hidden (blk_later HK.out hb)
  have HB02 := hidden (bthen HB0.out hb)
  clear hb HT HV HK
  generalize dgB codes.size (stpG (plainE n f d p r dr o sl md fr zs) n f x codes codes votes) = all at *
  go_wp2
  go_loopw [11] (fun i wr => ∃ k : Nat, k ≤ codes.size ∧ i = .int .i64 k ∧ Below w2.heap.size w2 wr) (fun i _ => codes.size - (intV i).toNat)
  case atStart => exact ⟨0, Nat.zero_le _, rfl, Below.refl _ _⟩
  case round =>
    obtain ⟨k, hk, rfl, hB⟩ := hrel
    have HBr := hidden hB
    clear hB
    by_cases hlt : k < codes.size
    · have k2 : (k : Int) < (codes.size : Int) := by omega
      go_wp2
      obtain ⟨wY, rfl⟩ : ∃ wY, wY = wr := ⟨_, rfl⟩
      go_loopw [12, 13] (fun a i wr => ∃ j : Nat, j ≤ votes.length ∧ i = .int .i64 j ∧ wr.ownsRow wY.heap.size 9 1 a j (kStr.flat ((votes.take j).map fun t => prt t k)) ∧ Below wY.heap.size wY wr) (fun _ i _ => votes.length - (intV i).toNat)
      case atStart => exact ⟨0, Nat.zero_le _, rfl, World.ownsRow_nil _ _ _ _, Below.refl _ _⟩
      case round =>
        obtain ⟨j, hj, rfl, hown, hB⟩ := hrel
        have HBj := hidden hB
        have HO := hidden hown
        have hBB := bthen HBr.out hB
        by_cases hjl : j < votes.length
        · exact absurd hjl (fun q => h3 (by omega))
        · obtain rfl : j = votes.length := by omega
          have j2 : ¬ (votes.length : Int) < (votes.length : Int) := by omega
          rw [List.take_length] at hown
          obtain ⟨al, cl, rfl⟩ := own_slice hown
          have hli : Hid (kStr.Lies wr.heap.size wr (.slice al votes.length cl) (votes.map fun t => prt t k)) := Kind.Lies.of_own (K := kStr) (es := votes.map fun t => prt t k) (by rw [List.length_map]; exact hown)
          have HBB := hidden hBB
          have HKr := hidden (blk_later HK2.out hBB)
          have c0 := fun i => blk_cell HKr.out i
          have l0 := blk_lt HKr.out
          have HTr := hidden (HT2.out.below hBB)
          have i1 : (0 : Int) ≤ (k : Int) := by omega
          have CP := hidden (fun V => part_any codes k V hts)
          rw [prt_in hlt] at CP
          have CS : ∀ V, Tab V ad zs → kStr.Lies V.heap.size V (.slice al votes.length cl) (votes.map fun t => prt t k) → Calls Try.prog 6 #[.agg #[.int .i64 n, .int .i64 f, .int .i64 d, .int .i64 p, .int .i64 r, .int .i64 dr, .int .i64 o, .int .i64 sl, .int .i64 md, .int .i64 fr, .slice ad zs.length cap], .int .i64 x, .string (codes.extract k (k + 1)), .string (codes.extract k (k + 1)), .slice al votes.length cl] V fun e w' => e = .returned (.string (all.extract k (k + 1))) ∧ Below V.heap.size V w' := fun V h q => by
            have z := VStep_any n f d p r dr o sl md fr ad cap zs x (prt codes k) (prt codes k) al cl (votes.map fun t => prt t k) V hl h HWX.out (by have := prt_size codes k; omega) (by have := prt_size codes k; omega) (by rw [List.length_map]; omega) (by rw [List.length_map]; exact q) (fun t ht => by obtain ⟨r, _, rfl⟩ := List.mem_map.1 ht; have := prt_size r k; omega)
            rw [List.length_map, HCUT.out k hlt, prt_in hlt] at z
            exact z
          have CS := hidden CS
          have s1 := cut_run codes k hlt
          have s2 := cut_run all k (by omega)
          have t1 : IntKind.i64.wrap ((k : Int) + 1) = (k : Int) + 1 := IntWalk.i64_in _ (by omega)
          generalize all.extract k (k + 1) = ae at *
          generalize codes.extract k (k + 1) = ce at *
          skip
          clear hown hB hBB HO
          go_wp2
          refine wp_region_quiet_below (by kernel_rfl) (by kernel_rfl) ?_
          repeat (go_big_quiet_step (first
            | (go_at_call 7; exact Calls.regrown_of (Calls.to_below (CP.out _)))
            | (go_at_call 6; exact Calls.regrown_of (CS.out _ (HTr.out.below (below_regrown _ _ _)) (hli.out.later (below_regrown _ _ _))))))
          refine wpQuiet_nil ?_
          intro w6 hw6
          have HB6 := hidden (bthen HBB.out (rg_below hw6))
          clear hw6 c0 l0 t1 s1 s2
          go_wp2
          go_roundw
          case rel => exact ⟨k + 1, by omega, by go_num, HB6.out⟩
          case measure => simp [intV]; omega
    · obtain rfl : k = codes.size := by omega
      have k2 : ¬ (codes.size : Int) < (codes.size : Int) := by omega
      go_wp2_with fail
      refine (KN.out _).mono ?_
      rintro e w4 ⟨rfl, hb⟩
      have HB4 := hidden (bthen HB02.out (bthen HBr.out hb))
      clear hb
      go_wp2
      go_ret
      exact ⟨rfl, HB4.out⟩

set_option maxHeartbeats 4000000 in
theorem walk (n f d p r dr o sl md fr : Int) (ad : Option Addr) (cap : Nat) (zs : List Int) (x : Int) (codes : ByteArray) (a2 : Option Addr) (c2 : Nat) (votes : List ByteArray) (w : World) (hl : zs.length ≤ 9223372036854775807) (hT : Tab w ad zs) (hx : -9223372036854775808 ≤ x ∧ x ≤ 9223372036854775807) (hsz : codes.size ≤ 9223372036854775807) (hl2 : votes.length ≤ 9223372036854775807) (hV : kStr.Lies w.heap.size w (.slice a2 votes.length c2) votes) (hz : ∀ t ∈ votes, t.size ≤ 9223372036854775807) :
    Calls Try.prog 3 #[.agg #[.int .i64 n, .int .i64 f, .int .i64 d, .int .i64 p, .int .i64 r, .int .i64 dr, .int .i64 o, .int .i64 sl, .int .i64 md, .int .i64 fr, .slice ad zs.length cap], .int .i64 x, .string codes, .slice a2 votes.length c2] w fun e w' => e = .returned (.bool true) ∧ Below w.heap.size w w' := by
  have KN := hidden (fun V => known16_any V)
  have HB0 := hidden (ballc w (.cells #[.int .i64 n, .int .i64 f, .int .i64 d, .int .i64 p, .int .i64 r, .int .i64 dr, .int .i64 o, .int .i64 sl, .int .i64 md, .int .i64 fr, .slice ad zs.length cap] 24))
  have HK := hidden (blk_nw w #[.int .i64 n, .int .i64 f, .int .i64 d, .int .i64 p, .int .i64 r, .int .i64 dr, .int .i64 o, .int .i64 sl, .int .i64 md, .int .i64 fr, .slice ad zs.length cap] 24)
  have HT : Hid (Tab (w.alloc (.cells #[.int .i64 n, .int .i64 f, .int .i64 d, .int .i64 p, .int .i64 r, .int .i64 dr, .int .i64 o, .int .i64 sl, .int .i64 md, .int .i64 fr, .slice ad zs.length cap] 24)) ad zs) := hT.below (ballc _ _)
  have HV := hidden (hV.later (ballc w (.cells #[.int .i64 n, .int .i64 f, .int .i64 d, .int .i64 p, .int .i64 r, .int .i64 dr, .int .i64 o, .int .i64 sl, .int .i64 md, .int .i64 fr, .slice ad zs.length cap] 24)))
  by_cases h1 : (40 : Int) < (codes.size : Int)
  · have d1 : decide ((40 : Int) < (codes.size : Int)) = true := decide_eq_true h1
    have d1' : decide (40 < codes.size) = true := decide_eq_true (by omega)
    clear hV hz HV HT HK
    go_enter Try.func3, Try.ntmps3
    go_wp2_with fail
    refine (KN.out _).mono ?_
    rintro e w2 ⟨rfl, hb⟩
    have HB2 := hidden (bthen HB0.out hb)
    clear hb
    go_wp2
    go_ret
    exact ⟨rfl, HB2.out⟩
  · have d1 : decide ((40 : Int) < (codes.size : Int)) = false := decide_eq_false h1
    have d1' : decide (40 < codes.size) = false := decide_eq_false (by omega)
    by_cases h2 : (20 : Int) < (votes.length : Int)
    · have d2 : decide ((20 : Int) < (votes.length : Int)) = true := decide_eq_true h2
      have d2' : decide (20 < votes.length) = true := decide_eq_true (by omega)
      clear hV hz HV HT HK
      go_enter Try.func3, Try.ntmps3
      go_wp2_with fail
      refine (KN.out _).mono ?_
      rintro e w2 ⟨rfl, hb⟩
      have HB2 := hidden (bthen HB0.out hb)
      clear hb
      go_wp2
      go_ret
      exact ⟨rfl, HB2.out⟩
    · have d2 : decide ((20 : Int) < (votes.length : Int)) = false := decide_eq_false h2
      have d2' : decide (20 < votes.length) = false := decide_eq_false (by omega)
      by_cases h3 : 0 < votes.length
      · exact walk_some n f d p r dr o sl md fr ad cap zs x codes a2 c2 votes w hl hT hx hsz hl2 hV hz h1 h2 h3
      · exact walk_none n f d p r dr o sl md fr ad cap zs x codes a2 c2 votes w hl hT hx hsz hl2 hV hz h1 h2 h3
end Go.Proofs.Ytgfdfakffkhekab.LawVecApart
