/- The walk of the statement KingKeeps: the call returns true, and makes at most new memory; conditions: the table and the rows lie where they say, and lengths fit int. -/
import Derived.Test.YtklcjfbdneallabKinK
import Derived.Test.YtklcjfbdneallabKinQ
import Derived.Maps.OwnIn
namespace Go.Proofs.Ytklcjfbdneallab.LawKingKeeps
open Go.ChangeShapes Go.WideShapes Go.ChangeAt Go.RowKit
set_option linter.unusedVariables false

theorem Hid2 {q : Prop} (h : Hid q) : q := h
/-- What node i begins with. -/
def allF (fa : Nat → Bool) (v : Int) (k : Nat) : List Int := (List.range k).map fun i => if fa i = true then 1 - v else v
theorem allF_s (fa : Nat → Bool) (v : Int) (k : Nat) : allF fa v (k + 1) = allF fa v k ++ [if fa k = true then 1 - v else v] := by
  unfold allF
  rw [List.range_succ, List.map_append]
  rfl
theorem allF_len (fa : Nat → Bool) (v : Int) (k : Nat) : (allF fa v k).length = k := by simp [allF]
theorem allF_at {fa : Nat → Bool} {v : Int} {N k : Nat} (hk : k < N) (hf : fa k = false) : (allF fa v N).getD k 0 = v := by
  unfold allF
  rw [range_getD _ _ _ _ hk, if_neg (by rw [hf]; decide)]
theorem ends_at {fa : Nat → Bool} {N : Nat} {bs : List (Int × Bool)} {u : Int} (h : ComV fa N u bs) (k : Nat) (hk : k < N) (hf : fa k = false) : (endsL fa N bs).getD k 0 = u := by
  unfold endsL
  rw [range_getD _ _ _ _ hk]
  unfold endN
  rw [if_neg (by rw [hf]; decide)]
  exact h k hk hf
set_option maxHeartbeats 4000000 in
theorem walk (n f d p r dr o sl md fr : Int) (ad : Option Addr) (cap : Nat) (zs : List Int) (bit : Bool) (a2 : Option Addr) (c2 : Nat) (fs : List Int) (a3 : Option Addr) (c3 : Nat) (vs : List Int) (w : World) (hl : zs.length ≤ 9223372036854775807) (hT : Tab w ad zs)
    (h2 : fs.length ≤ 9223372036854775807) (hV2 : kInt.Lies w.heap.size w (.slice a2 fs.length c2) fs) (h3 : vs.length ≤ 9223372036854775807) (hV3 : kInt.Lies w.heap.size w (.slice a3 vs.length c3) vs) :
    Calls Try.prog 4 #[.agg #[.int .i64 n, .int .i64 f, .int .i64 d, .int .i64 p, .int .i64 r, .int .i64 dr, .int .i64 o, .int .i64 sl, .int .i64 md, .int .i64 fr, .slice ad zs.length cap], .bool bit, .slice a2 fs.length c2, .slice a3 vs.length c3] w fun e w' => e = .returned (.bool true) ∧ Below w.heap.size w w' := by
  by_cases hno : plainE n f d p r dr o sl md fr zs = 0 ∧ fs.length ≤ 20
  · obtain ⟨hE, h20⟩ := hno
    obtain ⟨n1, n2, f1, f2, fn, _⟩ := plainE_ok hE
    obtain ⟨N, rfl⟩ : ∃ N : Nat, n = (N : Int) := ⟨n.toNat, by omega⟩
    obtain ⟨F, hF⟩ : ∃ F : Nat, f = (F : Int) := ⟨f.toNat, by omega⟩
    have CF := hidden (few_ok N f d p r dr o sl md fr ad cap zs a2 c2 fs h20 (w.alloc (.cells #[.int .i64 (N : Int), .int .i64 f, .int .i64 d, .int .i64 p, .int .i64 r, .int .i64 dr, .int .i64 o, .int .i64 sl, .int .i64 md, .int .i64 fr, .slice ad zs.length cap] 24)) hl (hT.below (ballc _ _)) hE (hV2.later (ballc _ _)))
    by_cases hfw : (facL (faB N fs) N : Int) ≤ f
    · rw [decide_eq_true hfw] at CF
      have hfac : facL (faB N fs) N ≤ F := by omega
      have hN3 : 3 * F < N := by omega
      obtain ⟨v, hv⟩ : ∃ v : Int, v = if bit = true then 1 else 0 := ⟨_, rfl⟩
      have hv01 : v = 0 ∨ v = 1 := by rw [hv]; split <;> simp
      have HLA := hidden (allF_len (faB N fs) v N)
      have CP := hidden (fun V aa ca (hb : Below w.heap.size w V) (hA : kInt.Lies V.heap.size V (.slice aa (allF (faB N fs) v N).length ca) (allF (faB N fs) v N)) => Play_ok N f d p r dr o sl md fr ad cap zs F hF aa ca (allF (faB N fs) v N) a2 c2 fs a3 c3 vs V hl (hT.below hb) hE (by rw [HLA.out]; omega) h2 h3 hA (hV2.later hb) (hV3.later hb))
      have hcom := keep_end (lies := vs) (bits := allF (faB N fs) v N) hv01 hfac hN3 (fun a ha hf => allF_at ha hf)
      rw [← hF] at hcom
      have HAT := hidden (fun k hk hf => ends_at hcom k hk hf)
      have HLEN : Hid ((endsL (faB N fs) N (playL (faB N fs) vs N f (allF (faB N fs) v N) (3 * (F + 1)))).length = N) := by show _ = _; simp [endsL]
      generalize endsL (faB N fs) N (playL (faB N fs) vs N f (allF (faB N fs) v N) (3 * (F + 1))) = out at *
      rw [HLA.out] at CP
      have HV2 := hidden hV2
      have hN13 : N ≤ 13 := by omega
      obtain ⟨i0, hi, hz0, hz1, hz2⟩ := info_of infoInt
      have HBIT := hidden hv
      clear hT hE hV2 hV3 hfw hF hfac hN3 hcom n1 n2 f1 f2 fn hv HLA
      cases bit
      · obtain rfl : v = 0 := HBIT.out
        go_enter Try.func4, Try.ntmps4
        go_wp2_with fail
        refine CF.out.mono ?_
        rintro e w2 ⟨rfl, hb⟩
        have HB2 := hidden (bthen (ballc w _) hb)
        have HK2 := hidden (blk_later (blk_nw w #[.int .i64 (N : Int), .int .i64 f, .int .i64 d, .int .i64 p, .int .i64 r, .int .i64 dr, .int .i64 o, .int .i64 sl, .int .i64 md, .int .i64 fr, .slice ad zs.length cap] 24) hb)
        have HV3 := hidden (HV2.out.later HB2.out)
        clear hb CF
        go_wp2
        go_loopw [10, 11] (fun a i wr => ∃ k : Nat, k ≤ N ∧ i = .int .i64 k ∧ wr.ownsRow w2.heap.size 3 1 a k (kInt.flat (allF (faB N fs) 0 k)) ∧ Below w2.heap.size w2 wr) (fun _ i _ => N - (intV i).toNat)
        case atStart => exact ⟨0, Nat.zero_le _, rfl, World.ownsRow_nil _ _ _ _, Below.refl _ _⟩
        case round =>
          obtain ⟨k, hk, rfl, hown, hB⟩ := hrel
          have c0 := fun i => blk_cell (blk_later HK2.out hB) i
          have l0 := blk_lt (blk_later HK2.out hB)
          by_cases hlt : k < N
          · have i2 : (k : Int) < (N : Int) := by omega
            have CI := hidden (rIn_any (k : Int) a2 c2 fs h2 wr (HV3.out.later hB))
            rw [← faB_in (N := N) hlt] at CI
            by_cases hf : faB N fs k = true
            · rw [hf] at CI
              have HS : Hid (allF (faB N fs) 0 (k + 1) = allF (faB N fs) 0 k ++ [1 - 0]) := (allF_s _ _ _).trans (by rw [if_pos hf])
              clear hf
              go_wp2_with fail
              refine CI.out.mono ?_
              rintro e w4 ⟨rfl, rfl⟩
              go_wp2_with (at_builtin; refine kInt.wpList_append _ rfl (.tmp 29) (.tmp 32) 22 rfl w2.heap.size 3 i0 (.int .i64 0) 8 Try.underlying22 hi hz0 hz1 hz2 rfl u10 k _ rfl (hown.alloc _) (.slice (some ⟨wr.heap.size, 0, none⟩) 1 1) [1] rfl (Kind.Lies.of_block (K := kInt) (es := [1]) (heap_alloc_new wr _) (by decide)) (by simp only [maxLen, List.length_singleton]; omega) (by simp only [List.length_singleton]; omega) (by have := hB.size; simp; omega) ?_; intro v3 w3 hown3 hgrow3 hbl3)
              have hB3 : Below w2.heap.size w2 w3 := (hB.alloc hB.size _).grown hgrow3 (by have := hB.size; simp; omega) (own_from hown)
              have hrow : w3.ownsRow w2.heap.size 3 1 v3 (k + 1) (kInt.flat (allF (faB N fs) 0 (k + 1))) := by
                rw [HS.out, Kind.flat_append]
                exact hown3
              go_roundw
              case rel => exact ⟨k + 1, by omega, by go_num, hrow, hB3⟩
              case measure => simp [intV]; omega
            · have hf' : faB N fs k = false := by simpa using hf
              rw [hf'] at CI
              have HS : Hid (allF (faB N fs) 0 (k + 1) = allF (faB N fs) 0 k ++ [0]) := (allF_s _ _ _).trans (by rw [if_neg hf])
              clear hf hf'
              go_wp2_with fail
              refine CI.out.mono ?_
              rintro e w4 ⟨rfl, rfl⟩
              go_wp2_with (at_builtin; refine kInt.wpList_append _ rfl (.tmp 34) (.tmp 36) 22 rfl w2.heap.size 3 i0 (.int .i64 0) 8 Try.underlying22 hi hz0 hz1 hz2 rfl u10 k _ rfl (hown.alloc _) (.slice (some ⟨wr.heap.size, 0, none⟩) 1 1) [0] rfl (Kind.Lies.of_block (K := kInt) (es := [0]) (heap_alloc_new wr _) (by decide)) (by simp only [maxLen, List.length_singleton]; omega) (by simp only [List.length_singleton]; omega) (by have := hB.size; simp; omega) ?_; intro v3 w3 hown3 hgrow3 hbl3)
              have hB3 : Below w2.heap.size w2 w3 := (hB.alloc hB.size _).grown hgrow3 (by have := hB.size; simp; omega) (own_from hown)
              have hrow : w3.ownsRow w2.heap.size 3 1 v3 (k + 1) (kInt.flat (allF (faB N fs) 0 (k + 1))) := by
                rw [HS.out, Kind.flat_append]
                exact hown3
              go_roundw
              case rel => exact ⟨k + 1, by omega, by go_num, hrow, hB3⟩
              case measure => simp [intV]; omega
          · obtain rfl : k = N := by omega
            obtain ⟨aa, ca, rfl⟩ := own_slice hown
            have hli : kInt.Lies wr.heap.size wr (.slice aa k ca) (allF (faB k fs) 0 k) := Kind.Lies.of_own (K := kInt) (base := w2.heap.size) (e := 3) (by rw [allF_len]; exact hown)
            have CQ := hidden (CP.out wr aa ca (bthen HB2.out hB) hli)
            have HBr := hidden (bthen HB2.out hB)
            have HKr := hidden (blk_later HK2.out hB)
            clear CP hli hown hB HK2 HB2
            go_wp2_with fail
            refine CQ.out.mono ?_
            rintro e w5 ⟨g, rfl, hO, hb⟩
            have HB5 := hidden (bthen HBr.out hb)
            have HK5 := hidden (blk_later HKr.out hb)
            have HO := hidden hO
            have HV5 := hidden (HV2.out.later HB5.out)
            clear c0 l0 hb hO CQ HKr HBr HV3
            have c0 := fun i => blk_cell HK5.out i
            have l0 := blk_lt HK5.out
            have lo := HO.out.lt
            go_wp2
            go_loop [13] (fun i => ∃ m : Nat, m ≤ k ∧ i = .int .i64 m) (fun i => k - (intV i).toNat)
            case atStart => exact ⟨0, Nat.zero_le _, rfl⟩
            case round =>
              obtain ⟨m, hm, rfl⟩ := hrel
              by_cases hlt2 : m < k
              · have i1 : (0 : Int) ≤ (m : Int) := by omega
                have i2 : (m : Int) < (k : Int) := by omega
                have CI := hidden (rIn_any (m : Int) a2 c2 fs h2 w5 HV5.out)
                rw [← faB_in (N := k) hlt2] at CI
                by_cases hf : faB k fs m = true
                · rw [hf] at CI
                  clear hf
                  go_wp2_with fail
                  refine CI.out.mono ?_
                  rintro e w6 ⟨rfl, rfl⟩
                  go_wp2
                  go_round
                  case rel => exact ⟨m + 1, by omega, by go_num⟩
                  case measure => simp [intV]; omega
                · have hf' : faB k fs m = false := by simpa using hf
                  rw [hf'] at CI
                  have hc := HO.out.cell m (by rw [HLEN.out]; exact hlt2)
                  rw [HAT.out m hlt2 hf'] at hc
                  clear hf hf'
                  go_wp2_with fail
                  refine CI.out.mono ?_
                  rintro e w6 ⟨rfl, rfl⟩
                  go_wp2
                  go_round
                  case rel => exact ⟨m + 1, by omega, by go_num⟩
                  case measure => simp [intV]; omega
              · obtain rfl : m = k := by omega
                have KN := hidden (fun V => known14_any V)
                have i2 : ¬ (m : Int) < (m : Int) := by omega
                go_wp2_with fail
                refine (KN.out _).mono ?_
                rintro e w7 ⟨rfl, hb⟩
                have HB7 := hidden (bthen HB5.out hb)
                clear hb
                go_wp2
                go_ret
                exact ⟨rfl, HB7.out⟩
      · obtain rfl : v = 1 := HBIT.out
        go_enter Try.func4, Try.ntmps4
        go_wp2_with fail
        refine CF.out.mono ?_
        rintro e w2 ⟨rfl, hb⟩
        have HB2 := hidden (bthen (ballc w _) hb)
        have HK2 := hidden (blk_later (blk_nw w #[.int .i64 (N : Int), .int .i64 f, .int .i64 d, .int .i64 p, .int .i64 r, .int .i64 dr, .int .i64 o, .int .i64 sl, .int .i64 md, .int .i64 fr, .slice ad zs.length cap] 24) hb)
        have HV3 := hidden (HV2.out.later HB2.out)
        clear hb CF
        go_wp2
        go_loopw [10, 11] (fun a i wr => ∃ k : Nat, k ≤ N ∧ i = .int .i64 k ∧ wr.ownsRow w2.heap.size 3 1 a k (kInt.flat (allF (faB N fs) 1 k)) ∧ Below w2.heap.size w2 wr) (fun _ i _ => N - (intV i).toNat)
        case atStart => exact ⟨0, Nat.zero_le _, rfl, World.ownsRow_nil _ _ _ _, Below.refl _ _⟩
        case round =>
          obtain ⟨k, hk, rfl, hown, hB⟩ := hrel
          have c0 := fun i => blk_cell (blk_later HK2.out hB) i
          have l0 := blk_lt (blk_later HK2.out hB)
          by_cases hlt : k < N
          · have i2 : (k : Int) < (N : Int) := by omega
            have CI := hidden (rIn_any (k : Int) a2 c2 fs h2 wr (HV3.out.later hB))
            rw [← faB_in (N := N) hlt] at CI
            by_cases hf : faB N fs k = true
            · rw [hf] at CI
              have HS : Hid (allF (faB N fs) 1 (k + 1) = allF (faB N fs) 1 k ++ [1 - 1]) := (allF_s _ _ _).trans (by rw [if_pos hf])
              clear hf
              go_wp2_with fail
              refine CI.out.mono ?_
              rintro e w4 ⟨rfl, rfl⟩
              go_wp2_with (at_builtin; refine kInt.wpList_append _ rfl (.tmp 29) (.tmp 32) 22 rfl w2.heap.size 3 i0 (.int .i64 0) 8 Try.underlying22 hi hz0 hz1 hz2 rfl u10 k _ rfl (hown.alloc _) (.slice (some ⟨wr.heap.size, 0, none⟩) 1 1) [0] rfl (Kind.Lies.of_block (K := kInt) (es := [0]) (heap_alloc_new wr _) (by decide)) (by simp only [maxLen, List.length_singleton]; omega) (by simp only [List.length_singleton]; omega) (by have := hB.size; simp; omega) ?_; intro v3 w3 hown3 hgrow3 hbl3)
              have hB3 : Below w2.heap.size w2 w3 := (hB.alloc hB.size _).grown hgrow3 (by have := hB.size; simp; omega) (own_from hown)
              have hrow : w3.ownsRow w2.heap.size 3 1 v3 (k + 1) (kInt.flat (allF (faB N fs) 1 (k + 1))) := by
                rw [HS.out, Kind.flat_append]
                exact hown3
              go_roundw
              case rel => exact ⟨k + 1, by omega, by go_num, hrow, hB3⟩
              case measure => simp [intV]; omega
            · have hf' : faB N fs k = false := by simpa using hf
              rw [hf'] at CI
              have HS : Hid (allF (faB N fs) 1 (k + 1) = allF (faB N fs) 1 k ++ [1]) := (allF_s _ _ _).trans (by rw [if_neg hf])
              clear hf hf'
              go_wp2_with fail
              refine CI.out.mono ?_
              rintro e w4 ⟨rfl, rfl⟩
              go_wp2_with (at_builtin; refine kInt.wpList_append _ rfl (.tmp 34) (.tmp 36) 22 rfl w2.heap.size 3 i0 (.int .i64 0) 8 Try.underlying22 hi hz0 hz1 hz2 rfl u10 k _ rfl (hown.alloc _) (.slice (some ⟨wr.heap.size, 0, none⟩) 1 1) [1] rfl (Kind.Lies.of_block (K := kInt) (es := [1]) (heap_alloc_new wr _) (by decide)) (by simp only [maxLen, List.length_singleton]; omega) (by simp only [List.length_singleton]; omega) (by have := hB.size; simp; omega) ?_; intro v3 w3 hown3 hgrow3 hbl3)
              have hB3 : Below w2.heap.size w2 w3 := (hB.alloc hB.size _).grown hgrow3 (by have := hB.size; simp; omega) (own_from hown)
              have hrow : w3.ownsRow w2.heap.size 3 1 v3 (k + 1) (kInt.flat (allF (faB N fs) 1 (k + 1))) := by
                rw [HS.out, Kind.flat_append]
                exact hown3
              go_roundw
              case rel => exact ⟨k + 1, by omega, by go_num, hrow, hB3⟩
              case measure => simp [intV]; omega
          · obtain rfl : k = N := by omega
            obtain ⟨aa, ca, rfl⟩ := own_slice hown
            have hli : kInt.Lies wr.heap.size wr (.slice aa k ca) (allF (faB k fs) 1 k) := Kind.Lies.of_own (K := kInt) (base := w2.heap.size) (e := 3) (by rw [allF_len]; exact hown)
            have CQ := hidden (CP.out wr aa ca (bthen HB2.out hB) hli)
            have HBr := hidden (bthen HB2.out hB)
            have HKr := hidden (blk_later HK2.out hB)
            clear CP hli hown hB HK2 HB2
            go_wp2_with fail
            refine CQ.out.mono ?_
            rintro e w5 ⟨g, rfl, hO, hb⟩
            have HB5 := hidden (bthen HBr.out hb)
            have HK5 := hidden (blk_later HKr.out hb)
            have HO := hidden hO
            have HV5 := hidden (HV2.out.later HB5.out)
            clear c0 l0 hb hO CQ HKr HBr HV3
            have c0 := fun i => blk_cell HK5.out i
            have l0 := blk_lt HK5.out
            have lo := HO.out.lt
            go_wp2
            go_loop [13] (fun i => ∃ m : Nat, m ≤ k ∧ i = .int .i64 m) (fun i => k - (intV i).toNat)
            case atStart => exact ⟨0, Nat.zero_le _, rfl⟩
            case round =>
              obtain ⟨m, hm, rfl⟩ := hrel
              by_cases hlt2 : m < k
              · have i1 : (0 : Int) ≤ (m : Int) := by omega
                have i2 : (m : Int) < (k : Int) := by omega
                have CI := hidden (rIn_any (m : Int) a2 c2 fs h2 w5 HV5.out)
                rw [← faB_in (N := k) hlt2] at CI
                by_cases hf : faB k fs m = true
                · rw [hf] at CI
                  clear hf
                  go_wp2_with fail
                  refine CI.out.mono ?_
                  rintro e w6 ⟨rfl, rfl⟩
                  go_wp2
                  go_round
                  case rel => exact ⟨m + 1, by omega, by go_num⟩
                  case measure => simp [intV]; omega
                · have hf' : faB k fs m = false := by simpa using hf
                  rw [hf'] at CI
                  have hc := HO.out.cell m (by rw [HLEN.out]; exact hlt2)
                  rw [HAT.out m hlt2 hf'] at hc
                  clear hf hf'
                  go_wp2_with fail
                  refine CI.out.mono ?_
                  rintro e w6 ⟨rfl, rfl⟩
                  go_wp2
                  go_round
                  case rel => exact ⟨m + 1, by omega, by go_num⟩
                  case measure => simp [intV]; omega
              · obtain rfl : m = k := by omega
                have KN := hidden (fun V => known14_any V)
                have i2 : ¬ (m : Int) < (m : Int) := by omega
                go_wp2_with fail
                refine (KN.out _).mono ?_
                rintro e w7 ⟨rfl, hb⟩
                have HB7 := hidden (bthen HB5.out hb)
                clear hb
                go_wp2
                go_ret
                exact ⟨rfl, HB7.out⟩
    · rw [decide_eq_false hfw] at CF
      have KN := hidden (fun V => known14_any V)
      clear hT hE hV2 hV3 hfw n1 n2 f1 f2 fn hF
      go_enter Try.func4, Try.ntmps4
      go_wp2_with fail
      refine CF.out.mono ?_
      rintro e w2 ⟨rfl, hb⟩
      have HB2 := hidden (bthen (ballc w _) hb)
      clear hb CF
      go_wp2_with fail
      refine (KN.out _).mono ?_
      rintro e w3 ⟨rfl, hb⟩
      have HB3 := hidden (bthen HB2.out hb)
      clear hb
      go_wp2
      go_ret
      exact ⟨rfl, HB3.out⟩
  · have CF := hidden (few_no n f d p r dr o sl md fr ad cap zs a2 c2 fs h2 (w.alloc (.cells #[.int .i64 n, .int .i64 f, .int .i64 d, .int .i64 p, .int .i64 r, .int .i64 dr, .int .i64 o, .int .i64 sl, .int .i64 md, .int .i64 fr, .slice ad zs.length cap] 24)) hl (hT.below (ballc _ _)) hno)
    have KN := hidden (fun V => known14_any V)
    clear hT hV2 hV3 hno
    go_enter Try.func4, Try.ntmps4
    go_wp2_with fail
    refine CF.out.mono ?_
    rintro e w2 ⟨rfl, hb⟩
    have HB2 := hidden (bthen (ballc w _) hb)
    clear hb CF
    go_wp2_with fail
    refine (KN.out _).mono ?_
    rintro e w3 ⟨rfl, hb⟩
    have HB3 := hidden (bthen HB2.out hb)
    clear hb
    go_wp2
    go_ret
    exact ⟨rfl, HB3.out⟩
end Go.Proofs.Ytklcjfbdneallab.LawKingKeeps
