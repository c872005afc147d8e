/- The call Members of package number returns digits of a text, and makes at most new memory; conditions: the table lies where it says, lengths fit int. -/
import Derived.Test.YtohgmliafidalaaNbrA
import Derived.Test.YtohgmliafidalaaTxtO
namespace Go.Proofs.Ytohgmliafidalaa
open Go.ChangeShapes Go.WideShapes Go.ChangeAt Go.RowKit
set_option linter.unusedVariables false
attribute [local go_sem] cell_rg

/-- A digit's byte. -/
def dig8 (s : ByteArray) (fr k : Nat) : UInt8 := UInt8.ofNat (48 + digG s fr k)
theorem dig_yes {s : ByteArray} {k : Nat} (h : k < s.size) (e : ((s[k]'h).toNat : Int) = 49) : dig8 s 0 k = UInt8.ofNat 49 := by
  unfold dig8 digG
  rw [Nat.zero_add, vdg_in h (by omega) (by omega), e]
  rfl
theorem dig_no {s : ByteArray} {k : Nat} (h : k < s.size) (e : ¬ ((s[k]'h).toNat : Int) = 49) : dig8 s 0 k = UInt8.ofNat 48 := by
  have : vdg 1 s k ≠ 1 := fun hv => by
    unfold vdg at hv
    rw [dif_pos h] at hv
    split at hv <;> omega
  unfold dig8 digG
  rw [Nat.zero_add, if_neg this]
theorem dig_out {s : ByteArray} {k : Nat} (h : ¬ k < s.size) : dig8 s 0 k = UInt8.ofNat 48 := by
  unfold dig8 digG
  rw [Nat.zero_add, vdg_out (by omega)]
  rfl
theorem ext_byte (s : ByteArray) (m k : Nat) (h : k < (s.extract m s.size).size) (h2 : m + k < s.size) : (s.extract m s.size)[k]'h = s[m + k]'h2 := ByteArray.getElem_extract ..
theorem bset {W : World} {g k : Nat} {l : List UInt8} {t : TypeId} (h : W.heap[g]? = some (.cells (bvals l) t (0, 0))) (x : Nat) (hx : x < 256) (v : Int) (hv : v = (x : Int)) : (W.setCell ⟨g, k, none⟩ (.int .u8 v)).heap[g]? = some (.cells (bvals (l.set k (UInt8.ofNat x))) t (0, 0)) := by
  subst hv
  rw [← bvals_set _ _ _ hx]
  exact heap_setCell_same _ _ _ _ _ _ h
theorem vdg_ext (last : Int) (s : ByteArray) {m : Nat} (hm : m ≤ s.size) (k : Nat) : vdg last (s.extract m s.size) k = vdg last s (m + k) := by
  have hs : (s.extract m s.size).size = s.size - m := by rw [ByteArray.size_extract]; omega
  by_cases h : k < s.size - m
  · have h1 : k < (s.extract m s.size).size := by omega
    have h2 : m + k < s.size := by omega
    unfold vdg
    rw [dif_pos h1, dif_pos h2, ext_byte s m k h1 h2]
  · rw [vdg_out (by omega), vdg_out (by omega)]
theorem digT_ext (s : ByteArray) (N : Nat) : digT s 8 N = digT (s.extract (min 8 s.size) s.size) 0 N := by
  unfold digT
  refine dgB_congr fun k hk => ?_
  unfold digG
  rw [Nat.zero_add, vdg_ext 1 s (Nat.min_le_right _ _)]
  by_cases h : 8 ≤ s.size
  · rw [Nat.min_eq_left h]
  · rw [vdg_out (by omega), vdg_out (by omega)]
theorem digT_ba (s : ByteArray) (N : Nat) : ba (fillL 0 N (dig8 s 0) N) = digT s 0 N := by
  rw [fillL_all]
  rfl
theorem cut_from (s : ByteArray) (m : Nat) (hm : m ≤ s.size) (hs : s.size ≤ 9223372036854775807) (W : World) : (Instr.slice 9 (.string s) (some (.int .i64 (m : Int))) none none).run Try.prog W = .ok (.string (s.extract m s.size)) W := by
  rw [run_slice_string_l W 9 s Try.underlying9 .i64 (m : Int) (by omega) (by omega), Int.toNat_natCast]
set_option maxRecDepth 100000 in
set_option maxHeartbeats 4000000 in
theorem NMembers_any (N : Nat) (f d p r dr o sl md fr : Int) (ad : Option Addr) (cap : Nat) (zs : List Int) (own agreed : ByteArray) (w : World) (hl : zs.length ≤ 9223372036854775807) (hT : Tab w ad zs) (hs1 : own.size ≤ 9223372036854775807) (hs2 : agreed.size ≤ 9223372036854775807) :
    Calls Try.prog 29 #[.agg #[.int .i64 (N : Int), .int .i64 f, .int .i64 d, .int .i64 p, .int .i64 r, .int .i64 dr, .int .i64 o, .int .i64 sl, .int .i64 md, .int .i64 fr, .slice ad zs.length cap], .string own, .string agreed] w fun e w' => e = .returned (.string (memF (plainE (N : Int) f d p r dr o sl md fr zs) N own agreed)) ∧ Below w.heap.size w w' := by
  have HB0 := hidden (ballc w (.cells #[.int .i64 (N : Int), .int .i64 f, .int .i64 d, .int .i64 p, .int .i64 r, .int .i64 dr, .int .i64 o, .int .i64 sl, .int .i64 md, .int .i64 fr, .slice ad zs.length cap] 24))
  have HK := hidden (blk_nw w #[.int .i64 (N : Int), .int .i64 f, .int .i64 d, .int .i64 p, .int .i64 r, .int .i64 dr, .int .i64 o, .int .i64 sl, .int .i64 md, .int .i64 fr, .slice ad zs.length cap] 24)
  have HP := hidden (plain_any (N : Int) f d p r dr o sl md fr ad cap zs (w.alloc (.cells #[.int .i64 (N : Int), .int .i64 f, .int .i64 d, .int .i64 p, .int .i64 r, .int .i64 dr, .int .i64 o, .int .i64 sl, .int .i64 md, .int .i64 fr, .slice ad zs.length cap] 24)) hl (hT.below (ballc _ _)))
  by_cases hE : plainE (N : Int) f d p r dr o sl md fr zs = 0
  · obtain ⟨n1, n2, _⟩ := plainE_ok hE
    have hN : N ≤ 13 := by omega
    have HMB := hidden (make_bytes N (by omega))
    rw [hE] at HP
    have HM0 : Hid (memF (plainE (N : Int) f d p r dr o sl md fr zs) N own agreed = if emt agreed = true then digT own 0 N else digT agreed 8 N) := if_pos hE
    rw [HM0.out]
    clear hE hT HM0
    by_cases he : emt agreed = true
    · have e1 : agreed.toList.isEmpty = true := he
      rw [if_pos he]
      obtain ⟨s, hse⟩ : ∃ s, s = own := ⟨_, rfl⟩
      rw [← hse, ← digT_ba]
      have HSE := hidden hse
      have hs3 : s.size ≤ 9223372036854775807 := by rw [hse]; exact hs1
      clear he hse
      go_enter Try.func29, Try.ntmps29
      go_wp2_with fail
      refine HP.out.mono ?_
      rintro e w2 ⟨rfl, hb⟩
      have HB2 := hidden (bthen HB0.out hb)
      have HK2 := hidden (blk_later HK.out hb)
      have c0 := blk_cell HK2.out
      have l0 := blk_lt HK2.out
      have hmb := HMB.out w2
      have HX0 : Hid ((w2.alloc (.cells (bvals (List.replicate N 0)) 5)).heap[w2.heap.size]? = some (.cells (bvals (fillL 0 N (dig8 s 0) 0)) 5 (0, 0))) := by
        show _ = _
        rw [fillL_0]
        exact blk_nw w2 _ _
      have HB3 := hidden (bthen HB2.out (ballc w2 (.cells (bvals (List.replicate N 0)) 5)))
      have hnew : w.heap.size ≤ w2.heap.size := HB2.out.size
      clear hb HP
      go_wp2
      clear hmb c0 l0
      generalize hw3 : w2.alloc (.cells (bvals (List.replicate N 0)) 5) = w3 at *
      generalize w2.heap.size = gr at *
      clear hw3
      clear HSE
      go_loopw [24] (fun i wr => ∃ k : Nat, k ≤ N ∧ i = .int .i64 k ∧ wr.heap[gr]? = some (.cells (bvals (fillL 0 N (dig8 s 0) k)) 5 (0, 0)) ∧ Below w.heap.size w wr) (fun i _ => N - (intV i).toNat)
      case atStart => exact ⟨0, Nat.zero_le _, rfl, HX0.out, HB3.out⟩
      case round =>
        obtain ⟨k, hk, rfl, hX, hB⟩ := hrel
        by_cases hlt : k < N
        · have i1 : (0 : Int) ≤ (k : Int) := by omega
          have i2 : (k : Int) < (N : Int) := by omega
          have HS := hidden (fillL_set (0 : UInt8) N (dig8 s 0) k hlt)
          have c0 := blk_cell hX k
          rw [bvals_at _ k (by rw [fillL_len]; exact hlt)] at c0
          have f0 := blk_frozen hX k
          have l0 := blk_lt hX
          have HB4 := hidden (hB.setCell (p := ⟨gr, k, none⟩) hnew (.int .u8 48))
          have HX4 := hidden (bset (k := k) hX 48 (by decide) 48 rfl)
          clear hX hB
          by_cases hlk : k < s.size
          · have i3 : (k : Int) < (s.size : Int) := by omega
            have i4 : decide ((k : Int) < (s.size : Int)) = true := decide_eq_true i3
            have i5 : decide (k < s.size) = true := decide_eq_true hlk
            by_cases h49 : ((s[k]'hlk).toNat : Int) = 49
            · have HD := hidden (dig_yes hlk h49)
              have d1 : (((s[k]'hlk).toNat : Int) == 49) = true := beq_iff_eq.2 h49
              have c1 := blk_cell HX4.out k
              rw [bvals_at _ k (by rw [List.length_set, fillL_len]; exact hlt)] at c1
              have f1 := blk_frozen HX4.out k
              have l1 := blk_lt HX4.out
              have HB5 := hidden (HB4.out.setCell (p := ⟨gr, k, none⟩) hnew (.int .u8 49))
              have HX5 := hidden (bset (k := k) HX4.out 49 (by decide) 49 rfl)
              rw [List.set_set, ← HD.out, HS.out] at HX5
              go_wp2
              go_roundw
              case rel => exact ⟨k + 1, by omega, by go_num, HX5.out, HB5.out⟩
              case measure => simp [intV]; omega
            · have HD := hidden (dig_no hlk h49)
              have d1 : (((s[k]'hlk).toNat : Int) == 49) = false := beq_eq_false_iff_ne.2 h49
              rw [← HD.out, HS.out] at HX4
              go_wp2
              go_roundw
              case rel => exact ⟨k + 1, by omega, by go_num, HX4.out, HB4.out⟩
              case measure => simp [intV]; omega
          · have i3 : ¬ (k : Int) < (s.size : Int) := by omega
            have i4 : decide ((k : Int) < (s.size : Int)) = false := decide_eq_false i3
            have i5 : decide (k < s.size) = false := decide_eq_false hlk
            have HD := hidden (dig_out hlk)
            rw [← HD.out, HS.out] at HX4
            go_wp2
            go_roundw
            case rel => exact ⟨k + 1, by omega, by go_num, HX4.out, HB4.out⟩
            case measure => simp [intV]; omega
        · obtain rfl : k = N := by omega
          have i2 : ¬ (k : Int) < (k : Int) := by omega
          have hcv := conv_blk hX
          rw [fillL_len] at hcv
          have HB := hidden hB
          clear hX hB
          obtain ⟨out, hout⟩ : ∃ out, out = ba (fillL 0 k (dig8 s 0) k) := ⟨_, rfl⟩
          rw [← hout] at hcv
          have HO := hidden hout
          clear hout
          go_wp2
          go_ret
          exact ⟨by rw [← HO.out]; rfl, HB.out⟩
    · have e1 : agreed.toList.isEmpty = false := by
        have : emt agreed = false := by simpa using he
        exact this
      rw [if_neg he, digT_ext]
      clear he
      by_cases h8 : agreed.size < 8
      · have h9 : (agreed.size : Int) < 8 := by omega
        have hmm : min (8 : Int) (agreed.size : Int) = (agreed.size : Int) := by omega
        have h10 : ¬ (8 : Int) ≤ (agreed.size : Int) := by omega
        have h11 : ¬ 8 ≤ agreed.size := by omega
        have hx : agreed.extract (min 8 agreed.size) agreed.size = ByteArray.empty := by
          rw [Nat.min_eq_right (by omega)]
          apply ByteArray.ext
          rw [ByteArray.data_extract]
          simp
        obtain ⟨s, hse⟩ : ∃ s, s = ByteArray.empty := ⟨_, rfl⟩
        rw [hx, ← hse, ← digT_ba]
        have HSE := hidden hse
        have hs3 : s.size ≤ 9223372036854775807 := by rw [hse]; decide
        clear hx hse
        go_enter Try.func29, Try.ntmps29
        go_wp2_with fail
        refine HP.out.mono ?_
        rintro e w2 ⟨rfl, hb⟩
        have HB2 := hidden (bthen HB0.out hb)
        have HK2 := hidden (blk_later HK.out hb)
        have c0 := blk_cell HK2.out
        have l0 := blk_lt HK2.out
        have hmb := HMB.out w2
        have HX0 : Hid ((w2.alloc (.cells (bvals (List.replicate N 0)) 5)).heap[w2.heap.size]? = some (.cells (bvals (fillL 0 N (dig8 s 0) 0)) 5 (0, 0))) := by
          show _ = _
          rw [fillL_0]
          exact blk_nw w2 _ _
        have HB3 := hidden (bthen HB2.out (ballc w2 (.cells (bvals (List.replicate N 0)) 5)))
        have hnew : w.heap.size ≤ w2.heap.size := HB2.out.size
        clear hb HP
        go_wp2
        clear hmb c0 l0
        generalize hw3 : w2.alloc (.cells (bvals (List.replicate N 0)) 5) = w3 at *
        generalize w2.heap.size = gr at *
        clear hw3
        rw [← HSE.out]
        clear HSE
        go_loopw [24] (fun i wr => ∃ k : Nat, k ≤ N ∧ i = .int .i64 k ∧ wr.heap[gr]? = some (.cells (bvals (fillL 0 N (dig8 s 0) k)) 5 (0, 0)) ∧ Below w.heap.size w wr) (fun i _ => N - (intV i).toNat)
        case atStart => exact ⟨0, Nat.zero_le _, rfl, HX0.out, HB3.out⟩
        case round =>
          obtain ⟨k, hk, rfl, hX, hB⟩ := hrel
          by_cases hlt : k < N
          · have i1 : (0 : Int) ≤ (k : Int) := by omega
            have i2 : (k : Int) < (N : Int) := by omega
            have HS := hidden (fillL_set (0 : UInt8) N (dig8 s 0) k hlt)
            have c0 := blk_cell hX k
            rw [bvals_at _ k (by rw [fillL_len]; exact hlt)] at c0
            have f0 := blk_frozen hX k
            have l0 := blk_lt hX
            have HB4 := hidden (hB.setCell (p := ⟨gr, k, none⟩) hnew (.int .u8 48))
            have HX4 := hidden (bset (k := k) hX 48 (by decide) 48 rfl)
            clear hX hB
            by_cases hlk : k < s.size
            · have i3 : (k : Int) < (s.size : Int) := by omega
              have i4 : decide ((k : Int) < (s.size : Int)) = true := decide_eq_true i3
              have i5 : decide (k < s.size) = true := decide_eq_true hlk
              by_cases h49 : ((s[k]'hlk).toNat : Int) = 49
              · have HD := hidden (dig_yes hlk h49)
                have d1 : (((s[k]'hlk).toNat : Int) == 49) = true := beq_iff_eq.2 h49
                have c1 := blk_cell HX4.out k
                rw [bvals_at _ k (by rw [List.length_set, fillL_len]; exact hlt)] at c1
                have f1 := blk_frozen HX4.out k
                have l1 := blk_lt HX4.out
                have HB5 := hidden (HB4.out.setCell (p := ⟨gr, k, none⟩) hnew (.int .u8 49))
                have HX5 := hidden (bset (k := k) HX4.out 49 (by decide) 49 rfl)
                rw [List.set_set, ← HD.out, HS.out] at HX5
                go_wp2
                go_roundw
                case rel => exact ⟨k + 1, by omega, by go_num, HX5.out, HB5.out⟩
                case measure => simp [intV]; omega
              · have HD := hidden (dig_no hlk h49)
                have d1 : (((s[k]'hlk).toNat : Int) == 49) = false := beq_eq_false_iff_ne.2 h49
                rw [← HD.out, HS.out] at HX4
                go_wp2
                go_roundw
                case rel => exact ⟨k + 1, by omega, by go_num, HX4.out, HB4.out⟩
                case measure => simp [intV]; omega
            · have i3 : ¬ (k : Int) < (s.size : Int) := by omega
              have i4 : decide ((k : Int) < (s.size : Int)) = false := decide_eq_false i3
              have i5 : decide (k < s.size) = false := decide_eq_false hlk
              have HD := hidden (dig_out hlk)
              rw [← HD.out, HS.out] at HX4
              go_wp2
              go_roundw
              case rel => exact ⟨k + 1, by omega, by go_num, HX4.out, HB4.out⟩
              case measure => simp [intV]; omega
          · obtain rfl : k = N := by omega
            have i2 : ¬ (k : Int) < (k : Int) := by omega
            have hcv := conv_blk hX
            rw [fillL_len] at hcv
            have HB := hidden hB
            clear hX hB
            obtain ⟨out, hout⟩ : ∃ out, out = ba (fillL 0 k (dig8 s 0) k) := ⟨_, rfl⟩
            rw [← hout] at hcv
            have HO := hidden hout
            clear hout
            go_wp2
            go_ret
            exact ⟨by rw [← HO.out]; rfl, HB.out⟩
      · have h9 : (8 : Int) ≤ (agreed.size : Int) := by omega
        have h10 : ¬ (agreed.size : Int) < 8 := by omega
        have h11 : 8 ≤ agreed.size := by omega
        have h12 : (8 : Int) < (agreed.size : Int) ∨ (agreed.size : Int) = 8 := by omega
        have hmm : min (8 : Int) (agreed.size : Int) = 8 := by omega
        obtain ⟨s, hse⟩ : ∃ s, s = agreed.extract 8 agreed.size := ⟨_, rfl⟩
        have HSE := hidden hse
        have hs3 : s.size ≤ 9223372036854775807 := by rw [hse, ByteArray.size_extract]; omega
        rw [Nat.min_eq_left h11, ← hse, ← digT_ba]
        clear hse
        go_enter Try.func29, Try.ntmps29
        go_wp2_with fail
        refine HP.out.mono ?_
        rintro e w2 ⟨rfl, hb⟩
        have HB2 := hidden (bthen HB0.out hb)
        have HK2 := hidden (blk_later HK.out hb)
        have c0 := blk_cell HK2.out
        have l0 := blk_lt HK2.out
        have hmb := HMB.out w2
        have HX0 : Hid ((w2.alloc (.cells (bvals (List.replicate N 0)) 5)).heap[w2.heap.size]? = some (.cells (bvals (fillL 0 N (dig8 s 0) 0)) 5 (0, 0))) := by
          show _ = _
          rw [fillL_0]
          exact blk_nw w2 _ _
        have HB3 := hidden (bthen HB2.out (ballc w2 (.cells (bvals (List.replicate N 0)) 5)))
        have hnew : w.heap.size ≤ w2.heap.size := HB2.out.size
        clear hb HP
        go_wp2
        clear hmb c0 l0
        generalize hw3 : w2.alloc (.cells (bvals (List.replicate N 0)) 5) = w3 at *
        generalize w2.heap.size = gr at *
        clear hw3
        rw [← HSE.out]
        clear HSE
        go_loopw [24] (fun i wr => ∃ k : Nat, k ≤ N ∧ i = .int .i64 k ∧ wr.heap[gr]? = some (.cells (bvals (fillL 0 N (dig8 s 0) k)) 5 (0, 0)) ∧ Below w.heap.size w wr) (fun i _ => N - (intV i).toNat)
        case atStart => exact ⟨0, Nat.zero_le _, rfl, HX0.out, HB3.out⟩
        case round =>
          obtain ⟨k, hk, rfl, hX, hB⟩ := hrel
          by_cases hlt : k < N
          · have i1 : (0 : Int) ≤ (k : Int) := by omega
            have i2 : (k : Int) < (N : Int) := by omega
            have HS := hidden (fillL_set (0 : UInt8) N (dig8 s 0) k hlt)
            have c0 := blk_cell hX k
            rw [bvals_at _ k (by rw [fillL_len]; exact hlt)] at c0
            have f0 := blk_frozen hX k
            have l0 := blk_lt hX
            have HB4 := hidden (hB.setCell (p := ⟨gr, k, none⟩) hnew (.int .u8 48))
            have HX4 := hidden (bset (k := k) hX 48 (by decide) 48 rfl)
            clear hX hB
            by_cases hlk : k < s.size
            · have i3 : (k : Int) < (s.size : Int) := by omega
              have i4 : decide ((k : Int) < (s.size : Int)) = true := decide_eq_true i3
              have i5 : decide (k < s.size) = true := decide_eq_true hlk
              by_cases h49 : ((s[k]'hlk).toNat : Int) = 49
              · have HD := hidden (dig_yes hlk h49)
                have d1 : (((s[k]'hlk).toNat : Int) == 49) = true := beq_iff_eq.2 h49
                have c1 := blk_cell HX4.out k
                rw [bvals_at _ k (by rw [List.length_set, fillL_len]; exact hlt)] at c1
                have f1 := blk_frozen HX4.out k
                have l1 := blk_lt HX4.out
                have HB5 := hidden (HB4.out.setCell (p := ⟨gr, k, none⟩) hnew (.int .u8 49))
                have HX5 := hidden (bset (k := k) HX4.out 49 (by decide) 49 rfl)
                rw [List.set_set, ← HD.out, HS.out] at HX5
                go_wp2
                go_roundw
                case rel => exact ⟨k + 1, by omega, by go_num, HX5.out, HB5.out⟩
                case measure => simp [intV]; omega
              · have HD := hidden (dig_no hlk h49)
                have d1 : (((s[k]'hlk).toNat : Int) == 49) = false := beq_eq_false_iff_ne.2 h49
                rw [← HD.out, HS.out] at HX4
                go_wp2
                go_roundw
                case rel => exact ⟨k + 1, by omega, by go_num, HX4.out, HB4.out⟩
                case measure => simp [intV]; omega
            · have i3 : ¬ (k : Int) < (s.size : Int) := by omega
              have i4 : decide ((k : Int) < (s.size : Int)) = false := decide_eq_false i3
              have i5 : decide (k < s.size) = false := decide_eq_false hlk
              have HD := hidden (dig_out hlk)
              rw [← HD.out, HS.out] at HX4
              go_wp2
              go_roundw
              case rel => exact ⟨k + 1, by omega, by go_num, HX4.out, HB4.out⟩
              case measure => simp [intV]; omega
          · obtain rfl : k = N := by omega
            have i2 : ¬ (k : Int) < (k : Int) := by omega
            have hcv := conv_blk hX
            rw [fillL_len] at hcv
            have HB := hidden hB
            clear hX hB
            obtain ⟨out, hout⟩ : ∃ out, out = ba (fillL 0 k (dig8 s 0) k) := ⟨_, rfl⟩
            rw [← hout] at hcv
            have HO := hidden hout
            clear hout
            go_wp2
            go_ret
            exact ⟨by rw [← HO.out]; rfl, HB.out⟩
  · have HF : Hid (memF (plainE (N : Int) f d p r dr o sl md fr zs) N own agreed = noB) := if_neg hE
    rw [HF.out]
    have j1 : (plainE (N : Int) f d p r dr o sl md fr zs != 0) = true := bne_iff_ne.2 hE
    generalize plainE (N : Int) f d p r dr o sl md fr zs = E at *
    clear hE hT HF
    go_enter Try.func29, Try.ntmps29
    go_wp2_with fail
    refine HP.out.mono ?_
    rintro e w2 ⟨rfl, hb⟩
    have HB2 := hidden (bthen HB0.out hb)
    clear hb HP
    go_wp2
    go_ret
    exact ⟨rfl, HB2.out⟩
end Go.Proofs.Ytohgmliafidalaa
