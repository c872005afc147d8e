/- Several texts of one's own in one: what each proves, and its conditions, is said ahead of it. -/
import Derived.Test.YtohgmliafidalaaBe
import Derived.Test.YtohgmliafidalaaBc
import Derived.Test.YtohgmliafidalaaBd

/- The call Members of package number returns digits of a text, and makes at most new memory; conditions: the table lies where it says, lengths fit int. -/
namespace Go.Proofs.Ytohgmliafidalaa
open Go.ChangeShapes Go.WideShapes Go.ChangeAt Go.RowKit
set_option linter.unusedVariables false
attribute [local go_sem] cell_rg

/-- A digit's byte. -/
def dig8 (s : ByteArray) (fr k : Nat) : UInt8 := UInt8.ofNat (48 + digG s fr k)
theorem dig_yes {s : ByteArray} {k : Nat} (h : k < s.size) (e : ((s[k]'h).toNat : Int) = 49) : dig8 s 0 k = UInt8.ofNat 49 := by
  unfold dig8 digG
  rw [Nat.zero_add, vdg_in h (by omega) (by omega), e]
  rfl
theorem dig_no {s : ByteArray} {k : Nat} (h : k < s.size) (e : ¬ ((s[k]'h).toNat : Int) = 49) : dig8 s 0 k = UInt8.ofNat 48 := by
  have : vdg 1 s k ≠ 1 := fun hv => by
    unfold vdg at hv
    rw [dif_pos h] at hv
    split at hv <;> omega
  unfold dig8 digG
  rw [Nat.zero_add, if_neg this]
theorem dig_out {s : ByteArray} {k : Nat} (h : ¬ k < s.size) : dig8 s 0 k = UInt8.ofNat 48 := by
  unfold dig8 digG
  rw [Nat.zero_add, vdg_out (by omega)]
  rfl
theorem ext_byte (s : ByteArray) (m k : Nat) (h : k < (s.extract m s.size).size) (h2 : m + k < s.size) : (s.extract m s.size)[k]'h = s[m + k]'h2 := ByteArray.getElem_extract ..
theorem bset {W : World} {g k : Nat} {l : List UInt8} {t : TypeId} (h : W.heap[g]? = some (.cells (bvals l) t (0, 0))) (x : Nat) (hx : x < 256) (v : Int) (hv : v = (x : Int)) : (W.setCell ⟨g, k, none⟩ (.int .u8 v)).heap[g]? = some (.cells (bvals (l.set k (UInt8.ofNat x))) t (0, 0)) := by
  subst hv
  rw [← bvals_set _ _ _ hx]
  exact heap_setCell_same _ _ _ _ _ _ h
theorem vdg_ext (last : Int) (s : ByteArray) {m : Nat} (hm : m ≤ s.size) (k : Nat) : vdg last (s.extract m s.size) k = vdg last s (m + k) := by
  have hs : (s.extract m s.size).size = s.size - m := by rw [ByteArray.size_extract]; omega
  by_cases h : k < s.size - m
  · have h1 : k < (s.extract m s.size).size := by omega
    have h2 : m + k < s.size := by omega
    unfold vdg
    rw [dif_pos h1, dif_pos h2, ext_byte s m k h1 h2]
  · rw [vdg_out (by omega), vdg_out (by omega)]
theorem digT_ext (s : ByteArray) (N : Nat) : digT s 8 N = digT (s.extract (min 8 s.size) s.size) 0 N := by
  unfold digT
  refine dgB_congr fun k hk => ?_
  unfold digG
  rw [Nat.zero_add, vdg_ext 1 s (Nat.min_le_right _ _)]
  by_cases h : 8 ≤ s.size
  · rw [Nat.min_eq_left h]
  · rw [vdg_out (by omega), vdg_out (by omega)]
theorem digT_ba (s : ByteArray) (N : Nat) : ba (fillL 0 N (dig8 s 0) N) = digT s 0 N := by
  rw [fillL_all]
  rfl
theorem cut_from (s : ByteArray) (m : Nat) (hm : m ≤ s.size) (hs : s.size ≤ 9223372036854775807) (W : World) : (Instr.slice 9 (.string s) (some (.int .i64 (m : Int))) none none).run Try.prog W = .ok (.string (s.extract m s.size)) W := by
  rw [run_slice_string_l W 9 s Try.underlying9 .i64 (m : Int) (by omega) (by omega), Int.toNat_natCast]
set_option maxRecDepth 100000 in
set_option maxHeartbeats 4000000 in
theorem NMembers_any (N : Nat) (f d p r dr o sl md fr : Int) (ad : Option Addr) (cap : Nat) (zs : List Int) (own agreed : ByteArray) (w : World) (hl : zs.length ≤ 9223372036854775807) (hT : Tab w ad zs) (hs1 : own.size ≤ 9223372036854775807) (hs2 : agreed.size ≤ 9223372036854775807) :
    Calls Try.prog 29 #[.agg #[.int .i64 (N : Int), .int .i64 f, .int .i64 d, .int .i64 p, .int .i64 r, .int .i64 dr, .int .i64 o, .int .i64 sl, .int .i64 md, .int .i64 fr, .slice ad zs.length cap], .string own, .string agreed] w fun e w' => e = .returned (.string (memF (plainE (N : Int) f d p r dr o sl md fr zs) N own agreed)) ∧ Below w.heap.size w w' := by
  have HB0 := hidden (ballc w (.cells #[.int .i64 (N : Int), .int .i64 f, .int .i64 d, .int .i64 p, .int .i64 r, .int .i64 dr, .int .i64 o, .int .i64 sl, .int .i64 md, .int .i64 fr, .slice ad zs.length cap] 24))
  have HK := hidden (blk_nw w #[.int .i64 (N : Int), .int .i64 f, .int .i64 d, .int .i64 p, .int .i64 r, .int .i64 dr, .int .i64 o, .int .i64 sl, .int .i64 md, .int .i64 fr, .slice ad zs.length cap] 24)
  have HP := hidden (plain_any (N : Int) f d p r dr o sl md fr ad cap zs (w.alloc (.cells #[.int .i64 (N : Int), .int .i64 f, .int .i64 d, .int .i64 p, .int .i64 r, .int .i64 dr, .int .i64 o, .int .i64 sl, .int .i64 md, .int .i64 fr, .slice ad zs.length cap] 24)) hl (hT.below (ballc _ _)))
  by_cases hE : plainE (N : Int) f d p r dr o sl md fr zs = 0
  · obtain ⟨n1, n2, _⟩ := plainE_ok hE
    have hN : N ≤ 13 := by omega
    have HMB := hidden (make_bytes N (by omega))
    rw [hE] at HP
    have HM0 : Hid (memF (plainE (N : Int) f d p r dr o sl md fr zs) N own agreed = if emt agreed = true then digT own 0 N else digT agreed 8 N) := if_pos hE
    rw [HM0.out]
    clear hE hT HM0
    by_cases he : emt agreed = true
    · have e1 : agreed.toList.isEmpty = true := he
      rw [if_pos he]
      obtain ⟨s, hse⟩ : ∃ s, s = own := ⟨_, rfl⟩
      rw [← hse, ← digT_ba]
      have HSE := hidden hse
      have hs3 : s.size ≤ 9223372036854775807 := by rw [hse]; exact hs1
      clear he hse
      go_enter Try.func29, Try.ntmps29
      go_wp2_with fail
      refine HP.out.mono ?_
      rintro e w2 ⟨rfl, hb⟩
      have HB2 := hidden (bthen HB0.out hb)
      have HK2 := hidden (blk_later HK.out hb)
      have c0 := blk_cell HK2.out
      have l0 := blk_lt HK2.out
      have hmb := HMB.out w2
      have HX0 : Hid ((w2.alloc (.cells (bvals (List.replicate N 0)) 5)).heap[w2.heap.size]? = some (.cells (bvals (fillL 0 N (dig8 s 0) 0)) 5 (0, 0))) := by
        show _ = _
        rw [fillL_0]
        exact blk_nw w2 _ _
      have HB3 := hidden (bthen HB2.out (ballc w2 (.cells (bvals (List.replicate N 0)) 5)))
      have hnew : w.heap.size ≤ w2.heap.size := HB2.out.size
      clear hb HP
      go_wp2
      clear hmb c0 l0
      generalize hw3 : w2.alloc (.cells (bvals (List.replicate N 0)) 5) = w3 at *
      generalize w2.heap.size = gr at *
      clear hw3
      clear HSE
      go_loopw [24] (fun i wr => ∃ k : Nat, k ≤ N ∧ i = .int .i64 k ∧ wr.heap[gr]? = some (.cells (bvals (fillL 0 N (dig8 s 0) k)) 5 (0, 0)) ∧ Below w.heap.size w wr) (fun i _ => N - (intV i).toNat)
      case atStart => exact ⟨0, Nat.zero_le _, rfl, HX0.out, HB3.out⟩
      case round =>
        obtain ⟨k, hk, rfl, hX, hB⟩ := hrel
        by_cases hlt : k < N
        · have i1 : (0 : Int) ≤ (k : Int) := by omega
          have i2 : (k : Int) < (N : Int) := by omega
          have HS := hidden (fillL_set (0 : UInt8) N (dig8 s 0) k hlt)
          have c0 := blk_cell hX k
          rw [bvals_at _ k (by rw [fillL_len]; exact hlt)] at c0
          have f0 := blk_frozen hX k
          have l0 := blk_lt hX
          have HB4 := hidden (hB.setCell (p := ⟨gr, k, none⟩) hnew (.int .u8 48))
          have HX4 := hidden (bset (k := k) hX 48 (by decide) 48 rfl)
          clear hX hB
          by_cases hlk : k < s.size
          · have i3 : (k : Int) < (s.size : Int) := by omega
            have i4 : decide ((k : Int) < (s.size : Int)) = true := decide_eq_true i3
            have i5 : decide (k < s.size) = true := decide_eq_true hlk
            by_cases h49 : ((s[k]'hlk).toNat : Int) = 49
            · have HD := hidden (dig_yes hlk h49)
              have d1 : (((s[k]'hlk).toNat : Int) == 49) = true := beq_iff_eq.2 h49
              have c1 := blk_cell HX4.out k
              rw [bvals_at _ k (by rw [List.length_set, fillL_len]; exact hlt)] at c1
              have f1 := blk_frozen HX4.out k
              have l1 := blk_lt HX4.out
              have HB5 := hidden (HB4.out.setCell (p := ⟨gr, k, none⟩) hnew (.int .u8 49))
              have HX5 := hidden (bset (k := k) HX4.out 49 (by decide) 49 rfl)
              rw [List.set_set, ← HD.out, HS.out] at HX5
              go_wp2
              go_roundw
              case rel => exact ⟨k + 1, by omega, by go_num, HX5.out, HB5.out⟩
              case measure => simp [intV]; omega
            · have HD := hidden (dig_no hlk h49)
              have d1 : (((s[k]'hlk).toNat : Int) == 49) = false := beq_eq_false_iff_ne.2 h49
              rw [← HD.out, HS.out] at HX4
              go_wp2
              go_roundw
              case rel => exact ⟨k + 1, by omega, by go_num, HX4.out, HB4.out⟩
              case measure => simp [intV]; omega
          · have i3 : ¬ (k : Int) < (s.size : Int) := by omega
            have i4 : decide ((k : Int) < (s.size : Int)) = false := decide_eq_false i3
            have i5 : decide (k < s.size) = false := decide_eq_false hlk
            have HD := hidden (dig_out hlk)
            rw [← HD.out, HS.out] at HX4
            go_wp2
            go_roundw
            case rel => exact ⟨k + 1, by omega, by go_num, HX4.out, HB4.out⟩
            case measure => simp [intV]; omega
        · obtain rfl : k = N := by omega
          have i2 : ¬ (k : Int) < (k : Int) := by omega
          have hcv := conv_blk hX
          rw [fillL_len] at hcv
          have HB := hidden hB
          clear hX hB
          obtain ⟨out, hout⟩ : ∃ out, out = ba (fillL 0 k (dig8 s 0) k) := ⟨_, rfl⟩
          rw [← hout] at hcv
          have HO := hidden hout
          clear hout
          go_wp2
          go_ret
          exact ⟨by rw [← HO.out]; rfl, HB.out⟩
    · have e1 : agreed.toList.isEmpty = false := by
        have : emt agreed = false := by simpa using he
        exact this
      rw [if_neg he, digT_ext]
      clear he
      by_cases h8 : agreed.size < 8
      · have h9 : (agreed.size : Int) < 8 := by omega
        have hmm : min (8 : Int) (agreed.size : Int) = (agreed.size : Int) := by omega
        have h10 : ¬ (8 : Int) ≤ (agreed.size : Int) := by omega
        have h11 : ¬ 8 ≤ agreed.size := by omega
        have hx : agreed.extract (min 8 agreed.size) agreed.size = ByteArray.empty := by
          rw [Nat.min_eq_right (by omega)]
          apply ByteArray.ext
          rw [ByteArray.data_extract]
          simp
        obtain ⟨s, hse⟩ : ∃ s, s = ByteArray.empty := ⟨_, rfl⟩
        rw [hx, ← hse, ← digT_ba]
        have HSE := hidden hse
        have hs3 : s.size ≤ 9223372036854775807 := by rw [hse]; decide
        clear hx hse
        go_enter Try.func29, Try.ntmps29
        go_wp2_with fail
        refine HP.out.mono ?_
        rintro e w2 ⟨rfl, hb⟩
        have HB2 := hidden (bthen HB0.out hb)
        have HK2 := hidden (blk_later HK.out hb)
        have c0 := blk_cell HK2.out
        have l0 := blk_lt HK2.out
        have hmb := HMB.out w2
        have HX0 : Hid ((w2.alloc (.cells (bvals (List.replicate N 0)) 5)).heap[w2.heap.size]? = some (.cells (bvals (fillL 0 N (dig8 s 0) 0)) 5 (0, 0))) := by
          show _ = _
          rw [fillL_0]
          exact blk_nw w2 _ _
        have HB3 := hidden (bthen HB2.out (ballc w2 (.cells (bvals (List.replicate N 0)) 5)))
        have hnew : w.heap.size ≤ w2.heap.size := HB2.out.size
        clear hb HP
        go_wp2
        clear hmb c0 l0
        generalize hw3 : w2.alloc (.cells (bvals (List.replicate N 0)) 5) = w3 at *
        generalize w2.heap.size = gr at *
        clear hw3
        rw [← HSE.out]
        clear HSE
        go_loopw [24] (fun i wr => ∃ k : Nat, k ≤ N ∧ i = .int .i64 k ∧ wr.heap[gr]? = some (.cells (bvals (fillL 0 N (dig8 s 0) k)) 5 (0, 0)) ∧ Below w.heap.size w wr) (fun i _ => N - (intV i).toNat)
        case atStart => exact ⟨0, Nat.zero_le _, rfl, HX0.out, HB3.out⟩
        case round =>
          obtain ⟨k, hk, rfl, hX, hB⟩ := hrel
          by_cases hlt : k < N
          · have i1 : (0 : Int) ≤ (k : Int) := by omega
            have i2 : (k : Int) < (N : Int) := by omega
            have HS := hidden (fillL_set (0 : UInt8) N (dig8 s 0) k hlt)
            have c0 := blk_cell hX k
            rw [bvals_at _ k (by rw [fillL_len]; exact hlt)] at c0
            have f0 := blk_frozen hX k
            have l0 := blk_lt hX
            have HB4 := hidden (hB.setCell (p := ⟨gr, k, none⟩) hnew (.int .u8 48))
            have HX4 := hidden (bset (k := k) hX 48 (by decide) 48 rfl)
            clear hX hB
            by_cases hlk : k < s.size
            · have i3 : (k : Int) < (s.size : Int) := by omega
              have i4 : decide ((k : Int) < (s.size : Int)) = true := decide_eq_true i3
              have i5 : decide (k < s.size) = true := decide_eq_true hlk
              by_cases h49 : ((s[k]'hlk).toNat : Int) = 49
              · have HD := hidden (dig_yes hlk h49)
                have d1 : (((s[k]'hlk).toNat : Int) == 49) = true := beq_iff_eq.2 h49
                have c1 := blk_cell HX4.out k
                rw [bvals_at _ k (by rw [List.length_set, fillL_len]; exact hlt)] at c1
                have f1 := blk_frozen HX4.out k
                have l1 := blk_lt HX4.out
                have HB5 := hidden (HB4.out.setCell (p := ⟨gr, k, none⟩) hnew (.int .u8 49))
                have HX5 := hidden (bset (k := k) HX4.out 49 (by decide) 49 rfl)
                rw [List.set_set, ← HD.out, HS.out] at HX5
                go_wp2
                go_roundw
                case rel => exact ⟨k + 1, by omega, by go_num, HX5.out, HB5.out⟩
                case measure => simp [intV]; omega
              · have HD := hidden (dig_no hlk h49)
                have d1 : (((s[k]'hlk).toNat : Int) == 49) = false := beq_eq_false_iff_ne.2 h49
                rw [← HD.out, HS.out] at HX4
                go_wp2
                go_roundw
                case rel => exact ⟨k + 1, by omega, by go_num, HX4.out, HB4.out⟩
                case measure => simp [intV]; omega
            · have i3 : ¬ (k : Int) < (s.size : Int) := by omega
              have i4 : decide ((k : Int) < (s.size : Int)) = false := decide_eq_false i3
              have i5 : decide (k < s.size) = false := decide_eq_false hlk
              have HD := hidden (dig_out hlk)
              rw [← HD.out, HS.out] at HX4
              go_wp2
              go_roundw
              case rel => exact ⟨k + 1, by omega, by go_num, HX4.out, HB4.out⟩
              case measure => simp [intV]; omega
          · obtain rfl : k = N := by omega
            have i2 : ¬ (k : Int) < (k : Int) := by omega
            have hcv := conv_blk hX
            rw [fillL_len] at hcv
            have HB := hidden hB
            clear hX hB
            obtain ⟨out, hout⟩ : ∃ out, out = ba (fillL 0 k (dig8 s 0) k) := ⟨_, rfl⟩
            rw [← hout] at hcv
            have HO := hidden hout
            clear hout
            go_wp2
            go_ret
            exact ⟨by rw [← HO.out]; rfl, HB.out⟩
      · have h9 : (8 : Int) ≤ (agreed.size : Int) := by omega
        have h10 : ¬ (agreed.size : Int) < 8 := by omega
        have h11 : 8 ≤ agreed.size := by omega
        have h12 : (8 : Int) < (agreed.size : Int) ∨ (agreed.size : Int) = 8 := by omega
        have hmm : min (8 : Int) (agreed.size : Int) = 8 := by omega
        obtain ⟨s, hse⟩ : ∃ s, s = agreed.extract 8 agreed.size := ⟨_, rfl⟩
        have HSE := hidden hse
        have hs3 : s.size ≤ 9223372036854775807 := by rw [hse, ByteArray.size_extract]; omega
        rw [Nat.min_eq_left h11, ← hse, ← digT_ba]
        clear hse
        go_enter Try.func29, Try.ntmps29
        go_wp2_with fail
        refine HP.out.mono ?_
        rintro e w2 ⟨rfl, hb⟩
        have HB2 := hidden (bthen HB0.out hb)
        have HK2 := hidden (blk_later HK.out hb)
        have c0 := blk_cell HK2.out
        have l0 := blk_lt HK2.out
        have hmb := HMB.out w2
        have HX0 : Hid ((w2.alloc (.cells (bvals (List.replicate N 0)) 5)).heap[w2.heap.size]? = some (.cells (bvals (fillL 0 N (dig8 s 0) 0)) 5 (0, 0))) := by
          show _ = _
          rw [fillL_0]
          exact blk_nw w2 _ _
        have HB3 := hidden (bthen HB2.out (ballc w2 (.cells (bvals (List.replicate N 0)) 5)))
        have hnew : w.heap.size ≤ w2.heap.size := HB2.out.size
        clear hb HP
        go_wp2
        clear hmb c0 l0
        generalize hw3 : w2.alloc (.cells (bvals (List.replicate N 0)) 5) = w3 at *
        generalize w2.heap.size = gr at *
        clear hw3
        rw [← HSE.out]
        clear HSE
        go_loopw [24] (fun i wr => ∃ k : Nat, k ≤ N ∧ i = .int .i64 k ∧ wr.heap[gr]? = some (.cells (bvals (fillL 0 N (dig8 s 0) k)) 5 (0, 0)) ∧ Below w.heap.size w wr) (fun i _ => N - (intV i).toNat)
        case atStart => exact ⟨0, Nat.zero_le _, rfl, HX0.out, HB3.out⟩
        case round =>
          obtain ⟨k, hk, rfl, hX, hB⟩ := hrel
          by_cases hlt : k < N
          · have i1 : (0 : Int) ≤ (k : Int) := by omega
            have i2 : (k : Int) < (N : Int) := by omega
            have HS := hidden (fillL_set (0 : UInt8) N (dig8 s 0) k hlt)
            have c0 := blk_cell hX k
            rw [bvals_at _ k (by rw [fillL_len]; exact hlt)] at c0
            have f0 := blk_frozen hX k
            have l0 := blk_lt hX
            have HB4 := hidden (hB.setCell (p := ⟨gr, k, none⟩) hnew (.int .u8 48))
            have HX4 := hidden (bset (k := k) hX 48 (by decide) 48 rfl)
            clear hX hB
            by_cases hlk : k < s.size
            · have i3 : (k : Int) < (s.size : Int) := by omega
              have i4 : decide ((k : Int) < (s.size : Int)) = true := decide_eq_true i3
              have i5 : decide (k < s.size) = true := decide_eq_true hlk
              by_cases h49 : ((s[k]'hlk).toNat : Int) = 49
              · have HD := hidden (dig_yes hlk h49)
                have d1 : (((s[k]'hlk).toNat : Int) == 49) = true := beq_iff_eq.2 h49
                have c1 := blk_cell HX4.out k
                rw [bvals_at _ k (by rw [List.length_set, fillL_len]; exact hlt)] at c1
                have f1 := blk_frozen HX4.out k
                have l1 := blk_lt HX4.out
                have HB5 := hidden (HB4.out.setCell (p := ⟨gr, k, none⟩) hnew (.int .u8 49))
                have HX5 := hidden (bset (k := k) HX4.out 49 (by decide) 49 rfl)
                rw [List.set_set, ← HD.out, HS.out] at HX5
                go_wp2
                go_roundw
                case rel => exact ⟨k + 1, by omega, by go_num, HX5.out, HB5.out⟩
                case measure => simp [intV]; omega
              · have HD := hidden (dig_no hlk h49)
                have d1 : (((s[k]'hlk).toNat : Int) == 49) = false := beq_eq_false_iff_ne.2 h49
                rw [← HD.out, HS.out] at HX4
                go_wp2
                go_roundw
                case rel => exact ⟨k + 1, by omega, by go_num, HX4.out, HB4.out⟩
                case measure => simp [intV]; omega
            · have i3 : ¬ (k : Int) < (s.size : Int) := by omega
              have i4 : decide ((k : Int) < (s.size : Int)) = false := decide_eq_false i3
              have i5 : decide (k < s.size) = false := decide_eq_false hlk
              have HD := hidden (dig_out hlk)
              rw [← HD.out, HS.out] at HX4
              go_wp2
              go_roundw
              case rel => exact ⟨k + 1, by omega, by go_num, HX4.out, HB4.out⟩
              case measure => simp [intV]; omega
          · obtain rfl : k = N := by omega
            have i2 : ¬ (k : Int) < (k : Int) := by omega
            have hcv := conv_blk hX
            rw [fillL_len] at hcv
            have HB := hidden hB
            clear hX hB
            obtain ⟨out, hout⟩ : ∃ out, out = ba (fillL 0 k (dig8 s 0) k) := ⟨_, rfl⟩
            rw [← hout] at hcv
            have HO := hidden hout
            clear hout
            go_wp2
            go_ret
            exact ⟨by rw [← HO.out]; rfl, HB.out⟩
  · have HF : Hid (memF (plainE (N : Int) f d p r dr o sl md fr zs) N own agreed = noB) := if_neg hE
    rw [HF.out]
    have j1 : (plainE (N : Int) f d p r dr o sl md fr zs != 0) = true := bne_iff_ne.2 hE
    generalize plainE (N : Int) f d p r dr o sl md fr zs = E at *
    clear hE hT HF
    go_enter Try.func29, Try.ntmps29
    go_wp2_with fail
    refine HP.out.mono ?_
    rintro e w2 ⟨rfl, hb⟩
    have HB2 := hidden (bthen HB0.out hb)
    clear hb HP
    go_wp2
    go_ret
    exact ⟨rfl, HB2.out⟩
end Go.Proofs.Ytohgmliafidalaa

/- The call Ages of package plan hands back an iterator that goes through the exchanges from 0 on, each with when it is told; conditions: the table lies where it says. -/
namespace Go.Proofs.Ytohgmliafidalaa
open Go.ChangeShapes Go.WideShapes Go.ChangeAt Go.RowKit Go.Shelf
set_option linter.unusedVariables false
attribute [local go_sem] Oper.semAt_some

theorem Ages_any (n f d p r dr o sl md fr : Int) (ad : Option Addr) (cap : Nat) (zs : List Int) (R : Nat) (w : World) (hl : zs.length ≤ 9223372036854775807) (hT : Tab w ad zs) (hR : gate (plainE n f d p r dr o sl md fr zs) (3 * (f + 1)) = (R : Int)) :
    Calls Try.prog 84 #[.agg #[.int .i64 n, .int .i64 f, .int .i64 d, .int .i64 p, .int .i64 r, .int .i64 dr, .int .i64 o, .int .i64 sl, .int .i64 md, .int .i64 fr, .slice ad zs.length cap]] w fun e w' => ∃ gr gc, e = .returned (.func (.func 117) #[] #[.pointer (some ⟨gr, 0, none⟩), .pointer (some ⟨gc, 0, none⟩)]) ∧ w'.heap[gr]? = some (.cells #[.int .i64 (R : Int)] 3 (0, 0)) ∧ w'.heap[gc]? = some (.cells #[.int .i64 n, .int .i64 f, .int .i64 d, .int .i64 p, .int .i64 r, .int .i64 dr, .int .i64 o, .int .i64 sl, .int .i64 md, .int .i64 fr, .slice ad zs.length cap] 24 (0, 0)) ∧ Below w.heap.size w w' := by
  have HC := hidden (fun V h => Rounds_any n f d p r dr o sl md fr ad cap zs V hl h)
  rw [hR] at HC
  have HT := hidden (hT.below (ballc w (.cells #[.int .i64 n, .int .i64 f, .int .i64 d, .int .i64 p, .int .i64 r, .int .i64 dr, .int .i64 o, .int .i64 sl, .int .i64 md, .int .i64 fr, .slice ad zs.length cap] 24)))
  have HK := hidden (show (w.alloc (.cells #[.int .i64 n, .int .i64 f, .int .i64 d, .int .i64 p, .int .i64 r, .int .i64 dr, .int .i64 o, .int .i64 sl, .int .i64 md, .int .i64 fr, .slice ad zs.length cap] 24)).heap[w.heap.size]? = some (.cells #[.int .i64 n, .int .i64 f, .int .i64 d, .int .i64 p, .int .i64 r, .int .i64 dr, .int .i64 o, .int .i64 sl, .int .i64 md, .int .i64 fr, .slice ad zs.length cap] 24 (0, 0)) from heap_alloc_new w _)
  clear hT hR
  go_enter Try.func84, Try.ntmps84
  go_wp2_with fail
  refine (HC.out _ HT.out).mono ?_
  rintro e w2 ⟨rfl, hb⟩
  have HB := hidden (bthen (ballc w _) hb)
  have HK2 := hidden ((hb.block _ (by simp)).trans HK.out)
  clear hb
  go_wp2
  go_ret
  exact ⟨w2.heap.size, w.heap.size, rfl, heap_alloc_new w2 _, ((ballc w2 _).block _ (Array.getElem?_eq_some_iff.1 HK2.out).1).trans HK2.out, bthen HB.out (ballc _ _)⟩

set_option maxRecDepth 100000 in
set_option maxHeartbeats 2000000 in
theorem ages1_in (n f d p r dr o sl md fr : Int) (ad : Option Addr) (cap : Nat) (zs : List Int) (R : Nat) (hR : R ≤ 15) (hd : R = 0 ∨ 1 ≤ d ∧ d ≤ 4) (m : Nat) (hm : 1 ≤ m) (l gr gc n₀ : Nat) (J Jx : List (Exn R) → World → Prop)
    (hY : ∀ pre x W, J pre W → pre.length < R → YieldAt Fence.wide (m - 1) Try.prog l #[.int .i64 (x.1 : Int), .int .i64 ((x.1 : Int) * d)] W fun e W' =>
      (e = .returned (.bool true) ∧ J (pre ++ [x]) W' ∧ Below n₀ W W') ∨ (e = .returned (.bool false) ∧ Jx (pre ++ [x]) W'))
    (W : World) (b1 : W.heap[gr]? = some (.cells #[.int .i64 (R : Int)] 3 (0, 0))) (b2 : W.heap[gc]? = some (.cells #[.int .i64 n, .int .i64 f, .int .i64 d, .int .i64 p, .int .i64 r, .int .i64 dr, .int .i64 o, .int .i64 sl, .int .i64 md, .int .i64 fr, .slice ad zs.length cap] 24 (0, 0))) (h2 : gc < n₀) (h0 : J [] W) :
    CallsIn Fence.wide m Try.prog 117 #[.func (.yield l) #[] #[], .pointer (some ⟨gr, 0, none⟩), .pointer (some ⟨gc, 0, none⟩)] W fun e W' => (∃ v, e = .returned v) ∧
      ((∃ ys, ys = upto R R ∧ J ys W') ∨ (∃ pre, (∃ k, k ≤ R ∧ pre = upto R k) ∧ Jx pre W')) := by
  have c1 := blk_cell b1 0
  have HK := hidden b2
  clear b2
  refine callsIn_of_wp Try.func117 rfl trivial ?_ rfl
  simp only [Try.ntmps117, List.size_toArray, List.length_cons, List.length_nil, Nat.reduceAdd, Nat.reduceSub, Array.replicate_succ, Array.replicate_zero, List.push_toArray, List.append_toArray, List.nil_append, List.cons_append]
  gi_wp2
  clear c1 b1
  gi_loopw [6] (fun i wr => ∃ k : Nat, k ≤ R ∧ i = .int .i64 k ∧ J (upto R k) wr ∧ Below n₀ W wr)
    (fun i _ => R - (intV i).toNat)
  case atStart => exact ⟨0, Nat.zero_le _, rfl, h0, Below.refl _ _⟩
  case round =>
    obtain ⟨k, hk, rfl, hJs, hB⟩ := hrel
    by_cases hlt : k < R
    · have hb2 : wr.heap[gc]? = some (.cells #[.int .i64 n, .int .i64 f, .int .i64 d, .int .i64 p, .int .i64 r, .int .i64 dr, .int .i64 o, .int .i64 sl, .int .i64 md, .int .i64 fr, .slice ad zs.length cap] 24 (0, 0)) := (hB.block gc h2).trans HK.out
      have c2 := fun i => blk_cell hb2 i
      have hlen := upto_length hk
      have HS := hidden (upto_succ hlt)
      obtain ⟨q1, q2⟩ := xd_bd hR hd hlt
      obtain ⟨fn, tmps, assign, body, hy, hRd⟩ := hY (upto R k) ⟨k, hlt⟩ wr hJs (by omega)
      dsimp only at hy
      clear hY hJs hd hb2 h0
      gi_wp2
      refine hRd.mono ?_
      rintro e W3 (⟨rfl, hJ3, hk3⟩ | ⟨rfl, hJx3⟩)
      · gi_wp2
        go_roundw
        case rel => exact ⟨k + 1, by omega, by simp, by rw [HS.out]; exact hJ3, hB.trans hk3⟩
        case measure => simp [intV]; omega
      · gi_wp2
        refine bodyPost_ret (results_none rfl _ _ _) rfl ?_
        exact ⟨⟨_, rfl⟩, .inr ⟨_, ⟨k + 1, by omega, HS.out.symm⟩, hJx3⟩⟩
    · obtain rfl : k = R := by omega
      gi_wp2
      go_end0
      exact ⟨⟨_, rfl⟩, .inl ⟨_, rfl, hJs⟩⟩

/-- The iterator's contract. -/
theorem ages_stops (n f d p r dr o sl md fr : Int) (ad : Option Addr) (cap : Nat) (zs : List Int) (R : Nat) (hR : R ≤ 15) (hd : R = 0 ∨ 1 ≤ d ∧ d ≤ 4) (m : Nat) (hm : 1 ≤ m) (gr gc n₀ : Nat) (w : World) (hn₀ : n₀ ≤ w.heap.size)
    (b1 : w.heap[gr]? = some (.cells #[.int .i64 (R : Int)] 3 (0, 0))) (b2 : w.heap[gc]? = some (.cells #[.int .i64 n, .int .i64 f, .int .i64 d, .int .i64 p, .int .i64 r, .int .i64 dr, .int .i64 o, .int .i64 sl, .int .i64 md, .int .i64 fr, .slice ad zs.length cap] 24 (0, 0))) (h2 : gc < n₀) :
    SeqStopsK Fence.wide m Try.prog 117 #[.pointer (some ⟨gr, 0, none⟩), .pointer (some ⟨gc, 0, none⟩)] (fun x : Exn R => #[.int .i64 (x.1 : Int), .int .i64 ((x.1 : Int) * d)]) (Below n₀) (fun ys => ys = upto R R) (fun pre => ∃ k, k ≤ R ∧ pre = upto R k) R w := fun l J Jx W hW hJ _ hY h0 =>
  ages1_in n f d p r dr o sl md fr ad cap zs R hR hd m hm l gr gc n₀ J Jx hY W ((hW.block gr (Array.getElem?_eq_some_iff.1 b1).1).trans b1) ((hW.block gc (Array.getElem?_eq_some_iff.1 b2).1).trans b2) h2 h0
end Go.Proofs.Ytohgmliafidalaa

/- The calls Tells and Hears of package plan return the exchange that is told, and heard, at an age, and make at most new memory; conditions: the table lies where it says. -/
namespace Go.Proofs.Ytohgmliafidalaa
open Go.ChangeShapes Go.WideShapes Go.ChangeAt Go.RowKit Go.Shelf
set_option linter.unusedVariables false
attribute [local go_sem] Oper.semAt_some

theorem mem_upto {R i : Nat} : ∀ {k : Nat}, k ≤ R → (h : i < k) → (hR : i < R) → (⟨i, hR⟩ : Exn R) ∈ upto R k
  | k + 1, hk, h, hR => by
    rw [upto_succ (by omega)]
    by_cases e : i = k
    · subst e; simp
    · exact List.mem_append.2 (.inl (mem_upto (by omega) (by omega) hR))
/-- Where a round has stopped. -/
theorem stop_first {R : Nat} {p : Nat → Bool} {pre pre0 : List (Exn R)} {y : Exn R} (hs : ∃ k, k ≤ R ∧ pre = upto R k) (hp : pre = pre0 ++ [y]) (hn : ∀ z ∈ pre0, p z.1 = false) (hy : p y.1 = true) : firstF R p = (y.1 : Int) := by
  obtain ⟨k, hk, rfl⟩ := hs
  cases k with
  | zero => rw [upto_zero] at hp; simp at hp
  | succ j =>
    rw [upto_succ (by omega)] at hp
    obtain ⟨h1, h2⟩ := List.append_inj' hp rfl
    subst h1
    simp at h2
    have hj : y.1 = j := by rw [← h2]
    rw [hj] at hy ⊢
    exact first_hit (by omega) hy fun i hi => hn ⟨i, by omega⟩ (mem_upto (by omega) hi (by omega))
theorem done_first {R : Nat} {p : Nat → Bool} (hn : ∀ z ∈ upto R R, p z.1 = false) : firstF R p = -1 := first_none fun j hj => hn ⟨j, hj⟩ (mem_upto (Nat.le_refl _) hj hj)
theorem all_snoc {R : Nat} {p : Nat → Bool} {pre : List (Exn R)} {x : Exn R} (h : ∀ z ∈ pre, p z.1 = false) (hx : p x.1 = false) : ∀ z ∈ pre ++ [x], p z.1 = false := fun z hz => by
  rcases List.mem_append.1 hz with h1 | h1
  · exact h z h1
  · simp at h1; subst h1; exact hx

set_option maxRecDepth 100000 in
set_option maxHeartbeats 2000000 in
theorem Tells_in (n f d p r dr o sl md fr : Int) (ad : Option Addr) (cap : Nat) (zs : List Int) (age : Int) (R : Nat) (hR15 : R ≤ 15) (hd : R = 0 ∨ 1 ≤ d ∧ d ≤ 4) (m : Nat) (hm : 3 ≤ m) (w : World) (hl : zs.length ≤ 9223372036854775807) (hT : Tab w ad zs) (hR : gate (plainE n f d p r dr o sl md fr zs) (3 * (f + 1)) = (R : Int)) :
    CallsIn Fence.wide m Try.prog 47 #[.agg #[.int .i64 n, .int .i64 f, .int .i64 d, .int .i64 p, .int .i64 r, .int .i64 dr, .int .i64 o, .int .i64 sl, .int .i64 md, .int .i64 fr, .slice ad zs.length cap], .int .i64 age] w fun e W' => e = .returned (.int .i64 (tellF R d age)) ∧ Below w.heap.size w W' := by
  have h1 : 1 ≤ m := by omega
  have hro : Fence.wide.round = none := rfl
  have hB0 : Below w.heap.size w (((w.alloc (.cells #[.int .i64 n, .int .i64 f, .int .i64 d, .int .i64 p, .int .i64 r, .int .i64 dr, .int .i64 o, .int .i64 sl, .int .i64 md, .int .i64 fr, .slice ad zs.length cap] 24)).alloc (.cells #[.int .i64 age] 3)).alloc (.cells #[.int .i64 0] 3)) := bthen (bthen (ballc w _) (ballc _ _)) (ballc _ _)
  have HA := hidden (fun V h => Ages_any n f d p r dr o sl md fr ad cap zs R V hl h hR)
  have HT := hidden (hT.below hB0)
  have b1 : Boxed (((w.alloc (.cells #[.int .i64 n, .int .i64 f, .int .i64 d, .int .i64 p, .int .i64 r, .int .i64 dr, .int .i64 o, .int .i64 sl, .int .i64 md, .int .i64 fr, .slice ad zs.length cap] 24)).alloc (.cells #[.int .i64 age] 3)).alloc (.cells #[.int .i64 0] 3)) (w.heap.size + 1) 3 (.int .i64 age) := blk_later (blk_newAt (w.alloc (.cells #[.int .i64 n, .int .i64 f, .int .i64 d, .int .i64 p, .int .i64 r, .int .i64 dr, .int .i64 o, .int .i64 sl, .int .i64 md, .int .i64 fr, .slice ad zs.length cap] 24)) #[.int .i64 age] 3 (b := w.heap.size + 1) (by simp)) (ballc _ _)
  have b2 : Boxed (((w.alloc (.cells #[.int .i64 n, .int .i64 f, .int .i64 d, .int .i64 p, .int .i64 r, .int .i64 dr, .int .i64 o, .int .i64 sl, .int .i64 md, .int .i64 fr, .slice ad zs.length cap] 24)).alloc (.cells #[.int .i64 age] 3)).alloc (.cells #[.int .i64 0] 3)) (w.heap.size + 1 + 1) 3 (.int .i64 0) := blk_newAt ((w.alloc (.cells #[.int .i64 n, .int .i64 f, .int .i64 d, .int .i64 p, .int .i64 r, .int .i64 dr, .int .i64 o, .int .i64 sl, .int .i64 md, .int .i64 fr, .slice ad zs.length cap] 24)).alloc (.cells #[.int .i64 age] 3)) #[.int .i64 0] 3 (b := w.heap.size + 1 + 1) (by simp)
  have HB0 := hidden hB0
  have H1 := hidden b1
  have H2 := hidden b2
  clear hT hB0 b1 b2
  refine callsIn_of_wp_marks Try.func47 rfl trivial ?_ hro
  simp only [Try.ntmps47, List.size_toArray, List.length_cons, List.length_nil, Nat.reduceAdd, Nat.reduceSub, Array.replicate_succ, Array.replicate_zero, List.push_toArray, List.append_toArray, List.nil_append, List.cons_append]
  have hfa : Fence.wide.fn 84 := trivial
  gi_wp2_with (gi_at_call 84; refine (callsIn_wide.2 (HA.out _ HT.out)).mono ?_; rintro e w0 ⟨gr, gc, rfl, c1, c2, hb⟩)
  have B1 : Boxed w0 (w.heap.size + 1) 3 (.int .i64 age) := (hb.block _ H1.out.lt).trans H1.out
  have B2 : Boxed w0 (w.heap.size + 1 + 1) 3 (.int .i64 0) := (hb.block _ H2.out.lt).trans H2.out
  have hB := bthen HB0.out hb
  have hs2 := B2.lt
  refine wpIn_rangeFunc_ownH hro h1 (gf := 117) (lb := #[.pointer (some ⟨gr, 0, none⟩), .pointer (some ⟨gc, 0, none⟩)]) rfl trivial (enters_of Try.func117 (by kernel_rfl) rfl)
    (ages_stops n f d p r dr o sl md fr ad cap zs R hR15 hd (m - 1) (by omega) gr gc w0.heap.size w0 (Nat.le_refl _) c1 c2 (Array.getElem?_eq_some_iff.1 c2).1) belowK_t (belowK_b (Nat.le_refl _)) (Below.refl _ _) (fun _ => rfl)
    (fun pre W => (∀ z ∈ pre, tellB d age z.1 = false) ∧ (Boxed W (w.heap.size + 1) 3 (.int .i64 age) ∧ Boxed W (w.heap.size + 1 + 1) 3 (.int .i64 0)) ∧ Below w.heap.size w W)
    (fun c pre W => c = .ret ∧ ∃ (pre0 : List (Exn R)) (y : Exn R), (pre = pre0 ++ [y] ∧ (∀ z ∈ pre0, tellB d age z.1 = false) ∧ tellB d age y.1 = true) ∧ Boxed W (w.heap.size + 1 + 1) 3 (.int .i64 (y.1 : Int)) ∧ Below w.heap.size w W)
    (OwnFrom.and (ownFrom_pure _ _) (OwnFrom.and (OwnFrom.and (Own.from (boxed_own _ _ _) _) (Own.from (boxed_own _ _ _) _)) (ownFrom_below (Nat.le_refl _) hB.size)))
    (fun c s X Y row hs hg hr => by
      obtain ⟨hc, pre0, y, hp, hbx, hbl⟩ := hs
      exact ⟨hc, pre0, y, hp, (Own.from (boxed_own _ _ (fun (_ : Unit) => Value.int .i64 (y.1 : Int))) _) () X Y row hbx hg hr, (ownFrom_below (Nat.le_refl _) hB.size) () X Y row hbl hg hr⟩)
    ⟨by simp, ⟨B1, B2⟩, hB⟩
    (fun x a' W => a' = { tmps := #[.agg #[.int .i64 n, .int .i64 f, .int .i64 d, .int .i64 p, .int .i64 r, .int .i64 dr, .int .i64 o, .int .i64 sl, .int .i64 md, .int .i64 fr, .slice ad zs.length cap], .int .i64 age, .pointer (some ⟨w.heap.size, 0, none⟩), .pointer (some ⟨w.heap.size + 1, 0, none⟩), .pointer (some ⟨w.heap.size + 1 + 1, 0, none⟩), .int .i64 (x.1 : Int), .int .i64 ((x.1 : Int) * d), .agg #[.int .i64 n, .int .i64 f, .int .i64 d, .int .i64 p, .int .i64 r, .int .i64 dr, .int .i64 o, .int .i64 sl, .int .i64 md, .int .i64 fr, .slice ad zs.length cap], .func (.func 117) #[] #[.pointer (some ⟨gr, 0, none⟩), .pointer (some ⟨gc, 0, none⟩)], .int .i64 (x.1 : Int), .int .i64 ((x.1 : Int) * d), undef, undef, undef, undef], defers := [] })
    (fun x a' => ownFrom_pure _ _)
    ?assign ?body ?done ?stop
  case assign =>
    rintro l pre x W K hI hK
    gi_wp2
    exact hK _ _ (KeepsFrom.refl _ _) (Below.refl _ _) hI rfl
  case body =>
    rintro l pre x a' W hl hr ⟨hp, ⟨d1, d2⟩, hBw⟩ rfl hlt
    have e1 := d1.cell
    have e2 := d2.cell
    have e3 := d2.frozen
    by_cases ht : (x.1 : Int) * d = age
    · have j : (((x.1 : Int) * d) == age) = true := by simp [ht]
      gi_wp2
      exact ⟨(KeepsOthers.setCell _ _ _).from _, rfl, pre, x, ⟨rfl, hp, decide_eq_true ht⟩, d2.set _, hBw.setCell (p := ⟨w.heap.size + 1 + 1, 0, none⟩) (by simp; omega) _⟩
    · have j : (((x.1 : Int) * d) == age) = false := by simp [ht]
      gi_wp2
      exact ⟨KeepsFrom.refl _ _, Below.refl _ _, all_snoc hp (decide_eq_false ht), ⟨d1, d2⟩, hBw⟩
  case done =>
    rintro D ys W hD rfl ⟨hp, ⟨d1, d2⟩, hBw⟩ hK
    have e2 := d2.cell
    have e3 := d2.frozen
    have hres := done_first hp
    gi_wp2
    have hK' := (KeepsOthers.setCell W ⟨w.heap.size + 1 + 1, 0, none⟩ (.int .i64 (-1))).same D _ hK rfl
    refine ⟨by simp, .inl ⟨_, _, rfl, run_takeDeferred hK', ?_⟩⟩
    have d3 := (d2.set (.int .i64 (-1))).kept (grownBy_putObj' _ D (.deferred none)) (by simp; omega)
    have c5 := d3.cell
    refine ⟨.int .i64 (-1), ?_, by rw [show tellF R d age = -1 from hres], ?_⟩
    · simp [results, Try.results47, go_sem, c5]
    · exact (hBw.setCell (p := ⟨w.heap.size + 1 + 1, 0, none⟩) (by simp; omega) _).trans (belowK_b (w := w) (Nat.le_refl _) _ D _ _ (by omega) hK' rfl rfl)
  case stop =>
    rintro D c pre W hD hS ⟨rfl, pre0, y, ⟨hp, hn, hy⟩, d2, hBw⟩ hK
    have hres := stop_first hS hp hn hy
    gi_wp2
    refine ⟨by simp, .inl ⟨_, _, rfl, run_takeDeferred hK, ?_⟩⟩
    have d3 := d2.kept (grownBy_putObj' _ D (.deferred none)) (by simp; omega)
    have c5 := d3.cell
    refine ⟨.int .i64 (y.1 : Int), ?_, by rw [show tellF R d age = _ from hres], ?_⟩
    · simp [results, Try.results47, go_sem, c5]
    · exact hBw.trans (belowK_b (w := w) (Nat.le_refl _) _ D _ _ (by omega) hK rfl rfl)
end Go.Proofs.Ytohgmliafidalaa

/- The calls Hears, Tells and King of package plan return the exchange that is heard and told at an age, and whose an exchange is, and make at most new memory; conditions: the table lies where it says. -/
namespace Go.Proofs.Ytohgmliafidalaa
open Go.ChangeShapes Go.WideShapes Go.ChangeAt Go.RowKit Go.Shelf
set_option linter.unusedVariables false
attribute [local go_sem] Oper.semAt_some

theorem blk_own {β : Type} (B : Nat) (C : Array Value) (t : TypeId) : Own (fun (_ : β) W => W.heap[B]? = some (.cells C t (0, 0))) := fun s X Y row hs hg hrow =>
  (hg.block B (blk_lt hs) (fun e => by obtain ⟨o, ho, hc⟩ := hrow B e.symm; rw [hs] at ho; cases ho; cases hc)).trans hs

set_option maxRecDepth 100000 in
set_option maxHeartbeats 2000000 in
theorem Hears_in (n f d p r dr o sl md fr : Int) (ad : Option Addr) (cap : Nat) (zs : List Int) (age : Int) (R : Nat) (hR15 : R ≤ 15) (hd : R = 0 ∨ 1 ≤ d ∧ d ≤ 4) (m : Nat) (hm : 3 ≤ m) (w : World) (hl : zs.length ≤ 9223372036854775807) (hT : Tab w ad zs) (hR : gate (plainE n f d p r dr o sl md fr zs) (3 * (f + 1)) = (R : Int)) :
    CallsIn Fence.wide m Try.prog 61 #[.agg #[.int .i64 n, .int .i64 f, .int .i64 d, .int .i64 p, .int .i64 r, .int .i64 dr, .int .i64 o, .int .i64 sl, .int .i64 md, .int .i64 fr, .slice ad zs.length cap], .int .i64 age] w fun e W' => e = .returned (.int .i64 (hearF R d age)) ∧ Below w.heap.size w W' := by
  have h1 : 1 ≤ m := by omega
  have hro : Fence.wide.round = none := rfl
  have hB0 : Below w.heap.size w (((w.alloc (.cells #[.int .i64 n, .int .i64 f, .int .i64 d, .int .i64 p, .int .i64 r, .int .i64 dr, .int .i64 o, .int .i64 sl, .int .i64 md, .int .i64 fr, .slice ad zs.length cap] 24)).alloc (.cells #[.int .i64 age] 3)).alloc (.cells #[.int .i64 0] 3)) := bthen (bthen (ballc w _) (ballc _ _)) (ballc _ _)
  have HA := hidden (fun V h => Ages_any n f d p r dr o sl md fr ad cap zs R V hl h hR)
  have HT := hidden (hT.below hB0)
  have b1 : Boxed (((w.alloc (.cells #[.int .i64 n, .int .i64 f, .int .i64 d, .int .i64 p, .int .i64 r, .int .i64 dr, .int .i64 o, .int .i64 sl, .int .i64 md, .int .i64 fr, .slice ad zs.length cap] 24)).alloc (.cells #[.int .i64 age] 3)).alloc (.cells #[.int .i64 0] 3)) (w.heap.size + 1) 3 (.int .i64 age) := blk_later (blk_newAt (w.alloc (.cells #[.int .i64 n, .int .i64 f, .int .i64 d, .int .i64 p, .int .i64 r, .int .i64 dr, .int .i64 o, .int .i64 sl, .int .i64 md, .int .i64 fr, .slice ad zs.length cap] 24)) #[.int .i64 age] 3 (b := w.heap.size + 1) (by simp)) (ballc _ _)
  have b2 : Boxed (((w.alloc (.cells #[.int .i64 n, .int .i64 f, .int .i64 d, .int .i64 p, .int .i64 r, .int .i64 dr, .int .i64 o, .int .i64 sl, .int .i64 md, .int .i64 fr, .slice ad zs.length cap] 24)).alloc (.cells #[.int .i64 age] 3)).alloc (.cells #[.int .i64 0] 3)) (w.heap.size + 1 + 1) 3 (.int .i64 0) := blk_newAt ((w.alloc (.cells #[.int .i64 n, .int .i64 f, .int .i64 d, .int .i64 p, .int .i64 r, .int .i64 dr, .int .i64 o, .int .i64 sl, .int .i64 md, .int .i64 fr, .slice ad zs.length cap] 24)).alloc (.cells #[.int .i64 age] 3)) #[.int .i64 0] 3 (b := w.heap.size + 1 + 1) (by simp)
  have HB0 := hidden hB0
  have H1 := hidden b1
  have H2 := hidden b2
  clear hT hB0 b1 b2
  refine callsIn_of_wp_marks Try.func61 rfl trivial ?_ hro
  simp only [Try.ntmps61, List.size_toArray, List.length_cons, List.length_nil, Nat.reduceAdd, Nat.reduceSub, Array.replicate_succ, Array.replicate_zero, List.push_toArray, List.append_toArray, List.nil_append, List.cons_append]
  have hfa : Fence.wide.fn 84 := trivial
  gi_wp2_with (gi_at_call 84; refine (callsIn_wide.2 (HA.out _ HT.out)).mono ?_; rintro e w0 ⟨gr, gc, rfl, c1, c2, hb⟩)
  have B1 : Boxed w0 (w.heap.size + 1) 3 (.int .i64 age) := (hb.block _ H1.out.lt).trans H1.out
  have hk0 := blk_later (blk_later (blk_later (blk_nw w #[.int .i64 n, .int .i64 f, .int .i64 d, .int .i64 p, .int .i64 r, .int .i64 dr, .int .i64 o, .int .i64 sl, .int .i64 md, .int .i64 fr, .slice ad zs.length cap] 24) (ballc _ (.cells #[.int .i64 age] 3))) (ballc _ (.cells #[.int .i64 0] 3))) hb
  have B2 : Boxed w0 (w.heap.size + 1 + 1) 3 (.int .i64 0) := (hb.block _ H2.out.lt).trans H2.out
  have hB := bthen HB0.out hb
  have hs2 := B2.lt
  refine wpIn_rangeFunc_ownH hro h1 (gf := 117) (lb := #[.pointer (some ⟨gr, 0, none⟩), .pointer (some ⟨gc, 0, none⟩)]) rfl trivial (enters_of Try.func117 (by kernel_rfl) rfl)
    (ages_stops n f d p r dr o sl md fr ad cap zs R hR15 hd (m - 1) (by omega) gr gc w0.heap.size w0 (Nat.le_refl _) c1 c2 (Array.getElem?_eq_some_iff.1 c2).1) belowK_t (belowK_b (Nat.le_refl _)) (Below.refl _ _) (fun _ => rfl)
    (fun pre W => (∀ z ∈ pre, hearB d age z.1 = false) ∧ (Boxed W (w.heap.size + 1) 3 (.int .i64 age) ∧ Boxed W (w.heap.size + 1 + 1) 3 (.int .i64 0) ∧ W.heap[w.heap.size]? = some (.cells #[.int .i64 n, .int .i64 f, .int .i64 d, .int .i64 p, .int .i64 r, .int .i64 dr, .int .i64 o, .int .i64 sl, .int .i64 md, .int .i64 fr, .slice ad zs.length cap] 24 (0, 0))) ∧ Below w.heap.size w W)
    (fun c pre W => c = .ret ∧ ∃ (pre0 : List (Exn R)) (y : Exn R), (pre = pre0 ++ [y] ∧ (∀ z ∈ pre0, hearB d age z.1 = false) ∧ hearB d age y.1 = true) ∧ Boxed W (w.heap.size + 1 + 1) 3 (.int .i64 (y.1 : Int)) ∧ Below w.heap.size w W)
    (OwnFrom.and (ownFrom_pure _ _) (OwnFrom.and (OwnFrom.and (Own.from (boxed_own _ _ _) _) (OwnFrom.and (Own.from (boxed_own _ _ _) _) (Own.from (blk_own _ _ _) _))) (ownFrom_below (Nat.le_refl _) hB.size)))
    (fun c s X Y row hs hg hr => by
      obtain ⟨hc, pre0, y, hp, hbx, hbl⟩ := hs
      exact ⟨hc, pre0, y, hp, (Own.from (boxed_own _ _ (fun (_ : Unit) => Value.int .i64 (y.1 : Int))) _) () X Y row hbx hg hr, (ownFrom_below (Nat.le_refl _) hB.size) () X Y row hbl hg hr⟩)
    ⟨by simp, ⟨B1, B2, hk0⟩, hB⟩
    (fun x a' W => a' = { tmps := #[.agg #[.int .i64 n, .int .i64 f, .int .i64 d, .int .i64 p, .int .i64 r, .int .i64 dr, .int .i64 o, .int .i64 sl, .int .i64 md, .int .i64 fr, .slice ad zs.length cap], .int .i64 age, .pointer (some ⟨w.heap.size, 0, none⟩), .pointer (some ⟨w.heap.size + 1, 0, none⟩), .pointer (some ⟨w.heap.size + 1 + 1, 0, none⟩), .int .i64 (x.1 : Int), .int .i64 ((x.1 : Int) * d), .agg #[.int .i64 n, .int .i64 f, .int .i64 d, .int .i64 p, .int .i64 r, .int .i64 dr, .int .i64 o, .int .i64 sl, .int .i64 md, .int .i64 fr, .slice ad zs.length cap], .func (.func 117) #[] #[.pointer (some ⟨gr, 0, none⟩), .pointer (some ⟨gc, 0, none⟩)], .int .i64 (x.1 : Int), .int .i64 ((x.1 : Int) * d), undef, undef, undef, undef, undef, undef, undef], defers := [] })
    (fun x a' => ownFrom_pure _ _)
    ?assign ?body ?done ?stop
  case assign =>
    rintro l pre x W K hI hK
    gi_wp2
    exact hK _ _ (KeepsFrom.refl _ _) (Below.refl _ _) hI rfl
  case body =>
    rintro l pre x a' W hl hr ⟨hp, ⟨d1, d2, hk1⟩, hBw⟩ rfl hlt
    have e1 := d1.cell
    have e2 := d2.cell
    have e3 := d2.frozen
    have HK1 := hidden hk1
    have c0 := fun i => blk_cell hk1 i
    have l0 := blk_lt hk1
    obtain ⟨q1, q2⟩ := xd_bd hR15 hd x.2
    have q3 : 1 ≤ d ∧ d ≤ 4 := by have := x.2; omega
    clear hk1
    by_cases ht : (x.1 : Int) * d + d = age
    · have j : (((x.1 : Int) * d + d) == age) = true := by simp [ht]
      gi_wp2
      exact ⟨(KeepsOthers.setCell _ _ _).from _, rfl, pre, x, ⟨rfl, hp, decide_eq_true ht⟩, d2.set _, hBw.setCell (p := ⟨w.heap.size + 1 + 1, 0, none⟩) (by simp; omega) _⟩
    · have j : (((x.1 : Int) * d + d) == age) = false := by simp [ht]
      gi_wp2
      exact ⟨KeepsFrom.refl _ _, Below.refl _ _, all_snoc hp (decide_eq_false ht), ⟨d1, d2, HK1.out⟩, hBw⟩
  case done =>
    rintro D ys W hD rfl ⟨hp, ⟨d1, d2, hk1⟩, hBw⟩ hK
    have e2 := d2.cell
    have e3 := d2.frozen
    have hres := done_first hp
    gi_wp2
    have hK' := (KeepsOthers.setCell W ⟨w.heap.size + 1 + 1, 0, none⟩ (.int .i64 (-1))).same D _ hK rfl
    refine ⟨by simp, .inl ⟨_, _, rfl, run_takeDeferred hK', ?_⟩⟩
    have d3 := (d2.set (.int .i64 (-1))).kept (grownBy_putObj' _ D (.deferred none)) (by simp; omega)
    have c5 := d3.cell
    refine ⟨.int .i64 (-1), ?_, by rw [show hearF R d age = -1 from hres], ?_⟩
    · simp [results, Try.results61, go_sem, c5]
    · exact (hBw.setCell (p := ⟨w.heap.size + 1 + 1, 0, none⟩) (by simp; omega) _).trans (belowK_b (w := w) (Nat.le_refl _) _ D _ _ (by omega) hK' rfl rfl)
  case stop =>
    rintro D c pre W hD hS ⟨rfl, pre0, y, ⟨hp, hn, hy⟩, d2, hBw⟩ hK
    have hres := stop_first hS hp hn hy
    gi_wp2
    refine ⟨by simp, .inl ⟨_, _, rfl, run_takeDeferred hK, ?_⟩⟩
    have d3 := d2.kept (grownBy_putObj' _ D (.deferred none)) (by simp; omega)
    have c5 := d3.cell
    refine ⟨.int .i64 (y.1 : Int), ?_, by rw [show hearF R d age = _ from hres], ?_⟩
    · simp [results, Try.results61, go_sem, c5]
    · exact hBw.trans (belowK_b (w := w) (Nat.le_refl _) _ D _ _ (by omega) hK rfl rfl)

theorem Tells_any (n f d p r dr o sl md fr : Int) (ad : Option Addr) (cap : Nat) (zs : List Int) (age : Int) (R : Nat) (hR15 : R ≤ 15) (hd : R = 0 ∨ 1 ≤ d ∧ d ≤ 4) (w : World) (hl : zs.length ≤ 9223372036854775807) (hT : Tab w ad zs) (hR : gate (plainE n f d p r dr o sl md fr zs) (3 * (f + 1)) = (R : Int)) :
    Calls Try.prog 47 #[.agg #[.int .i64 n, .int .i64 f, .int .i64 d, .int .i64 p, .int .i64 r, .int .i64 dr, .int .i64 o, .int .i64 sl, .int .i64 md, .int .i64 fr, .slice ad zs.length cap], .int .i64 age] w fun e W' => e = .returned (.int .i64 (tellF R d age)) ∧ Below w.heap.size w W' := (callsIn_wide (n := 3)).1 (Tells_in n f d p r dr o sl md fr ad cap zs age R hR15 hd 3 (Nat.le_refl _) w hl hT hR)
theorem Hears_any (n f d p r dr o sl md fr : Int) (ad : Option Addr) (cap : Nat) (zs : List Int) (age : Int) (R : Nat) (hR15 : R ≤ 15) (hd : R = 0 ∨ 1 ≤ d ∧ d ≤ 4) (w : World) (hl : zs.length ≤ 9223372036854775807) (hT : Tab w ad zs) (hR : gate (plainE n f d p r dr o sl md fr zs) (3 * (f + 1)) = (R : Int)) :
    Calls Try.prog 61 #[.agg #[.int .i64 n, .int .i64 f, .int .i64 d, .int .i64 p, .int .i64 r, .int .i64 dr, .int .i64 o, .int .i64 sl, .int .i64 md, .int .i64 fr, .slice ad zs.length cap], .int .i64 age] w fun e W' => e = .returned (.int .i64 (hearF R d age)) ∧ Below w.heap.size w W' := (callsIn_wide (n := 3)).1 (Hears_in n f d p r dr o sl md fr ad cap zs age R hR15 hd 3 (Nat.le_refl _) w hl hT hR)

theorem PKing_any (n f d p r dr o sl md fr : Int) (ad : Option Addr) (cap : Nat) (zs : List Int) (x : Int) (R : Nat) (hx : -9223372036854775808 ≤ x ∧ x ≤ 9223372036854775807) (w : World) (hl : zs.length ≤ 9223372036854775807) (hT : Tab w ad zs) (hR : gate (plainE n f d p r dr o sl md fr zs) (3 * (f + 1)) = (R : Int)) :
    Calls Try.prog 104 #[.agg #[.int .i64 n, .int .i64 f, .int .i64 d, .int .i64 p, .int .i64 r, .int .i64 dr, .int .i64 o, .int .i64 sl, .int .i64 md, .int .i64 fr, .slice ad zs.length cap], .int .i64 x] w fun e W' => e = .returned (.int .i64 (kingF R x)) ∧ Below w.heap.size w W' := by
  have HC := hidden (fun V h => Rounds_any n f d p r dr o sl md fr ad cap zs V hl h)
  rw [hR] at HC
  have HT := hidden (hT.below (ballc w (.cells #[.int .i64 n, .int .i64 f, .int .i64 d, .int .i64 p, .int .i64 r, .int .i64 dr, .int .i64 o, .int .i64 sl, .int .i64 md, .int .i64 fr, .slice ad zs.length cap] 24)))
  clear hT hR
  by_cases h0 : x < 0
  · have e1 : decide (x < 0) = true := decide_eq_true h0
    have hr := hidden (kingF_lo (R := R) h0)
    clear h0
    go_enter Try.func104, Try.ntmps104
    go_wp2
    go_ret
    exact ⟨ret_i hr.out.symm, ballc _ _⟩
  · have e1 : decide (x < 0) = false := decide_eq_false h0
    by_cases h1 : (R : Int) ≤ x
    · have e2 : decide ((R : Int) ≤ x) = true := decide_eq_true h1
      have hr := hidden (kingF_hi h1)
      clear h1
      go_enter Try.func104, Try.ntmps104
      go_wp2_with fail
      refine (HC.out _ HT.out).mono ?_
      rintro e w2 ⟨rfl, hb⟩
      have HB := hidden (bthen (ballc w _) hb)
      clear hb
      go_wp2
      go_ret
      exact ⟨ret_i hr.out.symm, HB.out⟩
    · have e2 : decide ((R : Int) ≤ x) = false := decide_eq_false h1
      have hr := hidden (kingF_in (R := R) (x := x) (by omega) (by omega))
      have e3 : x.tdiv 3 = x / 3 := by rw [Int.tdiv_eq_ediv_of_nonneg (by omega)]
      clear h1
      go_enter Try.func104, Try.ntmps104
      go_wp2_with fail
      refine (HC.out _ HT.out).mono ?_
      rintro e w2 ⟨rfl, hb⟩
      have HB := hidden (bthen (ballc w _) hb)
      clear hb
      go_wp2
      go_ret
      exact ⟨ret_i hr.out.symm, HB.out⟩
end Go.Proofs.Ytohgmliafidalaa

/- The calls seenBits, Begin, exchangeOf and Tell of package agree return what plain functions give, and make at most new memory; conditions: the table lies where it says, numbers and lengths fit int. -/
namespace Go.Proofs.Ytohgmliafidalaa
open Go.ChangeShapes Go.WideShapes Go.ChangeAt Go.RowKit
set_option linter.unusedVariables false
attribute [local go_sem] cell_rg

set_option maxRecDepth 100000 in
set_option maxHeartbeats 4000000 in
theorem seenBits_any (N : Nat) (f d p r dr o sl md fr : Int) (ad : Option Addr) (cap : Nat) (zs : List Int) (hN : N ≤ 13) (seen : ByteArray) (w : World) (hs : seen.size ≤ 9223372036854775807) :
    Calls Try.prog 55 #[.agg #[.int .i64 (N : Int), .int .i64 f, .int .i64 d, .int .i64 p, .int .i64 r, .int .i64 dr, .int .i64 o, .int .i64 sl, .int .i64 md, .int .i64 fr, .slice ad zs.length cap], .string seen] w fun e w' => e = .returned (.string (digT seen 0 N)) ∧ Below w.heap.size w w' := by
  rw [← digT_ba]
  have hmb := make_bytes N (by omega) (w.alloc (.cells #[.int .i64 (N : Int), .int .i64 f, .int .i64 d, .int .i64 p, .int .i64 r, .int .i64 dr, .int .i64 o, .int .i64 sl, .int .i64 md, .int .i64 fr, .slice ad zs.length cap] 24))
  simp only [World.size_alloc] at hmb
  have HX0 : Hid (((w.alloc (.cells #[.int .i64 (N : Int), .int .i64 f, .int .i64 d, .int .i64 p, .int .i64 r, .int .i64 dr, .int .i64 o, .int .i64 sl, .int .i64 md, .int .i64 fr, .slice ad zs.length cap] 24)).alloc (.cells (bvals (List.replicate N 0)) 5)).heap[w.heap.size + 1]? = some (.cells (bvals (fillL 0 N (dig8 seen 0) 0)) 5 (0, 0))) := by
    show _ = _
    rw [fillL_0]
    exact blk_newAt _ _ _ (by simp)
  have HB3 := hidden (bthen (ballc w (.cells #[.int .i64 (N : Int), .int .i64 f, .int .i64 d, .int .i64 p, .int .i64 r, .int .i64 dr, .int .i64 o, .int .i64 sl, .int .i64 md, .int .i64 fr, .slice ad zs.length cap] 24)) (ballc _ (.cells (bvals (List.replicate N 0)) 5)))
  have hnew : w.heap.size ≤ w.heap.size + 1 := by omega
  go_enter Try.func55, Try.ntmps55
  go_wp2
  clear hmb
  generalize hw3 : (w.alloc (.cells #[.int .i64 (N : Int), .int .i64 f, .int .i64 d, .int .i64 p, .int .i64 r, .int .i64 dr, .int .i64 o, .int .i64 sl, .int .i64 md, .int .i64 fr, .slice ad zs.length cap] 24)).alloc (.cells (bvals (List.replicate N 0)) 5) = w3 at *
  generalize w.heap.size + 1 = gr at *
  clear hw3
  go_loopw [12] (fun i wr => ∃ k : Nat, k ≤ N ∧ i = .int .i64 k ∧ wr.heap[gr]? = some (.cells (bvals (fillL 0 N (dig8 seen 0) k)) 5 (0, 0)) ∧ Below w.heap.size w wr) (fun i _ => N - (intV i).toNat)
  case atStart => exact ⟨0, Nat.zero_le _, rfl, HX0.out, HB3.out⟩
  case round =>
    obtain ⟨k, hk, rfl, hX, hB⟩ := hrel
    by_cases hlt : k < N
    · have i1 : (0 : Int) ≤ (k : Int) := by omega
      have i2 : (k : Int) < (N : Int) := by omega
      have HS := hidden (fillL_set (0 : UInt8) N (dig8 seen 0) k hlt)
      have c0 := blk_cell hX k
      rw [bvals_at _ k (by rw [fillL_len]; exact hlt)] at c0
      have f0 := blk_frozen hX k
      have l0 := blk_lt hX
      have HB4 := hidden (hB.setCell (p := ⟨gr, k, none⟩) hnew (.int .u8 48))
      have HX4 := hidden (bset (k := k) hX 48 (by decide) 48 rfl)
      clear hX hB
      by_cases hlk : k < seen.size
      · have i3 : (k : Int) < (seen.size : Int) := by omega
        have i4 : decide ((k : Int) < (seen.size : Int)) = true := decide_eq_true i3
        have i5 : decide (k < seen.size) = true := decide_eq_true hlk
        by_cases h49 : ((seen[k]'hlk).toNat : Int) = 49
        · have HD := hidden (dig_yes hlk h49)
          have d1 : (((seen[k]'hlk).toNat : Int) == 49) = true := beq_iff_eq.2 h49
          have c1 := blk_cell HX4.out k
          rw [bvals_at _ k (by rw [List.length_set, fillL_len]; exact hlt)] at c1
          have f1 := blk_frozen HX4.out k
          have l1 := blk_lt HX4.out
          have HB5 := hidden (HB4.out.setCell (p := ⟨gr, k, none⟩) hnew (.int .u8 49))
          have HX5 := hidden (bset (k := k) HX4.out 49 (by decide) 49 rfl)
          rw [List.set_set, ← HD.out, HS.out] at HX5
          go_wp2
          go_roundw
          case rel => exact ⟨k + 1, by omega, by go_num, HX5.out, HB5.out⟩
          case measure => simp [intV]; omega
        · have HD := hidden (dig_no hlk h49)
          have d1 : (((seen[k]'hlk).toNat : Int) == 49) = false := beq_eq_false_iff_ne.2 h49
          rw [← HD.out, HS.out] at HX4
          go_wp2
          go_roundw
          case rel => exact ⟨k + 1, by omega, by go_num, HX4.out, HB4.out⟩
          case measure => simp [intV]; omega
      · have i3 : ¬ (k : Int) < (seen.size : Int) := by omega
        have i4 : decide ((k : Int) < (seen.size : Int)) = false := decide_eq_false i3
        have i5 : decide (k < seen.size) = false := decide_eq_false hlk
        have HD := hidden (dig_out hlk)
        rw [← HD.out, HS.out] at HX4
        go_wp2
        go_roundw
        case rel => exact ⟨k + 1, by omega, by go_num, HX4.out, HB4.out⟩
        case measure => simp [intV]; omega
    · obtain rfl : k = N := by omega
      have i2 : ¬ (k : Int) < (k : Int) := by omega
      have hcv := conv_blk hX
      rw [fillL_len] at hcv
      have HB := hidden hB
      clear hX hB
      obtain ⟨out, hout⟩ : ∃ out, out = ba (fillL 0 k (dig8 seen 0) k) := ⟨_, rfl⟩
      rw [← hout] at hcv
      have HO := hidden hout
      clear hout
      go_wp2
      go_ret
      exact ⟨by rw [← HO.out]; rfl, HB.out⟩
theorem exchangeOf_any (x : Int) (hx : -9223372036854775808 ≤ x ∧ x ≤ 1000000) (w : World) :
    Calls Try.prog 48 #[.int .i64 x] w fun e w' => e = .returned (.int .i64 (x + 1)) ∧ w = w' := by
  go_enter Try.func48, Try.ntmps48
  go_wp2
  go_ret
  exact ⟨rfl, rfl⟩
set_option maxHeartbeats 4000000 in
theorem ABegin_any (N : Nat) (f d p r dr o sl md fr : Int) (ad : Option Addr) (cap : Nat) (zs : List Int) (num : Int) (seen : ByteArray) (w : World) (hl : zs.length ≤ 9223372036854775807) (hT : Tab w ad zs) (hn : num ≤ 9223372036854775807) (hs : seen.size ≤ 9223372036854775807) (hE : plainE (N : Int) f d p r dr o sl md fr zs = 0) :
    Calls Try.prog 18 #[.agg #[.int .i64 (N : Int), .int .i64 f, .int .i64 d, .int .i64 p, .int .i64 r, .int .i64 dr, .int .i64 o, .int .i64 sl, .int .i64 md, .int .i64 fr, .slice ad zs.length cap], .int .i64 num, .string seen] w fun e w' => e = .returned (.string (begA 0 N num seen)) ∧ Below w.heap.size w w' := by
  have HB0 := hidden (ballc w (.cells #[.int .i64 (N : Int), .int .i64 f, .int .i64 d, .int .i64 p, .int .i64 r, .int .i64 dr, .int .i64 o, .int .i64 sl, .int .i64 md, .int .i64 fr, .slice ad zs.length cap] 24))
  have HK := hidden (blk_nw w #[.int .i64 (N : Int), .int .i64 f, .int .i64 d, .int .i64 p, .int .i64 r, .int .i64 dr, .int .i64 o, .int .i64 sl, .int .i64 md, .int .i64 fr, .slice ad zs.length cap] 24)
  have HP := hidden (plain_any (N : Int) f d p r dr o sl md fr ad cap zs (w.alloc (.cells #[.int .i64 (N : Int), .int .i64 f, .int .i64 d, .int .i64 p, .int .i64 r, .int .i64 dr, .int .i64 o, .int .i64 sl, .int .i64 md, .int .i64 fr, .slice ad zs.length cap] 24)) hl (hT.below (ballc _ _)))
  obtain ⟨n1, n2, _⟩ := plainE_ok hE
  have C1 := hidden (fun V => Bits_any2 num 8 hn V)
  have C2 := hidden (fun V => seenBits_any N f d p r dr o sl md fr ad cap zs (by omega) seen V hs)
  have hz := begS_size N num seen
  have C3 := hidden (fun V => Of_any (begS N num seen) (by omega) V)
  rw [hz] at C3
  have HA : Hid (begA 0 N num seen = dgB (8 + N) (ofG (begS N num seen))) := if_pos rfl
  rw [HA.out]
  have HS : Hid (dgB (widF 8) (bitG num.toNat) ++ digT seen 0 N = begS N num seen) := rfl
  rw [hE] at HP
  have s1 : (dgB (widF 8) (bitG num.toNat)).size = 8 := dgB_size _ _
  have s2 : (digT seen 0 N).size = N := dgB_size _ _
  generalize dgB (8 + N) (ofG (begS N num seen)) = out at *
  generalize begS N num seen = bs at *
  generalize dgB (widF 8) (bitG num.toNat) = t1 at *
  generalize digT seen 0 N = t2 at *
  clear hE hT HA hz
  go_enter Try.func18, Try.ntmps18
  go_wp2_with fail
  refine HP.out.mono ?_
  rintro e w2 ⟨rfl, hb⟩
  have HB2 := hidden (bthen HB0.out hb)
  have HK2 := hidden (blk_later HK.out hb)
  have c0 := blk_cell HK2.out
  have l0 := blk_lt HK2.out
  clear hb HP
  go_wp2
  have hcat := HS.out
  refine wp_region_quiet_below (by kernel_rfl) (by kernel_rfl) ?_
  repeat (go_big_quiet_step (fail))
  go_big_quiet_step ((go_at_call 54; exact Calls.regrown_of (C1.out _)))
  repeat (go_big_quiet_step (fail))
  go_big_quiet_step ((go_at_call 55; exact Calls.regrown_of (C2.out _)))
  repeat (go_big_quiet_step (fail))
  go_big_quiet_step ((go_at_call 53; exact Calls.regrown_of (C3.out _)))
  repeat (go_big_quiet_step (fail))
  refine wpQuiet_nil ?_
  intro w5 hw5
  have HB5 := hidden (bthen HB2.out (rg_below hw5))
  clear hw5 c0 l0
  go_wp2
  go_ret
  exact ⟨rfl, HB5.out⟩
theorem ABegin_no (n f d p r dr o sl md fr : Int) (ad : Option Addr) (cap : Nat) (zs : List Int) (num : Int) (seen : ByteArray) (w : World) (hl : zs.length ≤ 9223372036854775807) (hT : Tab w ad zs) (hE : ¬ plainE n f d p r dr o sl md fr zs = 0) :
    Calls Try.prog 18 #[.agg #[.int .i64 n, .int .i64 f, .int .i64 d, .int .i64 p, .int .i64 r, .int .i64 dr, .int .i64 o, .int .i64 sl, .int .i64 md, .int .i64 fr, .slice ad zs.length cap], .int .i64 num, .string seen] w fun e w' => e = .returned (.string noB) ∧ Below w.heap.size w w' := by
  have HB0 := hidden (ballc w (.cells #[.int .i64 n, .int .i64 f, .int .i64 d, .int .i64 p, .int .i64 r, .int .i64 dr, .int .i64 o, .int .i64 sl, .int .i64 md, .int .i64 fr, .slice ad zs.length cap] 24))
  have HP := hidden (plain_any n f d p r dr o sl md fr ad cap zs (w.alloc (.cells #[.int .i64 n, .int .i64 f, .int .i64 d, .int .i64 p, .int .i64 r, .int .i64 dr, .int .i64 o, .int .i64 sl, .int .i64 md, .int .i64 fr, .slice ad zs.length cap] 24)) hl (hT.below (ballc _ _)))
  have j1 : (plainE n f d p r dr o sl md fr zs != 0) = true := bne_iff_ne.2 hE
  generalize plainE n f d p r dr o sl md fr zs = E at *
  clear hE hT
  go_enter Try.func18, Try.ntmps18
  go_wp2_with fail
  refine HP.out.mono ?_
  rintro e w2 ⟨rfl, hb⟩
  have HB2 := hidden (bthen HB0.out hb)
  clear hb HP
  go_wp2
  go_ret
  exact ⟨rfl, HB2.out⟩
theorem ABegin_all (n f d p r dr o sl md fr : Int) (ad : Option Addr) (cap : Nat) (zs : List Int) (num : Int) (seen : ByteArray) (w : World) (hl : zs.length ≤ 9223372036854775807) (hT : Tab w ad zs) (hn : num ≤ 9223372036854775807) (hs : seen.size ≤ 9223372036854775807) :
    Calls Try.prog 18 #[.agg #[.int .i64 n, .int .i64 f, .int .i64 d, .int .i64 p, .int .i64 r, .int .i64 dr, .int .i64 o, .int .i64 sl, .int .i64 md, .int .i64 fr, .slice ad zs.length cap], .int .i64 num, .string seen] w fun e w' => e = .returned (.string (begA (plainE n f d p r dr o sl md fr zs) n.toNat num seen)) ∧ Below w.heap.size w w' := by
  by_cases hE : plainE n f d p r dr o sl md fr zs = 0
  · obtain ⟨N, rfl⟩ : ∃ N : Nat, n = (N : Int) := ⟨n.toNat, by have := (plainE_ok hE).1; omega⟩
    rw [Int.toNat_natCast]
    have h := ABegin_any N f d p r dr o sl md fr ad cap zs num seen w hl hT hn hs hE
    rw [← hE] at h
    exact h
  · have h : begA (plainE n f d p r dr o sl md fr zs) n.toNat num seen = noB := if_neg hE
    rw [h]
    exact ABegin_no n f d p r dr o sl md fr ad cap zs num seen w hl hT hE
set_option maxHeartbeats 4000000 in
theorem ATell_any (n f d p r dr o sl md fr : Int) (ad : Option Addr) (cap : Nat) (zs : List Int) (R : Nat) (age : Int) (codes : ByteArray) (hs : codes.size ≤ 100000) (w : World) (hl : zs.length ≤ 9223372036854775807) (hT : Tab w ad zs) (hR : gate (plainE n f d p r dr o sl md fr zs) (3 * (f + 1)) = (R : Int)) (hR15 : R ≤ 15) (hd : R = 0 ∨ 1 ≤ d ∧ d ≤ 4) :
    Calls Try.prog 16 #[.agg #[.int .i64 n, .int .i64 f, .int .i64 d, .int .i64 p, .int .i64 r, .int .i64 dr, .int .i64 o, .int .i64 sl, .int .i64 md, .int .i64 fr, .slice ad zs.length cap], .int .i64 age, .string codes] w fun e w' => e = .returned (.tuple #[.int .i64 (telX R d age codes), .string (telV R d age codes)]) ∧ Below w.heap.size w w' := by
  have HB0 := hidden (ballc w (.cells #[.int .i64 n, .int .i64 f, .int .i64 d, .int .i64 p, .int .i64 r, .int .i64 dr, .int .i64 o, .int .i64 sl, .int .i64 md, .int .i64 fr, .slice ad zs.length cap] 24))
  have HT := hidden (hT.below HB0.out)
  have C1 := hidden (Tells_any n f d p r dr o sl md fr ad cap zs age R hR15 hd (w.alloc (.cells #[.int .i64 n, .int .i64 f, .int .i64 d, .int .i64 p, .int .i64 r, .int .i64 dr, .int .i64 o, .int .i64 sl, .int .i64 md, .int .i64 fr, .slice ad zs.length cap] 24)) hl HT.out hR)
  have C2 := hidden (fun x (hx : -9223372036854775808 ≤ x ∧ x ≤ 1000000) V => exchangeOf_any x hx V)
  have C3 := hidden (fun V => Values_any codes hs V)
  have hlt : -1 ≤ tellF R d age ∧ tellF R d age ≤ 15 := by
    have := first_lt R (tellB d age)
    show -1 ≤ firstF R (tellB d age) ∧ firstF R (tellB d age) ≤ 15
    omega
  have HX : Hid (telX R d age codes = if telB R d age codes = true then 0 else tellF R d age + 1) := rfl
  have HV : Hid (telV R d age codes = if telB R d age codes = true then noB else dgB codes.size (valG codes)) := rfl
  have HTB : Hid (telB R d age codes = (emt codes || (tellF R d age == -1))) := rfl
  rw [HX.out, HV.out, HTB.out]
  clear HX HV HTB hR hT
  generalize tellF R d age = x at *
  generalize dgB codes.size (valG codes) = vs at *
  by_cases he : emt codes = true
  · have e1 : codes.toList.isEmpty = true := he
    rw [if_pos (by rw [he]; rfl), if_pos (by rw [he]; rfl)]
    clear he
    go_enter Try.func16, Try.ntmps16
    go_wp2_with fail
    refine C1.out.mono ?_
    rintro e w2 ⟨rfl, hb⟩
    have HB2 := hidden (bthen HB0.out hb)
    clear hb
    go_wp2
    exact bodyPost_ret (v := .tuple #[.int .i64 0, .string noB]) (by simp [results, Try.results16, go_sem]; try rfl) rfl ⟨rfl, HB2.out⟩
  · have e1 : codes.toList.isEmpty = false := by
      have : emt codes = false := by simpa using he
      exact this
    have he2 : emt codes = false := e1
    by_cases hx : x = -1
    · have e2 : (x == -1) = true := beq_iff_eq.2 hx
      rw [if_pos (by rw [e2]; simp), if_pos (by rw [e2]; simp)]
      clear he he2 hx
      go_enter Try.func16, Try.ntmps16
      go_wp2_with fail
      refine C1.out.mono ?_
      rintro e w2 ⟨rfl, hb⟩
      have HB2 := hidden (bthen HB0.out hb)
      clear hb
      go_wp2
      exact bodyPost_ret (v := .tuple #[.int .i64 0, .string noB]) (by simp [results, Try.results16, go_sem]; try rfl) rfl ⟨rfl, HB2.out⟩
    · have e2 : (x == -1) = false := beq_eq_false_iff_ne.2 hx
      rw [if_neg (by rw [e2, he2]; decide), if_neg (by rw [e2, he2]; decide)]
      have C2 := hidden (C2.out x (by omega))
      clear he he2 hx
      go_enter Try.func16, Try.ntmps16
      go_wp2_with fail
      refine C1.out.mono ?_
      rintro e w2 ⟨rfl, hb⟩
      have HB2 := hidden (bthen HB0.out hb)
      clear hb
      go_wp2_with fail
      refine (C2.out _).mono ?_
      rintro e w3 ⟨rfl, rfl⟩
      go_wp2_with fail
      refine (C3.out _).mono ?_
      rintro e w4 ⟨rfl, hb⟩
      have HB4 := hidden (bthen HB2.out hb)
      clear hb
      go_wp2
      exact bodyPost_ret (v := .tuple #[.int .i64 (x + 1), .string vs]) (by simp [results, Try.results16, go_sem]) rfl ⟨rfl, HB4.out⟩
end Go.Proofs.Ytohgmliafidalaa

/- The calls toldIn and hear of package agree return what plain functions give, and make at most new memory; conditions: rows lie where they say, numbers and lengths fit int, at most a hundred thousand packets. -/
namespace Go.Proofs.Ytohgmliafidalaa
open Go.ChangeShapes Go.WideShapes Go.ChangeAt Go.RowKit
set_option linter.unusedVariables false
attribute [local go_sem] cell_rg

theorem kPkt_at {n₀ : Nat} {W : World} {ad : Option Addr} {len cap : Nat} {qs : List Pkt} (h : kPkt.Lies n₀ W (.slice ad len cap) qs) (j : Nat) (hj : j < qs.length) : ∃ b off : Nat, ad = some ⟨b, off, none⟩ ∧ b < n₀ ∧
    W.cell? ⟨b, off + j * 6, none⟩ = some (.string (qs.getD j noP).vo) ∧ W.cell? ⟨b, off + j * 6 + 1, none⟩ = some (.int .i64 (qs.getD j noP).ex) ∧ W.cell? ⟨b, off + j * 6 + 2, none⟩ = some (.string (qs.getD j noP).ve) ∧ W.cell? ⟨b, off + j * 6 + 3, none⟩ = some (.int .i64 (qs.getD j noP).ps) ∧ W.cell? ⟨b, off + j * 6 + 4, none⟩ = some (.int .i64 (qs.getD j noP).cy) ∧ W.cell? ⟨b, off + j * 6 + 5, none⟩ = some (.string (qs.getD j noP).te) := by
  obtain ⟨b, off, he, hb, hc⟩ := h.at j hj
  have e : qs.getD j noP = qs[j] := by rw [List.getD_eq_getElem?_getD, List.getElem?_eq_getElem hj, Option.getD_some]
  rw [e]
  exact ⟨b, off, he, hb, hc 0 (by decide), hc 1 (by decide), hc 2 (by decide), hc 3 (by decide), hc 4 (by decide), hc 5 (by decide)⟩
theorem told_fill (x : Int) (qs : List Pkt) : (List.range qs.length).map (fun i => vecOf x (qs.getD i noP)) = toldQ x qs := by
  unfold toldQ
  apply List.ext_getElem
  · simp
  · intro i h1 h2
    simp at h1
    simp [h1]
set_option maxRecDepth 100000 in
set_option maxHeartbeats 4000000 in
theorem toldIn_any (x : Int) (hx : -1 ≤ x ∧ x ≤ 1000) (a2 : Option Addr) (c2 : Nat) (qs : List Pkt) (w : World) (hn : qs.length ≤ 100000) (hV : kPkt.Lies w.heap.size w (.slice a2 qs.length c2) qs) :
    Calls Try.prog 103 #[.int .i64 x, .slice a2 qs.length c2] w fun e w' => ∃ g, e = .returned (.slice (some ⟨g, 0, none⟩) qs.length qs.length) ∧ SBlk w' g (toldQ x qs) ∧ Below w.heap.size w w' := by
  obtain ⟨N, hN⟩ : ∃ N, N = qs.length := ⟨_, rfl⟩
  have hN5 : N ≤ 100000 := by omega
  have hmk := fun V => make_strs N (by omega) V
  have HV := hidden hV
  have HK0 : Hid (SBlk (w.alloc (.cells (svals (List.replicate N noB)) 9)) w.heap.size (fillL noB N (fun i => vecOf x (qs.getD i noP)) 0)) := by
    show SBlk _ _ _
    rw [fillL_0]
    exact blk_nw w _ _
  have HB0 : Hid (Below w.heap.size w (w.alloc (.cells (svals (List.replicate N noB)) 9))) := ballc w _
  have HF : Hid (fillL noB N (fun i => vecOf x (qs.getD i noP)) N = toldQ x qs) := by show _ = _; rw [fillL_all, hN]; exact told_fill x qs
  have CX := hidden (fun V => Calls.to_below (exchangeOf_any x (by omega) V))
  have HN := hidden hN
  rw [← hN] at HV ⊢
  clear hV hN
  go_enter Try.func103, Try.ntmps103
  go_wp2
  clear hmk
  generalize w.alloc (.cells (svals (List.replicate N noB)) 9) = W0 at *
  go_loopw [13] (fun i wr => ∃ j : Nat, j ≤ N ∧ i = .int .i64 j ∧ SBlk wr w.heap.size (fillL noB N (fun i => vecOf x (qs.getD i noP)) j) ∧ Below w.heap.size w wr) (fun i _ => N - (intV i).toNat)
  case atStart => exact ⟨0, Nat.zero_le _, rfl, HK0.out, HB0.out⟩
  case round =>
    obtain ⟨j, hj, rfl, hX, hB⟩ := hrel
    clear HK0 HB0
    have HB := hidden hB
    have HX := hidden hX
    by_cases hlt : j < N
    · have i1 : (0 : Int) ≤ (j : Int) := by omega
      have i2 : (j : Int) < (N : Int) := by omega
      have hjv : j < qs.length := by rw [← HN.out]; exact hlt
      obtain ⟨b, off, rfl, hbl, e0, e1, e2, e3, e4, e5⟩ := kPkt_at (HV.out.below hB) j hjv
      have HS := hidden (fillL_set noB N (fun i => vecOf x (qs.getD i noP)) j hlt)
      have hy0 : (fillL noB N (fun i => vecOf x (qs.getD i noP)) j).getD j noB = noB := by
        unfold fillL
        rw [range_getD _ _ _ _ hlt, if_neg (by omega)]
      have lb := Nat.lt_of_lt_of_le hbl hB.size
      have l9 := hX.lt
      have hlen := fillL_len noB N (fun i => vecOf x (qs.getD i noP)) j
      obtain ⟨q, hq⟩ : ∃ q, q = qs.getD j noP := ⟨_, rfl⟩
      rw [← hq] at e0 e1 e2 e3 e4 e5
      rw [← hq] at HS
      clear hX hB hjv hq
      obtain ⟨vo, ex, ve, ps, cy, te⟩ := q
      dsimp only at e0 e1 e2 e3 e4 e5
      have HP := hidden (blk_nw wr #[.string vo, .int .i64 ex, .string ve, .int .i64 ps, .int .i64 cy, .string te] 74)
      have HBA := hidden (ballc wr (.cells #[.string vo, .int .i64 ex, .string ve, .int .i64 ps, .int .i64 cy, .string te] 74))
      have HXA := hidden (HX.out.later HBA.out)
      have HB2 := hidden (bthen HB.out HBA.out)
      have hwr : w.heap.size ≤ wr.heap.size := HB.out.size
      go_wp2
      clear e0 e1 e2 e3 e4 e5
      generalize wr.alloc (.cells #[.string vo, .int .i64 ex, .string ve, .int .i64 ps, .int .i64 cy, .string te] 74) = wa at *
      have c0 := blk_cell HP.out
      have l0 := blk_lt HP.out
      by_cases hex : ex = x + 1
      · have hve : vecOf x ⟨vo, ex, ve, ps, cy, te⟩ = ve := if_pos hex
        rw [hve] at HS
        have d1 : (ex == x + 1) = true := beq_iff_eq.2 hex
        clear hve hex
        refine wp_region_quiet_below (by kernel_rfl) (by kernel_rfl) ?_
        repeat (go_big_quiet_step (fail))
        go_big_quiet_step ((go_at_call 48; exact Calls.regrown_of (CX.out _)))
        repeat (go_big_quiet_step (fail))
        refine wpQuiet_nil ?_
        intro w5 hw5
        have HB5 := hidden (bthen HB2.out (rg_below hw5))
        have HX5 := hidden (HXA.out.later (rg_below hw5))
        have HP5 := hidden (blk_later HP.out (rg_below hw5))
        clear hw5 c0 l0
        have c0 := blk_cell HP5.out
        have l0 := blk_lt HP5.out
        have c1 := HX5.out.cell j (by rw [fillL_len]; exact hlt)
        have f1 := HX5.out.open j
        have l1 := HX5.out.lt
        have hset := hidden (HX5.out.set j ve)
        rw [HS.out] at hset
        have HB6 := hidden (HB5.out.setCell (p := ⟨w.heap.size, j, none⟩) (Nat.le_refl _) (.string ve))
        rw [hy0] at c1
        clear hy0
        go_wp2
        go_roundw
        case rel => exact ⟨j + 1, by omega, by go_num, hset.out, HB6.out⟩
        case measure => simp [intV]; omega
      · have hve : vecOf x ⟨vo, ex, ve, ps, cy, te⟩ = noB := if_neg hex
        rw [hve] at HS
        have d1 : (ex == x + 1) = false := beq_eq_false_iff_ne.2 hex
        have hnx : fillL noB N (fun i => vecOf x (qs.getD i noP)) (j + 1) = fillL noB N (fun i => vecOf x (qs.getD i noP)) j := by
          rw [← HS.out]
          refine list_ext _ _ (by simp) fun i hi => ?_
          rw [getD_set _ _ _ _ (by rw [fillL_len]; exact hlt)]
          by_cases e : i = j
          · subst e; rw [if_pos rfl]; exact hy0.symm
          · rw [if_neg e]
        have HNX := hidden hnx
        clear hve hex hnx hy0
        refine wp_region_quiet_below (by kernel_rfl) (by kernel_rfl) ?_
        repeat (go_big_quiet_step (fail))
        go_big_quiet_step ((go_at_call 48; exact Calls.regrown_of (CX.out _)))
        repeat (go_big_quiet_step (fail))
        refine wpQuiet_nil ?_
        intro w5 hw5
        have HB5 := hidden (bthen HB2.out (rg_below hw5))
        have HX5 := hidden (HXA.out.later (rg_below hw5))
        rw [← HNX.out] at HX5
        clear hw5 c0 l0
        go_wp2
        go_roundw
        case rel => exact ⟨j + 1, by omega, by go_num, HX5.out, HB5.out⟩
        case measure => simp [intV]; omega
    · obtain rfl : j = N := by omega
      have i2 : ¬ (j : Int) < (j : Int) := by omega
      rw [HF.out] at HX
      go_wp2
      go_ret
      exact ⟨_, rfl, HX.out, HB.out⟩
end Go.Proofs.Ytohgmliafidalaa

/- The calls hear and Step of package agree return what plain functions give, and make at most new memory; conditions: rows lie where they say, numbers and lengths fit int, at most a hundred thousand packets and codes. -/
namespace Go.Proofs.Ytohgmliafidalaa
open Go.ChangeShapes Go.WideShapes Go.ChangeAt Go.RowKit
set_option linter.unusedVariables false
attribute [local go_sem] cell_rg

theorem wfQ (x : Nat) (hx : x ≤ 100000) : (Lit.int .i64 (x : Int)).wf = true := wfS (by omega)
theorem told_sizes (x : Int) (qs : List Pkt) (hz : ∀ q ∈ qs, q.ve.size ≤ 9223372036854775807) : ∀ t ∈ toldQ x qs, t.size ≤ 9223372036854775807 := by
  intro t ht
  unfold toldQ at ht
  obtain ⟨q, hq, rfl⟩ := List.mem_map.1 ht
  unfold vecOf
  split
  · exact hz q hq
  · decide
theorem getD_size (l : List ByteArray) (k : Nat) (h : ∀ t ∈ l, t.size ≤ 9223372036854775807) : (l.getD k noB).size ≤ 9223372036854775807 := by
  by_cases hk : k < l.length
  · rw [List.getD_eq_getElem?_getD, List.getElem?_eq_getElem hk, Option.getD_some]
    exact h _ (List.getElem_mem hk)
  · rw [List.getD_eq_getElem?_getD, List.getElem?_eq_none (by omega)]
    decide
set_option maxRecDepth 100000 in
set_option maxHeartbeats 4000000 in
theorem AHear_any (n f d p r dr o sl md fr : Int) (ad : Option Addr) (cap : Nat) (zs : List Int) (R x : Nat) (hx : x < R) (hR15 : R ≤ 15) (codes : ByteArray) (hs : codes.size ≤ 100000) (a2 : Option Addr) (c2 : Nat) (qs : List Pkt) (w : World) (hl : zs.length ≤ 9223372036854775807) (hT : Tab w ad zs) (hR : gate (plainE n f d p r dr o sl md fr zs) (3 * (f + 1)) = (R : Int))
    (hn : qs.length ≤ 100000) (hV : kPkt.Lies w.heap.size w (.slice a2 qs.length c2) qs) (hz : ∀ q ∈ qs, q.ve.size ≤ 9223372036854775807) :
    Calls Try.prog 62 #[.agg #[.int .i64 n, .int .i64 f, .int .i64 d, .int .i64 p, .int .i64 r, .int .i64 dr, .int .i64 o, .int .i64 sl, .int .i64 md, .int .i64 fr, .slice ad zs.length cap], .int .i64 (x : Int), .string codes, .slice a2 qs.length c2] w fun e w' => e = .returned (.string (herA (plainE n f d p r dr o sl md fr zs) n f x codes qs)) ∧ Below w.heap.size w w' := by
  have CD := hidden (fun (V : World) (hB : Below w.heap.size w V) => toldIn_any (x : Int) (by omega) a2 c2 qs V hn (hV.later hB))
  have HB0 := hidden (ballc w (.cells #[.int .i64 n, .int .i64 f, .int .i64 d, .int .i64 p, .int .i64 r, .int .i64 dr, .int .i64 o, .int .i64 sl, .int .i64 md, .int .i64 fr, .slice ad zs.length cap] 24))
  have HT := hidden (hT.below HB0.out)
  have HK := hidden (blk_nw w #[.int .i64 n, .int .i64 f, .int .i64 d, .int .i64 p, .int .i64 r, .int .i64 dr, .int .i64 o, .int .i64 sl, .int .i64 md, .int .i64 fr, .slice ad zs.length cap] 24)
  have CK := hidden (fun V h => PKing_any n f d p r dr o sl md fr ad cap zs (x : Int) R (by omega) V hl h hR)
  rw [kingF_in (by omega) (by omega), show (x : Int) / 3 = ((x / 3 : Nat) : Int) by omega] at CK
  have hts := told_sizes x qs hz
  have CS := hidden (fun (V : World) (hB : Tab V ad zs) (g : Nat) (hg : SBlk V g (toldQ x qs)) => VStep_any n f d p r dr o sl md fr ad cap zs (x : Int) codes ((toldQ x qs).getD (x / 3) noB) (some ⟨g, 0, none⟩) (toldQ x qs).length (toldQ x qs) V hl hB (wfQ x (by omega)) hs (getD_size _ _ hts) (by rw [toldQ_len]; exact hn) (hg.lies (by rw [toldQ_len]; simp only [maxLen]; omega)) hts)
  rw [toldQ_len] at CS
  have HH : Hid (herA (plainE n f d p r dr o sl md fr zs) n f x codes qs = dgB codes.size (stpG (plainE n f d p r dr o sl md fr zs) n f x codes ((toldQ x qs).getD (x / 3) noB) (toldQ x qs))) := rfl
  rw [HH.out]
  clear HH hV hz hT hR hts
  have hql := toldQ_len x qs
  have hq3 : x / 3 ≤ 5 := by omega
  generalize hqq : x / 3 = q3 at *
  clear hqq
  generalize dgB codes.size (stpG (plainE n f d p r dr o sl md fr zs) n f x codes ((toldQ x qs).getD q3 noB) (toldQ x qs)) = out at *
  generalize toldQ (x : Int) qs = votes at *
  generalize qs.length = M at *
  have HL := hidden hql
  go_enter Try.func62, Try.ntmps62
  go_wp2_with fail
  refine (CD.out _ HB0.out).mono ?_
  rintro e w2 ⟨g, rfl, hg, hb⟩
  have HB2 := hidden (bthen HB0.out hb)
  have HT2 := hidden (HT.out.below hb)
  have HK2 := hidden (blk_later HK.out hb)
  have HG2 := hidden hg
  have c0 := blk_cell HK2.out
  have l0 := blk_lt HK2.out
  clear hb hg hql
  go_wp2_with fail
  refine (CK.out _ HT2.out).mono ?_
  rintro e w3 ⟨rfl, hb⟩
  have HB3 := hidden (bthen HB2.out hb)
  have HT3 := hidden (HT2.out.below hb)
  have HK3 := hidden (blk_later HK2.out hb)
  have HG3 := hidden (HG2.out.later hb)
  clear hb c0 l0 CK
  have c0 := blk_cell HK3.out
  have l0 := blk_lt HK3.out
  by_cases hlt : q3 < M
  · have i1 : (0 : Int) ≤ (q3 : Int) := by omega
    have i2 : (q3 : Int) < (M : Int) := by omega
    have c1 := HG3.out.cell q3 (by rw [HL.out]; exact hlt)
    have l1 := HG3.out.lt
    have C4 := hidden (CS.out _ HT3.out g HG3.out)
    clear CS
    generalize votes.getD q3 noB = kv at *
    go_wp2_with fail
    refine C4.out.mono ?_
    rintro e w4 ⟨rfl, hb⟩
    have HB4 := hidden (bthen HB3.out hb)
    clear hb
    go_wp2
    go_ret
    exact ⟨rfl, HB4.out⟩
  · have i2 : ¬ (q3 : Int) < (M : Int) := by omega
    have hkv : votes.getD q3 noB = noB := by
      rw [List.getD_eq_getElem?_getD, List.getElem?_eq_none (by have := HL.out; omega)]
      rfl
    rw [hkv] at CS
    have C4 := hidden (CS.out _ HT3.out g HG3.out)
    clear CS hkv
    go_wp2_with fail
    refine C4.out.mono ?_
    rintro e w4 ⟨rfl, hb⟩
    have HB4 := hidden (bthen HB3.out hb)
    clear hb
    go_wp2
    go_ret
    exact ⟨rfl, HB4.out⟩
end Go.Proofs.Ytohgmliafidalaa

/- The call Step of package agree returns what plain functions give, and makes at most new memory; conditions: rows lie where they say, numbers and lengths fit int, at most a hundred thousand packets and codes. -/
namespace Go.Proofs.Ytohgmliafidalaa
open Go.ChangeShapes Go.WideShapes Go.ChangeAt Go.RowKit
set_option linter.unusedVariables false
attribute [local go_sem] cell_rg

theorem hear_lim (R : Nat) (hR : R ≤ 15) (d a : Int) : hearF R d a = -1 ∨ ∃ x : Nat, x < R ∧ hearF R d a = (x : Int) := by
  have h := first_lt R (hearB d a)
  have e : hearF R d a = firstF R (hearB d a) := rfl
  rw [e]
  by_cases c : firstF R (hearB d a) = -1
  · exact .inl c
  · exact .inr ⟨(firstF R (hearB d a)).toNat, by omega, by omega⟩
theorem sat_lim (age : Int) (L : Nat) (hL : L ≤ 60) : 0 ≤ satF age L ∧ satF age L ≤ 60 := by
  unfold satF
  split
  · omega
  · split <;> omega
set_option maxRecDepth 100000 in
set_option maxHeartbeats 4000000 in
theorem AStep_any (n f d p r dr o sl md fr : Int) (ad : Option Addr) (cap : Nat) (zs : List Int) (R L : Nat) (age : Int) (codes got : ByteArray) (ha : -9223372036854775808 ≤ age ∧ age ≤ 9223372036854775807) (hs : codes.size ≤ 100000) (a2 : Option Addr) (c2 : Nat) (qs : List Pkt) (w : World) (hl : zs.length ≤ 9223372036854775807) (hT : Tab w ad zs) (hR : gate (plainE n f d p r dr o sl md fr zs) (3 * (f + 1)) = (R : Int)) (hL : gate (plainE n f d p r dr o sl md fr zs) (3 * (f + 1) * d) = (L : Int)) (hR15 : R ≤ 15) (hL60 : L ≤ 60) (hd : R = 0 ∨ 1 ≤ d ∧ d ≤ 4)
    (hn : qs.length ≤ 100000) (hV : kPkt.Lies w.heap.size w (.slice a2 qs.length c2) qs) (hz : ∀ q ∈ qs, q.ve.size ≤ 9223372036854775807) :
    Calls Try.prog 20 #[.agg #[.int .i64 n, .int .i64 f, .int .i64 d, .int .i64 p, .int .i64 r, .int .i64 dr, .int .i64 o, .int .i64 sl, .int .i64 md, .int .i64 fr, .slice ad zs.length cap], .int .i64 age, .string codes, .string got, .slice a2 qs.length c2] w fun e w' => e = .returned (.tuple #[.int .i64 (stpA (plainE n f d p r dr o sl md fr zs) R L n f d age codes got qs).age, .string (stpA (plainE n f d p r dr o sl md fr zs) R L n f d age codes got qs).codes, .string (stpA (plainE n f d p r dr o sl md fr zs) R L n f d age codes got qs).got]) ∧ Below w.heap.size w w' := by
  have HB0 := hidden (ballc w (.cells #[.int .i64 n, .int .i64 f, .int .i64 d, .int .i64 p, .int .i64 r, .int .i64 dr, .int .i64 o, .int .i64 sl, .int .i64 md, .int .i64 fr, .slice ad zs.length cap] 24))
  have HT := hidden (hT.below HB0.out)
  have HK := hidden (blk_nw w #[.int .i64 n, .int .i64 f, .int .i64 d, .int .i64 p, .int .i64 r, .int .i64 dr, .int .i64 o, .int .i64 sl, .int .i64 md, .int .i64 fr, .slice ad zs.length cap] 24)
  have HP := hidden (plain_any n f d p r dr o sl md fr ad cap zs (w.alloc (.cells #[.int .i64 n, .int .i64 f, .int .i64 d, .int .i64 p, .int .i64 r, .int .i64 dr, .int .i64 o, .int .i64 sl, .int .i64 md, .int .i64 fr, .slice ad zs.length cap] 24)) hl HT.out)
  by_cases hE : plainE n f d p r dr o sl md fr zs = 0
  · by_cases he : emt codes = true
    · have e1 : codes.toList.isEmpty = true := he
      have HS : Hid (stpA (plainE n f d p r dr o sl md fr zs) R L n f d age codes got qs = ⟨age, codes, got⟩) := (if_pos hE).trans (if_pos he)
      rw [HS.out]
      dsimp only
      rw [hE] at HP
      clear hE he HS hT hV hz hR hL
      generalize qs.length = M at *
      go_enter Try.func20, Try.ntmps20
      go_wp2_with fail
      refine HP.out.mono ?_
      rintro e w2 ⟨rfl, hb⟩
      have HB2 := hidden (bthen HB0.out hb)
      clear hb HP
      go_wp2
      exact bodyPost_ret (v := .tuple #[.int .i64 age, .string codes, .string got]) (by simp [results, Try.results20, go_sem]) rfl ⟨rfl, HB2.out⟩
    · have e1 : codes.toList.isEmpty = false := by
        have : emt codes = false := by simpa using he
        exact this
      have hal := sat_lim age L hL60
      have CL := hidden (fun V h => Length_any n f d p r dr o sl md fr ad cap zs V hl h)
      rw [hL] at CL
      have CA := hidden (fun V => sat_any age (L : Int) V (wfS ha) (wfS (by omega)))
      have CH := hidden (fun V h => Hears_any n f d p r dr o sl md fr ad cap zs (satF age L) R hR15 hd V hl h hR)
      have CE := hidden (fun (x : Nat) (hx : x < R) V h h2 => AHear_any n f d p r dr o sl md fr ad cap zs R x hx hR15 codes hs a2 c2 qs V hl h hR hn h2 hz)
      have HV := hidden hV
      have HS : Hid (stpA (plainE n f d p r dr o sl md fr zs) R L n f d age codes got qs = if satF age L = L then ⟨satF age L, noB, dgB codes.size (valG (midA R n f d (satF age L) codes qs))⟩ else ⟨satF age L, midA R n f d (satF age L) codes qs, got⟩) := (if_pos hE).trans (if_neg he)
      rw [HS.out]
      have hmd : midA R n f d (satF age L) codes qs = if hearF R d (satF age L) = -1 then codes else herA 0 n f (hearF R d (satF age L)).toNat codes qs := rfl
      have hlm := hear_lim R hR15 d (satF age L)
      have hms := midA_size R n f d (satF age L) codes qs
      have CW := hidden (fun V => Values_any (midA R n f d (satF age L) codes qs) (by omega) V)
      rw [hms] at CW
      rw [hE] at HP CE
      generalize hmm : midA R n f d (satF age L) codes qs = md' at *
      clear hE he HS hT hV hz hR hL hmm hms
      generalize dgB codes.size (valG md') = vs at *
      generalize hearF R d (satF age L) = h at *
      generalize hsa : satF age L = a at *
      clear hsa
      rcases hlm with hlm | ⟨x, hx, hlm⟩
      · rw [if_pos hlm] at hmd
        have d1 : (h != -1) = false := bne_eq_false_iff_eq.2 hlm
        subst hmd
        clear CE hlm
        by_cases hal' : a = (L : Int)
        · rw [if_pos hal']
          have d2 : (a == (L : Int)) = true := beq_iff_eq.2 hal'
          clear hal'
          dsimp only
          go_enter Try.func20, Try.ntmps20
          go_wp2_with fail
          refine HP.out.mono ?_
          rintro e w2 ⟨rfl, hb⟩
          have HB2 := hidden (bthen HB0.out hb)
          have HT2 := hidden (HT.out.below hb)
          have HK2 := hidden (blk_later HK.out hb)
          have c0 := blk_cell HK2.out
          have l0 := blk_lt HK2.out
          clear hb HP
          go_wp2_with fail
          refine (CL.out _ HT2.out).mono ?_
          rintro e w3 ⟨rfl, hb⟩
          have HB3 := hidden (bthen HB2.out hb)
          have HT3 := hidden (HT2.out.below hb)
          have HK3 := hidden (blk_later HK2.out hb)
          clear hb c0 l0
          have c0 := blk_cell HK3.out
          have l0 := blk_lt HK3.out
          go_wp2_with fail
          refine (CA.out _).mono ?_
          rintro e w3b ⟨rfl, rfl⟩
          go_wp2_with fail
          refine (CH.out _ HT3.out).mono ?_
          rintro e w4 ⟨rfl, hb⟩
          have HB4 := hidden (bthen HB3.out hb)
          have HT4 := hidden (HT3.out.below hb)
          have HK4 := hidden (blk_later HK3.out hb)
          clear hb c0 l0
          have c0 := blk_cell HK4.out
          have l0 := blk_lt HK4.out
          have HB5 := hidden HB4.out
          go_wp2_with fail
          refine (CW.out _).mono ?_
          rintro e w6 ⟨rfl, hb⟩
          have HB6 := hidden (bthen HB5.out hb)
          clear hb
          go_wp2
          exact bodyPost_ret (v := .tuple #[.int .i64 a, .string noB, .string vs]) (by simp [results, Try.results20, go_sem]; try rfl) rfl ⟨rfl, HB6.out⟩
        · rw [if_neg hal']
          have d2 : (a == (L : Int)) = false := beq_eq_false_iff_ne.2 hal'
          clear hal'
          dsimp only
          go_enter Try.func20, Try.ntmps20
          go_wp2_with fail
          refine HP.out.mono ?_
          rintro e w2 ⟨rfl, hb⟩
          have HB2 := hidden (bthen HB0.out hb)
          have HT2 := hidden (HT.out.below hb)
          have HK2 := hidden (blk_later HK.out hb)
          have c0 := blk_cell HK2.out
          have l0 := blk_lt HK2.out
          clear hb HP
          go_wp2_with fail
          refine (CL.out _ HT2.out).mono ?_
          rintro e w3 ⟨rfl, hb⟩
          have HB3 := hidden (bthen HB2.out hb)
          have HT3 := hidden (HT2.out.below hb)
          have HK3 := hidden (blk_later HK2.out hb)
          clear hb c0 l0
          have c0 := blk_cell HK3.out
          have l0 := blk_lt HK3.out
          go_wp2_with fail
          refine (CA.out _).mono ?_
          rintro e w3b ⟨rfl, rfl⟩
          go_wp2_with fail
          refine (CH.out _ HT3.out).mono ?_
          rintro e w4 ⟨rfl, hb⟩
          have HB4 := hidden (bthen HB3.out hb)
          have HT4 := hidden (HT3.out.below hb)
          have HK4 := hidden (blk_later HK3.out hb)
          clear hb c0 l0
          have c0 := blk_cell HK4.out
          have l0 := blk_lt HK4.out
          have HB5 := hidden HB4.out
          go_wp2
          exact bodyPost_ret (v := .tuple #[.int .i64 a, .string md', .string got]) (by simp [results, Try.results20, go_sem]; try rfl) rfl ⟨rfl, HB5.out⟩
      · have d1 : (h != -1) = true := bne_iff_ne.2 (by omega)
        rw [if_neg (by omega), hlm, Int.toNat_natCast] at hmd
        have CEX := hidden (CE.out x hx)
        rw [← hmd] at CEX
        clear CE hmd
        subst hlm
        by_cases hal' : a = (L : Int)
        · rw [if_pos hal']
          have d2 : (a == (L : Int)) = true := beq_iff_eq.2 hal'
          clear hal'
          dsimp only
          go_enter Try.func20, Try.ntmps20
          go_wp2_with fail
          refine HP.out.mono ?_
          rintro e w2 ⟨rfl, hb⟩
          have HB2 := hidden (bthen HB0.out hb)
          have HT2 := hidden (HT.out.below hb)
          have HK2 := hidden (blk_later HK.out hb)
          have c0 := blk_cell HK2.out
          have l0 := blk_lt HK2.out
          clear hb HP
          go_wp2_with fail
          refine (CL.out _ HT2.out).mono ?_
          rintro e w3 ⟨rfl, hb⟩
          have HB3 := hidden (bthen HB2.out hb)
          have HT3 := hidden (HT2.out.below hb)
          have HK3 := hidden (blk_later HK2.out hb)
          clear hb c0 l0
          have c0 := blk_cell HK3.out
          have l0 := blk_lt HK3.out
          go_wp2_with fail
          refine (CA.out _).mono ?_
          rintro e w3b ⟨rfl, rfl⟩
          go_wp2_with fail
          refine (CH.out _ HT3.out).mono ?_
          rintro e w4 ⟨rfl, hb⟩
          have HB4 := hidden (bthen HB3.out hb)
          have HT4 := hidden (HT3.out.below hb)
          have HK4 := hidden (blk_later HK3.out hb)
          clear hb c0 l0
          have c0 := blk_cell HK4.out
          have l0 := blk_lt HK4.out
          go_wp2_with fail
          refine (CEX.out _ HT4.out (HV.out.later HB4.out)).mono ?_
          rintro e w5 ⟨rfl, hb⟩
          have HB5 := hidden (bthen HB4.out hb)
          clear hb c0 l0
          go_wp2_with fail
          refine (CW.out _).mono ?_
          rintro e w6 ⟨rfl, hb⟩
          have HB6 := hidden (bthen HB5.out hb)
          clear hb
          go_wp2
          exact bodyPost_ret (v := .tuple #[.int .i64 a, .string noB, .string vs]) (by simp [results, Try.results20, go_sem]; try rfl) rfl ⟨rfl, HB6.out⟩
        · rw [if_neg hal']
          have d2 : (a == (L : Int)) = false := beq_eq_false_iff_ne.2 hal'
          clear hal'
          dsimp only
          go_enter Try.func20, Try.ntmps20
          go_wp2_with fail
          refine HP.out.mono ?_
          rintro e w2 ⟨rfl, hb⟩
          have HB2 := hidden (bthen HB0.out hb)
          have HT2 := hidden (HT.out.below hb)
          have HK2 := hidden (blk_later HK.out hb)
          have c0 := blk_cell HK2.out
          have l0 := blk_lt HK2.out
          clear hb HP
          go_wp2_with fail
          refine (CL.out _ HT2.out).mono ?_
          rintro e w3 ⟨rfl, hb⟩
          have HB3 := hidden (bthen HB2.out hb)
          have HT3 := hidden (HT2.out.below hb)
          have HK3 := hidden (blk_later HK2.out hb)
          clear hb c0 l0
          have c0 := blk_cell HK3.out
          have l0 := blk_lt HK3.out
          go_wp2_with fail
          refine (CA.out _).mono ?_
          rintro e w3b ⟨rfl, rfl⟩
          go_wp2_with fail
          refine (CH.out _ HT3.out).mono ?_
          rintro e w4 ⟨rfl, hb⟩
          have HB4 := hidden (bthen HB3.out hb)
          have HT4 := hidden (HT3.out.below hb)
          have HK4 := hidden (blk_later HK3.out hb)
          clear hb c0 l0
          have c0 := blk_cell HK4.out
          have l0 := blk_lt HK4.out
          go_wp2_with fail
          refine (CEX.out _ HT4.out (HV.out.later HB4.out)).mono ?_
          rintro e w5 ⟨rfl, hb⟩
          have HB5 := hidden (bthen HB4.out hb)
          clear hb c0 l0
          go_wp2
          exact bodyPost_ret (v := .tuple #[.int .i64 a, .string md', .string got]) (by simp [results, Try.results20, go_sem]; try rfl) rfl ⟨rfl, HB5.out⟩
  · have HS : Hid (stpA (plainE n f d p r dr o sl md fr zs) R L n f d age codes got qs = ⟨0, noB, noB⟩) := if_neg hE
    rw [HS.out]
    dsimp only
    have j1 : (plainE n f d p r dr o sl md fr zs != 0) = true := bne_iff_ne.2 hE
    clear hE HS hT hV hz hR hL
    generalize plainE n f d p r dr o sl md fr zs = E at *
    generalize qs.length = M at *
    go_enter Try.func20, Try.ntmps20
    go_wp2_with fail
    refine HP.out.mono ?_
    rintro e w2 ⟨rfl, hb⟩
    have HB2 := hidden (bthen HB0.out hb)
    clear hb HP
    go_wp2
    exact bodyPost_ret (v := .tuple #[.int .i64 0, .string noB, .string noB]) (by simp [results, Try.results20, go_sem]; try rfl) rfl ⟨rfl, HB2.out⟩
end Go.Proofs.Ytohgmliafidalaa

/- The fixed calls of the statements on package agree come out as they must, and make at most new memory; no conditions. -/
namespace Go.Proofs.Ytohgmliafidalaa
open Go.ChangeShapes Go.WideShapes Go.ChangeAt Go.RowKit
set_option linter.unusedVariables false

theorem small19_any (w : World) :
    Calls Try.prog 46 #[] w fun e w' => ∃ g, e = .returned (.agg #[.int .i64 4, .int .i64 1, .int .i64 1, .int .i64 20, .int .i64 64, .int .i64 1, .int .i64 64, .int .i64 190, .int .i64 10, .int .i64 3, .slice (some ⟨g, 0, none⟩) 4 4]) ∧ Tab w' (some ⟨g, 0, none⟩) [0, 1, 2, 3] ∧ Below w.heap.size w w' := by
  go_enter Try.func46, Try.ntmps46
  go_wp2
  refine bodyPost_ret (v := .agg #[.int .i64 4, .int .i64 1, .int .i64 1, .int .i64 20, .int .i64 64, .int .i64 1, .int .i64 64, .int .i64 190, .int .i64 10, .int .i64 3, .slice (some ⟨w.heap.size + 1, 0, none⟩) 4 4]) (by simp [results, Try.results46, go_sem]) rfl ⟨_, rfl, Tab.four _ _ _ (by simp), Joins.below_alloc2 _ _ _⟩
theorem tel_small1 : telX 6 1 2 ⟨#[51, 52, 53]⟩ = 3 := by decide +kernel
theorem tel_small2 : telV 6 1 2 ⟨#[51, 52, 53]⟩ = ⟨#[48, 49, 50]⟩ := by decide +kernel
theorem stp_small1 : (stpA 0 6 6 4 1 1 5 ⟨#[52, 52, 52, 52, 52, 52, 52, 52, 52, 52, 52, 52]⟩ ⟨#[]⟩ [noP]).age = 6 := by decide +kernel
theorem stp_small2 : (stpA 0 6 6 4 1 1 5 ⟨#[52, 52, 52, 52, 52, 52, 52, 52, 52, 52, 52, 52]⟩ ⟨#[]⟩ [noP]).codes = ⟨#[]⟩ := by decide +kernel
theorem stp_small3 : (stpA 0 6 6 4 1 1 5 ⟨#[52, 52, 52, 52, 52, 52, 52, 52, 52, 52, 52, 52]⟩ ⟨#[]⟩ [noP]).got = ⟨#[49, 49, 49, 49, 49, 49, 49, 49, 49, 49, 49, 49]⟩ := by decide +kernel
theorem stp_small4 : (stpA 0 6 6 4 1 1 3 ⟨#[]⟩ ⟨#[48, 49]⟩ []).age = 3 := by decide +kernel
theorem stp_small5 : (stpA 0 6 6 4 1 1 3 ⟨#[]⟩ ⟨#[48, 49]⟩ []).codes = ⟨#[]⟩ := by decide +kernel
theorem stp_small6 : (stpA 0 6 6 4 1 1 3 ⟨#[]⟩ ⟨#[48, 49]⟩ []).got = ⟨#[48, 49]⟩ := by decide +kernel
theorem beg_small : begA 0 4 5 ⟨#[49, 120, 49, 49]⟩ = ⟨#[49, 48, 49, 48, 48, 48, 48, 48, 49, 48, 49, 49]⟩ := by decide +kernel
theorem ATellSmall (g : Nat) (w : World) (hT : Tab w (some ⟨g, 0, none⟩) [0, 1, 2, 3]) :
    Calls Try.prog 16 #[.agg #[.int .i64 4, .int .i64 1, .int .i64 1, .int .i64 20, .int .i64 64, .int .i64 1, .int .i64 64, .int .i64 190, .int .i64 10, .int .i64 3, .slice (some ⟨g, 0, none⟩) 4 4], .int .i64 2, .string ⟨#[51, 52, 53]⟩] w fun e w' => e = .returned (.tuple #[.int .i64 3, .string ⟨#[48, 49, 50]⟩]) ∧ Below w.heap.size w w' := by
  have h := ATell_any 4 1 1 20 64 1 64 190 10 3 (some ⟨g, 0, none⟩) 4 [0, 1, 2, 3] 6 2 ⟨#[51, 52, 53]⟩ (by decide) w (by decide) hT (by rw [plainE_small]; rfl) (by decide) (.inr (by decide))
  rw [tel_small1, tel_small2] at h
  exact h
theorem AStepSmall1 (g : Nat) (a2 : Option Addr) (w : World) (hT : Tab w (some ⟨g, 0, none⟩) [0, 1, 2, 3]) (hV : kPkt.Lies w.heap.size w (.slice a2 1 1) [noP]) :
    Calls Try.prog 20 #[.agg #[.int .i64 4, .int .i64 1, .int .i64 1, .int .i64 20, .int .i64 64, .int .i64 1, .int .i64 64, .int .i64 190, .int .i64 10, .int .i64 3, .slice (some ⟨g, 0, none⟩) 4 4], .int .i64 5, .string ⟨#[52, 52, 52, 52, 52, 52, 52, 52, 52, 52, 52, 52]⟩, .string ⟨#[]⟩, .slice a2 1 1] w fun e w' => e = .returned (.tuple #[.int .i64 6, .string ⟨#[]⟩, .string ⟨#[49, 49, 49, 49, 49, 49, 49, 49, 49, 49, 49, 49]⟩]) ∧ Below w.heap.size w w' := by
  have h := AStep_any 4 1 1 20 64 1 64 190 10 3 (some ⟨g, 0, none⟩) 4 [0, 1, 2, 3] 6 6 5 ⟨#[52, 52, 52, 52, 52, 52, 52, 52, 52, 52, 52, 52]⟩ ⟨#[]⟩ (by decide) (by decide) a2 1 [noP] w (by decide) hT (by rw [plainE_small]; rfl) (by rw [plainE_small]; rfl) (by decide) (by decide) (.inr (by decide)) (by decide) hV (by intro q hq; simp at hq; subst hq; decide)
  rw [plainE_small, stp_small1, stp_small2, stp_small3] at h
  exact h
theorem AStepSmall2 (g : Nat) (w : World) (hT : Tab w (some ⟨g, 0, none⟩) [0, 1, 2, 3]) :
    Calls Try.prog 20 #[.agg #[.int .i64 4, .int .i64 1, .int .i64 1, .int .i64 20, .int .i64 64, .int .i64 1, .int .i64 64, .int .i64 190, .int .i64 10, .int .i64 3, .slice (some ⟨g, 0, none⟩) 4 4], .int .i64 3, .string ⟨#[]⟩, .string ⟨#[48, 49]⟩, .slice none 0 0] w fun e w' => e = .returned (.tuple #[.int .i64 3, .string ⟨#[]⟩, .string ⟨#[48, 49]⟩]) ∧ Below w.heap.size w w' := by
  have h := AStep_any 4 1 1 20 64 1 64 190 10 3 (some ⟨g, 0, none⟩) 4 [0, 1, 2, 3] 6 6 3 ⟨#[]⟩ ⟨#[48, 49]⟩ (by decide) (by decide) none 0 [] w (by decide) hT (by rw [plainE_small]; rfl) (by rw [plainE_small]; rfl) (by decide) (by decide) (.inr (by decide)) (by decide) (Kind.Lies.nil _ _) (by intro q hq; cases hq)
  rw [plainE_small, stp_small4, stp_small5, stp_small6] at h
  exact h
theorem ABeginSmall (g : Nat) (w : World) (hT : Tab w (some ⟨g, 0, none⟩) [0, 1, 2, 3]) :
    Calls Try.prog 18 #[.agg #[.int .i64 4, .int .i64 1, .int .i64 1, .int .i64 20, .int .i64 64, .int .i64 1, .int .i64 64, .int .i64 190, .int .i64 10, .int .i64 3, .slice (some ⟨g, 0, none⟩) 4 4], .int .i64 5, .string ⟨#[49, 120, 49, 49]⟩] w fun e w' => e = .returned (.string ⟨#[49, 48, 49, 48, 48, 48, 48, 48, 49, 48, 49, 49]⟩) ∧ Below w.heap.size w w' := by
  have h := ABegin_any 4 1 1 20 64 1 64 190 10 3 (some ⟨g, 0, none⟩) 4 [0, 1, 2, 3] 5 ⟨#[49, 120, 49, 49]⟩ w (by decide) hT (by decide) (by decide) (by decide)
  rw [beg_small] at h
  exact h
set_option maxRecDepth 100000 in
set_option maxHeartbeats 4000000 in
theorem known19_any (w : World) :
    Calls Try.prog 15 #[] w fun e w' => e = .returned (.bool true) ∧ Below w.heap.size w w' := by
  go_enter Try.func15, Try.ntmps15
  go_wp2_with fail
  refine (small19_any _).mono ?_
  rintro e w1 ⟨g, rfl, hT, hb⟩
  have HB1 := hidden hb
  have HT := hidden (hT.below (ballc w1 (.cells #[.int .i64 4, .int .i64 1, .int .i64 1, .int .i64 20, .int .i64 64, .int .i64 1, .int .i64 64, .int .i64 190, .int .i64 10, .int .i64 3, .slice (some ⟨g, 0, none⟩) 4 4] 24)))
  have HK := hidden (blk_nw w1 #[.int .i64 4, .int .i64 1, .int .i64 1, .int .i64 20, .int .i64 64, .int .i64 1, .int .i64 64, .int .i64 190, .int .i64 10, .int .i64 3, .slice (some ⟨g, 0, none⟩) 4 4] 24)
  clear hT hb
  go_wp2_with fail
  refine (ATellSmall g _ HT.out).mono ?_
  rintro e v0 ⟨rfl, hb⟩
  have HC0 := hidden hb
  have HK0 := hidden (blk_later HK.out hb)
  clear hb
  have c0 := blk_cell HK0.out
  have l0 := blk_lt HK0.out
  have HP := hidden (Kind.Lies.of_block (K := kPkt) (es := [noP]) (blk_nw v0 #[.string ⟨#[]⟩, .int .i64 0, .string ⟨#[]⟩, .int .i64 0, .int .i64 0, .string ⟨#[]⟩] 74) (by decide))
  have hbp := ballc v0 (.cells #[.string ⟨#[]⟩, .int .i64 0, .string ⟨#[]⟩, .int .i64 0, .int .i64 0, .string ⟨#[]⟩] 74)
  have HT0 := hidden (HT.out.below (bthen HC0.out hbp))
  have HC0p := hidden (bthen HC0.out hbp)
  have HK0p := hidden (blk_later HK0.out hbp)
  clear hbp
  go_wp2_with fail
  refine (AStepSmall1 g _ _ HT0.out HP.out).mono ?_
  rintro e v1 ⟨rfl, hb⟩
  have HC1 := hidden (bthen HC0p.out hb)
  have HK1 := hidden (blk_later HK0p.out hb)
  clear hb c0 l0
  have c0 := blk_cell HK1.out
  have l0 := blk_lt HK1.out
  go_wp2_with fail
  refine (AStepSmall2 g _ (HT.out.below HC1.out)).mono ?_
  rintro e v2 ⟨rfl, hb⟩
  have HC2 := hidden (bthen HC1.out hb)
  have HK2 := hidden (blk_later HK1.out hb)
  clear hb c0 l0
  have c0 := blk_cell HK2.out
  have l0 := blk_lt HK2.out
  go_wp2_with fail
  refine (ABeginSmall g _ (HT.out.below HC2.out)).mono ?_
  rintro e v3 ⟨rfl, hb⟩
  have HC3 := hidden (bthen HC2.out hb)
  clear hb c0 l0
  go_wp2
  go_ret
  exact ⟨rfl, bthen HB1.out (bthen (ballc _ _) HC3.out)⟩
end Go.Proofs.Ytohgmliafidalaa

/- The document's call Digits of layer 19 returns digits of a text from a place on, and makes no memory; conditions: lengths and places are small. -/
namespace Go.Proofs.Ytohgmliafidalaa
open Go.ChangeShapes Go.WideShapes Go.ChangeAt Go.RowKit
set_option linter.unusedVariables false

theorem digT_s (s : ByteArray) (fr k : Nat) : digT s fr (k + 1) = digT s fr k ++ ba [UInt8.ofNat (48 + digG s fr k)] := dgB_s _ _
theorem digT_size (s : ByteArray) (fr k : Nat) : (digT s fr k).size = k := dgB_size _ _
theorem digG_yes {s : ByteArray} {fr k q : Nat} (hq : q = fr + k) (h : q < s.size) (e : ((s[q]'h).toNat : Int) = 49) : ba [UInt8.ofNat (48 + digG s fr k)] = ⟨#[49]⟩ := by
  subst hq
  unfold digG
  rw [vdg_in h (by omega) (by omega), e]
  rfl
theorem digG_no {s : ByteArray} {fr k q : Nat} (hq : q = fr + k) (h : q < s.size) (e : ¬ ((s[q]'h).toNat : Int) = 49) : ba [UInt8.ofNat (48 + digG s fr k)] = ⟨#[48]⟩ := by
  subst hq
  have : vdg 1 s (fr + k) ≠ 1 := fun hv => by
    unfold vdg at hv
    rw [dif_pos h] at hv
    split at hv <;> omega
  unfold digG
  rw [if_neg this]
  rfl
theorem digG_out {s : ByteArray} {fr k q : Nat} (hq : q = fr + k) (h : ¬ q < s.size) : ba [UInt8.ofNat (48 + digG s fr k)] = ⟨#[48]⟩ := by
  subst hq
  unfold digG
  rw [vdg_out (by omega)]
  rfl
set_option maxRecDepth 100000 in
set_option maxHeartbeats 4000000 in
theorem rDigits_any (s : ByteArray) (fr n : Nat) (w : World) (hs : s.size ≤ 9223372036854775807) (hf : fr ≤ 1000) (hn : n ≤ 1000) :
    Calls Try.prog 58 #[.string s, .int .i64 (fr : Int), .int .i64 (n : Int)] w fun e w' => e = .returned (.string (digT s fr n)) ∧ w = w' := by
  obtain ⟨z, hz⟩ : ∃ z : Nat, z = fr + n := ⟨_, rfl⟩
  have t1 : (fr : Int) + (n : Int) = (z : Int) := by omega
  have HZ := hidden hz
  have hz1 : z ≤ 2000 := by omega
  clear hz
  go_enter Try.func58, Try.ntmps58
  go_wp2
  go_loop [7, 8] (fun a i => ∃ k : Nat, k ≤ n ∧ i = .int .i64 ((fr + k : Nat) : Int) ∧ a = .string (digT s fr k)) (fun _ i => z - (intV i).toNat)
  case atStart => exact ⟨0, Nat.zero_le _, rfl, rfl⟩
  case round =>
    obtain ⟨k, hk, rfl, rfl⟩ := hrel
    obtain ⟨q, hq⟩ : ∃ q : Nat, q = fr + k := ⟨_, rfl⟩
    rw [← hq]
    have HQ := hidden hq
    have hsz := digT_size s fr k
    have HS := hidden (digT_s s fr k)
    by_cases hlt : k < n
    · have i1 : (0 : Int) ≤ (q : Int) := by omega
      have i2 : (q : Int) < (z : Int) := by have := HZ.out; omega
      have hq2 : q + 1 ≤ 2000 := by have := HZ.out; omega
      by_cases hlk : q < s.size
      · have i3 : (q : Int) < (s.size : Int) := by omega
        have i4 : decide ((q : Int) < (s.size : Int)) = true := decide_eq_true i3
        have i5 : decide (q < s.size) = true := decide_eq_true hlk
        by_cases h49 : ((s[q]'hlk).toNat : Int) = 49
        · have HD := hidden (digG_yes hq hlk h49)
          have d1 : (((s[q]'hlk).toNat : Int) == 49) = true := beq_iff_eq.2 h49
          clear hq
          generalize digT s fr k = out at *
          go_wp2
          go_round
          case rel => exact ⟨k + 1, by omega, by have := HQ.out; go_num, by rw [HS.out, HD.out]⟩
          case measure => have := HZ.out; have := HQ.out; simp [intV]; omega
        · have HD := hidden (digG_no hq hlk h49)
          have d1 : (((s[q]'hlk).toNat : Int) == 49) = false := beq_eq_false_iff_ne.2 h49
          clear hq
          generalize digT s fr k = out at *
          go_wp2
          go_round
          case rel => exact ⟨k + 1, by omega, by have := HQ.out; go_num, by rw [HS.out, HD.out]⟩
          case measure => have := HZ.out; have := HQ.out; simp [intV]; omega
      · have i3 : ¬ (q : Int) < (s.size : Int) := by omega
        have i4 : decide ((q : Int) < (s.size : Int)) = false := decide_eq_false i3
        have i5 : decide (q < s.size) = false := decide_eq_false hlk
        have HD := hidden (digG_out hq hlk)
        clear hq
        generalize digT s fr k = out at *
        go_wp2
        go_round
        case rel => exact ⟨k + 1, by omega, by have := HQ.out; go_num, by rw [HS.out, HD.out]⟩
        case measure => have := HZ.out; have := HQ.out; simp [intV]; omega
    · obtain rfl : k = n := by omega
      have i2 : ¬ (q : Int) < (z : Int) := by have := HZ.out; omega
      clear hq
      go_wp2
      go_ret
      exact ⟨rfl, rfl⟩
end Go.Proofs.Ytohgmliafidalaa

/- The document's calls Quorum, Some, Count, Enough, Most and Least return what plain functions give, and make at most new memory; conditions: the table and the votes lie where they say, and lengths fit int. -/
namespace Go.Proofs.Ytohgmliafidalaa
open Go.ChangeShapes Go.WideShapes Go.ChangeAt Go.RowKit
set_option linter.unusedVariables false

theorem cntF_snoc (v : Int) (zs : List Int) (z : Int) : cntF v (zs ++ [z]) = cntF v zs + if (0 ≤ v ∧ v < 3) ∧ z = v then 1 else 0 := by
  unfold cntF
  by_cases h : 0 ≤ v ∧ v < 3
  · rw [if_pos h, if_pos h, cntL_snoc]
    by_cases h2 : z = v
    · rw [if_pos h2, if_pos ⟨h, h2⟩]; rfl
    · rw [if_neg h2, if_neg fun k => h2 k.2]; rfl
  · rw [if_neg h, if_neg h, if_neg fun k => h k.1]; rfl
set_option maxHeartbeats 2000000 in
theorem rTCount_any (v : Int) (ad : Option Addr) (len cap : Nat) (zs : List Int) (hlz : zs.length ≤ 9223372036854775807) (w : World) (hZ : kInt.Lies w.heap.size w (.slice ad len cap) zs) :
    Calls Try.prog 134 #[.int .i64 v, .slice ad len cap] w fun e w' => e = .returned (.int .i64 (cntF v zs)) ∧ w = w' := by
  obtain rfl := hZ.len
  go_enter Try.func134, Try.ntmps134
  go_wp2
  go_loop [5, 6] (fun c i => ∃ k : Nat, k ≤ zs.length ∧ c = .int .i64 (cntF v (zs.take k)) ∧ i = .int .i64 k) (fun _ i => zs.length - (intV i).toNat)
  case atStart => exact ⟨0, Nat.zero_le _, by rw [List.take_zero]; unfold cntF; split <;> rfl, rfl⟩
  case round =>
    obtain ⟨k, hk, rfl, rfl⟩ := hrel
    by_cases hlt : k < zs.length
    · obtain ⟨b, off, rfl, hbl, e0⟩ := kInt_at hZ k hlt
      have hsn := cntF_snoc v (zs.take k) zs[k]
      rw [← take_snocV zs hlt] at hsn
      have hle := cntF_bd v (zs.take k)
      rw [List.length_take, Nat.min_eq_left hk] at hle
      generalize zs[k] = z at e0 hsn
      generalize cntF v (zs.take k) = c at *
      have HS := hidden hsn
      have i1 : (0 : Int) ≤ (k : Int) := by omega
      have i2 : (k : Int) < (zs.length : Int) := by omega
      clear hsn hZ
      by_cases h1 : 0 ≤ v
      · have j1 : decide (0 ≤ v) = true := by simp [h1]
        by_cases h2 : v ≤ 2
        · have j2 : decide (v ≤ 2) = true := by simp [h2]
          by_cases h3 : z = v
          · subst h3
            have j3 : (z == z) = true := by simp
            have HS2 : Hid (_ = c + 1) := hidden (HS.out.trans (by rw [if_pos ⟨⟨h1, by omega⟩, rfl⟩]))
            go_wp2
            go_round
            case rel => exact ⟨k + 1, by omega, by rw [HS2.out], by go_num⟩
            case measure => simp [intV]; omega
          · have j3 : (z == v) = false := by simp [h3]
            have HS2 : Hid (_ = c) := hidden (HS.out.trans (by rw [if_neg fun k => h3 k.2]; omega))
            go_wp2
            go_round
            case rel => exact ⟨k + 1, by omega, by rw [HS2.out], by go_num⟩
            case measure => simp [intV]; omega
        · have j2 : decide (v ≤ 2) = false := by simp; omega
          have HS2 : Hid (_ = c) := hidden (HS.out.trans (by rw [if_neg fun k => h2 (by omega)]; omega))
          go_wp2
          go_round
          case rel => exact ⟨k + 1, by omega, by rw [HS2.out], by go_num⟩
          case measure => simp [intV]; omega
      · have j1 : decide (0 ≤ v) = false := by simp; omega
        have HS2 : Hid (_ = c) := hidden (HS.out.trans (by rw [if_neg fun k => h1 (by omega)]; omega))
        go_wp2
        go_round
        case rel => exact ⟨k + 1, by omega, by rw [HS2.out], by go_num⟩
        case measure => simp [intV]; omega
    · obtain rfl : k = zs.length := by omega
      rw [List.take_length]
      go_wp2
      go_ret
      exact ⟨rfl, rfl⟩

end Go.Proofs.Ytohgmliafidalaa

/- The document's calls Enough, Most and Least return what plain functions give, and make at most new memory; conditions: the table and the votes lie where they say, and lengths fit int. -/
namespace Go.Proofs.Ytohgmliafidalaa
open Go.ChangeShapes Go.WideShapes Go.ChangeAt Go.RowKit
set_option linter.unusedVariables false

attribute [local go_sem] cell_rg

set_option maxHeartbeats 2000000 in
theorem rEnough_any (n f d p r dr o sl md fr : Int) (ad : Option Addr) (cap : Nat) (zs : List Int) (v : Int) (a2 : Option Addr) (len c2 : Nat) (vs : List Int) (w : World) (hl : zs.length ≤ 9223372036854775807) (hT : Tab w ad zs) (hlv : vs.length ≤ 9223372036854775807) (hV : kInt.Lies w.heap.size w (.slice a2 len c2) vs) :
    Calls Try.prog 127 #[.agg #[.int .i64 n, .int .i64 f, .int .i64 d, .int .i64 p, .int .i64 r, .int .i64 dr, .int .i64 o, .int .i64 sl, .int .i64 md, .int .i64 fr, .slice ad zs.length cap], .int .i64 v, .slice a2 len c2] w fun e w' => e = .returned (.bool (enoughB (plainE n f d p r dr o sl md fr zs) n f v vs)) ∧ Below w.heap.size w w' := by
  have HT := hidden (hT.below (ballc w (.cells #[.int .i64 n, .int .i64 f, .int .i64 d, .int .i64 p, .int .i64 r, .int .i64 dr, .int .i64 o, .int .i64 sl, .int .i64 md, .int .i64 fr, .slice ad zs.length cap] 24)))
  have HQ := hidden (fun V h => refPlain_any n f d p r dr o sl md fr ad cap zs V hl h)
  have HK := hidden (fun h => plainE_ok (n := n) (f := f) (d := d) (p := p) (r := r) (dr := dr) (o := o) (sl := sl) (md := md) (fr := fr) (zs := zs) h)
  have HV := hidden (hV.later (ballc w (.cells #[.int .i64 n, .int .i64 f, .int .i64 d, .int .i64 p, .int .i64 r, .int .i64 dr, .int .i64 o, .int .i64 sl, .int .i64 md, .int .i64 fr, .slice ad zs.length cap] 24)))
  have C2 := hidden (fun V h => Calls.to_below (rTCount_any v a2 len c2 vs hlv V h))
  clear hT hV
  generalize plainE n f d p r dr o sl md fr zs = E at HQ HK
  by_cases hE : E = 0
  · obtain ⟨n1, n2, f1, f2, n3, _⟩ := HK.out hE
    subst hE
    have HE := hidden (enoughB_ok (E := 0) rfl n f v vs)
    generalize cntF v vs = c at *
    have t1 : IntKind.i64.wrap (n - f) = n - f := IntWalk.i64_in _ (by omega)
    have i0 : ((0 : Int) == 0) = true := rfl
    go_enter Try.func127, Try.ntmps127
    go_wp2
    refine wp_region_quiet_below (by kernel_rfl) (by kernel_rfl) ?_
    repeat (go_big_quiet_step (first | (go_at_call 9; exact Calls.regrown_of (HQ.out _ (HT.out.below (below_regrown _ _ _)))) | (go_at_call 134; exact Calls.regrown_of (C2.out _ (HV.out.later (below_regrown _ _ _))))))
    refine wpQuiet_nil ?_
    intro w2 hw2
    have HB2 : Hid (Below w.heap.size w w2) := bthen (ballc w _) (rg_below hw2)
    clear hw2
    go_wp2
    go_ret
    exact ⟨ret_b HE.out.symm, HB2.out⟩
  · have HE := hidden (enoughB_no hE n f v vs)
    have iE : (E == 0) = false := by simp [hE]
    clear HK
    go_enter Try.func127, Try.ntmps127
    go_wp2
    refine wp_region_quiet_below (by kernel_rfl) (by kernel_rfl) ?_
    repeat (go_big_quiet_step (first | (go_at_call 9; exact Calls.regrown_of (HQ.out _ (HT.out.below (below_regrown _ _ _))))))
    refine wpQuiet_nil ?_
    intro w2 hw2
    have HB2 : Hid (Below w.heap.size w w2) := bthen (ballc w _) (rg_below hw2)
    clear hw2
    go_wp2
    go_ret
    exact ⟨ret_b HE.out.symm, HB2.out⟩

/-- The first exchange by quorums. -/
theorem most_1 {E n f : Int} {vs : List Int} (h : enoughB E n f 1 vs = true) : mostF E n f vs = 1 := by
  have h2 := of_decide_eq_true h
  exact mostF_1 h2.1 (by rw [cntF_in (by decide) (by decide)] at h2; exact h2.2)
theorem most_0 {E n f : Int} {vs : List Int} (h1 : enoughB E n f 1 vs = false) (h : enoughB E n f 0 vs = true) : mostF E n f vs = 0 := by
  have h2 := of_decide_eq_true h
  have h3 := of_decide_eq_false h1
  rw [cntF_in (by decide) (by decide)] at h2 h3
  exact mostF_0 h2.1 (fun k => h3 ⟨h2.1, k⟩) h2.2
theorem most_2 {E n f : Int} {vs : List Int} (h1 : enoughB E n f 1 vs = false) (h : enoughB E n f 0 vs = false) : mostF E n f vs = 2 := by
  by_cases hE : E = 0
  · have h2 := of_decide_eq_false h
    have h3 := of_decide_eq_false h1
    rw [cntF_in (by decide) (by decide)] at h2 h3
    exact mostF_2 hE (fun k => h3 ⟨hE, k⟩) (fun k => h2 ⟨hE, k⟩)
  · exact mostF_no hE _ _ _

set_option maxHeartbeats 2000000 in
theorem rMost_any (n f d p r dr o sl md fr : Int) (ad : Option Addr) (cap : Nat) (zs : List Int) (a2 : Option Addr) (len c2 : Nat) (vs : List Int) (w : World) (hl : zs.length ≤ 9223372036854775807) (hT : Tab w ad zs) (hlv : vs.length ≤ 9223372036854775807) (hV : kInt.Lies w.heap.size w (.slice a2 len c2) vs) :
    Calls Try.prog 125 #[.agg #[.int .i64 n, .int .i64 f, .int .i64 d, .int .i64 p, .int .i64 r, .int .i64 dr, .int .i64 o, .int .i64 sl, .int .i64 md, .int .i64 fr, .slice ad zs.length cap], .slice a2 len c2] w fun e w' => e = .returned (.int .i64 (mostF (plainE n f d p r dr o sl md fr zs) n f vs)) ∧ Below w.heap.size w w' := by
  have C := fun v V h h2 => rEnough_any n f d p r dr o sl md fr ad cap zs v a2 len c2 vs V hl h hlv h2
  have HT := hidden (hT.below (ballc w (.cells #[.int .i64 n, .int .i64 f, .int .i64 d, .int .i64 p, .int .i64 r, .int .i64 dr, .int .i64 o, .int .i64 sl, .int .i64 md, .int .i64 fr, .slice ad zs.length cap] 24)))
  have HV := hidden (hV.later (ballc w (.cells #[.int .i64 n, .int .i64 f, .int .i64 d, .int .i64 p, .int .i64 r, .int .i64 dr, .int .i64 o, .int .i64 sl, .int .i64 md, .int .i64 fr, .slice ad zs.length cap] 24)))
  have C1 := C 1
  have C0 := C 0
  have m1 := fun h => most_1 (E := plainE n f d p r dr o sl md fr zs) (n := n) (f := f) (vs := vs) h
  have m0 := fun h => most_0 (E := plainE n f d p r dr o sl md fr zs) (n := n) (f := f) (vs := vs) h
  have m2 := fun h => most_2 (E := plainE n f d p r dr o sl md fr zs) (n := n) (f := f) (vs := vs) h
  clear C hT hV
  generalize mostF (plainE n f d p r dr o sl md fr zs) n f vs = M at *
  generalize enoughB (plainE n f d p r dr o sl md fr zs) n f 1 vs = q1 at *
  generalize enoughB (plainE n f d p r dr o sl md fr zs) n f 0 vs = q0 at *
  cases q1
  · cases q0
    · have HM := hidden (m2 rfl rfl)
      clear m0 m1 m2
      go_enter Try.func125, Try.ntmps125
      go_wp2_with fail
      refine (C1 _ HT.out HV.out).mono ?_
      rintro e w2 ⟨rfl, hb2⟩
      have HB2 := hidden hb2
      obtain ⟨hbox, hsz⟩ := box_at hb2
      clear hb2 C1
      go_wp2_with fail
      refine (C0 _ (HT.out.below HB2.out) (HV.out.later HB2.out)).mono ?_
      rintro e w3 ⟨rfl, hb3⟩
      have HB3 := hidden (bthen (ballc w _) (bthen HB2.out hb3))
      clear hb3 C0 hbox hsz
      go_wp2
      go_ret
      exact ⟨ret_i HM.out.symm, HB3.out⟩
    · have HM := hidden (m0 rfl rfl)
      clear m0 m1 m2
      go_enter Try.func125, Try.ntmps125
      go_wp2_with fail
      refine (C1 _ HT.out HV.out).mono ?_
      rintro e w2 ⟨rfl, hb2⟩
      have HB2 := hidden hb2
      obtain ⟨hbox, hsz⟩ := box_at hb2
      clear hb2 C1
      go_wp2_with fail
      refine (C0 _ (HT.out.below HB2.out) (HV.out.later HB2.out)).mono ?_
      rintro e w3 ⟨rfl, hb3⟩
      have HB3 := hidden (bthen (ballc w _) (bthen HB2.out hb3))
      clear hb3 C0 hbox hsz
      go_wp2
      go_ret
      exact ⟨ret_i HM.out.symm, HB3.out⟩
  · have HM := hidden (m1 rfl)
    clear m0 m1 m2
    go_enter Try.func125, Try.ntmps125
    go_wp2_with fail
    refine (C1 _ HT.out HV.out).mono ?_
    rintro e w2 ⟨rfl, hb2⟩
    have HB3 := hidden (bthen (ballc w _) hb2)
    clear hb2 C1
    go_wp2
    go_ret
    exact ⟨ret_i HM.out.symm, HB3.out⟩

set_option maxHeartbeats 4000000 in
theorem rLeast_any (n f d p r dr o sl md fr : Int) (ad : Option Addr) (cap : Nat) (zs : List Int) (now : Int) (a2 : Option Addr) (len c2 : Nat) (vs : List Int) (w : World) (hl : zs.length ≤ 9223372036854775807) (hT : Tab w ad zs) (hlv : vs.length ≤ 9223372036854775807) (hV : kInt.Lies w.heap.size w (.slice a2 len c2) vs) :
    Calls Try.prog 126 #[.agg #[.int .i64 n, .int .i64 f, .int .i64 d, .int .i64 p, .int .i64 r, .int .i64 dr, .int .i64 o, .int .i64 sl, .int .i64 md, .int .i64 fr, .slice ad zs.length cap], .int .i64 now, .slice a2 len c2] w fun e w' => e = .returned (.int .i64 (leastF (plainE n f d p r dr o sl md fr zs) f now vs)) ∧ Below w.heap.size w w' := by
  have HQ := hidden (refPlain_any n f d p r dr o sl md fr ad cap zs (w.alloc (.cells #[.int .i64 n, .int .i64 f, .int .i64 d, .int .i64 p, .int .i64 r, .int .i64 dr, .int .i64 o, .int .i64 sl, .int .i64 md, .int .i64 fr, .slice ad zs.length cap] 24)) hl (hT.below (ballc _ _)))
  have HK := hidden (fun h => plainE_ok (n := n) (f := f) (d := d) (p := p) (r := r) (dr := dr) (o := o) (sl := sl) (md := md) (fr := fr) (zs := zs) h)
  have HV := hidden (hV.later (ballc w (.cells #[.int .i64 n, .int .i64 f, .int .i64 d, .int .i64 p, .int .i64 r, .int .i64 dr, .int .i64 o, .int .i64 sl, .int .i64 md, .int .i64 fr, .slice ad zs.length cap] 24)))
  have C := fun v V h => Calls.to_below (rTCount_any v a2 len c2 vs hlv V h)
  have C0 := C 0
  have C1 := C 1
  have C2 := C 2
  rw [cntF_in (by decide) (by decide)] at C0 C1 C2
  have C0 := hidden C0
  have C1 := hidden C1
  have C2 := hidden C2
  clear hT hV C
  generalize plainE n f d p r dr o sl md fr zs = E at HQ HK
  by_cases hE : E = 0
  · obtain ⟨n1, n2, f1, f2, n3, _⟩ := HK.out hE
    subst hE
    have m0 := fun h => leastF_0 (E := 0) rfl (f := f) (now := now) (zs := vs) h
    have m1 := fun h => leastF_1 (E := 0) rfl (f := f) (now := now) (zs := vs) h
    have m2 := fun h => leastF_2 (E := 0) rfl (f := f) (now := now) (zs := vs) h
    have m3 := fun h => leastF_n (E := 0) rfl (f := f) (now := now) (zs := vs) h
    generalize leastF 0 f now vs = M at *
    generalize cntL 0 vs = k0 at *
    generalize cntL 1 vs = k1 at *
    generalize cntL 2 vs = k2 at *
    by_cases h0 : f + 1 ≤ (k0 : Int)
    · have g0 : f < (k0 : Int) := by omega
      have HM := hidden (m0 h0)
      clear m0 m1 m2 m3
      go_enter Try.func126, Try.ntmps126
      go_wp2_with fail
      refine HQ.out.mono ?_
      rintro e w2 ⟨rfl, hb2⟩
      have HV2 := hidden (HV.out.later hb2)
      have HBX := hidden hb2
      obtain ⟨hbox, hsz⟩ := box_at hb2
      clear hb2 HQ HK HV
      go_wp2
      refine wp_loop_rounds 4 ?_
      rw [rounds_succ]
      go_wp2
      refine wp_region_quiet_below (by kernel_rfl) (by kernel_rfl) ?_
      repeat (go_big_quiet_step (first | (go_at_call 134; exact Calls.regrown_of (C0.out _ (HV2.out.later (below_regrown _ _ _))))))
      refine wpQuiet_nil ?_
      intro w3 hw
      have HC := hidden (rg_below hw)
      clear hw
      obtain ⟨hbox, hsz⟩ := box_at (bthen HBX.out HC.out)
      have HV2 := hidden (HV2.out.later HC.out)
      have HBX := hidden (bthen HBX.out HC.out)
      clear HC
      go_wp2
      go_ret
      exact ⟨ret_i HM.out.symm, bthen (ballc w _) HBX.out⟩
    · have g0 : ¬ f < (k0 : Int) := by omega
      by_cases h1 : f + 1 ≤ (k1 : Int)
      · have g1 : f < (k1 : Int) := by omega
        have HM := hidden (m1 h0 h1)
        clear m0 m1 m2 m3
        go_enter Try.func126, Try.ntmps126
        go_wp2_with fail
        refine HQ.out.mono ?_
        rintro e w2 ⟨rfl, hb2⟩
        have HV2 := hidden (HV.out.later hb2)
        have HBX := hidden hb2
        obtain ⟨hbox, hsz⟩ := box_at hb2
        clear hb2 HQ HK HV
        go_wp2
        refine wp_loop_rounds 4 ?_
        rw [rounds_succ]
        go_wp2
        refine wp_region_quiet_below (by kernel_rfl) (by kernel_rfl) ?_
        repeat (go_big_quiet_step (first | (go_at_call 134; exact Calls.regrown_of (C0.out _ (HV2.out.later (below_regrown _ _ _))))))
        refine wpQuiet_nil ?_
        intro w3 hw
        have HC := hidden (rg_below hw)
        clear hw
        obtain ⟨hbox, hsz⟩ := box_at (bthen HBX.out HC.out)
        have HV2 := hidden (HV2.out.later HC.out)
        have HBX := hidden (bthen HBX.out HC.out)
        clear HC
        go_wp2
        rw [rounds_succ]
        go_wp2
        refine wp_region_quiet_below (by kernel_rfl) (by kernel_rfl) ?_
        repeat (go_big_quiet_step (first | (go_at_call 134; exact Calls.regrown_of (C1.out _ (HV2.out.later (below_regrown _ _ _))))))
        refine wpQuiet_nil ?_
        intro w4 hw
        have HC := hidden (rg_below hw)
        clear hw
        obtain ⟨hbox, hsz⟩ := box_at (bthen HBX.out HC.out)
        have HV2 := hidden (HV2.out.later HC.out)
        have HBX := hidden (bthen HBX.out HC.out)
        clear HC
        go_wp2
        go_ret
        exact ⟨ret_i HM.out.symm, bthen (ballc w _) HBX.out⟩
      · have g1 : ¬ f < (k1 : Int) := by omega
        by_cases h2 : f + 1 ≤ (k2 : Int)
        · have g2 : f < (k2 : Int) := by omega
          have HM := hidden (m2 h0 h1 h2)
          clear m0 m1 m2 m3
          go_enter Try.func126, Try.ntmps126
          go_wp2_with fail
          refine HQ.out.mono ?_
          rintro e w2 ⟨rfl, hb2⟩
          have HV2 := hidden (HV.out.later hb2)
          have HBX := hidden hb2
          obtain ⟨hbox, hsz⟩ := box_at hb2
          clear hb2 HQ HK HV
          go_wp2
          refine wp_loop_rounds 4 ?_
          rw [rounds_succ]
          go_wp2
          refine wp_region_quiet_below (by kernel_rfl) (by kernel_rfl) ?_
          repeat (go_big_quiet_step (first | (go_at_call 134; exact Calls.regrown_of (C0.out _ (HV2.out.later (below_regrown _ _ _))))))
          refine wpQuiet_nil ?_
          intro w3 hw
          have HC := hidden (rg_below hw)
          clear hw
          obtain ⟨hbox, hsz⟩ := box_at (bthen HBX.out HC.out)
          have HV2 := hidden (HV2.out.later HC.out)
          have HBX := hidden (bthen HBX.out HC.out)
          clear HC
          go_wp2
          rw [rounds_succ]
          go_wp2
          refine wp_region_quiet_below (by kernel_rfl) (by kernel_rfl) ?_
          repeat (go_big_quiet_step (first | (go_at_call 134; exact Calls.regrown_of (C1.out _ (HV2.out.later (below_regrown _ _ _))))))
          refine wpQuiet_nil ?_
          intro w4 hw
          have HC := hidden (rg_below hw)
          clear hw
          obtain ⟨hbox, hsz⟩ := box_at (bthen HBX.out HC.out)
          have HV2 := hidden (HV2.out.later HC.out)
          have HBX := hidden (bthen HBX.out HC.out)
          clear HC
          go_wp2
          rw [rounds_succ]
          go_wp2
          refine wp_region_quiet_below (by kernel_rfl) (by kernel_rfl) ?_
          repeat (go_big_quiet_step (first | (go_at_call 134; exact Calls.regrown_of (C2.out _ (HV2.out.later (below_regrown _ _ _))))))
          refine wpQuiet_nil ?_
          intro w5 hw
          have HC := hidden (rg_below hw)
          clear hw
          obtain ⟨hbox, hsz⟩ := box_at (bthen HBX.out HC.out)
          have HV2 := hidden (HV2.out.later HC.out)
          have HBX := hidden (bthen HBX.out HC.out)
          clear HC
          go_wp2
          go_ret
          exact ⟨ret_i HM.out.symm, bthen (ballc w _) HBX.out⟩
        · have g2 : ¬ f < (k2 : Int) := by omega
          have HM := hidden (m3 h0 h1 h2)
          clear m0 m1 m2 m3
          go_enter Try.func126, Try.ntmps126
          go_wp2_with fail
          refine HQ.out.mono ?_
          rintro e w2 ⟨rfl, hb2⟩
          have HV2 := hidden (HV.out.later hb2)
          have HBX := hidden hb2
          obtain ⟨hbox, hsz⟩ := box_at hb2
          clear hb2 HQ HK HV
          go_wp2
          refine wp_loop_rounds 4 ?_
          rw [rounds_succ]
          go_wp2
          refine wp_region_quiet_below (by kernel_rfl) (by kernel_rfl) ?_
          repeat (go_big_quiet_step (first | (go_at_call 134; exact Calls.regrown_of (C0.out _ (HV2.out.later (below_regrown _ _ _))))))
          refine wpQuiet_nil ?_
          intro w3 hw
          have HC := hidden (rg_below hw)
          clear hw
          obtain ⟨hbox, hsz⟩ := box_at (bthen HBX.out HC.out)
          have HV2 := hidden (HV2.out.later HC.out)
          have HBX := hidden (bthen HBX.out HC.out)
          clear HC
          go_wp2
          rw [rounds_succ]
          go_wp2
          refine wp_region_quiet_below (by kernel_rfl) (by kernel_rfl) ?_
          repeat (go_big_quiet_step (first | (go_at_call 134; exact Calls.regrown_of (C1.out _ (HV2.out.later (below_regrown _ _ _))))))
          refine wpQuiet_nil ?_
          intro w4 hw
          have HC := hidden (rg_below hw)
          clear hw
          obtain ⟨hbox, hsz⟩ := box_at (bthen HBX.out HC.out)
          have HV2 := hidden (HV2.out.later HC.out)
          have HBX := hidden (bthen HBX.out HC.out)
          clear HC
          go_wp2
          rw [rounds_succ]
          go_wp2
          refine wp_region_quiet_below (by kernel_rfl) (by kernel_rfl) ?_
          repeat (go_big_quiet_step (first | (go_at_call 134; exact Calls.regrown_of (C2.out _ (HV2.out.later (below_regrown _ _ _))))))
          refine wpQuiet_nil ?_
          intro w5 hw
          have HC := hidden (rg_below hw)
          clear hw
          obtain ⟨hbox, hsz⟩ := box_at (bthen HBX.out HC.out)
          have HV2 := hidden (HV2.out.later HC.out)
          have HBX := hidden (bthen HBX.out HC.out)
          clear HC
          go_wp2
          rw [rounds_succ]
          go_wp2
          go_ret
          exact ⟨ret_i HM.out.symm, bthen (ballc w _) HBX.out⟩
  · have HE := hidden (leastF_no hE f now vs)
    clear HK
    go_enter Try.func126, Try.ntmps126
    go_wp2_with fail
    refine HQ.out.mono ?_
    rintro e w2 ⟨rfl, hb2⟩
    have HB2 : Hid (Below w.heap.size w w2) := bthen (ballc w _) hb2
    clear hb2 HQ HV
    go_wp2
    go_ret
    exact ⟨ret_i HE.out.symm, HB2.out⟩
end Go.Proofs.Ytohgmliafidalaa

/- The integer calls Clamp, Mod and Sat of the document's answer for layer 1 return what plain functions on integers give, and leave the world as it was; for integers that fit int. -/
namespace Go.Proofs.Ytohgmliafidalaa
open Go.ChangeShapes Go.WideShapes Go.ChangeAt Go.RowKit
set_option linter.unusedVariables false

theorem rmod_any (n b : Int) (w : World) (hn : (Lit.int .i64 n).wf = true) (hb : (Lit.int .i64 b).wf = true) :
    Calls Try.prog 74 #[.int .i64 n, .int .i64 b] w fun e w' => e = .returned (.int .i64 (modF n b)) ∧ w = w' := by
  have bn := bd64 hn
  have bb := bd64 hb
  by_cases h1 : b < 1
  · have e : modF n b = 0 := by unfold modF; rw [if_pos h1]
    rw [e]; clear e
    go_enter Try.func74, Try.ntmps74
    go_wp2
    go_ret
    exact ⟨rfl, rfl⟩
  · by_cases h2 : n.tmod b < 0
    · have e : modF n b = n.tmod b + b := by unfold modF; rw [if_neg h1, if_pos h2]
      rw [e]; clear e
      have hr : -b < n.tmod b := by have := Int.lt_tmod_of_pos n (show 0 < b by omega); omega
      go_enter Try.func74, Try.ntmps74
      go_wp2
      go_ret
      exact ⟨rfl, rfl⟩
    · have e : modF n b = n.tmod b := by unfold modF; rw [if_neg h1, if_neg h2]
      rw [e]; clear e
      go_enter Try.func74, Try.ntmps74
      go_wp2
      go_ret
      exact ⟨rfl, rfl⟩
theorem rsat_any (n m : Int) (w : World) (hn : (Lit.int .i64 n).wf = true) (hm : (Lit.int .i64 m).wf = true) :
    Calls Try.prog 63 #[.int .i64 n, .int .i64 m] w fun e w' => e = .returned (.int .i64 (satF n m)) ∧ w = w' := by
  have bn := bd64 hn
  have bb := bd64 hm
  by_cases h1 : n < 0
  · have e : satF n m = 0 := by unfold satF; rw [if_pos (Or.inl h1)]
    rw [e]; clear e
    go_enter Try.func63, Try.ntmps63
    go_wp2
    go_ret
    exact ⟨rfl, rfl⟩
  · by_cases h2 : m < 0
    · have e : satF n m = 0 := by unfold satF; rw [if_pos (Or.inr h2)]
      rw [e]; clear e
      go_enter Try.func63, Try.ntmps63
      go_wp2
      go_ret
      exact ⟨rfl, rfl⟩
    · by_cases h3 : m ≤ n
      · have e : satF n m = m := by unfold satF; rw [if_neg (by omega), if_pos h3]
        rw [e]; clear e
        go_enter Try.func63, Try.ntmps63
        go_wp2
        go_ret
        exact ⟨rfl, rfl⟩
      · have e : satF n m = n + 1 := by unfold satF; rw [if_neg (by omega), if_neg h3]
        rw [e]; clear e
        go_enter Try.func63, Try.ntmps63
        go_wp2
        go_ret
        exact ⟨rfl, rfl⟩
end Go.Proofs.Ytohgmliafidalaa
