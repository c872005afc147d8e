/- The calls Grow, Concat and Push hand back the items that they must, in memory of their own; for rows of items that lie in memory, few enough. -/
import Derived.Test.YtjmeeklaclidbaaQueA
import Derived.Lib.AppendZeros
namespace Go.Proofs.Ytjmeeklaclidbaa
open Go.ChangeShapes Go.WideShapes Go.ChangeAt Go.RowKit
set_option linter.unusedVariables false

set_option maxHeartbeats 1000000 in
theorem Grow_nil (n : Nat) (hn : n ≤ 100000) (w : World) :
    Calls Try.prog 46 #[.slice none 0 0, .int .i64 (n : Int)] w fun e w' => ∃ v, e = .returned v ∧ w'.ownsRow w.heap.size 52 3 v 0 [] ∧ Below w.heap.size w w' := by
  obtain ⟨i0, hi, hz0, hz1, hz2⟩ := info_parts infoItem
  by_cases h0 : n = 0
  · subst h0
    go_enter Try.func46, Try.ntmps46
    go_wp2
    go_ret
    exact ⟨_, rfl, World.ownsRow_nil _ _ _ _, Below.refl _ _⟩
  · have happ := Lib.run_append_nil_zeros (P := Try.prog) w 42 3 42 52 i0 (.agg #[.int .i64 0, .int .i64 0, .string ByteArray.empty]) .i64 .i64 Try.underlying42 Try.underlying3 hi hz0 n (by omega) (by omega) (by omega) (by rw [hz2]; omega)
    have hge := grownCap_ge w n 0 52
    have hcm : grownCap w n 0 52 ≤ maxLen := grownCap_le_maxLen w n 0 52 (by simp only [maxLen]; omega)
    have hown : (w.drew.alloc (.cells (Builtin.zeroCells (Value.agg #[.int .i64 0, .int .i64 0, .string ByteArray.empty]).cells n ++ Builtin.zeroCells (Value.agg #[.int .i64 0, .int .i64 0, .string ByteArray.empty]).cells (grownCap w n 0 52 - n)) 52)).ownsRow w.heap.size 52 3 (.slice (some ⟨w.heap.size, 0, none⟩) 0 (grownCap w n 0 52)) 0 [] := by
      refine ⟨by simp, .inr ⟨w.heap.size, _, _, rfl, Nat.le_refl _, heap_alloc_new w.drew _, Nat.zero_le _, hcm, ?_, by simp⟩⟩
      have e3 : (Value.agg #[.int .i64 0, .int .i64 0, .string ByteArray.empty]).cells.size = 3 := rfl
      simp only [Array.size_append, size_zeroCells, e3]
      omega
    have hb : Below w.heap.size w (w.drew.alloc (.cells (Builtin.zeroCells (Value.agg #[.int .i64 0, .int .i64 0, .string ByteArray.empty]).cells n ++ Builtin.zeroCells (Value.agg #[.int .i64 0, .int .i64 0, .string ByteArray.empty]).cells (grownCap w n 0 52 - n)) 52)) := (Below.refl _ w).drew.alloc (Nat.le_refl _) _
    generalize (w.drew.alloc (.cells (Builtin.zeroCells (Value.agg #[.int .i64 0, .int .i64 0, .string ByteArray.empty]).cells n ++ Builtin.zeroCells (Value.agg #[.int .i64 0, .int .i64 0, .string ByteArray.empty]).cells (grownCap w n 0 52 - n)) 52)) = W1 at happ hown hb
    generalize grownCap w n 0 52 = gc at happ hown hge hcm
    have t1 : IntKind.i64.wrap ((n : Int)) = (n : Int) := IntWalk.i64_in _ (by omega)
    have hgc : ¬ gc = 0 := by omega
    go_enter Try.func46, Try.ntmps46
    go_wp2_with (at_builtin; (refine Lib.wpList_append_run _ rfl _ _ _ _ rfl _ _ rfl rfl _ _ happ ?_))
    go_ret
    exact ⟨_, rfl, hown, hb⟩

/-- A row of rows. -/
def kRow : Kind (Option Addr × Nat × Nat) := ⟨1, fun a => [.slice a.1 a.2.1 a.2.2], fun _ => rfl, by intro a u hu; simp at hu; subst hu; rfl, by decide⟩
/-- The items of the first rows. -/
def upto (ess : List (List Item)) (k : Nat) : List Item := (ess.take k).flatten
theorem upto_snoc (ess : List (List Item)) {k : Nat} (hk : k < ess.length) : upto ess (k + 1) = upto ess k ++ ess[k] := by
  unfold upto
  rw [List.take_add_one, List.getElem?_eq_getElem hk, List.flatten_append]
  simp
theorem upto_le (ess : List (List Item)) (k : Nat) : (upto ess k).length ≤ ess.flatten.length := by
  have h : ess.flatten = (ess.take k).flatten ++ (ess.drop k).flatten := by rw [← List.flatten_append, List.take_append_drop]
  unfold upto
  rw [h, List.length_append]
  omega
theorem upto_all (ess : List (List Item)) : upto ess ess.length = ess.flatten := by unfold upto; rw [List.take_length]
set_option maxHeartbeats 2000000 in
theorem Concat_own (ad : Option Addr) (len cap : Nat) (vs : List (Option Addr × Nat × Nat)) (ess : List (List Item)) (hls : vs.length = ess.length) (hl : ess.flatten.length ≤ 100000) (hlv : vs.length ≤ 100000) (w : World) (hV : kRow.Lies w.heap.size w (.slice ad len cap) vs)
    (hE : ∀ i, ∀ hi : i < ess.length, ∀ hi' : i < vs.length, kItem.Lies w.heap.size w (.slice vs[i].1 vs[i].2.1 vs[i].2.2) ess[i]) :
    Calls Try.prog 36 #[.slice ad len cap] w fun e w' => ∃ v, e = .returned v ∧ w'.ownsRow w.heap.size 52 3 v ess.flatten.length (kItem.flat ess.flatten) ∧ Below w.heap.size w w' := by
  obtain rfl := hV.len
  have HLS := hidden hls
  clear hls
  obtain ⟨i0, hi, hz0, hz1, hz2⟩ := info_parts infoItem
  go_enter Try.func36, Try.ntmps36
  go_wp2
  go_loopw [3, 11] (fun n i wr => ∃ k : Nat, k ≤ vs.length ∧ n = .int .i64 ((upto ess k).length : Int) ∧ i = .int .i64 (k : Int) ∧ wr = w) (fun _ i _ => vs.length - (intV i).toNat)
  case atStart => exact ⟨0, Nat.zero_le _, rfl, rfl, rfl⟩
  case round =>
    obtain ⟨k, hk, rfl, rfl, hw⟩ := hrel
    have hw2 := hw.symm
    subst hw2
    by_cases hlt : k < vs.length
    · obtain ⟨b, off, rfl, hbl, e0⟩ := hV.at k hlt
      have f0 : w.cell? ⟨b, off + k, none⟩ = some (.slice vs[k].1 vs[k].2.1 vs[k].2.2) := by simpa [kRow] using e0 0 (by decide)
      have hke : k < ess.length := by have := HLS.out; omega
      have hn := (hE k hke hlt).len
      have htk := upto_snoc ess (k := k) hke
      have h1 := Nat.le_trans (upto_le ess (k + 1)) hl
      rw [htk, List.length_append] at h1
      have h2 : (upto ess (k + 1)).length = (upto ess k).length + ess[k].length := by rw [htk, List.length_append]
      rw [hn] at f0
      clear e0 htk hn hE hl
      have H2 := hidden h2
      clear h2
      generalize ess[k].length = m at *
      generalize (upto ess k).length = s0 at *
      generalize vs[k].1 = va at f0
      generalize vs[k].2.2 = vcp at f0
      have t1 : IntKind.i64.wrap ((s0 : Int) + (m : Int)) = (s0 : Int) + (m : Int) := IntWalk.i64_in _ (by omega)
      have t2 : ¬ ((s0 : Int) + (m : Int) < 0) := by omega
      have i1 : (0 : Int) ≤ (k : Int) := by omega
      have i2 : (k : Int) < (vs.length : Int) := by omega
      go_wp2
      go_roundw
      case rel => exact ⟨k + 1, by omega, by rw [H2.out]; simp, by simp, trivial⟩
      case measure => simp [intV]; omega
    · obtain rfl : k = vs.length := by omega
      have hgl := Nat.le_trans (upto_le ess vs.length) hl
      go_wp2_with fail
      refine (Grow_nil _ hgl _).mono ?_
      rintro r w1 ⟨v1, rfl, hown1, hb1⟩
      go_wp2
      go_loopw [6, 27] (fun v i wr => ∃ k : Nat, k ≤ vs.length ∧ wr.ownsRow w.heap.size 52 3 v (upto ess k).length (kItem.flat (upto ess k)) ∧ i = .int .i64 (k : Int) ∧ Below w.heap.size w wr) (fun _ i _ => vs.length - (intV i).toNat)
      case atStart => exact ⟨0, Nat.zero_le _, hown1, rfl, hb1⟩
      case round =>
        obtain ⟨k, hk, hown, rfl, hB⟩ := hrel
        by_cases hlt : k < vs.length
        · obtain ⟨b, off, rfl, hbl, e0⟩ := hV.at k hlt
          have f0 : wr.cell? ⟨b, off + k, none⟩ = some (.slice vs[k].1 vs[k].2.1 vs[k].2.2) := (hB.cell (p := ⟨b, off + k, none⟩) hbl).trans (by simpa [kRow] using e0 0 (by decide))
          have hke : k < ess.length := by have := HLS.out; omega
          have hEk := (hE k hke hlt).below hB
          have htk := upto_snoc ess (k := k) hke
          have h1 := Nat.le_trans (upto_le ess (k + 1)) hl
          rw [htk, List.length_append] at h1
          clear e0 hl
          generalize ess[k] = fs at *
          generalize vs[k] = v3 at *
          obtain ⟨va, vl, vcp⟩ := v3
          dsimp only at f0 hEk
          have HT := hidden htk
          clear htk
          generalize upto ess k = pre at *
          have i1 : (0 : Int) ≤ (k : Int) := by omega
          have i2 : (k : Int) < (vs.length : Int) := by omega
          go_wp2_with (at_builtin; (refine kItem.wpList_append _ rfl _ _ 42 rfl w.heap.size 52 i0 (.agg #[.int .i64 0, .int .i64 0, .string ByteArray.empty]) 32 Try.underlying42 hi hz0 hz1 hz2 rfl u6 _ _ rfl hown (.slice va vl vcp) fs rfl hEk (by simp only [maxLen]; omega) (by omega) hB.size ?_); intro v3 w3 hown3 hgrow3 hat3)
          go_roundw
          case rel => exact ⟨k + 1, by omega, by rw [HT.out, Kind.flat_append, List.length_append]; exact hown3, by simp, hB.grown hgrow3 hB.size (own_from hown)⟩
          case measure => simp [intV]; omega
        · obtain rfl : k = vs.length := by omega
          have hu : upto ess vs.length = ess.flatten := by rw [HLS.out, upto_all]
          rw [hu] at hown
          clear hu
          go_wp2
          go_ret
          exact ⟨_, rfl, hown, hB⟩
theorem two_rows (es fs : List Item) : [es, fs].flatten = es ++ fs := by simp
/-- A row of one's own, cut off ahead. -/
theorem own_cut {W : World} {base g n c : Nat} {es : List Item} (h : W.ownsRow base 52 3 (.slice (some ⟨g, 0, none⟩) n c) n (kItem.flat es)) (hn : n = es.length) (k : Nat) (hk : k ≤ n) : kItem.Lies W.heap.size W (.slice (some ⟨g, k * 3, none⟩) (n - k) (c - k)) (es.drop k) := by
  subst hn
  have := (Kind.Lies.of_own (K := kItem) h).drop k hk
  simpa [kItem] using this
set_option maxHeartbeats 2000000 in
theorem Push_any (ad : Option Addr) (len cap : Nat) (ad2 : Option Addr) (len2 cap2 : Nat) (es fs : List Item) (hl : es.length + fs.length ≤ 10000) (w : World) (hE : kItem.Lies w.heap.size w (.slice ad len cap) es) (hF : kItem.Lies w.heap.size w (.slice ad2 len2 cap2) fs) :
    Calls Try.prog 21 #[.slice ad len cap, .slice ad2 len2 cap2] w fun e w' => ∃ a c, e = .returned (.tuple #[.slice a (pushL es fs).length c, .int .i64 ((es.length + fs.length - 8 : Nat) : Int)]) ∧ kItem.Lies w'.heap.size w' (.slice a (pushL es fs).length c) (pushL es fs) ∧ Below w.heap.size w w' := by
  have hB0 : Below w.heap.size w (w.alloc (.cells #[.slice ad len cap, .slice ad2 len2 cap2] 42)) := ballc _ _
  have hV0 : kRow.Lies (w.alloc (.cells #[.slice ad len cap, .slice ad2 len2 cap2] 42)).heap.size (w.alloc (.cells #[.slice ad len cap, .slice ad2 len2 cap2] 42)) (.slice (some ⟨w.heap.size, 0, none⟩) 2 2) [(ad, len, cap), (ad2, len2, cap2)] :=
    Kind.Lies.of_block (K := kRow) (es := [(ad, len, cap), (ad2, len2, cap2)]) (heap_alloc_new w _) (by simp only [maxLen, List.length_cons, List.length_nil]; omega)
  have CC := Concat_own (some ⟨w.heap.size, 0, none⟩) 2 2 [(ad, len, cap), (ad2, len2, cap2)] [es, fs] rfl (by rw [two_rows, List.length_append]; omega) (by simp) (w.alloc (.cells #[.slice ad len cap, .slice ad2 len2 cap2] 42)) hV0 (fun i hi hi' => by
    match i, hi with
    | 0, _ => exact hE.later hB0
    | 1, _ => exact hF.later hB0)
  rw [two_rows] at CC
  have hpl := pushL_length es fs
  have hal : (es ++ fs).length = es.length + fs.length := List.length_append
  have hpd : pushL es fs = (es ++ fs).drop (es.length + fs.length - 8) := by unfold pushL; rw [hal]
  rw [hal] at CC
  generalize es.length + fs.length = n at *
  generalize pushL es fs = pl at *
  generalize es ++ fs = al at *
  go_enter Try.func21, Try.ntmps21
  go_wp2_with fail
  refine CC.mono ?_
  rintro r w1 ⟨v1, rfl, hown1, hb1⟩
  have hB1 := bthen hB0 hb1
  clear CC hB0 hb1 hV0
  have HD := hidden hpd
  have HP := hidden hpl
  have HA := hidden hal
  clear hpd hpl hal
  have t1 : IntKind.i64.wrap ((n : Int) - 8) = (n : Int) - 8 := IntWalk.i64_in _ (by omega)
  rcases id hown1.2 with ⟨rfl, hn0⟩ | ⟨g, c, cur, rfl, hg, hgb, hnc, hcm, hcs, htk⟩
  · subst hn0
    have hal0 : al = [] := List.length_eq_zero_iff.1 HA.out
    have hp0 : pl = [] := by rw [HD.out, hal0]; rfl
    subst hp0
    go_wp2
    go_ret2
    exact ⟨none, 0, rfl, Kind.Lies.nil _ _, hB1⟩
  · by_cases h8 : 8 < n
    · have hD := own_cut hown1 HA.out.symm (n - 8) (by omega)
      have hlen : pl.length = n - (n - 8) := by rw [HP.out]; omega
      have HL := hidden hlen
      clear hlen
      have k1 : (0 : Int) ≤ (n : Int) - 8 := by omega
      have k2 : (n : Int) - 8 ≤ (n : Int) := by omega
      have k3 : (0 : Int) < (n : Int) - 8 := by omega
      have k4 : ¬ c = n - 8 := by omega
      have k5 : (n : Int) ≤ (c : Int) := by omega
      go_wp2
      go_ret2
      refine ⟨some ⟨g, (n - 8) * 3, none⟩, c - (n - 8), ?_, ?_, hB1⟩
      · rw [HL.out]; simp; omega
      · rw [HL.out, HD.out]; exact hD
    · have hD := own_cut hown1 HA.out.symm 0 (by omega)
      have hp8 : pl = al := by rw [HD.out, show n - 8 = 0 by omega]; rfl
      subst hp8
      have HL := HA.out
      have k3 : ¬ (0 : Int) < (n : Int) - 8 := by omega
      have k5 : (n : Int) ≤ (c : Int) := by omega
      go_wp2
      go_ret2
      refine ⟨some ⟨g, 0, none⟩, c, ?_, ?_, hB1⟩
      · rw [HL, show n - 8 = 0 by omega]; rfl
      · rw [HL]; simpa using hD
end Go.Proofs.Ytjmeeklaclidbaa
