/- The calls Clone and Many of package rate, and Many and Bools of the document's answer, return what plain functions give; for rows that lie in memory. -/
import Derived.Test.YtjmeeklaclidbaaRateM
import Derived.Deep.SlicePairs
import Derived.Lib.SliceRun
namespace Go.Proofs.Ytjmeeklaclidbaa
open Go.ChangeShapes Go.WideShapes Go.ChangeAt Go.RowKit Go.Shelf
set_option linter.unusedVariables false

set_option maxHeartbeats 1000000 in
theorem Clone_own (ad : Option Addr) (len cap : Nat) (es : List Note) (hlen : es.length ≤ 1000000) (w : World) (hE : Ents w.heap.size w (.slice ad len cap) es) :
    Calls Try.prog 34 #[.slice ad len cap] w fun r w' => ∃ v, r = .returned v ∧ w'.ownsRow w.heap.size 54 2 v es.length (cells2 es) ∧ Below w.heap.size w w' := by
  obtain ⟨_, _, hv, h1, h2, h3, hc⟩ := id hE
  obtain ⟨rfl, rfl, rfl⟩ : ad = _ ∧ len = _ ∧ cap = _ := by simpa using hv
  clear hv
  obtain ⟨i0, hi, hz0, hz1, hz2⟩ := info_parts infoEnt
  have hnil := fun a n c => Go.Lib.run_eql_slice_nil (P := Try.prog) w 22 54 a n c 0 0 Try.underlying22
  cases ad with
  | none =>
    have hn : es = [] := by have := h3 rfl; exact List.length_eq_zero_iff.1 (by omega)
    subst hn
    go_enter Try.func34, Try.ntmps34
    go_wp2
    go_ret
    exact ⟨_, rfl, World.ownsRow_nil _ _ _ _, Below.refl _ _⟩
  | some a =>
    have hB0 : Below w.heap.size w (w.alloc (.cells #[] 54)) := ballc _ _
    have hown0 : (w.alloc (.cells #[] 54)).ownsRow w.heap.size 54 2 (.slice (some ⟨w.heap.size, 0, none⟩) 0 0) 0 [] := World.ownsRow_lit w #[] 0 (Nat.le_refl _) (Nat.zero_le _) rfl
    have hE0 := hE.later hB0
    go_enter Try.func34, Try.ntmps34
    go_wp2_with (at_builtin; refine wpList_append_ents _ rfl _ _ 22 rfl w.heap.size 54 i0 (.agg #[.int .i64 0, .int .i64 0]) 16 Try.underlying22 hi hz0 hz1 hz2 rfl (.slice (some ⟨w.heap.size, 0, none⟩) 0 0) 0 [] rfl hown0 (.slice (some a) es.length cap) es rfl hE0 (by simp only [maxLen]; omega) (by omega) (by simp) ?_; intro v1 w1 hown1 hgrow1 _)
    go_ret
    exact ⟨v1, rfl, by simpa using hown1, hB0.grown hgrow1 hB0.size (fun k h => by simp [Value.ownBlock] at h; omega)⟩

/-- What Many answers: the notes, and who was taken. -/
def manyL (now width limit : Int) (es : List Note) (zs : List Int) : List Note × List Bool :=
  zs.foldl (fun st x => ((takeL now width limit st.1 x).1, st.2 ++ [(takeL now width limit st.1 x).2 != 17])) (es, [])
theorem manyL_snoc (now width limit : Int) (es : List Note) (zs : List Int) (x : Int) :
    manyL now width limit es (zs ++ [x]) = ((takeL now width limit (manyL now width limit es zs).1 x).1, (manyL now width limit es zs).2 ++ [(takeL now width limit (manyL now width limit es zs).1 x).2 != 17]) := by simp [manyL]
theorem snoc_rec {α : Type} {motive : List α → Prop} (l : List α) (h0 : motive []) (h1 : ∀ l x, motive l → motive (l ++ [x])) : motive l := by
  have : ∀ m : List α, motive m.reverse := fun m => by
    induction m with
    | nil => exact h0
    | cons a m ih => rw [List.reverse_cons]; exact h1 _ _ ih
  simpa using this l.reverse
theorem manyL_len1 (now width limit : Int) (es : List Note) (zs : List Int) : (manyL now width limit es zs).1.length ≤ max es.length 64 := by
  induction zs using snoc_rec with
  | h0 => simp [manyL]; omega
  | h1 l x ih =>
    rw [manyL_snoc]
    have := takeL_len now width limit (manyL now width limit es l).1 x
    simp only
    omega
theorem manyL_len2 (now width limit : Int) (es : List Note) (zs : List Int) : (manyL now width limit es zs).2.length = zs.length := by
  induction zs using snoc_rec with
  | h0 => simp [manyL]
  | h1 l x ih => rw [manyL_snoc]; simp [ih]
theorem take_snoc (zs : List Int) {k : Nat} (hk : k < zs.length) : zs.take (k + 1) = zs.take k ++ [zs.getD k 0] := by
  rw [List.take_add_one]; simp [hk]

/-- Rows of bool. -/
def kBool : Kind Bool := ⟨1, fun b => [.bool b], fun _ => rfl, by intro a u hu; simp at hu; subst hu; rfl, by decide⟩
theorem kBool_flat (bs : List Bool) : kBool.flat bs = bs.map Value.bool := by
  induction bs with
  | nil => rfl
  | cons a l ih => simp only [Kind.flat, List.flatMap_cons, List.map_cons] at ih ⊢; rw [ih]; rfl
theorem infoBool : (Try.prog.info? 4).map (fun i => (i.zero, i.size, i.bytes)) = some (some (.bool false), 1, 1) := by kernel_rfl

set_option maxHeartbeats 2000000 in
theorem rMany_any (ad : Option Addr) (len cap : Nat) (ad2 : Option Addr) (len2 cap2 : Nat) (now width limit : Int) (es : List Note) (zs : List Int) (hz : ∀ z ∈ zs, (Lit.int .i64 z).wf = true) (hlen : es.length ≤ 1000) (hlz : zs.length ≤ 1000) (w : World) (hE : Ents w.heap.size w (.slice ad len cap) es) (hZ : Nums w.heap.size w (.slice ad2 len2 cap2) zs) :
    Calls Try.prog 16 #[.slice ad len cap, .int .i64 now, .int .i64 width, .int .i64 limit, .slice ad2 len2 cap2] w fun r w' => ∃ a c a' c', r = .returned (.tuple #[.slice a (manyL now width limit es zs).1.length c, .slice a' (manyL now width limit es zs).2.length c']) ∧
      Ents w'.heap.size w' (.slice a (manyL now width limit es zs).1.length c) (manyL now width limit es zs).1 ∧ kBool.Lies w'.heap.size w' (.slice a' (manyL now width limit es zs).2.length c') (manyL now width limit es zs).2 ∧ Below w.heap.size w w' := by
  obtain ⟨_, _, hv, _, _, hc⟩ := id hZ
  obtain ⟨rfl, rfl, rfl⟩ : ad2 = _ ∧ len2 = _ ∧ cap2 = _ := by simpa using hv
  clear hv
  obtain ⟨i0, hi, hz0, hz1, hz2⟩ := info_parts infoBool
  go_enter Try.func16, Try.ntmps16
  go_wp2
  go_loopw [0, 12, 13] (fun l v i wr => ∃ (k : Nat) (a : Option Addr) (c : Nat), k ≤ zs.length ∧ l = .slice a (manyL now width limit es (zs.take k)).1.length c ∧ Ents wr.heap.size wr l (manyL now width limit es (zs.take k)).1 ∧ wr.ownsRow w.heap.size 4 1 v k (kBool.flat (manyL now width limit es (zs.take k)).2) ∧ i = .int .i64 (k : Int) ∧ Below w.heap.size w wr) (fun _ _ i _ => zs.length - (intV i).toNat)
  case atStart => 
    obtain ⟨_, _, hv, _⟩ := id hE
    obtain ⟨rfl, rfl, rfl⟩ : ad = _ ∧ len = _ ∧ cap = _ := by simpa using hv
    exact ⟨0, ad, cap, Nat.zero_le _, rfl, hE, World.ownsRow_nil _ _ _ _, rfl, Below.refl _ _⟩
  case round =>
    obtain ⟨k, a, c, hk, rfl, hL, hown, rfl, hB⟩ := hrel
    by_cases hlt : k < zs.length
    · obtain ⟨b, off, rfl, hbl, e0⟩ := hc k hlt
      have f0 := (hB.cell (p := ⟨b, off + k, none⟩) hbl).trans e0
      have htake := take_snoc zs hlt
      have hwz : (Lit.int .i64 (zs.getD k 0)).wf = true := hz _ (by simp [hlt])
      have hml := manyL_len1 now width limit es (zs.take k)
      have hsn := manyL_snoc now width limit es (zs.take k) (zs.getD k 0)
      rw [← htake] at hsn
      clear hc htake e0
      generalize zs.getD k 0 = z at f0 hwz hsn
      generalize manyL now width limit es (zs.take k) = m0 at hL hown hml hsn
      have i1 : (0 : Int) ≤ (k : Int) := by omega
      have i2 : (k : Int) < (zs.length : Int) := by omega
      have CT := fun W h => rTake_any a m0.1.length c z now width limit m0.1 hwz (by omega) W h
      generalize takeL now width limit m0.1 z = tk at CT hsn
      obtain ⟨tl, te⟩ := tk
      dsimp only at CT hsn
      have HS := hidden hsn
      clear hsn
      go_wp2_with fail
      refine (CT _ hL).mono ?_
      rintro r w1 ⟨a1, c1, rfl, hL1, hb1, hn1⟩
      have hB1 := bthen hB hb1
      have hown1 := own_below hown hb1
      have hown0 := hown
      clear hown hL CT f0
      go_wp2_with (at_builtin; refine kBool.wpList_append _ rfl _ _ 33 rfl w.heap.size 4 i0 (.bool false) 1 Try.underlying33 hi hz0 hz1 hz2 rfl u12 _ _ rfl (hown1.alloc _) (.slice (some ⟨w1.heap.size, 0, none⟩) 1 1) [te != 17] rfl (Kind.Lies.of_block (K := kBool) (es := [te != 17]) (World.alloc_heap_new w1 _) (by simp only [maxLen, List.length_singleton]; omega)) (by simp only [maxLen, List.length_singleton]; omega) (by simp only [List.length_singleton]; omega) (by have := hB1.size; simp; omega) ?_; intro v2 w2 hown2 hgrow2 _)
      have hB2a : Below w1.heap.size w1 (w1.alloc (.cells #[.bool (te != 17)] 4)) := ballc _ _
      have hB2 : Below w.heap.size w w2 := (hB1.alloc hB1.size _).grown hgrow2 (by have := hB1.size; simp; omega) (own_from hown1)
      go_roundw
      case rel =>
        refine ⟨k + 1, a1, c1, by omega, by rw [HS.out], ?_, by rw [HS.out, Kind.flat_append]; exact hown2, by simp, hB2⟩
        rw [HS.out]
        exact (((hL1.later (ballc w1 _)).kept (Nat.le_refl _) hgrow2 hn1 (fun g h => (hown0.lt g h).2)).mono hgrow2.size)
      case measure => simp [intV]; omega
    · obtain rfl : k = zs.length := by omega
      rw [List.take_length] at hL hown
      have hl2 := manyL_len2 now width limit es zs
      rw [← hl2] at hown
      have hlb := Kind.Lies.of_own (K := kBool) hown
      obtain ⟨ab, cb, rfl⟩ := own_slice hown
      rw [List.take_length]
      go_wp2
      go_ret2
      exact ⟨a, c, ab, cb, rfl, hL, hlb, hB⟩

theorem bools_set (bs : List Bool) (n : Nat) (b : Bool) (h : bs.length < n) : (bs.map Value.bool ++ List.replicate (n - bs.length) (Value.bool false)).set bs.length (Value.bool b) = (bs ++ [b]).map Value.bool ++ List.replicate (n - (bs ++ [b]).length) (Value.bool false) := by
  have e : n - bs.length = (n - (bs.length + 1)) + 1 := by omega
  rw [e, List.replicate_succ]
  simp

set_option maxHeartbeats 2000000 in
theorem Many_any (ad : Option Addr) (len cap : Nat) (ad2 : Option Addr) (len2 cap2 : Nat) (now width limit : Int) (es : List Note) (zs : List Int) (hz : ∀ z ∈ zs, (Lit.int .i64 z).wf = true) (hlen : es.length ≤ 1000) (hlz : zs.length ≤ 1000) (w : World) (hE : Ents w.heap.size w (.slice ad len cap) es) (hZ : Nums w.heap.size w (.slice ad2 len2 cap2) zs) :
    Calls Try.prog 15 #[.slice ad len cap, .int .i64 now, .int .i64 width, .int .i64 limit, .slice ad2 len2 cap2] w fun r w' => ∃ a c a' c', r = .returned (.tuple #[.slice a (manyL now width limit es zs).1.length c, .slice a' (manyL now width limit es zs).2.length c']) ∧
      Ents w'.heap.size w' (.slice a (manyL now width limit es zs).1.length c) (manyL now width limit es zs).1 ∧ kBool.Lies w'.heap.size w' (.slice a' (manyL now width limit es zs).2.length c') (manyL now width limit es zs).2 ∧ Below w.heap.size w w' := by
  obtain ⟨_, _, hv, _, _, hc⟩ := id hZ
  obtain ⟨rfl, rfl, rfl⟩ : ad2 = _ ∧ len2 = _ ∧ cap2 = _ := by simpa using hv
  clear hv
  obtain ⟨i0, hi, hz0, hz1, hz2⟩ := info_parts infoBool
  go_enter Try.func15, Try.ntmps15
  go_wp2_with fail
  refine (Clone_own ad len cap es (by omega) w hE).mono ?_
  rintro r w1 ⟨v1, rfl, hown1, hb1⟩
  go_wp2_with (at_make; refine wpList_make_full _ rfl _ _ 33 rfl w1.heap.size 4 i0 (.bool false) 1 Try.underlying33 hi hz0 hz1 .i64 .i64 _ _ zs.length rfl rfl rfl rfl (by rw [hz2]; omega) (by simp only [maxLen]; omega) (Nat.le_refl _) ?_; intro w2 hownB hgrow)
  have hownB' : w2.ownsRow w1.heap.size 4 1 (.slice (some ⟨w1.heap.size, 0, none⟩) zs.length zs.length) zs.length (([] : List Bool).map Value.bool ++ List.replicate (zs.length - 0) (Value.bool false)) := by
    have e : (madeCells (Value.bool false).cells (zs.length * 1)).toList = List.replicate zs.length (Value.bool false) := by rw [Nat.mul_one]; exact toList_madeCells_one _ _
    rw [e] at hownB
    simpa using hownB
  have hb2 : Below w1.heap.size w1 w2 := (Below.refl _ w1).grown hgrow (Nat.le_refl _) (fun k h => by cases h)
  have hB2 := bthen hb1 hb2
  have hL2 := (Ents.of_own hown1).later hb2
  obtain ⟨a1, c1, rfl⟩ := own_slice hown1
  have hG := hB2.size
  have hG1 := hb1.size
  clear hownB hgrow hown1
  generalize w1.heap.size = G at hownB' hG1 ⊢
  clear hb1 hb2
  go_loopw [12, 24] (fun l i wr => ∃ (k : Nat) (a : Option Addr) (c : Nat), k ≤ zs.length ∧ l = .slice a (manyL now width limit es (zs.take k)).1.length c ∧ Ents wr.heap.size wr l (manyL now width limit es (zs.take k)).1 ∧ wr.ownsRow G 4 1 (.slice (some ⟨G, 0, none⟩) zs.length zs.length) zs.length ((manyL now width limit es (zs.take k)).2.map Value.bool ++ List.replicate (zs.length - (manyL now width limit es (zs.take k)).2.length) (Value.bool false)) ∧ i = .int .i64 (k : Int) ∧ Below w.heap.size w wr) (fun _ i _ => zs.length - (intV i).toNat)
  case atStart => exact ⟨0, a1, c1, Nat.zero_le _, rfl, hL2, hownB', rfl, hB2⟩
  case round =>
    obtain ⟨k, a, c, hk, rfl, hL, hown, rfl, hB⟩ := hrel
    by_cases hlt : k < zs.length
    · obtain ⟨b, off, rfl, hbl, e0⟩ := hc k hlt
      have f0 := (hB.cell (p := ⟨b, off + k, none⟩) hbl).trans e0
      have htake := take_snoc zs hlt
      have hwz : (Lit.int .i64 (zs.getD k 0)).wf = true := hz _ (by simp [hlt])
      have hml := manyL_len1 now width limit es (zs.take k)
      have hm2 := manyL_len2 now width limit es (zs.take k)
      have hsn := manyL_snoc now width limit es (zs.take k) (zs.getD k 0)
      rw [← htake] at hsn
      rw [List.length_take, Nat.min_eq_left hk] at hm2
      clear hc htake e0 hownB' hL2 hB2
      generalize zs.getD k 0 = z at f0 hwz hsn
      generalize manyL now width limit es (zs.take k) = m0 at hL hown hml hsn hm2
      have i1 : (0 : Int) ≤ (k : Int) := by omega
      have i2 : (k : Int) < (zs.length : Int) := by omega
      have CT := fun W h => Take_own a m0.1.length c z now width limit m0.1 hwz (by omega) W h
      generalize takeL now width limit m0.1 z = tk at CT hsn
      obtain ⟨tl, te⟩ := tk
      dsimp only at CT hsn
      have HS := hidden hsn
      have HM := hidden hm2
      clear hsn hm2
      go_wp2_with fail
      refine (CT _ hL).mono ?_
      rintro r w3 ⟨v3, rfl, ho3, hb3⟩
      have hown3 := own_below hown hb3
      have hGl : G < wr.heap.size := (hown.lt G (by simp [Value.ownBlock])).2
      have g0 := hown3.cellAt k (by omega)
      have g1 := hown3.frozenAt k
      have hB3 := bthen hB hb3
      obtain ⟨hst, hgr⟩ := hown3.stored k (.bool (te != 17))
      have HST := hidden hst
      have HGR := hidden hgr
      rw [List.getElem?_eq_getElem (by rw [hown3.1]; omega)] at g0
      generalize (m0.2.map Value.bool ++ List.replicate (zs.length - m0.2.length) (Value.bool false))[k]'_ = old at g0
      clear hst hgr hown hown3 hL CT f0
      obtain ⟨a3, c3, rfl⟩ := own_slice ho3
      go_wp2
      go_roundw
      case rel =>
        refine ⟨k + 1, a3, c3, by omega, by rw [HS.out], ?_, ?_, by simp, ?_⟩
        · rw [HS.out]
          exact ((Ents.of_own ho3).kept (Nat.le_refl _) HGR.out (Anew.of_own ho3) (fun g h => by cases h; exact hGl)).mono HGR.out.size
        · have h := HST.out
          have hk2 := HM.out
          subst hk2
          rw [bools_set _ _ _ hlt] at h
          rw [HS.out]
          exact h
        · exact hB3.grown HGR.out hB3.size (fun q h => by cases h; exact hG1)
      case measure => simp [intV]; omega
    · obtain rfl : k = zs.length := by omega
      rw [List.take_length] at hL hown
      have hl2 := manyL_len2 now width limit es zs
      have hlb : kBool.Lies wr.heap.size wr (.slice (some ⟨G, 0, none⟩) zs.length zs.length) (manyL now width limit es zs).2 := Kind.Lies.of_own (K := kBool) (base := G) (e := 4) (by rw [kBool_flat, hl2]; rw [hl2, Nat.sub_self] at hown; simp only [List.replicate_zero, List.append_nil] at hown; exact hown)
      rw [List.take_length]
      go_wp2
      go_ret2
      exact ⟨a, c, some ⟨G, 0, none⟩, zs.length, by rw [hl2]; rfl, hL, by rw [hl2]; exact hlb, hB⟩

set_option maxHeartbeats 1000000 in
theorem Bools_any (ad ad' : Option Addr) (len len' cap cap' : Nat) (bs : List Bool) (w : World) (hl : bs.length ≤ 1000000) (hE : kBool.Lies w.heap.size w (.slice ad len cap) bs) (hF : kBool.Lies w.heap.size w (.slice ad' len' cap') bs) :
    Calls Try.prog 17 #[.slice ad len cap, .slice ad' len' cap'] w fun e w' => e = .returned (.bool true) ∧ Below w.heap.size w w' := by
  obtain rfl := hE.len
  obtain rfl := hF.len
  go_enter Try.func17, Try.ntmps17
  go_wp2
  go_loopw [5] (fun i wr => ∃ k : Nat, k ≤ bs.length ∧ i = .int .i64 k ∧ Below w.heap.size w wr) (fun i _ => bs.length - (intV i).toNat)
  case atStart => exact ⟨0, Nat.zero_le _, rfl, Below.refl _ _⟩
  case round =>
    obtain ⟨k, hk, rfl, hB⟩ := hrel
    by_cases hlt : k < bs.length
    · obtain ⟨b, off, rfl, hbl, e0⟩ := hE.at k hlt
      obtain ⟨b', off', rfl, hbl', e0'⟩ := hF.at k hlt
      have f0 : wr.cell? ⟨b, off + k, none⟩ = some (.bool bs[k]) := (hB.cell (p := ⟨b, off + k, none⟩) hbl).trans (by simpa [kBool] using e0 0 (by decide))
      have f0' : wr.cell? ⟨b', off' + k, none⟩ = some (.bool bs[k]) := (hB.cell (p := ⟨b', off' + k, none⟩) hbl').trans (by simpa [kBool] using e0' 0 (by decide))
      clear e0 e0' hE hF
      generalize bs[k] = z at f0 f0'
      have i1 : (0 : Int) ≤ (k : Int) := by omega
      have i2 : (k : Int) < (bs.length : Int) := by omega
      go_wp2
      go_quiet (fail)
      go_wp2
      go_roundw
      case rel => exact ⟨k + 1, by omega, by simp, ⟨hB.os, hB.tape, hB.output, hB.size, hB.block⟩⟩
      case measure => simp [intV]; omega
    · obtain rfl : k = bs.length := by omega
      go_wp2
      go_ret
      exact ⟨rfl, hB⟩
end Go.Proofs.Ytjmeeklaclidbaa
