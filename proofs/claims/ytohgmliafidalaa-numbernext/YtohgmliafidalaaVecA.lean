/- The calls digits, bitAt and votesAt of package vec return what plain functions give, and make at most new memory; conditions: rows lie where they say, lengths fit int, and at most a hundred thousand digits are asked for. -/
import Derived.Test.YtohgmliafidalaaVecM
import Derived.Test.YtohgmliafidalaaVecD
import Derived.Test.YtohgmliafidalaaKinA
import Derived.Test.YtohgmliafidalaaHoldS
import Derived.Shelf.Abstract
namespace Go.Proofs.Ytohgmliafidalaa
open Go.ChangeShapes Go.WideShapes Go.ChangeAt Go.RowKit Go.Shelf
set_option linter.unusedVariables false
attribute [local go_sem] cell_rg

theorem bvals_fill (n : Nat) (h : Nat → UInt8) : bvals (List.replicate n 0) = bvals (fillL 0 n h 0) := by rw [fillL_0]
set_option maxHeartbeats 2000000 in
theorem digits_any (n : Nat) (hn : n ≤ 100000) (F : Nat) (lb : Array Value) (eF : Enters Try.prog F) (g : Nat → Nat) (hg : ∀ k, k < n → g k ≤ 9) (w : World)
    (hG : ∀ k : Nat, k < n → ∀ V, Below w.heap.size w V → Calls Try.prog F (#[.int .i64 (k : Int)] ++ lb) V fun e V' => e = .returned (.int .i64 (g k : Int)) ∧ Below V.heap.size V V') :
    Calls Try.prog 85 #[.int .i64 (n : Int), .func (.func F) #[] lb] w fun e w' => e = .returned (.string (dgB n g)) ∧ Below w.heap.size w w' := by
  have hmk := fun V => make_bytes n hn V
  have HG := hidden hG
  have HGB := hidden hg
  have HK0 : Hid ((w.alloc (.cells (bvals (List.replicate n 0)) 5)).heap[w.heap.size]? = some (.cells (bvals (fillL 0 n (fun j => UInt8.ofNat (48 + g j)) 0)) 5 (0, 0))) := by
    show _ = _
    rw [fillL_0]
    exact blk_nw w _ _
  have HB0 : Hid (Below w.heap.size w (w.alloc (.cells (bvals (List.replicate n 0)) 5))) := ballc w _
  have HL : Hid ((fillL (0 : UInt8) n (fun j => UInt8.ofNat (48 + g j)) n) = dgL n g) := fillL_all _ _ _
  have HLn : Hid (∀ k, (fillL (0 : UInt8) n (fun j => UInt8.ofNat (48 + g j)) k).length = n) := fun k => fillL_len _ _ _ _
  clear hG hg
  unfold Enters at eF
  go_enter Try.func85, Try.ntmps85
  go_wp2
  clear hmk
  generalize (w.alloc (.cells (bvals (List.replicate n 0)) 5)) = W0 at *
  go_loopw [10] (fun i wr => ∃ k : Nat, k ≤ n ∧ i = .int .i64 k ∧ wr.heap[w.heap.size]? = some (.cells (bvals (fillL 0 n (fun j => UInt8.ofNat (48 + g j)) k)) 5 (0, 0)) ∧ Below w.heap.size w wr) (fun i _ => n - (intV i).toNat)
  case atStart => exact ⟨0, Nat.zero_le _, rfl, HK0.out, HB0.out⟩
  case round =>
    obtain ⟨k, hk, rfl, hX, hB⟩ := hrel
    clear HK0 HB0
    by_cases hlt : k < n
    · have i1 : (0 : Int) ≤ (k : Int) := by omega
      have i2 : (k : Int) < (n : Int) := by omega
      have hcall := HG.out k hlt wr hB
      have hgb := HGB.out k hlt
      have HS : Hid ((fillL (0 : UInt8) n (fun j => UInt8.ofNat (48 + g j)) k).set k (UInt8.ofNat (48 + g k)) = fillL 0 n (fun j => UInt8.ofNat (48 + g j)) (k + 1)) := fillL_set (0 : UInt8) n (fun j => UInt8.ofNat (48 + g j)) k hlt
      have HB := hidden hB
      have HX := hidden hX
      clear hX hB
      generalize hz : g k = z at *
      have HZ := hidden hz
      clear hz
      go_wp2_with (go_at_fn F; refine hcall.mono ?_; rintro e w2 ⟨rfl, hb⟩; refine Hid.out ?_)
      have hX2 := blk_later HX.out hb
      have HB2 := hidden (bthen HB.out hb)
      have HX2 := hidden hX2
      have c0 := blk_cell hX2 k
      rw [bvals_at _ k (by rw [HLn.out]; exact hlt)] at c0
      have f0 := blk_frozen hX2 k
      have l0 := blk_lt hX2
      clear hb hX2 hcall HX
      refine hidden ?_
      go_wp2
      have hset := heap_setCell_same w2 w.heap.size k _ _ (.int .u8 ((48 + z : Nat) : Int)) HX2.out
      rw [bvals_set _ k (48 + z) (by omega), HS.out] at hset
      rw [show ((48 + z : Nat) : Int) = 48 + (z : Int) by omega] at hset
      go_roundw
      case rel => exact ⟨k + 1, by omega, by go_num, hset, HB2.out.setCell (p := ⟨w.heap.size, k, none⟩) (Nat.le_refl _) _⟩
      case measure => simp [intV]; omega
    · obtain rfl : k = n := by omega
      have i2 : ¬ (k : Int) < (k : Int) := by omega
      rw [HL.out] at hX
      have hcv := conv_blk hX
      rw [dgL_len] at hcv
      have HB := hidden hB
      clear hX hB
      have HD : Hid (dgB k g = ba (dgL k g)) := rfl
      generalize ba (dgL k g) = out at *
      go_wp2
      go_ret
      exact ⟨by rw [HD.out]; rfl, HB.out⟩

theorem bitAt_any (s : ByteArray) (k : Nat) (w : World) (hs : s.size ≤ 9223372036854775807) :
    Calls Try.prog 87 #[.string s, .int .i64 (k : Int)] w fun e w' => e = .returned (agB (bitK s k)) ∧ Below w.heap.size w w' := by
  have C1 := hidden (fun V => vdigitAt_any s k 5 V hs (by decide))
  have C2 := hidden (fun V => Read_any (vdg 5 s k) V)
  have HE : Hid (bitK s k = readK (vdg 5 s k)) := rfl
  generalize readK (vdg 5 s k) = b at *
  generalize vdg 5 s k = c at *
  obtain ⟨bv, bs⟩ := b
  unfold agB at C2 ⊢
  rw [HE.out]
  clear hs
  go_enter Try.func87, Try.ntmps87
  go_wp2_with fail
  refine (C1.out _).mono ?_
  rintro e w2 ⟨rfl, rfl⟩
  go_wp2_with fail
  refine (C2.out _).mono ?_
  rintro e w3 ⟨rfl, hb⟩
  have hk := blk_later (blk_nw w #[.int .i64 0, .bool false] 108) hb
  have c0 := fun i => blk_cell hk i
  have f0 := fun i => blk_frozen hk i
  have l0 := blk_lt hk
  have HB := hidden (bthen (ballc w _) hb)
  have HK := hidden hk
  clear hb hk
  go_wp2
  obtain ⟨r0, r1⟩ := read2T HK.out (.int .i64 bv) (.bool bs)
  exact bodyPost_ret (v := .agg #[.int .i64 bv, .bool bs]) (by simp [results, Try.results87, go_sem, r0, r1]) rfl ⟨rfl, below2T HB.out (Nat.le_refl _) _ _⟩

/-- What each text tells of one place. -/
def votesP (votes : List ByteArray) (k : Nat) : List Int := votes.map fun t => vdg 2 t k
theorem votesP_len (votes : List ByteArray) (k : Nat) : (votesP votes k).length = votes.length := by simp [votesP]
theorem votesP_fill (votes : List ByteArray) (k : Nat) : (List.range votes.length).map (fun i => vdg 2 (votes.getD i noB) k) = votesP votes k := by
  unfold votesP
  apply List.ext_getElem
  · simp
  · intro i h1 h2
    simp at h1 h2
    simp [h1]
set_option maxHeartbeats 2000000 in
theorem votesAt_any (a2 : Option Addr) (c2 : Nat) (votes : List ByteArray) (k : Nat) (w : World) (hn : votes.length ≤ 100000) (hV : kStr.Lies w.heap.size w (.slice a2 votes.length c2) votes) (hz : ∀ t ∈ votes, t.size ≤ 9223372036854775807) :
    Calls Try.prog 133 #[.slice a2 votes.length c2, .int .i64 (k : Int)] w fun e w' => ∃ g, e = .returned (.slice (some ⟨g, 0, none⟩) votes.length votes.length) ∧ IBlk w' g (votesP votes k) ∧ Below w.heap.size w w' := by
  obtain ⟨N, hN⟩ : ∃ N, N = votes.length := ⟨_, rfl⟩
  have hN5 : N ≤ 100000 := by omega
  have hmk := fun V => make_ints N rfl (by omega) V
  have HV := hidden hV
  have HZ := hidden hz
  have HK0 : Hid (IBlk (w.alloc (.cells (kInt.flat (List.replicate N 0)).toArray 3)) w.heap.size (fillL 0 N (fun i => vdg 2 (votes.getD i noB) k) 0)) := by
    show IBlk _ _ _
    rw [fillL_0]
    exact blk_nw w _ _
  have HB0 : Hid (Below w.heap.size w (w.alloc (.cells (kInt.flat (List.replicate N 0)).toArray 3))) := ballc w _
  have HF : Hid (fillL 0 N (fun i => vdg 2 (votes.getD i noB) k) N = votesP votes k) := by show _ = _; rw [fillL_all, hN]; exact votesP_fill votes k
  have HN := hidden hN
  rw [← hN] at HV ⊢
  clear hV hz hN
  go_enter Try.func133, Try.ntmps133
  go_wp2
  clear hmk
  generalize w.alloc (.cells (kInt.flat (List.replicate N 0)).toArray 3) = W0 at *
  go_loopw [13] (fun i wr => ∃ j : Nat, j ≤ N ∧ i = .int .i64 j ∧ IBlk wr w.heap.size (fillL 0 N (fun i => vdg 2 (votes.getD i noB) k) j) ∧ Below w.heap.size w wr) (fun i _ => N - (intV i).toNat)
  case atStart => exact ⟨0, Nat.zero_le _, rfl, HK0.out, HB0.out⟩
  case round =>
    obtain ⟨j, hj, rfl, hX, hB⟩ := hrel
    clear HK0 HB0
    have HB := hidden hB
    have HX := hidden hX
    by_cases hlt : j < N
    · have i1 : (0 : Int) ≤ (j : Int) := by omega
      have i2 : (j : Int) < (N : Int) := by omega
      have hjv : j < votes.length := by rw [← HN.out]; exact hlt
      obtain ⟨b, off, rfl, hbl, e0⟩ := kStr_at (HV.out.below hB) j hjv
      have hm : votes.getD j noB ∈ votes := by rw [List.getD_eq_getElem?_getD, List.getElem?_eq_getElem hjv, Option.getD_some]; exact List.getElem_mem hjv
      have C1 := hidden (fun V => vdigitAt_any (votes.getD j noB) k 2 V (HZ.out _ hm) (by decide))
      have HS : Hid ((fillL 0 N (fun i => vdg 2 (votes.getD i noB) k) j).set j (vdg 2 (votes.getD j noB) k) = fillL 0 N (fun i => vdg 2 (votes.getD i noB) k) (j + 1)) := fillL_set 0 N (fun i => vdg 2 (votes.getD i noB) k) j hlt
      have c0 := hX.cell j (by rw [fillL_len]; exact hlt)
      have f0 := hX.open j
      have l0 := hX.lt
      have lb := Nat.lt_of_lt_of_le hbl hB.size
      clear hX hB hm hjv
      generalize hz : vdg 2 (votes.getD j noB) k = z at *
      clear hz
      generalize votes.getD j noB = t at *
      generalize (fillL 0 N (fun i => vdg 2 (votes.getD i noB) k) j).getD j 0 = y at *
      go_wp2_with fail
      refine (C1.out _).mono ?_
      rintro e w2 ⟨rfl, rfl⟩
      go_wp2
      have hset := HX.out.set j z
      rw [HS.out] at hset
      go_roundw
      case rel => exact ⟨j + 1, by omega, by go_num, hset, HB.out.setCell (p := ⟨w.heap.size, j, none⟩) (Nat.le_refl _) _⟩
      case measure => simp [intV]; omega
    · obtain rfl : j = N := by omega
      have i2 : ¬ (j : Int) < (j : Int) := by omega
      clear hX hB
      go_wp2
      go_ret
      exact ⟨_, rfl, by rw [← HF.out]; exact HX.out, HB.out⟩
end Go.Proofs.Ytohgmliafidalaa
