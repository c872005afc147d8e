/- Several texts of one's own in one: what each proves, and its conditions, is said ahead of it. -/
import Derived.Test.YtkolhbacgoafcaaBa
import Derived.Deep.OwnRows
import Derived.Test.YtkolhbacgoafcaaBc
import Derived.Shelf.Abstract
import Derived.Test.YtkolhbacgoafcaaRep
import Derived.Deep.RegionHeld3
import Derived.Deep.DeepCutAuto

/- Rows of texts that lie in memory, and the small calls of package hold (fits, ofNode): what they return; they make at most new memory; conditions: as many nodes and ticks as a plain configuration may have. -/
namespace Go.Proofs.Ytkolhbacgoafcaa
open Go.ChangeShapes Go.WideShapes Go.ChangeAt Go.RowKit
set_option linter.unusedVariables false

/-- Rows of texts. -/
def kStr : Kind ByteArray := ⟨1, fun s => [.string s], fun _ => rfl, by intro a u hu; simp at hu; subst hu; rfl, by decide⟩
def svals (l : List ByteArray) : Array Value := (l.map Value.string).toArray
theorem kStr_flat (l : List ByteArray) : kStr.flat l = l.map Value.string := by
  induction l with
  | nil => rfl
  | cons a l ih => simp only [Kind.flat, List.flatMap_cons, List.map_cons] at ih ⊢; rw [ih]; rfl
theorem kStr_at {n₀ : Nat} {W : World} {ad : Option Addr} {len cap : Nat} {hs : List ByteArray} (h : kStr.Lies n₀ W (.slice ad len cap) hs) (j : Nat) (hj : j < hs.length) : ∃ b off : Nat, ad = some ⟨b, off, none⟩ ∧ b < n₀ ∧ W.cell? ⟨b, off + j, none⟩ = some (.string (hs.getD j noB)) := by
  obtain ⟨b, off, he, hb, hc⟩ := h.at j hj
  refine ⟨b, off, he, hb, ?_⟩
  have := hc 0 (by decide)
  rw [List.getD_eq_getElem?_getD, List.getElem?_eq_getElem hj, Option.getD_some]
  simpa [kStr] using this
theorem kStr_caps {n₀ : Nat} {W : World} {ad : Option Addr} {len cap : Nat} {hs : List ByteArray} (h : kStr.Lies n₀ W (.slice ad len cap) hs) : hs.length ≤ cap ∧ cap ≤ 9223372036854775807 := by
  obtain ⟨a', c', hv, h1, h2, _⟩ := h
  have e : cap = c' := by
    have := congrArg (fun v => match v with | .slice _ _ c => c | _ => 0) hv
    exact this
  unfold maxLen at h2
  omega
theorem svals_size (l : List ByteArray) : (svals l).size = l.length := by simp [svals]
theorem svals_at (l : List ByteArray) (i : Nat) (h : i < l.length) : (svals l)[i]? = some (.string (l.getD i noB)) := by
  rw [List.getD_eq_getElem?_getD, List.getElem?_eq_getElem h, Option.getD_some]
  simp [svals, h]
theorem svals_set (l : List ByteArray) (i : Nat) (s : ByteArray) : (svals l).setIfInBounds i (.string s) = svals (l.set i s) := by
  apply Array.ext'
  simp only [svals, Array.toList_setIfInBounds, List.map_set]
theorem svals_made (n : Nat) : madeCells #[Value.string noB] n = svals (List.replicate n noB) := by
  have h := toList_madeCells_one (Value.string noB) n
  apply Array.ext'
  rw [h]
  simp [svals]
theorem infoStr : (Try.prog.info? 9).map (fun i => (i.zero, i.size, i.bytes)) = some (some (.string noB), 1, 16) := by kernel_rfl
theorem make_strs (n : Nat) (hn : n ≤ 100000) (w : World) : (Instr.makeSlice 30 (.int .i64 (n : Int)) (.int .i64 (n : Int))).run Try.prog w = .ok (.slice (some ⟨w.heap.size, 0, none⟩) n n) (w.alloc (.cells (svals (List.replicate n noB)) 9)) := by
  rw [← svals_made]
  exact run_make_row' 30 9 (.string noB) 16 Try.underlying30 infoStr rfl .i64 .i64 n (by omega) (by omega) w
/-- A row of texts that is a block of its own. -/
def SBlk (W : World) (g : Nat) (l : List ByteArray) : Prop := W.heap[g]? = some (.cells (svals l) 9 (0, 0))
theorem SBlk.lies {W : World} {g : Nat} {l : List ByteArray} (h : SBlk W g l) (hl : l.length ≤ maxLen) : kStr.Lies W.heap.size W (.slice (some ⟨g, 0, none⟩) l.length l.length) l := by
  refine Kind.Lies.of_block (K := kStr) (t := 9) ?_ hl
  rw [kStr_flat]
  exact h
theorem SBlk.lt {W : World} {g : Nat} {l : List ByteArray} (h : SBlk W g l) : g < W.heap.size := (Array.getElem?_eq_some_iff.1 h).1
theorem SBlk.later {W W' : World} {g : Nat} {l : List ByteArray} (h : SBlk W g l) (hb : Below W.heap.size W W') : SBlk W' g l := (hb.block g h.lt).trans h
theorem SBlk.drew {W : World} {g : Nat} {l : List ByteArray} (h : SBlk W g l) : SBlk W.drew g l := h
theorem SBlk.cell {W : World} {g : Nat} {l : List ByteArray} (h : SBlk W g l) (i : Nat) (hi : i < l.length) : W.cell? ⟨g, i, none⟩ = some (.string (l.getD i noB)) := by
  rw [← svals_at l i hi]
  simp [World.cell?, show W.heap[g]? = _ from h]
theorem SBlk.open {W : World} {g : Nat} {l : List ByteArray} (h : SBlk W g l) (i : Nat) : W.frozen? ⟨g, i, none⟩ = false := by
  simp [World.frozen?, show W.heap[g]? = _ from h]
theorem SBlk.set {W : World} {g : Nat} {l : List ByteArray} (h : SBlk W g l) (i : Nat) (s : ByteArray) : SBlk (W.setCell ⟨g, i, none⟩ (.string s)) g (l.set i s) := by
  have := heap_setCell_same W g i _ _ (.string s) h
  rw [svals_set] at this
  exact this
theorem SBlk.other {W : World} {g : Nat} {l : List ByteArray} (h : SBlk W g l) (a : Addr) (v : Value) (ha : g ≠ a.block) : SBlk (W.setCell a v) g l := (heap_setCell_other W a g v ha).trans h
theorem mul_cast {N D : Nat} (hN : N ≤ 13) (hD : D ≤ 4) : N * D ≤ 52 := Nat.mul_le_mul hN hD
theorem wr64 {x : Int} {m : Nat} (e : x = (m : Int)) (h : m ≤ 1000000) : wrap64 x = (m : Int) := by subst e; unfold wrap64; omega
theorem wrI {x : Int} {m : Nat} (e : x = (m : Int)) (h : m ≤ 1000000) : IntKind.i64.wrap x = (m : Int) := by subst e; exact IntWalk.i64_in _ (by omega)
end Go.Proofs.Ytkolhbacgoafcaa

/- The calls digitAt, digits, bitAt and votesAt of package vec return what plain functions give, and make at most new memory; conditions: rows lie where they say, lengths fit int, and at most a hundred thousand digits are asked for. -/
namespace Go.Proofs.Ytkolhbacgoafcaa
open Go.ChangeShapes Go.WideShapes Go.ChangeAt Go.RowKit Go.Shelf
set_option linter.unusedVariables false
attribute [local go_sem] cell_rg

theorem vdigitAt_any (s : ByteArray) (k : Nat) (last : Int) (w : World) (hs : s.size ≤ 9223372036854775807) (hl : 0 ≤ last ∧ last ≤ 9) :
    Calls Try.prog 99 #[.string s, .int .i64 (k : Int), .int .i64 last] w fun e w' => e = .returned (.int .i64 (vdg last s k)) ∧ w = w' := by
  by_cases h2 : s.size ≤ k
  · have d3 : (s.size : Int) ≤ (k : Int) := by omega
    have e := hidden (vdg_out (last := last) h2)
    go_enter Try.func99, Try.ntmps99
    go_wp2
    go_ret
    exact ⟨ret_i e.out.symm, rfl⟩
  · have hj : k < s.size := by omega
    have d3 : ¬ (s.size : Int) ≤ (k : Int) := by omega
    have hb := (s[k]'hj).toNat_lt
    by_cases h3 : ((s[k]'hj).toNat : Int) < 48
    · have e := hidden (vdg_no (last := last) hj (.inl h3))
      have d4 : decide (((s[k]'hj).toNat : Int) - 48 < 0) = true := decide_eq_true (by omega)
      go_enter Try.func99, Try.ntmps99
      go_wp2
      go_ret
      exact ⟨ret_i e.out.symm, rfl⟩
    · have d4 : decide (((s[k]'hj).toNat : Int) - 48 < 0) = false := decide_eq_false (by omega)
      by_cases h4 : last + 48 < ((s[k]'hj).toNat : Int)
      · have e := hidden (vdg_no (last := last) hj (.inr h4))
        have d5 : decide (last < ((s[k]'hj).toNat : Int) - 48) = true := decide_eq_true (by omega)
        go_enter Try.func99, Try.ntmps99
        go_wp2
        go_ret
        exact ⟨ret_i e.out.symm, rfl⟩
      · have e := hidden (vdg_in (last := last) hj h3 h4)
        have d5 : decide (last < ((s[k]'hj).toNat : Int) - 48) = false := decide_eq_false (by omega)
        go_enter Try.func99, Try.ntmps99
        go_wp2
        go_ret
        exact ⟨ret_i e.out.symm, rfl⟩

theorem bvals_fill (n : Nat) (h : Nat → UInt8) : bvals (List.replicate n 0) = bvals (fillL 0 n h 0) := by rw [fillL_0]
set_option maxHeartbeats 2000000 in
theorem digits_any (n : Nat) (hn : n ≤ 100000) (F : Nat) (lb : Array Value) (eF : Enters Try.prog F) (g : Nat → Nat) (hg : ∀ k, k < n → g k ≤ 9) (w : World)
    (hG : ∀ k : Nat, k < n → ∀ V, Below w.heap.size w V → Calls Try.prog F (#[.int .i64 (k : Int)] ++ lb) V fun e V' => e = .returned (.int .i64 (g k : Int)) ∧ Below V.heap.size V V') :
    Calls Try.prog 72 #[.int .i64 (n : Int), .func (.func F) #[] lb] w fun e w' => e = .returned (.string (dgB n g)) ∧ Below w.heap.size w w' := by
  have hmk := fun V => make_bytes n hn V
  have HG := hidden hG
  have HGB := hidden hg
  have HK0 : Hid ((w.alloc (.cells (bvals (List.replicate n 0)) 5)).heap[w.heap.size]? = some (.cells (bvals (fillL 0 n (fun j => UInt8.ofNat (48 + g j)) 0)) 5 (0, 0))) := by
    show _ = _
    rw [fillL_0]
    exact blk_nw w _ _
  have HB0 : Hid (Below w.heap.size w (w.alloc (.cells (bvals (List.replicate n 0)) 5))) := ballc w _
  have HL : Hid ((fillL (0 : UInt8) n (fun j => UInt8.ofNat (48 + g j)) n) = dgL n g) := fillL_all _ _ _
  have HLn : Hid (∀ k, (fillL (0 : UInt8) n (fun j => UInt8.ofNat (48 + g j)) k).length = n) := fun k => fillL_len _ _ _ _
  clear hG hg
  unfold Enters at eF
  go_enter Try.func72, Try.ntmps72
  go_wp2
  clear hmk
  generalize (w.alloc (.cells (bvals (List.replicate n 0)) 5)) = W0 at *
  go_loopw [10] (fun i wr => ∃ k : Nat, k ≤ n ∧ i = .int .i64 k ∧ wr.heap[w.heap.size]? = some (.cells (bvals (fillL 0 n (fun j => UInt8.ofNat (48 + g j)) k)) 5 (0, 0)) ∧ Below w.heap.size w wr) (fun i _ => n - (intV i).toNat)
  case atStart => exact ⟨0, Nat.zero_le _, rfl, HK0.out, HB0.out⟩
  case round =>
    obtain ⟨k, hk, rfl, hX, hB⟩ := hrel
    clear HK0 HB0
    by_cases hlt : k < n
    · have i1 : (0 : Int) ≤ (k : Int) := by omega
      have i2 : (k : Int) < (n : Int) := by omega
      have hcall := HG.out k hlt wr hB
      have hgb := HGB.out k hlt
      have HS : Hid ((fillL (0 : UInt8) n (fun j => UInt8.ofNat (48 + g j)) k).set k (UInt8.ofNat (48 + g k)) = fillL 0 n (fun j => UInt8.ofNat (48 + g j)) (k + 1)) := fillL_set (0 : UInt8) n (fun j => UInt8.ofNat (48 + g j)) k hlt
      have HB := hidden hB
      have HX := hidden hX
      clear hX hB
      generalize hz : g k = z at *
      have HZ := hidden hz
      clear hz
      go_wp2_with (go_at_fn F; refine hcall.mono ?_; rintro e w2 ⟨rfl, hb⟩; refine Hid.out ?_)
      have hX2 := blk_later HX.out hb
      have HB2 := hidden (bthen HB.out hb)
      have HX2 := hidden hX2
      have c0 := blk_cell hX2 k
      rw [bvals_at _ k (by rw [HLn.out]; exact hlt)] at c0
      have f0 := blk_frozen hX2 k
      have l0 := blk_lt hX2
      clear hb hX2 hcall HX
      refine hidden ?_
      go_wp2
      have hset := heap_setCell_same w2 w.heap.size k _ _ (.int .u8 ((48 + z : Nat) : Int)) HX2.out
      rw [bvals_set _ k (48 + z) (by omega), HS.out] at hset
      rw [show ((48 + z : Nat) : Int) = 48 + (z : Int) by omega] at hset
      go_roundw
      case rel => exact ⟨k + 1, by omega, by go_num, hset, HB2.out.setCell (p := ⟨w.heap.size, k, none⟩) (Nat.le_refl _) _⟩
      case measure => simp [intV]; omega
    · obtain rfl : k = n := by omega
      have i2 : ¬ (k : Int) < (k : Int) := by omega
      rw [HL.out] at hX
      have hcv := conv_blk hX
      rw [dgL_len] at hcv
      have HB := hidden hB
      clear hX hB
      have HD : Hid (dgB k g = ba (dgL k g)) := rfl
      generalize ba (dgL k g) = out at *
      go_wp2
      go_ret
      exact ⟨by rw [HD.out]; rfl, HB.out⟩

theorem bitAt_any (s : ByteArray) (k : Nat) (w : World) (hs : s.size ≤ 9223372036854775807) :
    Calls Try.prog 74 #[.string s, .int .i64 (k : Int)] w fun e w' => e = .returned (agB (bitK s k)) ∧ Below w.heap.size w w' := by
  have C1 := hidden (fun V => vdigitAt_any s k 5 V hs (by decide))
  have C2 := hidden (fun V => Read_any (vdg 5 s k) V)
  have HE : Hid (bitK s k = readK (vdg 5 s k)) := rfl
  generalize readK (vdg 5 s k) = b at *
  generalize vdg 5 s k = c at *
  obtain ⟨bv, bs⟩ := b
  unfold agB at C2 ⊢
  rw [HE.out]
  clear hs
  go_enter Try.func74, Try.ntmps74
  go_wp2_with fail
  refine (C1.out _).mono ?_
  rintro e w2 ⟨rfl, rfl⟩
  go_wp2_with fail
  refine (C2.out _).mono ?_
  rintro e w3 ⟨rfl, hb⟩
  have hk := blk_later (blk_nw w #[.int .i64 0, .bool false] 40) hb
  have c0 := fun i => blk_cell hk i
  have f0 := fun i => blk_frozen hk i
  have l0 := blk_lt hk
  have HB := hidden (bthen (ballc w _) hb)
  have HK := hidden hk
  clear hb hk
  go_wp2
  obtain ⟨r0, r1⟩ := read2T HK.out (.int .i64 bv) (.bool bs)
  exact bodyPost_ret (v := .agg #[.int .i64 bv, .bool bs]) (by simp [results, Try.results74, go_sem, r0, r1]) rfl ⟨rfl, below2T HB.out (Nat.le_refl _) _ _⟩

/-- What each text tells of one place. -/
def votesP (votes : List ByteArray) (k : Nat) : List Int := votes.map fun t => vdg 2 t k
theorem votesP_len (votes : List ByteArray) (k : Nat) : (votesP votes k).length = votes.length := by simp [votesP]
theorem votesP_fill (votes : List ByteArray) (k : Nat) : (List.range votes.length).map (fun i => vdg 2 (votes.getD i noB) k) = votesP votes k := by
  unfold votesP
  apply List.ext_getElem
  · simp
  · intro i h1 h2
    simp at h1 h2
    simp [h1]
set_option maxHeartbeats 2000000 in
theorem votesAt_any (a2 : Option Addr) (c2 : Nat) (votes : List ByteArray) (k : Nat) (w : World) (hn : votes.length ≤ 100000) (hV : kStr.Lies w.heap.size w (.slice a2 votes.length c2) votes) (hz : ∀ t ∈ votes, t.size ≤ 9223372036854775807) :
    Calls Try.prog 109 #[.slice a2 votes.length c2, .int .i64 (k : Int)] w fun e w' => ∃ g, e = .returned (.slice (some ⟨g, 0, none⟩) votes.length votes.length) ∧ IBlk w' g (votesP votes k) ∧ Below w.heap.size w w' := by
  obtain ⟨N, hN⟩ : ∃ N, N = votes.length := ⟨_, rfl⟩
  have hN5 : N ≤ 100000 := by omega
  have hmk := fun V => make_ints N rfl (by omega) V
  have HV := hidden hV
  have HZ := hidden hz
  have HK0 : Hid (IBlk (w.alloc (.cells (kInt.flat (List.replicate N 0)).toArray 3)) w.heap.size (fillL 0 N (fun i => vdg 2 (votes.getD i noB) k) 0)) := by
    show IBlk _ _ _
    rw [fillL_0]
    exact blk_nw w _ _
  have HB0 : Hid (Below w.heap.size w (w.alloc (.cells (kInt.flat (List.replicate N 0)).toArray 3))) := ballc w _
  have HF : Hid (fillL 0 N (fun i => vdg 2 (votes.getD i noB) k) N = votesP votes k) := by show _ = _; rw [fillL_all, hN]; exact votesP_fill votes k
  have HN := hidden hN
  rw [← hN] at HV ⊢
  clear hV hz hN
  go_enter Try.func109, Try.ntmps109
  go_wp2
  clear hmk
  generalize w.alloc (.cells (kInt.flat (List.replicate N 0)).toArray 3) = W0 at *
  go_loopw [13] (fun i wr => ∃ j : Nat, j ≤ N ∧ i = .int .i64 j ∧ IBlk wr w.heap.size (fillL 0 N (fun i => vdg 2 (votes.getD i noB) k) j) ∧ Below w.heap.size w wr) (fun i _ => N - (intV i).toNat)
  case atStart => exact ⟨0, Nat.zero_le _, rfl, HK0.out, HB0.out⟩
  case round =>
    obtain ⟨j, hj, rfl, hX, hB⟩ := hrel
    clear HK0 HB0
    have HB := hidden hB
    have HX := hidden hX
    by_cases hlt : j < N
    · have i1 : (0 : Int) ≤ (j : Int) := by omega
      have i2 : (j : Int) < (N : Int) := by omega
      have hjv : j < votes.length := by rw [← HN.out]; exact hlt
      obtain ⟨b, off, rfl, hbl, e0⟩ := kStr_at (HV.out.below hB) j hjv
      have hm : votes.getD j noB ∈ votes := by rw [List.getD_eq_getElem?_getD, List.getElem?_eq_getElem hjv, Option.getD_some]; exact List.getElem_mem hjv
      have C1 := hidden (fun V => vdigitAt_any (votes.getD j noB) k 2 V (HZ.out _ hm) (by decide))
      have HS : Hid ((fillL 0 N (fun i => vdg 2 (votes.getD i noB) k) j).set j (vdg 2 (votes.getD j noB) k) = fillL 0 N (fun i => vdg 2 (votes.getD i noB) k) (j + 1)) := fillL_set 0 N (fun i => vdg 2 (votes.getD i noB) k) j hlt
      have c0 := hX.cell j (by rw [fillL_len]; exact hlt)
      have f0 := hX.open j
      have l0 := hX.lt
      have lb := Nat.lt_of_lt_of_le hbl hB.size
      clear hX hB hm hjv
      generalize hz : vdg 2 (votes.getD j noB) k = z at *
      clear hz
      generalize votes.getD j noB = t at *
      generalize (fillL 0 N (fun i => vdg 2 (votes.getD i noB) k) j).getD j 0 = y at *
      go_wp2_with fail
      refine (C1.out _).mono ?_
      rintro e w2 ⟨rfl, rfl⟩
      go_wp2
      have hset := HX.out.set j z
      rw [HS.out] at hset
      go_roundw
      case rel => exact ⟨j + 1, by omega, by go_num, hset, HB.out.setCell (p := ⟨w.heap.size, j, none⟩) (Nat.le_refl _) _⟩
      case measure => simp [intV]; omega
    · obtain rfl : j = N := by omega
      have i2 : ¬ (j : Int) < (j : Int) := by omega
      clear hX hB
      go_wp2
      go_ret
      exact ⟨_, rfl, by rw [← HF.out]; exact HX.out, HB.out⟩
end Go.Proofs.Ytkolhbacgoafcaa

/- The calls Of, Values, Bits and Number of package vec, and what Of, Values and Bits hand on, return what plain functions give, and make at most new memory; conditions: lengths of texts are at most a hundred thousand. -/
namespace Go.Proofs.Ytkolhbacgoafcaa
open Go.ChangeShapes Go.WideShapes Go.ChangeAt Go.RowKit Go.Shelf
set_option linter.unusedVariables false
attribute [local go_sem] cell_rg

theorem Values1_any (s : ByteArray) (hs : s.size ≤ 9223372036854775807) (k g : Nat) (w : World) (hk : w.heap[g]? = some (.cells #[.string s] 9 (0, 0))) :
    Calls Try.prog 73 #[.int .i64 (k : Int), .pointer (some ⟨g, 0, none⟩)] w fun e w' => e = .returned (.int .i64 (valG s k : Int)) ∧ Below w.heap.size w w' := by
  have C1 := hidden (fun V => bitAt_any s k V hs)
  rw [valG_int]
  generalize bitK s k = b at *
  obtain ⟨bv, bs⟩ := b
  unfold agB at C1
  dsimp only at C1 ⊢
  have hfd : ∀ V : World, (Instr.field 40 (.agg #[.int .i64 bv, .bool bs]) 0).run Try.prog V = .ok (.int .i64 bv) V := fun _ => by kernel_rfl
  have c0 : w.cell? ⟨g, 0, none⟩ = some (.string s) := blk_cell hk 0
  have l0 := blk_lt hk
  clear hk hs
  go_enter Try.func73, Try.ntmps73
  go_wp2_with fail
  refine (C1.out _).mono ?_
  rintro e w2 ⟨rfl, hb⟩
  have HB3 := hidden hb
  clear hb
  go_wp2
  go_ret
  exact ⟨rfl, HB3.out⟩
/-- The digit of a number at a place. -/
def bitG (n : Nat) (k : Nat) : Nat := n / 2 ^ k % 2
theorem bitG_bd (n k : Nat) : bitG n k ≤ 1 := by unfold bitG; omega
theorem and_one (x : Nat) (h : x < 9223372036854775808) : bits .and .i64 (x : Int) 1 = ((x % 2 : Nat) : Int) := by
  unfold bits
  have e : (BitVec.ofInt IntKind.i64.bits (x : Int) &&& BitVec.ofInt IntKind.i64.bits 1).toNat = x % 2 := by
    rw [BitVec.toNat_and]
    simp only [BitVec.toNat_ofInt]
    have h1 : ((x : Int) % ((2 ^ IntKind.i64.bits : Nat) : Int)).toNat = x := by
      have : ((2 ^ IntKind.i64.bits : Nat) : Int) = 18446744073709551616 := by decide
      rw [this]; omega
    have h2 : ((1 : Int) % ((2 ^ IntKind.i64.bits : Nat) : Int)).toNat = 1 := by decide
    rw [h1, h2, Nat.and_one_is_mod]
  show IntKind.i64.wrap _ = _
  simp only
  rw [e]
  exact IntWalk.i64_in _ (by omega)

theorem Values_any (s : ByteArray) (hs : s.size ≤ 100000) (w : World) :
    Calls Try.prog 34 #[.string s] w fun e w' => e = .returned (.string (dgB s.size (valG s))) ∧ Below w.heap.size w w' := by
  have hmf : ∀ (fn : Fn) (first cap : Array Value) (w : World), (Instr.makeFunc fn first cap).run Try.prog w = .ok (.func fn first cap) w := fun _ _ _ _ => rfl
  have CD := hidden (digits_any s.size hs 73 #[.pointer (some ⟨w.heap.size, 0, none⟩)] (enters_of Try.func73 (by kernel_rfl) rfl) (valG s) (fun k _ => by have := valG_bd s k; omega) (w.alloc (.cells #[.string s] 9))
    (fun k hk V hV => Values1_any s (by omega) k w.heap.size V (blk_later (blk_nw w #[.string s] 9) hV)))
  go_enter Try.func34, Try.ntmps34
  go_wp2_with fail
  refine CD.out.mono ?_
  rintro e w2 ⟨rfl, hb⟩
  have HB := hidden (bthen (ballc w _) hb)
  clear hb
  go_wp2
  go_ret
  exact ⟨rfl, HB.out⟩
/-- How many digits a width asks for. -/
def widF (width : Int) : Nat := (min (max width 0) 64).toNat
theorem widF_bd (width : Int) : widF width ≤ 64 := by unfold widF; omega
/-- The number of the first places of a text. -/
def numG (s : ByteArray) : Nat → Nat
  | 0 => 0
  | k + 1 => numG s k + (if vdg 1 s k = 1 then 2 ^ k else 0)
theorem numG_lt (s : ByteArray) : ∀ k, numG s k < 2 ^ k
  | 0 => Nat.one_pos
  | k + 1 => by
    have := numG_lt s k
    unfold numG
    split <;> (rw [Nat.pow_succ]; omega)
theorem or_pow : ∀ k : Nat, k < 8 → ∀ x : Nat, x < 2 ^ k → bits .or .i64 (x : Int) ((2 ^ k : Nat) : Int) = ((x + 2 ^ k : Nat) : Int) := by decide +kernel
end Go.Proofs.Ytkolhbacgoafcaa

/- The calls shift and endOf of package pipe return what plain functions give, shift with the stretch one place on; conditions: the stretch lies in a row of one's own, and has one place at least. -/
namespace Go.Proofs.Ytkolhbacgoafcaa
open Go.ChangeShapes Go.WideShapes Go.ChangeAt Go.RowKit
set_option linter.unusedVariables false

theorem cut8 (g off D : Nat) (hD : 1 ≤ D) : ∃ sp, (∀ W : World, (Instr.slice 48 (.slice (some ⟨g, off, none⟩) D D) (some (.int .i64 1)) none none).run Try.prog W = .ok (.slice sp (D - 1) (D - 1)) W) ∧ (1 < D → sp = some ⟨g, off + 1, none⟩) := by
  refine ⟨if D = 1 then some ⟨g, off, none⟩ else some ⟨g, off + 1, none⟩, fun W => ?_, fun h => if_neg (by omega)⟩
  have ht : Try.prog.underlying 48 = some (.slice (Try.prog.elem 48)) := by kernel_rfl
  rw [run_slice_l W 48 _ D D ht .i64 1 (by omega) (by omega)]
  have hz : (sizeOf (Try.prog.elem 48)).run Try.prog W = .ok 1 W := by kernel_rfl
  rw [hz]
  simp only [Result.andThen, sliced]
  by_cases h : D = 1
  · simp [h]
  · simp [h, Addr.add]
theorem cut8_last (g off D : Nat) (hD : 1 ≤ D) (hs : D ≤ 1000) (W : World) : (Instr.slice 48 (.slice (some ⟨g, off, none⟩) D D) (some (.int .i64 ((D : Int) - 1))) none none).run Try.prog W = .ok (.slice (some ⟨g, off + D - 1, none⟩) 1 1) W := by
  have ht : Try.prog.underlying 48 = some (.slice (Try.prog.elem 48)) := by kernel_rfl
  rw [run_slice_l W 48 _ D D ht .i64 ((D : Int) - 1) (by omega) (by omega)]
  have hz : (sizeOf (Try.prog.elem 48)).run Try.prog W = .ok 1 W := by kernel_rfl
  rw [hz]
  obtain ⟨n, rfl⟩ : ∃ n, D = n + 1 := ⟨D - 1, by omega⟩
  have e : (((n + 1 : Nat) : Int) - 1).toNat = n := by omega
  simp only [Result.andThen, sliced, e]
  have h2 : n + 1 - n = 1 := by omega
  have h3 : off + (n + 1) - 1 = off + n := by omega
  rw [h2, h3]
  by_cases h : n = 0
  · subst h
    simp [Addr.add]
  · simp [Addr.add, h]

set_option maxHeartbeats 1000000 in
theorem shift_any (g off D : Nat) (l : List UInt8) (c : UInt8) (hD : 1 ≤ D) (hs : D ≤ 1000) (hf : off + D ≤ l.length) (w : World) (h : FBlk w g l) :
    Calls Try.prog 41 #[.slice (some ⟨g, off, none⟩) D D, .string (ba [c])] w fun e w' => e = .returned (.string (ba [at8 l (off + D - 1)])) ∧ FBlk w' g (shL l off D c) ∧ w.grownBy w' (some g) := by
  have HE := hidden (shL_ovr c hD hf)
  have HC := hidden (fun V => cut8_last g off D hD hs V)
  obtain ⟨sp, hc1, hsp⟩ := cut8 g off D hD
  have HT : Hid ((convert 48 9 (.slice (some ⟨g, off + D - 1, none⟩) 1 1)).run Try.prog w = .ok (.string (ba [at8 l (off + D - 1)])) w) := h.one (off + D - 1) (by omega) 1
  obtain ⟨w1, r1, h1, g1⟩ := copy_on h hD hf 3 sp (D - 1) D hsp
  obtain ⟨w2, r2, h2, g2⟩ := copy_head h1 hD (by rw [ovr_len]; exact hf) 3 D c
  have HB : Hid (FBlk w2 g (shL l off D c)) := by
    show FBlk _ _ _
    rw [← HE.out]
    exact h2
  have HG : Hid (w.grownBy w2 (some g)) := ⟨g2.os.trans g1.os, g2.tape.trans g1.tape, g2.output.trans g1.output, Nat.le_trans g1.size g2.size, fun k hk hne => (g2.block k (Nat.lt_of_lt_of_le hk g1.size) hne).trans (g1.block k hk hne)⟩
  have hcl := HC.out w
  have hct := HT.out
  clear h1 h2 g1 g2 h hsp HC HE hf
  generalize at8 l (off + D - 1) = z at *
  generalize ba [z] = zt at *
  generalize ba [c] = ct at *
  go_enter Try.func41, Try.ntmps41
  go_wp2
  go_ret
  exact ⟨rfl, HB.out, HG.out⟩
theorem endOf_any (b : UInt8) (w : World) :
    Calls Try.prog 43 #[.string (ba [b])] w fun e w' => e = .returned (.int .i64 (if valG (ba [b]) 0 = 1 then 1 else 0)) ∧ Below w.heap.size w w' := by
  have CV := hidden (fun V => Values_any (ba [b]) (by rw [ba_size]; simp) V)
  have e1 : dgB (ba [b]).size (valG (ba [b])) = ba [UInt8.ofNat (48 + valG (ba [b]) 0)] := by
    rw [ba_size]
    rfl
  rw [e1] at CV
  have hv := valG_bd (ba [b]) 0
  generalize valG (ba [b]) 0 = v at *
  generalize ba [b] = s at *
  clear e1
  by_cases h1 : v = 1
  · subst h1
    have e2 : Hid (((ba [UInt8.ofNat (48 + 1)]).toList == [49]) = true) := by
      show _ = _
      rw [ByteArray.toList_eq]
      decide
    rw [if_pos rfl]
    generalize ba [UInt8.ofNat (48 + 1)] = q at *
    have e3 := e2.out
    go_enter Try.func43, Try.ntmps43
    go_wp2_with fail
    refine (CV.out _).mono ?_
    rintro e w2 ⟨rfl, hb⟩
    have HB := hidden hb
    clear hb
    go_wp2
    go_ret
    exact ⟨rfl, HB.out⟩
  · have e2 : Hid (((ba [UInt8.ofNat (48 + v)]).toList == [49]) = false) := by
      show _ = _
      rw [ByteArray.toList_eq]
      have : v = 0 ∨ v = 2 := by omega
      rcases this with rfl | rfl <;> decide
    rw [if_neg h1]
    generalize ba [UInt8.ofNat (48 + v)] = q at *
    have e3 := e2.out
    go_enter Try.func43, Try.ntmps43
    go_wp2_with fail
    refine (CV.out _).mono ?_
    rintro e w2 ⟨rfl, hb⟩
    have HB := hidden hb
    clear hb
    go_wp2
    go_ret
    exact ⟨rfl, HB.out⟩
end Go.Proofs.Ytkolhbacgoafcaa

/- So many zeros as a text: what strings.Repeat and the document's own repetition of one zero return; they make at most new memory; conditions: at most a thousand. -/
namespace Go.Proofs.Ytkolhbacgoafcaa
open Go.ChangeShapes Go.WideShapes Go.ChangeAt Go.RowKit Go.Shelf
set_option linter.unusedVariables false

/-- So many zeros. -/
def zerL (n : Nat) : List UInt8 := List.replicate n 48
theorem extraRep : Builder.Extra Try.prog Try.laysRepeat_ren where
  sizeBuilder := by kernel_rfl
  liesBuilder := by kernel_rfl
  t5 := Try.laysRepeat.t5
  a5 := Try.laysRepeat.a5
  z5 := Try.laysRepeat.z5
  v5 := Try.laysRepeat.v5
  infoByte := by kernel_rfl
  cellsByte := by kernel_rfl
  sizeByte := by kernel_rfl
  neB5 := by decide
theorem renRep : Try.laysRepeat_ren.f 105 = 29 := by kernel_rfl
theorem RepZ_any (n : Nat) (w : World) (hn : n ≤ 1000) :
    Calls Try.prog 29 #[.string ⟨#[48]⟩, .int .i64 n] w fun e w' => e = .returned (.string (ba (zerL n))) ∧ Below w.heap.size w w' := by
  have h := Any.strings_Repeat Try.laysRepeat extraRep ⟨#[48]⟩ n w (by omega) (by show 1 * n ≤ _; omega)
  rw [renRep] at h
  refine h.mono fun e w' ⟨he, hw⟩ => ⟨?_, hw⟩
  rw [he]
  have e : Lib.repeatL (ByteArray.mk #[48]).data.toList n = List.replicate n (48 : UInt8) := by
    have := Lib.repeatL_replicate 48 1 n
    rw [Nat.mul_one] at this
    exact this
  rw [e]
  rfl
theorem zerL_s (k : Nat) : ba (zerL k) ++ ⟨#[48]⟩ = ba (zerL (k + 1)) := by
  have : (⟨#[48]⟩ : ByteArray) = ba [48] := rfl
  rw [this, ba_append]
  unfold zerL
  rw [List.replicate_succ']
theorem rRepZ_any (n : Nat) (w : World) (hn : n ≤ 1000) :
    Calls Try.prog 31 #[.string ⟨#[48]⟩, .int .i64 n] w fun e w' => e = .returned (.string (ba (zerL n))) ∧ w = w' := by
  go_enter Try.func31, Try.ntmps31
  go_wp2
  go_loop [5, 6] (fun s i => ∃ k : Nat, k ≤ n ∧ s = .string (ba (zerL k)) ∧ i = .int .i64 k) (fun _ i => n - (intV i).toNat)
  case atStart => exact ⟨0, Nat.zero_le _, rfl, rfl⟩
  case round =>
    obtain ⟨k, hk, rfl, rfl⟩ := hrel
    by_cases hlt : k < n
    · have hz := zerL_s k
      have HZ := hidden hz
      clear hz
      have hsz : (ba (zerL k)).size = k := by rw [ba_size, zerL, List.length_replicate]
      have hns : ¬ 9223372036854775807 < (ba (zerL k)).size + 1 := by omega
      clear hsz
      have i2 : (k : Int) < (n : Int) := by omega
      go_wp2
      go_round
      case rel => exact ⟨k + 1, by omega, by rw [← HZ.out], by go_num⟩
      case measure => simp [intV]; omega
    · obtain rfl : k = n := by omega
      go_wp2
      go_ret
      exact ⟨rfl, rfl⟩
end Go.Proofs.Ytkolhbacgoafcaa

/- The calls stepper and Step of package vec, and what stepper hands back, return what plain functions give, and make at most new memory; conditions: rows lie where they say, lengths fit int, and at most a hundred thousand codes and votes. -/
namespace Go.Proofs.Ytkolhbacgoafcaa
open Go.ChangeShapes Go.WideShapes Go.ChangeAt Go.RowKit Go.Shelf
set_option linter.unusedVariables false
attribute [local go_sem] cell_rg

theorem blkV_new {w w' : World} {C : Array Value} {t : TypeId} (hb : Below (w.alloc (.cells C t)).heap.size (w.alloc (.cells C t)) w') : w'.heap[w.heap.size]? = some (.cells C t (0, 0)) := (hb.block _ (by simp)).trans (heap_alloc_new w _)
theorem blkV_newD {w w' : World} {C : Array Value} {t : TypeId} (hb : Below (w.alloc (.cells C t)).drew.heap.size (w.alloc (.cells C t)).drew w') : w'.heap[w.heap.size]? = some (.cells C t (0, 0)) := (hb.block _ (by simp)).trans (heap_alloc_new w _)
theorem blkV_newE {w w' : World} {C : Array Value} {t : TypeId} (hb : Below (w.alloc (.cells C t)).drew.drew.heap.size (w.alloc (.cells C t)).drew.drew w') : w'.heap[w.heap.size]? = some (.cells C t (0, 0)) := (hb.block _ (by simp)).trans (heap_alloc_new w _)
/-- A block that lies there. -/
def Lay (g : Nat) (o : Obj) (w : World) : Prop := w.heap[g]? = some o
theorem Lay.alloc {g : Nat} {o : Obj} {w : World} (h : Lay g o w) (p : Obj) : Lay g o (w.alloc p) := blk_later h (ballc w p)
theorem Lay.drew {g : Nat} {o : Obj} {w : World} (h : Lay g o w) : Lay g o w.drew := h
theorem Lay.below {g : Nat} {o : Obj} {w w' : World} (h : Lay g o w) (hb : Below w.heap.size w w') : Lay g o w' := blk_later h hb
theorem Lay.iblk {g : Nat} {l : List Int} {w : World} (h : Lay g (.cells (kInt.flat l).toArray 3 (0, 0)) w) : IBlk w g l := h

set_option maxHeartbeats 4000000 in
theorem stepper1_any (n f d p r dr o sl md fr : Int) (ad : Option Addr) (cap : Nat) (zs : List Int) (x : Int) (codes told : ByteArray) (a2 : Option Addr) (c2 : Nat) (votes : List ByteArray) (k g0 g1 g2 g3 g4 : Nat) (w : World) (hl : zs.length ≤ 9223372036854775807) (hT : Tab w ad zs) (hx : (Lit.int .i64 x).wf = true)
    (hs1 : codes.size ≤ 9223372036854775807) (hs2 : told.size ≤ 9223372036854775807) (hn : votes.length ≤ 100000) (hV : kStr.Lies w.heap.size w (.slice a2 votes.length c2) votes) (hz : ∀ t ∈ votes, t.size ≤ 9223372036854775807)
    (b0 : w.heap[g0]? = some (.cells #[.int .i64 n, .int .i64 f, .int .i64 d, .int .i64 p, .int .i64 r, .int .i64 dr, .int .i64 o, .int .i64 sl, .int .i64 md, .int .i64 fr, .slice ad zs.length cap] 24 (0, 0))) (b1 : w.heap[g1]? = some (.cells #[.int .i64 x] 3 (0, 0))) (b2 : w.heap[g2]? = some (.cells #[.string codes] 9 (0, 0))) (b3 : w.heap[g3]? = some (.cells #[.string told] 9 (0, 0))) (b4 : w.heap[g4]? = some (.cells #[.slice a2 votes.length c2] 30 (0, 0))) :
    Calls Try.prog 107 #[.int .i64 (k : Int), .pointer (some ⟨g0, 0, none⟩), .pointer (some ⟨g1, 0, none⟩), .pointer (some ⟨g2, 0, none⟩), .pointer (some ⟨g3, 0, none⟩), .pointer (some ⟨g4, 0, none⟩)] w fun e w' => e = .returned (.int .i64 (stpG (plainE n f d p r dr o sl md fr zs) n f x codes told votes k : Int)) ∧ Below w.heap.size w w' := by
  have hC0 : Chn w.heap.size w w := Chn.refl (Nat.le_refl _)
  have hS : ∀ w', Chn w.heap.size w w' → (w'.cell? ⟨g0, 0, none⟩ = some (.int .i64 n) ∧ w'.cell? ⟨g0, 1, none⟩ = some (.int .i64 f) ∧ w'.cell? ⟨g0, 2, none⟩ = some (.int .i64 d) ∧ w'.cell? ⟨g0, 3, none⟩ = some (.int .i64 p) ∧ w'.cell? ⟨g0, 4, none⟩ = some (.int .i64 r) ∧ w'.cell? ⟨g0, 5, none⟩ = some (.int .i64 dr) ∧ w'.cell? ⟨g0, 6, none⟩ = some (.int .i64 o) ∧ w'.cell? ⟨g0, 7, none⟩ = some (.int .i64 sl) ∧ w'.cell? ⟨g0, 8, none⟩ = some (.int .i64 md) ∧ w'.cell? ⟨g0, 9, none⟩ = some (.int .i64 fr) ∧ w'.cell? ⟨g0, 10, none⟩ = some (.slice ad zs.length cap) ∧ w'.cell? ⟨g1, 0, none⟩ = some (.int .i64 x) ∧ w'.cell? ⟨g2, 0, none⟩ = some (.string codes) ∧ w'.cell? ⟨g3, 0, none⟩ = some (.string told) ∧ w'.cell? ⟨g4, 0, none⟩ = some (.slice a2 votes.length c2)) := fun V hV => by
    have l0 := blk_cell ((hV.1.block _ (blk_lt b0)).trans b0)
    exact ⟨l0 0, l0 1, l0 2, l0 3, l0 4, l0 5, l0 6, l0 7, l0 8, l0 9, l0 10, blk_cell ((hV.1.block _ (blk_lt b1)).trans b1) 0, blk_cell ((hV.1.block _ (blk_lt b2)).trans b2) 0, blk_cell ((hV.1.block _ (blk_lt b3)).trans b3) 0, blk_cell ((hV.1.block _ (blk_lt b4)).trans b4) 0⟩
  have CB := fun V => bitAt_any codes k V hs1
  have CD := fun V => vdigitAt_any told k 2 V hs2 (by decide)
  have CV : ∀ V, Chn w.heap.size w V → Calls Try.prog 109 #[.slice a2 votes.length c2, .int .i64 (k : Int)] V fun e w' => ∃ g, e = .returned (.slice (some ⟨g, 0, none⟩) votes.length votes.length) ∧ Lay g (.cells (kInt.flat (votesP votes k)).toArray 3 (0, 0)) w' ∧ Below V.heap.size V w' := fun V hb => (votesAt_any a2 c2 votes k V hn (hV.later hb.1) hz).mono fun e w' ⟨g, he, hI, hb⟩ => ⟨g, he, hI, hb⟩
  have CS := fun g V (hb : Chn w.heap.size w V) (hg : Lay g (.cells (kInt.flat (votesP votes k)).toArray 3 (0, 0)) V) => KStep_any n f d p r dr o sl md fr ad cap zs x (bitK codes k) (vdg 2 told k) (some ⟨g, 0, none⟩) votes.length votes.length (votesP votes k) V hl (hT.below hb.1) hx (by rw [votesP_len]; omega) (by have h := (Lay.iblk hg).lies (by rw [votesP_len]; simp only [maxLen]; omega); rwa [votesP_len] at h)
  have HQ : Hid ((stpG (plainE n f d p r dr o sl md fr zs) n f x codes told votes k : Int) = codeF (stpB (plainE n f d p r dr o sl md fr zs) n f x codes told votes k)) := stpG_int _ _ _ _ _ _ _ _
  have HR : Hid (stpB (plainE n f d p r dr o sl md fr zs) n f x codes told votes k = stepF (plainE n f d p r dr o sl md fr zs) n f x (bitK codes k) (vdg 2 told k) (votesP votes k)) := rfl
  rw [HQ.out, HR.out]
  clear HQ HR
  have CC := hidden (fun V => Code_any (stepF (plainE n f d p r dr o sl md fr zs) n f x (bitK codes k) (vdg 2 told k) (votesP votes k)) V)
  generalize stepF (plainE n f d p r dr o sl md fr zs) n f x (bitK codes k) (vdg 2 told k) (votesP votes k) = q at *
  generalize (kInt.flat (votesP votes k)).toArray = vcells at *
  generalize bitK codes k = bk at *
  generalize vdg 2 told k = td at *
  generalize votes.length = M at *
  obtain ⟨bv, bs⟩ := bk
  obtain ⟨qv, qs⟩ := q
  unfold agB at CB CS
  dsimp only at CB CS CC
  clear hV hz hT hs1 hs2 b0 b1 b2 b3 b4
  go_enter Try.func107, Try.ntmps107
  go_upto_region 1 with fail
  go_cut [8] (fun pt wx => ∃ g : Nat, pt = .pointer (some ⟨g, 0, none⟩) ∧ wx.heap[g]? = some (.cells #[.int .i64 qv, .bool qs] 40 (0, 0)) ∧ w.heap.size ≤ g ∧ Chn w.heap.size w wx)
  case first =>
    go_region_held3 (fun w' => w'.cell? ⟨g0, 0, none⟩ = some (.int .i64 n) ∧ w'.cell? ⟨g0, 1, none⟩ = some (.int .i64 f) ∧ w'.cell? ⟨g0, 2, none⟩ = some (.int .i64 d) ∧ w'.cell? ⟨g0, 3, none⟩ = some (.int .i64 p) ∧ w'.cell? ⟨g0, 4, none⟩ = some (.int .i64 r) ∧ w'.cell? ⟨g0, 5, none⟩ = some (.int .i64 dr) ∧ w'.cell? ⟨g0, 6, none⟩ = some (.int .i64 o) ∧ w'.cell? ⟨g0, 7, none⟩ = some (.int .i64 sl) ∧ w'.cell? ⟨g0, 8, none⟩ = some (.int .i64 md) ∧ w'.cell? ⟨g0, 9, none⟩ = some (.int .i64 fr) ∧ w'.cell? ⟨g0, 10, none⟩ = some (.slice ad zs.length cap) ∧ w'.cell? ⟨g1, 0, none⟩ = some (.int .i64 x) ∧ w'.cell? ⟨g2, 0, none⟩ = some (.string codes) ∧ w'.cell? ⟨g3, 0, none⟩ = some (.string told) ∧ w'.cell? ⟨g4, 0, none⟩ = some (.slice a2 M c2)) (first | exact hS _ (by repeat (first | with_reducible assumption | with_reducible refine Chn.drew ?_ | with_reducible refine Chn.alloc ?_ _ | with_reducible refine Chn.set ?_ _ _ (by first | exact Nat.le_refl _ | exact Chn.le hC4 | exact Chn.le hC5 | exact Chn.le hC6) _)))
      (first
      | (go_at_call 74; refine (CB _).mono ?_; rintro e w4 ⟨rfl, hb4⟩; clear CB; have hC4 := Chn.below (show Chn w.heap.size w _ from (by repeat (first | with_reducible assumption | with_reducible refine Chn.drew ?_ | with_reducible refine Chn.alloc ?_ _ | with_reducible refine Chn.set ?_ _ _ (by first | exact Nat.le_refl _ | exact Chn.le hC4 | exact Chn.le hC5 | exact Chn.le hC6) _))) hb4; (first | (have kx4 := (hb4.block _ (Array.getElem?_eq_some_iff.1 kx5).1).trans kx5; have ky4 := blk_cell kx4; have kz4 := blk_frozen kx4) | (have kx4 := (hb4.block _ (Array.getElem?_eq_some_iff.1 kx6).1).trans kx6; have ky4 := blk_cell kx4; have kz4 := blk_frozen kx4) | (have kx4 := blkV_new hb4; have ky4 := blk_cell kx4; have kz4 := blk_frozen kx4) | (have kx4 := blkV_newD hb4; have ky4 := blk_cell kx4; have kz4 := blk_frozen kx4) | (have kx4 := blkV_newE hb4; have ky4 := blk_cell kx4; have kz4 := blk_frozen kx4) | skip); (first | (have hI4 := Lay.below (show Lay g5 _ _ from (by repeat (first | with_reducible assumption | with_reducible refine Lay.drew ?_ | with_reducible refine Lay.alloc ?_ _))) hb4) | skip); clear hb4)
      | (go_at_call 99; refine (CD _).mono ?_; rintro e w9 ⟨rfl, rfl⟩; clear CD)
      | (go_at_call 109; refine (CV _ (by repeat (first | with_reducible assumption | with_reducible refine Chn.drew ?_ | with_reducible refine Chn.alloc ?_ _ | with_reducible refine Chn.set ?_ _ _ (by first | exact Nat.le_refl _ | exact Chn.le hC4 | exact Chn.le hC5 | exact Chn.le hC6) _))).mono ?_; rintro e w5 ⟨g5, rfl, hI5, hb5⟩; clear CV; have hC5 := Chn.below (show Chn w.heap.size w _ from (by repeat (first | with_reducible assumption | with_reducible refine Chn.drew ?_ | with_reducible refine Chn.alloc ?_ _ | with_reducible refine Chn.set ?_ _ _ (by first | exact Nat.le_refl _ | exact Chn.le hC4 | exact Chn.le hC5 | exact Chn.le hC6) _))) hb5; (first | (have kx5 := (hb5.block _ (Array.getElem?_eq_some_iff.1 kx4).1).trans kx4; have ky5 := blk_cell kx5; have kz5 := blk_frozen kx5) | (have kx5 := (hb5.block _ (Array.getElem?_eq_some_iff.1 kx6).1).trans kx6; have ky5 := blk_cell kx5; have kz5 := blk_frozen kx5) | (have kx5 := blkV_new hb5; have ky5 := blk_cell kx5; have kz5 := blk_frozen kx5) | (have kx5 := blkV_newD hb5; have ky5 := blk_cell kx5; have kz5 := blk_frozen kx5) | (have kx5 := blkV_newE hb5; have ky5 := blk_cell kx5; have kz5 := blk_frozen kx5) | skip); clear hb5)
      | (go_at_call 108; refine (CS g5 _ (by repeat (first | with_reducible assumption | with_reducible refine Chn.drew ?_ | with_reducible refine Chn.alloc ?_ _ | with_reducible refine Chn.set ?_ _ _ (by first | exact Nat.le_refl _ | exact Chn.le hC4 | exact Chn.le hC5 | exact Chn.le hC6) _)) (by repeat (first | with_reducible assumption | with_reducible refine Lay.drew ?_ | with_reducible refine Lay.alloc ?_ _))).mono ?_; rintro e w6 ⟨rfl, hb6⟩; clear CS; have hC6 := Chn.below (show Chn w.heap.size w _ from (by repeat (first | with_reducible assumption | with_reducible refine Chn.drew ?_ | with_reducible refine Chn.alloc ?_ _ | with_reducible refine Chn.set ?_ _ _ (by first | exact Nat.le_refl _ | exact Chn.le hC4 | exact Chn.le hC5 | exact Chn.le hC6) _))) hb6; (first | (have kx6 := (hb6.block _ (Array.getElem?_eq_some_iff.1 kx4).1).trans kx4; have ky6 := blk_cell kx6; have kz6 := blk_frozen kx6) | (have kx6 := (hb6.block _ (Array.getElem?_eq_some_iff.1 kx5).1).trans kx5; have ky6 := blk_cell kx6; have kz6 := blk_frozen kx6) | (have kx6 := blkV_new hb6; have ky6 := blk_cell kx6; have kz6 := blk_frozen kx6) | (have kx6 := blkV_newD hb6; have ky6 := blk_cell kx6; have kz6 := blk_frozen kx6) | (have kx6 := blkV_newE hb6; have ky6 := blk_cell kx6; have kz6 := blk_frozen kx6) | skip); clear hb6))
    all_goals
      go_wp2_with fail
      go_meet
      case rel =>
        refine ⟨_, rfl, ?_, ?_, (by repeat (first | with_reducible assumption | with_reducible refine Chn.drew ?_ | with_reducible refine Chn.alloc ?_ _ | with_reducible refine Chn.set ?_ _ _ (by first | exact Nat.le_refl _ | exact Chn.le hC4 | exact Chn.le hC5 | exact Chn.le hC6) _))⟩
        · first
            | with_reducible exact set2T kx6 _ _
            | exact heap_alloc_new _ _
        · first
            | with_reducible exact Nat.le_refl _
            | with_reducible exact Chn.le hC4
            | with_reducible exact Chn.le hC5
            | with_reducible exact Chn.le hC6
  case rest =>
    obtain ⟨g, rfl, hBl, hg, hC⟩ := hcut
    have e0 := fun i => blk_cell hBl i
    have lg := blk_lt hBl
    have HC := hidden hC
    clear hBl hg hC CB CD CV CS hS
    go_wp2_with fail
    refine (CC.out _).mono ?_
    rintro e w7 ⟨rfl, hb⟩
    have HB := hidden (bthen HC.out.1 hb)
    clear hb
    go_wp2
    go_ret
    exact ⟨rfl, HB.out⟩

theorem stepper_any (n f d p r dr o sl md fr : Int) (ad : Option Addr) (cap : Nat) (zs : List Int) (x : Int) (codes told : ByteArray) (a2 : Option Addr) (c2 M : Nat) (w : World) :
    Calls Try.prog 101 #[.agg #[.int .i64 n, .int .i64 f, .int .i64 d, .int .i64 p, .int .i64 r, .int .i64 dr, .int .i64 o, .int .i64 sl, .int .i64 md, .int .i64 fr, .slice ad zs.length cap], .int .i64 x, .string codes, .string told, .slice a2 M c2] w fun e w' => ∃ g0 g1 g2 g3 g4, e = .returned (.func (.func 107) #[] #[.pointer (some ⟨g0, 0, none⟩), .pointer (some ⟨g1, 0, none⟩), .pointer (some ⟨g2, 0, none⟩), .pointer (some ⟨g3, 0, none⟩), .pointer (some ⟨g4, 0, none⟩)])
      ∧ w'.heap[g0]? = some (.cells #[.int .i64 n, .int .i64 f, .int .i64 d, .int .i64 p, .int .i64 r, .int .i64 dr, .int .i64 o, .int .i64 sl, .int .i64 md, .int .i64 fr, .slice ad zs.length cap] 24 (0, 0)) ∧ w'.heap[g1]? = some (.cells #[.int .i64 x] 3 (0, 0)) ∧ w'.heap[g2]? = some (.cells #[.string codes] 9 (0, 0)) ∧ w'.heap[g3]? = some (.cells #[.string told] 9 (0, 0)) ∧ w'.heap[g4]? = some (.cells #[.slice a2 M c2] 30 (0, 0)) ∧ Below w.heap.size w w' := by
  have hmf : ∀ (fn : Fn) (first cap : Array Value) (w : World), (Instr.makeFunc fn first cap).run Try.prog w = .ok (.func fn first cap) w := fun _ _ _ _ => rfl
  have k0 := blk_nw w #[.int .i64 n, .int .i64 f, .int .i64 d, .int .i64 p, .int .i64 r, .int .i64 dr, .int .i64 o, .int .i64 sl, .int .i64 md, .int .i64 fr, .slice ad zs.length cap] 24
  have k1 := blk_newAt (w.alloc (.cells #[.int .i64 n, .int .i64 f, .int .i64 d, .int .i64 p, .int .i64 r, .int .i64 dr, .int .i64 o, .int .i64 sl, .int .i64 md, .int .i64 fr, .slice ad zs.length cap] 24)) #[.int .i64 x] 3 (b := w.heap.size + 1) (by simp)
  have k2 := blk_newAt ((w.alloc (.cells #[.int .i64 n, .int .i64 f, .int .i64 d, .int .i64 p, .int .i64 r, .int .i64 dr, .int .i64 o, .int .i64 sl, .int .i64 md, .int .i64 fr, .slice ad zs.length cap] 24)).alloc (.cells #[.int .i64 x] 3)) #[.string codes] 9 (b := w.heap.size + 1 + 1) (by simp)
  have k3 := blk_newAt (((w.alloc (.cells #[.int .i64 n, .int .i64 f, .int .i64 d, .int .i64 p, .int .i64 r, .int .i64 dr, .int .i64 o, .int .i64 sl, .int .i64 md, .int .i64 fr, .slice ad zs.length cap] 24)).alloc (.cells #[.int .i64 x] 3)).alloc (.cells #[.string codes] 9)) #[.string told] 9 (b := w.heap.size + 1 + 1 + 1) (by simp)
  have k4 := blk_newAt ((((w.alloc (.cells #[.int .i64 n, .int .i64 f, .int .i64 d, .int .i64 p, .int .i64 r, .int .i64 dr, .int .i64 o, .int .i64 sl, .int .i64 md, .int .i64 fr, .slice ad zs.length cap] 24)).alloc (.cells #[.int .i64 x] 3)).alloc (.cells #[.string codes] 9)).alloc (.cells #[.string told] 9)) #[.slice a2 M c2] 30 (b := w.heap.size + 1 + 1 + 1 + 1) (by simp)
  have K0 := hidden (blk_later (blk_later (blk_later (blk_later k0 (ballc _ (.cells #[.int .i64 x] 3))) (ballc _ (.cells #[.string codes] 9))) (ballc _ (.cells #[.string told] 9))) (ballc _ (.cells #[.slice a2 M c2] 30)))
  have K1 := hidden (blk_later (blk_later (blk_later k1 (ballc _ (.cells #[.string codes] 9))) (ballc _ (.cells #[.string told] 9))) (ballc _ (.cells #[.slice a2 M c2] 30)))
  have K2 := hidden (blk_later (blk_later k2 (ballc _ (.cells #[.string told] 9))) (ballc _ (.cells #[.slice a2 M c2] 30)))
  have K3 := hidden (blk_later k3 (ballc _ (.cells #[.slice a2 M c2] 30)))
  have K4 := hidden k4
  have HB := hidden (bthen (bthen (bthen (bthen (ballc w (.cells #[.int .i64 n, .int .i64 f, .int .i64 d, .int .i64 p, .int .i64 r, .int .i64 dr, .int .i64 o, .int .i64 sl, .int .i64 md, .int .i64 fr, .slice ad zs.length cap] 24)) (ballc _ (.cells #[.int .i64 x] 3))) (ballc _ (.cells #[.string codes] 9))) (ballc _ (.cells #[.string told] 9))) (ballc _ (.cells #[.slice a2 M c2] 30)))
  clear k0 k1 k2 k3 k4
  go_enter Try.func101, Try.ntmps101
  go_wp2
  go_ret
  exact ⟨_, _, _, _, _, rfl, K0.out, K1.out, K2.out, K3.out, K4.out, HB.out⟩

set_option maxHeartbeats 1000000 in
theorem VStep_any (n f d p r dr o sl md fr : Int) (ad : Option Addr) (cap : Nat) (zs : List Int) (x : Int) (codes told : ByteArray) (a2 : Option Addr) (c2 : Nat) (votes : List ByteArray) (w : World) (hl : zs.length ≤ 9223372036854775807) (hT : Tab w ad zs) (hx : (Lit.int .i64 x).wf = true)
    (hs1 : codes.size ≤ 100000) (hs2 : told.size ≤ 9223372036854775807) (hn : votes.length ≤ 100000) (hV : kStr.Lies w.heap.size w (.slice a2 votes.length c2) votes) (hz : ∀ t ∈ votes, t.size ≤ 9223372036854775807) :
    Calls Try.prog 79 #[.agg #[.int .i64 n, .int .i64 f, .int .i64 d, .int .i64 p, .int .i64 r, .int .i64 dr, .int .i64 o, .int .i64 sl, .int .i64 md, .int .i64 fr, .slice ad zs.length cap], .int .i64 x, .string codes, .string told, .slice a2 votes.length c2] w fun e w' => e = .returned (.string (dgB codes.size (stpG (plainE n f d p r dr o sl md fr zs) n f x codes told votes))) ∧ Below w.heap.size w w' := by
  have C1 := hidden (fun V => stepper_any n f d p r dr o sl md fr ad cap zs x codes told a2 c2 votes.length V)
  have C2 : ∀ (V : World) (g0 g1 g2 g3 g4 : Nat), Below w.heap.size w V → V.heap[g0]? = some (.cells #[.int .i64 n, .int .i64 f, .int .i64 d, .int .i64 p, .int .i64 r, .int .i64 dr, .int .i64 o, .int .i64 sl, .int .i64 md, .int .i64 fr, .slice ad zs.length cap] 24 (0, 0)) → V.heap[g1]? = some (.cells #[.int .i64 x] 3 (0, 0)) → V.heap[g2]? = some (.cells #[.string codes] 9 (0, 0)) → V.heap[g3]? = some (.cells #[.string told] 9 (0, 0)) → V.heap[g4]? = some (.cells #[.slice a2 votes.length c2] 30 (0, 0)) →
      Calls Try.prog 72 #[.int .i64 (codes.size : Int), .func (.func 107) #[] #[.pointer (some ⟨g0, 0, none⟩), .pointer (some ⟨g1, 0, none⟩), .pointer (some ⟨g2, 0, none⟩), .pointer (some ⟨g3, 0, none⟩), .pointer (some ⟨g4, 0, none⟩)]] V fun e w' => e = .returned (.string (dgB codes.size (stpG (plainE n f d p r dr o sl md fr zs) n f x codes told votes))) ∧ Below V.heap.size V w' :=
    fun V g0 g1 g2 g3 g4 hb b0 b1 b2 b3 b4 => digits_any codes.size hs1 107 #[.pointer (some ⟨g0, 0, none⟩), .pointer (some ⟨g1, 0, none⟩), .pointer (some ⟨g2, 0, none⟩), .pointer (some ⟨g3, 0, none⟩), .pointer (some ⟨g4, 0, none⟩)] (enters_of Try.func107 (by kernel_rfl) rfl) (stpG (plainE n f d p r dr o sl md fr zs) n f x codes told votes) (fun k _ => by have := stpG_bd (plainE n f d p r dr o sl md fr zs) n f x codes told votes k; omega) V
      (fun k hk W hW => stepper1_any n f d p r dr o sl md fr ad cap zs x codes told a2 c2 votes k g0 g1 g2 g3 g4 W hl (hT.below (bthen hb hW)) hx (by omega) hs2 hn (hV.later (bthen hb hW)) hz (blk_later b0 hW) (blk_later b1 hW) (blk_later b2 hW) (blk_later b3 hW) (blk_later b4 hW))
  have C2 := hidden C2
  clear hT hV hz
  generalize stpG (plainE n f d p r dr o sl md fr zs) n f x codes told votes = G at *
  go_enter Try.func79, Try.ntmps79
  go_wp2_with fail
  refine (C1.out _).mono ?_
  rintro e w2 ⟨g0, g1, g2, g3, g4, rfl, b0, b1, b2, b3, b4, hb⟩
  have HB2 := hidden (bthen (ballc w _) hb)
  have CX := hidden (C2.out w2 g0 g1 g2 g3 g4 HB2.out b0 b1 b2 b3 b4)
  clear hb b0 b1 b2 b3 b4
  go_wp2_with fail
  refine CX.out.mono ?_
  rintro e w3 ⟨rfl, hb⟩
  have HB3 := hidden (bthen HB2.out hb)
  clear hb
  go_wp2
  go_ret
  exact ⟨rfl, HB3.out⟩
end Go.Proofs.Ytkolhbacgoafcaa

/- The call part of the statements on package vec returns the text of one place, and what a step makes of one place is what it makes of the whole there; conditions: lengths fit int. -/
namespace Go.Proofs.Ytkolhbacgoafcaa
open Go.ChangeShapes Go.WideShapes Go.ChangeAt Go.RowKit
set_option linter.unusedVariables false

/-- The text of one place. -/
def prt (s : ByteArray) (k : Nat) : ByteArray := if k < s.size then s.extract k (k + 1) else noB
theorem prt_in {s : ByteArray} {k : Nat} (h : k < s.size) : prt s k = s.extract k (k + 1) := if_pos h
theorem prt_size (s : ByteArray) (k : Nat) : (prt s k).size ≤ 1 := by
  unfold prt
  split
  · rw [ByteArray.size_extract]; omega
  · decide
theorem prt_one {s : ByteArray} {k : Nat} (h : k < s.size) : (prt s k).size = 1 := by
  rw [prt_in h, ByteArray.size_extract]; omega
theorem vdg_prt (last : Int) (s : ByteArray) (k : Nat) : vdg last (prt s k) 0 = vdg last s k := by
  by_cases h : k < s.size
  · have h1 : 0 < (prt s k).size := by rw [prt_one h]; decide
    have e : (prt s k)[0]'h1 = s[k]'h := by
      have h2 : (prt s k)[0]'h1 = (s.extract k (k + 1))[0]'(by rw [← prt_in h]; exact h1) := by congr 1; exact prt_in h
      rw [h2, ByteArray.getElem_extract]
      rfl
    unfold vdg
    rw [dif_pos h1, dif_pos h, e]
  · have e : prt s k = noB := if_neg h
    rw [e, vdg_out (by decide), vdg_out (by omega)]
theorem dgB_extract {n : Nat} {g : Nat → Nat} {k : Nat} (hk : k < n) : (dgB n g).extract k (k + 1) = dgB 1 (fun _ => g k) := by
  apply ByteArray.ext
  rw [ByteArray.data_extract]
  simp only [dgB, ba, dgL]
  rw [List.extract_toArray]
  congr 1
  rw [List.extract_eq_take_drop]
  apply List.ext_getElem
  · simp; omega
  · intro i h1 h2
    simp at h1 h2 ⊢
    have : i = 0 := by omega
    subst this
    simp
theorem stp_prt (E n f x : Int) (codes told : ByteArray) (votes : List ByteArray) (k : Nat) : stpG E n f x (prt codes k) (prt told k) (votes.map fun t => prt t k) 0 = stpG E n f x codes told votes k := by
  unfold stpG stpB bitK
  rw [vdg_prt, vdg_prt, List.map_map]
  congr 4
  funext t
  exact vdg_prt 2 t k
theorem step_prt (E n f x : Int) (codes told : ByteArray) (votes : List ByteArray) {k : Nat} (hk : k < codes.size) : dgB (prt codes k).size (stpG E n f x (prt codes k) (prt told k) (votes.map fun t => prt t k)) = (dgB codes.size (stpG E n f x codes told votes)).extract k (k + 1) := by
  rw [dgB_extract hk, prt_one hk]
  refine dgB_congr fun j hj => ?_
  have : j = 0 := by omega
  subst this
  exact stp_prt E n f x codes told votes k
end Go.Proofs.Ytkolhbacgoafcaa
