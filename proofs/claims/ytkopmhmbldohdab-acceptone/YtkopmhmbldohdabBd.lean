/- Several texts of one's own in one: what each proves, and its conditions, is said ahead of it. -/
import Derived.Test.YtkopmhmbldohdabBa
import Derived.WalkSpells
import Derived.Laws.BytesString
import Derived.Test.YtkopmhmbldohdabBc
import Derived.Deep.OwnRows
import Derived.Laws.IdiomStrings
import Derived.Shelf.Abstract
import Derived.Laws.StructEq
import Derived.Laws.AppendOwn
import Derived.Deep.RegionHeld3

/- Texts as lists of numbers: what a row of bytes is as a text; no conditions. -/
namespace Go.Proofs.Ytkopmhmbldohdab
open Go.ChangeShapes Go.WideShapes Go.ChangeAt Go.RowKit
set_option linter.unusedVariables false

def numStr (zs : List Int) : ByteArray := ⟨(zs.map fun z => UInt8.ofNat z.toNat).toArray⟩
def leInts : Int → Nat → List Int
  | _, 0 => []
  | n, k + 1 => n % 256 :: leInts (n / 256) k

theorem cons2 {a b : Int} {l m : List Int} (h : a = b) (g : l = m) : a :: l = b :: m := by rw [h, g]

theorem foldl_push_nums : ∀ (zs : List Int) (r : ByteArray), zs.foldl (fun r n => r.push (UInt8.ofNat n.toNat)) r = ⟨r.data ++ (zs.map fun z => UInt8.ofNat z.toNat).toArray⟩
  | [], r => by simp
  | z :: zs, r => by
    simp only [List.foldl_cons]
    rw [foldl_push_nums zs]
    simp [ByteArray.push]

theorem conv_cells (w : World) (zs : List Int) (cap : Nat) :
    (convert 59 9 (.slice (some ⟨w.heap.size, 0, none⟩) zs.length cap)).run Try.prog (w.alloc (.cells (zs.map (Value.int .u8)).toArray 5)) = .ok (.string (numStr zs)) (w.alloc (.cells (zs.map (Value.int .u8)).toArray 5)) := by
  rw [run_convert_bytes_string _ 59 9 5 _ _ _ Try.underlying59 Try.underlying5 Try.underlying9]
  have hl := run_loadCells_list (P := Try.prog) (w.alloc (.cells (zs.map (Value.int .u8)).toArray 5)) ⟨w.heap.size, 0, none⟩ (zs.map (Value.int .u8)) (fun j v hj => by
    have ha : (Addr.mk w.heap.size 0 none).add j = ⟨w.heap.size, j, none⟩ := by
      by_cases h : j = 0
      · subst h; rfl
      · simp [Addr.add, h]
    rw [ha, World.cell?_alloc_at _ _ _ _ rfl]
    simpa using hj)
  simp only [List.length_map] at hl
  rw [run_bytesToString _ _ zs.length cap _ hl, foldl_push_nums]
  have he0 : ByteArray.empty.data = #[] := rfl
  rw [he0]
  simp [numStr]

end Go.Proofs.Ytkopmhmbldohdab

/- Plain words on rows of bytes that a call has made: their cells, one byte set, the text that they are; no conditions. -/
namespace Go.Proofs.Ytkopmhmbldohdab
open Go.ChangeShapes Go.WideShapes Go.ChangeAt Go.RowKit
set_option linter.unusedVariables false

/-- The cells of a row of bytes. -/
def bvals (l : List UInt8) : Array Value := (l.map fun x => Value.int .u8 (x.toNat : Int)).toArray
theorem bvals_size (l : List UInt8) : (bvals l).size = l.length := by simp [bvals]
theorem bvals_at (l : List UInt8) (i : Nat) (h : i < l.length) : (bvals l)[i]? = some (.int .u8 (l[i].toNat : Int)) := by simp [bvals, h]
theorem bvals_set (l : List UInt8) (i : Nat) (x : Nat) (hx : x < 256) : (bvals l).setIfInBounds i (.int .u8 (x : Int)) = bvals (l.set i (UInt8.ofNat x)) := by
  apply Array.ext'
  simp only [bvals, Array.toList_setIfInBounds, List.map_set]
  rw [UInt8.toNat_ofNat_of_lt' hx]
theorem bvals_made (n : Nat) : madeCells #[Value.int .u8 0] n = bvals (List.replicate n 0) := by
  have h := toList_madeCells_one (Value.int .u8 0) n
  apply Array.ext'
  rw [h]
  simp [bvals]
theorem infoByte : (Try.prog.info? 5).map (fun i => (i.zero, i.size, i.bytes)) = some (some (.int .u8 0), 1, 1) := by kernel_rfl
/-- make of so many bytes. -/
theorem make_bytes (n : Nat) (hn : n ≤ 100000) (w : World) : (Instr.makeSlice 59 (.int .i64 (n : Int)) (.int .i64 (n : Int))).run Try.prog w = .ok (.slice (some ⟨w.heap.size, 0, none⟩) n n) (w.alloc (.cells (bvals (List.replicate n 0)) 5)) := by
  rw [← bvals_made]
  exact run_make_row' 59 5 (.int .u8 0) 1 Try.underlying59 infoByte rfl .i64 .i64 n (by omega) (by omega) w
theorem conv_blk {W : World} {g : Nat} {l : List UInt8} {t : TypeId} (h : W.heap[g]? = some (.cells (bvals l) t (0, 0))) :
    (convert 59 9 (.slice (some ⟨g, 0, none⟩) l.length l.length)).run Try.prog W = .ok (.string (ba l)) W := by
  refine run_convert_bytes_back W 59 9 5 _ _ l Try.underlying59 Try.underlying5 Try.underlying9 ?_
  intro j hj
  rw [add_plain, Nat.zero_add, blk_cell h j, bvals_at l j hj]
theorem bset {W : World} {g k : Nat} {l : List UInt8} {t : TypeId} (h : W.heap[g]? = some (.cells (bvals l) t (0, 0))) (x : Nat) (hx : x < 256) (v : Int) (hv : v = (x : Int)) : (W.setCell ⟨g, k, none⟩ (.int .u8 v)).heap[g]? = some (.cells (bvals (l.set k (UInt8.ofNat x))) t (0, 0)) := by
  subst hv
  rw [← bvals_set _ _ _ hx]
  exact heap_setCell_same _ _ _ _ _ _ h
theorem numStr_one (n : Int) : numStr [n] = ba [UInt8.ofNat n.toNat] := rfl
end Go.Proofs.Ytkopmhmbldohdab

/- The calls Mark and Sync of package gate return what plain functions give, and make at most new memory; conditions: the row lies where it says, lengths fit int. -/
namespace Go.Proofs.Ytkopmhmbldohdab
open Go.ChangeShapes Go.WideShapes Go.ChangeAt Go.RowKit
set_option linter.unusedVariables false
attribute [local go_sem] cell_rg

theorem Sync_any (mm : Array Value) (mc ma mn mr : Int) (mz mh mt ml : ByteArray) (hM : MemW mm mc ma mn mr mz mh mt ml) (w : World) :
    Calls Try.prog 25 #[.agg mm] w fun e w' => e = .returned (.bool (decide (2 ≤ mr))) ∧ Below w.heap.size w w' := by
  have e8 := hM.c8
  have HB := hidden (ballc w (.cells mm 30))
  clear hM
  go_enter Try.func25, Try.ntmps25
  go_wp2
  go_ret
  exact ⟨rfl, HB.out⟩
set_option maxRecDepth 100000 in
set_option maxHeartbeats 4000000 in
theorem Mark_any (s : ByteArray) (n : Int) (a2 : Option Addr) (c2 : Nat) (vs : List Int) (w : World) (hs : s.size ≤ 9223372036854775807) (hlv : vs.length ≤ 9223372036854775807) (hV : kInt.Lies w.heap.size w (.slice a2 vs.length c2) vs) :
    Calls Try.prog 18 #[.string s, .int .i64 n, .slice a2 vs.length c2] w fun e w' => e = .returned (.string (markB s n vs)) ∧ Below w.heap.size w w' := by
  have HC := hidden (clamp_any n 0 64 w)
  rw [mkN_int] at HC
  have HR : Hid (markB s n vs = ba (markL s (mkN n) vs)) := rfl
  have hN := mkN_le n
  generalize markB s n vs = R at *
  generalize mkN n = N at *
  have hmb := make_bytes N (by omega) w
  have HX0 : Hid ((w.alloc (.cells (bvals (List.replicate N 0)) 5)).heap[w.heap.size]? = some (.cells (bvals (fillL 0 N (markU s []) 0)) 5 (0, 0))) := by
    show _ = _
    rw [fillL_0]
    exact blk_nw w _ _
  have HB3 := hidden (ballc w (.cells (bvals (List.replicate N 0)) 5))
  have HV := hidden hV
  clear hV
  go_enter Try.func18, Try.ntmps18
  go_wp2_with fail
  refine HC.out.mono ?_
  rintro e w2 ⟨rfl, rfl⟩
  go_wp2
  clear hmb
  generalize hw3 : w.alloc (.cells (bvals (List.replicate N 0)) 5) = w3 at *
  have hge : w.heap.size ≤ w.heap.size := Nat.le_refl _
  clear hw3
  go_loopw [16] (fun i wr => ∃ k : Nat, k ≤ N ∧ i = .int .i64 k ∧ wr.heap[w.heap.size]? = some (.cells (bvals (fillL 0 N (markU s []) k)) 5 (0, 0)) ∧ Below w.heap.size w wr) (fun i _ => N - (intV i).toNat)
  case atStart => exact ⟨0, Nat.zero_le _, rfl, HX0.out, HB3.out⟩
  case round =>
    obtain ⟨k, hk, rfl, hX, hB⟩ := hrel
    by_cases hlt : k < N
    · have i1 : (0 : Int) ≤ (k : Int) := by omega
      have i2 : (k : Int) < (N : Int) := by omega
      have HS := hidden (fillL_set (0 : UInt8) N (markU s []) k hlt)
      have c0 := blk_cell hX k
      rw [bvals_at _ k (by rw [fillL_len]; exact hlt)] at c0
      have f0 := blk_frozen hX k
      have l0 := blk_lt hX
      have HB4 := hidden (hB.setCell (p := ⟨w.heap.size, k, none⟩) hge (.int .u8 48))
      have HX4 := hidden (bset (k := k) hX 48 (by decide) 48 rfl)
      clear hX hB
      by_cases hlk : k < s.size
      · have i3 : (k : Int) < (s.size : Int) := by omega
        have i4 : decide ((k : Int) < (s.size : Int)) = true := decide_eq_true i3
        have i5 : decide (k < s.size) = true := decide_eq_true hlk
        by_cases h49 : ((s[k]'hlk).toNat : Int) = 49
        · have HD := hidden (markU_yes hlk h49)
          have d1 : (((s[k]'hlk).toNat : Int) == 49) = true := beq_iff_eq.2 h49
          have c1 := blk_cell HX4.out k
          rw [bvals_at _ k (by rw [List.length_set, fillL_len]; exact hlt)] at c1
          have f1 := blk_frozen HX4.out k
          have l1 := blk_lt HX4.out
          have HB5 := hidden (HB4.out.setCell (p := ⟨w.heap.size, k, none⟩) hge (.int .u8 49))
          have HX5 := hidden (bset (k := k) HX4.out 49 (by decide) 49 rfl)
          rw [List.set_set, ← HD.out, HS.out] at HX5
          go_wp2
          go_roundw
          case rel => exact ⟨k + 1, by omega, by go_num, HX5.out, HB5.out⟩
          case measure => simp [intV]; omega
        · have HD := hidden (markU_no hlk h49)
          have d1 : (((s[k]'hlk).toNat : Int) == 49) = false := beq_eq_false_iff_ne.2 h49
          rw [← HD.out, HS.out] at HX4
          go_wp2
          go_roundw
          case rel => exact ⟨k + 1, by omega, by go_num, HX4.out, HB4.out⟩
          case measure => simp [intV]; omega
      · have i3 : ¬ (k : Int) < (s.size : Int) := by omega
        have i4 : decide ((k : Int) < (s.size : Int)) = false := decide_eq_false i3
        have i5 : decide (k < s.size) = false := decide_eq_false hlk
        have HD := hidden (markU_out hlk)
        rw [← HD.out, HS.out] at HX4
        go_wp2
        go_roundw
        case rel => exact ⟨k + 1, by omega, by go_num, HX4.out, HB4.out⟩
        case measure => simp [intV]; omega
    · obtain rfl : k = N := by omega
      have i2 : ¬ (k : Int) < (k : Int) := by omega
      rw [← markL_none] at hX
      have HX := hidden hX
      have HB := hidden hB
      clear hX hB HX0 HB3
      go_wp2
      go_loopw [38] (fun i wr => ∃ j : Nat, j ≤ vs.length ∧ i = .int .i64 j ∧ wr.heap[w.heap.size]? = some (.cells (bvals (markL s k (vs.take j))) 5 (0, 0)) ∧ Below w.heap.size w wr) (fun i _ => vs.length - (intV i).toNat)
      case atStart => exact ⟨0, Nat.zero_le _, rfl, HX.out, HB.out⟩
      case round =>
        clear HX HB
        obtain ⟨j, hj, rfl, hX, hB⟩ := hrel
        by_cases hlt : j < vs.length
        · obtain ⟨b, off, rfl, hbl, e0⟩ := kInt_at (HV.out.below hB) j hlt
          have HS := hidden (take_snocV vs hlt)
          have i1 : (0 : Int) ≤ (j : Int) := by omega
          have i2 : (j : Int) < (vs.length : Int) := by omega
          generalize vs[j] = z at *
          by_cases h0 : 0 ≤ z
          · have j0 : decide (0 ≤ z) = true := decide_eq_true h0
            by_cases h1 : z < (k : Int)
            · have j1 : decide (z < (k : Int)) = true := decide_eq_true h1
              obtain ⟨q, rfl⟩ := Int.eq_ofNat_of_zero_le h0
              have HS2 := hidden (markL_in s k (vs.take j) q)
              have c0 := blk_cell hX q
              rw [bvals_at _ q (by rw [markL_len]; omega)] at c0
              have f0 := blk_frozen hX q
              have l0 := blk_lt hX
              have HB4 := hidden (hB.setCell (p := ⟨w.heap.size, q, none⟩) hge (.int .u8 49))
              have HX4 := hidden (bset (k := q) hX 49 (by decide) 49 rfl)
              rw [HS2.out, ← HS.out] at HX4
              clear hX hB
              go_wp2
              go_roundw
              case rel => exact ⟨j + 1, by omega, by go_num, HX4.out, HB4.out⟩
              case measure => simp [intV]; omega
            · have j1 : decide (z < (k : Int)) = false := decide_eq_false h1
              have HX4 := hidden hX
              rw [← markL_out s k (vs.take j) z (by omega), ← HS.out] at HX4
              have HB4 := hidden hB
              clear hX hB
              go_wp2
              go_roundw
              case rel => exact ⟨j + 1, by omega, by go_num, HX4.out, HB4.out⟩
              case measure => simp [intV]; omega
          · have j0 : decide (0 ≤ z) = false := decide_eq_false h0
            have HX4 := hidden hX
            rw [← markL_out s k (vs.take j) z (by omega), ← HS.out] at HX4
            have HB4 := hidden hB
            clear hX hB
            go_wp2
            go_roundw
            case rel => exact ⟨j + 1, by omega, by go_num, HX4.out, HB4.out⟩
            case measure => simp [intV]; omega
        · obtain rfl : j = vs.length := by omega
          have i2 : ¬ (vs.length : Int) < (vs.length : Int) := by omega
          rw [List.take_length] at hX
          have hcv := conv_blk hX
          rw [markL_len] at hcv
          have HB := hidden hB
          clear hX hB
          rw [← HR.out] at hcv
          go_wp2
          go_ret
          exact ⟨rfl, HB.out⟩
end Go.Proofs.Ytkopmhmbldohdab

/- The document's call In of layer 14 tells whether a number is in a row, and leaves all as it was; conditions: the row lies where it says, and lengths fit int. -/
namespace Go.Proofs.Ytkopmhmbldohdab
open Go.ChangeShapes Go.WideShapes Go.ChangeAt Go.RowKit
set_option linter.unusedVariables false
attribute [local go_sem] cell_rg

end Go.Proofs.Ytkopmhmbldohdab

/- The integer calls Clamp, Mod and Sat of the document's answer for layer 1 return what plain functions on integers give, and leave the world as it was; for integers that fit int. -/
namespace Go.Proofs.Ytkopmhmbldohdab
open Go.ChangeShapes Go.WideShapes Go.ChangeAt Go.RowKit
set_option linter.unusedVariables false

theorem rmod_any (n b : Int) (w : World) (hn : (Lit.int .i64 n).wf = true) (hb : (Lit.int .i64 b).wf = true) :
    Calls Try.prog 29 #[.int .i64 n, .int .i64 b] w fun e w' => e = .returned (.int .i64 (modF n b)) ∧ w = w' := by
  have bn := bd64 hn
  have bb := bd64 hb
  by_cases h1 : b < 1
  · have e : modF n b = 0 := by unfold modF; rw [if_pos h1]
    rw [e]; clear e
    go_enter Try.func29, Try.ntmps29
    go_wp2
    go_ret
    exact ⟨rfl, rfl⟩
  · by_cases h2 : n.tmod b < 0
    · have e : modF n b = n.tmod b + b := by unfold modF; rw [if_neg h1, if_pos h2]
      rw [e]; clear e
      have hr : -b < n.tmod b := by have := Int.lt_tmod_of_pos n (show 0 < b by omega); omega
      go_enter Try.func29, Try.ntmps29
      go_wp2
      go_ret
      exact ⟨rfl, rfl⟩
    · have e : modF n b = n.tmod b := by unfold modF; rw [if_neg h1, if_neg h2]
      rw [e]; clear e
      go_enter Try.func29, Try.ntmps29
      go_wp2
      go_ret
      exact ⟨rfl, rfl⟩
end Go.Proofs.Ytkopmhmbldohdab

/- The document's calls Has, Mark and Sync of layer 23 return what plain functions give, and make at most new memory; conditions: the row lies where it says, lengths fit int. -/
namespace Go.Proofs.Ytkopmhmbldohdab
open Go.ChangeShapes Go.WideShapes Go.ChangeAt Go.RowKit
set_option linter.unusedVariables false
attribute [local go_sem] cell_rg

theorem sentB_at {s : ByteArray} {k : Nat} (h : k < s.size) : sentB s k = (((s[k]'h).toNat : Int) == 49) := by
  by_cases e : ((s[k]'h).toNat : Int) = 49
  · have h1 := markU_yes h e
    rw [beq_iff_eq.2 e]
    unfold markU markP at h1
    cases hs : sentB s k
    · rw [hs] at h1; simp at h1
    · rfl
  · have h1 := markU_no h e
    rw [beq_eq_false_iff_ne.2 e]
    unfold markU markP at h1
    cases hs : sentB s k
    · rfl
    · rw [hs] at h1; simp at h1
theorem sentB_out {s : ByteArray} {k : Nat} (h : ¬ k < s.size) : sentB s k = false := by unfold sentB; rw [decide_eq_false h]; rfl
theorem rSync_any (mm : Array Value) (mc ma mn mr : Int) (mz mh mt ml : ByteArray) (hM : MemW mm mc ma mn mr mz mh mt ml) (w : World) :
    Calls Try.prog 15 #[.agg mm] w fun e w' => e = .returned (.bool (decide (2 ≤ mr))) ∧ Below w.heap.size w w' := by
  have e8 := hM.c8
  have HB := hidden (ballc w (.cells mm 30))
  clear hM
  go_enter Try.func15, Try.ntmps15
  go_wp2
  go_ret
  exact ⟨rfl, HB.out⟩
theorem rHas_any (s : ByteArray) (z : Int) (w : World) (hs : s.size ≤ 9223372036854775807) :
    Calls Try.prog 11 #[.string s, .int .i64 z] w fun e w' => e = .returned (.bool (hasI s z)) ∧ w = w' := by
  by_cases h0 : 0 ≤ z
  · have d0 : decide (0 ≤ z) = true := decide_eq_true h0
    obtain ⟨k, rfl⟩ := Int.eq_ofNat_of_zero_le h0
    rw [hasI_nat]
    by_cases h1 : k < s.size
    · have i3 : (k : Int) < (s.size : Int) := by omega
      have d1 : decide ((k : Int) < (s.size : Int)) = true := decide_eq_true i3
      have d2 : decide (k < s.size) = true := decide_eq_true h1
      have HD := hidden (sentB_at h1)
      generalize sentB s k = R at *
      go_enter Try.func11, Try.ntmps11
      go_wp2
      go_ret
      exact ⟨ret_b HD.out.symm, rfl⟩
    · have i3 : ¬ (k : Int) < (s.size : Int) := by omega
      have d1 : decide ((k : Int) < (s.size : Int)) = false := decide_eq_false i3
      have d2 : decide (k < s.size) = false := decide_eq_false h1
      rw [sentB_out h1]
      go_enter Try.func11, Try.ntmps11
      go_wp2
      go_ret
      exact ⟨rfl, rfl⟩
  · have d0 : decide (0 ≤ z) = false := decide_eq_false h0
    rw [hasI_neg h0]
    go_enter Try.func11, Try.ntmps11
    go_wp2
    go_ret
    exact ⟨rfl, rfl⟩
end Go.Proofs.Ytkopmhmbldohdab

/- The calls Slot, Owner, owners, wasSentIn and isTime of package sched return what plain functions give, and make at most new memory; conditions: the table lies where it says, its length and the numbers fit int. -/
namespace Go.Proofs.Ytkopmhmbldohdab
open Go.ChangeShapes Go.WideShapes Go.ChangeAt Go.RowKit
set_option linter.unusedVariables false
attribute [local go_sem] cell_rg


/-- The table of what is plain. -/
theorem owners_any (n f d p r dr o sl md fr : Int) (ad : Option Addr) (cap : Nat) (zs : List Int) (w : World) (hl : zs.length ≤ 9223372036854775807) (hT : Tab w ad zs) :
    Calls Try.prog 38 #[.agg #[.int .i64 n, .int .i64 f, .int .i64 d, .int .i64 p, .int .i64 r, .int .i64 dr, .int .i64 o, .int .i64 sl, .int .i64 md, .int .i64 fr, .slice ad zs.length cap]] w fun e w' => e = .returned (if plainE n f d p r dr o sl md fr zs = 0 then .slice ad zs.length cap else .slice none 0 0) ∧ Below w.heap.size w w' := by
  have HT := hidden (hT.below (ballc w (.cells #[.int .i64 n, .int .i64 f, .int .i64 d, .int .i64 p, .int .i64 r, .int .i64 dr, .int .i64 o, .int .i64 sl, .int .i64 md, .int .i64 fr, .slice ad zs.length cap] 24)))
  have HP := hidden (plain_any n f d p r dr o sl md fr ad cap zs (w.alloc (.cells #[.int .i64 n, .int .i64 f, .int .i64 d, .int .i64 p, .int .i64 r, .int .i64 dr, .int .i64 o, .int .i64 sl, .int .i64 md, .int .i64 fr, .slice ad zs.length cap] 24)) hl HT.out)
  clear hT
  generalize plainE n f d p r dr o sl md fr zs = E at *
  by_cases hE : E = 0
  · rw [if_pos hE]
    subst hE
    go_enter Try.func38, Try.ntmps38
    go_wp2_with fail
    refine HP.out.mono ?_
    rintro e w2 ⟨rfl, hb2⟩
    have HB2 := hidden hb2
    clear hb2
    obtain ⟨hbox, hsz⟩ := box_at HB2.out
    go_wp2
    go_ret
    exact ⟨rfl, bthen (ballc w _) HB2.out⟩
  · rw [if_neg hE]
    go_enter Try.func38, Try.ntmps38
    go_wp2_with fail
    refine HP.out.mono ?_
    rintro e w2 ⟨rfl, hb2⟩
    have HB2 := hidden hb2
    clear hb2
    go_wp2
    go_ret
    exact ⟨rfl, bthen (ballc w _) HB2.out⟩

set_option maxHeartbeats 1000000 in
theorem SOwner_any (n f d p r dr o sl md fr : Int) (ad : Option Addr) (cap : Nat) (zs : List Int) (s : Int) (w : World) (hs : -9223372036854775808 ≤ s ∧ s ≤ 9223372036854775807) (hl : zs.length ≤ 9223372036854775807) (hT : Tab w ad zs) :
    Calls Try.prog 26 #[.agg #[.int .i64 n, .int .i64 f, .int .i64 d, .int .i64 p, .int .i64 r, .int .i64 dr, .int .i64 o, .int .i64 sl, .int .i64 md, .int .i64 fr, .slice ad zs.length cap], .int .i64 s] w fun e w' => e = .returned (.int .i64 (ownF (plainE n f d p r dr o sl md fr zs) zs s)) ∧ Below w.heap.size w w' := by
  have HT := hidden (hT.below (ballc w (.cells #[.int .i64 n, .int .i64 f, .int .i64 d, .int .i64 p, .int .i64 r, .int .i64 dr, .int .i64 o, .int .i64 sl, .int .i64 md, .int .i64 fr, .slice ad zs.length cap] 24)))
  have HO := hidden (owners_any n f d p r dr o sl md fr ad cap zs (w.alloc (.cells #[.int .i64 n, .int .i64 f, .int .i64 d, .int .i64 p, .int .i64 r, .int .i64 dr, .int .i64 o, .int .i64 sl, .int .i64 md, .int .i64 fr, .slice ad zs.length cap] 24)) hl HT.out)
  have hF : plainE n f d p r dr o sl md fr zs = 0 ∧ 0 ≤ s ∧ s < (zs.length : Int) ∨ ¬ (plainE n f d p r dr o sl md fr zs = 0 ∧ 0 ≤ s ∧ s < (zs.length : Int)) := Classical.em _
  have HV : Hid (ownF (plainE n f d p r dr o sl md fr zs) zs s = if plainE n f d p r dr o sl md fr zs = 0 ∧ 0 ≤ s ∧ s < (zs.length : Int) then zs.getD s.toNat 0 else -1) := rfl
  clear hT
  generalize ownF (plainE n f d p r dr o sl md fr zs) zs s = R at *
  generalize plainE n f d p r dr o sl md fr zs = E at *
  by_cases h0 : s < 0
  · have HR : Hid (R = -1) := by rw [HV.out]; exact if_neg (fun c => by omega)
    have e1 : decide (s < 0) = true := decide_eq_true h0
    clear hF HV h0
    generalize (if E = 0 then Value.slice ad zs.length cap else Value.slice none 0 0) = sv at *
    go_enter Try.func26, Try.ntmps26
    go_wp2_with fail
    refine HO.out.mono ?_
    rintro e w2 ⟨rfl, hb2⟩
    have HB2 := hidden hb2
    clear hb2
    go_wp2
    go_ret
    exact ⟨ret_i HR.out.symm, bthen (ballc w _) HB2.out⟩
  have e1 : decide (s < 0) = false := decide_eq_false h0
  by_cases hE : E = 0
  case neg =>
    have HR : Hid (R = -1) := by rw [HV.out]; exact if_neg (fun c => hE c.1)
    rw [if_neg hE] at HO
    have e2 : (0 : Int) ≤ s := by omega
    clear hF HV hE h0
    go_enter Try.func26, Try.ntmps26
    go_wp2_with fail
    refine HO.out.mono ?_
    rintro e w2 ⟨rfl, hb2⟩
    have HB2 := hidden hb2
    clear hb2
    go_wp2
    go_ret
    exact ⟨ret_i HR.out.symm, bthen (ballc w _) HB2.out⟩
  rw [if_pos hE] at HO
  obtain ⟨k, rfl⟩ := Int.eq_ofNat_of_zero_le (show 0 ≤ s by omega)
  by_cases h2 : zs.length ≤ k
  · have HR : Hid (R = -1) := by rw [HV.out]; exact if_neg (fun c => by omega)
    have e2 : decide ((zs.length : Int) ≤ (k : Int)) = true := decide_eq_true (by omega)
    clear hF HV hE h0
    go_enter Try.func26, Try.ntmps26
    go_wp2_with fail
    refine HO.out.mono ?_
    rintro e w2 ⟨rfl, hb2⟩
    have HB2 := hidden hb2
    clear hb2
    go_wp2
    go_ret
    exact ⟨ret_i HR.out.symm, bthen (ballc w _) HB2.out⟩
  · have hlt : k < zs.length := by omega
    have HR : Hid (R = zs.getD k 0) := by rw [HV.out]; exact if_pos ⟨hE, by omega, by omega⟩
    have e2 : decide ((zs.length : Int) ≤ (k : Int)) = false := decide_eq_false (by omega)
    have i1 : (0 : Int) ≤ (k : Int) := by omega
    have i2 : (k : Int) < (zs.length : Int) := by omega
    obtain ⟨a, ha, hc⟩ := HT.out k hlt
    subst ha
    clear hF HV hE h0
    go_enter Try.func26, Try.ntmps26
    go_wp2_with fail
    refine HO.out.mono ?_
    rintro e w2 ⟨rfl, hb2⟩
    have HB2 := hidden hb2
    have hc2 := (HT.out.below HB2.out).at k hlt
    clear hb2 hc
    go_wp2
    go_ret
    exact ⟨ret_i (by rw [HR.out]; simp [hlt]), bthen (ballc w _) HB2.out⟩
end Go.Proofs.Ytkopmhmbldohdab

/- The calls of package ring and of the document's answer on clocks return what plain functions on integers give, and leave the world as it was; for integers that fit int. -/
namespace Go.Proofs.Ytkopmhmbldohdab
open Go.ChangeShapes Go.WideShapes Go.ChangeAt Go.RowKit
set_option linter.unusedVariables false

def signedF (a b : Int) : Int := if (a - b) % 65536 < 32768 then (a - b) % 65536 else (a - b) % 65536 - 65536
theorem tmod_neg (n : Int) (h : n.tmod 65536 < 0) : n.tmod 65536 + 65536 = n % 65536 := by
  have h1 := Int.mul_tdiv_add_tmod n 65536
  have h2 : -65536 < n.tmod 65536 := by
    by_cases h0 : 0 ≤ n
    · have := Int.tmod_nonneg 65536 h0; omega
    · have e : n.tmod 65536 = -((-n).tmod 65536) := by rw [Int.neg_tmod]; omega
      have := Int.tmod_lt_of_pos (-n) (b := 65536) (by omega)
      omega
  omega
theorem tmod_pos (n : Int) (h : ¬ n.tmod 65536 < 0) : n.tmod 65536 = n % 65536 := by
  have h1 := Int.mul_tdiv_add_tmod n 65536
  have h2 := Int.tmod_lt_of_pos n (b := 65536) (by omega)
  omega
theorem nmod_any (n : Int) (w : World) :
    Calls Try.prog 51 #[.int .i64 n, .int .i64 65536] w fun e w' => e = .returned (.int .i64 (n % 65536)) ∧ w = w' := by
  have hr : -65536 < n.tmod 65536 := by have := Int.lt_tmod_of_pos n (show (0 : Int) < 65536 by omega); omega
  by_cases h : n.tmod 65536 < 0
  · rw [← tmod_neg n h]
    go_enter Try.func51, Try.ntmps51
    go_wp2
    go_ret
    exact ⟨rfl, rfl⟩
  · rw [← tmod_pos n h]
    go_enter Try.func51, Try.ntmps51
    go_wp2
    go_ret
    exact ⟨rfl, rfl⟩
theorem read_any (n : Int) (w : World) :
    Calls Try.prog 47 #[.int .i64 n] w fun e w' => e = .returned (.int .i64 (n % 65536)) ∧ w = w' := by
  go_enter Try.func47, Try.ntmps47
  go_wp2_with (go_at_call 51; refine (nmod_any _ _).mono ?_; rintro e w' ⟨rfl, rfl⟩)
  go_ret
  exact ⟨rfl, rfl⟩
theorem since_any (a b : Int) (w : World) (ha : 0 ≤ a ∧ a < 65536) (hb : 0 ≤ b ∧ b < 65536) :
    Calls Try.prog 41 #[.int .i64 a, .int .i64 b] w fun e w' => e = .returned (.int .i64 ((a - b) % 65536)) ∧ w = w' := by
  have t1 : IntKind.i64.wrap (a - b) = a - b := IntWalk.i64_in _ (by omega)
  go_enter Try.func41, Try.ntmps41
  go_wp2_with (go_at_call 47; refine (read_any _ _).mono ?_; rintro e w' ⟨rfl, rfl⟩)
  go_ret
  exact ⟨rfl, rfl⟩
theorem bothSince_any (a b : Int) (w : World) :
    Calls Try.prog 40 #[.func (.func 41) #[] #[], .int .i64 a, .int .i64 b] w fun e w' => e = .returned (.int .i64 ((a - b) % 65536)) ∧ w = w' := by
  have em : (a % 65536 - b % 65536) % 65536 = (a - b) % 65536 := by omega
  go_enter Try.func40, Try.ntmps40
  go_wp2_with (first
    | (go_at_call 47; refine (read_any _ _).mono ?_; rintro e w' ⟨rfl, rfl⟩)
    | (go_at_call 41; refine (since_any _ _ _ (by omega) (by omega)).mono ?_; rintro e w' ⟨rfl, rfl⟩))
  go_ret
  exact ⟨rfl, rfl⟩
theorem Diff_any (a b : Int) (w : World) :
    Calls Try.prog 35 #[.int .i64 a, .int .i64 b] w fun e w' => e = .returned (.int .i64 ((a - b) % 65536)) ∧ w = w' := by
  go_enter Try.func35, Try.ntmps35
  go_wp2_with (go_at_call 40; refine (bothSince_any _ _ _).mono ?_; rintro e w' ⟨rfl, rfl⟩)
  go_ret
  exact ⟨rfl, rfl⟩
end Go.Proofs.Ytkopmhmbldohdab

/- The calls Guard, Settle and All of package bound return what the document says, and make at most new memory; conditions: the table lies where it says, and its length fits int. -/
namespace Go.Proofs.Ytkopmhmbldohdab
open Go.ChangeShapes Go.WideShapes Go.ChangeAt Go.RowKit
set_option linter.unusedVariables false
attribute [local go_sem] cell_rg

set_option maxHeartbeats 1000000 in
theorem BGuard_any (n f d p r dr o sl md fr : Int) (ad : Option Addr) (cap : Nat) (zs : List Int) (w : World) (hl : zs.length ≤ 9223372036854775807) (hT : Tab w ad zs) :
    Calls Try.prog 37 #[.agg #[.int .i64 n, .int .i64 f, .int .i64 d, .int .i64 p, .int .i64 r, .int .i64 dr, .int .i64 o, .int .i64 sl, .int .i64 md, .int .i64 fr, .slice ad zs.length cap]] w fun e w' => e = .returned (.int .i64 (gate (plainE n f d p r dr o sl md fr zs) (guardF d r dr (lastE o sl zs)))) ∧ Below w.heap.size w w' := by
  have HT := hidden (hT.below (Joins.below_alloc2 w (.cells #[.int .i64 n, .int .i64 f, .int .i64 d, .int .i64 p, .int .i64 r, .int .i64 dr, .int .i64 o, .int .i64 sl, .int .i64 md, .int .i64 fr, .slice ad zs.length cap] 24) (.cells #[.int .i64 n, .int .i64 f, .int .i64 d, .int .i64 p, .int .i64 r, .int .i64 dr, .int .i64 o, .int .i64 sl, .int .i64 md, .int .i64 fr, .slice ad zs.length cap] 80)))
  have HP := hidden (cPlain_any n f d p r dr o sl md fr ad cap zs ((w.alloc (.cells #[.int .i64 n, .int .i64 f, .int .i64 d, .int .i64 p, .int .i64 r, .int .i64 dr, .int .i64 o, .int .i64 sl, .int .i64 md, .int .i64 fr, .slice ad zs.length cap] 24)).alloc (.cells #[.int .i64 n, .int .i64 f, .int .i64 d, .int .i64 p, .int .i64 r, .int .i64 dr, .int .i64 o, .int .i64 sl, .int .i64 md, .int .i64 fr, .slice ad zs.length cap] 80)) hl HT.out)
  clear hT
  by_cases hE : plainE n f d p r dr o sl md fr zs = 0
  · have HI := hidden (fun (v : World) (h : Tab v ad zs) => guard_any n f d p r dr o sl md fr ad cap zs v hE)
    have HG : Hid (gate (plainE n f d p r dr o sl md fr zs) (guardF d r dr (lastE o sl zs)) = guardF d r dr (lastE o sl zs)) := by rw [hE]; exact gate_ok _
    obtain ⟨_, _, f1, f2, _, d1, d2, _, p2, _⟩ := plainE_ok hE
    have p1 := plainE_p hE
    have hd : decide (plainE n f d p r dr o sl md fr zs = 0) = true := decide_eq_true hE
    rw [hd] at HP
    clear hd hE
    go_enter Try.func37, Try.ntmps37
    go_wp2_with fail
    refine HP.out.mono ?_
    rintro e w2 ⟨rfl, hb2⟩
    have HB2 := hidden hb2
    clear hb2
    obtain ⟨hbox, hbox1, hsz⟩ := box_at2 HB2.out
    go_wp2_with fail
    refine (HI.out _ (HT.out.below HB2.out)).mono ?_
    rintro e w3 ⟨rfl, hb3⟩
    have HB3 := hidden (bthen HB2.out hb3)
    clear hb3 hbox hbox1 hsz
    go_wp2
    go_ret
    exact ⟨ret_i HG.out.symm, bthen (Joins.below_alloc2 _ _ _) HB3.out⟩
  · have HG := hidden (gate_no hE (guardF d r dr (lastE o sl zs)))
    have hd : decide (plainE n f d p r dr o sl md fr zs = 0) = false := decide_eq_false hE
    rw [hd] at HP
    clear hd hE
    go_enter Try.func37, Try.ntmps37
    go_wp2_with fail
    refine HP.out.mono ?_
    rintro e w2 ⟨rfl, hb2⟩
    have HB2 := hidden hb2
    clear hb2
    go_wp2
    go_ret
    exact ⟨ret_i HG.out.symm, bthen (Joins.below_alloc2 _ _ _) HB2.out⟩
end Go.Proofs.Ytkopmhmbldohdab

/- The calls Elapsed, Now, canBe, Nominal, first and Clear of package slot return what plain functions give, and make at most new memory; conditions: the table lies where it says, its length and the numbers fit int. -/
namespace Go.Proofs.Ytkopmhmbldohdab
open Go.ChangeShapes Go.WideShapes Go.ChangeAt Go.RowKit Go.Shelf
set_option linter.unusedVariables false
attribute [local go_sem] cell_rg

theorem Elapsed_any (a b : Int) (w : World) :
    Calls Try.prog 23 #[.int .i64 a, .int .i64 b] w fun e w' => e = .returned (.int .i64 ((a - b) % 65536)) ∧ w = w' := by
  go_enter Try.func23, Try.ntmps23
  go_wp2_with (go_at_call 35; refine (Diff_any _ _ _).mono ?_; rintro e w' ⟨rfl, rfl⟩)
  go_ret
  exact ⟨rfl, rfl⟩
theorem wrap64_bd (x : Int) : -9223372036854775808 ≤ wrap64 x ∧ wrap64 x ≤ 9223372036854775807 := by unfold wrap64; omega

end Go.Proofs.Ytkopmhmbldohdab

/- The calls Window, isWithin and Hit of package slot return what plain functions give, and make at most new memory; conditions: the table lies where it says, its length and the numbers fit int. -/
namespace Go.Proofs.Ytkopmhmbldohdab
open Go.ChangeShapes Go.WideShapes Go.ChangeAt Go.RowKit Go.Shelf
set_option linter.unusedVariables false
attribute [local go_sem] cell_rg

theorem ret2_ii {a b c d : Int} (h : a = c) (k : b = d) : Ending.returned (.tuple #[.int .i64 a, .int .i64 b]) = .returned (.tuple #[.int .i64 c, .int .i64 d]) := by rw [h, k]
theorem own_pos {n : Int} {zs : List Int} (h : ownsB n zs = true) {k : Nat} (hk : k < zs.length) : 0 ≤ zs.getD k 0 := ((ownsB_iff.1 h).1 (zs.getD k 0) (by simp [hk])).1

set_option maxHeartbeats 1000000 in
theorem Window_any (n f d p r dr o sl md fr : Int) (ad : Option Addr) (cap : Nat) (zs : List Int) (s : Int) (w : World) (hs : -9223372036854775808 ≤ s ∧ s ≤ 9223372036854775807) (hl : zs.length ≤ 9223372036854775807) (hT : Tab w ad zs) :
    Calls Try.prog 24 #[.agg #[.int .i64 n, .int .i64 f, .int .i64 d, .int .i64 p, .int .i64 r, .int .i64 dr, .int .i64 o, .int .i64 sl, .int .i64 md, .int .i64 fr, .slice ad zs.length cap], .int .i64 s] w fun e w' => e = .returned (.tuple #[.int .i64 (win1 (plainE n f d p r dr o sl md fr zs) d r (guardF d r dr (lastE o sl zs)) o sl zs.length s), .int .i64 (win2 (plainE n f d p r dr o sl md fr zs) d r (guardF d r dr (lastE o sl zs)) o sl zs.length s)]) ∧ Below w.heap.size w w' := by
  have HT := hidden (hT.below (ballc w (.cells #[.int .i64 n, .int .i64 f, .int .i64 d, .int .i64 p, .int .i64 r, .int .i64 dr, .int .i64 o, .int .i64 sl, .int .i64 md, .int .i64 fr, .slice ad zs.length cap] 24)))
  have HO := hidden (SOwner_any n f d p r dr o sl md fr ad cap zs s (w.alloc (.cells #[.int .i64 n, .int .i64 f, .int .i64 d, .int .i64 p, .int .i64 r, .int .i64 dr, .int .i64 o, .int .i64 sl, .int .i64 md, .int .i64 fr, .slice ad zs.length cap] 24)) hs hl HT.out)
  have HM := hidden (fun V h => BMiddle_any n f d p r dr o sl md fr ad cap zs s V hl h)
  have HG := hidden (fun V h => BGuard_any n f d p r dr o sl md fr ad cap zs V hl h)
  clear hT
  by_cases hin : plainE n f d p r dr o sl md fr zs = 0 ∧ 0 ≤ s ∧ s < (zs.length : Int)
  · obtain ⟨hE, s1, s2⟩ := hin
    obtain ⟨k, rfl⟩ := Int.eq_ofNat_of_zero_le s1
    have hk : k < zs.length := by omega
    obtain ⟨M1, M2⟩ := lastE_bd hE
    obtain ⟨_, _, _, _, _, d1, d2, _, _, r1, r2, dr1, dr2, o1, o2, sl1, sl2, _, _, _, _, z1, z2, zo⟩ := plainE_ok hE
    have ho := own_pos zo hk
    obtain ⟨g1, g2⟩ := guardF_in d1 d2 r1 r2 dr1 dr2 M1 M2
    obtain ⟨m1, m2⟩ := midE_bd (s := (k : Int)) s1 (by omega) o1 o2 sl1 sl2
    obtain ⟨q0, q1⟩ := mul_bd (show 0 ≤ d by omega) d2 (show 0 ≤ r by omega) r2
    rw [hE] at HO HM HG ⊢
    rw [ownF_in hk] at HO
    rw [slotB_yes s1 s2] at HM
    simp only [placeE_yes] at HM
    simp only [gate_ok] at HG
    rw [win1_in hk, win2_in hk]
    unfold winLo winHi
    generalize zs.getD k 0 = ow at *
    generalize midE o sl (k : Int) = M at *
    generalize guardF d r dr (lastE o sl zs) = G at *
    generalize hdr : d * r = P at *
    have t1 : IntKind.i64.wrap P = P := IntWalk.i64_in _ (by omega)
    have t2 : IntKind.i64.wrap (M + P) = M + P := IntWalk.i64_in _ (by omega)
    have e0 : (ow == -1) = false := by rw [beq_eq_false_iff_ne]; omega
    clear hE M1 M2 zo ho
    go_enter Try.func24, Try.ntmps24
    go_wp2_with fail
    refine HO.out.mono ?_
    rintro e w2 ⟨rfl, hb2⟩
    have HB2 := hidden hb2
    have HT2 := hidden (HT.out.below hb2)
    clear hb2
    obtain ⟨hbox, hsz⟩ := box_at HB2.out
    go_wp2
    refine wp_region_quiet_below (by kernel_rfl) (by kernel_rfl) ?_
    repeat (go_big_quiet_step ((go_at_call 36; exact Calls.regrown_of (HM.out _ (HT2.out.below (below_regrown _ _ _))))))
    refine wpQuiet_nil ?_
    intro w3 hw3
    have HB3 := hidden (bthen HB2.out (rg_below hw3))
    have HT3 := hidden (HT2.out.below (rg_below hw3))
    clear hw3 hbox hsz t1 t2
    obtain ⟨hbox, hsz⟩ := box_at HB3.out
    go_wp2_with fail
    refine (HG.out _ HT3.out).mono ?_
    rintro e w4 ⟨rfl, hb4⟩
    have HB4 := hidden (bthen HB3.out hb4)
    clear hb4 hbox hsz
    go_wp2
    refine bodyPost_ret (v := .tuple #[.int .i64 (M + P - G), .int .i64 (M + P + G)]) (by simp [results, Try.results24, go_sem]) rfl ⟨rfl, bthen (ballc w _) HB4.out⟩
  · have hO : ownF (plainE n f d p r dr o sl md fr zs) zs s = -1 := by
      by_cases hE : plainE n f d p r dr o sl md fr zs = 0
      · exact ownF_no (fun c => hin ⟨hE, c⟩)
      · exact ownF_err hE
    rw [hO] at HO
    rw [win1_no hin, win2_no hin]
    clear hin hO HM HG
    go_enter Try.func24, Try.ntmps24
    go_wp2_with fail
    refine HO.out.mono ?_
    rintro e w2 ⟨rfl, hb2⟩
    have HB2 := hidden hb2
    clear hb2
    go_wp2
    refine bodyPost_ret (v := .tuple #[.int .i64 0, .int .i64 0]) (by simp [results, Try.results24, go_sem]) rfl ⟨rfl, bthen (ballc w _) HB2.out⟩


end Go.Proofs.Ytkopmhmbldohdab

/- The calls wasHeardIn and Check of package accept return what plain functions give, and make at most new memory; conditions: the table lies where it says, lengths and numbers fit int. -/
namespace Go.Proofs.Ytkopmhmbldohdab
open Go.ChangeShapes Go.WideShapes Go.ChangeAt Go.RowKit
set_option linter.unusedVariables false
attribute [local go_sem] cell_rg
attribute [local go_sem ↓] ldM_eq

theorem wasHeardIn_any (mm : Array Value) (mc ma mn mr : Int) (mz mh mt ml : ByteArray) (hM : MemW mm mc ma mn mr mz mh mt ml) (k : Nat) (w : World) (hs : mh.size ≤ 9223372036854775807) :
    Calls Try.prog 27 #[.agg mm, .int .i64 (k : Int)] w fun e w' => e = .returned (.bool (sentB mh k)) ∧ Below w.heap.size w w' := by
  have HB := hidden (ballc w (.cells mm 30))
  have c11 := hM.c11
  clear hM
  by_cases h1 : k < mh.size
  · have i3 : (k : Int) < (mh.size : Int) := by omega
    have d1 : decide ((k : Int) < (mh.size : Int)) = true := decide_eq_true i3
    have d2 : decide (k < mh.size) = true := decide_eq_true h1
    have HD := hidden (sentB_at h1)
    generalize sentB mh k = R at *
    go_enter Try.func27, Try.ntmps27
    go_wp2
    go_ret
    exact ⟨ret_b HD.out.symm, HB.out⟩
  · have i3 : ¬ (k : Int) < (mh.size : Int) := by omega
    have d1 : decide ((k : Int) < (mh.size : Int)) = false := decide_eq_false i3
    have d2 : decide (k < mh.size) = false := decide_eq_false h1
    rw [sentB_out h1]
    go_enter Try.func27, Try.ntmps27
    go_wp2
    go_ret
    exact ⟨rfl, HB.out⟩
set_option maxRecDepth 100000 in
set_option maxHeartbeats 8000000 in
theorem Check_any (n f d p r dr o sl md fr : Int) (ad : Option Addr) (cap : Nat) (zs : List Int) (mm : Array Value) (mc ma mn mr : Int) (mz mh mt ml : ByteArray) (hM : MemW mm mc ma mn mr mz mh mt ml) (fm : Int) (vo : ByteArray) (ex : Int) (ve : ByteArray) (ps cy : Int) (te : ByteArray) (w : World) (hl : zs.length ≤ 9223372036854775807) (hT : Tab w ad zs) (hm : mh.size ≤ 9223372036854775807) :
    Calls Try.prog 12 #[.agg #[.int .i64 n, .int .i64 f, .int .i64 d, .int .i64 p, .int .i64 r, .int .i64 dr, .int .i64 o, .int .i64 sl, .int .i64 md, .int .i64 fr, .slice ad zs.length cap], .agg mm, .int .i64 fm, .agg #[.string vo, .int .i64 ex, .string ve, .int .i64 ps, .int .i64 cy, .string te]] w fun e w' => e = .returned (.int .i64 (chkC n f d p r dr o sl md fr zs mc ma mn mr fm ps cy te mh)) ∧ Below w.heap.size w w' := by
  obtain ⟨k0, k1, k2⟩ := blk3 w #[.int .i64 n, .int .i64 f, .int .i64 d, .int .i64 p, .int .i64 r, .int .i64 dr, .int .i64 o, .int .i64 sl, .int .i64 md, .int .i64 fr, .slice ad zs.length cap] 24 mm 30 #[.string vo, .int .i64 ex, .string ve, .int .i64 ps, .int .i64 cy, .string te] 32
  have HB0 := hidden (bthen (bthen (ballc w (.cells #[.int .i64 n, .int .i64 f, .int .i64 d, .int .i64 p, .int .i64 r, .int .i64 dr, .int .i64 o, .int .i64 sl, .int .i64 md, .int .i64 fr, .slice ad zs.length cap] 24)) (ballc _ (.cells mm 30))) (ballc _ (.cells #[.string vo, .int .i64 ex, .string ve, .int .i64 ps, .int .i64 cy, .string te] 32)))
  have HT := hidden (hT.below HB0.out)
  have CP := hidden (fun V h => plain_any n f d p r dr o sl md fr ad cap zs V hl h)
  have CS := hidden (fun V => Sync_any mm mc ma mn mr mz mh mt ml hM V)
  have CE := hidden (fun V => Elapsed_any mc ma V)
  have CO := hidden (fun z V hz h => SOwner_any n f d p r dr o sl md fr ad cap zs z V hz hl h)
  have CW := hidden (fun z V hz h => Window_any n f d p r dr o sl md fr ad cap zs z V hz hl h)
  have CH := hidden (fun (k : Nat) V => wasHeardIn_any mm mc ma mn mr mz mh mt ml hM k V hm)
  have HC : Hid (chkC n f d p r dr o sl md fr zs mc ma mn mr fm ps cy te mh = chkF (plainE n f d p r dr o sl md fr zs) zs.length ps mr (ownF (plainE n f d p r dr o sl md fr zs) zs (ps - 1)) fm ((mc - ma) % 65536) (win1 (plainE n f d p r dr o sl md fr zs) d r (guardF d r dr (lastE o sl zs)) o sl zs.length (ps - 1)) (win2 (plainE n f d p r dr o sl md fr zs) d r (guardF d r dr (lastE o sl zs)) o sl zs.length (ps - 1)) cy mn te mh) := rfl
  have h32 : plainE n f d p r dr o sl md fr zs = 0 → zs.length ≤ 32 := fun h => (plainE_ok h).2.2.2.2.2.2.2.2.2.2.2.2.2.2.2.2.2.2.2.2.2.2.1
  generalize chkC n f d p r dr o sl md fr zs mc ma mn mr fm ps cy te mh = R at *
  generalize guardF d r dr (lastE o sl zs) = G at *
  generalize plainE n f d p r dr o sl md fr zs = E at *
  generalize (mc - ma) % 65536 = el at *
  have HZ := hidden hM.size
  have c0 := hM.c0
  have c1 := hM.c1
  have c7 := hM.c7
  have c11 := hM.c11
  have HK0 := hidden k0
  have HK1 := hidden k1
  have HK2 := hidden k2
  have b0 := blk_cell k0
  have b1 := blk_cell k1
  have b2 := blk_cell k2
  have l0 := blk_lt k0
  have l1 := blk_lt k1
  have l2 := blk_lt k2
  have hld := ldM_run hM.size k1
  clear hT hM k0 k1 k2 hm
  go_enter Try.func12, Try.ntmps12
  go_wp2_with fail
  generalize ((w.alloc (.cells #[.int .i64 n, .int .i64 f, .int .i64 d, .int .i64 p, .int .i64 r, .int .i64 dr, .int .i64 o, .int .i64 sl, .int .i64 md, .int .i64 fr, .slice ad zs.length cap] 24)).alloc (.cells mm 30)).alloc (.cells #[.string vo, .int .i64 ex, .string ve, .int .i64 ps, .int .i64 cy, .string te] 32) = W0 at *
  refine (CP.out _ HT.out).mono ?_
  rintro e w1 ⟨rfl, hb⟩
  have HG1 := hidden hb
  clear hb
  clear b0 b1 b2 l0 l1 l2 hld
  have k0 := blk_later HK0.out HG1.out
  have k1 := blk_later HK1.out HG1.out
  have k2 := blk_later HK2.out HG1.out
  have b0 := blk_cell k0
  have b1 := blk_cell k1
  have b2 := blk_cell k2
  have l0 := blk_lt k0
  have l1 := blk_lt k1
  have l2 := blk_lt k2
  have hld := ldM_run HZ.out k1
  clear k0 k1 k2
  by_cases hE : E = 0
  case neg =>
    have e0 : (E != 0) = true := bne_iff_ne.2 hE
    have hE' := hidden hE
    clear hE
    have HR : Hid (R = _) := HC.out.trans (chk_E hE'.out)
    go_wp2
    go_ret
    exact ⟨ret_i HR.out.symm, bthen HB0.out HG1.out⟩
  have e0 : (E != 0) = false := by rw [hE]; rfl
  have hE' := hidden hE
  have hz := h32 hE
  clear hE h32
  obtain ⟨z, hzz⟩ : ∃ z, z = wrap64 (ps - 1) := ⟨_, rfl⟩
  have hbz : -9223372036854775808 ≤ z ∧ z ≤ 9223372036854775807 := by rw [hzz]; exact wrap64_bd _
  have HZZ := hidden hzz
  have q2 : wrap64 (ps - 1) = z := hzz.symm
  clear hzz
  go_wp2_with fail
  refine (CE.out _).mono ?_
  rintro e w9 ⟨rfl, rfl⟩
  go_wp2_with fail
  refine (CW.out z _ hbz (HT.out.below HG1.out)).mono ?_
  rintro e w2 ⟨rfl, hb⟩
  have HG2 := hidden (bthen HG1.out hb)
  clear hb
  clear b0 b1 b2 l0 l1 l2 hld
  have k0 := blk_later HK0.out HG2.out
  have k1 := blk_later HK1.out HG2.out
  have k2 := blk_later HK2.out HG2.out
  have b0 := blk_cell k0
  have b1 := blk_cell k1
  have b2 := blk_cell k2
  have l0 := blk_lt k0
  have l1 := blk_lt k1
  have l2 := blk_lt k2
  have hld := ldM_run HZ.out k1
  clear k0 k1 k2
  by_cases h1 : ps < 1
  case pos =>
    have d1 : decide (ps < 1) = true := decide_eq_true h1
    have h1' := hidden h1
    clear h1
    have HR : Hid (R = _) := HC.out.trans (chk_A hE'.out (.inl h1'.out))
    go_wp2
    go_ret
    exact ⟨ret_i HR.out.symm, bthen HB0.out HG2.out⟩
  have d1 : decide (ps < 1) = false := decide_eq_false h1
  by_cases h2 : (zs.length : Int) < ps
  case pos =>
    have d2 : decide ((zs.length : Int) < ps) = true := decide_eq_true h2
    have h2' := hidden h2
    clear h2
    have HR : Hid (R = _) := HC.out.trans (chk_A hE'.out (.inr h2'.out))
    go_wp2
    go_ret
    exact ⟨ret_i HR.out.symm, bthen HB0.out HG2.out⟩
  have d2 : decide ((zs.length : Int) < ps) = false := decide_eq_false h2
  have HA : Hid (¬ (ps < 1 ∨ (zs.length : Int) < ps)) := fun c => by omega
  obtain ⟨k, rfl⟩ : ∃ k : Nat, ps = (k : Int) + 1 := ⟨(ps - 1).toNat, by omega⟩
  have hps : (k : Int) + 1 - 1 = (k : Int) := by omega
  have hzk : z = (k : Int) := by rw [HZZ.out, hps]; unfold wrap64; omega
  rw [hps] at HC
  subst hzk
  have hk0 : (0 : Int) ≤ (k : Int) := by omega
  clear h1 h2 HZZ q2 hps
  generalize win1 E d r G o sl zs.length (k : Int) = w1v at *
  generalize win2 E d r G o sl zs.length (k : Int) = w2v at *
  go_wp2_with fail
  refine (CS.out _).mono ?_
  rintro e w3 ⟨rfl, hb⟩
  have HG3 := hidden (bthen HG2.out hb)
  clear hb
  clear b0 b1 b2 l0 l1 l2 hld
  have k0 := blk_later HK0.out HG3.out
  have k1 := blk_later HK1.out HG3.out
  have k2 := blk_later HK2.out HG3.out
  have b0 := blk_cell k0
  have b1 := blk_cell k1
  have b2 := blk_cell k2
  have l0 := blk_lt k0
  have l1 := blk_lt k1
  have l2 := blk_lt k2
  have hld := ldM_run HZ.out k1
  clear k0 k1 k2
  by_cases h3 : 2 ≤ mr
  case neg =>
    have d3 : decide (2 ≤ mr) = false := decide_eq_false h3
    have h3' := hidden h3
    clear h3
    have HR : Hid (R = _) := HC.out.trans (chk_B hE'.out HA.out h3'.out)
    go_wp2
    go_ret
    exact ⟨ret_i HR.out.symm, bthen HB0.out HG3.out⟩
  have d3 : decide (2 ≤ mr) = true := decide_eq_true h3
  have H3 := hidden h3
  clear h3
  go_wp2_with fail
  refine (CO.out (k : Int) _ hbz (HT.out.below HG3.out)).mono ?_
  rintro e w4 ⟨rfl, hb⟩
  have HG4 := hidden (bthen HG3.out hb)
  clear hb
  clear b0 b1 b2 l0 l1 l2 hld
  have k0 := blk_later HK0.out HG4.out
  have k1 := blk_later HK1.out HG4.out
  have k2 := blk_later HK2.out HG4.out
  have b0 := blk_cell k0
  have b1 := blk_cell k1
  have b2 := blk_cell k2
  have l0 := blk_lt k0
  have l1 := blk_lt k1
  have l2 := blk_lt k2
  have hld := ldM_run HZ.out k1
  clear k0 k1 k2
  by_cases h4 : ownF E zs (k : Int) = fm
  case neg =>
    have d4 : (ownF E zs (k : Int) != fm) = true := bne_iff_ne.2 h4
    have h4' := hidden h4
    clear h4
    have HR : Hid (R = _) := HC.out.trans (chk_C hE'.out HA.out H3.out h4'.out)
    go_wp2
    go_ret
    exact ⟨ret_i HR.out.symm, bthen HB0.out HG4.out⟩
  have d4 : (ownF E zs (k : Int) != fm) = false := by rw [h4]; simp
  have H4 := hidden h4
  clear h4
  by_cases h5 : el < w1v
  case pos =>
    have d5 : decide (el < w1v) = true := decide_eq_true h5
    have h5' := hidden h5
    clear h5
    have HR : Hid (R = _) := HC.out.trans (chk_D hE'.out HA.out H3.out H4.out (.inl h5'.out))
    go_wp2
    go_ret
    exact ⟨ret_i HR.out.symm, bthen HB0.out HG4.out⟩
  have d5 : decide (el < w1v) = false := decide_eq_false h5
  by_cases h6 : w2v < el
  case pos =>
    have d6 : decide (w2v < el) = true := decide_eq_true h6
    have h6' := hidden h6
    clear h6
    have HR : Hid (R = _) := HC.out.trans (chk_D hE'.out HA.out H3.out H4.out (.inr h6'.out))
    go_wp2
    go_ret
    exact ⟨ret_i HR.out.symm, bthen HB0.out HG4.out⟩
  have d6 : decide (w2v < el) = false := decide_eq_false h6
  have H5 : Hid (¬ (el < w1v ∨ w2v < el)) := fun c => c.elim h5 h6
  clear h5 h6
  by_cases h7 : cy = mn
  case neg =>
    have d7 : (cy != mn) = true := bne_iff_ne.2 h7
    have h7' := hidden h7
    clear h7
    have HR : Hid (R = _) := HC.out.trans (chk_F hE'.out HA.out H3.out H4.out H5.out h7'.out)
    go_wp2
    go_ret
    exact ⟨ret_i HR.out.symm, bthen HB0.out HG4.out⟩
  have d7 : (cy != mn) = false := by rw [h7]; simp
  have H7 := hidden h7
  clear h7
  by_cases h8 : 16 < te.size
  case pos =>
    have d8 : decide ((16 : Int) < (te.size : Int)) = true := decide_eq_true (by omega)
    have d9 : decide (16 < te.size) = true := decide_eq_true h8
    have h8' := hidden h8
    clear h8
    have HR : Hid (R = _) := HC.out.trans (chk_G hE'.out HA.out H3.out H4.out H5.out H7.out h8'.out)
    go_wp2
    go_ret
    exact ⟨ret_i HR.out.symm, bthen HB0.out HG4.out⟩
  have d8 : decide ((16 : Int) < (te.size : Int)) = false := decide_eq_false (by omega)
  have d9 : decide (16 < te.size) = false := decide_eq_false h8
  have H8 := hidden h8
  clear h8
  have HR : Hid (R = if hasI mh (k : Int) = true then 13 else 0) := by
    show _ = _
    have hx := chk_H hE'.out HA.out H3.out H4.out H5.out H7.out H8.out (mh := mh)
    rw [show (k : Int) + 1 - 1 = (k : Int) from by omega] at hx
    exact HC.out.trans hx
  rw [hasI_nat] at HR
  go_wp2_with fail
  refine (CH.out k _).mono ?_
  rintro e w5 ⟨rfl, hb⟩
  have HG5 := hidden (bthen HG4.out hb)
  clear hb
  clear b0 b1 b2 l0 l1 l2 hld
  have k0 := blk_later HK0.out HG5.out
  have k1 := blk_later HK1.out HG5.out
  have k2 := blk_later HK2.out HG5.out
  have b0 := blk_cell k0
  have b1 := blk_cell k1
  have b2 := blk_cell k2
  have l0 := blk_lt k0
  have l1 := blk_lt k1
  have l2 := blk_lt k2
  have hld := ldM_run HZ.out k1
  clear k0 k1 k2
  cases hb : sentB mh k with
  | true =>
    rw [hb, if_pos rfl] at HR
    clear hb
    go_wp2
    go_ret
    exact ⟨ret_i HR.out.symm, bthen HB0.out HG5.out⟩
  | false =>
    rw [hb, if_neg (by decide)] at HR
    clear hb
    go_wp2
    go_ret
    exact ⟨ret_i HR.out.symm, bthen HB0.out HG5.out⟩
end Go.Proofs.Ytkopmhmbldohdab

/- Two packets compare as equal just when their parts are; no conditions. -/
namespace Go.Proofs.Ytkopmhmbldohdab
open Go.ChangeShapes Go.WideShapes Go.ChangeAt Go.RowKit
set_option linter.unusedVariables false

theorem bq (a b : ByteArray) : (a.toList == b.toList) = decide (a = b) := by
  rw [Bool.eq_iff_iff, beq_iff_eq, decide_eq_true_iff, ByteArray.toList_eq, ByteArray.toList_eq]
  constructor
  · intro h
    apply ByteArray.ext
    exact Array.toList_inj.1 h
  · rintro rfl; rfl
/-- Are two packets alike? -/
def pkQ (vo : ByteArray) (ex : Int) (ve : ByteArray) (ps cy : Int) (te : ByteArray) (vo' : ByteArray) (ex' : Int) (ve' : ByteArray) (ps' cy' : Int) (te' : ByteArray) : Bool := decide (vo = vo' ∧ ex = ex' ∧ ve = ve' ∧ ps = ps' ∧ cy = cy' ∧ te = te')
theorem eqIn_pk (w : World) (vo : ByteArray) (ex : Int) (ve : ByteArray) (ps cy : Int) (te : ByteArray) (vo' : ByteArray) (ex' : Int) (ve' : ByteArray) (ps' cy' : Int) (te' : ByteArray) :
    (Op.equalIn 10000 32 (.agg #[.string vo, .int .i64 ex, .string ve, .int .i64 ps, .int .i64 cy, .string te]) (.agg #[.string vo', .int .i64 ex', .string ve', .int .i64 ps', .int .i64 cy', .string te'])).run Try.prog w = .ok (pkQ vo ex ve ps cy te vo' ex' ve' ps' cy' te') w := by
  rw [show (10000 : Nat) = 9999 + 1 from rfl, run_equalIn_agg w 9999 32 _ _ (by kernel_rfl) (by kernel_rfl)]
  unfold Program.fieldsOf
  rw [Try.underlying32]
  unfold pkQ
  by_cases h1 : vo = vo'
  · subst h1
    by_cases h2 : ex = ex'
    · subst h2
      by_cases h3 : ve = ve'
      · subst h3
        by_cases h4 : ps = ps'
        · subst h4
          by_cases h5 : cy = cy'
          · subst h5
            by_cases h6 : te = te' <;> simp [go_sem, bq, h6]
          · simp [go_sem, bq, h5]
        · simp [go_sem, bq, h4]
      · simp [go_sem, bq, h3]
    · simp [go_sem, bq, h2]
  · simp [go_sem, bq, h1]
theorem eql_pk (w : World) (vo : ByteArray) (ex : Int) (ve : ByteArray) (ps cy : Int) (te : ByteArray) (vo' : ByteArray) (ex' : Int) (ve' : ByteArray) (ps' cy' : Int) (te' : ByteArray) :
    (binOp .eql 32 (.agg #[.string vo, .int .i64 ex, .string ve, .int .i64 ps, .int .i64 cy, .string te]) (.agg #[.string vo', .int .i64 ex', .string ve', .int .i64 ps', .int .i64 cy', .string te'])).run Try.prog w = .ok (.bool (pkQ vo ex ve ps cy te vo' ex' ve' ps' cy' te')) w := by
  rw [run_eql_struct, eqIn_pk]; rfl
theorem neq_pk (w : World) (vo : ByteArray) (ex : Int) (ve : ByteArray) (ps cy : Int) (te : ByteArray) (vo' : ByteArray) (ex' : Int) (ve' : ByteArray) (ps' cy' : Int) (te' : ByteArray) :
    (binOp .neq 32 (.agg #[.string vo, .int .i64 ex, .string ve, .int .i64 ps, .int .i64 cy, .string te]) (.agg #[.string vo', .int .i64 ex', .string ve', .int .i64 ps', .int .i64 cy', .string te'])).run Try.prog w = .ok (.bool (!pkQ vo ex ve ps cy te vo' ex' ve' ps' cy' te')) w := by
  rw [run_neq_struct, eqIn_pk]; rfl
theorem guard_pk (w : World) (op : BinOp) (x y : Operand) (xs ys : Array Value) : (eqGuard op 32 x y (.agg xs) (.agg ys)).run Try.prog w = .ok () w := run_eqGuard_agg w op _ x y xs ys (by kernel_rfl)
theorem pkQ_same (vo : ByteArray) (ex : Int) (ve : ByteArray) (ps cy : Int) (te : ByteArray) : pkQ vo ex ve ps cy te vo ex ve ps cy te = true := by simp [pkQ]
end Go.Proofs.Ytkopmhmbldohdab

/- Plain words on what was delivered: a struct of four cells that is written and read, and compared; no conditions. -/
namespace Go.Proofs.Ytkopmhmbldohdab
open Go.ChangeShapes Go.WideShapes Go.ChangeAt Go.RowKit
set_option linter.unusedVariables false

theorem set4T {w : World} {b : Nat} {z0 z1 z2 z3 : Value} {t : TypeId} (h : w.heap[b]? = some (.cells #[z0, z1, z2, z3] t (0, 0))) (v0 v1 v2 v3 : Value) :
    ((((w.setCell ⟨b, 0, none⟩ v0).setCell ⟨b, 1, none⟩ v1).setCell ⟨b, 2, none⟩ v2).setCell ⟨b, 3, none⟩ v3).heap[b]? = some (.cells #[v0, v1, v2, v3] t (0, 0)) := by
  have h1 := heap_setCell_same _ b 0 _ _ v0 h
  have h2 := heap_setCell_same _ b 1 _ _ v1 h1
  have h3 := heap_setCell_same _ b 2 _ _ v2 h2
  have h4 := heap_setCell_same _ b 3 _ _ v3 h3
  simpa using h4
theorem below4T {B : Nat} {a w : World} {b : Nat} (h : Below B a w) (hp : B ≤ b) (v0 v1 v2 v3 : Value) : Below B a ((((w.setCell ⟨b, 0, none⟩ v0).setCell ⟨b, 1, none⟩ v1).setCell ⟨b, 2, none⟩ v2).setCell ⟨b, 3, none⟩ v3) :=
  (((h.setCell (p := ⟨b, 0, none⟩) hp _).setCell (p := ⟨b, 1, none⟩) hp _).setCell (p := ⟨b, 2, none⟩) hp _).setCell (p := ⟨b, 3, none⟩) hp _
theorem other4T {w : World} {b c : Nat} {o : Obj} (h : w.heap[c]? = some o) (hc : c ≠ b) (v0 v1 v2 v3 : Value) : ((((w.setCell ⟨b, 0, none⟩ v0).setCell ⟨b, 1, none⟩ v1).setCell ⟨b, 2, none⟩ v2).setCell ⟨b, 3, none⟩ v3).heap[c]? = some o := by
  rw [heap_setCell_other _ _ _ _ hc, heap_setCell_other _ _ _ _ hc, heap_setCell_other _ _ _ _ hc, heap_setCell_other _ _ _ _ hc]
  exact h
theorem tk_no {C : Int} (h : ¬ C = 0) (s : ByteArray) (m z x : Int) (t : ByteArray) : tkM C s m z = ⟨#[]⟩ ∧ tkI C x = 0 ∧ tkT C t = ⟨#[]⟩ := ⟨if_neg h, if_neg h, if_neg h⟩
/-- Are two deliveries alike? -/
def dlQ (a b c : Int) (t : ByteArray) (a' b' c' : Int) (t' : ByteArray) : Bool := decide (a = a' ∧ b = b' ∧ c = c' ∧ t = t')
theorem dlQ_same (a b c : Int) (t : ByteArray) : dlQ a b c t a b c t = true := by simp [dlQ]
theorem eqIn_dl (w : World) (a b c : Int) (t : ByteArray) (a' b' c' : Int) (t' : ByteArray) :
    (Op.equalIn 10000 35 (.agg #[.int .i64 a, .int .i64 b, .int .i64 c, .string t]) (.agg #[.int .i64 a', .int .i64 b', .int .i64 c', .string t'])).run Try.prog w = .ok (dlQ a b c t a' b' c' t') w := by
  rw [show (10000 : Nat) = 9999 + 1 from rfl, run_equalIn_agg w 9999 35 _ _ (by kernel_rfl) (by kernel_rfl)]
  unfold Program.fieldsOf
  rw [Try.underlying35]
  unfold dlQ
  by_cases h1 : a = a'
  · subst h1
    by_cases h2 : b = b'
    · subst h2
      by_cases h3 : c = c'
      · subst h3
        by_cases h4 : t = t' <;> simp [go_sem, bq, h4]
      · simp [go_sem, bq, h3]
    · simp [go_sem, bq, h2]
  · simp [go_sem, bq, h1]
theorem guard_dl (w : World) (op : BinOp) (x y : Operand) (xs ys : Array Value) : (eqGuard op 35 x y (.agg xs) (.agg ys)).run Try.prog w = .ok () w := run_eqGuard_agg w op _ x y xs ys (by kernel_rfl)
theorem kPkt_six {n₀ : Nat} {W : World} {ad : Option Addr} {len cap : Nat} {qs : List Pkt} (h : kPkt.Lies n₀ W (.slice ad len cap) qs) (j : Nat) (hj : j < qs.length) : ∃ b off : Nat, ad = some ⟨b, off, none⟩ ∧ b < n₀ ∧
    W.cell? ⟨b, off + j * 6, none⟩ = some (.string (qs.getD j noQ).vo) ∧ W.cell? ⟨b, off + j * 6 + 1, none⟩ = some (.int .i64 (qs.getD j noQ).ex) ∧ W.cell? ⟨b, off + j * 6 + 2, none⟩ = some (.string (qs.getD j noQ).ve) ∧ W.cell? ⟨b, off + j * 6 + 3, none⟩ = some (.int .i64 (qs.getD j noQ).ps) ∧ W.cell? ⟨b, off + j * 6 + 4, none⟩ = some (.int .i64 (qs.getD j noQ).cy) ∧ W.cell? ⟨b, off + j * 6 + 5, none⟩ = some (.string (qs.getD j noQ).te) := by
  obtain ⟨b, off, he, hb, hc⟩ := h.at j hj
  have e : qs.getD j noQ = qs[j] := by rw [List.getD_eq_getElem?_getD, List.getElem?_eq_getElem hj, Option.getD_some]
  rw [e]
  exact ⟨b, off, he, hb, hc 0 (by decide), hc 1 (by decide), hc 2 (by decide), hc 3 (by decide), hc 4 (by decide), hc 5 (by decide)⟩
theorem infoDlv : (Try.prog.info? 35).map (fun i => (i.zero, i.size, i.bytes)) = some (some (.agg #[.int .i64 0, .int .i64 0, .int .i64 0, .string ⟨#[]⟩]), 4, 40) := by kernel_rfl
theorem all_sz {chk : Int → Pkt → ByteArray → Int} {m n : Int} {mh mz : ByteArray} {qs : List Pkt} (h1 : mh.size ≤ 9223372036854775807) (h2 : mz.size ≤ 9223372036854775807) (k : Nat) : (allT chk m n mh mz qs k).hd.size ≤ 9223372036854775807 ∧ (allT chk m n mh mz qs k).sn.size ≤ 9223372036854775807 := by
  induction k with
  | zero => exact ⟨h1, h2⟩
  | succ k ih =>
    by_cases h : (qs.getD k noQ).ps = 0
    · rw [all_skip h]; exact ih
    · by_cases e : chk (k : Int) (qs.getD k noQ) (allT chk m n mh mz qs k).hd = 0
      · rw [all_take h e]
        have a := mkN_le m
        have b := mkN_le n
        refine ⟨?_, ?_⟩ <;> (dsimp only; rw [markB_size]; omega)
      · rw [all_no h e]; exact ih
/-- Many, where the configuration is plain. -/
def allF (E : Int) (chk : Int → Pkt → ByteArray → Int) (m n : Int) (mh mz : ByteArray) (qs : List Pkt) : StT := if E = 0 then allT chk m n mh mz qs qs.length else ⟨⟨#[]⟩, ⟨#[]⟩, [], 0⟩
theorem blk_grown {W W' : World} {b B : Nat} {o : Obj} {row : Option Nat} (h : W.heap[b]? = some o) (hg : W.grownBy W' row) (hr : ∀ k, row = some k → B ≤ k) (hb : b < B) : W'.heap[b]? = some o := (hg.block b (blk_lt h) (fun e => by have := hr _ e.symm; omega)).trans h
end Go.Proofs.Ytkopmhmbldohdab

/- The call Take of package accept returns what plain functions give, and makes at most new memory; conditions: the table lies where it says, lengths and numbers fit int. -/
namespace Go.Proofs.Ytkopmhmbldohdab
open Go.ChangeShapes Go.WideShapes Go.ChangeAt Go.RowKit
set_option linter.unusedVariables false
attribute [local go_sem ↓] ldM_eq

set_option maxRecDepth 100000 in
set_option maxHeartbeats 8000000 in
theorem Take_any (n f d p r dr o sl md fr : Int) (ad : Option Addr) (cap : Nat) (zs : List Int) (mm : Array Value) (mc ma mn mr : Int) (mz mh mt ml : ByteArray) (hM : MemW mm mc ma mn mr mz mh mt ml) (fm : Int) (vo : ByteArray) (ex : Int) (ve : ByteArray) (ps cy : Int) (te : ByteArray) (C : Int) (w : World) (hl : zs.length ≤ 9223372036854775807) (hT : Tab w ad zs) (hm : mh.size ≤ 9223372036854775807) (hm2 : mz.size ≤ 9223372036854775807) (hC : C = chkC n f d p r dr o sl md fr zs mc ma mn mr fm ps cy te mh) :
    Calls Try.prog 6 #[.agg #[.int .i64 n, .int .i64 f, .int .i64 d, .int .i64 p, .int .i64 r, .int .i64 dr, .int .i64 o, .int .i64 sl, .int .i64 md, .int .i64 fr, .slice ad zs.length cap], .agg mm, .int .i64 fm, .agg #[.string vo, .int .i64 ex, .string ve, .int .i64 ps, .int .i64 cy, .string te]] w fun e w' => e = .returned (.tuple #[.string (tkM C mh zs.length (ps - 1)), .string (tkM C mz n fm), .agg #[.int .i64 (tkI C fm), .int .i64 (tkI C (ps - 1)), .int .i64 (tkI C cy), .string (tkT C te)], .int .i64 C]) ∧ Below w.heap.size w w' := by
  obtain ⟨k0, k1, k2, k3, hb0⟩ := blk4 w #[.int .i64 n, .int .i64 f, .int .i64 d, .int .i64 p, .int .i64 r, .int .i64 dr, .int .i64 o, .int .i64 sl, .int .i64 md, .int .i64 fr, .slice ad zs.length cap] 24 mm 30 #[.string vo, .int .i64 ex, .string ve, .int .i64 ps, .int .i64 cy, .string te] 32 #[.int .i64 0, .int .i64 0, .int .i64 0, .string ⟨#[]⟩] 35
  have HB0 := hidden hb0
  have HT := hidden (hT.below hb0)
  have CC := hidden (fun V h => Check_any n f d p r dr o sl md fr ad cap zs mm mc ma mn mr mz mh mt ml hM fm vo ex ve ps cy te V hl h hm)
  rw [← hC] at CC
  have HOK := hidden (fun (h : C = 0) => (chk_ok (hC.symm.trans h)).2.1)
  have CM := hidden (fun (s : ByteArray) (m z : Int) (g : Nat) V hs (h : V.heap[g]? = some (.cells #[.int .i64 z] 3 (0, 0))) => Mark_any s m (some ⟨g, 0, none⟩) 1 [z] V hs (by simp) (one_lies h))
  have HS := hidden hM.size
  have c10 := hM.c10
  have c11 := hM.c11
  have HK0 := hidden k0
  have HK1 := hidden k1
  have HK2 := hidden k2
  have HK3 := hidden k3
  have hld := ldM_run hM.size k1
  clear hT hb0 hM k0 k1 k2 k3 hC
  go_enter Try.func6, Try.ntmps6
  go_wp2_with fail
  generalize (((w.alloc (.cells #[.int .i64 n, .int .i64 f, .int .i64 d, .int .i64 p, .int .i64 r, .int .i64 dr, .int .i64 o, .int .i64 sl, .int .i64 md, .int .i64 fr, .slice ad zs.length cap] 24)).alloc (.cells mm 30)).alloc (.cells #[.string vo, .int .i64 ex, .string ve, .int .i64 ps, .int .i64 cy, .string te] 32)).alloc (.cells #[.int .i64 0, .int .i64 0, .int .i64 0, .string ⟨#[]⟩] 35) = W0 at *
  refine (CC.out _ HT.out).mono ?_
  rintro e w1 ⟨rfl, hb1⟩
  have k0 := blk_later HK0.out hb1
  have k1 := blk_later HK1.out hb1
  have k2 := blk_later HK2.out hb1
  have k3 := blk_later HK3.out hb1
  have HB1 := hidden (bthen HB0.out hb1)
  clear hb1 HK0 HK1 HK2 HK3 HT CC hld HB0
  have b3 := blk_cell k3
  have f3 := blk_frozen k3
  have l3 := blk_lt k3
  by_cases h : C = 0
  case neg =>
    have e1 : (C != 0) = true := bne_iff_ne.2 h
    have HR : Hid (Ending.returned (.tuple #[.string ⟨#[]⟩, .string ⟨#[]⟩, .agg #[.int .i64 0, .int .i64 0, .int .i64 0, .string ⟨#[]⟩], .int .i64 C]) = .returned (.tuple #[.string (tkM C mh zs.length (ps - 1)), .string (tkM C mz n fm), .agg #[.int .i64 (tkI C fm), .int .i64 (tkI C (ps - 1)), .int .i64 (tkI C cy), .string (tkT C te)], .int .i64 C])) := by
      show _ = _
      unfold tkM tkI tkT
      simp only [if_neg h]
    have H4 := hidden (blk_cell (set4T k3 (.int .i64 0) (.int .i64 0) (.int .i64 0) (.string ⟨#[]⟩)))
    have HB4 := hidden (below4T HB1.out (show w.heap.size ≤ w.heap.size + 1 + 1 + 1 by omega) (.int .i64 0) (.int .i64 0) (.int .i64 0) (.string ⟨#[]⟩))
    clear CM HOK h k0 k1 k2 k3
    go_wp2
    have h4 := H4.out
    exact bodyPost_ret (v := .tuple #[.string ⟨#[]⟩, .string ⟨#[]⟩, .agg #[.int .i64 0, .int .i64 0, .int .i64 0, .string ⟨#[]⟩], .int .i64 C]) (by simp [results, Try.results6, go_sem, h4]) rfl ⟨HR.out, HB4.out⟩
  subst h
  have e1 : ((0 : Int) != 0) = false := rfl
  have hok := HOK.out rfl
  obtain ⟨z, hz⟩ : ∃ z, z = ps - 1 := ⟨_, rfl⟩
  have q1 : wrap64 (ps - 1) = z := by
    have : z < 9223372036854775807 := by omega
    rw [hz]; unfold wrap64; omega
  have HR : Hid (Ending.returned (.tuple #[.string (markB mh zs.length [z]), .string (markB mz n [fm]), .agg #[.int .i64 fm, .int .i64 z, .int .i64 cy, .string te], .int .i64 0]) = .returned (.tuple #[.string (tkM 0 mh zs.length (ps - 1)), .string (tkM 0 mz n fm), .agg #[.int .i64 (tkI 0 fm), .int .i64 (tkI 0 (ps - 1)), .int .i64 (tkI 0 cy), .string (tkT 0 te)], .int .i64 0])) := by
    show _ = _
    rw [hz]; rfl
  have K4 := hidden (set4T k3 (.int .i64 fm) (.int .i64 z) (.int .i64 cy) (.string te))
  have K0 := hidden (other4T (b := w.heap.size + 1 + 1 + 1) k0 (by omega) (.int .i64 fm) (.int .i64 z) (.int .i64 cy) (.string te))
  have K1 := hidden (other4T (b := w.heap.size + 1 + 1 + 1) k1 (by omega) (.int .i64 fm) (.int .i64 z) (.int .i64 cy) (.string te))
  have HB4 := hidden (below4T HB1.out (show w.heap.size ≤ w.heap.size + 1 + 1 + 1 by omega) (.int .i64 fm) (.int .i64 z) (.int .i64 cy) (.string te))
  have b2 := blk_cell k2
  have l2 := blk_lt k2
  have x0 := blk_cell K0.out
  have y0 := blk_lt K0.out
  have x1 := blk_cell K1.out
  have y1 := blk_lt K1.out
  have x4 := blk_cell K4.out
  have y4 := blk_lt K4.out
  clear hz hok HOK k0 k1 k2 k3 HB1
  have HSZ : Hid (((((w1.setCell ⟨w.heap.size + 1 + 1 + 1, 0, none⟩ (.int .i64 fm)).setCell ⟨w.heap.size + 1 + 1 + 1, 1, none⟩ (.int .i64 z)).setCell ⟨w.heap.size + 1 + 1 + 1, 2, none⟩ (.int .i64 cy)).setCell ⟨w.heap.size + 1 + 1 + 1, 3, none⟩ (.string te)).heap.size = w1.heap.size) := by show _ = _; simp
  go_wp2_with fail
  generalize ((((w1.setCell ⟨w.heap.size + 1 + 1 + 1, 0, none⟩ (.int .i64 fm)).setCell ⟨w.heap.size + 1 + 1 + 1, 1, none⟩ (.int .i64 z)).setCell ⟨w.heap.size + 1 + 1 + 1, 2, none⟩ (.int .i64 cy)).setCell ⟨w.heap.size + 1 + 1 + 1, 3, none⟩ (.string te)) = W4 at *
  refine (CM.out mh zs.length z _ _ hm (blk_newAt _ _ _ HSZ.out.symm)).mono ?_
  rintro e w5 ⟨rfl, hb5⟩
  have hb6 := bthen (ballc W4 (.cells #[.int .i64 z] 3)) hb5
  have HB6 := hidden (bthen HB4.out hb6)
  have K46 := hidden (blk_later K4.out hb6)
  have k0 := blk_later K0.out hb6
  have k1 := blk_later K1.out hb6
  clear hb5 hb6 x0 y0 x1 y1 x4 y4 b2 l2 b3 f3 l3 K0 K1 K4 HB4 HSZ q1
  have x0 := blk_cell k0
  have y0 := blk_lt k0
  have x1 := blk_cell k1
  have y1 := blk_lt k1
  have x4 := blk_cell K46.out
  have y4 := blk_lt K46.out
  clear k0 k1
  go_wp2_with fail
  refine (CM.out mz n fm _ _ hm2 (blk_newAt _ _ _ rfl)).mono ?_
  rintro e w7 ⟨rfl, hb7⟩
  have hb8 := bthen (ballc w5 (.cells #[.int .i64 fm] 3)) hb7
  have HB8 := hidden (bthen HB6.out hb8)
  have k4 := blk_later K46.out hb8
  clear hb7 hb8 x0 y0 x1 y1 x4 y4 K46 HB6
  have hC7 : Chn w7.heap.size w7 w7 := Chn.refl (Nat.le_refl _)
  have hS : ∀ V : World, V.heap[w.heap.size + 1 + 1 + 1]? = some (.cells #[.int .i64 fm, .int .i64 z, .int .i64 cy, .string te] 35 (0, 0)) → V.cell? ⟨w.heap.size + 1 + 1 + 1, 0, none⟩ = some (.int .i64 fm) ∧ V.cell? ⟨w.heap.size + 1 + 1 + 1, 1, none⟩ = some (.int .i64 z) ∧ V.cell? ⟨w.heap.size + 1 + 1 + 1, 2, none⟩ = some (.int .i64 cy) ∧ V.cell? ⟨w.heap.size + 1 + 1 + 1, 3, none⟩ = some (.string te) := by
    intro V hV
    have a := blk_cell hV
    exact ⟨a 0, a 1, a 2, a 3⟩
  have k5 := set4T k4 (.int .i64 fm) (.int .i64 z) (.int .i64 cy) (.string te)
  have k6 : ((((w7.setCell ⟨w.heap.size + 1 + 1 + 1, 0, none⟩ (.int .i64 fm)).setCell ⟨w.heap.size + 1 + 1 + 1, 1, none⟩ (.int .i64 z)).setCell ⟨w.heap.size + 1 + 1 + 1, 2, none⟩ (.int .i64 cy)).setCell ⟨w.heap.size + 1 + 1 + 1, 3, none⟩ (.string te)).drew.heap[w.heap.size + 1 + 1 + 1]? = some (.cells #[.int .i64 fm, .int .i64 z, .int .i64 cy, .string te] 35 (0, 0)) := k5
  have H4 := hidden (blk_cell k6)
  have HL6 := hidden (blk_lt k6)
  have HB9 := hidden (Below.drew (below4T HB8.out (show w.heap.size ≤ w.heap.size + 1 + 1 + 1 by omega) (.int .i64 fm) (.int .i64 z) (.int .i64 cy) (.string te)))
  have b3 := blk_cell k4
  have f3 := blk_frozen k4
  have l3 := blk_lt k4
  go_wp2_with fail
  go_region_held3 (fun V => V.cell? ⟨w.heap.size + 1 + 1 + 1, 0, none⟩ = some (.int .i64 fm) ∧ V.cell? ⟨w.heap.size + 1 + 1 + 1, 1, none⟩ = some (.int .i64 z) ∧ V.cell? ⟨w.heap.size + 1 + 1 + 1, 2, none⟩ = some (.int .i64 cy) ∧ V.cell? ⟨w.heap.size + 1 + 1 + 1, 3, none⟩ = some (.string te)) (first | exact hS _ k4 | exact hS _ k5) (fail)
  generalize ((((w7.setCell ⟨w.heap.size + 1 + 1 + 1, 0, none⟩ (.int .i64 fm)).setCell ⟨w.heap.size + 1 + 1 + 1, 1, none⟩ (.int .i64 z)).setCell ⟨w.heap.size + 1 + 1 + 1, 2, none⟩ (.int .i64 cy)).setCell ⟨w.heap.size + 1 + 1 + 1, 3, none⟩ (.string te)).drew = wy at *
  clear b3 f3 l3 k4 k5 k6 hS hC7
  have h4 := H4.out
  have l4 := HL6.out
  go_wp2
  exact bodyPost_ret (v := .tuple #[.string (markB mh zs.length [z]), .string (markB mz n [fm]), .agg #[.int .i64 fm, .int .i64 z, .int .i64 cy, .string te], .int .i64 0]) (by simp [results, Try.results6, go_sem, h4]) rfl ⟨HR.out, HB9.out⟩
end Go.Proofs.Ytkopmhmbldohdab

/- The call All of package accept returns what plain functions give, and makes at most new memory; conditions: the table and the row lie where they say, lengths and numbers fit int. -/
namespace Go.Proofs.Ytkopmhmbldohdab
open Go.ChangeShapes Go.WideShapes Go.ChangeAt Go.RowKit
set_option linter.unusedVariables false
attribute [local go_sem] cell_rg
attribute [local go_sem ↓] ldM_eq

set_option maxRecDepth 100000 in
set_option maxHeartbeats 8000000 in
theorem All_any (n f d p r dr o sl md fr : Int) (ad : Option Addr) (cap : Nat) (zs : List Int) (mm : Array Value) (mc ma mn mr : Int) (mz mh mt ml : ByteArray) (hM : MemW mm mc ma mn mr mz mh mt ml) (a2 : Option Addr) (c2 : Nat) (qs : List Pkt) (w : World) (hl : zs.length ≤ 9223372036854775807) (hT : Tab w ad zs) (hm : mh.size ≤ 9223372036854775807) (hm2 : mz.size ≤ 9223372036854775807) (hq : qs.length ≤ 1000) (hV : kPkt.Lies w.heap.size w (.slice a2 qs.length c2) qs) (A : StT)
    (hA : A = allF (plainE n f d p r dr o sl md fr zs) (fun i q h => chkC n f d p r dr o sl md fr zs mc ma mn mr i q.ps q.cy q.te h) zs.length n mh mz qs) :
    Calls Try.prog 14 #[.agg #[.int .i64 n, .int .i64 f, .int .i64 d, .int .i64 p, .int .i64 r, .int .i64 dr, .int .i64 o, .int .i64 sl, .int .i64 md, .int .i64 fr, .slice ad zs.length cap], .agg mm, .slice a2 qs.length c2] w fun e w' => ∃ v, e = .returned (.tuple #[.string A.hd, .string A.sn, v, .int .i64 (A.no : Int)]) ∧ w'.ownsRow w.heap.size 35 4 v A.got.length (kDlv.flat A.got) ∧ Below w.heap.size w w' := by
  obtain ⟨k0, k1⟩ := blk2 w #[.int .i64 n, .int .i64 f, .int .i64 d, .int .i64 p, .int .i64 r, .int .i64 dr, .int .i64 o, .int .i64 sl, .int .i64 md, .int .i64 fr, .slice ad zs.length cap] 24 mm 30
  have hb0 := bthen (ballc w (.cells #[.int .i64 n, .int .i64 f, .int .i64 d, .int .i64 p, .int .i64 r, .int .i64 dr, .int .i64 o, .int .i64 sl, .int .i64 md, .int .i64 fr, .slice ad zs.length cap] 24)) (ballc _ (.cells mm 30))
  have HB0 := hidden hb0
  have HT := hidden (hT.below hb0)
  have HTw := hidden hT
  have HV := hidden hV
  have CP := hidden (fun V h => plain_any n f d p r dr o sl md fr ad cap zs V hl h)
  have CT := hidden (fun mk sn hd (hMk : MemW mk mc ma mn mr sn hd mt ml) (k : Nat) (q : Pkt) V h h1 h2 => Take_any n f d p r dr o sl md fr ad cap zs mk mc ma mn mr sn hd mt ml hMk (k : Int) q.vo q.ex q.ve q.ps q.cy q.te ((fun i (q : Pkt) h => chkC n f d p r dr o sl md fr zs mc ma mn mr i q.ps q.cy q.te h) (k : Int) q hd) V hl h h1 h2 rfl)
  generalize (fun i (q : Pkt) h => chkC n f d p r dr o sl md fr zs mc ma mn mr i q.ps q.cy q.te h) = chk at *
  obtain ⟨i0, hi, hz0, hz1, hz2⟩ := info_of infoDlv
  have HM0 := hidden hM
  have HSZ := hidden (fun k => all_sz (chk := chk) (m := zs.length) (n := n) (qs := qs) hm hm2 k)
  have HBD := hidden (fun k => all_bd chk zs.length n mh mz qs k)
  have HK0 := hidden k0
  have HK1 := hidden k1
  have b0 := blk_cell k0
  have l0 := blk_lt k0
  have hld := ldM_run hM.size k1
  clear hT hV hM k0 k1 hm hm2 hb0
  by_cases hE : plainE n f d p r dr o sl md fr zs = 0
  case neg =>
    obtain rfl : A = ⟨⟨#[]⟩, ⟨#[]⟩, [], 0⟩ := by rw [hA]; exact if_neg hE
    have e0 : (plainE n f d p r dr o sl md fr zs != 0) = true := bne_iff_ne.2 hE
    generalize plainE n f d p r dr o sl md fr zs = E at *
    clear hE hA
    go_enter Try.func14, Try.ntmps14
    go_wp2_with fail
    refine (CP.out _ HT.out).mono ?_
    rintro e w1 ⟨rfl, hb1⟩
    have HB1 := hidden (bthen HB0.out hb1)
    clear hb1 b0 l0 hld
    go_wp2
    refine bodyPost_ret (v := .tuple #[.string ⟨#[]⟩, .string ⟨#[]⟩, .slice none 0 0, .int .i64 0]) (by simp [results, Try.results14, go_sem]) rfl ⟨_, rfl, (World.ownsRow_nil _ _ _ _ : w1.ownsRow w.heap.size 35 4 (.slice none 0 0) 0 []), HB1.out⟩
  have e0 : (plainE n f d p r dr o sl md fr zs != 0) = false := by rw [hE]; rfl
  have HA : Hid (A = allT chk zs.length n mh mz qs qs.length) := by rw [hA]; exact if_pos hE
  clear hA hE
  generalize plainE n f d p r dr o sl md fr zs = E at *
  go_enter Try.func14, Try.ntmps14
  go_wp2_with fail
  refine (CP.out _ HT.out).mono ?_
  rintro e w1 ⟨rfl, hb1⟩
  have HB1 := hidden (bthen HB0.out hb1)
  have HK01 := hidden (blk_later HK0.out hb1)
  have HK11 := hidden (blk_later HK1.out hb1)
  clear hb1 b0 l0 hld HK0 HK1 HT HB0
  go_wp2
  go_loopw [8, 9, 21] (fun gv no i wr => ∃ (k : Nat) (mk : Array Value), k ≤ qs.length ∧ i = .int .i64 k ∧ no = .int .i64 ((allT chk zs.length n mh mz qs k).no : Int) ∧ wr.ownsRow (w.heap.size + 1 + 1) 35 4 gv (allT chk zs.length n mh mz qs k).got.length (kDlv.flat (allT chk zs.length n mh mz qs k).got) ∧ MemW mk mc ma mn mr (allT chk zs.length n mh mz qs k).sn (allT chk zs.length n mh mz qs k).hd mt ml ∧ wr.heap[w.heap.size]? = some (.cells #[.int .i64 n, .int .i64 f, .int .i64 d, .int .i64 p, .int .i64 r, .int .i64 dr, .int .i64 o, .int .i64 sl, .int .i64 md, .int .i64 fr, .slice ad zs.length cap] 24 (0, 0)) ∧ wr.heap[w.heap.size + 1]? = some (.cells mk 30 (0, 0)) ∧ Below w.heap.size w wr) (fun _ _ i _ => qs.length - (intV i).toNat)
  case atStart => exact ⟨0, mm, Nat.zero_le _, rfl, rfl, (World.ownsRow_nil _ _ _ _ : w1.ownsRow (w.heap.size + 1 + 1) 35 4 (.slice none 0 0) 0 []), HM0.out, HK01.out, HK11.out, HB1.out⟩
  case round =>
    obtain ⟨k, mk, hk, rfl, rfl, hown, hMk, k0, k1, hB⟩ := hrel
    have HB := hidden hB
    have HO := hidden hown
    have HMk := hidden hMk
    have HK0 := hidden k0
    have HK1 := hidden k1
    have c10 := hMk.c10
    have c11 := hMk.c11
    have hbd := HBD.out k
    have hsz := HSZ.out k
    have HTr := hidden (HTw.out.below hB)
    clear HB1 HK01 HK11 HSZ HBD hMk hown k0 k1
    by_cases hlt : k < qs.length
    · obtain ⟨b, off, rfl, hbl, e0, e1, e2, e3, e4, e5⟩ := kPkt_six (HV.out.below hB) k hlt
      clear hB
      have HS1 := hidden (fun h => all_skip (chk := chk) (m := zs.length) (n := n) (mh := mh) (mz := mz) (qs := qs) (k := k) h)
      have HS2 := hidden (fun h e => all_take (chk := chk) (m := zs.length) (n := n) (mh := mh) (mz := mz) (qs := qs) (k := k) h e)
      have HS3 := hidden (fun h e => all_no (chk := chk) (m := zs.length) (n := n) (mh := mh) (mz := mz) (qs := qs) (k := k) h e)
      generalize hst : allT chk zs.length n mh mz qs k = st at *
      generalize hqk : qs.getD k noQ = q at *
      clear hst hqk
      obtain ⟨hd, sn, got, no⟩ := st
      obtain ⟨vo, ex, ve, ps, cy, te⟩ := q
      dsimp only at *
      have CTk := hidden (fun V h => CT.out mk sn hd HMk.out k ⟨vo, ex, ve, ps, cy, te⟩ V h hsz.1 hsz.2)
      dsimp only at CTk
      generalize chk (k : Int) ⟨vo, ex, ve, ps, cy, te⟩ hd = C at *
      have i1 : (0 : Int) ≤ (k : Int) := by omega
      have i2 : (k : Int) < (qs.length : Int) := by omega
      have hbw : b < wr.heap.size := by have := HB.out.size; omega
      have hB1 : Below wr.heap.size wr (wr.alloc (.cells #[.string vo, .int .i64 ex, .string ve, .int .i64 ps, .int .i64 cy, .string te] 32)) := ballc _ _
      have k0 := blk_later HK0.out hB1
      have k1 := blk_later HK1.out hB1
      have k2 := blk_nw wr #[.string vo, .int .i64 ex, .string ve, .int .i64 ps, .int .i64 cy, .string te] 32
      have b0 := blk_cell k0
      have l0 := blk_lt k0
      have b2 := blk_cell k2
      have hld := ldM_run HMk.out.size k1
      have HKA := hidden k0
      have HKB := hidden k1
      have HB1 := hidden hB1
      have HBb := hidden (bthen HB.out hB1)
      clear k0 k1 k2 hB1
      by_cases hp : ps = 0
      · have j0 : (ps == 0) = true := beq_iff_eq.2 hp
        have HX := hidden (HS1.out hp)
        clear hp HS1 HS2 HS3 CTk
        go_wp2
        go_roundw
        case rel => exact ⟨k + 1, mk, by omega, by go_num, by rw [HX.out], by rw [HX.out]; exact HO.out.alloc _, by rw [HX.out]; exact HMk.out, HKA.out, HKB.out, HBb.out⟩
        case measure => simp [intV]; omega
      have j0 : (ps == 0) = false := beq_eq_false_iff_ne.2 hp
      have HP := hidden hp
      clear hp HS1
      go_wp2_with fail
      refine (CTk.out _ (HTw.out.below HBb.out)).mono ?_
      rintro e w4 ⟨rfl, hb4⟩
      have hb5 := bthen hb4 (ballc w4 (.cells #[.int .i64 (tkI C (k : Int)), .int .i64 (tkI C (ps - 1)), .int .i64 (tkI C cy), .string (tkT C te)] 35))
      have HK5 := hidden (blk_nw w4 #[.int .i64 (tkI C (k : Int)), .int .i64 (tkI C (ps - 1)), .int .i64 (tkI C cy), .string (tkT C te)] 35)
      have HKA5 := hidden (blk_later HKA.out hb5)
      have HKB5 := hidden (blk_later HKB.out hb5)
      have HO5 := hidden (own_below (HO.out.alloc (.cells #[.string vo, .int .i64 ex, .string ve, .int .i64 ps, .int .i64 cy, .string te] 32)) hb5)
      have HB5 := hidden (bthen HBb.out hb5)
      have HL5 : Hid (w.heap.size + 1 < w4.heap.size) := by
        have h1 := blk_lt (blk_later HKB.out hb4)
        exact h1
      clear hb4 hb5 b0 l0 b2 hld CTk HKA HKB HB1 HBb
      by_cases hC : C = 0
      case neg =>
        have j1 : (C != 0) = true := bne_iff_ne.2 hC
        have HX := hidden (HS3.out HP.out hC)
        have hno : (no : Int) ≤ 1000 := by omega
        generalize tkI C (k : Int) = t1 at *
        generalize tkI C (ps - 1) = t2 at *
        generalize tkI C cy = t3 at *
        generalize tkT C te = t4 at *
        clear hC HS2 HS3
        go_wp2
        go_roundw
        case rel => exact ⟨k + 1, mk, by omega, by go_num, by rw [HX.out]; go_num, by rw [HX.out]; exact HO5.out, by rw [HX.out]; exact HMk.out, HKA5.out, HKB5.out, HB5.out⟩
        case measure => simp [intV]; omega
      subst hC
      have j1 : ((0 : Int) != 0) = false := rfl
      have HX := hidden (HS2.out HP.out rfl)
      clear HS2 HS3
      simp only [tkI, tkT, tkM, if_true] at HK5 HKA5 HKB5 HO5 HB5 ⊢
      obtain ⟨z, hz⟩ : ∃ z, ps - 1 = z := ⟨_, rfl⟩
      rw [hz] at HX HK5 HKA5 HKB5 HO5 HB5
      rw [hz]
      clear hz
      generalize markB hd zs.length [z] = M1 at *
      generalize markB sn n [(k : Int)] = M2 at *
      have kb := HKB5.out
      have b1 := blk_cell kb
      have f1 := blk_frozen kb
      have l1 := blk_lt kb
      have hS1 := heap_setCell_same (w4.alloc (.cells #[.int .i64 (k : Int), .int .i64 z, .int .i64 cy, .string te] 35)) (w.heap.size + 1) 11 _ _ (.string M1) kb
      have b1' := blk_cell hS1
      have f1' := blk_frozen hS1
      have l1' := blk_lt hS1
      have KB := hidden (heap_setCell_same ((w4.alloc (.cells #[.int .i64 (k : Int), .int .i64 z, .int .i64 cy, .string te] 35)).setCell ⟨w.heap.size + 1, 11, none⟩ (.string M1)) (w.heap.size + 1) 10 _ _ (.string M2) hS1)
      have g10 : (mk.setIfInBounds 11 (.string M1))[10]? = some (.string sn) := (HMk.out.heard M1).c10
      have KA := hidden ((heap_setCell_other ((w4.alloc (.cells #[.int .i64 (k : Int), .int .i64 z, .int .i64 cy, .string te] 35)).setCell ⟨w.heap.size + 1, 11, none⟩ (.string M1)) ⟨w.heap.size + 1, 10, none⟩ w.heap.size (.string M2) (show w.heap.size ≠ w.heap.size + 1 by omega)).trans ((heap_setCell_other (w4.alloc (.cells #[.int .i64 (k : Int), .int .i64 z, .int .i64 cy, .string te] 35)) ⟨w.heap.size + 1, 11, none⟩ w.heap.size (.string M1) (show w.heap.size ≠ w.heap.size + 1 by omega)).trans HKA5.out))
      have k5 := (heap_setCell_other ((w4.alloc (.cells #[.int .i64 (k : Int), .int .i64 z, .int .i64 cy, .string te] 35)).setCell ⟨w.heap.size + 1, 11, none⟩ (.string M1)) ⟨w.heap.size + 1, 10, none⟩ w4.heap.size (.string M2) (show w4.heap.size ≠ w.heap.size + 1 by have := HL5.out; omega)).trans ((heap_setCell_other (w4.alloc (.cells #[.int .i64 (k : Int), .int .i64 z, .int .i64 cy, .string te] 35)) ⟨w.heap.size + 1, 11, none⟩ w4.heap.size (.string M1) (show w4.heap.size ≠ w.heap.size + 1 by have := HL5.out; omega)).trans HK5.out)
      have b5 := blk_cell k5
      have l5 := blk_lt k5
      have HO6 := hidden (ownsRow_setCell_below (ownsRow_setCell_below HO5.out (a := ⟨w.heap.size + 1, 11, none⟩) (by show w.heap.size + 1 < _; omega) (.string M1)) (a := ⟨w.heap.size + 1, 10, none⟩) (by show w.heap.size + 1 < _; omega) (.string M2))
      have HB6 := hidden ((HB5.out.setCell (p := ⟨w.heap.size + 1, 11, none⟩) (show w.heap.size ≤ w.heap.size + 1 by omega) (.string M1)).setCell (p := ⟨w.heap.size + 1, 10, none⟩) (show w.heap.size ≤ w.heap.size + 1 by omega) (.string M2))
      have HM6 := hidden ((HMk.out.heard M1).seen M2)
      clear kb hS1 k5 HK5 HKA5 HKB5 HO5 HB5
      have HS6 : Hid ((((w4.alloc (.cells #[.int .i64 (k : Int), .int .i64 z, .int .i64 cy, .string te] 35)).setCell ⟨w.heap.size + 1, 11, none⟩ (.string M1)).setCell ⟨w.heap.size + 1, 10, none⟩ (.string M2)).heap.size = w4.heap.size + 1) := by show _ = _; simp
      have HL6 := hidden (show w.heap.size + 1 + 1 ≤ w4.heap.size from by have := HL5.out; omega)
      go_wp2_with (at_builtin; generalize (((w4.alloc (.cells #[.int .i64 (k : Int), .int .i64 z, .int .i64 cy, .string te] 35)).setCell ⟨w.heap.size + 1, 11, none⟩ (.string M1)).setCell ⟨w.heap.size + 1, 10, none⟩ (.string M2)) = W6 at *; refine kDlv.wpList_append _ rfl (.tmp 47) (.tmp 49) 47 rfl (w.heap.size + 1 + 1) 35 i0 (.agg #[.int .i64 0, .int .i64 0, .int .i64 0, .string ⟨#[]⟩]) 40 Try.underlying47 hi hz0 hz1 hz2 rfl u8 got.length _ rfl (HO6.out.alloc _) (.slice (some ⟨w4.heap.size + 1, 0, none⟩) 1 1) [(⟨(k : Int), z, cy, te⟩ : Dlv)] rfl (Kind.Lies.of_block (K := kDlv) (es := [(⟨(k : Int), z, cy, te⟩ : Dlv)]) (blk_newAt W6 _ _ HS6.out.symm) (by simp [maxLen])) (by simp only [maxLen, List.length_singleton]; omega) (by simp only [List.length_singleton]; omega) (by have := HS6.out; have := HL6.out; simp; omega) ?_; intro v3 w3 hown3 hgrow3 _)
      have hrow := own_from HO6.out
      have hA6 := ballc W6 (.cells #[.int .i64 (k : Int), .int .i64 z, .int .i64 cy, .string te] 35)
      have hB7 : Below w.heap.size w w3 := (bthen HB6.out hA6).grown hgrow3 (by have := (bthen HB6.out hA6).size; omega) (fun i hi => by have := hrow i hi; omega)
      have kA := blk_grown (blk_later KA.out hA6) hgrow3 hrow (by omega)
      have kB := blk_grown (blk_later KB.out hA6) hgrow3 hrow (by omega)
      have hown7 : w3.ownsRow (w.heap.size + 1 + 1) 35 4 v3 (got ++ [(⟨(k : Int), z, cy, te⟩ : Dlv)]).length (kDlv.flat (got ++ [(⟨(k : Int), z, cy, te⟩ : Dlv)])) := by
        rw [Kind.flat_append, List.length_append]
        exact hown3
      go_roundw
      case rel => exact ⟨k + 1, _, by omega, by go_num, by rw [HX.out], by rw [HX.out]; exact hown7, by rw [HX.out]; exact HM6.out, kA, kB, hB7⟩
      case measure => simp [intV]; omega
    · obtain rfl : k = qs.length := by omega
      have i2 : ¬ (qs.length : Int) < (qs.length : Int) := by omega
      rw [← HA.out] at HO HMk c10 c11 ⊢
      obtain ⟨hd, sn, got, no⟩ := A
      dsimp only at *
      have HBf := hidden hB
      have b1 := blk_cell HK1.out
      have l1 := blk_lt HK1.out
      clear hB HK0 HK1 HMk
      go_wp2
      refine wp_region_quiet_below (by kernel_rfl) (by kernel_rfl) ?_
      repeat (go_big_quiet_step (fail))
      refine wpQuiet_nil ?_
      intro w5 hw5
      have hb5 := rg_below hw5
      have HO5 := hidden (own_low (own_below HO.out hb5) (show w.heap.size ≤ w.heap.size + 1 + 1 by omega))
      have HB5 := hidden (bthen HBf.out hb5)
      clear hw5 hb5 b1 l1
      go_wp2
      refine bodyPost_ret (v := .tuple #[.string hd, .string sn, u8, .int .i64 (no : Int)]) (by simp [results, Try.results14, go_sem]) rfl ⟨_, rfl, HO5.out, HB5.out⟩
end Go.Proofs.Ytkopmhmbldohdab

/- The document's call Same of layer 24 tells that two rows that are alike are, and makes at most new memory; conditions: the rows lie where they say, lengths fit int. -/
namespace Go.Proofs.Ytkopmhmbldohdab
open Go.ChangeShapes Go.WideShapes Go.ChangeAt Go.RowKit
set_option linter.unusedVariables false
attribute [local go_sem] cell_rg
attribute [local go_sem ↓] eqIn_dl
attribute [local go_sem] guard_dl dlQ_same

theorem kDlv_four {n₀ : Nat} {W : World} {ad : Option Addr} {len cap : Nat} {es : List Dlv} (h : kDlv.Lies n₀ W (.slice ad len cap) es) (j : Nat) (hj : j < es.length) : ∃ b off : Nat, ad = some ⟨b, off, none⟩ ∧ b < n₀ ∧
    W.cell? ⟨b, off + j * 4, none⟩ = some (.int .i64 es[j].fm) ∧ W.cell? ⟨b, off + j * 4 + 1, none⟩ = some (.int .i64 es[j].sl) ∧ W.cell? ⟨b, off + j * 4 + 2, none⟩ = some (.int .i64 es[j].cy) ∧ W.cell? ⟨b, off + j * 4 + 3, none⟩ = some (.string es[j].te) := by
  obtain ⟨b, off, he, hb, hc⟩ := h.at j hj
  exact ⟨b, off, he, hb, hc 0 (by decide), hc 1 (by decide), hc 2 (by decide), hc 3 (by decide)⟩
set_option maxHeartbeats 4000000 in
theorem rSame_any (a1 : Option Addr) (c1 : Nat) (a2 : Option Addr) (c2 : Nat) (es : List Dlv) (hlen : es.length ≤ 1000000) (w : World) (h1 : kDlv.Lies w.heap.size w (.slice a1 es.length c1) es) (h2 : kDlv.Lies w.heap.size w (.slice a2 es.length c2) es) :
    Calls Try.prog 17 #[.slice a1 es.length c1, .slice a2 es.length c2] w fun e w' => e = .returned (.bool true) ∧ Below w.heap.size w w' := by
  have H1 := hidden h1
  have H2 := hidden h2
  clear h1 h2
  go_enter Try.func17, Try.ntmps17
  go_wp2
  go_loopw [5] (fun i wr => ∃ k : Nat, k ≤ es.length ∧ i = .int .i64 k ∧ Below w.heap.size w wr) (fun i _ => es.length - (intV i).toNat)
  case atStart => exact ⟨0, Nat.zero_le _, rfl, Below.refl _ _⟩
  case round =>
    obtain ⟨k, hk, rfl, hB⟩ := hrel
    by_cases hlt : k < es.length
    · obtain ⟨b, off, rfl, hb1, e0, e1, e2, e3⟩ := kDlv_four (H1.out.below hB) k hlt
      obtain ⟨b', off', rfl, hb2, f0, f1, f2, f3⟩ := kDlv_four (H2.out.below hB) k hlt
      have i1 : (0 : Int) ≤ (k : Int) := by omega
      have i2 : (k : Int) < (es.length : Int) := by omega
      have hbw : b < wr.heap.size := by have := hB.size; omega
      have hbw' : b' < wr.heap.size := by have := hB.size; omega
      have HB := hidden hB
      clear hB
      generalize es[k] = q at *
      obtain ⟨x0, x1, x2, x3⟩ := q
      dsimp only at e0 e1 e2 e3 f0 f1 f2 f3
      go_wp2
      refine wp_region_quiet_below (by kernel_rfl) (by kernel_rfl) ?_
      repeat (go_big_quiet_step (fail))
      refine wpQuiet_nil ?_
      intro w3 hw3
      have HB3 := hidden (bthen HB.out (rg_below hw3))
      clear hw3 e0 e1 e2 e3 f0 f1 f2 f3
      go_wp2
      go_roundw
      case rel => exact ⟨k + 1, by omega, by go_num, HB3.out⟩
      case measure => simp [intV]; omega
    · obtain rfl : k = es.length := by omega
      have i2 : ¬ (es.length : Int) < (es.length : Int) := by omega
      have HB := hidden hB
      clear hB
      go_wp2
      go_ret
      exact ⟨rfl, HB.out⟩
end Go.Proofs.Ytkopmhmbldohdab

/- The fixed configuration of the statements, and what is plain of it; no conditions. -/
namespace Go.Proofs.Ytkopmhmbldohdab
open Go.ChangeShapes Go.WideShapes Go.ChangeAt Go.RowKit
set_option linter.unusedVariables false

theorem Tab.four (w : World) (t : TypeId) (g : Nat) (hg : g = w.heap.size) : Tab (w.alloc (.cells #[.int .i64 0, .int .i64 1, .int .i64 2, .int .i64 3] t)) (some ⟨g, 0, none⟩) [0, 1, 2, 3] := by
  subst hg
  intro i hi
  refine ⟨_, rfl, ?_⟩
  have hi' : i = 0 ∨ i = 1 ∨ i = 2 ∨ i = 3 := by simp at hi; omega
  rcases hi' with rfl | rfl | rfl | rfl <;> exact World.cell?_alloc_mark w _ t _ _
theorem Tab.none (w : World) : Tab w none [] := fun i hi => absurd hi (Nat.not_lt_zero _)
theorem plainE_small : plainE 4 1 1 20 64 1 64 190 10 3 [0, 1, 2, 3] = 0 := by decide
theorem plainE_zero : plainE 0 0 0 0 0 0 0 0 0 0 [] = 7 := by decide
/-- The same call, where the answer is spelt otherwise. -/
theorem Calls.ret_to {P : Program} {F : FuncId} {args : Array Value} {w : World} {v u : Value} (h : Calls P F args w fun e w' => e = .returned v ∧ Below w.heap.size w w') (e : v = u) : Calls P F args w fun e w' => e = .returned u ∧ Below w.heap.size w w' := by
  rw [← e]; exact h
theorem val_i {a b : Int} (h : a = b) : Value.int .i64 a = .int .i64 b := by rw [h]
end Go.Proofs.Ytkopmhmbldohdab

/- The fixed calls of the statements on package accept come out as they must, and make at most new memory; no conditions. -/
namespace Go.Proofs.Ytkopmhmbldohdab
open Go.ChangeShapes Go.WideShapes Go.ChangeAt Go.RowKit
set_option linter.unusedVariables false
attribute [local go_sem ↓] ldM_eq stM_eq eqIn_dl
attribute [local go_sem] guard_dl dlQ_same

def memL (mc mr mn : Int) : Array Value := #[.int .i64 mc, .int .i64 0, .int .i64 0, .string ⟨#[]⟩, .int .i64 0, .string ⟨#[]⟩, .string ⟨#[]⟩, .int .i64 mn, .int .i64 mr, .string ⟨#[]⟩, .string ⟨#[]⟩, .string ⟨#[]⟩, .string ⟨#[]⟩, .string ⟨#[]⟩, .string ⟨#[]⟩, .slice none 0 0, .slice none 0 0, .slice none 0 0, .int .i64 0, .int .i64 0, .int .i64 0, .int .i64 0, .int .i64 0, .int .i64 0]
theorem memL_w (mc mr mn : Int) : MemW (memL mc mr mn) mc 0 mn mr ⟨#[]⟩ ⟨#[]⟩ ⟨#[]⟩ ⟨#[]⟩ := ⟨rfl, rfl, rfl, rfl, rfl, rfl, rfl, rfl, rfl⟩
theorem small24_any (w : World) :
    Calls Try.prog 16 #[] w fun e w' => ∃ g, e = .returned (.agg #[.int .i64 4, .int .i64 1, .int .i64 1, .int .i64 20, .int .i64 64, .int .i64 1, .int .i64 64, .int .i64 190, .int .i64 10, .int .i64 3, .slice (some ⟨g, 0, none⟩) 4 4]) ∧ Tab w' (some ⟨g, 0, none⟩) [0, 1, 2, 3] ∧ Below w.heap.size w w' := by
  go_enter Try.func16, Try.ntmps16
  go_wp2
  refine bodyPost_ret (v := .agg #[.int .i64 4, .int .i64 1, .int .i64 1, .int .i64 20, .int .i64 64, .int .i64 1, .int .i64 64, .int .i64 190, .int .i64 10, .int .i64 3, .slice (some ⟨w.heap.size + 1, 0, none⟩) 4 4]) (by simp [results, Try.results16, go_sem]) rfl ⟨_, rfl, Tab.four _ _ _ (by simp), Joins.below_alloc2 _ _ _⟩
theorem chk_a : (0 : Int) = chkC 4 1 1 20 64 1 64 190 10 3 [0, 1, 2, 3] 223 0 7 2 0 1 7 ⟨#[97]⟩ ⟨#[]⟩ := by
  unfold chkC; rw [plainE_small]; decide
theorem chk_b : chkC 4 1 1 20 64 1 64 190 10 3 [0, 1, 2, 3] 223 0 7 2 1 1 7 ⟨#[97]⟩ ⟨#[]⟩ = 12 := by
  unfold chkC; rw [plainE_small]; decide
theorem chk_c : chkC 4 1 1 20 64 1 64 190 10 3 [0, 1, 2, 3] 223 0 7 2 1 1 7 ⟨#[97]⟩ ⟨#[49, 48, 48, 48]⟩ = 12 := by
  unfold chkC; rw [plainE_small]; decide
theorem mark_t : markB ⟨#[]⟩ 4 [0] = ⟨#[49, 48, 48, 48]⟩ := by rfl
theorem take_a : (.tuple #[.string (tkM 0 ⟨#[]⟩ 4 (1 - 1)), .string (tkM 0 ⟨#[]⟩ 4 0), .agg #[.int .i64 (tkI 0 0), .int .i64 (tkI 0 (1 - 1)), .int .i64 (tkI 0 7), .string (tkT 0 ⟨#[97]⟩)], .int .i64 0] : Value) = .tuple #[.string ⟨#[49, 48, 48, 48]⟩, .string ⟨#[49, 48, 48, 48]⟩, .agg #[.int .i64 0, .int .i64 0, .int .i64 7, .string ⟨#[97]⟩], .int .i64 0] := by
  have e1 : tkM 0 ⟨#[]⟩ 4 (1 - 1) = ⟨#[49, 48, 48, 48]⟩ := mark_t
  have e2 : tkM 0 ⟨#[]⟩ 4 0 = ⟨#[49, 48, 48, 48]⟩ := mark_t
  rw [e1, e2]; rfl
def pkA : Pkt := ⟨⟨#[]⟩, 0, ⟨#[]⟩, 1, 7, ⟨#[97]⟩⟩
def pkZ : Pkt := ⟨⟨#[]⟩, 0, ⟨#[]⟩, 0, 0, ⟨#[]⟩⟩
theorem all_a : (⟨⟨#[49, 48, 48, 48]⟩, ⟨#[49, 48, 48, 48]⟩, [⟨0, 0, 7, ⟨#[97]⟩⟩], 1⟩ : StT) = allF (plainE 4 1 1 20 64 1 64 190 10 3 [0, 1, 2, 3]) (fun i q h => chkC 4 1 1 20 64 1 64 190 10 3 [0, 1, 2, 3] 223 0 7 2 i q.ps q.cy q.te h) (([0, 1, 2, 3] : List Int).length : Nat) 4 ⟨#[]⟩ ⟨#[]⟩ [pkA, pkA, pkZ] := by
  unfold allF
  rw [if_pos plainE_small]
  have h1 : allT (fun i (q : Pkt) h => chkC 4 1 1 20 64 1 64 190 10 3 [0, 1, 2, 3] 223 0 7 2 i q.ps q.cy q.te h) (([0, 1, 2, 3] : List Int).length : Nat) 4 ⟨#[]⟩ ⟨#[]⟩ [pkA, pkA, pkZ] 1 = ⟨⟨#[49, 48, 48, 48]⟩, ⟨#[49, 48, 48, 48]⟩, [⟨0, 0, 7, ⟨#[97]⟩⟩], 0⟩ := by
    refine (all_take (k := 0) (by decide) chk_a.symm).trans ?_
    have e1 : markB (allT (fun i (q : Pkt) h => chkC 4 1 1 20 64 1 64 190 10 3 [0, 1, 2, 3] 223 0 7 2 i q.ps q.cy q.te h) (([0, 1, 2, 3] : List Int).length : Nat) 4 ⟨#[]⟩ ⟨#[]⟩ [pkA, pkA, pkZ] 0).hd (([0, 1, 2, 3] : List Int).length : Nat) [([pkA, pkA, pkZ].getD 0 noQ).ps - 1] = ⟨#[49, 48, 48, 48]⟩ := mark_t
    have e2 : markB (allT (fun i (q : Pkt) h => chkC 4 1 1 20 64 1 64 190 10 3 [0, 1, 2, 3] 223 0 7 2 i q.ps q.cy q.te h) (([0, 1, 2, 3] : List Int).length : Nat) 4 ⟨#[]⟩ ⟨#[]⟩ [pkA, pkA, pkZ] 0).sn 4 [((0 : Nat) : Int)] = ⟨#[49, 48, 48, 48]⟩ := mark_t
    rw [e1, e2]; rfl
  have h2 : allT (fun i (q : Pkt) h => chkC 4 1 1 20 64 1 64 190 10 3 [0, 1, 2, 3] 223 0 7 2 i q.ps q.cy q.te h) (([0, 1, 2, 3] : List Int).length : Nat) 4 ⟨#[]⟩ ⟨#[]⟩ [pkA, pkA, pkZ] 2 = ⟨⟨#[49, 48, 48, 48]⟩, ⟨#[49, 48, 48, 48]⟩, [⟨0, 0, 7, ⟨#[97]⟩⟩], 1⟩ := by
    refine (all_no (k := 1) (by decide) ?_).trans ?_
    · rw [h1]
      show ¬ chkC 4 1 1 20 64 1 64 190 10 3 [0, 1, 2, 3] 223 0 7 2 1 1 7 ⟨#[97]⟩ ⟨#[49, 48, 48, 48]⟩ = 0
      rw [chk_c]; decide
    · rw [h1]
  have h3 := (all_skip (chk := fun i (q : Pkt) h => chkC 4 1 1 20 64 1 64 190 10 3 [0, 1, 2, 3] 223 0 7 2 i q.ps q.cy q.te h) (m := (([0, 1, 2, 3] : List Int).length : Nat)) (n := 4) (mh := ⟨#[]⟩) (mz := ⟨#[]⟩) (qs := [pkA, pkA, pkZ]) (k := 2) rfl).trans h2
  exact h3.symm
set_option maxRecDepth 100000 in
set_option maxHeartbeats 4000000 in
theorem known24_any (w : World) :
    Calls Try.prog 5 #[] w fun e w' => e = .returned (.bool true) ∧ Below w.heap.size w w' := by
  go_enter Try.func5, Try.ntmps5
  go_wp2_with fail
  refine (small24_any _).mono ?_
  rintro e w1 ⟨g, rfl, hT, hb⟩
  have HB1 := hidden hb
  obtain ⟨M, hM⟩ : ∃ M, M = memL 223 2 7 := ⟨_, rfl⟩
  have hW : MemW M 223 0 7 2 ⟨#[]⟩ ⟨#[]⟩ ⟨#[]⟩ ⟨#[]⟩ := by rw [hM]; exact memL_w _ _ _
  have HW := hidden hW
  have hst : (stM (.pointer (some ⟨w1.heap.size + 1, 0, none⟩)) (.agg #[.int .i64 223, .int .i64 0, .int .i64 0, .string ⟨#[]⟩, .int .i64 0, .string ⟨#[]⟩, .string ⟨#[]⟩, .int .i64 7, .int .i64 2, .string ⟨#[]⟩, .string ⟨#[]⟩, .string ⟨#[]⟩, .string ⟨#[]⟩, .string ⟨#[]⟩, .string ⟨#[]⟩, .slice none 0 0, .slice none 0 0, .slice none 0 0, .int .i64 0, .int .i64 0, .int .i64 0, .int .i64 0, .int .i64 0, .int .i64 0])).run Try.prog ((w1.alloc (.cells #[.int .i64 4, .int .i64 1, .int .i64 1, .int .i64 20, .int .i64 64, .int .i64 1, .int .i64 64, .int .i64 190, .int .i64 10, .int .i64 3, .slice (some ⟨g, 0, none⟩) 4 4] 24)).alloc (.cells #[.int .i64 0, .int .i64 0, .int .i64 0, .string ⟨#[]⟩, .int .i64 0, .string ⟨#[]⟩, .string ⟨#[]⟩, .int .i64 0, .int .i64 0, .string ⟨#[]⟩, .string ⟨#[]⟩, .string ⟨#[]⟩, .string ⟨#[]⟩, .string ⟨#[]⟩, .string ⟨#[]⟩, .slice none 0 0, .slice none 0 0, .slice none 0 0, .int .i64 0, .int .i64 0, .int .i64 0, .int .i64 0, .int .i64 0, .int .i64 0] 30)) = .ok () ((w1.alloc (.cells #[.int .i64 4, .int .i64 1, .int .i64 1, .int .i64 20, .int .i64 64, .int .i64 1, .int .i64 64, .int .i64 190, .int .i64 10, .int .i64 3, .slice (some ⟨g, 0, none⟩) 4 4] 24)).alloc (.cells M 30)) := by
    rw [hM]; exact stM_at _ _ _ (by simp) rfl rfl (by kernel_rfl)
  obtain ⟨k0, k1, k2⟩ := blk3 w1 #[.int .i64 4, .int .i64 1, .int .i64 1, .int .i64 20, .int .i64 64, .int .i64 1, .int .i64 64, .int .i64 190, .int .i64 10, .int .i64 3, .slice (some ⟨g, 0, none⟩) 4 4] 24 M 30 #[.string ⟨#[]⟩, .int .i64 0, .string ⟨#[]⟩, .int .i64 1, .int .i64 7, .string ⟨#[97]⟩] 32
  have HK0 := hidden k0
  have HK1 := hidden k1
  have HK2 := hidden k2
  have hld := ldM_run hW.size k1
  have HB2 := hidden (bthen (bthen (ballc w1 (.cells #[.int .i64 4, .int .i64 1, .int .i64 1, .int .i64 20, .int .i64 64, .int .i64 1, .int .i64 64, .int .i64 190, .int .i64 10, .int .i64 3, .slice (some ⟨g, 0, none⟩) 4 4] 24)) (ballc _ (.cells M 30))) (ballc _ (.cells #[.string ⟨#[]⟩, .int .i64 0, .string ⟨#[]⟩, .int .i64 1, .int .i64 7, .string ⟨#[97]⟩] 32)))
  have HT := hidden (hT.below HB2.out)
  clear hT hb hM hW k0 k1 k2
  go_wp2_with fail
  refine (Calls.ret_to (Take_any 4 1 1 20 64 1 64 190 10 3 (some ⟨g, 0, none⟩) 4 [0, 1, 2, 3] M 223 0 7 2 ⟨#[]⟩ ⟨#[]⟩ ⟨#[]⟩ ⟨#[]⟩ HW.out 0 ⟨#[]⟩ 0 ⟨#[]⟩ 1 7 ⟨#[97]⟩ 0 _ (by decide) HT.out (by decide) (by decide) chk_a) take_a).mono ?_
  rintro e w2 ⟨rfl, hb2⟩
  have hb3 := bthen hb2 (ballc w2 (.cells #[.int .i64 0, .int .i64 0, .int .i64 7, .string ⟨#[97]⟩] 35))
  have HB3 := hidden hb3
  have HKD := hidden (blk_nw w2 #[.int .i64 0, .int .i64 0, .int .i64 7, .string ⟨#[97]⟩] 35)
  have HT3 := hidden (HT.out.below hb3)
  have k0 := blk_later HK0.out hb3
  have k1 := blk_later HK1.out hb3
  have k2 := blk_later HK2.out hb3
  have b0 := blk_cell k0
  have l0 := blk_lt k0
  have b2 := blk_cell k2
  have l2 := blk_lt k2
  clear hst hld hb2 hb3 HK0 HK1 HK2 HT
  have hld := ldM_run HW.out.size k1
  have HK0 := hidden k0
  have HK1 := hidden k1
  have HK2 := hidden k2
  have HV := hidden (Kind.Lies.of_block (K := kPkt) (t := 32) (g := w2.heap.size + 1) (es := [pkA, pkA, pkZ]) (blk_newAt (w2.alloc (.cells #[.int .i64 0, .int .i64 0, .int .i64 7, .string ⟨#[97]⟩] 35)) #[.string ⟨#[]⟩, .int .i64 0, .string ⟨#[]⟩, .int .i64 1, .int .i64 7, .string ⟨#[97]⟩, .string ⟨#[]⟩, .int .i64 0, .string ⟨#[]⟩, .int .i64 1, .int .i64 7, .string ⟨#[97]⟩, .string ⟨#[]⟩, .int .i64 0, .string ⟨#[]⟩, .int .i64 0, .int .i64 0, .string ⟨#[]⟩] 32 (by simp)) (by simp [maxLen]))
  have HB4 := hidden (ballc (w2.alloc (.cells #[.int .i64 0, .int .i64 0, .int .i64 7, .string ⟨#[97]⟩] 35)) (.cells #[.string ⟨#[]⟩, .int .i64 0, .string ⟨#[]⟩, .int .i64 1, .int .i64 7, .string ⟨#[97]⟩, .string ⟨#[]⟩, .int .i64 0, .string ⟨#[]⟩, .int .i64 1, .int .i64 7, .string ⟨#[97]⟩, .string ⟨#[]⟩, .int .i64 0, .string ⟨#[]⟩, .int .i64 0, .int .i64 0, .string ⟨#[]⟩] 32))
  clear k0 k1 k2
  go_wp2_with fail
  refine (All_any 4 1 1 20 64 1 64 190 10 3 (some ⟨g, 0, none⟩) 4 [0, 1, 2, 3] M 223 0 7 2 ⟨#[]⟩ ⟨#[]⟩ ⟨#[]⟩ ⟨#[]⟩ HW.out (some ⟨w2.heap.size + 1, 0, none⟩) 3 [pkA, pkA, pkZ] _ (by decide) (HT3.out.below HB4.out) (by decide) (by decide) (by decide) HV.out _ all_a).mono ?_
  rintro e w3 ⟨v, rfl, hown, hb5⟩
  obtain ⟨gd, gc, rfl⟩ := own_slice hown
  have HLD := hidden (Kind.Lies.of_own (K := kDlv) (es := [⟨0, 0, 7, ⟨#[97]⟩⟩]) hown)
  have hb6 := bthen HB4.out hb5
  have HB6 := hidden (bthen HB3.out hb6)
  have HT6 := hidden (HT3.out.below hb6)
  have k0 := blk_later HK0.out hb6
  have k1 := blk_later HK1.out hb6
  have k2 := blk_later HK2.out hb6
  have kd := blk_later HKD.out hb6
  clear hown hb5 hb6 hld b0 l0 b2 l2 HV HB4 HKD HK0 HK1 HK2 HT3
  have b0 := blk_cell k0
  have l0 := blk_lt k0
  have b2 := blk_cell k2
  have l2 := blk_lt k2
  have bd := blk_cell kd
  have ld := blk_lt kd
  have hld := ldM_run HW.out.size k1
  clear k0 k1 k2 kd
  go_wp2_with fail
  refine (Calls.ret_to (Check_any 4 1 1 20 64 1 64 190 10 3 (some ⟨g, 0, none⟩) 4 [0, 1, 2, 3] M 223 0 7 2 ⟨#[]⟩ ⟨#[]⟩ ⟨#[]⟩ ⟨#[]⟩ HW.out 1 ⟨#[]⟩ 0 ⟨#[]⟩ 1 7 ⟨#[97]⟩ _ (by decide) HT6.out (by decide)) (val_i chk_b)).mono ?_
  rintro e w4 ⟨rfl, hb7⟩
  have HB7 := hidden (bthen HB6.out hb7)
  have HLD7 := hidden (HLD.out.later (bthen hb7 (ballc w4 (.cells #[.int .i64 0, .int .i64 0, .int .i64 7, .string ⟨#[97]⟩] 35))))
  clear hb7 hld b0 l0 b2 l2 bd ld HLD HT6 HB6
  go_wp2_with fail
  refine (rSame_any gd gc (some ⟨w4.heap.size, 0, none⟩) 1 [⟨0, 0, 7, ⟨#[97]⟩⟩] (by decide) _ HLD7.out (Kind.Lies.of_block (K := kDlv) (t := 35) (g := w4.heap.size) (es := [⟨0, 0, 7, ⟨#[97]⟩⟩]) (heap_alloc_new w4 _) (by simp [maxLen]))).mono ?_
  rintro e w5 ⟨rfl, hb8⟩
  have HB8 := hidden (bthen HB7.out (bthen (ballc w4 _) hb8))
  clear hb8
  go_wp2
  go_ret
  exact ⟨rfl, bthen HB1.out (bthen HB2.out HB8.out)⟩
end Go.Proofs.Ytkopmhmbldohdab

/- The calls wasSentIn and isTime of package sched return what plain functions give, and make at most new memory; conditions: the table lies where it says, its length and the numbers fit int. -/
namespace Go.Proofs.Ytkopmhmbldohdab
open Go.ChangeShapes Go.WideShapes Go.ChangeAt Go.RowKit
set_option linter.unusedVariables false
attribute [local go_sem] cell_rg

theorem byte_at (s : ByteArray) (k : Nat) (h : k < s.size) : s[k] = s.data.toList.getD k 0 := by
  have h' : k < s.data.toList.length := by simpa using h
  rw [List.getD_eq_getElem?_getD, List.getElem?_eq_getElem h']
  rfl
theorem sentB_far {s : ByteArray} {k : Nat} (h : s.size ≤ k) : sentB s k = false := by
  unfold sentB
  rw [decide_eq_false (by omega : ¬ k < s.size), Bool.false_and]
theorem sentB_in {s : ByteArray} {k : Nat} (h : k < s.size) : sentB s k = (s.data.toList.getD k 0 == 49) := by
  unfold sentB
  rw [decide_eq_true h, Bool.true_and]
theorem u8_49 (b : UInt8) : ((b.toNat : Int) == 49) = (b == 49) := by
  by_cases h : b = 49
  · subst h; rfl
  · have h2 : ¬ b.toNat = 49 := fun c => h (UInt8.toNat_inj.1 c)
    rw [beq_eq_false_iff_ne.2 h, beq_eq_false_iff_ne]
    intro c
    exact h2 (by omega)


/-- Is it time for what has its middle at M? -/
def timeM (M r dr e : Int) : Bool := decide (M ≤ e) && decide (e < M + r + dr)
/-- Where a slot's middle is, 0 where there is no such slot. -/
def midP (o sl : Int) (m : Nat) (k : Nat) : Int := placeE 0 (slotB (k : Int) m) (midE o sl (k : Int))
theorem midP_in {o sl : Int} {m k : Nat} (h : k < m) : midP o sl m k = midE o sl (k : Int) := by
  unfold midP
  rw [slotB_yes (by omega) (by omega), placeE_yes]
theorem midP_no {o sl : Int} {m k : Nat} (h : ¬ k < m) : midP o sl m k = 0 := by
  unfold midP
  rw [slotB_no (by omega), placeE_no]
theorem midP_bd {o sl : Int} {m k : Nat} (hm : m ≤ 32) (o1 : 0 ≤ o) (o2 : o ≤ 30000) (sl1 : 1 ≤ sl) (sl2 : sl ≤ 30000) : 0 ≤ midP o sl m k ∧ midP o sl m k ≤ 975000 := by
  by_cases h : k < m
  · rw [midP_in h]; exact midE_bd (by omega) (by omega) o1 o2 sl1 sl2
  · rw [midP_no h]; omega
/-- Is that slot due? -/
def dueP (o sl r dr e : Int) (m : Nat) (s : ByteArray) (k : Nat) : Bool := !sentB s k && timeM (midP o sl m k) r dr e
theorem dueP_in {o sl r dr e : Int} {m : Nat} {s : ByteArray} {k : Nat} (h : k < m) : dueP o sl r dr e m s k = dueB o sl r dr e s k := by
  unfold dueP dueB timeM timeB
  rw [midP_in h]
theorem firstF_congr {p q : Nat → Bool} {l : List Nat} (h : ∀ k ∈ l, p k = q k) : firstF p l = firstF q l := by
  have e : l.find? p = l.find? q := by
    induction l with
    | nil => rfl
    | cons a l ih =>
      simp only [List.find?_cons, h a (List.mem_cons_self ..)]
      rw [ih fun k hk => h k (List.mem_cons_of_mem _ hk)]
  unfold firstF
  rw [e]
theorem firstF_dueP (o sl r dr e : Int) (zs : List Int) (node : Int) (s : ByteArray) : firstF (dueP o sl r dr e zs.length s) (ownL zs node zs.length) = dueF 0 o sl r dr zs node e s := by
  unfold dueF
  rw [ownedF_ok]
  exact firstF_congr fun k hk => dueP_in (ownL_mem.1 hk).1

end Go.Proofs.Ytkopmhmbldohdab
