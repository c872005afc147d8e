/- Several texts of one's own in one: what each proves, and its conditions, is said ahead of it. -/
import Derived.Test.YtgclabboafdheaaBa
import Derived.Deep.OwnRows
import Derived.Laws.CopyRow

/- Plain words on what was delivered: a struct of four cells, and rows of it; no conditions. -/
namespace Go.Proofs.Ytgclabboafdheaa
open Go.ChangeShapes Go.WideShapes Go.ChangeAt Go.RowKit
set_option linter.unusedVariables false

/-- What was delivered; rows of it. -/
structure Dlv where
  fm : Int
  sl : Int
  cy : Int
  te : ByteArray
def dlvC (q : Dlv) : List Value := [.int .i64 q.fm, .int .i64 q.sl, .int .i64 q.cy, .string q.te]
def kDlv : Kind Dlv := ⟨4, dlvC, fun _ => rfl, by intro a u hu; simp [dlvC] at hu; rcases hu with rfl | rfl | rfl | rfl <;> rfl, by decide⟩
theorem kDlv_four {n₀ : Nat} {W : World} {ad : Option Addr} {len cap : Nat} {es : List Dlv} (h : kDlv.Lies n₀ W (.slice ad len cap) es) (j : Nat) (hj : j < es.length) : ∃ b off : Nat, ad = some ⟨b, off, none⟩ ∧ b < n₀ ∧
    W.cell? ⟨b, off + j * 4, none⟩ = some (.int .i64 es[j].fm) ∧ W.cell? ⟨b, off + j * 4 + 1, none⟩ = some (.int .i64 es[j].sl) ∧ W.cell? ⟨b, off + j * 4 + 2, none⟩ = some (.int .i64 es[j].cy) ∧ W.cell? ⟨b, off + j * 4 + 3, none⟩ = some (.string es[j].te) := by
  obtain ⟨b, off, he, hb, hc⟩ := h.at j hj
  exact ⟨b, off, he, hb, hc 0 (by decide), hc 1 (by decide), hc 2 (by decide), hc 3 (by decide)⟩
end Go.Proofs.Ytgclabboafdheaa

/- Plain words on ports: a node's last message and how old it is, rows of them, what messages and pulses make of them, what is read; no conditions. -/
namespace Go.Proofs.Ytgclabboafdheaa
open Go.ChangeShapes Go.WideShapes Go.ChangeAt Go.RowKit
set_option linter.unusedVariables false

/-- A port: the text of the last message, its cycle, how many pulses were since then. -/
structure Prt where
  te : ByteArray
  cy : Int
  ag : Int
@[ext] theorem Prt.ext' {p q : Prt} (h1 : p.te = q.te) (h2 : p.cy = q.cy) (h3 : p.ag = q.ag) : p = q := by
  cases p; cases q; cases h1; cases h2; cases h3; rfl
def prtC (p : Prt) : List Value := [.string p.te, .int .i64 p.cy, .int .i64 p.ag]
def kPrt : Kind Prt := ⟨3, prtC, fun _ => rfl, by intro a u hu; simp [prtC] at hu; rcases hu with rfl | rfl | rfl <;> rfl, by decide⟩
/-- A port of which nothing came; a row of them. -/
def noP (fr : Int) : Prt := ⟨⟨#[]⟩, 0, fr⟩
def blkP (n : Nat) (fr : Int) : List Prt := List.replicate n (noP fr)
/-- The row that counts. -/
def lstP (E : Int) (n : Nat) (fr : Int) (ps : List Prt) : List Prt := if E = 0 then (if ps.length = n then ps else blkP n fr) else []
theorem lstP_err {E : Int} (h : ¬ E = 0) (n : Nat) (fr : Int) (ps : List Prt) : lstP E n fr ps = [] := if_neg h
theorem lstP_ok {E : Int} (h : E = 0) {n : Nat} (fr : Int) {ps : List Prt} (hl : ps.length = n) : lstP E n fr ps = ps := (if_pos h).trans (if_pos hl)
theorem lstP_no {E : Int} (h : E = 0) {n : Nat} (fr : Int) {ps : List Prt} (hl : ¬ ps.length = n) : lstP E n fr ps = blkP n fr := (if_pos h).trans (if_neg hl)
theorem lstP_len {E : Int} (h : E = 0) (n : Nat) (fr : Int) (ps : List Prt) : (lstP E n fr ps).length = n := by
  by_cases hl : ps.length = n
  · rw [lstP_ok h fr hl, hl]
  · rw [lstP_no h fr hl]; simp [blkP]
/-- A message comes. -/
def put1 (l : List Prt) (d : Dlv) : List Prt := if 0 ≤ d.fm ∧ d.fm < (l.length : Int) then l.set d.fm.toNat ⟨d.te, d.cy, 0⟩ else l
theorem put1_in {l : List Prt} {d : Dlv} {k : Nat} (h : d.fm = (k : Int)) (hk : k < l.length) : put1 l d = l.set k ⟨d.te, d.cy, 0⟩ := by
  unfold put1
  rw [if_pos (by omega), h, Int.toNat_natCast]
theorem put1_out {l : List Prt} {d : Dlv} (h : ¬ (0 ≤ d.fm ∧ d.fm < (l.length : Int))) : put1 l d = l := if_neg h
theorem put1_len (l : List Prt) (d : Dlv) : (put1 l d).length = l.length := by unfold put1; split <;> simp
def putP (l : List Prt) (ds : List Dlv) : List Prt := ds.foldl put1 l
theorem putP_nil (l : List Prt) : putP l [] = l := rfl
theorem putP_snoc (l : List Prt) (ds : List Dlv) (d : Dlv) : putP l (ds ++ [d]) = put1 (putP l ds) d := by unfold putP; rw [List.foldl_append]; rfl
theorem putP_len (l : List Prt) (ds : List Dlv) : (putP l ds).length = l.length := by
  induction ds generalizing l with
  | nil => rfl
  | cons d ds ih => exact (ih (put1 l d)).trans (put1_len l d)
/-- A pulse comes. -/
def old1 (fr : Int) (p : Prt) : Prt := ⟨p.te, p.cy, satF p.ag fr⟩
def oldP (fr : Int) (l : List Prt) : List Prt := l.map (old1 fr)
theorem oldP_len (fr : Int) (l : List Prt) : (oldP fr l).length = l.length := by simp [oldP]
/-- As far as a round has come. -/
def oldK (fr : Int) (l : List Prt) (k : Nat) : List Prt := oldP fr (l.take k) ++ l.drop k
theorem oldK_0 (fr : Int) (l : List Prt) : oldK fr l 0 = l := rfl
theorem oldK_all (fr : Int) (l : List Prt) : oldK fr l l.length = oldP fr l := by unfold oldK; rw [List.take_length, List.drop_length, List.append_nil]
theorem oldK_len (fr : Int) (l : List Prt) (k : Nat) : (oldK fr l k).length = l.length := by unfold oldK oldP; simp; omega
theorem oldK_get (fr : Int) (l : List Prt) (k : Nat) (hk : k < l.length) : (oldK fr l k)[k]'(by rw [oldK_len]; exact hk) = l[k] := by
  unfold oldK
  rw [List.getElem_append_right (by simp [oldP]; omega)]
  have e : k - (oldP fr (l.take k)).length = 0 := by simp [oldP]; omega
  simp [oldP, Nat.min_eq_left (Nat.le_of_lt hk)]
theorem oldK_set (fr : Int) (l : List Prt) (k : Nat) (hk : k < l.length) : (oldK fr l k).set k (old1 fr l[k]) = oldK fr l (k + 1) := by
  have hl : (oldP fr (l.take k)).length = k := by simp [oldP]; omega
  unfold oldK
  rw [List.set_append_right _ _ (by omega), hl, Nat.sub_self, List.drop_eq_getElem_cons hk, List.set_cons_zero, List.take_add_one, List.getElem?_eq_getElem hk]
  unfold oldP
  rw [List.map_append]
  simp
/-- Is a port fresh; what is read of one. -/
def frsB (fr : Int) (p : Prt) : Bool := decide (0 ≤ p.ag) && decide (p.ag < fr)
def rdB (fr : Int) (l : List Prt) (z : Int) : Bool := decide (0 ≤ z) && decide (z < (l.length : Int)) && frsB fr (l.getD z.toNat (noP 0))
def rdT (fr : Int) (l : List Prt) (z : Int) : ByteArray := if rdB fr l z = true then (l.getD z.toNat (noP 0)).te else ⟨#[]⟩
def rdC (fr : Int) (l : List Prt) (z : Int) : Int := if rdB fr l z = true then (l.getD z.toNat (noP 0)).cy else 0
theorem rd_no {fr : Int} {l : List Prt} {z : Int} (h : rdB fr l z = false) : rdT fr l z = ⟨#[]⟩ ∧ rdC fr l z = 0 := ⟨if_neg (by rw [h]; decide), if_neg (by rw [h]; decide)⟩
theorem rd_yes {fr : Int} {l : List Prt} {z : Int} (h : rdB fr l z = true) : rdT fr l z = (l.getD z.toNat (noP 0)).te ∧ rdC fr l z = (l.getD z.toNat (noP 0)).cy := ⟨if_pos h, if_pos h⟩
theorem rdB_out {fr : Int} {l : List Prt} {z : Int} (h : ¬ (0 ≤ z ∧ z < (l.length : Int))) : rdB fr l z = false := by
  unfold rdB
  by_cases h0 : 0 ≤ z
  · rw [decide_eq_false (show ¬ z < (l.length : Int) by omega)]; simp
  · rw [decide_eq_false h0]; simp
theorem rdB_in {fr : Int} {l : List Prt} {k : Nat} (h : k < l.length) : rdB fr l (k : Int) = frsB fr l[k] := by
  unfold rdB
  rw [decide_eq_true (show (0 : Int) ≤ (k : Int) by omega), decide_eq_true (show (k : Int) < (l.length : Int) by omega)]
  simp [h]
/-- All ages fit int. -/
def agesIn (l : List Prt) : Prop := ∀ p ∈ l, (Lit.int .i64 p.ag).wf = true
end Go.Proofs.Ytgclabboafdheaa

/- Rows of ports as blocks of memory: how they are made, read, written and copied; no conditions. -/
namespace Go.Proofs.Ytgclabboafdheaa
open Go.ChangeShapes Go.WideShapes Go.ChangeAt Go.RowKit
set_option linter.unusedVariables false

theorem kPrt_flat_cons (p : Prt) (l : List Prt) : kPrt.flat (p :: l) = .string p.te :: .int .i64 p.cy :: .int .i64 p.ag :: kPrt.flat l := by simp [Kind.flat, kPrt, prtC]
theorem kPrt_set (l : List Prt) (i : Nat) (p : Prt) : (((kPrt.flat l).set (i * 3) (.string p.te)).set (i * 3 + 1) (.int .i64 p.cy)).set (i * 3 + 2) (.int .i64 p.ag) = kPrt.flat (l.set i p) := by
  induction l generalizing i with
  | nil => rfl
  | cons a l ih =>
    cases i with
    | zero => rw [kPrt_flat_cons]; simp [kPrt_flat_cons]
    | succ i =>
      have e : (i + 1) * 3 = i * 3 + 1 + 1 + 1 := by omega
      have e1 : (i + 1) * 3 + 1 = i * 3 + 1 + 1 + 1 + 1 := by omega
      have e2 : (i + 1) * 3 + 2 = i * 3 + 2 + 1 + 1 + 1 := by omega
      rw [kPrt_flat_cons, e1, e2, e]
      simp only [List.set_cons_succ]
      rw [ih, kPrt_flat_cons]
theorem kPrt_get (l : List Prt) (i : Nat) (hi : i < l.length) : (kPrt.flat l)[i * 3]? = some (.string l[i].te) ∧ (kPrt.flat l)[i * 3 + 1]? = some (.int .i64 l[i].cy) ∧ (kPrt.flat l)[i * 3 + 2]? = some (.int .i64 l[i].ag) :=
  ⟨kPrt.flat_get l i hi 0 (by decide), kPrt.flat_get l i hi 1 (by decide), kPrt.flat_get l i hi 2 (by decide)⟩
theorem kPrt_three {n₀ : Nat} {W : World} {ad : Option Addr} {len cap : Nat} {es : List Prt} (h : kPrt.Lies n₀ W (.slice ad len cap) es) (j : Nat) (hj : j < es.length) : ∃ b off : Nat, ad = some ⟨b, off, none⟩ ∧ b < n₀ ∧
    W.cell? ⟨b, off + j * 3, none⟩ = some (.string es[j].te) ∧ W.cell? ⟨b, off + j * 3 + 1, none⟩ = some (.int .i64 es[j].cy) ∧ W.cell? ⟨b, off + j * 3 + 2, none⟩ = some (.int .i64 es[j].ag) := by
  obtain ⟨b, off, he, hb, hc⟩ := h.at j hj
  exact ⟨b, off, he, hb, hc 0 (by decide), hc 1 (by decide), hc 2 (by decide)⟩
/-- A row of ports that is a block of its own. -/
def PBlk (W : World) (g : Nat) (l : List Prt) : Prop := W.heap[g]? = some (.cells (kPrt.flat l).toArray 60 (0, 0))
theorem PBlk.lt {W : World} {g : Nat} {l : List Prt} (h : PBlk W g l) : g < W.heap.size := blk_lt h
theorem PBlk.later {W W' : World} {g : Nat} {l : List Prt} (h : PBlk W g l) (hb : Below W.heap.size W W') : PBlk W' g l := blk_later h hb
theorem PBlk.open {W : World} {g : Nat} {l : List Prt} (h : PBlk W g l) (i : Nat) : W.frozen? ⟨g, i, none⟩ = false := blk_frozen h i
theorem PBlk.cells {W : World} {g : Nat} {l : List Prt} (h : PBlk W g l) (i : Nat) (hi : i < l.length) : W.cell? ⟨g, i * 3, none⟩ = some (.string l[i].te) ∧ W.cell? ⟨g, i * 3 + 1, none⟩ = some (.int .i64 l[i].cy) ∧ W.cell? ⟨g, i * 3 + 2, none⟩ = some (.int .i64 l[i].ag) := by
  obtain ⟨h0, h1, h2⟩ := kPrt_get l i hi
  rw [blk_cell h, blk_cell h, blk_cell h, List.getElem?_toArray, List.getElem?_toArray, List.getElem?_toArray]
  exact ⟨h0, h1, h2⟩
theorem PBlk.set {W : World} {g : Nat} {l : List Prt} (h : PBlk W g l) (i : Nat) (p : Prt) : PBlk (((W.setCell ⟨g, i * 3, none⟩ (.string p.te)).setCell ⟨g, i * 3 + 1, none⟩ (.int .i64 p.cy)).setCell ⟨g, i * 3 + 2, none⟩ (.int .i64 p.ag)) g (l.set i p) := by
  have h1 := heap_setCell_same W g (i * 3) _ _ (.string p.te) h
  have h2 := heap_setCell_same _ g (i * 3 + 1) _ _ (.int .i64 p.cy) h1
  have h3 := heap_setCell_same _ g (i * 3 + 2) _ _ (.int .i64 p.ag) h2
  rw [List.setIfInBounds_toArray, List.setIfInBounds_toArray, List.setIfInBounds_toArray, kPrt_set] at h3
  exact h3
theorem PBlk.lies {W : World} {g : Nat} {l : List Prt} (h : PBlk W g l) (hl : l.length ≤ maxLen) : kPrt.Lies W.heap.size W (.slice (some ⟨g, 0, none⟩) l.length l.length) l := Kind.Lies.of_block h hl
theorem below3P {B : Nat} {a w : World} {b : Nat} (h : Below B a w) (hp : B ≤ b) (i : Nat) (v0 v1 v2 : Value) : Below B a (((w.setCell ⟨b, i, none⟩ v0).setCell ⟨b, i + 1, none⟩ v1).setCell ⟨b, i + 2, none⟩ v2) :=
  ((h.setCell (p := ⟨b, i, none⟩) hp _).setCell (p := ⟨b, i + 1, none⟩) hp _).setCell (p := ⟨b, i + 2, none⟩) hp _
theorem other3P {w : World} {b c i : Nat} {o : Obj} (h : w.heap[c]? = some o) (hc : c ≠ b) (v0 v1 v2 : Value) : (((w.setCell ⟨b, i, none⟩ v0).setCell ⟨b, i + 1, none⟩ v1).setCell ⟨b, i + 2, none⟩ v2).heap[c]? = some o := by
  rw [heap_setCell_other _ _ _ _ hc, heap_setCell_other _ _ _ _ hc, heap_setCell_other _ _ _ _ hc]
  exact h
theorem infoPrt : (Try.prog.info? 60).map (fun i => (i.zero, i.size, i.bytes)) = some (some (.agg #[.string ⟨#[]⟩, .int .i64 0, .int .i64 0]), 3, 32) := by kernel_rfl
theorem made_prts (n : Nat) : madeCells #[.string ⟨#[]⟩, .int .i64 0, .int .i64 0] (n * 3) = (kPrt.flat (List.replicate n (noP 0))).toArray := by
  apply Array.ext
  · rw [size_madeCells, List.size_toArray, Kind.flat_length, List.length_replicate]; rfl
  · intro i h1 h2
    rw [size_madeCells] at h1
    have hh : (kPrt.flat (List.replicate n (noP 0)))[i]? = some (madeCells #[.string ⟨#[]⟩, .int .i64 0, .int .i64 0] (n * 3))[i] := by
      have hi : i / 3 < (List.replicate n (noP 0)).length := by rw [List.length_replicate]; omega
      obtain ⟨g0, g1, g2⟩ := kPrt_get _ (i / 3) hi
      rw [List.getElem_replicate] at g0 g1 g2
      have hm : (madeCells #[.string ⟨#[]⟩, .int .i64 0, .int .i64 0] (n * 3))[i] = (#[Value.string ⟨#[]⟩, Value.int .i64 0, Value.int .i64 0] : Array Value)[i % 3]! := by
        unfold madeCells
        simp
      rw [hm]
      by_cases h : i % 3 = 0
      · rw [show i = i / 3 * 3 by omega]; rw [g0]
        rw [show (i / 3 * 3) % 3 = 0 by omega]
        rfl
      · by_cases h' : i % 3 = 1
        · rw [show i = i / 3 * 3 + 1 by omega]; rw [g1]
          rw [show (i / 3 * 3 + 1) % 3 = 1 by omega]
          rfl
        · rw [show i = i / 3 * 3 + 2 by omega]; rw [g2]
          rw [show (i / 3 * 3 + 2) % 3 = 2 by omega]
          rfl
    have h3 : (kPrt.flat (List.replicate n (noP 0)))[i]? = some ((kPrt.flat (List.replicate n (noP 0))).toArray[i]) := by
      rw [List.getElem_toArray]
      exact List.getElem?_eq_getElem _
    rw [h3] at hh
    exact (Option.some.inj hh).symm
theorem make_prts (N : Nat) (hn : N ≤ 100000) (w : World) : (Instr.makeSlice 39 (.int .i64 (N : Int)) (.int .i64 (N : Int))).run Try.prog w = .ok (.slice (some ⟨w.heap.size, 0, none⟩) N N) (w.alloc (.cells (kPrt.flat (List.replicate N (noP 0))).toArray 60)) := by
  rw [← made_prts]
  obtain ⟨i0, hi, hz0, hz1, hz2⟩ := info_of infoPrt
  have h := run_make (P := Try.prog) w 39 60 i0 _ Try.underlying39 hi hz0 .i64 .i64 (N : Int) (N : Int) (by omega) (Int.le_refl _) (by rw [hz2]; omega) (by omega)
  rw [Int.toNat_natCast, hz1] at h
  exact h
/-- A whole row is copied. -/
theorem copy_prts (w : World) (ty : TypeId) (g N c : Nat) (ad : Option Addr) (hN : 0 < N) (cur ps : List Prt) (hg : PBlk w g cur) (hc : cur.length = N) (hp : ps.length = N) {n₀ : Nat} (hP : kPrt.Lies n₀ w (.slice ad N c) ps) :
    (Builtin.copy_ #[39, 39] ty #[.slice (some ⟨g, 0, none⟩) N N, .slice ad N c]).run Try.prog w = .ok (goInt N) (w.setRow g (kPrt.flat ps).toArray) := by
  obtain ⟨b, off, rfl, _, _⟩ := hP.at 0 (by omega)
  have hl := run_loadCells_list (P := Try.prog) w ⟨b, off, none⟩ (kPrt.flat ps) hP.cells
  have hst := run_storeCells_at Try.prog g 0 60 (kPrt.flat ps) 0 (kPrt.flat cur).toArray w hg (by rw [List.size_toArray, Kind.flat_length, Kind.flat_length, hc, hp]; omega) (kPrt.flat_one ps)
  have e : (kPrt.flat ps).length = N * 3 := by rw [Kind.flat_length, hp]; rfl
  have e2 : (kPrt.flat cur).length = N * 3 := by rw [Kind.flat_length, hc]; rfl
  have e3 : ((kPrt.flat cur).toArray.toList.take (0 + 0) ++ kPrt.flat ps ++ (kPrt.flat cur).toArray.toList.drop (0 + 0 + (kPrt.flat ps).length)) = kPrt.flat ps := by
    rw [e, List.drop_of_length_le (by simp [e2])]
    simp
  rw [e3] at hst
  rw [e] at hl
  obtain ⟨i0, hi, hz0, hz1, hz2⟩ := info_of infoPrt
  simp [Builtin.copy_, run_underlying Try.underlying39, Builtin.lenOf, Builtin.firstCells, sizeOf, typeInfo, hi, hz1, hl, hst]
theorem PBlk.row {W : World} {g : Nat} {l : List Prt} (h : PBlk W g l) (m : List Prt) : PBlk (W.setRow g (kPrt.flat m).toArray) g m := setRow_heap W g _ _ 60 (0, 0) h
/-- As far as blank ports were laid. -/
def filP (N : Nat) (fr : Int) (k : Nat) : List Prt := fillL (noP 0) N (fun _ => noP fr) k
theorem filP_len (N : Nat) (fr : Int) (k : Nat) : (filP N fr k).length = N := fillL_len _ _ _ _
theorem filP_0 (N : Nat) (fr : Int) : filP N fr 0 = List.replicate N (noP 0) := fillL_0 _ _ _
theorem filP_set (N : Nat) (fr : Int) (k : Nat) (hk : k < N) : (filP N fr k).set k (noP fr) = filP N fr (k + 1) := fillL_set (noP 0) N (fun _ => noP fr) k hk
theorem filP_all (N : Nat) (fr : Int) : filP N fr N = blkP N fr := by
  unfold filP blkP
  rw [fillL_all]
  apply List.ext_getElem <;> simp
end Go.Proofs.Ytgclabboafdheaa

/- Rows of ports and of messages that came in as arguments, and one message, opened: where their parts lie, and that ages and numbers fit int; no conditions. -/
namespace Go.Proofs.Ytgclabboafdheaa
open Go.ChangeShapes Go.WideShapes Go.ChangeAt Go.RowKit
set_option linter.unusedVariables false

/-- Rows of ports whose ages fit int. -/
def kPrtz : Kind { q : Prt // (Lit.int .i64 q.ag).wf = true } := ⟨3, fun q => prtC q.1, fun _ => rfl, by intro a u hu; simp [prtC] at hu; rcases hu with rfl | rfl | rfl <;> rfl, by decide⟩
theorem kPrtz_flat (l : List { q : Prt // (Lit.int .i64 q.ag).wf = true }) : kPrtz.flat l = kPrt.flat (l.map Subtype.val) := by
  induction l with
  | nil => rfl
  | cons a l ih => simp only [Kind.flat, List.flatMap_cons, List.map_cons] at ih ⊢; rw [ih]; rfl
section
variable {H : Type} {enc : TypeId × Value → H} {w : World} {base : Nat} {spare : Nat → Bool} {held : Bool}
set_option maxRecDepth 100000 in
theorem dec_prtz (n : Nat) (cs : List Value) (y : DataW H × List MemPlace) (hl : cs.length = kPrtz.k) (h : DataW.trod enc Try.prog w base spare held n 60 cs = some y) : ∃ a, cs = kPrtz.enc a := by
  obtain ⟨c0, c1, c2, rfl⟩ : ∃ c0 c1 c2, cs = [c0, c1, c2] := by
    have h2 : cs.length = 3 := hl
    match cs, h2 with
    | [c0, c1, c2], _ => exact ⟨c0, c1, c2, rfl⟩
  obtain ⟨xs, m, _, _, _, hxl, hfs⟩ := DataW.trod_struct Try.underlying60 h
  have k3 : Try.prog.cellsOf 3 = 1 := by kernel_rfl
  have k9 : Try.prog.cellsOf 9 = 1 := by kernel_rfl
  obtain ⟨y0, q0⟩ := some_of_lt hxl (by decide : 0 < 3) (hfs 0 _ rfl)
  obtain ⟨x0, h0, _, w0⟩ := DataW.trod_string Try.underlying9 (show DataW.trod enc Try.prog w base spare held m 9 [c0] = some y0 by simpa [Value.cells, k9] using q0)
  obtain ⟨y1, q1⟩ := some_of_lt hxl (by decide : 1 < 3) (hfs 1 _ rfl)
  obtain ⟨x1, h1, _, w1⟩ := DataW.trod_int Try.underlying3 (show DataW.trod enc Try.prog w base spare held m 3 [c1] = some y1 by simpa [Value.cells, k3] using q1)
  obtain ⟨y2, q2⟩ := some_of_lt hxl (by decide : 2 < 3) (hfs 2 _ rfl)
  obtain ⟨x2, h2, _, w2⟩ := DataW.trod_int Try.underlying3 (show DataW.trod enc Try.prog w base spare held m 3 [c2] = some y2 by simpa [Value.cells, k3] using q2)
  simp only [List.cons.injEq, and_true] at h0 h1 h2
  subst h0 h1 h2
  exact ⟨⟨⟨x0, x1, x2⟩, w2⟩, rfl⟩
set_option maxRecDepth 100000 in
theorem open_prts {r : Reach} {b0 : Nat} {v : Value} {dt : DataW H} {ps : List MemPlace} (hv : Value.okWide Try.prog w r b0 39 v) (h : DataW.Trod enc Try.prog w base spare held 39 v dt ps) :
    ∃ (ad : Option Addr) (cap : Nat) (es : List Prt), v = .slice ad es.length cap ∧ es.length ≤ 9223372036854775807 ∧ kPrt.Lies w.heap.size w (.slice ad es.length cap) es ∧ agesIn es := by
  obtain ⟨ad, cap, es, rfl, hl, hE⟩ := kPrtz.open_arg Try.underlying39 (by kernel_rfl) dec_prtz hv h
  refine ⟨ad, cap, es.map Subtype.val, by rw [List.length_map], by rw [List.length_map]; exact hl, ?_, ?_⟩
  · obtain ⟨ad', c, hv, h1, h2, h3, hc⟩ := hE
    refine ⟨ad', c, by rw [List.length_map]; exact hv, by rw [List.length_map]; exact h1, h2, h3, fun hj => ?_⟩
    rw [← kPrtz_flat]
    exact hc (by simpa using hj)
  · intro t ht
    obtain ⟨q, _, rfl⟩ := List.mem_map.1 ht
    exact q.2
set_option maxRecDepth 100000 in
theorem dec_dlv (n : Nat) (cs : List Value) (y : DataW H × List MemPlace) (hl : cs.length = kDlv.k) (h : DataW.trod enc Try.prog w base spare held n 69 cs = some y) : ∃ a, cs = kDlv.enc a := by
  obtain ⟨c0, c1, c2, c3, rfl⟩ : ∃ c0 c1 c2 c3, cs = [c0, c1, c2, c3] := by
    have h2 : cs.length = 4 := hl
    match cs, h2 with
    | [c0, c1, c2, c3], _ => exact ⟨c0, c1, c2, c3, rfl⟩
  obtain ⟨xs, m, _, _, _, hxl, hfs⟩ := DataW.trod_struct Try.underlying69 h
  have k3 : Try.prog.cellsOf 3 = 1 := by kernel_rfl
  have k9 : Try.prog.cellsOf 9 = 1 := by kernel_rfl
  obtain ⟨y0, q0⟩ := some_of_lt hxl (by decide : 0 < 4) (hfs 0 _ rfl)
  obtain ⟨x0, h0, _, w0⟩ := DataW.trod_int Try.underlying3 (show DataW.trod enc Try.prog w base spare held m 3 [c0] = some y0 by simpa [Value.cells, k3] using q0)
  obtain ⟨y1, q1⟩ := some_of_lt hxl (by decide : 1 < 4) (hfs 1 _ rfl)
  obtain ⟨x1, h1, _, w1⟩ := DataW.trod_int Try.underlying3 (show DataW.trod enc Try.prog w base spare held m 3 [c1] = some y1 by simpa [Value.cells, k3] using q1)
  obtain ⟨y2, q2⟩ := some_of_lt hxl (by decide : 2 < 4) (hfs 2 _ rfl)
  obtain ⟨x2, h2, _, w2⟩ := DataW.trod_int Try.underlying3 (show DataW.trod enc Try.prog w base spare held m 3 [c2] = some y2 by simpa [Value.cells, k3] using q2)
  obtain ⟨y3, q3⟩ := some_of_lt hxl (by decide : 3 < 4) (hfs 3 _ rfl)
  obtain ⟨x3, h3, _, w3⟩ := DataW.trod_string Try.underlying9 (show DataW.trod enc Try.prog w base spare held m 9 [c3] = some y3 by simpa [Value.cells, k9] using q3)
  simp only [List.cons.injEq, and_true] at h0 h1 h2 h3
  subst h0 h1 h2 h3
  exact ⟨⟨x0, x1, x2, x3⟩, rfl⟩
set_option maxRecDepth 100000 in
theorem open_dlvs {r : Reach} {b0 : Nat} {v : Value} {dt : DataW H} {ps : List MemPlace} (hv : Value.okWide Try.prog w r b0 40 v) (h : DataW.Trod enc Try.prog w base spare held 40 v dt ps) :
    ∃ (ad : Option Addr) (cap : Nat) (es : List Dlv), v = .slice ad es.length cap ∧ es.length ≤ 9223372036854775807 ∧ kDlv.Lies w.heap.size w (.slice ad es.length cap) es :=
  kDlv.open_arg Try.underlying40 (by kernel_rfl) dec_dlv hv h
set_option maxRecDepth 100000 in
theorem open_dlv {r : Reach} {b0 : Nat} {v : Value} {dt : DataW H} {ps : List MemPlace} (hv : Value.okWide Try.prog w r b0 69 v) (h : DataW.Trod enc Try.prog w base spare held 69 v dt ps) :
    ∃ fm sl cy te, v = .agg #[.int .i64 fm, .int .i64 sl, .int .i64 cy, .string te] := by
  have hs := Try.underlying69
  obtain ⟨cs, rfl, hsz⟩ := okWide_struct hs hv
  obtain ⟨l⟩ := cs
  have h2 : l.length = kDlv.k := hsz.trans (by kernel_rfl)
  obtain ⟨fuel, hf⟩ := h
  obtain ⟨a, ha⟩ := dec_dlv fuel l _ h2 (by simpa [Value.cells] using hf)
  obtain ⟨fm, sl, cy, te⟩ := a
  exact ⟨fm, sl, cy, te, by rw [ha]; rfl⟩
end
end Go.Proofs.Ytgclabboafdheaa

/- What messages and pulses do with a port in package port: the calls return what plain functions give, and make at most new memory; conditions: numbers fit int. -/
namespace Go.Proofs.Ytgclabboafdheaa
open Go.ChangeShapes Go.WideShapes Go.ChangeAt Go.RowKit
set_option linter.unusedVariables false
attribute [local go_sem] cell_rg

theorem lBlank_any (fr : Int) (w : World) :
    Calls Try.prog 62 #[.agg #[.int .i64 fr]] w fun e w' => e = .returned (.agg #[.string ⟨#[]⟩, .int .i64 0, .int .i64 fr]) ∧ Below w.heap.size w w' := by
  have HB := hidden (bthen (ballc w (.cells #[.int .i64 fr] 62)) (ballc _ (.cells #[.string ⟨#[]⟩, .int .i64 0, .int .i64 fr] 60)))
  go_enter Try.func62, Try.ntmps62
  go_wp2
  refine bodyPost_ret (v := .agg #[.string ⟨#[]⟩, .int .i64 0, .int .i64 fr]) (by simp [results, Try.results62, go_sem]) rfl ⟨rfl, ?_⟩
  exact HB.out
theorem lPut_any (fr fm sl cy : Int) (te : ByteArray) (w : World) :
    Calls Try.prog 50 #[.agg #[.int .i64 fr], .agg #[.int .i64 fm, .int .i64 sl, .int .i64 cy, .string te]] w fun e w' => e = .returned (.agg #[.string te, .int .i64 cy, .int .i64 0]) ∧ Below w.heap.size w w' := by
  have HB := hidden (bthen (ballc w (.cells #[.int .i64 fr] 62)) (bthen (ballc _ (.cells #[.int .i64 fm, .int .i64 sl, .int .i64 cy, .string te] 69)) (ballc _ (.cells #[.string te, .int .i64 cy, .int .i64 0] 60))))
  go_enter Try.func50, Try.ntmps50
  go_wp2
  refine bodyPost_ret (v := .agg #[.string te, .int .i64 cy, .int .i64 0]) (by simp [results, Try.results50, go_sem]) rfl ⟨rfl, ?_⟩
  exact HB.out
theorem lOlder_any (fr : Int) (te : ByteArray) (cy ag : Int) (w : World) (hf : (Lit.int .i64 fr).wf = true) (ha : (Lit.int .i64 ag).wf = true) :
    Calls Try.prog 52 #[.agg #[.int .i64 fr], .agg #[.string te, .int .i64 cy, .int .i64 ag]] w fun e w' => e = .returned (.agg #[.string te, .int .i64 cy, .int .i64 (satF ag fr)]) ∧ Below w.heap.size w w' := by
  have CS := hidden (fun V => sat_any ag fr V ha hf)
  generalize satF ag fr = R at *
  go_enter Try.func52, Try.ntmps52
  go_wp2_with fail
  refine (CS.out _).mono ?_
  rintro e w1 ⟨rfl, rfl⟩
  go_wp2
  refine bodyPost_ret (v := .agg #[.string te, .int .i64 cy, .int .i64 R]) (by simp [results, Try.results52, go_sem]) rfl ⟨rfl, ?_⟩
  exact bthen (ballc w _) (bthen (ballc _ _) (ballc _ _))
theorem lHolds_any (fr : Int) (te : ByteArray) (cy ag : Int) (w : World) :
    Calls Try.prog 54 #[.agg #[.int .i64 fr], .agg #[.string te, .int .i64 cy, .int .i64 ag]] w fun e w' => e = .returned (.bool (frsB fr ⟨te, cy, ag⟩)) ∧ Below w.heap.size w w' := by
  have HB := hidden (bthen (ballc w (.cells #[.int .i64 fr] 62)) (ballc _ (.cells #[.string te, .int .i64 cy, .int .i64 ag] 60)))
  have HR : Hid (frsB fr ⟨te, cy, ag⟩ = (decide (0 ≤ ag) && decide (ag < fr))) := rfl
  by_cases h0 : 0 ≤ ag
  · have d0 : decide (0 ≤ ag) = true := decide_eq_true h0
    rw [d0, Bool.true_and] at HR
    go_enter Try.func54, Try.ntmps54
    go_wp2
    go_ret
    exact ⟨ret_b HR.out.symm, HB.out⟩
  · have d0 : decide (0 ≤ ag) = false := decide_eq_false h0
    rw [d0, Bool.false_and] at HR
    go_enter Try.func54, Try.ntmps54
    go_wp2
    go_ret
    exact ⟨ret_b HR.out.symm, HB.out⟩
theorem lHas_any (fr : Int) (a2 : Option Addr) (m c2 : Nat) (z : Int) (w : World) :
    Calls Try.prog 49 #[.agg #[.int .i64 fr, .slice a2 m c2], .int .i64 z] w fun e w' => e = .returned (.bool (decide (0 ≤ z) && decide (z < (m : Int)))) ∧ Below w.heap.size w w' := by
  have HB := hidden (ballc w (.cells #[.int .i64 fr, .slice a2 m c2] 64))
  by_cases h0 : 0 ≤ z
  · have d0 : decide (0 ≤ z) = true := decide_eq_true h0
    rw [d0, Bool.true_and]
    go_enter Try.func49, Try.ntmps49
    go_wp2
    go_ret
    exact ⟨rfl, HB.out⟩
  · have d0 : decide (0 ≤ z) = false := decide_eq_false h0
    rw [d0, Bool.false_and]
    go_enter Try.func49, Try.ntmps49
    go_wp2
    go_ret
    exact ⟨rfl, HB.out⟩
end Go.Proofs.Ytgclabboafdheaa

/- The small calls of package conf (rounds, length, hold) return what they say, by numbers that wrap round, and make at most new memory; no conditions. -/
namespace Go.Proofs.Ytgclabboafdheaa
open Go.ChangeShapes Go.WideShapes Go.ChangeAt Go.RowKit
set_option linter.unusedVariables false
attribute [local go_sem] cell_rg

theorem cRounds_any (n f d p r dr o sl md fr : Int) (ad : Option Addr) (cap : Nat) (zs : List Int) (w : World) :
    Calls Try.prog 77 #[.agg #[.int .i64 n, .int .i64 f, .int .i64 d, .int .i64 p, .int .i64 r, .int .i64 dr, .int .i64 o, .int .i64 sl, .int .i64 md, .int .i64 fr, .slice ad zs.length cap]] w fun e w' => e = .returned (.int .i64 (roundsW f)) ∧ Below w.heap.size w w' := by
  go_enter Try.func77, Try.ntmps77
  go_wp2
  go_ret
  exact ⟨rfl, ballc _ _⟩

theorem cLength_any (n f d p r dr o sl md fr : Int) (ad : Option Addr) (cap : Nat) (zs : List Int) (w : World) :
    Calls Try.prog 74 #[.agg #[.int .i64 n, .int .i64 f, .int .i64 d, .int .i64 p, .int .i64 r, .int .i64 dr, .int .i64 o, .int .i64 sl, .int .i64 md, .int .i64 fr, .slice ad zs.length cap]] w fun e w' => e = .returned (.int .i64 (lengthW f d)) ∧ Below w.heap.size w w' := by
  go_enter Try.func74, Try.ntmps74
  go_wp2
  refine wp_region_quiet_below (by kernel_rfl) (by kernel_rfl) ?_
  repeat (first | (go_big_quiet_step (exact Calls.regrown_of (cRounds_any _ _ _ _ _ _ _ _ _ _ _ _ _ _))) | quiet_step (exact Calls.regrown_of (cRounds_any _ _ _ _ _ _ _ _ _ _ _ _ _ _)))
  refine wpQuiet_nil ?_
  intro _ hw'
  have hb1 := rg_below hw'
  clear hw'
  go_wp2
  go_ret
  exact ⟨rfl, bthen (ballc _ _) hb1⟩

theorem hold_any (a b x : Int) (w : World) :
    Calls Try.prog 68 #[.agg #[.int .i64 a, .int .i64 b], .int .i64 x] w fun e w' => e = .returned (.bool (decide (a ≤ x ∧ x ≤ b))) ∧ Below w.heap.size w w' := by
  by_cases h1 : a ≤ x
  · by_cases h2 : x ≤ b
    all_goals
      go_enter Try.func68, Try.ntmps68
      go_wp2
      go_ret
      exact ⟨ret_b (by simp [h1, h2]), ballc _ _⟩
  · have h1' : decide (a ≤ x) = false := by simp [h1]
    go_enter Try.func68, Try.ntmps68
    go_wp2
    go_ret
    exact ⟨ret_b (by simp), ballc _ _⟩
end Go.Proofs.Ytgclabboafdheaa
