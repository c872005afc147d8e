/- Several texts of one's own in one: what each proves, and its conditions, is said ahead of it. -/
import Derived.Test.YtohgmliafidalaaBd
import Derived.Deep.RegionHeld3
import Derived.Deep.DeepCutAuto
import Derived.Test.YtohgmliafidalaaBc
import Derived.RangeFuncNested
import Derived.RangeFuncBound
import Derived.RangeFuncCalls
import Derived.RangeFuncLeaves
import Derived.Shelf.Abstract
import Derived.Shelf.RegionOpen
import Derived.OwnWalkIn
import Derived.TacticsInMore
import Derived.LoopNIn
import Derived.LoopIn

/- The calls stepper and Step of package vec, and what stepper hands back, return what plain functions give, and make at most new memory; conditions: rows lie where they say, lengths fit int, and at most a hundred thousand codes and votes. -/
namespace Go.Proofs.Ytohgmliafidalaa
open Go.ChangeShapes Go.WideShapes Go.ChangeAt Go.RowKit Go.Shelf
set_option linter.unusedVariables false
attribute [local go_sem] cell_rg

theorem blkV_new {w w' : World} {C : Array Value} {t : TypeId} (hb : Below (w.alloc (.cells C t)).heap.size (w.alloc (.cells C t)) w') : w'.heap[w.heap.size]? = some (.cells C t (0, 0)) := (hb.block _ (by simp)).trans (heap_alloc_new w _)
theorem blkV_newD {w w' : World} {C : Array Value} {t : TypeId} (hb : Below (w.alloc (.cells C t)).drew.heap.size (w.alloc (.cells C t)).drew w') : w'.heap[w.heap.size]? = some (.cells C t (0, 0)) := (hb.block _ (by simp)).trans (heap_alloc_new w _)
theorem blkV_newE {w w' : World} {C : Array Value} {t : TypeId} (hb : Below (w.alloc (.cells C t)).drew.drew.heap.size (w.alloc (.cells C t)).drew.drew w') : w'.heap[w.heap.size]? = some (.cells C t (0, 0)) := (hb.block _ (by simp)).trans (heap_alloc_new w _)
/-- A block that lies there. -/
def Lay (g : Nat) (o : Obj) (w : World) : Prop := w.heap[g]? = some o
theorem Lay.alloc {g : Nat} {o : Obj} {w : World} (h : Lay g o w) (p : Obj) : Lay g o (w.alloc p) := blk_later h (ballc w p)
theorem Lay.drew {g : Nat} {o : Obj} {w : World} (h : Lay g o w) : Lay g o w.drew := h
theorem Lay.below {g : Nat} {o : Obj} {w w' : World} (h : Lay g o w) (hb : Below w.heap.size w w') : Lay g o w' := blk_later h hb
theorem Lay.iblk {g : Nat} {l : List Int} {w : World} (h : Lay g (.cells (kInt.flat l).toArray 3 (0, 0)) w) : IBlk w g l := h

set_option maxHeartbeats 4000000 in
theorem stepper1_any (n f d p r dr o sl md fr : Int) (ad : Option Addr) (cap : Nat) (zs : List Int) (x : Int) (codes told : ByteArray) (a2 : Option Addr) (c2 : Nat) (votes : List ByteArray) (k g0 g1 g2 g3 g4 : Nat) (w : World) (hl : zs.length ≤ 9223372036854775807) (hT : Tab w ad zs) (hx : (Lit.int .i64 x).wf = true)
    (hs1 : codes.size ≤ 9223372036854775807) (hs2 : told.size ≤ 9223372036854775807) (hn : votes.length ≤ 100000) (hV : kStr.Lies w.heap.size w (.slice a2 votes.length c2) votes) (hz : ∀ t ∈ votes, t.size ≤ 9223372036854775807)
    (b0 : w.heap[g0]? = some (.cells #[.int .i64 n, .int .i64 f, .int .i64 d, .int .i64 p, .int .i64 r, .int .i64 dr, .int .i64 o, .int .i64 sl, .int .i64 md, .int .i64 fr, .slice ad zs.length cap] 24 (0, 0))) (b1 : w.heap[g1]? = some (.cells #[.int .i64 x] 3 (0, 0))) (b2 : w.heap[g2]? = some (.cells #[.string codes] 9 (0, 0))) (b3 : w.heap[g3]? = some (.cells #[.string told] 9 (0, 0))) (b4 : w.heap[g4]? = some (.cells #[.slice a2 votes.length c2] 25 (0, 0))) :
    Calls Try.prog 131 #[.int .i64 (k : Int), .pointer (some ⟨g0, 0, none⟩), .pointer (some ⟨g1, 0, none⟩), .pointer (some ⟨g2, 0, none⟩), .pointer (some ⟨g3, 0, none⟩), .pointer (some ⟨g4, 0, none⟩)] w fun e w' => e = .returned (.int .i64 (stpG (plainE n f d p r dr o sl md fr zs) n f x codes told votes k : Int)) ∧ Below w.heap.size w w' := by
  have hC0 : Chn w.heap.size w w := Chn.refl (Nat.le_refl _)
  have hS : ∀ w', Chn w.heap.size w w' → (w'.cell? ⟨g0, 0, none⟩ = some (.int .i64 n) ∧ w'.cell? ⟨g0, 1, none⟩ = some (.int .i64 f) ∧ w'.cell? ⟨g0, 2, none⟩ = some (.int .i64 d) ∧ w'.cell? ⟨g0, 3, none⟩ = some (.int .i64 p) ∧ w'.cell? ⟨g0, 4, none⟩ = some (.int .i64 r) ∧ w'.cell? ⟨g0, 5, none⟩ = some (.int .i64 dr) ∧ w'.cell? ⟨g0, 6, none⟩ = some (.int .i64 o) ∧ w'.cell? ⟨g0, 7, none⟩ = some (.int .i64 sl) ∧ w'.cell? ⟨g0, 8, none⟩ = some (.int .i64 md) ∧ w'.cell? ⟨g0, 9, none⟩ = some (.int .i64 fr) ∧ w'.cell? ⟨g0, 10, none⟩ = some (.slice ad zs.length cap) ∧ w'.cell? ⟨g1, 0, none⟩ = some (.int .i64 x) ∧ w'.cell? ⟨g2, 0, none⟩ = some (.string codes) ∧ w'.cell? ⟨g3, 0, none⟩ = some (.string told) ∧ w'.cell? ⟨g4, 0, none⟩ = some (.slice a2 votes.length c2)) := fun V hV => by
    have l0 := blk_cell ((hV.1.block _ (blk_lt b0)).trans b0)
    exact ⟨l0 0, l0 1, l0 2, l0 3, l0 4, l0 5, l0 6, l0 7, l0 8, l0 9, l0 10, blk_cell ((hV.1.block _ (blk_lt b1)).trans b1) 0, blk_cell ((hV.1.block _ (blk_lt b2)).trans b2) 0, blk_cell ((hV.1.block _ (blk_lt b3)).trans b3) 0, blk_cell ((hV.1.block _ (blk_lt b4)).trans b4) 0⟩
  have CB := fun V => bitAt_any codes k V hs1
  have CD := fun V => vdigitAt_any told k 2 V hs2 (by decide)
  have CV : ∀ V, Chn w.heap.size w V → Calls Try.prog 133 #[.slice a2 votes.length c2, .int .i64 (k : Int)] V fun e w' => ∃ g, e = .returned (.slice (some ⟨g, 0, none⟩) votes.length votes.length) ∧ Lay g (.cells (kInt.flat (votesP votes k)).toArray 3 (0, 0)) w' ∧ Below V.heap.size V w' := fun V hb => (votesAt_any a2 c2 votes k V hn (hV.later hb.1) hz).mono fun e w' ⟨g, he, hI, hb⟩ => ⟨g, he, hI, hb⟩
  have CS := fun g V (hb : Chn w.heap.size w V) (hg : Lay g (.cells (kInt.flat (votesP votes k)).toArray 3 (0, 0)) V) => KStep_any n f d p r dr o sl md fr ad cap zs x (bitK codes k) (vdg 2 told k) (some ⟨g, 0, none⟩) votes.length votes.length (votesP votes k) V hl (hT.below hb.1) hx (by rw [votesP_len]; omega) (by have h := (Lay.iblk hg).lies (by rw [votesP_len]; simp only [maxLen]; omega); rwa [votesP_len] at h)
  have HQ : Hid ((stpG (plainE n f d p r dr o sl md fr zs) n f x codes told votes k : Int) = codeF (stpB (plainE n f d p r dr o sl md fr zs) n f x codes told votes k)) := stpG_int _ _ _ _ _ _ _ _
  have HR : Hid (stpB (plainE n f d p r dr o sl md fr zs) n f x codes told votes k = stepF (plainE n f d p r dr o sl md fr zs) n f x (bitK codes k) (vdg 2 told k) (votesP votes k)) := rfl
  rw [HQ.out, HR.out]
  clear HQ HR
  have CC := hidden (fun V => Code_any (stepF (plainE n f d p r dr o sl md fr zs) n f x (bitK codes k) (vdg 2 told k) (votesP votes k)) V)
  generalize stepF (plainE n f d p r dr o sl md fr zs) n f x (bitK codes k) (vdg 2 told k) (votesP votes k) = q at *
  generalize (kInt.flat (votesP votes k)).toArray = vcells at *
  generalize bitK codes k = bk at *
  generalize vdg 2 told k = td at *
  generalize votes.length = M at *
  obtain ⟨bv, bs⟩ := bk
  obtain ⟨qv, qs⟩ := q
  unfold agB at CB CS
  dsimp only at CB CS CC
  clear hV hz hT hs1 hs2 b0 b1 b2 b3 b4
  go_enter Try.func131, Try.ntmps131
  go_upto_region 1 with fail
  go_cut [8] (fun pt wx => ∃ g : Nat, pt = .pointer (some ⟨g, 0, none⟩) ∧ wx.heap[g]? = some (.cells #[.int .i64 qv, .bool qs] 108 (0, 0)) ∧ w.heap.size ≤ g ∧ Chn w.heap.size w wx)
  case first =>
    go_region_held3 (fun w' => w'.cell? ⟨g0, 0, none⟩ = some (.int .i64 n) ∧ w'.cell? ⟨g0, 1, none⟩ = some (.int .i64 f) ∧ w'.cell? ⟨g0, 2, none⟩ = some (.int .i64 d) ∧ w'.cell? ⟨g0, 3, none⟩ = some (.int .i64 p) ∧ w'.cell? ⟨g0, 4, none⟩ = some (.int .i64 r) ∧ w'.cell? ⟨g0, 5, none⟩ = some (.int .i64 dr) ∧ w'.cell? ⟨g0, 6, none⟩ = some (.int .i64 o) ∧ w'.cell? ⟨g0, 7, none⟩ = some (.int .i64 sl) ∧ w'.cell? ⟨g0, 8, none⟩ = some (.int .i64 md) ∧ w'.cell? ⟨g0, 9, none⟩ = some (.int .i64 fr) ∧ w'.cell? ⟨g0, 10, none⟩ = some (.slice ad zs.length cap) ∧ w'.cell? ⟨g1, 0, none⟩ = some (.int .i64 x) ∧ w'.cell? ⟨g2, 0, none⟩ = some (.string codes) ∧ w'.cell? ⟨g3, 0, none⟩ = some (.string told) ∧ w'.cell? ⟨g4, 0, none⟩ = some (.slice a2 M c2)) (first | exact hS _ (by repeat (first | with_reducible assumption | with_reducible refine Chn.drew ?_ | with_reducible refine Chn.alloc ?_ _ | with_reducible refine Chn.set ?_ _ _ (by first | exact Nat.le_refl _ | exact Chn.le hC4 | exact Chn.le hC5 | exact Chn.le hC6) _)))
      (first
      | (go_at_call 87; refine (CB _).mono ?_; rintro e w4 ⟨rfl, hb4⟩; clear CB; have hC4 := Chn.below (show Chn w.heap.size w _ from (by repeat (first | with_reducible assumption | with_reducible refine Chn.drew ?_ | with_reducible refine Chn.alloc ?_ _ | with_reducible refine Chn.set ?_ _ _ (by first | exact Nat.le_refl _ | exact Chn.le hC4 | exact Chn.le hC5 | exact Chn.le hC6) _))) hb4; (first | (have kx4 := (hb4.block _ (Array.getElem?_eq_some_iff.1 kx5).1).trans kx5; have ky4 := blk_cell kx4; have kz4 := blk_frozen kx4) | (have kx4 := (hb4.block _ (Array.getElem?_eq_some_iff.1 kx6).1).trans kx6; have ky4 := blk_cell kx4; have kz4 := blk_frozen kx4) | (have kx4 := blkV_new hb4; have ky4 := blk_cell kx4; have kz4 := blk_frozen kx4) | (have kx4 := blkV_newD hb4; have ky4 := blk_cell kx4; have kz4 := blk_frozen kx4) | (have kx4 := blkV_newE hb4; have ky4 := blk_cell kx4; have kz4 := blk_frozen kx4) | skip); (first | (have hI4 := Lay.below (show Lay g5 _ _ from (by repeat (first | with_reducible assumption | with_reducible refine Lay.drew ?_ | with_reducible refine Lay.alloc ?_ _))) hb4) | skip); clear hb4)
      | (go_at_call 97; refine (CD _).mono ?_; rintro e w9 ⟨rfl, rfl⟩; clear CD)
      | (go_at_call 133; refine (CV _ (by repeat (first | with_reducible assumption | with_reducible refine Chn.drew ?_ | with_reducible refine Chn.alloc ?_ _ | with_reducible refine Chn.set ?_ _ _ (by first | exact Nat.le_refl _ | exact Chn.le hC4 | exact Chn.le hC5 | exact Chn.le hC6) _))).mono ?_; rintro e w5 ⟨g5, rfl, hI5, hb5⟩; clear CV; have hC5 := Chn.below (show Chn w.heap.size w _ from (by repeat (first | with_reducible assumption | with_reducible refine Chn.drew ?_ | with_reducible refine Chn.alloc ?_ _ | with_reducible refine Chn.set ?_ _ _ (by first | exact Nat.le_refl _ | exact Chn.le hC4 | exact Chn.le hC5 | exact Chn.le hC6) _))) hb5; (first | (have kx5 := (hb5.block _ (Array.getElem?_eq_some_iff.1 kx4).1).trans kx4; have ky5 := blk_cell kx5; have kz5 := blk_frozen kx5) | (have kx5 := (hb5.block _ (Array.getElem?_eq_some_iff.1 kx6).1).trans kx6; have ky5 := blk_cell kx5; have kz5 := blk_frozen kx5) | (have kx5 := blkV_new hb5; have ky5 := blk_cell kx5; have kz5 := blk_frozen kx5) | (have kx5 := blkV_newD hb5; have ky5 := blk_cell kx5; have kz5 := blk_frozen kx5) | (have kx5 := blkV_newE hb5; have ky5 := blk_cell kx5; have kz5 := blk_frozen kx5) | skip); clear hb5)
      | (go_at_call 132; refine (CS g5 _ (by repeat (first | with_reducible assumption | with_reducible refine Chn.drew ?_ | with_reducible refine Chn.alloc ?_ _ | with_reducible refine Chn.set ?_ _ _ (by first | exact Nat.le_refl _ | exact Chn.le hC4 | exact Chn.le hC5 | exact Chn.le hC6) _)) (by repeat (first | with_reducible assumption | with_reducible refine Lay.drew ?_ | with_reducible refine Lay.alloc ?_ _))).mono ?_; rintro e w6 ⟨rfl, hb6⟩; clear CS; have hC6 := Chn.below (show Chn w.heap.size w _ from (by repeat (first | with_reducible assumption | with_reducible refine Chn.drew ?_ | with_reducible refine Chn.alloc ?_ _ | with_reducible refine Chn.set ?_ _ _ (by first | exact Nat.le_refl _ | exact Chn.le hC4 | exact Chn.le hC5 | exact Chn.le hC6) _))) hb6; (first | (have kx6 := (hb6.block _ (Array.getElem?_eq_some_iff.1 kx4).1).trans kx4; have ky6 := blk_cell kx6; have kz6 := blk_frozen kx6) | (have kx6 := (hb6.block _ (Array.getElem?_eq_some_iff.1 kx5).1).trans kx5; have ky6 := blk_cell kx6; have kz6 := blk_frozen kx6) | (have kx6 := blkV_new hb6; have ky6 := blk_cell kx6; have kz6 := blk_frozen kx6) | (have kx6 := blkV_newD hb6; have ky6 := blk_cell kx6; have kz6 := blk_frozen kx6) | (have kx6 := blkV_newE hb6; have ky6 := blk_cell kx6; have kz6 := blk_frozen kx6) | skip); clear hb6))
    all_goals
      go_wp2_with fail
      go_meet
      case rel =>
        refine ⟨_, rfl, ?_, ?_, (by repeat (first | with_reducible assumption | with_reducible refine Chn.drew ?_ | with_reducible refine Chn.alloc ?_ _ | with_reducible refine Chn.set ?_ _ _ (by first | exact Nat.le_refl _ | exact Chn.le hC4 | exact Chn.le hC5 | exact Chn.le hC6) _))⟩
        · first
            | with_reducible exact set2T kx6 _ _
            | exact heap_alloc_new _ _
        · first
            | with_reducible exact Nat.le_refl _
            | with_reducible exact Chn.le hC4
            | with_reducible exact Chn.le hC5
            | with_reducible exact Chn.le hC6
  case rest =>
    obtain ⟨g, rfl, hBl, hg, hC⟩ := hcut
    have e0 := fun i => blk_cell hBl i
    have lg := blk_lt hBl
    have HC := hidden hC
    clear hBl hg hC CB CD CV CS hS
    go_wp2_with fail
    refine (CC.out _).mono ?_
    rintro e w7 ⟨rfl, hb⟩
    have HB := hidden (bthen HC.out.1 hb)
    clear hb
    go_wp2
    go_ret
    exact ⟨rfl, HB.out⟩

theorem stepper_any (n f d p r dr o sl md fr : Int) (ad : Option Addr) (cap : Nat) (zs : List Int) (x : Int) (codes told : ByteArray) (a2 : Option Addr) (c2 M : Nat) (w : World) :
    Calls Try.prog 123 #[.agg #[.int .i64 n, .int .i64 f, .int .i64 d, .int .i64 p, .int .i64 r, .int .i64 dr, .int .i64 o, .int .i64 sl, .int .i64 md, .int .i64 fr, .slice ad zs.length cap], .int .i64 x, .string codes, .string told, .slice a2 M c2] w fun e w' => ∃ g0 g1 g2 g3 g4, e = .returned (.func (.func 131) #[] #[.pointer (some ⟨g0, 0, none⟩), .pointer (some ⟨g1, 0, none⟩), .pointer (some ⟨g2, 0, none⟩), .pointer (some ⟨g3, 0, none⟩), .pointer (some ⟨g4, 0, none⟩)])
      ∧ w'.heap[g0]? = some (.cells #[.int .i64 n, .int .i64 f, .int .i64 d, .int .i64 p, .int .i64 r, .int .i64 dr, .int .i64 o, .int .i64 sl, .int .i64 md, .int .i64 fr, .slice ad zs.length cap] 24 (0, 0)) ∧ w'.heap[g1]? = some (.cells #[.int .i64 x] 3 (0, 0)) ∧ w'.heap[g2]? = some (.cells #[.string codes] 9 (0, 0)) ∧ w'.heap[g3]? = some (.cells #[.string told] 9 (0, 0)) ∧ w'.heap[g4]? = some (.cells #[.slice a2 M c2] 25 (0, 0)) ∧ Below w.heap.size w w' := by
  have hmf : ∀ (fn : Fn) (first cap : Array Value) (w : World), (Instr.makeFunc fn first cap).run Try.prog w = .ok (.func fn first cap) w := fun _ _ _ _ => rfl
  have k0 := blk_nw w #[.int .i64 n, .int .i64 f, .int .i64 d, .int .i64 p, .int .i64 r, .int .i64 dr, .int .i64 o, .int .i64 sl, .int .i64 md, .int .i64 fr, .slice ad zs.length cap] 24
  have k1 := blk_newAt (w.alloc (.cells #[.int .i64 n, .int .i64 f, .int .i64 d, .int .i64 p, .int .i64 r, .int .i64 dr, .int .i64 o, .int .i64 sl, .int .i64 md, .int .i64 fr, .slice ad zs.length cap] 24)) #[.int .i64 x] 3 (b := w.heap.size + 1) (by simp)
  have k2 := blk_newAt ((w.alloc (.cells #[.int .i64 n, .int .i64 f, .int .i64 d, .int .i64 p, .int .i64 r, .int .i64 dr, .int .i64 o, .int .i64 sl, .int .i64 md, .int .i64 fr, .slice ad zs.length cap] 24)).alloc (.cells #[.int .i64 x] 3)) #[.string codes] 9 (b := w.heap.size + 1 + 1) (by simp)
  have k3 := blk_newAt (((w.alloc (.cells #[.int .i64 n, .int .i64 f, .int .i64 d, .int .i64 p, .int .i64 r, .int .i64 dr, .int .i64 o, .int .i64 sl, .int .i64 md, .int .i64 fr, .slice ad zs.length cap] 24)).alloc (.cells #[.int .i64 x] 3)).alloc (.cells #[.string codes] 9)) #[.string told] 9 (b := w.heap.size + 1 + 1 + 1) (by simp)
  have k4 := blk_newAt ((((w.alloc (.cells #[.int .i64 n, .int .i64 f, .int .i64 d, .int .i64 p, .int .i64 r, .int .i64 dr, .int .i64 o, .int .i64 sl, .int .i64 md, .int .i64 fr, .slice ad zs.length cap] 24)).alloc (.cells #[.int .i64 x] 3)).alloc (.cells #[.string codes] 9)).alloc (.cells #[.string told] 9)) #[.slice a2 M c2] 25 (b := w.heap.size + 1 + 1 + 1 + 1) (by simp)
  have K0 := hidden (blk_later (blk_later (blk_later (blk_later k0 (ballc _ (.cells #[.int .i64 x] 3))) (ballc _ (.cells #[.string codes] 9))) (ballc _ (.cells #[.string told] 9))) (ballc _ (.cells #[.slice a2 M c2] 25)))
  have K1 := hidden (blk_later (blk_later (blk_later k1 (ballc _ (.cells #[.string codes] 9))) (ballc _ (.cells #[.string told] 9))) (ballc _ (.cells #[.slice a2 M c2] 25)))
  have K2 := hidden (blk_later (blk_later k2 (ballc _ (.cells #[.string told] 9))) (ballc _ (.cells #[.slice a2 M c2] 25)))
  have K3 := hidden (blk_later k3 (ballc _ (.cells #[.slice a2 M c2] 25)))
  have K4 := hidden k4
  have HB := hidden (bthen (bthen (bthen (bthen (ballc w (.cells #[.int .i64 n, .int .i64 f, .int .i64 d, .int .i64 p, .int .i64 r, .int .i64 dr, .int .i64 o, .int .i64 sl, .int .i64 md, .int .i64 fr, .slice ad zs.length cap] 24)) (ballc _ (.cells #[.int .i64 x] 3))) (ballc _ (.cells #[.string codes] 9))) (ballc _ (.cells #[.string told] 9))) (ballc _ (.cells #[.slice a2 M c2] 25)))
  clear k0 k1 k2 k3 k4
  go_enter Try.func123, Try.ntmps123
  go_wp2
  go_ret
  exact ⟨_, _, _, _, _, rfl, K0.out, K1.out, K2.out, K3.out, K4.out, HB.out⟩

set_option maxHeartbeats 1000000 in
theorem VStep_any (n f d p r dr o sl md fr : Int) (ad : Option Addr) (cap : Nat) (zs : List Int) (x : Int) (codes told : ByteArray) (a2 : Option Addr) (c2 : Nat) (votes : List ByteArray) (w : World) (hl : zs.length ≤ 9223372036854775807) (hT : Tab w ad zs) (hx : (Lit.int .i64 x).wf = true)
    (hs1 : codes.size ≤ 100000) (hs2 : told.size ≤ 9223372036854775807) (hn : votes.length ≤ 100000) (hV : kStr.Lies w.heap.size w (.slice a2 votes.length c2) votes) (hz : ∀ t ∈ votes, t.size ≤ 9223372036854775807) :
    Calls Try.prog 105 #[.agg #[.int .i64 n, .int .i64 f, .int .i64 d, .int .i64 p, .int .i64 r, .int .i64 dr, .int .i64 o, .int .i64 sl, .int .i64 md, .int .i64 fr, .slice ad zs.length cap], .int .i64 x, .string codes, .string told, .slice a2 votes.length c2] w fun e w' => e = .returned (.string (dgB codes.size (stpG (plainE n f d p r dr o sl md fr zs) n f x codes told votes))) ∧ Below w.heap.size w w' := by
  have C1 := hidden (fun V => stepper_any n f d p r dr o sl md fr ad cap zs x codes told a2 c2 votes.length V)
  have C2 : ∀ (V : World) (g0 g1 g2 g3 g4 : Nat), Below w.heap.size w V → V.heap[g0]? = some (.cells #[.int .i64 n, .int .i64 f, .int .i64 d, .int .i64 p, .int .i64 r, .int .i64 dr, .int .i64 o, .int .i64 sl, .int .i64 md, .int .i64 fr, .slice ad zs.length cap] 24 (0, 0)) → V.heap[g1]? = some (.cells #[.int .i64 x] 3 (0, 0)) → V.heap[g2]? = some (.cells #[.string codes] 9 (0, 0)) → V.heap[g3]? = some (.cells #[.string told] 9 (0, 0)) → V.heap[g4]? = some (.cells #[.slice a2 votes.length c2] 25 (0, 0)) →
      Calls Try.prog 85 #[.int .i64 (codes.size : Int), .func (.func 131) #[] #[.pointer (some ⟨g0, 0, none⟩), .pointer (some ⟨g1, 0, none⟩), .pointer (some ⟨g2, 0, none⟩), .pointer (some ⟨g3, 0, none⟩), .pointer (some ⟨g4, 0, none⟩)]] V fun e w' => e = .returned (.string (dgB codes.size (stpG (plainE n f d p r dr o sl md fr zs) n f x codes told votes))) ∧ Below V.heap.size V w' :=
    fun V g0 g1 g2 g3 g4 hb b0 b1 b2 b3 b4 => digits_any codes.size hs1 131 #[.pointer (some ⟨g0, 0, none⟩), .pointer (some ⟨g1, 0, none⟩), .pointer (some ⟨g2, 0, none⟩), .pointer (some ⟨g3, 0, none⟩), .pointer (some ⟨g4, 0, none⟩)] (enters_of Try.func131 (by kernel_rfl) rfl) (stpG (plainE n f d p r dr o sl md fr zs) n f x codes told votes) (fun k _ => by have := stpG_bd (plainE n f d p r dr o sl md fr zs) n f x codes told votes k; omega) V
      (fun k hk W hW => stepper1_any n f d p r dr o sl md fr ad cap zs x codes told a2 c2 votes k g0 g1 g2 g3 g4 W hl (hT.below (bthen hb hW)) hx (by omega) hs2 hn (hV.later (bthen hb hW)) hz (blk_later b0 hW) (blk_later b1 hW) (blk_later b2 hW) (blk_later b3 hW) (blk_later b4 hW))
  have C2 := hidden C2
  clear hT hV hz
  generalize stpG (plainE n f d p r dr o sl md fr zs) n f x codes told votes = G at *
  go_enter Try.func105, Try.ntmps105
  go_wp2_with fail
  refine (C1.out _).mono ?_
  rintro e w2 ⟨g0, g1, g2, g3, g4, rfl, b0, b1, b2, b3, b4, hb⟩
  have HB2 := hidden (bthen (ballc w _) hb)
  have CX := hidden (C2.out w2 g0 g1 g2 g3 g4 HB2.out b0 b1 b2 b3 b4)
  clear hb b0 b1 b2 b3 b4
  go_wp2_with fail
  refine CX.out.mono ?_
  rintro e w3 ⟨rfl, hb⟩
  have HB3 := hidden (bthen HB2.out hb)
  clear hb
  go_wp2
  go_ret
  exact ⟨rfl, HB3.out⟩
end Go.Proofs.Ytohgmliafidalaa

/- The document's Plain returns the number of the first rule that a configuration breaks, else 0, and makes at most new memory; conditions: the table lies where it says, and its length fits int. -/
namespace Go.Proofs.Ytohgmliafidalaa
open Go.ChangeShapes Go.WideShapes Go.ChangeAt Go.RowKit
set_option linter.unusedVariables false

/-- x is from a to b. -/
def inB (x a b : Int) : Bool := decide (a ≤ x ∧ x ≤ b)
theorem inB_yes {x a b : Int} (h1 : a ≤ x) (h2 : x ≤ b) : inB x a b = true := decide_eq_true ⟨h1, h2⟩
theorem inB_no {x a b : Int} (h : ¬ (a ≤ x ∧ x ≤ b)) : inB x a b = false := decide_eq_false h
theorem within_any (x a b : Int) (w : World) :
    Calls Try.prog 36 #[.int .i64 x, .int .i64 a, .int .i64 b] w fun e w' => e = .returned (.bool (inB x a b)) ∧ w' = w := by
  by_cases h : a ≤ x ∧ x ≤ b
  · exact (within_yes x a b w h.1 h.2).mono fun e w' ⟨he, hw⟩ => ⟨by rw [he]; exact ret_b (inB_yes h.1 h.2).symm, hw⟩
  · exact (within_no x a b w h).mono fun e w' ⟨he, hw⟩ => ⟨by rw [he]; exact ret_b (inB_no h).symm, hw⟩

set_option maxHeartbeats 1000000 in
theorem refPlain_0 (n f d p r dr o sl md fr : Int) (ad : Option Addr) (cap : Nat) (zs : List Int) (w : World)  (c0 : ¬ (4 ≤ n ∧ n ≤ 13)) :
    Calls Try.prog 9 #[.agg #[.int .i64 n, .int .i64 f, .int .i64 d, .int .i64 p, .int .i64 r, .int .i64 dr, .int .i64 o, .int .i64 sl, .int .i64 md, .int .i64 fr, .slice ad zs.length cap]] w fun e w' => e = .returned (.int .i64 (plainE n f d p r dr o sl md fr zs)) ∧ Below w.heap.size w w' := by
  have HP : Hid (plainE n f d p r dr o sl md fr zs = 7) := pl_0 c0
  have i0 : inB n 4 13 = false := inB_no c0
  clear c0
  go_enter Try.func9, Try.ntmps9
  go_wp2_with (go_at_call 36; refine (within_any _ _ _ _).mono ?_; rintro e w2 ⟨rfl, rfl⟩)
  go_ret
  exact ⟨ret_i HP.out.symm, ballc _ _⟩
set_option maxHeartbeats 1000000 in
theorem refPlain_1 (n f d p r dr o sl md fr : Int) (ad : Option Addr) (cap : Nat) (zs : List Int) (w : World) (c0 : 4 ≤ n ∧ n ≤ 13) (c1 : ¬ (0 ≤ f ∧ f ≤ 4)) :
    Calls Try.prog 9 #[.agg #[.int .i64 n, .int .i64 f, .int .i64 d, .int .i64 p, .int .i64 r, .int .i64 dr, .int .i64 o, .int .i64 sl, .int .i64 md, .int .i64 fr, .slice ad zs.length cap]] w fun e w' => e = .returned (.int .i64 (plainE n f d p r dr o sl md fr zs)) ∧ Below w.heap.size w w' := by
  have HP : Hid (plainE n f d p r dr o sl md fr zs = 7) := pl_1 c0 c1
  have i0 : inB n 4 13 = true := inB_yes c0.1 c0.2
  have i1 : inB f 0 4 = false := inB_no c1
  clear c0 c1
  go_enter Try.func9, Try.ntmps9
  go_wp2_with (go_at_call 36; refine (within_any _ _ _ _).mono ?_; rintro e w2 ⟨rfl, rfl⟩)
  go_ret
  exact ⟨ret_i HP.out.symm, ballc _ _⟩
set_option maxHeartbeats 1000000 in
theorem refPlain_2 (n f d p r dr o sl md fr : Int) (ad : Option Addr) (cap : Nat) (zs : List Int) (w : World) (c0 : 4 ≤ n ∧ n ≤ 13) (c1 : 0 ≤ f ∧ f ≤ 4) (c2 : ¬ (3 * f + 1 ≤ n)) :
    Calls Try.prog 9 #[.agg #[.int .i64 n, .int .i64 f, .int .i64 d, .int .i64 p, .int .i64 r, .int .i64 dr, .int .i64 o, .int .i64 sl, .int .i64 md, .int .i64 fr, .slice ad zs.length cap]] w fun e w' => e = .returned (.int .i64 (plainE n f d p r dr o sl md fr zs)) ∧ Below w.heap.size w w' := by
  have HP : Hid (plainE n f d p r dr o sl md fr zs = 7) := pl_2 c0 c1 c2
  have i0 : inB n 4 13 = true := inB_yes c0.1 c0.2
  have i1 : inB f 0 4 = true := inB_yes c1.1 c1.2
  have c2' : n ≤ 3 * f := by omega
  clear c0 c2
  go_enter Try.func9, Try.ntmps9
  go_wp2_with (go_at_call 36; refine (within_any _ _ _ _).mono ?_; rintro e w2 ⟨rfl, rfl⟩)
  go_ret
  exact ⟨ret_i HP.out.symm, ballc _ _⟩
set_option maxHeartbeats 1000000 in
theorem refPlain_3 (n f d p r dr o sl md fr : Int) (ad : Option Addr) (cap : Nat) (zs : List Int) (w : World) (c0 : 4 ≤ n ∧ n ≤ 13) (c1 : 0 ≤ f ∧ f ≤ 4) (c2 : 3 * f + 1 ≤ n) (c3 : ¬ (1 ≤ d ∧ d ≤ 4)) :
    Calls Try.prog 9 #[.agg #[.int .i64 n, .int .i64 f, .int .i64 d, .int .i64 p, .int .i64 r, .int .i64 dr, .int .i64 o, .int .i64 sl, .int .i64 md, .int .i64 fr, .slice ad zs.length cap]] w fun e w' => e = .returned (.int .i64 (plainE n f d p r dr o sl md fr zs)) ∧ Below w.heap.size w w' := by
  have HP : Hid (plainE n f d p r dr o sl md fr zs = 10) := pl_3 c0 c1 c2 c3
  have i0 : inB n 4 13 = true := inB_yes c0.1 c0.2
  have i1 : inB f 0 4 = true := inB_yes c1.1 c1.2
  have i3 : inB d 1 4 = false := inB_no c3
  have c2' : ¬ n ≤ 3 * f := by omega
  clear c0 c2 c3
  go_enter Try.func9, Try.ntmps9
  go_wp2_with (go_at_call 36; refine (within_any _ _ _ _).mono ?_; rintro e w2 ⟨rfl, rfl⟩)
  go_ret
  exact ⟨ret_i HP.out.symm, ballc _ _⟩
set_option maxHeartbeats 1000000 in
theorem refPlain_4 (n f d p r dr o sl md fr : Int) (ad : Option Addr) (cap : Nat) (zs : List Int) (w : World) (c0 : 4 ≤ n ∧ n ≤ 13) (c1 : 0 ≤ f ∧ f ≤ 4) (c2 : 3 * f + 1 ≤ n) (c3 : 1 ≤ d ∧ d ≤ 4) (c4 : ¬ (6 * ((f + 1) * d) + 1 ≤ p ∧ p ≤ 400)) :
    Calls Try.prog 9 #[.agg #[.int .i64 n, .int .i64 f, .int .i64 d, .int .i64 p, .int .i64 r, .int .i64 dr, .int .i64 o, .int .i64 sl, .int .i64 md, .int .i64 fr, .slice ad zs.length cap]] w fun e w' => e = .returned (.int .i64 (plainE n f d p r dr o sl md fr zs)) ∧ Below w.heap.size w w' := by
  have HP : Hid (plainE n f d p r dr o sl md fr zs = 8) := pl_4 c0 c1 c2 c3 c4
  have hm0 : 0 ≤ 6 * (f + 1) * d := Int.mul_nonneg (by omega) (by omega)
  have hm1 : 6 * (f + 1) * d ≤ 30 * 4 := Int.mul_le_mul (by omega) c3.2 (by omega) (by omega)
  have hm2 : 6 * (f + 1) * d = 6 * ((f + 1) * d) := Int.mul_assoc _ _ _
  have i0 : inB n 4 13 = true := inB_yes c0.1 c0.2
  have i1 : inB f 0 4 = true := inB_yes c1.1 c1.2
  have i3 : inB d 1 4 = true := inB_yes c3.1 c3.2
  have i4 : inB p (6 * (f + 1) * d + 1) 400 = false := inB_no (by omega)
  have c2' : ¬ n ≤ 3 * f := by omega
  clear hm2
  clear c0 c2 c4
  go_enter Try.func9, Try.ntmps9
  go_wp2_with (go_at_call 36; refine (within_any _ _ _ _).mono ?_; rintro e w2 ⟨rfl, rfl⟩)
  go_ret
  exact ⟨ret_i HP.out.symm, ballc _ _⟩
set_option maxHeartbeats 1000000 in
theorem refPlain_5 (n f d p r dr o sl md fr : Int) (ad : Option Addr) (cap : Nat) (zs : List Int) (w : World) (c0 : 4 ≤ n ∧ n ≤ 13) (c1 : 0 ≤ f ∧ f ≤ 4) (c2 : 3 * f + 1 ≤ n) (c3 : 1 ≤ d ∧ d ≤ 4) (c4 : 6 * ((f + 1) * d) + 1 ≤ p ∧ p ≤ 400) (c5 : ¬ (1 ≤ r ∧ r ≤ 64)) :
    Calls Try.prog 9 #[.agg #[.int .i64 n, .int .i64 f, .int .i64 d, .int .i64 p, .int .i64 r, .int .i64 dr, .int .i64 o, .int .i64 sl, .int .i64 md, .int .i64 fr, .slice ad zs.length cap]] w fun e w' => e = .returned (.int .i64 (plainE n f d p r dr o sl md fr zs)) ∧ Below w.heap.size w w' := by
  have HP : Hid (plainE n f d p r dr o sl md fr zs = 8) := pl_5 c0 c1 c2 c3 c4 c5
  have hm0 : 0 ≤ 6 * (f + 1) * d := Int.mul_nonneg (by omega) (by omega)
  have hm1 : 6 * (f + 1) * d ≤ 30 * 4 := Int.mul_le_mul (by omega) c3.2 (by omega) (by omega)
  have hm2 : 6 * (f + 1) * d = 6 * ((f + 1) * d) := Int.mul_assoc _ _ _
  have i0 : inB n 4 13 = true := inB_yes c0.1 c0.2
  have i1 : inB f 0 4 = true := inB_yes c1.1 c1.2
  have i3 : inB d 1 4 = true := inB_yes c3.1 c3.2
  have i4 : inB p (6 * (f + 1) * d + 1) 400 = true := inB_yes (by omega) c4.2
  have i5 : inB r 1 64 = false := inB_no c5
  have c2' : ¬ n ≤ 3 * f := by omega
  clear hm2
  clear c0 c2 c4 c5
  go_enter Try.func9, Try.ntmps9
  go_wp2_with (go_at_call 36; refine (within_any _ _ _ _).mono ?_; rintro e w2 ⟨rfl, rfl⟩)
  go_ret
  exact ⟨ret_i HP.out.symm, ballc _ _⟩
set_option maxHeartbeats 1000000 in
theorem refPlain_6 (n f d p r dr o sl md fr : Int) (ad : Option Addr) (cap : Nat) (zs : List Int) (w : World) (c0 : 4 ≤ n ∧ n ≤ 13) (c1 : 0 ≤ f ∧ f ≤ 4) (c2 : 3 * f + 1 ≤ n) (c3 : 1 ≤ d ∧ d ≤ 4) (c4 : 6 * ((f + 1) * d) + 1 ≤ p ∧ p ≤ 400) (c5 : 1 ≤ r ∧ r ≤ 64) (c6 : ¬ (0 ≤ dr ∧ dr ≤ r - 1)) :
    Calls Try.prog 9 #[.agg #[.int .i64 n, .int .i64 f, .int .i64 d, .int .i64 p, .int .i64 r, .int .i64 dr, .int .i64 o, .int .i64 sl, .int .i64 md, .int .i64 fr, .slice ad zs.length cap]] w fun e w' => e = .returned (.int .i64 (plainE n f d p r dr o sl md fr zs)) ∧ Below w.heap.size w w' := by
  have HP : Hid (plainE n f d p r dr o sl md fr zs = 8) := pl_6 c0 c1 c2 c3 c4 c5 c6
  have hm0 : 0 ≤ 6 * (f + 1) * d := Int.mul_nonneg (by omega) (by omega)
  have hm1 : 6 * (f + 1) * d ≤ 30 * 4 := Int.mul_le_mul (by omega) c3.2 (by omega) (by omega)
  have hm2 : 6 * (f + 1) * d = 6 * ((f + 1) * d) := Int.mul_assoc _ _ _
  have i0 : inB n 4 13 = true := inB_yes c0.1 c0.2
  have i1 : inB f 0 4 = true := inB_yes c1.1 c1.2
  have i3 : inB d 1 4 = true := inB_yes c3.1 c3.2
  have i4 : inB p (6 * (f + 1) * d + 1) 400 = true := inB_yes (by omega) c4.2
  have i5 : inB r 1 64 = true := inB_yes c5.1 c5.2
  have i6 : inB dr 0 (r - 1) = false := inB_no c6
  have c2' : ¬ n ≤ 3 * f := by omega
  clear hm2
  clear c0 c2 c4 c6
  go_enter Try.func9, Try.ntmps9
  go_wp2_with (go_at_call 36; refine (within_any _ _ _ _).mono ?_; rintro e w2 ⟨rfl, rfl⟩)
  go_ret
  exact ⟨ret_i HP.out.symm, ballc _ _⟩
set_option maxHeartbeats 1000000 in
theorem refPlain_7 (n f d p r dr o sl md fr : Int) (ad : Option Addr) (cap : Nat) (zs : List Int) (w : World) (c0 : 4 ≤ n ∧ n ≤ 13) (c1 : 0 ≤ f ∧ f ≤ 4) (c2 : 3 * f + 1 ≤ n) (c3 : 1 ≤ d ∧ d ≤ 4) (c4 : 6 * ((f + 1) * d) + 1 ≤ p ∧ p ≤ 400) (c5 : 1 ≤ r ∧ r ≤ 64) (c6 : 0 ≤ dr ∧ dr ≤ r - 1) (c7 : ¬ (0 ≤ o ∧ o ≤ 30000)) :
    Calls Try.prog 9 #[.agg #[.int .i64 n, .int .i64 f, .int .i64 d, .int .i64 p, .int .i64 r, .int .i64 dr, .int .i64 o, .int .i64 sl, .int .i64 md, .int .i64 fr, .slice ad zs.length cap]] w fun e w' => e = .returned (.int .i64 (plainE n f d p r dr o sl md fr zs)) ∧ Below w.heap.size w w' := by
  have HP : Hid (plainE n f d p r dr o sl md fr zs = 8) := pl_7 c0 c1 c2 c3 c4 c5 c6 c7
  have hm0 : 0 ≤ 6 * (f + 1) * d := Int.mul_nonneg (by omega) (by omega)
  have hm1 : 6 * (f + 1) * d ≤ 30 * 4 := Int.mul_le_mul (by omega) c3.2 (by omega) (by omega)
  have hm2 : 6 * (f + 1) * d = 6 * ((f + 1) * d) := Int.mul_assoc _ _ _
  have i0 : inB n 4 13 = true := inB_yes c0.1 c0.2
  have i1 : inB f 0 4 = true := inB_yes c1.1 c1.2
  have i3 : inB d 1 4 = true := inB_yes c3.1 c3.2
  have i4 : inB p (6 * (f + 1) * d + 1) 400 = true := inB_yes (by omega) c4.2
  have i5 : inB r 1 64 = true := inB_yes c5.1 c5.2
  have i6 : inB dr 0 (r - 1) = true := inB_yes c6.1 c6.2
  have i7 : inB o 0 30000 = false := inB_no c7
  have c2' : ¬ n ≤ 3 * f := by omega
  clear hm2
  clear c0 c2 c4 c6 c7
  go_enter Try.func9, Try.ntmps9
  go_wp2_with (go_at_call 36; refine (within_any _ _ _ _).mono ?_; rintro e w2 ⟨rfl, rfl⟩)
  go_ret
  exact ⟨ret_i HP.out.symm, ballc _ _⟩
set_option maxHeartbeats 1000000 in
theorem refPlain_8 (n f d p r dr o sl md fr : Int) (ad : Option Addr) (cap : Nat) (zs : List Int) (w : World) (c0 : 4 ≤ n ∧ n ≤ 13) (c1 : 0 ≤ f ∧ f ≤ 4) (c2 : 3 * f + 1 ≤ n) (c3 : 1 ≤ d ∧ d ≤ 4) (c4 : 6 * ((f + 1) * d) + 1 ≤ p ∧ p ≤ 400) (c5 : 1 ≤ r ∧ r ≤ 64) (c6 : 0 ≤ dr ∧ dr ≤ r - 1) (c7 : 0 ≤ o ∧ o ≤ 30000) (c8 : ¬ (1 ≤ sl ∧ sl ≤ 30000)) :
    Calls Try.prog 9 #[.agg #[.int .i64 n, .int .i64 f, .int .i64 d, .int .i64 p, .int .i64 r, .int .i64 dr, .int .i64 o, .int .i64 sl, .int .i64 md, .int .i64 fr, .slice ad zs.length cap]] w fun e w' => e = .returned (.int .i64 (plainE n f d p r dr o sl md fr zs)) ∧ Below w.heap.size w w' := by
  have HP : Hid (plainE n f d p r dr o sl md fr zs = 8) := pl_8 c0 c1 c2 c3 c4 c5 c6 c7 c8
  have hm0 : 0 ≤ 6 * (f + 1) * d := Int.mul_nonneg (by omega) (by omega)
  have hm1 : 6 * (f + 1) * d ≤ 30 * 4 := Int.mul_le_mul (by omega) c3.2 (by omega) (by omega)
  have hm2 : 6 * (f + 1) * d = 6 * ((f + 1) * d) := Int.mul_assoc _ _ _
  have i0 : inB n 4 13 = true := inB_yes c0.1 c0.2
  have i1 : inB f 0 4 = true := inB_yes c1.1 c1.2
  have i3 : inB d 1 4 = true := inB_yes c3.1 c3.2
  have i4 : inB p (6 * (f + 1) * d + 1) 400 = true := inB_yes (by omega) c4.2
  have i5 : inB r 1 64 = true := inB_yes c5.1 c5.2
  have i6 : inB dr 0 (r - 1) = true := inB_yes c6.1 c6.2
  have i7 : inB o 0 30000 = true := inB_yes c7.1 c7.2
  have i8 : inB sl 1 30000 = false := inB_no c8
  have c2' : ¬ n ≤ 3 * f := by omega
  clear hm2
  clear c0 c2 c4 c6 c7 c8
  go_enter Try.func9, Try.ntmps9
  go_wp2_with (go_at_call 36; refine (within_any _ _ _ _).mono ?_; rintro e w2 ⟨rfl, rfl⟩)
  go_ret
  exact ⟨ret_i HP.out.symm, ballc _ _⟩
set_option maxHeartbeats 1000000 in
theorem refPlain_9 (n f d p r dr o sl md fr : Int) (ad : Option Addr) (cap : Nat) (zs : List Int) (w : World) (c0 : 4 ≤ n ∧ n ≤ 13) (c1 : 0 ≤ f ∧ f ≤ 4) (c2 : 3 * f + 1 ≤ n) (c3 : 1 ≤ d ∧ d ≤ 4) (c4 : 6 * ((f + 1) * d) + 1 ≤ p ∧ p ≤ 400) (c5 : 1 ≤ r ∧ r ≤ 64) (c6 : 0 ≤ dr ∧ dr ≤ r - 1) (c7 : 0 ≤ o ∧ o ≤ 30000) (c8 : 1 ≤ sl ∧ sl ≤ 30000) (c9 : ¬ (2 ≤ md ∧ md ≤ 250)) :
    Calls Try.prog 9 #[.agg #[.int .i64 n, .int .i64 f, .int .i64 d, .int .i64 p, .int .i64 r, .int .i64 dr, .int .i64 o, .int .i64 sl, .int .i64 md, .int .i64 fr, .slice ad zs.length cap]] w fun e w' => e = .returned (.int .i64 (plainE n f d p r dr o sl md fr zs)) ∧ Below w.heap.size w w' := by
  have HP : Hid (plainE n f d p r dr o sl md fr zs = 8) := pl_9 c0 c1 c2 c3 c4 c5 c6 c7 c8 c9
  have hm0 : 0 ≤ 6 * (f + 1) * d := Int.mul_nonneg (by omega) (by omega)
  have hm1 : 6 * (f + 1) * d ≤ 30 * 4 := Int.mul_le_mul (by omega) c3.2 (by omega) (by omega)
  have hm2 : 6 * (f + 1) * d = 6 * ((f + 1) * d) := Int.mul_assoc _ _ _
  have i0 : inB n 4 13 = true := inB_yes c0.1 c0.2
  have i1 : inB f 0 4 = true := inB_yes c1.1 c1.2
  have i3 : inB d 1 4 = true := inB_yes c3.1 c3.2
  have i4 : inB p (6 * (f + 1) * d + 1) 400 = true := inB_yes (by omega) c4.2
  have i5 : inB r 1 64 = true := inB_yes c5.1 c5.2
  have i6 : inB dr 0 (r - 1) = true := inB_yes c6.1 c6.2
  have i7 : inB o 0 30000 = true := inB_yes c7.1 c7.2
  have i8 : inB sl 1 30000 = true := inB_yes c8.1 c8.2
  have i9 : inB md 2 250 = false := inB_no c9
  have c2' : ¬ n ≤ 3 * f := by omega
  clear hm2
  clear c0 c2 c4 c6 c7 c8 c9
  go_enter Try.func9, Try.ntmps9
  go_wp2_with (go_at_call 36; refine (within_any _ _ _ _).mono ?_; rintro e w2 ⟨rfl, rfl⟩)
  go_ret
  exact ⟨ret_i HP.out.symm, ballc _ _⟩
set_option maxHeartbeats 1000000 in
theorem refPlain_10 (n f d p r dr o sl md fr : Int) (ad : Option Addr) (cap : Nat) (zs : List Int) (w : World) (c0 : 4 ≤ n ∧ n ≤ 13) (c1 : 0 ≤ f ∧ f ≤ 4) (c2 : 3 * f + 1 ≤ n) (c3 : 1 ≤ d ∧ d ≤ 4) (c4 : 6 * ((f + 1) * d) + 1 ≤ p ∧ p ≤ 400) (c5 : 1 ≤ r ∧ r ≤ 64) (c6 : 0 ≤ dr ∧ dr ≤ r - 1) (c7 : 0 ≤ o ∧ o ≤ 30000) (c8 : 1 ≤ sl ∧ sl ≤ 30000) (c9 : 2 ≤ md ∧ md ≤ 250) (c10 : ¬ (1 ≤ fr ∧ fr ≤ 100)) :
    Calls Try.prog 9 #[.agg #[.int .i64 n, .int .i64 f, .int .i64 d, .int .i64 p, .int .i64 r, .int .i64 dr, .int .i64 o, .int .i64 sl, .int .i64 md, .int .i64 fr, .slice ad zs.length cap]] w fun e w' => e = .returned (.int .i64 (plainE n f d p r dr o sl md fr zs)) ∧ Below w.heap.size w w' := by
  have HP : Hid (plainE n f d p r dr o sl md fr zs = 8) := pl_10 c0 c1 c2 c3 c4 c5 c6 c7 c8 c9 c10
  have hm0 : 0 ≤ 6 * (f + 1) * d := Int.mul_nonneg (by omega) (by omega)
  have hm1 : 6 * (f + 1) * d ≤ 30 * 4 := Int.mul_le_mul (by omega) c3.2 (by omega) (by omega)
  have hm2 : 6 * (f + 1) * d = 6 * ((f + 1) * d) := Int.mul_assoc _ _ _
  have i0 : inB n 4 13 = true := inB_yes c0.1 c0.2
  have i1 : inB f 0 4 = true := inB_yes c1.1 c1.2
  have i3 : inB d 1 4 = true := inB_yes c3.1 c3.2
  have i4 : inB p (6 * (f + 1) * d + 1) 400 = true := inB_yes (by omega) c4.2
  have i5 : inB r 1 64 = true := inB_yes c5.1 c5.2
  have i6 : inB dr 0 (r - 1) = true := inB_yes c6.1 c6.2
  have i7 : inB o 0 30000 = true := inB_yes c7.1 c7.2
  have i8 : inB sl 1 30000 = true := inB_yes c8.1 c8.2
  have i9 : inB md 2 250 = true := inB_yes c9.1 c9.2
  have i10 : inB fr 1 100 = false := inB_no c10
  have c2' : ¬ n ≤ 3 * f := by omega
  clear hm2
  clear c0 c2 c4 c6 c7 c8 c9 c10
  go_enter Try.func9, Try.ntmps9
  go_wp2_with (go_at_call 36; refine (within_any _ _ _ _).mono ?_; rintro e w2 ⟨rfl, rfl⟩)
  go_ret
  exact ⟨ret_i HP.out.symm, ballc _ _⟩
set_option maxHeartbeats 1000000 in
theorem refPlain_11 (n f d p r dr o sl md fr : Int) (ad : Option Addr) (cap : Nat) (zs : List Int) (w : World) (c0 : 4 ≤ n ∧ n ≤ 13) (c1 : 0 ≤ f ∧ f ≤ 4) (c2 : 3 * f + 1 ≤ n) (c3 : 1 ≤ d ∧ d ≤ 4) (c4 : 6 * ((f + 1) * d) + 1 ≤ p ∧ p ≤ 400) (c5 : 1 ≤ r ∧ r ≤ 64) (c6 : 0 ≤ dr ∧ dr ≤ r - 1) (c7 : 0 ≤ o ∧ o ≤ 30000) (c8 : 1 ≤ sl ∧ sl ≤ 30000) (c9 : 2 ≤ md ∧ md ≤ 250) (c10 : 1 ≤ fr ∧ fr ≤ 100) (c11 : ¬ (1 ≤ (zs.length : Int) ∧ (zs.length : Int) ≤ 32)) :
    Calls Try.prog 9 #[.agg #[.int .i64 n, .int .i64 f, .int .i64 d, .int .i64 p, .int .i64 r, .int .i64 dr, .int .i64 o, .int .i64 sl, .int .i64 md, .int .i64 fr, .slice ad zs.length cap]] w fun e w' => e = .returned (.int .i64 (plainE n f d p r dr o sl md fr zs)) ∧ Below w.heap.size w w' := by
  have HP : Hid (plainE n f d p r dr o sl md fr zs = 11) := pl_11 c0 c1 c2 c3 c4 c5 c6 c7 c8 c9 c10 c11
  have hm0 : 0 ≤ 6 * (f + 1) * d := Int.mul_nonneg (by omega) (by omega)
  have hm1 : 6 * (f + 1) * d ≤ 30 * 4 := Int.mul_le_mul (by omega) c3.2 (by omega) (by omega)
  have hm2 : 6 * (f + 1) * d = 6 * ((f + 1) * d) := Int.mul_assoc _ _ _
  have i0 : inB n 4 13 = true := inB_yes c0.1 c0.2
  have i1 : inB f 0 4 = true := inB_yes c1.1 c1.2
  have i3 : inB d 1 4 = true := inB_yes c3.1 c3.2
  have i4 : inB p (6 * (f + 1) * d + 1) 400 = true := inB_yes (by omega) c4.2
  have i5 : inB r 1 64 = true := inB_yes c5.1 c5.2
  have i6 : inB dr 0 (r - 1) = true := inB_yes c6.1 c6.2
  have i7 : inB o 0 30000 = true := inB_yes c7.1 c7.2
  have i8 : inB sl 1 30000 = true := inB_yes c8.1 c8.2
  have i9 : inB md 2 250 = true := inB_yes c9.1 c9.2
  have i10 : inB fr 1 100 = true := inB_yes c10.1 c10.2
  have i11 : inB zs.length 1 32 = false := inB_no c11
  have c2' : ¬ n ≤ 3 * f := by omega
  clear hm2
  clear c0 c2 c4 c6 c7 c8 c9 c10 c11
  go_enter Try.func9, Try.ntmps9
  go_wp2_with (go_at_call 36; refine (within_any _ _ _ _).mono ?_; rintro e w2 ⟨rfl, rfl⟩)
  go_ret
  exact ⟨ret_i HP.out.symm, ballc _ _⟩
set_option maxHeartbeats 1000000 in
theorem refPlain_12 (n f d p r dr o sl md fr : Int) (ad : Option Addr) (cap : Nat) (zs : List Int) (w : World) (ob : Bool) (hT : Tab w ad zs) (c0 : 4 ≤ n ∧ n ≤ 13) (c1 : 0 ≤ f ∧ f ≤ 4) (c2 : 3 * f + 1 ≤ n) (c3 : 1 ≤ d ∧ d ≤ 4) (c4 : 6 * ((f + 1) * d) + 1 ≤ p ∧ p ≤ 400) (c5 : 1 ≤ r ∧ r ≤ 64) (c6 : 0 ≤ dr ∧ dr ≤ r - 1) (c7 : 0 ≤ o ∧ o ≤ 30000) (c8 : 1 ≤ sl ∧ sl ≤ 30000) (c9 : 2 ≤ md ∧ md ≤ 250) (c10 : 1 ≤ fr ∧ fr ≤ 100) (c11 : 1 ≤ (zs.length : Int) ∧ (zs.length : Int) ≤ 32) (hob : ownsB n zs = ob) :
    Calls Try.prog 9 #[.agg #[.int .i64 n, .int .i64 f, .int .i64 d, .int .i64 p, .int .i64 r, .int .i64 dr, .int .i64 o, .int .i64 sl, .int .i64 md, .int .i64 fr, .slice ad zs.length cap]] w fun e w' => e = .returned (.int .i64 (plainE n f d p r dr o sl md fr zs)) ∧ Below w.heap.size w w' := by
  have HP : Hid (plainE n f d p r dr o sl md fr zs = if ob = true then 0 else 11) := by rw [← hob]; exact pl_12 c0 c1 c2 c3 c4 c5 c6 c7 c8 c9 c10 c11
  have hm0 : 0 ≤ 6 * (f + 1) * d := Int.mul_nonneg (by omega) (by omega)
  have hm1 : 6 * (f + 1) * d ≤ 30 * 4 := Int.mul_le_mul (by omega) c3.2 (by omega) (by omega)
  have hm2 : 6 * (f + 1) * d = 6 * ((f + 1) * d) := Int.mul_assoc _ _ _
  have i0 : inB n 4 13 = true := inB_yes c0.1 c0.2
  have i1 : inB f 0 4 = true := inB_yes c1.1 c1.2
  have i3 : inB d 1 4 = true := inB_yes c3.1 c3.2
  have i4 : inB p (6 * (f + 1) * d + 1) 400 = true := inB_yes (by omega) c4.2
  have i5 : inB r 1 64 = true := inB_yes c5.1 c5.2
  have i6 : inB dr 0 (r - 1) = true := inB_yes c6.1 c6.2
  have i7 : inB o 0 30000 = true := inB_yes c7.1 c7.2
  have i8 : inB sl 1 30000 = true := inB_yes c8.1 c8.2
  have i9 : inB md 2 250 = true := inB_yes c9.1 c9.2
  have i10 : inB fr 1 100 = true := inB_yes c10.1 c10.2
  have i11 : inB zs.length 1 32 = true := inB_yes c11.1 c11.2
  have c2' : ¬ n ≤ 3 * f := by omega
  have HQ : Hid (Calls Try.prog 37 #[.agg #[.int .i64 n, .int .i64 f, .int .i64 d, .int .i64 p, .int .i64 r, .int .i64 dr, .int .i64 o, .int .i64 sl, .int .i64 md, .int .i64 fr, .slice ad zs.length cap]] (w.alloc (.cells #[.int .i64 n, .int .i64 f, .int .i64 d, .int .i64 p, .int .i64 r, .int .i64 dr, .int .i64 o, .int .i64 sl, .int .i64 md, .int .i64 fr, .slice ad zs.length cap] 24)) fun e w' => e = .returned (.bool ob) ∧ Below (w.alloc (.cells #[.int .i64 n, .int .i64 f, .int .i64 d, .int .i64 p, .int .i64 r, .int .i64 dr, .int .i64 o, .int .i64 sl, .int .i64 md, .int .i64 fr, .slice ad zs.length cap] 24)).heap.size (w.alloc (.cells #[.int .i64 n, .int .i64 f, .int .i64 d, .int .i64 p, .int .i64 r, .int .i64 dr, .int .i64 o, .int .i64 sl, .int .i64 md, .int .i64 fr, .slice ad zs.length cap] 24)) w') := by
    rw [← hob]; exact owned_any n f d p r dr o sl md fr ad cap zs _ c0.1 c0.2 (by omega) (hT.below (ballc _ _))
  clear hm2 hT hob c0 c2 c4 c6 c7 c8 c9 c10 c11
  cases ob
  all_goals
    go_enter Try.func9, Try.ntmps9
    go_wp2_with (first | (go_at_call 36; refine (within_any _ _ _ _).mono ?_; rintro e w2 ⟨rfl, rfl⟩) | (go_at_call 37; refine HQ.out.mono ?_; rintro e w2 ⟨rfl, hb2⟩; have HB2 : Hid (Below w.heap.size w w2) := bthen (ballc w _) hb2; clear hb2))
    go_ret
    exact ⟨ret_i (by rw [HP.out]; rfl), HB2.out⟩
theorem refPlain_any (n f d p r dr o sl md fr : Int) (ad : Option Addr) (cap : Nat) (zs : List Int) (w : World) (hl : zs.length ≤ 9223372036854775807) (hT : Tab w ad zs) :
    Calls Try.prog 9 #[.agg #[.int .i64 n, .int .i64 f, .int .i64 d, .int .i64 p, .int .i64 r, .int .i64 dr, .int .i64 o, .int .i64 sl, .int .i64 md, .int .i64 fr, .slice ad zs.length cap]] w fun e w' => e = .returned (.int .i64 (plainE n f d p r dr o sl md fr zs)) ∧ Below w.heap.size w w' := by
  by_cases c0 : 4 ≤ n ∧ n ≤ 13
  case neg => exact refPlain_0 n f d p r dr o sl md fr ad cap zs w c0
  by_cases c1 : 0 ≤ f ∧ f ≤ 4
  case neg => exact refPlain_1 n f d p r dr o sl md fr ad cap zs w c0 c1
  by_cases c2 : 3 * f + 1 ≤ n
  case neg => exact refPlain_2 n f d p r dr o sl md fr ad cap zs w c0 c1 c2
  by_cases c3 : 1 ≤ d ∧ d ≤ 4
  case neg => exact refPlain_3 n f d p r dr o sl md fr ad cap zs w c0 c1 c2 c3
  by_cases c4 : 6 * ((f + 1) * d) + 1 ≤ p ∧ p ≤ 400
  case neg => exact refPlain_4 n f d p r dr o sl md fr ad cap zs w c0 c1 c2 c3 c4
  by_cases c5 : 1 ≤ r ∧ r ≤ 64
  case neg => exact refPlain_5 n f d p r dr o sl md fr ad cap zs w c0 c1 c2 c3 c4 c5
  by_cases c6 : 0 ≤ dr ∧ dr ≤ r - 1
  case neg => exact refPlain_6 n f d p r dr o sl md fr ad cap zs w c0 c1 c2 c3 c4 c5 c6
  by_cases c7 : 0 ≤ o ∧ o ≤ 30000
  case neg => exact refPlain_7 n f d p r dr o sl md fr ad cap zs w c0 c1 c2 c3 c4 c5 c6 c7
  by_cases c8 : 1 ≤ sl ∧ sl ≤ 30000
  case neg => exact refPlain_8 n f d p r dr o sl md fr ad cap zs w c0 c1 c2 c3 c4 c5 c6 c7 c8
  by_cases c9 : 2 ≤ md ∧ md ≤ 250
  case neg => exact refPlain_9 n f d p r dr o sl md fr ad cap zs w c0 c1 c2 c3 c4 c5 c6 c7 c8 c9
  by_cases c10 : 1 ≤ fr ∧ fr ≤ 100
  case neg => exact refPlain_10 n f d p r dr o sl md fr ad cap zs w c0 c1 c2 c3 c4 c5 c6 c7 c8 c9 c10
  by_cases c11 : 1 ≤ (zs.length : Int) ∧ (zs.length : Int) ≤ 32
  case neg => exact refPlain_11 n f d p r dr o sl md fr ad cap zs w c0 c1 c2 c3 c4 c5 c6 c7 c8 c9 c10 c11
  exact refPlain_12 n f d p r dr o sl md fr ad cap zs w _ hT c0 c1 c2 c3 c4 c5 c6 c7 c8 c9 c10 c11 rfl
end Go.Proofs.Ytohgmliafidalaa

/- The document's Rounds, Length and Bits return what they say, of what is plain, else 0, and make at most new memory; conditions: the table lies where it says, and its length fits int. -/
namespace Go.Proofs.Ytohgmliafidalaa
open Go.ChangeShapes Go.WideShapes Go.ChangeAt Go.RowKit
set_option linter.unusedVariables false

theorem refRounds_any (n f d p r dr o sl md fr : Int) (ad : Option Addr) (cap : Nat) (zs : List Int) (w : World) (hl : zs.length ≤ 9223372036854775807) (hT : Tab w ad zs) :
    Calls Try.prog 88 #[.agg #[.int .i64 n, .int .i64 f, .int .i64 d, .int .i64 p, .int .i64 r, .int .i64 dr, .int .i64 o, .int .i64 sl, .int .i64 md, .int .i64 fr, .slice ad zs.length cap]] w fun e w' => e = .returned (.int .i64 (gate (plainE n f d p r dr o sl md fr zs) (3 * (f + 1)))) ∧ Below w.heap.size w w' := by
  have HQ := hidden (refPlain_any n f d p r dr o sl md fr ad cap zs (w.alloc (.cells #[.int .i64 n, .int .i64 f, .int .i64 d, .int .i64 p, .int .i64 r, .int .i64 dr, .int .i64 o, .int .i64 sl, .int .i64 md, .int .i64 fr, .slice ad zs.length cap] 24)) hl (hT.below (ballc _ _)))
  have HK := hidden (fun h => plainE_ok (n := n) (f := f) (d := d) (p := p) (r := r) (dr := dr) (o := o) (sl := sl) (md := md) (fr := fr) (zs := zs) h)
  clear hT
  generalize plainE n f d p r dr o sl md fr zs = E at HQ HK
  by_cases hE : E = 0
  · subst hE
    obtain ⟨n1, n2, f1, f2, _, d1, d2, _⟩ := HK.out rfl
    have hm0 : 0 ≤ 3 * (f + 1) * d := Int.mul_nonneg (by omega) (by omega)
    have hm1 : 3 * (f + 1) * d ≤ 15 * 4 := Int.mul_le_mul (by omega) d2 (by omega) (by omega)
    go_enter Try.func88, Try.ntmps88
    go_wp2_with fail
    refine HQ.out.mono ?_
    rintro e w2 ⟨rfl, hb2⟩
    have HB2 : Hid (Below w.heap.size w w2) := bthen (ballc w _) hb2
    obtain ⟨hbox, hsz⟩ := box_at hb2
    clear hb2 HQ HK
    go_wp2
    go_ret
    exact ⟨ret_i (gate_ok _).symm, HB2.out⟩
  · go_enter Try.func88, Try.ntmps88
    go_wp2_with fail
    refine HQ.out.mono ?_
    rintro e w2 ⟨rfl, hb2⟩
    have HB2 : Hid (Below w.heap.size w w2) := bthen (ballc w _) hb2
    clear hb2 HQ HK
    go_wp2
    go_ret
    exact ⟨ret_i (gate_no hE _).symm, HB2.out⟩
theorem refLength_any (n f d p r dr o sl md fr : Int) (ad : Option Addr) (cap : Nat) (zs : List Int) (w : World) (hl : zs.length ≤ 9223372036854775807) (hT : Tab w ad zs) :
    Calls Try.prog 43 #[.agg #[.int .i64 n, .int .i64 f, .int .i64 d, .int .i64 p, .int .i64 r, .int .i64 dr, .int .i64 o, .int .i64 sl, .int .i64 md, .int .i64 fr, .slice ad zs.length cap]] w fun e w' => e = .returned (.int .i64 (gate (plainE n f d p r dr o sl md fr zs) (3 * (f + 1) * d))) ∧ Below w.heap.size w w' := by
  have HQ := hidden (refPlain_any n f d p r dr o sl md fr ad cap zs (w.alloc (.cells #[.int .i64 n, .int .i64 f, .int .i64 d, .int .i64 p, .int .i64 r, .int .i64 dr, .int .i64 o, .int .i64 sl, .int .i64 md, .int .i64 fr, .slice ad zs.length cap] 24)) hl (hT.below (ballc _ _)))
  have HK := hidden (fun h => plainE_ok (n := n) (f := f) (d := d) (p := p) (r := r) (dr := dr) (o := o) (sl := sl) (md := md) (fr := fr) (zs := zs) h)
  clear hT
  generalize plainE n f d p r dr o sl md fr zs = E at HQ HK
  by_cases hE : E = 0
  · subst hE
    obtain ⟨n1, n2, f1, f2, _, d1, d2, _⟩ := HK.out rfl
    have hm0 : 0 ≤ 3 * (f + 1) * d := Int.mul_nonneg (by omega) (by omega)
    have hm1 : 3 * (f + 1) * d ≤ 15 * 4 := Int.mul_le_mul (by omega) d2 (by omega) (by omega)
    go_enter Try.func43, Try.ntmps43
    go_wp2_with fail
    refine HQ.out.mono ?_
    rintro e w2 ⟨rfl, hb2⟩
    have HB2 : Hid (Below w.heap.size w w2) := bthen (ballc w _) hb2
    obtain ⟨hbox, hsz⟩ := box_at hb2
    clear hb2 HQ HK
    go_wp2
    go_ret
    exact ⟨ret_i (gate_ok _).symm, HB2.out⟩
  · go_enter Try.func43, Try.ntmps43
    go_wp2_with fail
    refine HQ.out.mono ?_
    rintro e w2 ⟨rfl, hb2⟩
    have HB2 : Hid (Below w.heap.size w w2) := bthen (ballc w _) hb2
    clear hb2 HQ HK
    go_wp2
    go_ret
    exact ⟨ret_i (gate_no hE _).symm, HB2.out⟩
theorem refBits_any (n f d p r dr o sl md fr : Int) (ad : Option Addr) (cap : Nat) (zs : List Int) (w : World) (hl : zs.length ≤ 9223372036854775807) (hT : Tab w ad zs) :
    Calls Try.prog 23 #[.agg #[.int .i64 n, .int .i64 f, .int .i64 d, .int .i64 p, .int .i64 r, .int .i64 dr, .int .i64 o, .int .i64 sl, .int .i64 md, .int .i64 fr, .slice ad zs.length cap]] w fun e w' => e = .returned (.int .i64 (gate (plainE n f d p r dr o sl md fr zs) (8 + n))) ∧ Below w.heap.size w w' := by
  have HQ := hidden (refPlain_any n f d p r dr o sl md fr ad cap zs (w.alloc (.cells #[.int .i64 n, .int .i64 f, .int .i64 d, .int .i64 p, .int .i64 r, .int .i64 dr, .int .i64 o, .int .i64 sl, .int .i64 md, .int .i64 fr, .slice ad zs.length cap] 24)) hl (hT.below (ballc _ _)))
  have HK := hidden (fun h => plainE_ok (n := n) (f := f) (d := d) (p := p) (r := r) (dr := dr) (o := o) (sl := sl) (md := md) (fr := fr) (zs := zs) h)
  clear hT
  generalize plainE n f d p r dr o sl md fr zs = E at HQ HK
  by_cases hE : E = 0
  · subst hE
    obtain ⟨n1, n2, f1, f2, _, d1, d2, _⟩ := HK.out rfl
    have hm0 : 0 ≤ 3 * (f + 1) * d := Int.mul_nonneg (by omega) (by omega)
    have hm1 : 3 * (f + 1) * d ≤ 15 * 4 := Int.mul_le_mul (by omega) d2 (by omega) (by omega)
    go_enter Try.func23, Try.ntmps23
    go_wp2_with fail
    refine HQ.out.mono ?_
    rintro e w2 ⟨rfl, hb2⟩
    have HB2 : Hid (Below w.heap.size w w2) := bthen (ballc w _) hb2
    obtain ⟨hbox, hsz⟩ := box_at hb2
    clear hb2 HQ HK
    go_wp2
    go_ret
    exact ⟨ret_i (gate_ok _).symm, HB2.out⟩
  · go_enter Try.func23, Try.ntmps23
    go_wp2_with fail
    refine HQ.out.mono ?_
    rintro e w2 ⟨rfl, hb2⟩
    have HB2 : Hid (Below w.heap.size w w2) := bthen (ballc w _) hb2
    clear hb2 HQ HK
    go_wp2
    go_ret
    exact ⟨ret_i (gate_no hE _).symm, HB2.out⟩
end Go.Proofs.Ytohgmliafidalaa

/- Plain mathematics of exchanges and ages: which one is told and heard at an age, whose it is; no conditions. -/
namespace Go.Proofs.Ytohgmliafidalaa
open Go.ChangeShapes Go.WideShapes Go.ChangeAt Go.RowKit Go.Shelf
set_option linter.unusedVariables false

/-- An exchange of so many. -/
abbrev Exn (R : Nat) := { k : Nat // k < R }
def upto (R k : Nat) : List (Exn R) := (List.range k).filterMap fun j => if h : j < R then some ⟨j, h⟩ else none
theorem upto_zero (R : Nat) : upto R 0 = [] := rfl
theorem upto_succ {R k : Nat} (h : k < R) : upto R (k + 1) = upto R k ++ [⟨k, h⟩] := by
  simp [upto, List.range_succ, List.filterMap_append, h]
theorem upto_length {R : Nat} : ∀ {k : Nat}, k ≤ R → (upto R k).length = k
  | 0, _ => rfl
  | k + 1, h => by rw [upto_succ (by omega), List.length_append, upto_length (by omega)]; rfl
/-- The first number that a test lets by. -/
def firstF (R : Nat) (p : Nat → Bool) : Int := match (List.range R).find? p with
  | some x => x
  | none => -1
theorem first_hit {R : Nat} {p : Nat → Bool} {k : Nat} (hk : k < R) (h : p k = true) (hn : ∀ j, j < k → p j = false) : firstF R p = k := by
  have e : (List.range R).find? p = some k := by
    rw [List.find?_range_eq_some]
    exact ⟨h, by simp [hk], fun j hj => by simp [hn j hj]⟩
  unfold firstF
  rw [e]
theorem first_none {R : Nat} {p : Nat → Bool} (hn : ∀ j, j < R → p j = false) : firstF R p = -1 := by
  have e : (List.range R).find? p = none := by
    rw [List.find?_eq_none]
    intro x hx
    simp at hx
    simp [hn x hx]
  unfold firstF
  rw [e]
theorem first_lt (R : Nat) (p : Nat → Bool) : -1 ≤ firstF R p ∧ firstF R p < R ∨ firstF R p = -1 := by
  unfold firstF
  cases h : (List.range R).find? p with
  | none => exact .inr rfl
  | some x =>
    have h2 := List.mem_of_find?_eq_some h
    rw [List.mem_range] at h2
    refine .inl ⟨?_, ?_⟩
    · show (-1 : Int) ≤ (x : Int)
      omega
    · show (x : Int) < (R : Int)
      omega
def tellB (d age : Int) (x : Nat) : Bool := decide ((x : Int) * d = age)
def hearB (d age : Int) (x : Nat) : Bool := decide ((x : Int) * d + d = age)
def tellF (R : Nat) (d age : Int) : Int := firstF R (tellB d age)
def hearF (R : Nat) (d age : Int) : Int := firstF R (hearB d age)
def kingF (R : Nat) (x : Int) : Int := if 0 ≤ x ∧ x < R then x / 3 else -1
theorem kingF_lo {R : Nat} {x : Int} (h : x < 0) : kingF R x = -1 := if_neg (by omega)
theorem kingF_hi {R : Nat} {x : Int} (h : (R : Int) ≤ x) : kingF R x = -1 := if_neg (by omega)
theorem kingF_in {R : Nat} {x : Int} (h : 0 ≤ x) (h2 : x < R) : kingF R x = x / 3 := if_pos ⟨h, h2⟩
/-- How many exchanges there are, and how far apart. -/
theorem rounds_nat (n f d p r dr o sl md fr : Int) (ad : Option Addr) (cap : Nat) (zs : List Int) : ∃ R : Nat, gate (plainE n f d p r dr o sl md fr zs) (3 * (f + 1)) = (R : Int) ∧ R ≤ 15 ∧ (R = 0 ∨ 1 ≤ d ∧ d ≤ 4) ∧ (plainE n f d p r dr o sl md fr zs = 0 → (R : Int) = 3 * (f + 1) ∧ 1 ≤ d ∧ d ≤ 4 ∧ 0 ≤ f ∧ 3 * f + 1 ≤ n) ∧ (¬ plainE n f d p r dr o sl md fr zs = 0 → R = 0) := by
  by_cases e : plainE n f d p r dr o sl md fr zs = 0
  · obtain ⟨h0, h00, h1, h2, h22, h3, h4, _⟩ := plainE_ok e
    rw [e, gate_ok]
    exact ⟨(3 * (f + 1)).toNat, by omega, by omega, .inr ⟨h3, h4⟩, fun _ => ⟨by omega, h3, h4, h1, h22⟩, fun h => absurd rfl h⟩
  · rw [gate_no e]
    exact ⟨0, rfl, by omega, .inl rfl, fun h => absurd h e, fun _ => rfl⟩
theorem xd_bd {R k : Nat} {d : Int} (hR : R ≤ 15) (hd : R = 0 ∨ 1 ≤ d ∧ d ≤ 4) (hk : k < R) : 0 ≤ (k : Int) * d ∧ (k : Int) * d ≤ 60 := by
  have h1 : 1 ≤ d ∧ d ≤ 4 := by omega
  have hd : d = 1 ∨ d = 2 ∨ d = 3 ∨ d = 4 := by omega
  rcases hd with rfl | rfl | rfl | rfl <;> omega
end Go.Proofs.Ytohgmliafidalaa

/- Plain mathematics of a cycle's instance of agreement: its codes at first, what is told of them, a tick later; rows of packets; no conditions. -/
namespace Go.Proofs.Ytohgmliafidalaa
open Go.ChangeShapes Go.WideShapes Go.ChangeAt Go.RowKit
set_option linter.unusedVariables false

/-- A packet; rows of them. -/
structure Pkt where
  vo : ByteArray
  ex : Int
  ve : ByteArray
  ps : Int
  cy : Int
  te : ByteArray
def pktC (q : Pkt) : List Value := [.string q.vo, .int .i64 q.ex, .string q.ve, .int .i64 q.ps, .int .i64 q.cy, .string q.te]
def kPkt : Kind Pkt := ⟨6, pktC, fun _ => rfl, by intro a u hu; simp [pktC] at hu; rcases hu with rfl | rfl | rfl | rfl | rfl | rfl <;> rfl, by decide⟩
def noP : Pkt := ⟨noB, 0, noB, 0, 0, noB⟩
/-- What a packet tells of exchange x. -/
def vecOf (x : Int) (q : Pkt) : ByteArray := if q.ex = x + 1 then q.ve else noB
def toldQ (x : Int) (qs : List Pkt) : List ByteArray := qs.map (vecOf x)
theorem toldQ_len (x : Int) (qs : List Pkt) : (toldQ x qs).length = qs.length := by simp [toldQ]
/-- Codes at first. -/
def begS (N : Nat) (num : Int) (seen : ByteArray) : ByteArray := dgB (widF 8) (bitG num.toNat) ++ digT seen 0 N
def begA (E : Int) (N : Nat) (num : Int) (seen : ByteArray) : ByteArray := if E = 0 then dgB (8 + N) (ofG (begS N num seen)) else noB
theorem begS_size (N : Nat) (num : Int) (seen : ByteArray) : (begS N num seen).size = 8 + N := by
  unfold begS
  rw [ByteArray.size_append, dgB_size, show (digT seen 0 N).size = N from dgB_size _ _]
  rfl
/-- What is told. -/
def telB (R : Nat) (d age : Int) (codes : ByteArray) : Bool := emt codes || (tellF R d age == -1)
def telX (R : Nat) (d age : Int) (codes : ByteArray) : Int := if telB R d age codes = true then 0 else tellF R d age + 1
def telV (R : Nat) (d age : Int) (codes : ByteArray) : ByteArray := if telB R d age codes = true then noB else dgB codes.size (valG codes)
/-- Codes behind an exchange. -/
def herA (E n f : Int) (x : Nat) (codes : ByteArray) (qs : List Pkt) : ByteArray := dgB codes.size (stpG E n f x codes ((toldQ x qs).getD (x / 3) noB) (toldQ x qs))
/-- A tick later. -/
structure StA where
  age : Int
  codes : ByteArray
  got : ByteArray
def midA (R : Nat) (n f d a : Int) (codes : ByteArray) (qs : List Pkt) : ByteArray := if hearF R d a = -1 then codes else herA 0 n f (hearF R d a).toNat codes qs
def stpA (E : Int) (R L : Nat) (n f d age : Int) (codes got : ByteArray) (qs : List Pkt) : StA :=
  if E = 0 then (if emt codes = true then ⟨age, codes, got⟩ else
    (if satF age L = L then ⟨satF age L, noB, dgB codes.size (valG (midA R n f d (satF age L) codes qs))⟩ else ⟨satF age L, midA R n f d (satF age L) codes qs, got⟩)) else ⟨0, noB, noB⟩
theorem midA_size (R : Nat) (n f d a : Int) (codes : ByteArray) (qs : List Pkt) : (midA R n f d a codes qs).size = codes.size := by
  unfold midA herA
  split
  · rfl
  · exact dgB_size _ _
end Go.Proofs.Ytohgmliafidalaa

/- The calls behind, Next and Apart of package number return what plain functions give, and make at most new memory; conditions: the table lies where it says, numbers and lengths fit int. -/
namespace Go.Proofs.Ytohgmliafidalaa
open Go.ChangeShapes Go.WideShapes Go.ChangeAt Go.RowKit
set_option linter.unusedVariables false
attribute [local go_sem] cell_rg

theorem wfS {x : Int} (h : -9223372036854775808 ≤ x ∧ x ≤ 9223372036854775807) : (Lit.int .i64 x).wf = true := by
  have := wrap64_wf x
  rwa [IntWalk.wrap64_in x (by omega)] at this
set_option maxHeartbeats 1000000 in
theorem behind1_any (n f d p r dr o sl md fr : Int) (ad : Option Addr) (cap : Nat) (zs : List Int) (x : Int) (g : Nat) (w : World) (hx : -9223372036854775808 ≤ x ∧ x ≤ 9223372036854775807) (h1 : 2 ≤ md) (h2 : md ≤ 250) (hk : w.heap[g]? = some (.cells #[.int .i64 n, .int .i64 f, .int .i64 d, .int .i64 p, .int .i64 r, .int .i64 dr, .int .i64 o, .int .i64 sl, .int .i64 md, .int .i64 fr, .slice ad zs.length cap] 24 (0, 0))) :
    Calls Try.prog 108 #[.int .i64 x, .pointer (some ⟨g, 0, none⟩)] w fun e w' => e = .returned (.int .i64 (behF md x)) ∧ Below w.heap.size w w' := by
  have hb1 := modF_lt x h1 h2
  have C1 := hidden (fun V => Calls.to_below (mod_any x md V (wfS hx) (wfS (by omega))))
  have C2 := hidden (fun V => Calls.to_below (mod_any (modF x md + 1) md V (wfS (by omega)) (wfS (by omega))))
  have HF : Hid (behF md x = modF (modF x md + 1) md) := rfl
  rw [HF.out]
  clear HF
  generalize modF (modF x md + 1) md = z2 at *
  generalize modF x md = z1 at *
  have t1 : IntKind.i64.wrap (z1 + 1) = z1 + 1 := IntWalk.i64_in _ (by omega)
  have c0 : w.cell? ⟨g, 8, none⟩ = some (.int .i64 md) := blk_cell hk 8
  have l0 := blk_lt hk
  clear hk
  go_enter Try.func108, Try.ntmps108
  go_wp2
  refine wp_region_quiet_below (by kernel_rfl) (by kernel_rfl) ?_
  repeat (go_big_quiet_step (fail))
  go_big_quiet_step ((go_at_call 75; exact Calls.regrown_of (C1.out _)))
  repeat (go_big_quiet_step (fail))
  go_big_quiet_step ((go_at_call 75; exact Calls.regrown_of (C2.out _)))
  repeat (go_big_quiet_step (fail))
  refine wpQuiet_nil ?_
  intro w5 hw5
  have HB5 := hidden (rg_below hw5)
  clear hw5 c0 l0
  go_wp2
  go_ret
  exact ⟨rfl, HB5.out⟩
theorem behind_any (n f d p r dr o sl md fr : Int) (ad : Option Addr) (cap : Nat) (zs : List Int) (w : World) :
    Calls Try.prog 73 #[.agg #[.int .i64 n, .int .i64 f, .int .i64 d, .int .i64 p, .int .i64 r, .int .i64 dr, .int .i64 o, .int .i64 sl, .int .i64 md, .int .i64 fr, .slice ad zs.length cap]] w fun e w' => ∃ g, e = .returned (.func (.func 108) #[] #[.pointer (some ⟨g, 0, none⟩)]) ∧ w'.heap[g]? = some (.cells #[.int .i64 n, .int .i64 f, .int .i64 d, .int .i64 p, .int .i64 r, .int .i64 dr, .int .i64 o, .int .i64 sl, .int .i64 md, .int .i64 fr, .slice ad zs.length cap] 24 (0, 0)) ∧ Below w.heap.size w w' := by
  have hmf : ∀ (fn : Fn) (first cap : Array Value) (w : World), (Instr.makeFunc fn first cap).run Try.prog w = .ok (.func fn first cap) w := fun _ _ _ _ => rfl
  have K0 := hidden (blk_nw w #[.int .i64 n, .int .i64 f, .int .i64 d, .int .i64 p, .int .i64 r, .int .i64 dr, .int .i64 o, .int .i64 sl, .int .i64 md, .int .i64 fr, .slice ad zs.length cap] 24)
  have HB := hidden (ballc w (.cells #[.int .i64 n, .int .i64 f, .int .i64 d, .int .i64 p, .int .i64 r, .int .i64 dr, .int .i64 o, .int .i64 sl, .int .i64 md, .int .i64 fr, .slice ad zs.length cap] 24))
  go_enter Try.func73, Try.ntmps73
  go_wp2
  go_ret
  exact ⟨_, rfl, K0.out, HB.out⟩
set_option maxHeartbeats 2000000 in
theorem NNext_any (n f d p r dr o sl md fr : Int) (ad : Option Addr) (cap : Nat) (zs : List Int) (own : Int) (agreed : ByteArray) (w : World) (hl : zs.length ≤ 9223372036854775807) (hT : Tab w ad zs) (ho : -9223372036854775808 ≤ own ∧ own ≤ 9223372036854775807) (hs : agreed.size ≤ 9223372036854775807) :
    Calls Try.prog 27 #[.agg #[.int .i64 n, .int .i64 f, .int .i64 d, .int .i64 p, .int .i64 r, .int .i64 dr, .int .i64 o, .int .i64 sl, .int .i64 md, .int .i64 fr, .slice ad zs.length cap], .int .i64 own, .string agreed] w fun e w' => e = .returned (.int .i64 (nextF (plainE n f d p r dr o sl md fr zs) md own agreed)) ∧ Below w.heap.size w w' := by
  have HB0 := hidden (ballc w (.cells #[.int .i64 n, .int .i64 f, .int .i64 d, .int .i64 p, .int .i64 r, .int .i64 dr, .int .i64 o, .int .i64 sl, .int .i64 md, .int .i64 fr, .slice ad zs.length cap] 24))
  have HK := hidden (blk_nw w #[.int .i64 n, .int .i64 f, .int .i64 d, .int .i64 p, .int .i64 r, .int .i64 dr, .int .i64 o, .int .i64 sl, .int .i64 md, .int .i64 fr, .slice ad zs.length cap] 24)
  have HP := hidden (plain_any n f d p r dr o sl md fr ad cap zs (w.alloc (.cells #[.int .i64 n, .int .i64 f, .int .i64 d, .int .i64 p, .int .i64 r, .int .i64 dr, .int .i64 o, .int .i64 sl, .int .i64 md, .int .i64 fr, .slice ad zs.length cap] 24)) hl (hT.below (ballc _ _)))
  by_cases hE : plainE n f d p r dr o sl md fr zs = 0
  · obtain ⟨_, _, _, _, _, _, _, _, _, _, _, _, _, _, _, _, _, m1, m2, _⟩ := plainE_ok hE
    have hn := numG_lt agreed 8
    have ho2 : -9223372036854775808 ≤ ownF own agreed ∧ ownF own agreed ≤ 9223372036854775807 := by
      unfold ownF
      split
      · exact ho
      · omega
    have CB := hidden (fun V => behind_any n f d p r dr o sl md fr ad cap zs V)
    have C1 := hidden (fun g V hk => behind1_any n f d p r dr o sl md fr ad cap zs (ownF own agreed) g V ho2 m1 m2 hk)
    have CN := hidden (fun V => Number_any agreed hs V)
    have HF : Hid (nextF (plainE n f d p r dr o sl md fr zs) md own agreed = behF md (ownF own agreed)) := if_pos hE
    rw [HF.out]
    rw [hE] at HP
    clear hE hT HF
    generalize behF md (ownF own agreed) = z at *
    by_cases he : emt agreed = true
    · have h1 : ownF own agreed = own := if_pos he
      rw [h1] at C1
      have e1 : agreed.toList.isEmpty = true := he
      clear h1 he ho2 hn
      go_enter Try.func27, Try.ntmps27
      go_wp2_with fail
      refine HP.out.mono ?_
      rintro e w2 ⟨rfl, hb⟩
      have HB2 := hidden (bthen HB0.out hb)
      have HK2 := hidden (blk_later HK.out hb)
      have c0 := blk_cell HK2.out
      have l0 := blk_lt HK2.out
      clear hb HP
      go_wp2_with fail
      refine (CB.out _).mono ?_
      rintro e w3 ⟨g, rfl, hg, hb⟩
      have HB3 := hidden (bthen HB2.out hb)
      have HG := hidden hg
      clear hb hg c0 l0
      go_wp2_with fail
      refine (C1.out g _ HG.out).mono ?_
      rintro e w4 ⟨rfl, hb⟩
      have HB4 := hidden (bthen HB3.out hb)
      clear hb
      go_wp2
      go_ret
      exact ⟨rfl, HB4.out⟩
    · have h1 : ownF own agreed = (numG agreed 8 : Int) := if_neg he
      rw [h1] at C1
      have e1 : agreed.toList.isEmpty = false := by
        have : emt agreed = false := by simpa using he
        exact this
      clear h1 he ho2 hn
      generalize numG agreed 8 = nn at *
      go_enter Try.func27, Try.ntmps27
      go_wp2_with fail
      refine HP.out.mono ?_
      rintro e w2 ⟨rfl, hb⟩
      have HB2 := hidden (bthen HB0.out hb)
      have HK2 := hidden (blk_later HK.out hb)
      have c0 := blk_cell HK2.out
      have l0 := blk_lt HK2.out
      clear hb HP
      go_wp2_with fail
      refine (CN.out _).mono ?_
      rintro e w2b ⟨rfl, rfl⟩
      go_wp2_with fail
      refine (CB.out _).mono ?_
      rintro e w3 ⟨g, rfl, hg, hb⟩
      have HB3 := hidden (bthen HB2.out hb)
      have HG := hidden hg
      clear hb hg c0 l0
      go_wp2_with fail
      refine (C1.out g _ HG.out).mono ?_
      rintro e w4 ⟨rfl, hb⟩
      have HB4 := hidden (bthen HB3.out hb)
      clear hb
      go_wp2
      go_ret
      exact ⟨rfl, HB4.out⟩
  · have HF : Hid (nextF (plainE n f d p r dr o sl md fr zs) md own agreed = 0) := if_neg hE
    rw [HF.out]
    have j1 : (plainE n f d p r dr o sl md fr zs != 0) = true := bne_iff_ne.2 hE
    generalize plainE n f d p r dr o sl md fr zs = E at *
    clear hE hT HF
    go_enter Try.func27, Try.ntmps27
    go_wp2_with fail
    refine HP.out.mono ?_
    rintro e w2 ⟨rfl, hb⟩
    have HB2 := hidden (bthen HB0.out hb)
    clear hb HP
    go_wp2
    go_ret
    exact ⟨rfl, HB2.out⟩
set_option maxHeartbeats 2000000 in
theorem NApart_any (n f d p r dr o sl md fr : Int) (ad : Option Addr) (cap : Nat) (zs : List Int) (a b : Int) (w : World) (hl : zs.length ≤ 9223372036854775807) (hT : Tab w ad zs) (ha : -9223372036854775808 ≤ a ∧ a ≤ 9223372036854775807) (hb : -9223372036854775808 ≤ b ∧ b ≤ 9223372036854775807) :
    Calls Try.prog 31 #[.agg #[.int .i64 n, .int .i64 f, .int .i64 d, .int .i64 p, .int .i64 r, .int .i64 dr, .int .i64 o, .int .i64 sl, .int .i64 md, .int .i64 fr, .slice ad zs.length cap], .int .i64 a, .int .i64 b] w fun e w' => e = .returned (.int .i64 (apartF (plainE n f d p r dr o sl md fr zs) md a b)) ∧ Below w.heap.size w w' := by
  have HB0 := hidden (ballc w (.cells #[.int .i64 n, .int .i64 f, .int .i64 d, .int .i64 p, .int .i64 r, .int .i64 dr, .int .i64 o, .int .i64 sl, .int .i64 md, .int .i64 fr, .slice ad zs.length cap] 24))
  have HK := hidden (blk_nw w #[.int .i64 n, .int .i64 f, .int .i64 d, .int .i64 p, .int .i64 r, .int .i64 dr, .int .i64 o, .int .i64 sl, .int .i64 md, .int .i64 fr, .slice ad zs.length cap] 24)
  have HP := hidden (plain_any n f d p r dr o sl md fr ad cap zs (w.alloc (.cells #[.int .i64 n, .int .i64 f, .int .i64 d, .int .i64 p, .int .i64 r, .int .i64 dr, .int .i64 o, .int .i64 sl, .int .i64 md, .int .i64 fr, .slice ad zs.length cap] 24)) hl (hT.below (ballc _ _)))
  by_cases hE : plainE n f d p r dr o sl md fr zs = 0
  · obtain ⟨_, _, _, _, _, _, _, _, _, _, _, _, _, _, _, _, _, m1, m2, _⟩ := plainE_ok hE
    have b1 := modF_lt a m1 m2
    have b2 := modF_lt b m1 m2
    have C1 := hidden (fun V => Calls.to_below (mod_any a md V (wfS ha) (wfS (by omega))))
    have C2 := hidden (fun V => Calls.to_below (mod_any b md V (wfS hb) (wfS (by omega))))
    have C3 := hidden (fun V => Calls.to_below (mod_any (modF b md - modF a md) md V (wfS (by omega)) (wfS (by omega))))
    have HF : Hid (apartF (plainE n f d p r dr o sl md fr zs) md a b = modF (modF b md - modF a md) md) := if_pos hE
    rw [HF.out]
    rw [hE] at HP
    clear hE hT HF
    generalize modF (modF b md - modF a md) md = z3 at *
    generalize modF a md = z1 at *
    generalize modF b md = z2 at *
    have t1 : IntKind.i64.wrap (z2 - z1) = z2 - z1 := IntWalk.i64_in _ (by omega)
    go_enter Try.func31, Try.ntmps31
    go_wp2_with fail
    refine HP.out.mono ?_
    rintro e w2 ⟨rfl, hb⟩
    have HB2 := hidden (bthen HB0.out hb)
    have HK2 := hidden (blk_later HK.out hb)
    have c0 := blk_cell HK2.out
    have l0 := blk_lt HK2.out
    clear hb HP
    go_wp2
    refine wp_region_quiet_below (by kernel_rfl) (by kernel_rfl) ?_
    repeat (go_big_quiet_step (fail))
    go_big_quiet_step ((go_at_call 75; exact Calls.regrown_of (C2.out _)))
    repeat (go_big_quiet_step (fail))
    go_big_quiet_step ((go_at_call 75; exact Calls.regrown_of (C1.out _)))
    repeat (go_big_quiet_step (fail))
    go_big_quiet_step ((go_at_call 75; exact Calls.regrown_of (C3.out _)))
    repeat (go_big_quiet_step (fail))
    refine wpQuiet_nil ?_
    intro w5 hw5
    have HB5 := hidden (bthen HB2.out (rg_below hw5))
    clear hw5 c0 l0
    go_wp2
    go_ret
    exact ⟨rfl, HB5.out⟩
  · have HF : Hid (apartF (plainE n f d p r dr o sl md fr zs) md a b = 0) := if_neg hE
    rw [HF.out]
    have j1 : (plainE n f d p r dr o sl md fr zs != 0) = true := bne_iff_ne.2 hE
    generalize plainE n f d p r dr o sl md fr zs = E at *
    clear hE hT HF
    go_enter Try.func31, Try.ntmps31
    go_wp2_with fail
    refine HP.out.mono ?_
    rintro e w2 ⟨rfl, hb⟩
    have HB2 := hidden (bthen HB0.out hb)
    clear hb HP
    go_wp2
    go_ret
    exact ⟨rfl, HB2.out⟩
end Go.Proofs.Ytohgmliafidalaa
