/- The calls stepper and Step of package vec, and what stepper hands back, return what plain functions give, and make at most new memory; conditions: rows lie where they say, lengths fit int, and at most a hundred thousand codes and votes. -/
import Derived.Test.YtohgmliafidalaaVecB
import Derived.Test.YtohgmliafidalaaChain
import Derived.Deep.RegionHeld3
import Derived.Deep.DeepCutAuto
namespace Go.Proofs.Ytohgmliafidalaa
open Go.ChangeShapes Go.WideShapes Go.ChangeAt Go.RowKit Go.Shelf
set_option linter.unusedVariables false
attribute [local go_sem] cell_rg

theorem blkV_new {w w' : World} {C : Array Value} {t : TypeId} (hb : Below (w.alloc (.cells C t)).heap.size (w.alloc (.cells C t)) w') : w'.heap[w.heap.size]? = some (.cells C t (0, 0)) := (hb.block _ (by simp)).trans (heap_alloc_new w _)
theorem blkV_newD {w w' : World} {C : Array Value} {t : TypeId} (hb : Below (w.alloc (.cells C t)).drew.heap.size (w.alloc (.cells C t)).drew w') : w'.heap[w.heap.size]? = some (.cells C t (0, 0)) := (hb.block _ (by simp)).trans (heap_alloc_new w _)
theorem blkV_newE {w w' : World} {C : Array Value} {t : TypeId} (hb : Below (w.alloc (.cells C t)).drew.drew.heap.size (w.alloc (.cells C t)).drew.drew w') : w'.heap[w.heap.size]? = some (.cells C t (0, 0)) := (hb.block _ (by simp)).trans (heap_alloc_new w _)
/-- A block that lies there. -/
def Lay (g : Nat) (o : Obj) (w : World) : Prop := w.heap[g]? = some o
theorem Lay.alloc {g : Nat} {o : Obj} {w : World} (h : Lay g o w) (p : Obj) : Lay g o (w.alloc p) := blk_later h (ballc w p)
theorem Lay.drew {g : Nat} {o : Obj} {w : World} (h : Lay g o w) : Lay g o w.drew := h
theorem Lay.below {g : Nat} {o : Obj} {w w' : World} (h : Lay g o w) (hb : Below w.heap.size w w') : Lay g o w' := blk_later h hb
theorem Lay.iblk {g : Nat} {l : List Int} {w : World} (h : Lay g (.cells (kInt.flat l).toArray 3 (0, 0)) w) : IBlk w g l := h

set_option maxHeartbeats 4000000 in
theorem stepper1_any (n f d p r dr o sl md fr : Int) (ad : Option Addr) (cap : Nat) (zs : List Int) (x : Int) (codes told : ByteArray) (a2 : Option Addr) (c2 : Nat) (votes : List ByteArray) (k g0 g1 g2 g3 g4 : Nat) (w : World) (hl : zs.length ≤ 9223372036854775807) (hT : Tab w ad zs) (hx : (Lit.int .i64 x).wf = true)
    (hs1 : codes.size ≤ 9223372036854775807) (hs2 : told.size ≤ 9223372036854775807) (hn : votes.length ≤ 100000) (hV : kStr.Lies w.heap.size w (.slice a2 votes.length c2) votes) (hz : ∀ t ∈ votes, t.size ≤ 9223372036854775807)
    (b0 : w.heap[g0]? = some (.cells #[.int .i64 n, .int .i64 f, .int .i64 d, .int .i64 p, .int .i64 r, .int .i64 dr, .int .i64 o, .int .i64 sl, .int .i64 md, .int .i64 fr, .slice ad zs.length cap] 24 (0, 0))) (b1 : w.heap[g1]? = some (.cells #[.int .i64 x] 3 (0, 0))) (b2 : w.heap[g2]? = some (.cells #[.string codes] 9 (0, 0))) (b3 : w.heap[g3]? = some (.cells #[.string told] 9 (0, 0))) (b4 : w.heap[g4]? = some (.cells #[.slice a2 votes.length c2] 25 (0, 0))) :
    Calls Try.prog 131 #[.int .i64 (k : Int), .pointer (some ⟨g0, 0, none⟩), .pointer (some ⟨g1, 0, none⟩), .pointer (some ⟨g2, 0, none⟩), .pointer (some ⟨g3, 0, none⟩), .pointer (some ⟨g4, 0, none⟩)] w fun e w' => e = .returned (.int .i64 (stpG (plainE n f d p r dr o sl md fr zs) n f x codes told votes k : Int)) ∧ Below w.heap.size w w' := by
  have hC0 : Chn w.heap.size w w := Chn.refl (Nat.le_refl _)
  have hS : ∀ w', Chn w.heap.size w w' → (w'.cell? ⟨g0, 0, none⟩ = some (.int .i64 n) ∧ w'.cell? ⟨g0, 1, none⟩ = some (.int .i64 f) ∧ w'.cell? ⟨g0, 2, none⟩ = some (.int .i64 d) ∧ w'.cell? ⟨g0, 3, none⟩ = some (.int .i64 p) ∧ w'.cell? ⟨g0, 4, none⟩ = some (.int .i64 r) ∧ w'.cell? ⟨g0, 5, none⟩ = some (.int .i64 dr) ∧ w'.cell? ⟨g0, 6, none⟩ = some (.int .i64 o) ∧ w'.cell? ⟨g0, 7, none⟩ = some (.int .i64 sl) ∧ w'.cell? ⟨g0, 8, none⟩ = some (.int .i64 md) ∧ w'.cell? ⟨g0, 9, none⟩ = some (.int .i64 fr) ∧ w'.cell? ⟨g0, 10, none⟩ = some (.slice ad zs.length cap) ∧ w'.cell? ⟨g1, 0, none⟩ = some (.int .i64 x) ∧ w'.cell? ⟨g2, 0, none⟩ = some (.string codes) ∧ w'.cell? ⟨g3, 0, none⟩ = some (.string told) ∧ w'.cell? ⟨g4, 0, none⟩ = some (.slice a2 votes.length c2)) := fun V hV => by
    have l0 := blk_cell ((hV.1.block _ (blk_lt b0)).trans b0)
    exact ⟨l0 0, l0 1, l0 2, l0 3, l0 4, l0 5, l0 6, l0 7, l0 8, l0 9, l0 10, blk_cell ((hV.1.block _ (blk_lt b1)).trans b1) 0, blk_cell ((hV.1.block _ (blk_lt b2)).trans b2) 0, blk_cell ((hV.1.block _ (blk_lt b3)).trans b3) 0, blk_cell ((hV.1.block _ (blk_lt b4)).trans b4) 0⟩
  have CB := fun V => bitAt_any codes k V hs1
  have CD := fun V => vdigitAt_any told k 2 V hs2 (by decide)
  have CV : ∀ V, Chn w.heap.size w V → Calls Try.prog 133 #[.slice a2 votes.length c2, .int .i64 (k : Int)] V fun e w' => ∃ g, e = .returned (.slice (some ⟨g, 0, none⟩) votes.length votes.length) ∧ Lay g (.cells (kInt.flat (votesP votes k)).toArray 3 (0, 0)) w' ∧ Below V.heap.size V w' := fun V hb => (votesAt_any a2 c2 votes k V hn (hV.later hb.1) hz).mono fun e w' ⟨g, he, hI, hb⟩ => ⟨g, he, hI, hb⟩
  have CS := fun g V (hb : Chn w.heap.size w V) (hg : Lay g (.cells (kInt.flat (votesP votes k)).toArray 3 (0, 0)) V) => KStep_any n f d p r dr o sl md fr ad cap zs x (bitK codes k) (vdg 2 told k) (some ⟨g, 0, none⟩) votes.length votes.length (votesP votes k) V hl (hT.below hb.1) hx (by rw [votesP_len]; omega) (by have h := (Lay.iblk hg).lies (by rw [votesP_len]; simp only [maxLen]; omega); rwa [votesP_len] at h)
  have HQ : Hid ((stpG (plainE n f d p r dr o sl md fr zs) n f x codes told votes k : Int) = codeF (stpB (plainE n f d p r dr o sl md fr zs) n f x codes told votes k)) := stpG_int _ _ _ _ _ _ _ _
  have HR : Hid (stpB (plainE n f d p r dr o sl md fr zs) n f x codes told votes k = stepF (plainE n f d p r dr o sl md fr zs) n f x (bitK codes k) (vdg 2 told k) (votesP votes k)) := rfl
  rw [HQ.out, HR.out]
  clear HQ HR
  have CC := hidden (fun V => Code_any (stepF (plainE n f d p r dr o sl md fr zs) n f x (bitK codes k) (vdg 2 told k) (votesP votes k)) V)
  generalize stepF (plainE n f d p r dr o sl md fr zs) n f x (bitK codes k) (vdg 2 told k) (votesP votes k) = q at *
  generalize (kInt.flat (votesP votes k)).toArray = vcells at *
  generalize bitK codes k = bk at *
  generalize vdg 2 told k = td at *
  generalize votes.length = M at *
  obtain ⟨bv, bs⟩ := bk
  obtain ⟨qv, qs⟩ := q
  unfold agB at CB CS
  dsimp only at CB CS CC
  clear hV hz hT hs1 hs2 b0 b1 b2 b3 b4
  go_enter Try.func131, Try.ntmps131
  go_upto_region 1 with fail
  go_cut [8] (fun pt wx => ∃ g : Nat, pt = .pointer (some ⟨g, 0, none⟩) ∧ wx.heap[g]? = some (.cells #[.int .i64 qv, .bool qs] 108 (0, 0)) ∧ w.heap.size ≤ g ∧ Chn w.heap.size w wx)
  case first =>
    go_region_held3 (fun w' => w'.cell? ⟨g0, 0, none⟩ = some (.int .i64 n) ∧ w'.cell? ⟨g0, 1, none⟩ = some (.int .i64 f) ∧ w'.cell? ⟨g0, 2, none⟩ = some (.int .i64 d) ∧ w'.cell? ⟨g0, 3, none⟩ = some (.int .i64 p) ∧ w'.cell? ⟨g0, 4, none⟩ = some (.int .i64 r) ∧ w'.cell? ⟨g0, 5, none⟩ = some (.int .i64 dr) ∧ w'.cell? ⟨g0, 6, none⟩ = some (.int .i64 o) ∧ w'.cell? ⟨g0, 7, none⟩ = some (.int .i64 sl) ∧ w'.cell? ⟨g0, 8, none⟩ = some (.int .i64 md) ∧ w'.cell? ⟨g0, 9, none⟩ = some (.int .i64 fr) ∧ w'.cell? ⟨g0, 10, none⟩ = some (.slice ad zs.length cap) ∧ w'.cell? ⟨g1, 0, none⟩ = some (.int .i64 x) ∧ w'.cell? ⟨g2, 0, none⟩ = some (.string codes) ∧ w'.cell? ⟨g3, 0, none⟩ = some (.string told) ∧ w'.cell? ⟨g4, 0, none⟩ = some (.slice a2 M c2)) (first | exact hS _ (by repeat (first | with_reducible assumption | with_reducible refine Chn.drew ?_ | with_reducible refine Chn.alloc ?_ _ | with_reducible refine Chn.set ?_ _ _ (by first | exact Nat.le_refl _ | exact Chn.le hC4 | exact Chn.le hC5 | exact Chn.le hC6) _)))
      (first
      | (go_at_call 87; refine (CB _).mono ?_; rintro e w4 ⟨rfl, hb4⟩; clear CB; have hC4 := Chn.below (show Chn w.heap.size w _ from (by repeat (first | with_reducible assumption | with_reducible refine Chn.drew ?_ | with_reducible refine Chn.alloc ?_ _ | with_reducible refine Chn.set ?_ _ _ (by first | exact Nat.le_refl _ | exact Chn.le hC4 | exact Chn.le hC5 | exact Chn.le hC6) _))) hb4; (first | (have kx4 := (hb4.block _ (Array.getElem?_eq_some_iff.1 kx5).1).trans kx5; have ky4 := blk_cell kx4; have kz4 := blk_frozen kx4) | (have kx4 := (hb4.block _ (Array.getElem?_eq_some_iff.1 kx6).1).trans kx6; have ky4 := blk_cell kx4; have kz4 := blk_frozen kx4) | (have kx4 := blkV_new hb4; have ky4 := blk_cell kx4; have kz4 := blk_frozen kx4) | (have kx4 := blkV_newD hb4; have ky4 := blk_cell kx4; have kz4 := blk_frozen kx4) | (have kx4 := blkV_newE hb4; have ky4 := blk_cell kx4; have kz4 := blk_frozen kx4) | skip); (first | (have hI4 := Lay.below (show Lay g5 _ _ from (by repeat (first | with_reducible assumption | with_reducible refine Lay.drew ?_ | with_reducible refine Lay.alloc ?_ _))) hb4) | skip); clear hb4)
      | (go_at_call 97; refine (CD _).mono ?_; rintro e w9 ⟨rfl, rfl⟩; clear CD)
      | (go_at_call 133; refine (CV _ (by repeat (first | with_reducible assumption | with_reducible refine Chn.drew ?_ | with_reducible refine Chn.alloc ?_ _ | with_reducible refine Chn.set ?_ _ _ (by first | exact Nat.le_refl _ | exact Chn.le hC4 | exact Chn.le hC5 | exact Chn.le hC6) _))).mono ?_; rintro e w5 ⟨g5, rfl, hI5, hb5⟩; clear CV; have hC5 := Chn.below (show Chn w.heap.size w _ from (by repeat (first | with_reducible assumption | with_reducible refine Chn.drew ?_ | with_reducible refine Chn.alloc ?_ _ | with_reducible refine Chn.set ?_ _ _ (by first | exact Nat.le_refl _ | exact Chn.le hC4 | exact Chn.le hC5 | exact Chn.le hC6) _))) hb5; (first | (have kx5 := (hb5.block _ (Array.getElem?_eq_some_iff.1 kx4).1).trans kx4; have ky5 := blk_cell kx5; have kz5 := blk_frozen kx5) | (have kx5 := (hb5.block _ (Array.getElem?_eq_some_iff.1 kx6).1).trans kx6; have ky5 := blk_cell kx5; have kz5 := blk_frozen kx5) | (have kx5 := blkV_new hb5; have ky5 := blk_cell kx5; have kz5 := blk_frozen kx5) | (have kx5 := blkV_newD hb5; have ky5 := blk_cell kx5; have kz5 := blk_frozen kx5) | (have kx5 := blkV_newE hb5; have ky5 := blk_cell kx5; have kz5 := blk_frozen kx5) | skip); clear hb5)
      | (go_at_call 132; refine (CS g5 _ (by repeat (first | with_reducible assumption | with_reducible refine Chn.drew ?_ | with_reducible refine Chn.alloc ?_ _ | with_reducible refine Chn.set ?_ _ _ (by first | exact Nat.le_refl _ | exact Chn.le hC4 | exact Chn.le hC5 | exact Chn.le hC6) _)) (by repeat (first | with_reducible assumption | with_reducible refine Lay.drew ?_ | with_reducible refine Lay.alloc ?_ _))).mono ?_; rintro e w6 ⟨rfl, hb6⟩; clear CS; have hC6 := Chn.below (show Chn w.heap.size w _ from (by repeat (first | with_reducible assumption | with_reducible refine Chn.drew ?_ | with_reducible refine Chn.alloc ?_ _ | with_reducible refine Chn.set ?_ _ _ (by first | exact Nat.le_refl _ | exact Chn.le hC4 | exact Chn.le hC5 | exact Chn.le hC6) _))) hb6; (first | (have kx6 := (hb6.block _ (Array.getElem?_eq_some_iff.1 kx4).1).trans kx4; have ky6 := blk_cell kx6; have kz6 := blk_frozen kx6) | (have kx6 := (hb6.block _ (Array.getElem?_eq_some_iff.1 kx5).1).trans kx5; have ky6 := blk_cell kx6; have kz6 := blk_frozen kx6) | (have kx6 := blkV_new hb6; have ky6 := blk_cell kx6; have kz6 := blk_frozen kx6) | (have kx6 := blkV_newD hb6; have ky6 := blk_cell kx6; have kz6 := blk_frozen kx6) | (have kx6 := blkV_newE hb6; have ky6 := blk_cell kx6; have kz6 := blk_frozen kx6) | skip); clear hb6))
    all_goals
      go_wp2_with fail
      go_meet
      case rel =>
        refine ⟨_, rfl, ?_, ?_, (by repeat (first | with_reducible assumption | with_reducible refine Chn.drew ?_ | with_reducible refine Chn.alloc ?_ _ | with_reducible refine Chn.set ?_ _ _ (by first | exact Nat.le_refl _ | exact Chn.le hC4 | exact Chn.le hC5 | exact Chn.le hC6) _))⟩
        · first
            | with_reducible exact set2T kx6 _ _
            | exact heap_alloc_new _ _
        · first
            | with_reducible exact Nat.le_refl _
            | with_reducible exact Chn.le hC4
            | with_reducible exact Chn.le hC5
            | with_reducible exact Chn.le hC6
  case rest =>
    obtain ⟨g, rfl, hBl, hg, hC⟩ := hcut
    have e0 := fun i => blk_cell hBl i
    have lg := blk_lt hBl
    have HC := hidden hC
    clear hBl hg hC CB CD CV CS hS
    go_wp2_with fail
    refine (CC.out _).mono ?_
    rintro e w7 ⟨rfl, hb⟩
    have HB := hidden (bthen HC.out.1 hb)
    clear hb
    go_wp2
    go_ret
    exact ⟨rfl, HB.out⟩

theorem stepper_any (n f d p r dr o sl md fr : Int) (ad : Option Addr) (cap : Nat) (zs : List Int) (x : Int) (codes told : ByteArray) (a2 : Option Addr) (c2 M : Nat) (w : World) :
    Calls Try.prog 123 #[.agg #[.int .i64 n, .int .i64 f, .int .i64 d, .int .i64 p, .int .i64 r, .int .i64 dr, .int .i64 o, .int .i64 sl, .int .i64 md, .int .i64 fr, .slice ad zs.length cap], .int .i64 x, .string codes, .string told, .slice a2 M c2] w fun e w' => ∃ g0 g1 g2 g3 g4, e = .returned (.func (.func 131) #[] #[.pointer (some ⟨g0, 0, none⟩), .pointer (some ⟨g1, 0, none⟩), .pointer (some ⟨g2, 0, none⟩), .pointer (some ⟨g3, 0, none⟩), .pointer (some ⟨g4, 0, none⟩)])
      ∧ w'.heap[g0]? = some (.cells #[.int .i64 n, .int .i64 f, .int .i64 d, .int .i64 p, .int .i64 r, .int .i64 dr, .int .i64 o, .int .i64 sl, .int .i64 md, .int .i64 fr, .slice ad zs.length cap] 24 (0, 0)) ∧ w'.heap[g1]? = some (.cells #[.int .i64 x] 3 (0, 0)) ∧ w'.heap[g2]? = some (.cells #[.string codes] 9 (0, 0)) ∧ w'.heap[g3]? = some (.cells #[.string told] 9 (0, 0)) ∧ w'.heap[g4]? = some (.cells #[.slice a2 M c2] 25 (0, 0)) ∧ Below w.heap.size w w' := by
  have hmf : ∀ (fn : Fn) (first cap : Array Value) (w : World), (Instr.makeFunc fn first cap).run Try.prog w = .ok (.func fn first cap) w := fun _ _ _ _ => rfl
  have k0 := blk_nw w #[.int .i64 n, .int .i64 f, .int .i64 d, .int .i64 p, .int .i64 r, .int .i64 dr, .int .i64 o, .int .i64 sl, .int .i64 md, .int .i64 fr, .slice ad zs.length cap] 24
  have k1 := blk_newAt (w.alloc (.cells #[.int .i64 n, .int .i64 f, .int .i64 d, .int .i64 p, .int .i64 r, .int .i64 dr, .int .i64 o, .int .i64 sl, .int .i64 md, .int .i64 fr, .slice ad zs.length cap] 24)) #[.int .i64 x] 3 (b := w.heap.size + 1) (by simp)
  have k2 := blk_newAt ((w.alloc (.cells #[.int .i64 n, .int .i64 f, .int .i64 d, .int .i64 p, .int .i64 r, .int .i64 dr, .int .i64 o, .int .i64 sl, .int .i64 md, .int .i64 fr, .slice ad zs.length cap] 24)).alloc (.cells #[.int .i64 x] 3)) #[.string codes] 9 (b := w.heap.size + 1 + 1) (by simp)
  have k3 := blk_newAt (((w.alloc (.cells #[.int .i64 n, .int .i64 f, .int .i64 d, .int .i64 p, .int .i64 r, .int .i64 dr, .int .i64 o, .int .i64 sl, .int .i64 md, .int .i64 fr, .slice ad zs.length cap] 24)).alloc (.cells #[.int .i64 x] 3)).alloc (.cells #[.string codes] 9)) #[.string told] 9 (b := w.heap.size + 1 + 1 + 1) (by simp)
  have k4 := blk_newAt ((((w.alloc (.cells #[.int .i64 n, .int .i64 f, .int .i64 d, .int .i64 p, .int .i64 r, .int .i64 dr, .int .i64 o, .int .i64 sl, .int .i64 md, .int .i64 fr, .slice ad zs.length cap] 24)).alloc (.cells #[.int .i64 x] 3)).alloc (.cells #[.string codes] 9)).alloc (.cells #[.string told] 9)) #[.slice a2 M c2] 25 (b := w.heap.size + 1 + 1 + 1 + 1) (by simp)
  have K0 := hidden (blk_later (blk_later (blk_later (blk_later k0 (ballc _ (.cells #[.int .i64 x] 3))) (ballc _ (.cells #[.string codes] 9))) (ballc _ (.cells #[.string told] 9))) (ballc _ (.cells #[.slice a2 M c2] 25)))
  have K1 := hidden (blk_later (blk_later (blk_later k1 (ballc _ (.cells #[.string codes] 9))) (ballc _ (.cells #[.string told] 9))) (ballc _ (.cells #[.slice a2 M c2] 25)))
  have K2 := hidden (blk_later (blk_later k2 (ballc _ (.cells #[.string told] 9))) (ballc _ (.cells #[.slice a2 M c2] 25)))
  have K3 := hidden (blk_later k3 (ballc _ (.cells #[.slice a2 M c2] 25)))
  have K4 := hidden k4
  have HB := hidden (bthen (bthen (bthen (bthen (ballc w (.cells #[.int .i64 n, .int .i64 f, .int .i64 d, .int .i64 p, .int .i64 r, .int .i64 dr, .int .i64 o, .int .i64 sl, .int .i64 md, .int .i64 fr, .slice ad zs.length cap] 24)) (ballc _ (.cells #[.int .i64 x] 3))) (ballc _ (.cells #[.string codes] 9))) (ballc _ (.cells #[.string told] 9))) (ballc _ (.cells #[.slice a2 M c2] 25)))
  clear k0 k1 k2 k3 k4
  go_enter Try.func123, Try.ntmps123
  go_wp2
  go_ret
  exact ⟨_, _, _, _, _, rfl, K0.out, K1.out, K2.out, K3.out, K4.out, HB.out⟩

set_option maxHeartbeats 1000000 in
theorem VStep_any (n f d p r dr o sl md fr : Int) (ad : Option Addr) (cap : Nat) (zs : List Int) (x : Int) (codes told : ByteArray) (a2 : Option Addr) (c2 : Nat) (votes : List ByteArray) (w : World) (hl : zs.length ≤ 9223372036854775807) (hT : Tab w ad zs) (hx : (Lit.int .i64 x).wf = true)
    (hs1 : codes.size ≤ 100000) (hs2 : told.size ≤ 9223372036854775807) (hn : votes.length ≤ 100000) (hV : kStr.Lies w.heap.size w (.slice a2 votes.length c2) votes) (hz : ∀ t ∈ votes, t.size ≤ 9223372036854775807) :
    Calls Try.prog 105 #[.agg #[.int .i64 n, .int .i64 f, .int .i64 d, .int .i64 p, .int .i64 r, .int .i64 dr, .int .i64 o, .int .i64 sl, .int .i64 md, .int .i64 fr, .slice ad zs.length cap], .int .i64 x, .string codes, .string told, .slice a2 votes.length c2] w fun e w' => e = .returned (.string (dgB codes.size (stpG (plainE n f d p r dr o sl md fr zs) n f x codes told votes))) ∧ Below w.heap.size w w' := by
  have C1 := hidden (fun V => stepper_any n f d p r dr o sl md fr ad cap zs x codes told a2 c2 votes.length V)
  have C2 : ∀ (V : World) (g0 g1 g2 g3 g4 : Nat), Below w.heap.size w V → V.heap[g0]? = some (.cells #[.int .i64 n, .int .i64 f, .int .i64 d, .int .i64 p, .int .i64 r, .int .i64 dr, .int .i64 o, .int .i64 sl, .int .i64 md, .int .i64 fr, .slice ad zs.length cap] 24 (0, 0)) → V.heap[g1]? = some (.cells #[.int .i64 x] 3 (0, 0)) → V.heap[g2]? = some (.cells #[.string codes] 9 (0, 0)) → V.heap[g3]? = some (.cells #[.string told] 9 (0, 0)) → V.heap[g4]? = some (.cells #[.slice a2 votes.length c2] 25 (0, 0)) →
      Calls Try.prog 85 #[.int .i64 (codes.size : Int), .func (.func 131) #[] #[.pointer (some ⟨g0, 0, none⟩), .pointer (some ⟨g1, 0, none⟩), .pointer (some ⟨g2, 0, none⟩), .pointer (some ⟨g3, 0, none⟩), .pointer (some ⟨g4, 0, none⟩)]] V fun e w' => e = .returned (.string (dgB codes.size (stpG (plainE n f d p r dr o sl md fr zs) n f x codes told votes))) ∧ Below V.heap.size V w' :=
    fun V g0 g1 g2 g3 g4 hb b0 b1 b2 b3 b4 => digits_any codes.size hs1 131 #[.pointer (some ⟨g0, 0, none⟩), .pointer (some ⟨g1, 0, none⟩), .pointer (some ⟨g2, 0, none⟩), .pointer (some ⟨g3, 0, none⟩), .pointer (some ⟨g4, 0, none⟩)] (enters_of Try.func131 (by kernel_rfl) rfl) (stpG (plainE n f d p r dr o sl md fr zs) n f x codes told votes) (fun k _ => by have := stpG_bd (plainE n f d p r dr o sl md fr zs) n f x codes told votes k; omega) V
      (fun k hk W hW => stepper1_any n f d p r dr o sl md fr ad cap zs x codes told a2 c2 votes k g0 g1 g2 g3 g4 W hl (hT.below (bthen hb hW)) hx (by omega) hs2 hn (hV.later (bthen hb hW)) hz (blk_later b0 hW) (blk_later b1 hW) (blk_later b2 hW) (blk_later b3 hW) (blk_later b4 hW))
  have C2 := hidden C2
  clear hT hV hz
  generalize stpG (plainE n f d p r dr o sl md fr zs) n f x codes told votes = G at *
  go_enter Try.func105, Try.ntmps105
  go_wp2_with fail
  refine (C1.out _).mono ?_
  rintro e w2 ⟨g0, g1, g2, g3, g4, rfl, b0, b1, b2, b3, b4, hb⟩
  have HB2 := hidden (bthen (ballc w _) hb)
  have CX := hidden (C2.out w2 g0 g1 g2 g3 g4 HB2.out b0 b1 b2 b3 b4)
  clear hb b0 b1 b2 b3 b4
  go_wp2_with fail
  refine CX.out.mono ?_
  rintro e w3 ⟨rfl, hb⟩
  have HB3 := hidden (bthen HB2.out hb)
  clear hb
  go_wp2
  go_ret
  exact ⟨rfl, HB3.out⟩
end Go.Proofs.Ytohgmliafidalaa
