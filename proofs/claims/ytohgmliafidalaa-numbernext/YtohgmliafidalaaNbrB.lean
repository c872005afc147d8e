/- The call Row of package number returns a row of numbers one behind another, and makes at most new memory; conditions: the table lies where it says, numbers and lengths fit int. -/
import Derived.Test.YtohgmliafidalaaNbrA
import Derived.Test.YtohgmliafidalaaRowB
namespace Go.Proofs.Ytohgmliafidalaa
open Go.ChangeShapes Go.WideShapes Go.ChangeAt Go.RowKit
set_option linter.unusedVariables false
attribute [local go_sem] cell_rg

/-- What Row answers: so many numbers; none of what is not plain. -/
def rowM (num : Int) : Nat := (clampF num 0 2000).toNat
theorem rowM_bd (num : Int) : rowM num ≤ 2000 ∧ clampF num 0 2000 = (rowM num : Int) := by
  unfold rowM clampF
  split
  · exact ⟨by decide, rfl⟩
  · split <;> omega
def rowZ (E md first num : Int) : List Int := if E = 0 then seqL md first (rowM num) else []
theorem fill_seq (md first : Int) (m : Nat) : fillL (0 : Int) m (seqF md first) m = seqL md first m := fillL_all _ _ _
set_option maxHeartbeats 4000000 in
theorem NRow_any (n f d p r dr o sl md fr : Int) (ad : Option Addr) (cap : Nat) (zs : List Int) (first num : Int) (w : World) (hl : zs.length ≤ 9223372036854775807) (hT : Tab w ad zs) (hf : -9223372036854775808 ≤ first ∧ first ≤ 9223372036854775807) :
    Calls Try.prog 34 #[.agg #[.int .i64 n, .int .i64 f, .int .i64 d, .int .i64 p, .int .i64 r, .int .i64 dr, .int .i64 o, .int .i64 sl, .int .i64 md, .int .i64 fr, .slice ad zs.length cap], .int .i64 first, .int .i64 num] w fun e w' => ∃ a c, e = .returned (.slice a (rowZ (plainE n f d p r dr o sl md fr zs) md first num).length c) ∧ kInt.Lies w'.heap.size w' (.slice a (rowZ (plainE n f d p r dr o sl md fr zs) md first num).length c) (rowZ (plainE n f d p r dr o sl md fr zs) md first num) ∧ Below w.heap.size w w' := by
  have HB0 := hidden (ballc w (.cells #[.int .i64 n, .int .i64 f, .int .i64 d, .int .i64 p, .int .i64 r, .int .i64 dr, .int .i64 o, .int .i64 sl, .int .i64 md, .int .i64 fr, .slice ad zs.length cap] 24))
  have HK := hidden (blk_nw w #[.int .i64 n, .int .i64 f, .int .i64 d, .int .i64 p, .int .i64 r, .int .i64 dr, .int .i64 o, .int .i64 sl, .int .i64 md, .int .i64 fr, .slice ad zs.length cap] 24)
  have HP := hidden (plain_any n f d p r dr o sl md fr ad cap zs (w.alloc (.cells #[.int .i64 n, .int .i64 f, .int .i64 d, .int .i64 p, .int .i64 r, .int .i64 dr, .int .i64 o, .int .i64 sl, .int .i64 md, .int .i64 fr, .slice ad zs.length cap] 24)) hl (hT.below (ballc _ _)))
  by_cases hE : plainE n f d p r dr o sl md fr zs = 0
  · obtain ⟨_, _, _, _, _, _, _, _, _, _, _, _, _, _, _, _, _, m1, m2, _⟩ := plainE_ok hE
    have hbm := rowM_bd num
    have CB := hidden (fun V => behind_any n f d p r dr o sl md fr ad cap zs V)
    have C1 := hidden (fun x hx g V hk => behind1_any n f d p r dr o sl md fr ad cap zs x g V hx m1 m2 hk)
    have CC := hidden (fun V => clamp_any num 0 2000 V)
    have CM := hidden (fun V => mod_any first md V (wfS hf) (wfS (by omega)))
    have HS0 : Hid (modF first md = seqF md first 0) := rfl
    have HSS : Hid (∀ k, behF md (seqF md first k) = seqF md first (k + 1)) := fun _ => rfl
    have HSB : Hid (∀ k, -9223372036854775808 ≤ seqF md first k ∧ seqF md first k ≤ 9223372036854775807) := fun k => by
      have : 0 ≤ seqF md first k ∧ seqF md first k ≤ 249 := by
        cases k with
        | zero => exact modF_lt first m1 m2
        | succ k => exact behF_bd _ m1 m2
      omega
    have HZ : Hid (rowZ (plainE n f d p r dr o sl md fr zs) md first num = seqL md first (rowM num)) := if_pos hE
    rw [HZ.out, seqL_len]
    rw [hbm.2] at CC
    rw [hE] at HP
    rw [HS0.out] at CM
    clear hE hT HZ HS0
    obtain ⟨m, hm⟩ : ∃ m, m = rowM num := ⟨_, rfl⟩
    rw [← hm] at CC hbm ⊢
    have hm2 := hbm.1
    have HML := hidden (make_ints m rfl (by omega))
    have HF0 := hidden (fillL_0 (0 : Int) m (seqF md first))
    have HFA := hidden (fill_seq md first m)
    clear hbm hm
    go_enter Try.func34, Try.ntmps34
    go_wp2_with fail
    refine HP.out.mono ?_
    rintro e w2 ⟨rfl, hb⟩
    have HB2 := hidden (bthen HB0.out hb)
    have HK2 := hidden (blk_later HK.out hb)
    have c0 := blk_cell HK2.out
    have l0 := blk_lt HK2.out
    clear hb HP
    go_wp2_with fail
    refine (CB.out _).mono ?_
    rintro e w3 ⟨g, rfl, hg, hb⟩
    have HB3 := hidden (bthen HB2.out hb)
    have HG := hidden hg
    have HK3 := hidden (blk_later HK2.out hb)
    clear hb hg c0 l0
    have c0 := blk_cell HK3.out
    have l0 := blk_lt HK3.out
    go_wp2_with fail
    refine (CC.out _).mono ?_
    rintro e w4 ⟨rfl, rfl⟩
    have hml := HML.out w3
    have hbA := ballc w3 (.cells (kInt.flat (List.replicate m 0)).toArray 3)
    have HX : Hid (IBlk (w3.alloc (.cells (kInt.flat (List.replicate m 0)).toArray 3)) w3.heap.size (fillL 0 m (seqF md first) 0)) := by
      show IBlk _ _ _
      rw [HF0.out]
      exact blk_nw w3 _ _
    have HB4 := hidden (bthen HB3.out hbA)
    have HG4 := hidden (blk_later HG.out hbA)
    have hgne : w3.heap.size ≠ g := fun e => by have := blk_lt HG.out; omega
    have hnew : w.heap.size ≤ w3.heap.size := HB3.out.size
    have HK4 := hidden (blk_later HK3.out hbA)
    clear hbA c0 l0
    have c0 := blk_cell HK4.out
    have l0 := blk_lt HK4.out
    go_wp2_with fail
    refine (CM.out _).mono ?_
    rintro e w5 ⟨rfl, rfl⟩
    clear hml c0 l0
    generalize hw4 : w3.alloc (.cells (kInt.flat (List.replicate m 0)).toArray 3) = w4 at *
    generalize w3.heap.size = gr at *
    clear hw4
    go_wp2
    go_loopw [9, 25] (fun nm i wr => ∃ k : Nat, k ≤ m ∧ i = .int .i64 k ∧ nm = .int .i64 (seqF md first k) ∧ IBlk wr gr (fillL 0 m (seqF md first) k) ∧ wr.heap[g]? = some (.cells #[.int .i64 n, .int .i64 f, .int .i64 d, .int .i64 p, .int .i64 r, .int .i64 dr, .int .i64 o, .int .i64 sl, .int .i64 md, .int .i64 fr, .slice ad zs.length cap] 24 (0, 0)) ∧ Below w.heap.size w wr) (fun _ i _ => m - (intV i).toNat)
    case atStart => exact ⟨0, Nat.zero_le _, rfl, rfl, HX.out, HG4.out, HB4.out⟩
    case round =>
      obtain ⟨k, hk, rfl, rfl, hX, hG, hB⟩ := hrel
      by_cases hlt : k < m
      · have i1 : (0 : Int) ≤ (k : Int) := by omega
        have i2 : (k : Int) < (m : Int) := by omega
        have hlen := fillL_len (0 : Int) m (seqF md first) k
        have c0 := hX.cell k (by omega)
        have f0 := hX.open k
        have l0 := hX.lt
        have HX2 := hidden (hX.set k (seqF md first k))
        rw [fillL_set _ _ _ _ hlt] at HX2
        have HG2 := hidden (blk_other hG ⟨gr, k, none⟩ (.int .i64 (seqF md first k)) (fun e => hgne e.symm))
        have HB2 := hidden (hB.setCell (p := ⟨gr, k, none⟩) hnew (.int .i64 (seqF md first k)))
        have HN := hidden (HSS.out k)
        have CK := hidden (C1.out (seqF md first k) (HSB.out k))
        clear hX hG hB
        rw [HN.out] at CK
        generalize seqF md first k = z at *
        go_wp2_with fail
        refine (CK.out g _ HG2.out).mono ?_
        rintro e w6 ⟨rfl, hb⟩
        have HX6 := hidden (HX2.out.later hb)
        have HG6 := hidden (blk_later HG2.out hb)
        have HB6 := hidden (bthen HB2.out hb)
        clear hb c0 f0 l0
        go_wp2
        go_roundw
        case rel => exact ⟨k + 1, by omega, by go_num, rfl, HX6.out, HG6.out, HB6.out⟩
        case measure => simp [intV]; omega
      · obtain rfl : k = m := by omega
        rw [HFA.out] at hX
        have hlies := hX.lies (by rw [seqL_len]; simp only [maxLen]; omega)
        rw [seqL_len] at hlies
        have HL := hidden hlies
        have HB := hidden hB
        clear hX hG hB hlies
        go_wp2
        go_ret
        exact ⟨_, _, rfl, HL.out, HB.out⟩
  · have HZ : Hid (rowZ (plainE n f d p r dr o sl md fr zs) md first num = []) := if_neg hE
    rw [HZ.out]
    have j1 : (plainE n f d p r dr o sl md fr zs != 0) = true := bne_iff_ne.2 hE
    generalize plainE n f d p r dr o sl md fr zs = E at *
    clear hE hT HZ
    go_enter Try.func34, Try.ntmps34
    go_wp2_with fail
    refine HP.out.mono ?_
    rintro e w2 ⟨rfl, hb⟩
    have HB2 := hidden (bthen HB0.out hb)
    clear hb HP
    go_wp2
    go_ret
    exact ⟨none, 0, rfl, Kind.Lies.nil _ _, HB2.out⟩
end Go.Proofs.Ytohgmliafidalaa
