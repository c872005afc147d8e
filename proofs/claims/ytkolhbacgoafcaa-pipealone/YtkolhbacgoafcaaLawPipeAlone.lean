/- The walk of the statement PipeAlone: the call returns true, and makes at most new memory; conditions: rows lie where they say, numbers and lengths fit int. -/
import Derived.Test.YtkolhbacgoafcaaBg
import Derived.Test.YtkolhbacgoafcaaBh
import Derived.Test.YtkolhbacgoafcaaBk
namespace Go.Proofs.Ytkolhbacgoafcaa.LawPipeAlone
open Go.ChangeShapes Go.WideShapes Go.ChangeAt Go.RowKit
set_option linter.unusedVariables false
attribute [local go_sem] cell_rg

def rowD : Option Addr × Nat × List ByteArray := (none, 0, [])
/-- The rows lie where they say. -/
structure Vts (n0 : Nat) (W : World) (ad : Option Addr) (cap : Nat) (es : List (Option Addr × Nat × List ByteArray)) : Prop where
  out : kSl.Lies n0 W (.slice ad es.length cap) es
  rows : ∀ e ∈ es, kStr.Lies n0 W (.slice e.1 e.2.2.length e.2.1) e.2.2
theorem Vts.below {W W' : World} {ad : Option Addr} {cap : Nat} {es : List (Option Addr × Nat × List ByteArray)} (h : Vts W.heap.size W ad cap es) (hb : Below W.heap.size W W') : Vts W'.heap.size W' ad cap es := ⟨h.out.later hb, fun e he => (h.rows e he).later hb⟩
theorem Vts.at' {n0 : Nat} {W : World} {ad : Option Addr} {cap : Nat} {es : List (Option Addr × Nat × List ByteArray)} (h : Vts n0 W ad cap es) (j : Nat) (hj : j < es.length) : ∃ b off : Nat, ad = some ⟨b, off, none⟩ ∧ b < n0 ∧ W.cell? ⟨b, off + j, none⟩ = some (.slice (es.getD j rowD).1 (es.getD j rowD).2.2.length (es.getD j rowD).2.1) := by
  obtain ⟨b, off, he, hb, hc⟩ := h.out.at j hj
  refine ⟨b, off, he, hb, ?_⟩
  have := hc 0 (by decide)
  rw [List.getD_eq_getElem?_getD, List.getElem?_eq_getElem hj, Option.getD_some]
  simpa [kSl] using this
theorem Vts.row {n0 : Nat} {W : World} {ad : Option Addr} {cap : Nat} {es : List (Option Addr × Nat × List ByteArray)} (h : Vts n0 W ad cap es) (j : Nat) (hj : j < es.length) : kStr.Lies n0 W (.slice (es.getD j rowD).1 (es.getD j rowD).2.2.length (es.getD j rowD).2.1) (es.getD j rowD).2.2 := by
  rw [List.getD_eq_getElem?_getD, List.getElem?_eq_getElem hj, Option.getD_some]
  exact h.rows _ (List.getElem_mem hj)
theorem wellL_bq {L : Nat} {l : List UInt8} (h : l.length = L) : wellL L (ba l) = l := by
  unfold wellL
  rw [if_pos (by rw [ba_size, h]), bl_ba]
def vtF (es : List (Option Addr × Nat × List ByteArray)) (t : Nat) : List ByteArray := (es.getD t rowD).2.2

set_option maxRecDepth 100000 in
set_option maxHeartbeats 4000000 in
theorem walk (n f d p r dr o sl md fr : Int) (ad : Option Addr) (cap : Nat) (zs : List Int) (s : ByteArray) (bit : Int) (a2 : Option Addr) (c2 : Nat) (es : List (Option Addr × Nat × List ByteArray)) (w : World) (hl : zs.length ≤ 9223372036854775807) (hT : Tab w ad zs) (hs : s.size ≤ 9223372036854775807) (hbit : -9223372036854775808 ≤ bit ∧ bit ≤ 9223372036854775807) (hl2 : es.length ≤ 9223372036854775807) (hV : kSl.Lies w.heap.size w (.slice a2 es.length c2) es) (hz : ∀ e ∈ es, RowIn w e) :
    Calls Try.prog 5 #[.agg #[.int .i64 n, .int .i64 f, .int .i64 d, .int .i64 p, .int .i64 r, .int .i64 dr, .int .i64 o, .int .i64 sl, .int .i64 md, .int .i64 fr, .slice ad zs.length cap], .string s, .int .i64 bit, .slice a2 es.length c2] w fun e w' => e = .returned (.bool true) ∧ Below w.heap.size w w' := by
  have KN := hidden (fun V => known17_any V)
  have HB0 := hidden (ballc w (.cells #[.int .i64 n, .int .i64 f, .int .i64 d, .int .i64 p, .int .i64 r, .int .i64 dr, .int .i64 o, .int .i64 sl, .int .i64 md, .int .i64 fr, .slice ad zs.length cap] 24))
  have HT := hidden (hT.below HB0.out)
  have HV := hidden ((Vts.mk hV (fun e he => (hz e he).1) : Vts w.heap.size w a2 c2 es).below HB0.out)
  have HZ := hidden (fun e he t ht => (hz e he).2.2 t ht)
  have HK := hidden (blk_nw w #[.int .i64 n, .int .i64 f, .int .i64 d, .int .i64 p, .int .i64 r, .int .i64 dr, .int .i64 o, .int .i64 sl, .int .i64 md, .int .i64 fr, .slice ad zs.length cap] 24)
  have CP := hidden (fun V h => refPlain_any n f d p r dr o sl md fr ad cap zs V hl h)
  have CL := hidden (fun V h => refLength_any n f d p r dr o sl md fr ad cap zs V hl h)
  clear hV hz
  by_cases hE : plainE n f d p r dr o sl md fr zs = 0
  · have hpl := hE
    rw [hE] at CP
    obtain ⟨R, D, L, hR, hL, hLD, hR15, hL60, hd, hd1, hd0⟩ := len_nat n f d p r dr o sl md fr ad cap zs
    rw [hL] at CL
    by_cases h100 : (100 : Int) < (s.size : Int)
    · have d1 : decide ((100 : Int) < (s.size : Int)) = true := decide_eq_true h100
      have d1' : decide (100 < s.size) = true := decide_eq_true (by omega)
      clear hT hE hR hL hLD hd hd1 hd0
      go_enter Try.func5, Try.ntmps5
      go_wp2_with fail
      refine (CP.out _ HT.out).mono ?_
      rintro e w2 ⟨rfl, hb⟩
      have HB2 := hidden (bthen HB0.out hb)
      have HT2 := hidden (HT.out.below hb)
      have HK2 := hidden (blk_later HK.out hb)
      have HV2 := hidden (HV.out.below hb)
      clear hb
      have c0 := blk_cell HK2.out
      have l0 := blk_lt HK2.out
      go_wp2_with fail
      refine (KN.out _).mono ?_
      rintro e w9 ⟨rfl, hb⟩
      have HB9 := hidden (bthen HB2.out hb)
      clear hb
      go_wp2
      go_ret
      exact ⟨rfl, HB9.out⟩
    · have d1 : decide ((100 : Int) < (s.size : Int)) = false := decide_eq_false h100
      have d1' : decide (100 < s.size) = false := decide_eq_false (by omega)
      by_cases hsl : es.length = L
      · obtain rfl : L = es.length := hsl.symm
        obtain ⟨hRi, hdD, hD1, hD4⟩ := hd1 hE
        obtain ⟨_, _, f1, _⟩ := plainE_ok hE
        have hL1 : 1 ≤ es.length := by
          rw [hLD]
          exact Nat.mul_pos (by omega) (by omega)
        have d0 : ((es.length : Int) != (es.length : Int)) = false := by simp
        have CS := hidden (fun V => rStart_any bit V)
        have CG := hidden (fun V h => Begin_any n f d p r dr o sl md fr ad cap zs es.length s bit hs V hl h hL hL60)
        have hl0 : at8 ((wellL es.length s).set 0 (begC8 bit)) 0 = cB (startF bit) := by
          rw [at8_lt (by rw [List.length_set, wellL_len]; omega), List.getElem_set_self]
          rfl
        have hlen0 : ((wellL es.length s).set 0 (begC8 bit)).length = es.length := by rw [List.length_set, wellL_len]
        have hhr : ∀ votes, hrdF n f d p r dr o sl md fr ad cap zs votes = hrdB 0 n f votes := fun votes => by
          funext x y
          unfold hrdF
          rw [hpl]
        have CM0 : ∀ k, k < es.length → (es.getD k rowD).2.2.length ≤ 100000 → ∀ V, Tab V ad zs → Vts V.heap.size V a2 c2 es → Calls Try.prog 15 #[.agg #[.int .i64 n, .int .i64 f, .int .i64 d, .int .i64 p, .int .i64 r, .int .i64 dr, .int .i64 o, .int .i64 sl, .int .i64 md, .int .i64 fr, .slice ad zs.length cap], .string (ba (lQ n f D (vtF es) ((wellL es.length s).set 0 (begC8 bit)) k)), .slice (es.getD k rowD).1 (es.getD k rowD).2.2.length (es.getD k rowD).2.1] V fun e w' => e = .returned (.tuple #[.string (ba (lQ n f D (vtF es) ((wellL es.length s).set 0 (begC8 bit)) (k + 1))), .int .i64 (endF (newB (hrdB 0 n f (vtF es k)) D (lQ n f D (vtF es) ((wellL es.length s).set 0 (begC8 bit)) k) es.length))]) ∧ Below V.heap.size V w' := by
          intro k hk h20 V hTV hVV
          have h := Move_any n f d p r dr o sl md fr ad cap zs R D es.length (ba (lQ n f D (vtF es) ((wellL es.length s).set 0 (begC8 bit)) k)) (by rw [ba_size, lQ_len, hlen0]; exact hl2) (es.getD k rowD).1 (es.getD k rowD).2.1 (es.getD k rowD).2.2 V hl hTV hR hL hR15 hL60 hLD hd h20 (hVV.row k hk) (fun t ht => HZ.out _ (by rw [List.getD_eq_getElem?_getD, List.getElem?_eq_getElem hk, Option.getD_some]; exact List.getElem_mem hk) t ht)
          rw [hhr, wellL_bq (by rw [lQ_len, hlen0])] at h
          exact h
        have CM := hidden CM0
        have CKS := hidden (fun x b kk a2 len c2 vs V h1 h2 h3 h4 => rKStep_any n f d p r dr o sl md fr ad cap zs x b kk a2 len c2 vs V hl h1 h2 h3 h4)
        rw [hpl] at CKS
        obtain ⟨i0, hi, hz0, hz1, hz2⟩ := info_of infoInt
        have HDD := hidden hdD
        have HLN := hidden hlen0
        have HL0 := hidden hl0
        generalize hl0q : (wellL es.length s).set 0 (begC8 bit) = l0q at *
        clear hl0q
        clear hT hE hpl hR hL hLD hd hd1 hd0 hhr CM0
        clear hdD hlen0 hl0
        clear hRi
        go_enter Try.func5, Try.ntmps5
        go_wp2_with fail
        refine (CP.out _ HT.out).mono ?_
        rintro e w2 ⟨rfl, hb⟩
        have HB2 := hidden (bthen HB0.out hb)
        have HT2 := hidden (HT.out.below hb)
        have HK2 := hidden (blk_later HK.out hb)
        have HV2 := hidden (HV.out.below hb)
        clear hb
        have c0 := blk_cell HK2.out
        have l0 := blk_lt HK2.out
        go_wp2_with fail
        refine (CL.out _ HT2.out).mono ?_
        rintro e w3 ⟨rfl, hb⟩
        have HB3 := hidden (bthen HB2.out hb)
        have HT3 := hidden (HT2.out.below hb)
        have HK3 := hidden (blk_later HK2.out hb)
        have HV3 := hidden (HV2.out.below hb)
        clear hb c0 l0
        have c0 := blk_cell HK3.out
        have l0 := blk_lt HK3.out
        go_wp2_with fail
        refine (CS.out _).mono ?_
        rintro e w4 ⟨rfl, hb⟩
        have HB4 := hidden (bthen HB3.out hb)
        have HT4 := hidden (HT3.out.below hb)
        have HK4 := hidden (blk_later HK3.out hb)
        have HV4 := hidden (HV3.out.below hb)
        clear hb c0 l0 CS
        have hb0 : bQ n f D (vtF es) bit 0 = startF bit := rfl
        generalize startF bit = b0 at *
        have HBQ0 := hidden hb0
        clear hb0
        unfold agB
        have HK5 := hidden (blk_later HK4.out (ballc w4 (.cells #[.int .i64 b0.1, .bool b0.2] 40)))
        have HG5 := hidden (blk_nw w4 #[.int .i64 b0.1, .bool b0.2] 40)
        have HC5 := hidden (Chn.alloc (Chn.refl (Nat.le_refl w4.heap.size)) (.cells #[.int .i64 b0.1, .bool b0.2] 40))
        have HT5 := hidden (HT4.out.below (ballc w4 (.cells #[.int .i64 b0.1, .bool b0.2] 40)))
        have c0 := blk_cell HK5.out
        have l0 := blk_lt HK5.out
        go_wp2_with fail
        refine (CG.out _ HT5.out).mono ?_
        rintro e w5 ⟨rfl, hb⟩
        have HG6 := hidden (blk_later HG5.out hb)
        have HC6 := hidden (HC5.out.below hb)
        clear hb c0 l0 HK5 HG5 HC5 HT5 CG
        go_wp2
        go_loopw [10, 11, 12] (fun p ev i wr => ∃ k : Nat, k ≤ es.length ∧ i = .int .i64 k ∧ p = .string (ba (lQ n f D (vtF es) l0q k)) ∧ (∃ z, ev = .int .i64 z ∧ (k = es.length → (z == 1) = ((bQ n f D (vtF es) bit k).1 == 1))) ∧ wr.heap[w4.heap.size]? = some (.cells #[.int .i64 (bQ n f D (vtF es) bit k).1, .bool (bQ n f D (vtF es) bit k).2] 40 (0, 0)) ∧ Chn w4.heap.size w4 wr) (fun _ _ i _ => es.length - (intV i).toNat)
        case atStart => exact ⟨0, Nat.zero_le _, rfl, rfl, ⟨-1, rfl, fun h => absurd h (by omega)⟩, by rw [HBQ0.out]; exact HG6.out, HC6.out⟩
        case round =>
          obtain ⟨k, hk, rfl, rfl, ⟨z, rfl, hzk⟩, hG, hC⟩ := hrel
          have HGr := hidden hG
          have HCr := hidden hC
          have HZK := hidden hzk
          have HTT := hidden (HT4.out.below hC.1)
          have HKT := hidden (blk_later HK4.out hC.1)
          have HVT := hidden (HV4.out.below hC.1)
          have c0 := blk_cell HKT.out
          have l0 := blk_lt HKT.out
          have g0 := blk_cell HGr.out
          have gl := blk_lt HGr.out
          clear hzk hG hC
          by_cases hlt : k < es.length
          · have i1 : (0 : Int) ≤ (k : Int) := by omega
            have i2 : (k : Int) < (es.length : Int) := by omega
            obtain ⟨vb, vo, hva, hvb, ev⟩ := HVT.out.at' k hlt
            subst hva
            have HRW := hidden (HVT.out.row k hlt)
            have HVF : Hid (vtF es k = (es.getD k rowD).2.2) := rfl
            have CMk := hidden (CM.out k hlt)
            generalize hrow : es.getD k rowD = rw at *
            obtain ⟨ea, ec, vts⟩ := rw
            dsimp only at *
            have HROW := hidden hrow
            clear hrow
            by_cases h20 : (20 : Int) < (vts.length : Int)
            · have d2 : decide ((20 : Int) < (vts.length : Int)) = true := decide_eq_true h20
              go_wp2_with fail
              refine (KN.out _).mono ?_
              rintro e w9 ⟨rfl, hb⟩
              have HB9 := hidden (bthen (bthen HB4.out HCr.out.1) hb)
              clear hb
              go_wp2
              go_ret
              exact ⟨rfl, HB9.out⟩
            · have d2 : decide ((20 : Int) < (vts.length : Int)) = false := decide_eq_false h20
              have CMm := hidden (CMk.out (by omega))
              obtain ⟨k1, hk1⟩ : ∃ k1 : Nat, k1 = k + 1 := ⟨_, rfl⟩
              have HK1 := hidden hk1
              have q1 : (k : Int) + 1 = (k1 : Int) := by omega
              have q2 : IntKind.i64.wrap (k1 : Int) = (k1 : Int) := IntWalk.i64_in _ (by omega)
              have hdd := HDD.out
              have n0 : ¬ d = 0 := by omega
              have n1 : 0 < d := by omega
              rw [← hk1] at CMm
              have HPZ : Hid ((ba (lQ n f D (vtF es) l0q k1)).size = es.length) := by
                show _ = _
                rw [ba_size, lQ_len, HLN.out]
              have HPB : Hid (∀ h : k1 < (ba (lQ n f D (vtF es) l0q k1)).size, (((ba (lQ n f D (vtF es) l0q k1))[k1]'h).toNat : Int) = 48 + codeF (bQ n f D (vtF es) bit k1)) := fun h => by
                have h1 : k1 < l0q.length := by rw [HLN.out, ← HPZ.out]; exact h
                have h2 := lQ_at (n := n) (f := f) (D := D) (vts := vtF es) (bit := bit) (HL0.out.trans (congrArg cB HBQ0.out.symm)) k1 h1
                rw [at8_lt (by rw [lQ_len]; exact h1)] at h2
                have h3 : (ba (lQ n f D (vtF es) l0q k1))[k1]'h = (lQ n f D (vtF es) l0q k1)[k1]'(by rw [lQ_len]; exact h1) := rfl
                rw [h3, h2]
                have h4 := codeF_bd (bQ n f D (vtF es) bit k1)
                unfold cB
                rw [UInt8.toNat_ofNat_of_lt' (show 48 + (codeF (bQ n f D (vtF es) bit k1)).toNat < 256 by omega)]
                omega
              have HEF : Hid (k1 = es.length → (endF (newB (hrdB 0 n f (vtF es k)) D (lQ n f D (vtF es) l0q k) es.length) == 1) = ((bQ n f D (vtF es) bit k1).1 == 1)) := fun h => by
                rw [← h, hk1, lQ_end (bit := bit) (HL0.out.trans (congrArg cB HBQ0.out.symm)) k (by rw [HLN.out]; exact hlt), endF_code (bQ_bd _)]
              generalize endF (newB (hrdB 0 n f (vtF es k)) D (lQ n f D (vtF es) l0q k) es.length) = ef at *
              have HCD := hidden (codeF_bd (bQ n f D (vtF es) bit k1))
              by_cases hm : k1 % D = 0
              · have hq0 : 1 ≤ k1 / D := Nat.div_pos (Nat.le_of_dvd (by omega) (Nat.dvd_of_mod_eq_zero hm)) (by omega)
                obtain ⟨xq, hxq⟩ : ∃ xq : Nat, xq = k1 / D := ⟨_, rfl⟩
                obtain ⟨x, hx⟩ : ∃ x : Nat, x = k1 / D - 1 := ⟨_, rfl⟩
                have hxle : xq ≤ k1 := by rw [hxq]; exact Nat.div_le_self _ _
                have HNW : Hid (bQ n f D (vtF es) bit k1 = stepF 0 n f (x : Int) (bQ n f D (vtF es) bit k) (bossQ vts x) (votesP vts x)) := by
                  show _ = _
                  rw [hk1]
                  show (if (k + 1) % D = 0 then _ else _) = _
                  rw [if_pos (by rw [← hk1]; exact hm), ← hk1, ← hx, HVF.out]
                have r1 : (k1 : Int).tmod d = 0 := by
                  rw [hdd, Int.tmod_eq_emod_of_nonneg (by omega)]
                  omega
                have r4 : (k1 : Int).tdiv d = (xq : Int) := by
                  rw [hdd, Int.tdiv_eq_ediv_of_nonneg (by omega), hxq]
                  rfl
                have r5 : IntKind.i64.wrap (xq : Int) = (xq : Int) := IntWalk.i64_in _ (by omega)
                have r6 : (xq : Int) - 1 = (x : Int) := by omega
                have r7 : IntKind.i64.wrap (x : Int) = (x : Int) := IntWalk.i64_in _ (by omega)
                obtain ⟨y, hy⟩ : ∃ y : Nat, y = x / 3 := ⟨_, rfl⟩
                have r8 : (x : Int).tdiv 3 = (y : Int) := by
                  rw [Int.tdiv_eq_ediv_of_nonneg (by omega), hy]
                  rfl
                have r9 : IntKind.i64.wrap (y : Int) = (y : Int) := IntWalk.i64_in _ (by omega)
                have r10 : (0 : Int) ≤ (y : Int) := by omega
                have hvl : (votesP vts x).length = vts.length := votesP_len vts x
                have hbo : bossQ vts x = (votesP vts x).getD y (-1) := by rw [hy]; rfl
                have hwx : (Lit.int .i64 (x : Int)).wf = true := wfNat x (by omega)
                have HVL := hidden hvl
                have HBO := hidden hbo
                have CKx := hidden (fun kk a2 c2 V h1 h4 => CKS.out (x : Int) (bQ n f D (vtF es) bit k) kk a2 vts.length c2 (votesP vts x) V h1 hwx (by omega) h4)
                have hzv : ∀ t ∈ vts, t.size ≤ 9223372036854775807 := fun t ht => HZ.out (ea, ec, vts) (by rw [← HROW.out, List.getD_eq_getElem?_getD, List.getElem?_eq_getElem hlt, Option.getD_some]; exact List.getElem_mem hlt) t ht
                have HZV := hidden hzv
                clear hm hdd hk1 hxq hx hy hvl hbo hq0 hxle hwx hzv
                obtain ⟨wX, hwX⟩ : ∃ wX, wX = wr := ⟨_, rfl⟩
                subst hwX
                go_wp2
                go_loopw [14, 15] (fun a i wr => ∃ j : Nat, j ≤ vts.length ∧ i = .int .i64 j ∧ wr.ownsRow wX.heap.size 3 1 a j (kInt.flat ((votesP vts x).take j)) ∧ Below wX.heap.size wX wr) (fun _ i _ => vts.length - (intV i).toNat)
                case atStart => exact ⟨0, Nat.zero_le _, rfl, World.ownsRow_nil _ _ _ _, Below.refl _ _⟩
                case round =>
                  obtain ⟨j, hj, rfl, hown, hB⟩ := hrel
                  have evX := (hB.cell (p := ⟨vb, vo + k, none⟩) hvb).trans ev
                  have hvX : vb < wr.heap.size := Nat.lt_of_lt_of_le hvb hB.size
                  have HBX := hidden hB
                  have HOX := hidden hown
                  by_cases hjl : j < vts.length
                  · have s1 : (0 : Int) ≤ (j : Int) := by omega
                    have s2 : (j : Int) < (vts.length : Int) := by omega
                    obtain ⟨bb, off, hea, hbb, e0⟩ := kStr_at (HRW.out.later hB) j hjl
                    subst hea
                    have hmem : vts.getD j noB ∈ vts := by rw [List.getD_eq_getElem?_getD, List.getElem?_eq_getElem hjl, Option.getD_some]; exact List.getElem_mem hjl
                    have CVt := hidden (fun V => rVote_any (vts.getD j noB) x V (HZV.out _ hmem))
                    have HTK : Hid ((votesP vts x).take (j + 1) = (votesP vts x).take j ++ [vdg 2 (vts.getD j noB) x]) := by
                      show _ = _
                      rw [List.take_add_one]
                      unfold votesP
                      rw [List.getElem?_map, List.getD_eq_getElem?_getD, List.getElem?_eq_getElem hjl]
                      rfl
                    clear hB hown hmem
                    generalize vdg 2 (vts.getD j noB) x = vd at *
                    generalize vts.getD j noB = tx at *
                    go_wp2_with fail
                    refine (CVt.out _).mono ?_
                    rintro e w6 ⟨rfl, rfl⟩
                    go_wp2_with (at_builtin; refine kInt.wpList_append _ rfl (.tmp 75) (.tmp 85) 22 rfl wX.heap.size 3 i0 (.int .i64 0) 8 Try.underlying22 hi hz0 hz1 hz2 rfl u14 j _ rfl (HOX.out.alloc _) (.slice (some ⟨wr.heap.size, 0, none⟩) 1 1) [vd] rfl (Kind.Lies.of_block (K := kInt) (es := [vd]) (heap_alloc_new wr _) (by simp only [maxLen, List.length_singleton]; omega)) (by simp only [maxLen, List.length_singleton]; omega) (by simp only [List.length_singleton]; omega) (by have := HBX.out.size; simp; omega) ?_; intro v3 w3x hown3 hgrow3 _)
                    have hB3 : Below wX.heap.size wX w3x := (HBX.out.alloc HBX.out.size _).grown hgrow3 (by have := HBX.out.size; simp; omega) (own_from HOX.out)
                    have hrow : w3x.ownsRow wX.heap.size 3 1 v3 (j + 1) (kInt.flat ((votesP vts x).take (j + 1))) := by
                      rw [HTK.out, Kind.flat_append]
                      exact hown3
                    go_roundw
                    case rel => exact ⟨j + 1, by omega, by go_num, hrow, hB3⟩
                    case measure => simp [intV]; omega
                  · have hjM : j = vts.length := by omega
                    subst hjM
                    have s2 : ¬ (vts.length : Int) < (vts.length : Int) := by omega
                    have hdt : (votesP vts x).take vts.length = votesP vts x := by rw [← HVL.out]; exact List.take_length
                    rw [hdt] at hown
                    obtain ⟨xa, xc, rfl⟩ := own_slice hown
                    have hX : kInt.Lies wr.heap.size wr (.slice xa vts.length xc) (votesP vts x) := by
                      have h := Kind.Lies.of_own (K := kInt) (base := wX.heap.size) (e := 3) (v := .slice xa vts.length xc) (es := votesP vts x) (by rw [HVL.out]; exact hown)
                      exact h
                    have HX := hidden hX
                    have hKW := blk_later HKT.out hB
                    have hGW := blk_later HGr.out hB
                    have HCW := hidden (HCr.out.below hB)
                    have HTW := hidden (HTT.out.below hB)
                    have cW := blk_cell hKW
                    have lW := blk_lt hKW
                    have gW := blk_cell hGW
                    have fW := blk_frozen hGW
                    have lgW := blk_lt hGW
                    have HGW := hidden hGW
                    clear hB hown hX hdt HOX c0 l0 g0 gl ev hvb hKW hGW HGr HCr HTT HKT HVT
                    by_cases hyM : y < vts.length
                    · have s3 : (y : Int) < (vts.length : Int) := by omega
                      obtain ⟨bb, off, hxa, hbb, e0⟩ := kInt_at HX.out y (by rw [HVL.out]; exact hyM)
                      subst hxa
                      have hkv : bossQ vts x = (votesP vts x)[y]'(by rw [HVL.out]; exact hyM) := by
                        rw [HBO.out, List.getD_eq_getElem?_getD, List.getElem?_eq_getElem (by rw [HVL.out]; exact hyM)]
                        rfl
                      rw [← hkv] at e0
                      clear hkv
                      obtain ⟨kv, hkv2⟩ : ∃ kv, kv = bossQ vts x := ⟨_, rfl⟩
                      rw [← hkv2] at e0
                      have HKV := hidden hkv2.symm
                      clear hkv2
                      have CK1 := hidden (CKx.out kv _ _ wr HTW.out HX.out)
                      rw [HNW.out] at HPB HEF HCD
                      have HNW2 := HNW
                      rw [show bossQ vts x = kv from HKV.out] at HPB HEF HCD HNW2
                      clear HNW CKx
                      generalize stepF 0 n f (x : Int) (bQ n f D (vtF es) bit k) kv (votesP vts x) = bn at *
                      go_wp2_with fail
                      refine CK1.out.mono ?_
                      rintro e w8 ⟨rfl, hb⟩
                      have h8 := blk_later HGW.out hb
                      have c8 := blk_cell h8
                      have f8 := blk_frozen h8
                      have l8 := blk_lt h8
                      have HG8 := hidden h8
                      have HC8 := hidden (HCW.out.below hb)
                      clear hb h8 cW lW gW fW lgW CK1 e0 evX hvX hbb
                      have HGr := hidden (set2T HG8.out (.int .i64 bn.1) (.bool bn.2))
                      have HCr := hidden ((HC8.out.set w4.heap.size 0 (Nat.le_refl _) (.int .i64 bn.1)).set w4.heap.size 1 (Nat.le_refl _) (.bool bn.2))
                      have HTT := hidden (HT4.out.below HCr.out.1)
                      have HKT := hidden (blk_later HK4.out HCr.out.1)
                      have HVT := hidden (HV4.out.below HCr.out.1)
                      obtain ⟨vb2, vo2, hva2, hvb, ev⟩ := HVT.out.at' k hlt
                      cases hva2
                      rw [HROW.out] at ev
                      dsimp only at ev
                      have c0 := blk_cell HKT.out
                      have l0 := blk_lt HKT.out
                      have g0 := blk_cell HGr.out
                      have gl := blk_lt HGr.out
                      unfold agB
                      have HNW3 := HNW2
                      clear HNW2
                      obtain ⟨bv, bs⟩ := bn
                      have CC := hidden (fun V => rCode_any (bv, bs) V)
                      generalize hpo : ba (lQ n f D (vtF es) l0q k) = po at *
                      generalize hpn : ba (lQ n f D (vtF es) l0q k1) = pn at *
                      have HPN := hidden hpn
                      clear hpo hpn
                      generalize codeF (bv, bs) = cd at *
                      dsimp only at *
                      go_wp2
                      generalize (w8.setCell ⟨w4.heap.size, 0, none⟩ (.int .i64 bv)).setCell ⟨w4.heap.size, 1, none⟩ (.bool bs) = w9 at *
                      clear c8 f8 l8
                      refine wp_region_quiet_below (by kernel_rfl) (by kernel_rfl) ?_
                      repeat (go_big_quiet_step (first | (go_at_call 15; exact Calls.regrown_of (CMm.out _ (HTT.out.below (below_regrown _ _ _)) (HVT.out.below (below_regrown _ _ _))))))
                      refine wpQuiet_nil ?_
                      intro w7 hw7
                      have HG7 := hidden (blk_later HGr.out (rg_below hw7))
                      have HC7 := hidden (HCr.out.below (rg_below hw7))
                      clear hw7 c0 l0 g0 gl ev hvb
                      have g7 := blk_cell HG7.out
                      have gl7 := blk_lt HG7.out
                      have hpz := HPZ.out
                      have e0 : ((es.length : Int) != (es.length : Int)) = false := by simp
                      have hcd := HCD.out
                      by_cases hkL : k1 < es.length
                      · have j1 : (k1 : Int) < (es.length : Int) := by omega
                        have j2 : k1 < pn.size := by omega
                        have j3 : (0 : Int) ≤ (k1 : Int) := by omega
                        have j4 := HPB.out j2
                        have j5 : IntKind.u8.wrap cd = cd := IntWalk.u8_in _ (by omega)
                        have j6 : IntKind.i64.wrap cd = cd := IntWalk.i64_in _ (by omega)
                        have j7 : (48 : Int) + cd - 48 = cd := by omega
                        have j8 : (cd != cd) = false := by simp
                        clear hcd
                        go_wp2
                        refine wp_region_quiet_below (by kernel_rfl) (by kernel_rfl) ?_
                        repeat (go_big_quiet_step (first | (go_at_call 22; exact Calls.regrown_of (CC.out _))))
                        refine wpQuiet_nil ?_
                        intro w8 hw8
                        have HQ := hidden (And.intro (blk_later HG7.out (rg_below hw8)) (HC7.out.below (rg_below hw8)))
                        clear hw8
                        go_wp2
                        go_roundw
                        case rel => exact ⟨k + 1, by omega, by go_num, by rw [← HK1.out, HPN.out], ⟨ef, rfl, fun h => absurd h (by have := HK1.out; omega)⟩, by rw [← HK1.out, HNW3.out]; exact HQ.out.1, HQ.out.2⟩
                        case measure => simp [intV]; omega
                      · have j1 : ¬ (k1 : Int) < (es.length : Int) := by omega
                        have j1' : decide ((k1 : Int) < (es.length : Int)) = false := decide_eq_false j1
                        clear hcd
                        go_wp2
                        refine wp_region_quiet_below (by kernel_rfl) (by kernel_rfl) ?_
                        repeat (go_big_quiet_step (first | (go_at_call 22; exact Calls.regrown_of (CC.out _))))
                        refine wpQuiet_nil ?_
                        intro w8 hw8
                        have HQ := hidden (And.intro (blk_later HG7.out (rg_below hw8)) (HC7.out.below (rg_below hw8)))
                        clear hw8
                        go_wp2
                        go_roundw
                        case rel => exact ⟨k + 1, by omega, by go_num, by rw [← HK1.out, HPN.out], ⟨ef, rfl, fun h => by rw [← HK1.out, HNW3.out]; exact HEF.out (by have := HK1.out; omega)⟩, by rw [← HK1.out, HNW3.out]; exact HQ.out.1, HQ.out.2⟩
                        case measure => simp [intV]; omega
                    · have s3 : ¬ (y : Int) < (vts.length : Int) := by omega
                      have hkv : bossQ vts x = -1 := by
                        rw [HBO.out, List.getD_eq_getElem?_getD, List.getElem?_eq_none (by rw [HVL.out]; omega)]
                        rfl
                      have HKV := hidden hkv
                      clear hkv
                      have CK1 := hidden (CKx.out (-1) _ _ wr HTW.out HX.out)
                      rw [HNW.out] at HPB HEF HCD
                      have HNW2 := HNW
                      rw [show bossQ vts x = (-1) from HKV.out] at HPB HEF HCD HNW2
                      clear HNW CKx
                      generalize stepF 0 n f (x : Int) (bQ n f D (vtF es) bit k) (-1) (votesP vts x) = bn at *
                      go_wp2_with fail
                      refine CK1.out.mono ?_
                      rintro e w8 ⟨rfl, hb⟩
                      have h8 := blk_later HGW.out hb
                      have c8 := blk_cell h8
                      have f8 := blk_frozen h8
                      have l8 := blk_lt h8
                      have HG8 := hidden h8
                      have HC8 := hidden (HCW.out.below hb)
                      clear hb h8 cW lW gW fW lgW CK1 evX hvX
                      have HGr := hidden (set2T HG8.out (.int .i64 bn.1) (.bool bn.2))
                      have HCr := hidden ((HC8.out.set w4.heap.size 0 (Nat.le_refl _) (.int .i64 bn.1)).set w4.heap.size 1 (Nat.le_refl _) (.bool bn.2))
                      have HTT := hidden (HT4.out.below HCr.out.1)
                      have HKT := hidden (blk_later HK4.out HCr.out.1)
                      have HVT := hidden (HV4.out.below HCr.out.1)
                      obtain ⟨vb2, vo2, hva2, hvb, ev⟩ := HVT.out.at' k hlt
                      cases hva2
                      rw [HROW.out] at ev
                      dsimp only at ev
                      have c0 := blk_cell HKT.out
                      have l0 := blk_lt HKT.out
                      have g0 := blk_cell HGr.out
                      have gl := blk_lt HGr.out
                      unfold agB
                      have HNW3 := HNW2
                      clear HNW2
                      obtain ⟨bv, bs⟩ := bn
                      have CC := hidden (fun V => rCode_any (bv, bs) V)
                      generalize hpo : ba (lQ n f D (vtF es) l0q k) = po at *
                      generalize hpn : ba (lQ n f D (vtF es) l0q k1) = pn at *
                      have HPN := hidden hpn
                      clear hpo hpn
                      generalize codeF (bv, bs) = cd at *
                      dsimp only at *
                      go_wp2
                      generalize (w8.setCell ⟨w4.heap.size, 0, none⟩ (.int .i64 bv)).setCell ⟨w4.heap.size, 1, none⟩ (.bool bs) = w9 at *
                      clear c8 f8 l8
                      refine wp_region_quiet_below (by kernel_rfl) (by kernel_rfl) ?_
                      repeat (go_big_quiet_step (first | (go_at_call 15; exact Calls.regrown_of (CMm.out _ (HTT.out.below (below_regrown _ _ _)) (HVT.out.below (below_regrown _ _ _))))))
                      refine wpQuiet_nil ?_
                      intro w7 hw7
                      have HG7 := hidden (blk_later HGr.out (rg_below hw7))
                      have HC7 := hidden (HCr.out.below (rg_below hw7))
                      clear hw7 c0 l0 g0 gl ev hvb
                      have g7 := blk_cell HG7.out
                      have gl7 := blk_lt HG7.out
                      have hpz := HPZ.out
                      have e0 : ((es.length : Int) != (es.length : Int)) = false := by simp
                      have hcd := HCD.out
                      by_cases hkL : k1 < es.length
                      · have j1 : (k1 : Int) < (es.length : Int) := by omega
                        have j2 : k1 < pn.size := by omega
                        have j3 : (0 : Int) ≤ (k1 : Int) := by omega
                        have j4 := HPB.out j2
                        have j5 : IntKind.u8.wrap cd = cd := IntWalk.u8_in _ (by omega)
                        have j6 : IntKind.i64.wrap cd = cd := IntWalk.i64_in _ (by omega)
                        have j7 : (48 : Int) + cd - 48 = cd := by omega
                        have j8 : (cd != cd) = false := by simp
                        clear hcd
                        go_wp2
                        refine wp_region_quiet_below (by kernel_rfl) (by kernel_rfl) ?_
                        repeat (go_big_quiet_step (first | (go_at_call 22; exact Calls.regrown_of (CC.out _))))
                        refine wpQuiet_nil ?_
                        intro w8 hw8
                        have HQ := hidden (And.intro (blk_later HG7.out (rg_below hw8)) (HC7.out.below (rg_below hw8)))
                        clear hw8
                        go_wp2
                        go_roundw
                        case rel => exact ⟨k + 1, by omega, by go_num, by rw [← HK1.out, HPN.out], ⟨ef, rfl, fun h => absurd h (by have := HK1.out; omega)⟩, by rw [← HK1.out, HNW3.out]; exact HQ.out.1, HQ.out.2⟩
                        case measure => simp [intV]; omega
                      · have j1 : ¬ (k1 : Int) < (es.length : Int) := by omega
                        have j1' : decide ((k1 : Int) < (es.length : Int)) = false := decide_eq_false j1
                        clear hcd
                        go_wp2
                        refine wp_region_quiet_below (by kernel_rfl) (by kernel_rfl) ?_
                        repeat (go_big_quiet_step (first | (go_at_call 22; exact Calls.regrown_of (CC.out _))))
                        refine wpQuiet_nil ?_
                        intro w8 hw8
                        have HQ := hidden (And.intro (blk_later HG7.out (rg_below hw8)) (HC7.out.below (rg_below hw8)))
                        clear hw8
                        go_wp2
                        go_roundw
                        case rel => exact ⟨k + 1, by omega, by go_num, by rw [← HK1.out, HPN.out], ⟨ef, rfl, fun h => by rw [← HK1.out, HNW3.out]; exact HEF.out (by have := HK1.out; omega)⟩, by rw [← HK1.out, HNW3.out]; exact HQ.out.1, HQ.out.2⟩
                        case measure => simp [intV]; omega
              · have HNW : Hid (bQ n f D (vtF es) bit k1 = bQ n f D (vtF es) bit k) := by
                  show _ = _
                  rw [hk1]
                  exact if_neg (by rw [← hk1]; exact hm)
                obtain ⟨mm, hmm⟩ : ∃ mm : Nat, mm = k1 % D := ⟨_, rfl⟩
                have r1 : (k1 : Int).tmod d = (mm : Int) := by
                  rw [hdd, Int.tmod_eq_emod_of_nonneg (by omega), hmm]
                  rfl
                have r2 : IntKind.i64.wrap (mm : Int) = (mm : Int) := IntWalk.i64_in _ (by have := Nat.mod_lt k1 (show 0 < D by omega); omega)
                have r3 : ((mm : Int) == 0) = false := by simp; omega
                rw [HNW.out] at HPB HEF HCD
                clear hm hmm hdd hk1
                have HNW2 := HNW
                generalize hbk : bQ n f D (vtF es) bit k = bk at *
                have HNW3 := hidden (show bQ n f D (vtF es) bit k1 = bk from HNW2.out)
                clear hbk HNW2
                obtain ⟨bv, bs⟩ := bk
                have CC := hidden (fun V => rCode_any (bv, bs) V)
                generalize hpo : ba (lQ n f D (vtF es) l0q k) = po at *
                generalize hpn : ba (lQ n f D (vtF es) l0q k1) = pn at *
                have HPN := hidden hpn
                clear hpo hpn
                generalize codeF (bv, bs) = cd at *
                dsimp only at *
                go_wp2
                refine wp_region_quiet_below (by kernel_rfl) (by kernel_rfl) ?_
                repeat (go_big_quiet_step (first | (go_at_call 15; exact Calls.regrown_of (CMm.out _ (HTT.out.below (below_regrown _ _ _)) (HVT.out.below (below_regrown _ _ _))))))
                refine wpQuiet_nil ?_
                intro w7 hw7
                have HG7 := hidden (blk_later HGr.out (rg_below hw7))
                have HC7 := hidden (HCr.out.below (rg_below hw7))
                clear hw7 c0 l0 g0 gl ev hvb
                have g7 := blk_cell HG7.out
                have gl7 := blk_lt HG7.out
                have hpz := HPZ.out
                have e0 : ((es.length : Int) != (es.length : Int)) = false := by simp
                have hcd := HCD.out
                by_cases hkL : k1 < es.length
                · have j1 : (k1 : Int) < (es.length : Int) := by omega
                  have j2 : k1 < pn.size := by omega
                  have j3 : (0 : Int) ≤ (k1 : Int) := by omega
                  have j4 := HPB.out j2
                  have j5 : IntKind.u8.wrap cd = cd := IntWalk.u8_in _ (by omega)
                  have j6 : IntKind.i64.wrap cd = cd := IntWalk.i64_in _ (by omega)
                  have j7 : (48 : Int) + cd - 48 = cd := by omega
                  have j8 : (cd != cd) = false := by simp
                  clear hcd
                  go_wp2
                  refine wp_region_quiet_below (by kernel_rfl) (by kernel_rfl) ?_
                  repeat (go_big_quiet_step (first | (go_at_call 22; exact Calls.regrown_of (CC.out _))))
                  refine wpQuiet_nil ?_
                  intro w8 hw8
                  have HQ := hidden (And.intro (blk_later HG7.out (rg_below hw8)) (HC7.out.below (rg_below hw8)))
                  clear hw8
                  go_wp2
                  go_roundw
                  case rel => exact ⟨k + 1, by omega, by go_num, by rw [← HK1.out, HPN.out], ⟨ef, rfl, fun h => absurd h (by have := HK1.out; omega)⟩, by rw [← HK1.out, HNW3.out]; exact HQ.out.1, HQ.out.2⟩
                  case measure => simp [intV]; omega
                · have j1 : ¬ (k1 : Int) < (es.length : Int) := by omega
                  have j1' : decide ((k1 : Int) < (es.length : Int)) = false := decide_eq_false j1
                  clear hcd
                  go_wp2
                  refine wp_region_quiet_below (by kernel_rfl) (by kernel_rfl) ?_
                  repeat (go_big_quiet_step (first | (go_at_call 22; exact Calls.regrown_of (CC.out _))))
                  refine wpQuiet_nil ?_
                  intro w8 hw8
                  have HQ := hidden (And.intro (blk_later HG7.out (rg_below hw8)) (HC7.out.below (rg_below hw8)))
                  clear hw8
                  go_wp2
                  go_roundw
                  case rel => exact ⟨k + 1, by omega, by go_num, by rw [← HK1.out, HPN.out], ⟨ef, rfl, fun h => by rw [← HK1.out, HNW3.out]; exact HEF.out (by have := HK1.out; omega)⟩, by rw [← HK1.out, HNW3.out]; exact HQ.out.1, HQ.out.2⟩
                  case measure => simp [intV]; omega
          · obtain rfl : k = es.length := by omega
            have i2 : ¬ (es.length : Int) < (es.length : Int) := by omega
            have hj := HZK.out rfl
            have HB8 := hidden (bthen HB4.out HCr.out.1)
            generalize bQ n f D (vtF es) bit es.length = bl at *
            obtain ⟨bv, bs⟩ := bl
            dsimp only at *
            go_wp2_with fail
            refine (KN.out _).mono ?_
            rintro e w9 ⟨rfl, hb⟩
            have HB9 := hidden (bthen HB8.out hb)
            clear hb
            go_wp2
            go_ret
            exact ⟨rfl, HB9.out⟩
      · have d0 : ((es.length : Int) != (L : Int)) = true := by
          rw [bne_iff_ne]
          omega
        clear hT hE hR hL hLD hd hd1 hd0 hsl
        go_enter Try.func5, Try.ntmps5
        go_wp2_with fail
        refine (CP.out _ HT.out).mono ?_
        rintro e w2 ⟨rfl, hb⟩
        have HB2 := hidden (bthen HB0.out hb)
        have HT2 := hidden (HT.out.below hb)
        have HK2 := hidden (blk_later HK.out hb)
        have HV2 := hidden (HV.out.below hb)
        clear hb
        have c0 := blk_cell HK2.out
        have l0 := blk_lt HK2.out
        go_wp2_with fail
        refine (CL.out _ HT2.out).mono ?_
        rintro e w3 ⟨rfl, hb⟩
        have HB3 := hidden (bthen HB2.out hb)
        have HT3 := hidden (HT2.out.below hb)
        have HK3 := hidden (blk_later HK2.out hb)
        have HV3 := hidden (HV2.out.below hb)
        clear hb c0 l0
        have c0 := blk_cell HK3.out
        have l0 := blk_lt HK3.out
        go_wp2_with fail
        refine (KN.out _).mono ?_
        rintro e w9 ⟨rfl, hb⟩
        have HB9 := hidden (bthen HB3.out hb)
        clear hb
        go_wp2
        go_ret
        exact ⟨rfl, HB9.out⟩
  · have j1 : (plainE n f d p r dr o sl md fr zs != 0) = true := bne_iff_ne.2 hE
    generalize plainE n f d p r dr o sl md fr zs = E at *
    clear hT hE
    go_enter Try.func5, Try.ntmps5
    go_wp2_with fail
    refine (CP.out _ HT.out).mono ?_
    rintro e w2 ⟨rfl, hb⟩
    have HB2 := hidden (bthen HB0.out hb)
    have HT2 := hidden (HT.out.below hb)
    have HK2 := hidden (blk_later HK.out hb)
    have HV2 := hidden (HV.out.below hb)
    clear hb
    have c0 := blk_cell HK2.out
    have l0 := blk_lt HK2.out
    go_wp2_with fail
    refine (KN.out _).mono ?_
    rintro e w9 ⟨rfl, hb⟩
    have HB9 := hidden (bthen HB2.out hb)
    clear hb
    go_wp2
    go_ret
    exact ⟨rfl, HB9.out⟩
end Go.Proofs.Ytkolhbacgoafcaa.LawPipeAlone
