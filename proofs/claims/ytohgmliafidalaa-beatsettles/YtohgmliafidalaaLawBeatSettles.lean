/- The walk of the statement BeatSettles: the call returns true, and makes at most new memory; conditions: rows lie where they say, numbers and lengths fit int. -/
import Derived.Test.YtohgmliafidalaaBj
import Derived.Test.YtohgmliafidalaaBk
namespace Go.Proofs.Ytohgmliafidalaa.LawBeatSettles
open Go.ChangeShapes Go.WideShapes Go.ChangeAt Go.RowKit
set_option linter.unusedVariables false
attribute [local go_sem] cell_rg

theorem least_no (fa : Nat → Bool) : ∀ m, fa m = false → ∃ k, k ≤ m ∧ fa k = false ∧ ∀ j, j < k → fa j = true := by
  intro m
  induction m using Nat.strongRecOn with
  | _ m ih =>
    intro h
    by_cases c : ∃ j, j < m ∧ fa j = false
    · obtain ⟨j, hj, hf⟩ := c
      obtain ⟨k, hk, h1, h2⟩ := ih j hj hf
      exact ⟨k, by omega, h1, h2⟩
    · exact ⟨m, Nat.le_refl _, h, fun j hj => by
        cases hb : fa j with
        | true => rfl
        | false => exact absurd ⟨j, hj, hb⟩ c⟩
theorem row_byte (N : Nat) (g : Nat → UInt8) (i : Nat) (hi : i < N) (h : i < (ba ((List.range N).map g)).size) : (ba ((List.range N).map g))[i]'h = g i := by
  have : (ba ((List.range N).map g))[i]'h = ((List.range N).map g)[i]'(by simp; exact hi) := rfl
  rw [this]
  simp
theorem row_prt (N : Nat) (g : Nat → UInt8) (i : Nat) (hi : i < N) : prt (ba ((List.range N).map g)) i = ba [g i] := by
  rw [prt_in (by rw [rangeB_sz]; exact hi)]
  apply ByteArray.ext
  rw [ByteArray.data_extract]
  simp only [ba]
  rw [List.extract_toArray, List.extract_eq_take_drop]
  congr 1
  rw [show i + 1 - i = 1 by omega, List.drop_eq_getElem_cons (by simp; exact hi)]
  simp
theorem dgE_num (b : Bool) : ((dgE b).toNat : Int) = numD b := by cases b <;> rfl
theorem kStr_rows {n₀ : Nat} {W : World} {ad : Option Addr} {len cap : Nat} {hs : List ByteArray} (h : kStr.Lies n₀ W (.slice ad len cap) hs) (g : Nat → ByteArray) (hg : ∀ j, j < hs.length → hs.getD j noB = g j) : ∀ j, j < hs.length → ∃ b off : Nat, ad = some ⟨b, off, none⟩ ∧ b < n₀ ∧ W.cell? ⟨b, off + j, none⟩ = some (.string (g j)) := by
  intro j hj
  obtain ⟨b, off, he, hb, hc⟩ := kStr_at h j hj
  exact ⟨b, off, he, hb, by rw [hc, hg j hj]⟩

set_option maxRecDepth 100000 in
set_option maxHeartbeats 40000000 in
theorem walk_main (N : Nat) (f d p r dr o sl md fr : Int) (ad : Option Addr) (cap : Nat) (zs : List Int) (PL SL FL LL : Nat) (a1 : Option Addr) (c1 : Nat) (pipes : List ByteArray) (a2 : Option Addr) (c2 : Nat) (since : List Int) (a3 : Option Addr) (c3 : Nat) (fs : List Int) (a4 : Option Addr) (c4 : Nat) (lies : List ByteArray) (mo : Nat) (w : World)
    (hPL : PL = pipes.length) (hSL : SL = since.length) (hFL : FL = fs.length) (hLL : LL = lies.length)
    (hl : zs.length ≤ 9223372036854775807) (hT : Tab w ad zs) (hE : plainE (N : Int) f d p r dr o sl md fr zs = 0) (hp : PL = N) (hV1 : kStr.Lies w.heap.size w (.slice a1 PL c1) pipes) (hz1 : ∀ t ∈ pipes, t.size ≤ 9223372036854775807) (hs : SL = N) (hV2 : kInt.Lies w.heap.size w (.slice a2 SL c2) since) (hz2 : ∀ z ∈ since, -9223372036854775808 ≤ z ∧ z ≤ 9223372036854775807)
    (hf : (FL : Int) ≤ f) (hV3 : kInt.Lies w.heap.size w (.slice a3 FL c3) fs) (hll : LL ≤ 1000) (hV4 : kStr.Lies w.heap.size w (.slice a4 LL c4) lies) (hz4 : ∀ t ∈ lies, t.size ≤ 9223372036854775807) (hmo : mo ≤ 100) :
    Calls Try.prog 3 #[.agg #[.int .i64 (N : Int), .int .i64 f, .int .i64 d, .int .i64 p, .int .i64 r, .int .i64 dr, .int .i64 o, .int .i64 sl, .int .i64 md, .int .i64 fr, .slice ad zs.length cap, .slice a1 PL c1, .slice a2 SL c2, .slice a3 FL c3, .slice a4 LL c4], .int .i64 (mo : Int)] w fun e w' => e = .returned (.bool true) ∧ Below w.heap.size w w' := by
  obtain ⟨n1, n2, f1, f2, fn, d1, d4, p1, p4, _⟩ := plainE_ok hE
  obtain ⟨R, D, L, hR, hL, hLD, hR15, hL60, _, hRR, _⟩ := len_nat (N : Int) f d p r dr o sl md fr ad cap zs
  obtain ⟨hR3, hdD, hD1, hD4⟩ := hRR hE
  obtain ⟨F, hF⟩ : ∃ F : Nat, f = (F : Int) := ⟨f.toNat, by omega⟩
  obtain ⟨P, hP⟩ : ∃ P : Nat, p = (P : Int) := ⟨p.toNat, by
    have := plainE_p hE
    omega⟩
  have hfac : facL (faI fs) N ≤ F := Nat.le_trans (facL_le N fs) (by omega)
  have hFN : 3 * F < N := by omega
  obtain ⟨mm, hmm1, hmm2⟩ := one_honestG hfac hFN
  obtain ⟨m, hm1, hm2, hm3⟩ := least_no _ _ hmm2
  have hmN : m < N := by omega
  have hR4 : R = 3 * (F + 1) := by omega
  have hper : 2 * (3 * (F + 1) * D) < P := by
    have e : 6 * ((f + 1) * d) + 1 ≤ p := p1
    rw [hF, hdD, hP] at e
    have e2 : 2 * (3 * (F + 1) * D) = 6 * ((F + 1) * D) := by rw [Nat.mul_assoc 3 (F + 1) D]; omega
    rw [e2]
    have e3 : 6 * (((F : Int) + 1) * (D : Int)) = ((6 * ((F + 1) * D) : Nat) : Int) := by simp
    omega
  have hP1 : 1 ≤ P := by omega
  have hLf : (3 * (f + 1) * d : Int) = (L : Int) := by rw [← hL, hE, gate_ok]
  obtain ⟨u, hu, hset⟩ := run_settles (N := N) (f := f) (d := d) (p := p) (r := r) (dr := dr) (o := o) (sl := sl) (md := md) (fr := fr) (ad := ad) (cap := cap) (zs := zs) (D := D) (L := L) (R := R) (F := F) (P := P) (fa := faI fs) (lies := lies) (pipes := pipes) (since := since) hE hF hP hR4 hLD hD1 hfac hFN hper
  obtain ⟨Fm, hFm⟩ : ∃ Fm : Nat, Fm = 1 + 4 * L + 2 * P := ⟨_, rfl⟩
  have huF : u ≤ Fm := by omega
  have hFm2 : Fm ≤ 1100 := by omega
  have CS : ∀ V, Tab V ad zs → Calls Try.prog 11 #[.agg #[.int .i64 (N : Int), .int .i64 f, .int .i64 d, .int .i64 p, .int .i64 r, .int .i64 dr, .int .i64 o, .int .i64 sl, .int .i64 md, .int .i64 fr, .slice ad zs.length cap]] V fun e w' => e = .returned (.int .i64 (Fm : Int)) ∧ Below V.heap.size V w' := fun V h => by
    have z := RSettle_any (N : Int) f d p r dr o sl md fr ad cap zs V hl h
    rw [hE, gate_ok, hLf, hP, show (1 + 4 * (L : Int) + 2 * (P : Int)) = (Fm : Int) by omega, ← hP] at z
    exact z
  obtain ⟨e, he⟩ : ∃ e : Nat → Nat → Bool, e = fun t i => tkE N f d p r dr o sl md fr ad cap zs D L (faI fs) lies (runQ N f d p r dr o sl md fr ad cap zs D L R (faI fs) lies pipes since t) t i := ⟨_, rfl⟩
  have hes : ∀ i, i < N → faI fs i = false → ∀ t, u ≤ t → (e t i = true ↔ (t - u) % P = 0) := by rw [he]; exact hset
  have CRun : ∀ V, Tab V ad zs → kStr.Lies V.heap.size V (.slice a1 PL c1) pipes → kInt.Lies V.heap.size V (.slice a2 SL c2) since → kInt.Lies V.heap.size V (.slice a3 FL c3) fs → kStr.Lies V.heap.size V (.slice a4 LL c4) lies →
      Calls Try.prog 12 #[.agg #[.int .i64 (N : Int), .int .i64 f, .int .i64 d, .int .i64 p, .int .i64 r, .int .i64 dr, .int .i64 o, .int .i64 sl, .int .i64 md, .int .i64 fr, .slice ad zs.length cap, .slice a1 PL c1, .slice a2 SL c2, .slice a3 FL c3, .slice a4 LL c4], .int .i64 ((Fm : Int) + (mo : Int))] V fun x w' => ∃ a c, x = .returned (.slice a (Fm + mo) c) ∧ (∀ j, j < Fm + mo → ∃ b off : Nat, a = some ⟨b, off, none⟩ ∧ b < w'.heap.size ∧ w'.cell? ⟨b, off + j, none⟩ = some (.string (ba ((List.range N).map fun i => dgE (e j i))))) ∧ Below V.heap.size V w' := fun V h h1 h2 h3 h4 => by
    subst hPL hSL hFL hLL
    have z := runs_any N f d p r dr o sl md fr ad cap zs D L R (Fm + mo) a1 c1 pipes a2 c2 since a3 c3 fs a4 c4 lies V hl h hR hL hR15 hL60 hLD hdD hD1 hD4 (by omega) (by omega) (by omega) p4 hp (by rw [← hp]; exact h1) hz1 hs (by rw [← hs]; exact h2) hz2 (by omega) h3 (by omega) h4 hz4
    rw [hp, hs]
    rw [show ((Fm + mo : Nat) : Int) = (Fm : Int) + (mo : Int) by omega] at z
    refine z.mono ?_
    rintro x w' ⟨a, c, rfl, hL, hb⟩
    have hol : (runQ N f d p r dr o sl md fr ad cap zs D L R (faI fs) lies pipes since (Fm + mo)).out.length = Fm + mo := runQ_out_len _
    refine ⟨a, c, rfl, fun j hj => ?_, hb⟩
    have q := kStr_rows hL (fun j => ba ((List.range N).map fun i => dgE (e j i))) (fun j hj => by rw [runQ_out_at _ _ (by omega), he]; rfl) j (by omega)
    exact q
  have CReg : ∀ V (s : ByteArray), s.size ≤ 1000000 → (∀ k (h : k < s.size), Fm ≤ k → ((s[k]'h).toNat : Int) = numD (e k m)) → Calls Try.prog 14 #[.agg #[.int .i64 (N : Int), .int .i64 f, .int .i64 d, .int .i64 p, .int .i64 r, .int .i64 dr, .int .i64 o, .int .i64 sl, .int .i64 md, .int .i64 fr, .slice ad zs.length cap], .string s, .int .i64 (Fm : Int)] V fun x w' => x = .returned (.bool true) ∧ Below V.heap.size V w' := fun V s hs1 hs2 => regular_any (N : Int) f d p r dr o sl md fr ad cap zs P u Fm hP hP1 (by omega) (fun t => e t m) huF (hes m hmN hm2) s hs1 hs2 (by omega) V
  have CI : ∀ (k : Nat) V, kInt.Lies V.heap.size V (.slice a3 FL c3) fs → Calls Try.prog 13 #[.slice a3 FL c3, .int .i64 (k : Int)] V fun x w' => x = .returned (.bool (faI fs k)) ∧ V = w' := fun k V hv => by
    subst hFL
    exact rIn_any (k : Int) a3 c3 fs (by omega) V hv
  have hcom : ∀ t i, Fm ≤ t → i < N → faI fs i = false → e t i = e t m := fun t i ht hi hfi => by
    have h1 := hes i hi hfi t (by omega)
    have h2 := hes m hmN hm2 t (by omega)
    cases h3 : e t i <;> cases h4 : e t m <;> simp_all
  have KN := hidden (fun V => known18_any V)
  have CS := hidden CS
  have CRun := hidden CRun
  have CReg := hidden CReg
  have CI := hidden CI
  have HCOM := hidden hcom
  have HM3 := hidden hm3
  have HM2 := hidden hm2
  have HB0 := hidden (ballc w (.cells #[.int .i64 (N : Int), .int .i64 f, .int .i64 d, .int .i64 p, .int .i64 r, .int .i64 dr, .int .i64 o, .int .i64 sl, .int .i64 md, .int .i64 fr, .slice ad zs.length cap, .slice a1 PL c1, .slice a2 SL c2, .slice a3 FL c3, .slice a4 LL c4] 27))
  have HK := hidden (blk_nw w #[.int .i64 (N : Int), .int .i64 f, .int .i64 d, .int .i64 p, .int .i64 r, .int .i64 dr, .int .i64 o, .int .i64 sl, .int .i64 md, .int .i64 fr, .slice ad zs.length cap, .slice a1 PL c1, .slice a2 SL c2, .slice a3 FL c3, .slice a4 LL c4] 27)
  have HT := hidden (hT.below HB0.out)
  have HV1 := hidden (hV1.later HB0.out)
  have HV2 := hidden (hV2.later HB0.out)
  have HV3 := hidden (hV3.later HB0.out)
  have HV4 := hidden (hV4.later HB0.out)
  have HP := hidden (refPlain_any (N : Int) f d p r dr o sl md fr ad cap zs (w.alloc (.cells #[.int .i64 (N : Int), .int .i64 f, .int .i64 d, .int .i64 p, .int .i64 r, .int .i64 dr, .int .i64 o, .int .i64 sl, .int .i64 md, .int .i64 fr, .slice ad zs.length cap, .slice a1 PL c1, .slice a2 SL c2, .slice a3 FL c3, .slice a4 LL c4] 27)) hl HT.out)
  rw [hE] at HP
  have g1 : ((PL : Int) != (N : Int)) = false := bne_eq_false_iff_eq.2 (by omega)
  have g2 : ((SL : Int) != (N : Int)) = false := bne_eq_false_iff_eq.2 (by omega)
  have g3 : decide (f < (FL : Int)) = false := decide_eq_false (by omega)
  have g4 : decide ((1000 : Int) < (LL : Int)) = false := decide_eq_false (by omega)
  have g5 : decide ((mo : Int) < 0) = false := decide_eq_false (by omega)
  have g6 : decide ((100 : Int) < (mo : Int)) = false := decide_eq_false (by omega)
  have g6' : ¬ (100 : Int) < (mo : Int) := by omega
  obtain ⟨fa, hfa⟩ : ∃ fa, fa = faI fs := ⟨_, rfl⟩
  rw [← hfa] at CI HCOM HM2 HM3
  have hFm0 : 1 ≤ Fm := by omega
  clear hfa hcom hm3 hm2 hes he hset hu huF hFm hLf hP1 hper hR4 hmm1 hmm2 hfac hFN hP hF hD1 hD4 hdD hR3 hRR hLD hL60 hR15 hR hL hT hV1 hV2 hV3 hV4 hz1 hz2 hz4 hPL hSL hFL hLL hE p1 p4 hp hs hf
  have c0 := blk_cell HK.out
  have l0 := blk_lt HK.out
  go_enter Try.func3, Try.ntmps3
  go_wp2_with fail
  refine HP.out.mono ?_
  rintro x w2 ⟨rfl, hb⟩
  have HB2 := hidden (bthen HB0.out hb)
  have HK2 := hidden (blk_later HK.out hb)
  have HT2 := hidden (HT.out.below hb)
  have HV12 := hidden (HV1.out.later hb)
  have HV22 := hidden (HV2.out.later hb)
  have HV32 := hidden (HV3.out.later hb)
  have HV42 := hidden (HV4.out.later hb)
  clear hb c0 l0 HK HT HV1 HV2 HV3 HV4 HP
  have c0 := blk_cell HK2.out
  have l0 := blk_lt HK2.out
  go_wp2_with fail
  refine (CS.out _ HT2.out).mono ?_
  rintro x w3 ⟨rfl, hb⟩
  have HB3 := hidden (bthen HB2.out hb)
  have HK3 := hidden (blk_later HK2.out hb)
  have HT3 := hidden (HT2.out.below hb)
  have HV13 := hidden (HV12.out.later hb)
  have HV23 := hidden (HV22.out.later hb)
  have HV33 := hidden (HV32.out.later hb)
  have HV43 := hidden (HV42.out.later hb)
  clear hb c0 l0 HK2 HT2 HV12 HV22 HV32 HV42 g1 g2 g3 g4 g5 g6 g6'
  have c0 := blk_cell HK3.out
  have l0 := blk_lt HK3.out
  go_wp2_with fail
  refine (CRun.out _ HT3.out HV13.out HV23.out HV33.out HV43.out).mono ?_
  rintro x w4 ⟨ar, cr, rfl, hrow, hb⟩
  have HB4 := hidden (bthen HB3.out hb)
  have HK4 := hidden (blk_later HK3.out hb)
  have HV34 := hidden (HV33.out.later hb)
  clear hb c0 l0 HK3 HT3 HV13 HV23 HV33 HV43 CRun CS
  obtain ⟨br, or, rfl, hbr, _⟩ := hrow 0 (by omega)
  have HROW : Hid (∀ V, Below w4.heap.size w4 V → ∀ j, j < Fm + mo → V.cell? ⟨br, or + j, none⟩ = some (.string (ba ((List.range N).map fun i => dgE (e j i))))) := fun V hV j hj => by
    obtain ⟨b, off, he, hb, hc⟩ := hrow j hj
    simp only [Option.some.injEq, Addr.mk.injEq, and_true] at he
    obtain ⟨rfl, rfl⟩ := he
    exact (hV.cell (p := ⟨br, or + j, none⟩) hbr).trans hc
  obtain ⟨T, hT⟩ : ∃ T, T = Fm + mo := ⟨_, rfl⟩
  rw [← hT] at HROW ⊢
  have HTT := hidden hT
  have hT1 : T ≤ 1200 := by omega
  clear hT hrow
  have c0 := blk_cell HK4.out
  have l0 := blk_lt HK4.out
  go_wp2
  clear c0 l0
  go_loop [7] (fun i => ∃ k : Nat, k ≤ m ∧ i = .int .i64 k) (fun i => m - (intV i).toNat)
  case atStart => exact ⟨0, Nat.zero_le _, rfl⟩
  case round =>
    obtain ⟨k, hk, rfl⟩ := hrel
    have c0 := blk_cell HK4.out
    have l0 := blk_lt HK4.out
    have k1 : (k : Int) < (N : Int) := by omega
    have k2 : decide ((k : Int) < (N : Int)) = true := decide_eq_true k1
    have CIk := hidden (CI.out k w4 HV34.out)
    by_cases hkm : k < m
    · have hfk := HM3.out k hkm
      rw [hfk] at CIk
      clear hfk
      go_wp2_with fail
      refine CIk.out.mono ?_
      rintro x wx ⟨rfl, rfl⟩
      go_wp2
      go_round
      case rel => exact ⟨k + 1, by omega, by go_num⟩
      case measure => simp [intV]; omega
    · obtain rfl : k = m := by omega
      rw [HM2.out] at CIk
      go_wp2_with fail
      refine CIk.out.mono ?_
      rintro x wx ⟨rfl, rfl⟩
      clear c0 l0 CIk
      go_wp2
      go_loopw [8, 9] (fun s i wr => ∃ t : Nat, t ≤ T ∧ i = .int .i64 t ∧ s = .string (ba ((List.range t).map fun j => dgE (e j k))) ∧ Below w4.heap.size w4 wr) (fun _ i _ => T - (intV i).toNat)
      case atStart => exact ⟨0, Nat.zero_le _, rfl, rfl, Below.refl _ _⟩
      case round =>
        obtain ⟨t, ht, rfl, rfl, hB⟩ := hrel
        have HBt := hidden hB
        have HKt := hidden (blk_later HK4.out hB)
        clear hB
        by_cases htT : t < T
        · have t1 : (t : Int) < (T : Int) := by omega
          have t0 : (0 : Int) ≤ (t : Int) := by omega
          have hz := rangeB_sz N (fun i => dgE (e t i))
          have hzs := rangeB_sz t (fun j => dgE (e j k))
          have HSB := hidden (rangeB_s t (fun j => dgE (e j k)))
          have HPR := hidden (row_prt N (fun i => dgE (e t i)) k hmN)
          have hpz : (ba [dgE (e t k)]).size = 1 := rfl
          have HRB : Hid (∀ i, i < N → (h : i < (ba ((List.range N).map fun i => dgE (e t i))).size) → (ba ((List.range N).map fun i => dgE (e t i)))[i]'h = dgE (e t i)) := fun i hi h => row_byte N _ i hi h
          have HCT := hidden (fun i h1 h2 h3 => HCOM.out t i h1 h2 h3)
          have HRT := hidden (fun V hV => HROW.out V hV t htT)
          have HCUT := hidden (fun V => cut_one (ba ((List.range N).map fun i => dgE (e t i))) k (by rw [hz]; exact hmN) V)
          generalize ba ((List.range N).map fun i => dgE (e t i)) = row at *
          generalize ba ((List.range t).map fun j => dgE (e j k)) = sb at *
          rw [HPR.out] at HCUT
          generalize hdd : dgE (e t k) = dk at *
          have HDD := hidden hdd
          clear hdd
          obtain ⟨wt, hwt⟩ : ∃ wt, wt = wr := ⟨_, rfl⟩
          rw [← hwt] at HBt HKt ⊢
          subst hwt
          have c0 := blk_cell HKt.out
          have l0 := blk_lt HKt.out
          go_wp2
          clear c0 l0
          go_loopw [10] (fun i wr => ∃ j : Nat, j ≤ N ∧ i = .int .i64 j ∧ Below wt.heap.size wt wr) (fun i _ => N - (intV i).toNat)
          case atStart => exact ⟨0, Nat.zero_le _, rfl, Below.refl _ _⟩
          case round =>
            obtain ⟨j, hj, rfl, hB⟩ := hrel
            have HBj := hidden hB
            have HBJ := hidden (bthen HBt.out hB)
            have HKj := hidden (blk_later HKt.out hB)
            have ej := HRT.out wr (bthen HBt.out hB)
            have lbr : br < wr.heap.size := by have := (bthen HBt.out hB).size; omega
            clear hB
            have c0 := blk_cell HKj.out
            have l0 := blk_lt HKj.out
            by_cases hjN : j < N
            · have j1 : (j : Int) < (N : Int) := by omega
              have j0 : (0 : Int) ≤ (j : Int) := by omega
              have CIj := hidden (fun V hV => Calls.to_below (CI.out j V hV))
              have HV3j := hidden (HV34.out.later HBJ.out)
              by_cases hFt : Fm ≤ t
              · have b1 : decide ((Fm : Int) ≤ (t : Int)) = true := decide_eq_true (by omega)
                cases hfj : fa j with
                | true =>
                  rw [hfj] at CIj
                  clear hfj
                  go_wp2
                  refine wp_region_quiet_below (by kernel_rfl) (by kernel_rfl) ?_
                  repeat (go_big_quiet_step (fail))
                  go_big_quiet_step ((go_at_call 13; exact Calls.regrown_of (CIj.out _ (HV3j.out.later (below_regrown _ _ _)))))
                  repeat (go_big_quiet_step (fail))
                  refine wpQuiet_nil ?_
                  intro w5 hw5
                  have HB5 := hidden (bthen HBj.out (rg_below hw5))
                  clear hw5 c0 l0 ej
                  go_wp2
                  go_roundw
                  case rel => exact ⟨j + 1, by omega, by go_num, HB5.out⟩
                  case measure => simp [intV]; omega
                | false =>
                  rw [hfj] at CIj
                  have hjs : j < row.size := by omega
                  have hks : k < row.size := by omega
                  have b2 : (((row[j]'hjs).toNat : Int) != ((row[k]'hks).toNat : Int)) = false := by
                    rw [HRB.out j hjN hjs, HRB.out k hmN hks, HCT.out j hFt hjN hfj]
                    simp
                  have r1 : (j : Int) < (row.size : Int) := by omega
                  have r2 : (k : Int) < (row.size : Int) := by omega
                  have r0 : (0 : Int) ≤ (k : Int) := by omega
                  clear hfj
                  go_wp2
                  refine wp_region_quiet_below (by kernel_rfl) (by kernel_rfl) ?_
                  repeat (go_big_quiet_step (fail))
                  go_big_quiet_step ((go_at_call 13; exact Calls.regrown_of (CIj.out _ (HV3j.out.later (below_regrown _ _ _)))))
                  repeat (go_big_quiet_step (fail))
                  refine wpQuiet_nil ?_
                  intro w5 hw5
                  have HB5 := hidden (bthen HBj.out (rg_below hw5))
                  clear hw5 c0 l0 ej
                  go_wp2
                  go_roundw
                  case rel => exact ⟨j + 1, by omega, by go_num, HB5.out⟩
                  case measure => simp [intV]; omega
              · have b1 : decide ((Fm : Int) ≤ (t : Int)) = false := decide_eq_false (by omega)
                clear CIj HV3j
                go_wp2
                refine wp_region_quiet_below (by kernel_rfl) (by kernel_rfl) ?_
                repeat (go_big_quiet_step (fail))
                refine wpQuiet_nil ?_
                intro w5 hw5
                have HB5 := hidden (bthen HBj.out (rg_below hw5))
                clear hw5 c0 l0 ej
                go_wp2
                go_roundw
                case rel => exact ⟨j + 1, by omega, by go_num, HB5.out⟩
                case measure => simp [intV]; omega
            · obtain rfl : j = N := by omega
              have j1 : ¬ (j : Int) < (j : Int) := by omega
              have hcut := HCUT.out
              have k0 : (0 : Int) ≤ (k : Int) := by omega
              go_wp2
              go_roundw
              case rel => exact ⟨t + 1, by omega, by go_num, by rw [HSB.out], HBJ.out⟩
              case measure => simp [intV]; omega
        · obtain rfl : t = T := by omega
          have t1 : ¬ (t : Int) < (t : Int) := by omega
          have hzs := rangeB_sz t (fun j => dgE (e j k))
          have CG := hidden (fun V => CReg.out V (ba ((List.range t).map fun j => dgE (e j k))) (by omega) (fun i h hi => by
            rw [row_byte t _ i (by omega) h, dgE_num]))
          generalize ba ((List.range t).map fun j => dgE (e j k)) = sb at *
          have c0 := blk_cell HKt.out
          have l0 := blk_lt HKt.out
          go_wp2_with fail
          refine (CG.out _).mono ?_
          rintro x w6 ⟨rfl, hb⟩
          have HB6 := hidden (bthen (bthen HB4.out HBt.out) hb)
          clear hb c0 l0
          go_wp2_with fail
          refine (KN.out _).mono ?_
          rintro x w9 ⟨rfl, hb⟩
          have HB9 := hidden (bthen HB6.out hb)
          clear hb
          go_wp2
          go_ret
          exact ⟨rfl, HB9.out⟩
theorem walk (n f d p r dr o sl md fr : Int) (ad : Option Addr) (cap : Nat) (zs : List Int) (a1 : Option Addr) (c1 : Nat) (pipes : List ByteArray) (a2 : Option Addr) (c2 : Nat) (since : List Int) (a3 : Option Addr) (c3 : Nat) (fs : List Int) (a4 : Option Addr) (c4 : Nat) (lies : List ByteArray) (mo : Int) (w : World)
    (hl : zs.length ≤ 9223372036854775807) (hT : Tab w ad zs) (hA : pipes.length ≤ 9223372036854775807 ∧ kStr.Lies w.heap.size w (.slice a1 pipes.length c1) pipes ∧ ∀ t ∈ pipes, t.size ≤ 9223372036854775807) (hS : since.length ≤ 9223372036854775807 ∧ kInt.Lies w.heap.size w (.slice a2 since.length c2) since ∧ ∀ z ∈ since, -9223372036854775808 ≤ z ∧ z ≤ 9223372036854775807)
    (hF : fs.length ≤ 9223372036854775807 ∧ kInt.Lies w.heap.size w (.slice a3 fs.length c3) fs ∧ ∀ z ∈ fs, -9223372036854775808 ≤ z ∧ z ≤ 9223372036854775807) (hL : lies.length ≤ 9223372036854775807 ∧ kStr.Lies w.heap.size w (.slice a4 lies.length c4) lies ∧ ∀ t ∈ lies, t.size ≤ 9223372036854775807) (hm : -9223372036854775808 ≤ mo ∧ mo ≤ 9223372036854775807) :
    Calls Try.prog 3 #[.agg #[.int .i64 n, .int .i64 f, .int .i64 d, .int .i64 p, .int .i64 r, .int .i64 dr, .int .i64 o, .int .i64 sl, .int .i64 md, .int .i64 fr, .slice ad zs.length cap, .slice a1 pipes.length c1, .slice a2 since.length c2, .slice a3 fs.length c3, .slice a4 lies.length c4], .int .i64 mo] w fun e w' => e = .returned (.bool true) ∧ Below w.heap.size w w' := by
  by_cases hall : plainE n f d p r dr o sl md fr zs = 0 ∧ (pipes.length : Int) = n ∧ (since.length : Int) = n ∧ (fs.length : Int) ≤ f ∧ lies.length ≤ 1000 ∧ 0 ≤ mo ∧ mo ≤ 100
  · obtain ⟨hE, h1, h2, h3, h4, h5, h6⟩ := hall
    obtain ⟨N, rfl⟩ : ∃ N : Nat, n = (N : Int) := ⟨n.toNat, by omega⟩
    obtain ⟨mo, rfl⟩ : ∃ k : Nat, mo = (k : Int) := ⟨mo.toNat, by omega⟩
    exact walk_main N f d p r dr o sl md fr ad cap zs _ _ _ _ a1 c1 pipes a2 c2 since a3 c3 fs a4 c4 lies mo w rfl rfl rfl rfl hl hT hE (by omega) hA.2.1 hA.2.2 (by omega) hS.2.1 hS.2.2 h3 hF.2.1 h4 hL.2.1 hL.2.2 (by omega)
  have KN := hidden (fun V => known18_any V)
  generalize hpl : pipes.length = PL at *
  generalize hsl : since.length = SL at *
  generalize hfl : fs.length = FL at *
  generalize hll : lies.length = LL at *
  have HB0 := hidden (ballc w (.cells #[.int .i64 n, .int .i64 f, .int .i64 d, .int .i64 p, .int .i64 r, .int .i64 dr, .int .i64 o, .int .i64 sl, .int .i64 md, .int .i64 fr, .slice ad zs.length cap, .slice a1 PL c1, .slice a2 SL c2, .slice a3 FL c3, .slice a4 LL c4] 27))
  have HK := hidden (blk_nw w #[.int .i64 n, .int .i64 f, .int .i64 d, .int .i64 p, .int .i64 r, .int .i64 dr, .int .i64 o, .int .i64 sl, .int .i64 md, .int .i64 fr, .slice ad zs.length cap, .slice a1 PL c1, .slice a2 SL c2, .slice a3 FL c3, .slice a4 LL c4] 27)
  have HP := hidden (refPlain_any n f d p r dr o sl md fr ad cap zs (w.alloc (.cells #[.int .i64 n, .int .i64 f, .int .i64 d, .int .i64 p, .int .i64 r, .int .i64 dr, .int .i64 o, .int .i64 sl, .int .i64 md, .int .i64 fr, .slice ad zs.length cap, .slice a1 PL c1, .slice a2 SL c2, .slice a3 FL c3, .slice a4 LL c4] 27)) hl (hT.below HB0.out))
  clear hT hA hS hF hL hpl hsl hfl hll
  have c0 := blk_cell HK.out
  have l0 := blk_lt HK.out
  by_cases hE : plainE n f d p r dr o sl md fr zs = 0
  · rw [hE] at HP
    by_cases h1 : (PL : Int) = n
    · have g1 : ((PL : Int) != n) = false := bne_eq_false_iff_eq.2 h1
      by_cases h2 : (SL : Int) = n
      · have g2 : ((SL : Int) != n) = false := bne_eq_false_iff_eq.2 h2
        by_cases h3 : (FL : Int) ≤ f
        · have g3 : decide (f < (FL : Int)) = false := decide_eq_false (by omega)
          by_cases h4 : LL ≤ 1000
          · have g4 : decide ((1000 : Int) < (LL : Int)) = false := decide_eq_false (by omega)
            by_cases h5 : mo < 0
            · have g5 : decide (mo < 0) = true := decide_eq_true h5
              clear hall hE h1 h2 h3 h4 h5
              go_enter Try.func3, Try.ntmps3
              go_wp2_with fail
              refine HP.out.mono ?_
              rintro e w2 ⟨rfl, hb⟩
              have HBZ := hidden (bthen HB0.out hb)
              have HK2 := hidden (blk_later HK.out hb)
              clear hb HP c0 l0
              have c0 := blk_cell HK2.out
              have l0 := blk_lt HK2.out
              go_wp2_with fail
              refine (KN.out _).mono ?_
              rintro e w9 ⟨rfl, hb⟩
              have HB9 := hidden (bthen HBZ.out hb)
              clear hb c0 l0
              go_wp2
              go_ret
              exact ⟨rfl, HB9.out⟩
            · have g5 : decide (mo < 0) = false := decide_eq_false h5
              have h6 : 100 < mo := by
                apply Classical.byContradiction
                intro h6
                exact hall ⟨hE, h1, h2, h3, h4, by omega, by omega⟩
              have g6 : decide ((100 : Int) < mo) = true := decide_eq_true h6
              clear hall hE h1 h2 h3 h4 h5
              go_enter Try.func3, Try.ntmps3
              go_wp2_with fail
              refine HP.out.mono ?_
              rintro e w2 ⟨rfl, hb⟩
              have HBZ := hidden (bthen HB0.out hb)
              have HK2 := hidden (blk_later HK.out hb)
              clear hb HP c0 l0
              have c0 := blk_cell HK2.out
              have l0 := blk_lt HK2.out
              go_wp2_with fail
              refine (KN.out _).mono ?_
              rintro e w9 ⟨rfl, hb⟩
              have HB9 := hidden (bthen HBZ.out hb)
              clear hb c0 l0
              go_wp2
              go_ret
              exact ⟨rfl, HB9.out⟩
          · have g4 : decide ((1000 : Int) < (LL : Int)) = true := decide_eq_true (by omega)
            clear hall hE h1 h2 h3 h4
            go_enter Try.func3, Try.ntmps3
            go_wp2_with fail
            refine HP.out.mono ?_
            rintro e w2 ⟨rfl, hb⟩
            have HBZ := hidden (bthen HB0.out hb)
            have HK2 := hidden (blk_later HK.out hb)
            clear hb HP c0 l0
            have c0 := blk_cell HK2.out
            have l0 := blk_lt HK2.out
            go_wp2_with fail
            refine (KN.out _).mono ?_
            rintro e w9 ⟨rfl, hb⟩
            have HB9 := hidden (bthen HBZ.out hb)
            clear hb c0 l0
            go_wp2
            go_ret
            exact ⟨rfl, HB9.out⟩
        · have g3 : decide (f < (FL : Int)) = true := decide_eq_true (by omega)
          clear hall hE h1 h2 h3
          go_enter Try.func3, Try.ntmps3
          go_wp2_with fail
          refine HP.out.mono ?_
          rintro e w2 ⟨rfl, hb⟩
          have HBZ := hidden (bthen HB0.out hb)
          have HK2 := hidden (blk_later HK.out hb)
          clear hb HP c0 l0
          have c0 := blk_cell HK2.out
          have l0 := blk_lt HK2.out
          go_wp2_with fail
          refine (KN.out _).mono ?_
          rintro e w9 ⟨rfl, hb⟩
          have HB9 := hidden (bthen HBZ.out hb)
          clear hb c0 l0
          go_wp2
          go_ret
          exact ⟨rfl, HB9.out⟩
      · have g2 : ((SL : Int) != n) = true := bne_iff_ne.2 h2
        clear hall hE h1 h2
        go_enter Try.func3, Try.ntmps3
        go_wp2_with fail
        refine HP.out.mono ?_
        rintro e w2 ⟨rfl, hb⟩
        have HBZ := hidden (bthen HB0.out hb)
        have HK2 := hidden (blk_later HK.out hb)
        clear hb HP c0 l0
        have c0 := blk_cell HK2.out
        have l0 := blk_lt HK2.out
        go_wp2_with fail
        refine (KN.out _).mono ?_
        rintro e w9 ⟨rfl, hb⟩
        have HB9 := hidden (bthen HBZ.out hb)
        clear hb c0 l0
        go_wp2
        go_ret
        exact ⟨rfl, HB9.out⟩
    · have g1 : ((PL : Int) != n) = true := bne_iff_ne.2 h1
      clear hall hE h1
      go_enter Try.func3, Try.ntmps3
      go_wp2_with fail
      refine HP.out.mono ?_
      rintro e w2 ⟨rfl, hb⟩
      have HBZ := hidden (bthen HB0.out hb)
      have HK2 := hidden (blk_later HK.out hb)
      clear hb HP c0 l0
      have c0 := blk_cell HK2.out
      have l0 := blk_lt HK2.out
      go_wp2_with fail
      refine (KN.out _).mono ?_
      rintro e w9 ⟨rfl, hb⟩
      have HB9 := hidden (bthen HBZ.out hb)
      clear hb c0 l0
      go_wp2
      go_ret
      exact ⟨rfl, HB9.out⟩
  · have j1 : (plainE n f d p r dr o sl md fr zs != 0) = true := bne_iff_ne.2 hE
    clear hall
    generalize plainE n f d p r dr o sl md fr zs = E at *
    clear hE
    go_enter Try.func3, Try.ntmps3
    go_wp2_with fail
    refine HP.out.mono ?_
    rintro e w2 ⟨rfl, hb⟩
    have HBZ := hidden (bthen HB0.out hb)
    have HK2 := hidden (blk_later HK.out hb)
    clear hb HP c0 l0
    have c0 := blk_cell HK2.out
    have l0 := blk_lt HK2.out
    go_wp2_with fail
    refine (KN.out _).mono ?_
    rintro e w9 ⟨rfl, hb⟩
    have HB9 := hidden (bthen HBZ.out hb)
    clear hb c0 l0
    go_wp2
    go_ret
    exact ⟨rfl, HB9.out⟩
end Go.Proofs.Ytohgmliafidalaa.LawBeatSettles
