/- The walk of the statement AgreeTogether: the call returns true, and makes at most new memory; conditions: rows lie where they say, numbers and lengths fit int. -/
import Derived.Test.YtohgmliafidalaaBl
import Derived.Test.YtohgmliafidalaaBf
import Derived.Test.YtohgmliafidalaaBg
namespace Go.Proofs.Ytohgmliafidalaa.LawAgreeTogether
open Go.ChangeShapes Go.WideShapes Go.ChangeAt Go.RowKit
set_option linter.unusedVariables false
attribute [local go_sem] cell_rg

theorem least_noA (fa : Nat → Bool) : ∀ m, fa m = false → ∃ k, k ≤ m ∧ fa k = false ∧ ∀ j, j < k → fa j = true := by
  intro m
  induction m using Nat.strongRecOn with
  | _ m ih =>
    intro h
    by_cases c : ∃ j, j < m ∧ fa j = false
    · obtain ⟨j, hj, hf⟩ := c
      obtain ⟨k, hk, h1, h2⟩ := ih j hj hf
      exact ⟨k, by omega, h1, h2⟩
    · exact ⟨m, Nat.le_refl _, h, fun j hj => by
        cases hb : fa j with
        | true => rfl
        | false => exact absurd ⟨j, hj, hb⟩ c⟩
/-- All numbers so far are the same. -/
def smS (fa : Nat → Bool) (g : Nat → Int) (m : Nat) : Nat → Bool
  | 0 => true
  | i + 1 => if fa i = true then smS fa g m i else (smS fa g m i && decide (g i = g m))
theorem smS_all {fa : Nat → Bool} {g : Nat → Int} {m : Nat} : ∀ {k : Nat}, smS fa g m k = true → ∀ i, i < k → fa i = false → g i = g m
  | 0, _, i, hi, _ => by omega
  | k + 1, h, i, hi, hf => by
    unfold smS at h
    by_cases e : i = k
    · subst e
      rw [if_neg (by rw [hf]; decide), Bool.and_eq_true] at h
      simpa using h.2
    · by_cases c : fa k = true
      · rw [if_pos c] at h
        exact smS_all h i (by omega) hf
      · rw [if_neg c, Bool.and_eq_true] at h
        exact smS_all h.1 i (by omega) hf
theorem num_lowA {M : Nat} {g : Nat → Nat} {n : Nat} (hM : 8 ≤ M) (hg : ∀ p, p < 8 → g p = bitG n p) : ∀ k, k ≤ 8 → numG (dgB M g) k = n % 2 ^ k
  | 0, _ => by simp [numG, Nat.mod_one]
  | k + 1, h => by
    have hb := bitG_bd n k
    have hk := hg k (by omega)
    have hm : n % 2 ^ (k + 1) = n % 2 ^ k + 2 ^ k * (n / 2 ^ k % 2) := Nat.mod_pow_succ
    show numG (dgB M g) k + (if vdg 1 (dgB M g) k = 1 then 2 ^ k else 0) = _
    rw [num_lowA hM hg k (by omega), vdg_dgB (by omega) (by omega) (by omega), hm, hk]
    have h2 : bitG n k = 0 ∨ bitG n k = 1 := by omega
    have e0 : n / 2 ^ k % 2 = bitG n k := rfl
    rw [e0]
    rcases h2 with e | e <;> rw [e] <;> simp
theorem bit_if {x : Int} {v : Nat} (hv : v ≤ 1) (h : x = (v : Int)) : (if x = 1 then 1 else 0) = v := by
  subst h
  by_cases e : v = 1
  · subst e; rfl
  · rw [if_neg (by omega)]; omega

set_option maxRecDepth 100000 in
set_option maxHeartbeats 40000000 in
theorem walk_main (N : Nat) (f d p r dr o sl md fr : Int) (ad : Option Addr) (cap : Nat) (zs : List Int) (NL SL FL LL : Nat) (a1 : Option Addr) (c1 : Nat) (nums : List Int) (a2 : Option Addr) (c2 : Nat) (seen : List ByteArray) (a3 : Option Addr) (c3 : Nat) (fs : List Int) (a4 : Option Addr) (c4 : Nat) (lies : List Pkt) (w : World)
    (hNL : NL = nums.length) (hSL : SL = seen.length) (hFL : FL = fs.length) (hLL : LL = lies.length)
    (hl : zs.length ≤ 9223372036854775807) (hT : Tab w ad zs) (hE : plainE (N : Int) f d p r dr o sl md fr zs = 0) (hn : NL = N) (hV1 : kInt.Lies w.heap.size w (.slice a1 NL c1) nums) (hz1 : ∀ z ∈ nums, -9223372036854775808 ≤ z ∧ z ≤ 9223372036854775807) (hs : SL = N) (hV2 : kStr.Lies w.heap.size w (.slice a2 SL c2) seen) (hz2 : ∀ t ∈ seen, t.size ≤ 9223372036854775807)
    (hf : (FL : Int) ≤ f) (hV3 : kInt.Lies w.heap.size w (.slice a3 FL c3) fs) (hll : LL ≤ 1000) (hV4 : kPkt.Lies w.heap.size w (.slice a4 LL c4) lies) (hz4 : ∀ q ∈ lies, q.ve.size ≤ 9223372036854775807) :
    Calls Try.prog 6 #[.agg #[.int .i64 (N : Int), .int .i64 f, .int .i64 d, .int .i64 p, .int .i64 r, .int .i64 dr, .int .i64 o, .int .i64 sl, .int .i64 md, .int .i64 fr, .slice ad zs.length cap, .slice a1 NL c1, .slice a2 SL c2, .slice a3 FL c3, .slice a4 LL c4]] w fun e w' => e = .returned (.bool true) ∧ Below w.heap.size w w' := by
  obtain ⟨n1, n2, f1, f2, fn, d1, d4, p1, p4, _⟩ := plainE_ok hE
  obtain ⟨R, D, L, hR, hL, hLD, hR15, hL60, _, hRR, _⟩ := len_nat (N : Int) f d p r dr o sl md fr ad cap zs
  obtain ⟨hR3, hdD, hD1, hD4⟩ := hRR hE
  obtain ⟨F, hF⟩ : ∃ F : Nat, f = (F : Int) := ⟨f.toNat, by omega⟩
  have hfac : facL (faI fs) N ≤ F := Nat.le_trans (facL_le N fs) (by omega)
  have hFN : 3 * F < N := by omega
  obtain ⟨mm, hmm1, hmm2⟩ := one_honestG hfac hFN
  obtain ⟨m, hm1, hm2, hm3⟩ := least_noA _ _ hmm2
  have hmN : m < N := by omega
  have hR4 : R = 3 * (F + 1) := by omega
  obtain ⟨u, hu1, hu2, hu3⟩ := togetherA (R := R) (L := L) (f := f) (fa := faI fs) (lies := lies) (N := N) (D := D) (nums := nums) (seen := seen) F hF hR4 hD1 hLD hfac hFN
  have CRun : ∀ V, Tab V ad zs → kInt.Lies V.heap.size V (.slice a1 NL c1) nums → kStr.Lies V.heap.size V (.slice a2 SL c2) seen → kInt.Lies V.heap.size V (.slice a3 FL c3) fs → kPkt.Lies V.heap.size V (.slice a4 LL c4) lies →
      Calls Try.prog 22 #[.agg #[.int .i64 (N : Int), .int .i64 f, .int .i64 d, .int .i64 p, .int .i64 r, .int .i64 dr, .int .i64 o, .int .i64 sl, .int .i64 md, .int .i64 fr, .slice ad zs.length cap, .slice a1 NL c1, .slice a2 SL c2, .slice a3 FL c3, .slice a4 LL c4]] V fun x w' => ∃ a c, x = .returned (.slice a N c) ∧ (∀ j, j < N → faI fs j = false → ∃ b off : Nat, a = some ⟨b, off, none⟩ ∧ b < w'.heap.size ∧ w'.cell? ⟨b, off + j * 3 + 1, none⟩ = some (.string noB) ∧ w'.cell? ⟨b, off + j * 3 + 2, none⟩ = some (.string (dgB (8 + N) u))) ∧ Below V.heap.size V w' := fun V h h1 h2 h3 h4 => by
    subst hNL hSL hFL hLL
    have z := runsA_any N f d p r dr o sl md fr ad cap zs D L R F a1 c1 nums a2 c2 seen a3 c3 fs a4 c4 lies V hl h hE hR hL hR15 (by omega) hL60 hLD hdD hD1 hD4 (by omega) (by omega) hn (by rw [← hn]; exact h1) hz1 hs (by rw [← hs]; exact h2) hz2 (by omega) h3 (by omega) h4 hz4
    rw [hn, hs]
    refine z.mono ?_
    rintro x w' ⟨a, c, rfl, hLi, hb⟩
    have hol := runA_now_len (R := R) (L := L) (f := f) (d := d) (fa := faI fs) (lies := lies) (N := N) (D := D) (nums := nums) (seen := seen) L
    refine ⟨a, c, rfl, fun j hj hfj => ?_, hb⟩
    have hLi2 : kNow.Lies w'.heap.size w' (.slice a (runA R L f d (faI fs) lies N D nums seen L).now.length c) (runA R L f d (faI fs) lies N D nums seen L).now := by rw [hol]; exact hLi
    obtain ⟨b, off, he, hbl, _, e1, e2⟩ := kNow_at hLi2 j (by omega)
    have hj2 : (runA R L f d (faI fs) lies N D nums seen L).now.getD j zA = ⟨(L : Int), noB, dgB (8 + N) u⟩ := by rw [hdD]; exact hu2 j hj hfj
    rw [hj2] at e1 e2
    exact ⟨b, off, he, hbl, e1, e2⟩
  have CSaw : ∀ V, kStr.Lies V.heap.size V (.slice a2 SL c2) seen → kInt.Lies V.heap.size V (.slice a3 FL c3) fs → Calls Try.prog 25 #[.agg #[.int .i64 (N : Int), .int .i64 f, .int .i64 d, .int .i64 p, .int .i64 r, .int .i64 dr, .int .i64 o, .int .i64 sl, .int .i64 md, .int .i64 fr, .slice ad zs.length cap, .slice a1 NL c1, .slice a2 SL c2, .slice a3 FL c3, .slice a4 LL c4], .string (dgB (8 + N) u), .int .i64 (m : Int)] V fun x w' => x = .returned (.bool true) ∧ Below V.heap.size V w' := fun V h2 h3 =>
    saw_any N f d p r dr o sl md fr ad cap zs NL SL FL LL a1 c1 a2 c2 seen a3 c3 fs a4 c4 m u V (by omega) hmN hs (by omega) h2 hz2 hFL (by omega) h3 hu1 (fun k hk h => hu3 (8 + k) (by omega) _ (digG_bd _ _ _) (fun i hi hfi => by
      rw [← h i hi hfi]
      exact bit_if (digG_bd _ _ _) (begS_hi hk)))
  have CNum := hidden (fun V => rNumber_any (dgB (8 + N) u) (by rw [dgB_size]; omega) V)
  have hnum : smS (faI fs) (fun i => nums.getD i 0) m N = true → 0 ≤ nums.getD m 0 → nums.getD m 0 < 256 → (numG (dgB (8 + N) u) 8 : Int) = nums.getD m 0 := fun h h0 h1 => by
    have hg : ∀ p, p < 8 → u p = bitG (nums.getD m 0).toNat p := fun p hp => hu3 p (by omega) _ (bitG_bd _ _) (fun i hi hfi => by
      have := smS_all h i hi hfi
      rw [← this]
      exact bit_if (bitG_bd _ _) (begS_lo hp))
    rw [num_lowA (by omega) hg 8 (Nat.le_refl _)]
    have : (nums.getD m 0).toNat % 2 ^ 8 = (nums.getD m 0).toNat := Nat.mod_eq_of_lt (by omega)
    rw [this]
    omega
  have CI : ∀ (k : Nat) V, kInt.Lies V.heap.size V (.slice a3 FL c3) fs → Calls Try.prog 13 #[.slice a3 FL c3, .int .i64 (k : Int)] V fun x w' => x = .returned (.bool (faI fs k)) ∧ V = w' := fun k V hv => by
    subst hFL
    exact rIn_any (k : Int) a3 c3 fs (by omega) V hv
  have CB : ∀ V, Tab V ad zs → Calls Try.prog 23 #[.agg #[.int .i64 (N : Int), .int .i64 f, .int .i64 d, .int .i64 p, .int .i64 r, .int .i64 dr, .int .i64 o, .int .i64 sl, .int .i64 md, .int .i64 fr, .slice ad zs.length cap]] V fun x w' => x = .returned (.int .i64 ((8 + N : Nat) : Int)) ∧ Below V.heap.size V w' := fun V h => by
    have z := refBits_any (N : Int) f d p r dr o sl md fr ad cap zs V hl h
    rw [hE, gate_ok, show (8 : Int) + (N : Int) = ((8 + N : Nat) : Int) by omega] at z
    exact z
  have KN := hidden (fun V => known19_any V)
  have CRun := hidden CRun
  have CSaw := hidden CSaw
  have CI := hidden CI
  have CB := hidden CB
  have HNUM := hidden hnum
  have HM3 := hidden hm3
  have HM2 := hidden hm2
  have hgz : (dgB (8 + N) u).size = 8 + N := dgB_size _ _
  have HB0 := hidden (ballc w (.cells #[.int .i64 (N : Int), .int .i64 f, .int .i64 d, .int .i64 p, .int .i64 r, .int .i64 dr, .int .i64 o, .int .i64 sl, .int .i64 md, .int .i64 fr, .slice ad zs.length cap, .slice a1 NL c1, .slice a2 SL c2, .slice a3 FL c3, .slice a4 LL c4] 48))
  have HK := hidden (blk_nw w #[.int .i64 (N : Int), .int .i64 f, .int .i64 d, .int .i64 p, .int .i64 r, .int .i64 dr, .int .i64 o, .int .i64 sl, .int .i64 md, .int .i64 fr, .slice ad zs.length cap, .slice a1 NL c1, .slice a2 SL c2, .slice a3 FL c3, .slice a4 LL c4] 48)
  have HT := hidden (hT.below HB0.out)
  have HV1 := hidden (hV1.later HB0.out)
  have HV2 := hidden (hV2.later HB0.out)
  have HV3 := hidden (hV3.later HB0.out)
  have HV4 := hidden (hV4.later HB0.out)
  have HP := hidden (refPlain_any (N : Int) f d p r dr o sl md fr ad cap zs (w.alloc (.cells #[.int .i64 (N : Int), .int .i64 f, .int .i64 d, .int .i64 p, .int .i64 r, .int .i64 dr, .int .i64 o, .int .i64 sl, .int .i64 md, .int .i64 fr, .slice ad zs.length cap, .slice a1 NL c1, .slice a2 SL c2, .slice a3 FL c3, .slice a4 LL c4] 48)) hl HT.out)
  rw [hE] at HP
  have g1 : ((NL : Int) != (N : Int)) = false := bne_eq_false_iff_eq.2 (by omega)
  have g2 : ((SL : Int) != (N : Int)) = false := bne_eq_false_iff_eq.2 (by omega)
  have g3 : decide (f < (FL : Int)) = false := decide_eq_false (by omega)
  have g4 : decide ((1000 : Int) < (LL : Int)) = false := decide_eq_false (by omega)
  have g4' : ¬ (1000 : Int) < (LL : Int) := by omega
  have hnl : nums.length = N := by omega
  have HN13 := hidden n2
  obtain ⟨b1, o1, hb1e, hb1, hcx1⟩ := kInt_at HV1.out 0 (by omega)
  clear hcx1
  have hE1 : ∀ j, j < N → ∃ b ox, a1 = some ⟨b, ox, none⟩ ∧ (w.alloc (.cells #[.int .i64 (N : Int), .int .i64 f, .int .i64 d, .int .i64 p, .int .i64 r, .int .i64 dr, .int .i64 o, .int .i64 sl, .int .i64 md, .int .i64 fr, .slice ad zs.length cap, .slice a1 NL c1, .slice a2 SL c2, .slice a3 FL c3, .slice a4 LL c4] 48)).cell? ⟨b, ox + j, none⟩ = some (.int .i64 (nums.getD j 0)) := fun j hj => by
    obtain ⟨b, ox, he, _, hc⟩ := kInt_at HV1.out j (by omega)
    exact ⟨b, ox, he, by rw [hc, List.getD_eq_getElem?_getD, List.getElem?_eq_getElem (by omega)]; rfl⟩
  subst hb1e
  have HE1 : Hid (∀ V, Below (w.alloc (.cells #[.int .i64 (N : Int), .int .i64 f, .int .i64 d, .int .i64 p, .int .i64 r, .int .i64 dr, .int .i64 o, .int .i64 sl, .int .i64 md, .int .i64 fr, .slice ad zs.length cap, .slice (some ⟨b1, o1, none⟩) NL c1, .slice a2 SL c2, .slice a3 FL c3, .slice a4 LL c4] 48)).heap.size (w.alloc (.cells #[.int .i64 (N : Int), .int .i64 f, .int .i64 d, .int .i64 p, .int .i64 r, .int .i64 dr, .int .i64 o, .int .i64 sl, .int .i64 md, .int .i64 fr, .slice ad zs.length cap, .slice (some ⟨b1, o1, none⟩) NL c1, .slice a2 SL c2, .slice a3 FL c3, .slice a4 LL c4] 48)) V → ∀ j, j < N → V.cell? ⟨b1, o1 + j, none⟩ = some (.int .i64 (nums.getD j 0))) := fun V h j hj => by
    obtain ⟨b, ox, he, hc⟩ := hE1 j hj
    simp only [Option.some.injEq, Addr.mk.injEq, and_true] at he
    obtain ⟨rfl, rfl⟩ := he
    exact (h.cell (p := ⟨b1, o1 + j, none⟩) hb1).trans hc
  obtain ⟨fa, hfa⟩ : ∃ fa, fa = faI fs := ⟨_, rfl⟩
  rw [← hfa] at CI HM2 HM3 HNUM CRun
  generalize dgB (8 + N) u = got at *
  generalize numG got 8 = nn at *
  obtain ⟨gN, hgN⟩ : ∃ gN, gN = fun i => nums.getD i 0 := ⟨_, rfl⟩
  have HE1 : Hid (∀ V, Below (w.alloc (.cells #[.int .i64 (N : Int), .int .i64 f, .int .i64 d, .int .i64 p, .int .i64 r, .int .i64 dr, .int .i64 o, .int .i64 sl, .int .i64 md, .int .i64 fr, .slice ad zs.length cap, .slice (some ⟨b1, o1, none⟩) NL c1, .slice a2 SL c2, .slice a3 FL c3, .slice a4 LL c4] 48)).heap.size (w.alloc (.cells #[.int .i64 (N : Int), .int .i64 f, .int .i64 d, .int .i64 p, .int .i64 r, .int .i64 dr, .int .i64 o, .int .i64 sl, .int .i64 md, .int .i64 fr, .slice ad zs.length cap, .slice (some ⟨b1, o1, none⟩) NL c1, .slice a2 SL c2, .slice a3 FL c3, .slice a4 LL c4] 48)) V → ∀ j, j < N → V.cell? ⟨b1, o1 + j, none⟩ = some (.int .i64 (gN j))) := by
    rw [hgN]; exact HE1.out
  have HNUM : Hid (smS fa gN m N = true → 0 ≤ gN m → gN m < 256 → (nn : Int) = gN m) := by
    rw [hgN]; exact HNUM.out
  have hwl : w.heap.size < (w.alloc (.cells #[.int .i64 (N : Int), .int .i64 f, .int .i64 d, .int .i64 p, .int .i64 r, .int .i64 dr, .int .i64 o, .int .i64 sl, .int .i64 md, .int .i64 fr, .slice ad zs.length cap, .slice (some ⟨b1, o1, none⟩) NL c1, .slice a2 SL c2, .slice a3 FL c3, .slice a4 LL c4] 48)).heap.size := by simp
  have HNN := hidden hn
  have HLX : Hid (LL = LL) := rfl
  clear hfa hgN hnum hm3 hm2 hu1 hu2 hu3 hR4 hmm1 hmm2 hfac hFN hF hD1 hD4 hdD hR3 hRR hLD hL60 hR15 hR hL hT hV1 hV2 hV3 hV4 hz1 hz2 hz4 hNL hSL hFL hLL hE p1 p4 hs hf hE1 n1 f1 f2 fn hn
  have c0 := blk_cell HK.out
  have l0 := blk_lt HK.out
  go_enter Try.func6, Try.ntmps6
  go_wp2_with fail
  refine HP.out.mono ?_
  rintro x w2 ⟨rfl, hb⟩
  have HB2w := hidden hb
  have HB2 := hidden (bthen HB0.out hb)
  have HK2 := hidden (blk_later HK.out hb)
  have HT2 := hidden (HT.out.below hb)
  have HV12 := hidden (HV1.out.later hb)
  have HV22 := hidden (HV2.out.later hb)
  have HV32 := hidden (HV3.out.later hb)
  have HV42 := hidden (HV4.out.later hb)
  clear hb c0 l0 HK HT HV1 HV2 HV3 HV4 HP
  have c0 := blk_cell HK2.out
  have l0 := blk_lt HK2.out
  go_wp2_with fail
  refine (CRun.out _ HT2.out HV12.out HV22.out HV32.out HV42.out).mono ?_
  rintro x w4 ⟨ar, cr, rfl, hrow, hb⟩
  have HBw4 := hidden (bthen HB2w.out hb)
  have HB4 := hidden (bthen HB2.out hb)
  have HK4 := hidden (blk_later HK2.out hb)
  have HT4 := hidden (HT2.out.below hb)
  have HV24 := hidden (HV22.out.later hb)
  have HV34 := hidden (HV32.out.later hb)
  clear hb c0 l0 HK2 HT2 HV12 HV22 HV32 HV42 CRun g1 g2 g3 g4 g4' HB2 HB2w
  obtain ⟨br, or, rfl, hbr, hcm1, hcm2⟩ := hrow m hmN HM2.out
  have HROW : Hid (∀ j, j < N → fa j = false → w4.cell? ⟨br, or + j * 3 + 1, none⟩ = some (.string noB) ∧ w4.cell? ⟨br, or + j * 3 + 2, none⟩ = some (.string got)) := fun j hj hfj => by
    obtain ⟨b, off, he, hb, h1, h2⟩ := hrow j hj hfj
    simp only [Option.some.injEq, Addr.mk.injEq, and_true] at he
    obtain ⟨rfl, rfl⟩ := he
    exact ⟨h1, h2⟩
  have hb1w : b1 < w4.heap.size := Nat.lt_of_lt_of_le hb1 HBw4.out.size
  have HE14 := hidden (fun j hj => HE1.out w4 HBw4.out j hj)
  clear hrow HE1 hb1 hwl HBw4
  have c0 := blk_cell HK4.out
  have l0 := blk_lt HK4.out
  go_wp2
  clear c0 l0
  go_loop [4] (fun i => ∃ k : Nat, k ≤ m ∧ i = .int .i64 k) (fun i => m - (intV i).toNat)
  case atStart => exact ⟨0, Nat.zero_le _, rfl⟩
  case round =>
    obtain ⟨k, hk, rfl⟩ := hrel
    have c0 := blk_cell HK4.out
    have l0 := blk_lt HK4.out
    have k1 : (k : Int) < (N : Int) := by omega
    have k2 : decide ((k : Int) < (N : Int)) = true := decide_eq_true k1
    have CIk := hidden (CI.out k w4 HV34.out)
    by_cases hkm : k < m
    · have hfk := HM3.out k hkm
      rw [hfk] at CIk
      clear hfk
      go_wp2_with fail
      refine CIk.out.mono ?_
      rintro x wx ⟨rfl, rfl⟩
      go_wp2
      go_round
      case rel => exact ⟨k + 1, by omega, by go_num⟩
      case measure => simp [intV]; omega
    · obtain rfl : k = m := by omega
      rw [HM2.out] at CIk
      have k0 : (0 : Int) ≤ (k : Int) := by omega
      have hgb : ((got.size : Int) != ((8 + N : Nat) : Int)) = false := bne_eq_false_iff_eq.2 (by omega)
      have hgb2 : ((got.size : Int) != 8 + (N : Int)) = false := bne_eq_false_iff_eq.2 (by omega)
      go_wp2_with fail
      refine CIk.out.mono ?_
      rintro x wx ⟨rfl, rfl⟩
      go_wp2_with fail
      refine (CB.out _ HT4.out).mono ?_
      rintro x w5 ⟨rfl, hb⟩
      have HB5w := hidden hb
      have HB5 := hidden (bthen HB4.out hb)
      have HK5 := hidden (blk_later HK4.out hb)
      have HV25 := hidden (HV24.out.later hb)
      have HV35 := hidden (HV34.out.later hb)
      clear hb c0 l0 CIk hcm1 hcm2
      go_wp2
      clear hgb hgb2
      go_loopw [6, 7] (fun sm i wr => ∃ j : Nat, j ≤ N ∧ i = .int .i64 j ∧ sm = .bool (smS fa gN k j) ∧ Below w5.heap.size w5 wr) (fun _ i _ => N - (intV i).toNat)
      case atStart => exact ⟨0, Nat.zero_le _, rfl, rfl, Below.refl _ _⟩
      case round =>
        obtain ⟨j, hj1, rfl, rfl, hB⟩ := hrel
        have HBj := hidden hB
        have HBj4 := hidden (bthen HB5w.out hB)
        have HKj := hidden (blk_later HK5.out hB)
        have HV3j := hidden (HV35.out.later hB)
        have hjs := (bthen HB5w.out hB).size
        clear hB
        by_cases hjN : j < N
        · have j1 : (j : Int) < (N : Int) := by omega
          have j0 : (0 : Int) ≤ (j : Int) := by omega
          have c0 := blk_cell HKj.out
          have l0 := blk_lt HKj.out
          have CIj := hidden (CI.out j wr HV3j.out)
          have HSM : Hid (smS fa gN k (j + 1) = if fa j = true then smS fa gN k j else (smS fa gN k j && decide (gN j = gN k))) := rfl
          cases hfj : fa j with
          | true =>
            rw [hfj, if_pos rfl] at HSM
            rw [hfj] at CIj
            clear hfj
            go_wp2_with fail
            refine CIj.out.mono ?_
            rintro x wx ⟨rfl, rfl⟩
            clear c0 l0
            go_wp2
            go_roundw
            case rel => exact ⟨j + 1, by omega, by go_num, by rw [HSM.out], HBj.out⟩
            case measure => simp [intV]; omega
          | false =>
            rw [hfj, if_neg (by decide)] at HSM
            rw [hfj] at CIj
            obtain ⟨r1, r2⟩ := HROW.out j hjN hfj
            have e1 := (HBj4.out.cell (p := ⟨br, or + j * 3 + 1, none⟩) hbr).trans r1
            have e2 := (HBj4.out.cell (p := ⟨br, or + j * 3 + 2, none⟩) hbr).trans r2
            have e3 := (HBj4.out.cell (p := ⟨b1, o1 + j, none⟩) hb1w).trans (HE14.out j hjN)
            have e4 := (HBj4.out.cell (p := ⟨b1, o1 + k, none⟩) hb1w).trans (HE14.out k hmN)
            have lbr : br < wr.heap.size := by omega
            have lb1 : b1 < wr.heap.size := by omega
            have n3 : (j : Int) < (NL : Int) := by have := HNN.out; omega
            have n4 : (k : Int) < (NL : Int) := by have := HNN.out; omega
            have HEQ : Hid ((gN j == gN k) = decide (gN j = gN k)) := by
              show _ = _
              by_cases e : gN j = gN k
              · rw [decide_eq_true e]; exact beq_iff_eq.2 e
              · rw [decide_eq_false e]; exact beq_eq_false_iff_ne.2 e
            clear hfj r1 r2
            have hnb : noB.toList = [] := by first | rfl | decide | (unfold noB; simp) | simp [noB, ByteArray.toList, ByteArray.toList.loop]
            cases hsm : smS fa gN k j with
            | true =>
              rw [hsm] at HSM
              clear hsm
              go_wp2_with fail
              refine CIj.out.mono ?_
              rintro x wx ⟨rfl, rfl⟩
              go_wp2
              refine wp_region_quiet_below (by kernel_rfl) (by kernel_rfl) ?_
              repeat (go_big_quiet_step (fail))
              refine wpQuiet_nil ?_
              intro w6 hw6
              have HB6 := hidden (bthen HBj.out (rg_below hw6))
              clear hw6 c0 l0 e1 e2 e3 e4
              go_wp2
              go_roundw
              case rel => exact ⟨j + 1, by omega, by go_num, by rw [HSM.out, ← HEQ.out]; rfl, HB6.out⟩
              case measure => simp [intV]; omega
            | false =>
              rw [hsm] at HSM
              clear hsm
              go_wp2_with fail
              refine CIj.out.mono ?_
              rintro x wx ⟨rfl, rfl⟩
              go_wp2
              refine wp_region_quiet_below (by kernel_rfl) (by kernel_rfl) ?_
              repeat (go_big_quiet_step (fail))
              refine wpQuiet_nil ?_
              intro w6 hw6
              have HB6 := hidden (bthen HBj.out (rg_below hw6))
              clear hw6 c0 l0 e1 e2 e3 e4
              go_wp2
              go_roundw
              case rel => exact ⟨j + 1, by omega, by go_num, by rw [HSM.out]; rfl, HB6.out⟩
              case measure => simp [intV]; omega
        · obtain rfl : N = j := by omega
          have j1 : ¬ (N : Int) < (N : Int) := by omega
          have c0 := blk_cell HKj.out
          have l0 := blk_lt HKj.out
          have e4 := (HBj4.out.cell (p := ⟨b1, o1 + k, none⟩) hb1w).trans (HE14.out k hmN)
          have lb1 : b1 < wr.heap.size := by omega
          have n4 : (k : Int) < (NL : Int) := by have := HNN.out; omega
          have hnum := HNUM.out
          have CSa := hidden (fun V hV => CSaw.out V hV)
          have HB7 := hidden (bthen HB5.out HBj.out)
          have HV2j := hidden (HV25.out.later HBj.out)
          generalize hgk : gN k = nk at *
          cases hsm : smS fa gN k N with
          | false =>
            clear hsm hnum
            go_wp2_with fail
            refine (CSa.out _ HV2j.out HV3j.out).mono ?_
            rintro x w8 ⟨rfl, hb⟩
            have HB8 := hidden (bthen HB7.out hb)
            clear hb c0 l0 e4
            go_wp2_with fail
            refine (KN.out _).mono ?_
            rintro x w9 ⟨rfl, hb⟩
            have HB9 := hidden (bthen HB8.out hb)
            clear hb
            go_wp2
            go_ret
            exact ⟨rfl, HB9.out⟩
          | true =>
            have hn2 := hnum hsm
            clear hsm hnum
            by_cases hk0 : 0 ≤ nk
            · have t1 : decide ((0 : Int) ≤ nk) = true := decide_eq_true hk0
              by_cases hk2 : nk < 256
              · have t2 : decide (nk < 256) = true := decide_eq_true hk2
                have t3 : ((nn : Int) != nk) = false := bne_eq_false_iff_eq.2 (hn2 hk0 hk2)
                clear hn2 hk0 hk2
                go_wp2_with fail
                refine (CNum.out _).mono ?_
                rintro x wx ⟨rfl, rfl⟩
                go_wp2_with fail
                refine (CSa.out _ HV2j.out HV3j.out).mono ?_
                rintro x w8 ⟨rfl, hb⟩
                have HB8 := hidden (bthen HB7.out hb)
                clear hb c0 l0 e4
                go_wp2_with fail
                refine (KN.out _).mono ?_
                rintro x w9 ⟨rfl, hb⟩
                have HB9 := hidden (bthen HB8.out hb)
                clear hb
                go_wp2
                go_ret
                exact ⟨rfl, HB9.out⟩
              · have t2 : decide (nk < 256) = false := decide_eq_false hk2
                clear hn2 hk0 hk2
                go_wp2_with fail
                refine (CSa.out _ HV2j.out HV3j.out).mono ?_
                rintro x w8 ⟨rfl, hb⟩
                have HB8 := hidden (bthen HB7.out hb)
                clear hb c0 l0 e4
                go_wp2_with fail
                refine (KN.out _).mono ?_
                rintro x w9 ⟨rfl, hb⟩
                have HB9 := hidden (bthen HB8.out hb)
                clear hb
                go_wp2
                go_ret
                exact ⟨rfl, HB9.out⟩
            · have t1 : decide ((0 : Int) ≤ nk) = false := decide_eq_false hk0
              clear hn2 hk0
              go_wp2_with fail
              refine (CSa.out _ HV2j.out HV3j.out).mono ?_
              rintro x w8 ⟨rfl, hb⟩
              have HB8 := hidden (bthen HB7.out hb)
              clear hb c0 l0 e4
              go_wp2_with fail
              refine (KN.out _).mono ?_
              rintro x w9 ⟨rfl, hb⟩
              have HB9 := hidden (bthen HB8.out hb)
              clear hb
              go_wp2
              go_ret
              exact ⟨rfl, HB9.out⟩
theorem walk (n f d p r dr o sl md fr : Int) (ad : Option Addr) (cap : Nat) (zs : List Int) (a1 : Option Addr) (c1 : Nat) (nums : List Int) (a2 : Option Addr) (c2 : Nat) (seen : List ByteArray) (a3 : Option Addr) (c3 : Nat) (fs : List Int) (a4 : Option Addr) (c4 : Nat) (lies : List Pkt) (w : World)
    (hl : zs.length ≤ 9223372036854775807) (hT : Tab w ad zs) (hA : nums.length ≤ 9223372036854775807 ∧ kInt.Lies w.heap.size w (.slice a1 nums.length c1) nums ∧ ∀ z ∈ nums, -9223372036854775808 ≤ z ∧ z ≤ 9223372036854775807) (hS : seen.length ≤ 9223372036854775807 ∧ kStr.Lies w.heap.size w (.slice a2 seen.length c2) seen ∧ ∀ t ∈ seen, t.size ≤ 9223372036854775807)
    (hF : fs.length ≤ 9223372036854775807 ∧ kInt.Lies w.heap.size w (.slice a3 fs.length c3) fs ∧ ∀ z ∈ fs, -9223372036854775808 ≤ z ∧ z ≤ 9223372036854775807) (hL : lies.length ≤ 9223372036854775807 ∧ kPkt.Lies w.heap.size w (.slice a4 lies.length c4) lies ∧ ∀ q ∈ lies, q.ve.size ≤ 9223372036854775807) :
    Calls Try.prog 6 #[.agg #[.int .i64 n, .int .i64 f, .int .i64 d, .int .i64 p, .int .i64 r, .int .i64 dr, .int .i64 o, .int .i64 sl, .int .i64 md, .int .i64 fr, .slice ad zs.length cap, .slice a1 nums.length c1, .slice a2 seen.length c2, .slice a3 fs.length c3, .slice a4 lies.length c4]] w fun e w' => e = .returned (.bool true) ∧ Below w.heap.size w w' := by
  by_cases hall : plainE n f d p r dr o sl md fr zs = 0 ∧ (nums.length : Int) = n ∧ (seen.length : Int) = n ∧ (fs.length : Int) ≤ f ∧ lies.length ≤ 1000
  · obtain ⟨hE, h1, h2, h3, h4⟩ := hall
    obtain ⟨N, rfl⟩ : ∃ N : Nat, n = (N : Int) := ⟨n.toNat, by omega⟩
    exact walk_main N f d p r dr o sl md fr ad cap zs _ _ _ _ a1 c1 nums a2 c2 seen a3 c3 fs a4 c4 lies w rfl rfl rfl rfl hl hT hE (by omega) hA.2.1 hA.2.2 (by omega) hS.2.1 hS.2.2 h3 hF.2.1 h4 hL.2.1 hL.2.2
  have KN := hidden (fun V => known19_any V)
  generalize hpl : nums.length = NL at *
  generalize hsl : seen.length = SL at *
  generalize hfl : fs.length = FL at *
  generalize hll : lies.length = LL at *
  have HB0 := hidden (ballc w (.cells #[.int .i64 n, .int .i64 f, .int .i64 d, .int .i64 p, .int .i64 r, .int .i64 dr, .int .i64 o, .int .i64 sl, .int .i64 md, .int .i64 fr, .slice ad zs.length cap, .slice a1 NL c1, .slice a2 SL c2, .slice a3 FL c3, .slice a4 LL c4] 48))
  have HK := hidden (blk_nw w #[.int .i64 n, .int .i64 f, .int .i64 d, .int .i64 p, .int .i64 r, .int .i64 dr, .int .i64 o, .int .i64 sl, .int .i64 md, .int .i64 fr, .slice ad zs.length cap, .slice a1 NL c1, .slice a2 SL c2, .slice a3 FL c3, .slice a4 LL c4] 48)
  have HP := hidden (refPlain_any n f d p r dr o sl md fr ad cap zs (w.alloc (.cells #[.int .i64 n, .int .i64 f, .int .i64 d, .int .i64 p, .int .i64 r, .int .i64 dr, .int .i64 o, .int .i64 sl, .int .i64 md, .int .i64 fr, .slice ad zs.length cap, .slice a1 NL c1, .slice a2 SL c2, .slice a3 FL c3, .slice a4 LL c4] 48)) hl (hT.below HB0.out))
  clear hT hA hS hF hL hpl hsl hfl hll
  have c0 := blk_cell HK.out
  have l0 := blk_lt HK.out
  by_cases hE : plainE n f d p r dr o sl md fr zs = 0
  · rw [hE] at HP
    by_cases h1 : (NL : Int) = n
    · have g1 : ((NL : Int) != n) = false := bne_eq_false_iff_eq.2 h1
      by_cases h2 : (SL : Int) = n
      · have g2 : ((SL : Int) != n) = false := bne_eq_false_iff_eq.2 h2
        by_cases h3 : (FL : Int) ≤ f
        · have g3 : decide (f < (FL : Int)) = false := decide_eq_false (by omega)
          have h4 : 1000 < LL := by
            apply Classical.byContradiction
            intro h4
            exact hall ⟨hE, h1, h2, h3, by omega⟩
          have g4 : decide ((1000 : Int) < (LL : Int)) = true := decide_eq_true (by omega)
          clear hall hE h1 h2 h3
          go_enter Try.func6, Try.ntmps6
          go_wp2_with fail
          refine HP.out.mono ?_
          rintro e w2 ⟨rfl, hb⟩
          have HBZ := hidden (bthen HB0.out hb)
          have HK2 := hidden (blk_later HK.out hb)
          clear hb HP c0 l0
          have c0 := blk_cell HK2.out
          have l0 := blk_lt HK2.out
          go_wp2_with fail
          refine (KN.out _).mono ?_
          rintro e w9 ⟨rfl, hb⟩
          have HB9 := hidden (bthen HBZ.out hb)
          clear hb c0 l0
          go_wp2
          go_ret
          exact ⟨rfl, HB9.out⟩
        · have g3 : decide (f < (FL : Int)) = true := decide_eq_true (by omega)
          clear hall hE h1 h2 h3
          go_enter Try.func6, Try.ntmps6
          go_wp2_with fail
          refine HP.out.mono ?_
          rintro e w2 ⟨rfl, hb⟩
          have HBZ := hidden (bthen HB0.out hb)
          have HK2 := hidden (blk_later HK.out hb)
          clear hb HP c0 l0
          have c0 := blk_cell HK2.out
          have l0 := blk_lt HK2.out
          go_wp2_with fail
          refine (KN.out _).mono ?_
          rintro e w9 ⟨rfl, hb⟩
          have HB9 := hidden (bthen HBZ.out hb)
          clear hb c0 l0
          go_wp2
          go_ret
          exact ⟨rfl, HB9.out⟩
      · have g2 : ((SL : Int) != n) = true := bne_iff_ne.2 h2
        clear hall hE h1 h2
        go_enter Try.func6, Try.ntmps6
        go_wp2_with fail
        refine HP.out.mono ?_
        rintro e w2 ⟨rfl, hb⟩
        have HBZ := hidden (bthen HB0.out hb)
        have HK2 := hidden (blk_later HK.out hb)
        clear hb HP c0 l0
        have c0 := blk_cell HK2.out
        have l0 := blk_lt HK2.out
        go_wp2_with fail
        refine (KN.out _).mono ?_
        rintro e w9 ⟨rfl, hb⟩
        have HB9 := hidden (bthen HBZ.out hb)
        clear hb c0 l0
        go_wp2
        go_ret
        exact ⟨rfl, HB9.out⟩
    · have g1 : ((NL : Int) != n) = true := bne_iff_ne.2 h1
      clear hall hE h1
      go_enter Try.func6, Try.ntmps6
      go_wp2_with fail
      refine HP.out.mono ?_
      rintro e w2 ⟨rfl, hb⟩
      have HBZ := hidden (bthen HB0.out hb)
      have HK2 := hidden (blk_later HK.out hb)
      clear hb HP c0 l0
      have c0 := blk_cell HK2.out
      have l0 := blk_lt HK2.out
      go_wp2_with fail
      refine (KN.out _).mono ?_
      rintro e w9 ⟨rfl, hb⟩
      have HB9 := hidden (bthen HBZ.out hb)
      clear hb c0 l0
      go_wp2
      go_ret
      exact ⟨rfl, HB9.out⟩
  · have j1 : (plainE n f d p r dr o sl md fr zs != 0) = true := bne_iff_ne.2 hE
    clear hall
    generalize plainE n f d p r dr o sl md fr zs = E at *
    clear hE
    go_enter Try.func6, Try.ntmps6
    go_wp2_with fail
    refine HP.out.mono ?_
    rintro e w2 ⟨rfl, hb⟩
    have HBZ := hidden (bthen HB0.out hb)
    have HK2 := hidden (blk_later HK.out hb)
    clear hb HP c0 l0
    have c0 := blk_cell HK2.out
    have l0 := blk_lt HK2.out
    go_wp2_with fail
    refine (KN.out _).mono ?_
    rintro e w9 ⟨rfl, hb⟩
    have HB9 := hidden (bthen HBZ.out hb)
    clear hb c0 l0
    go_wp2
    go_ret
    exact ⟨rfl, HB9.out⟩
end Go.Proofs.Ytohgmliafidalaa.LawAgreeTogether
