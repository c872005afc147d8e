/- Several texts of one's own in one: what each proves, and its conditions, is said ahead of it. -/
import Derived.Test.YtkolhbacgoafcaaGreatBd
import Derived.Test.YtkolhbacgoafcaaGreatBf
import Derived.Test.YtkolhbacgoafcaaGreatBc
import Derived.Test.YtkolhbacgoafcaaGreatBe

/- The document's calls Start, value, told, Step, Code and Read of layer 14 return what plain functions give, and make at most new memory; conditions: the table and the votes lie where they say, and lengths and numbers fit int. -/
namespace Go.Proofs.YtkolhbacgoafcaaGreat
open Go.ChangeShapes Go.WideShapes Go.ChangeAt Go.RowKit
set_option linter.unusedVariables false
attribute [local go_sem] cell_rg

theorem rStart_any (z : Int) (w : World) :
    Calls Tryz.prog 39 #[.int .i64 z] w fun e w' => e = .returned (agB (startF z)) ∧ Below w.heap.size w w' := by
  by_cases h : z = 1
  · subst h
    go_enter Tryz.func39, Tryz.ntmps39
    go_wp2
    exact bodyPost_ret (v := .agg #[.int .i64 1, .bool false]) (by simp [results, Tryz.results39, go_sem]) rfl ⟨rfl, ballc _ _⟩
  · have e : startF z = (0, false) := if_neg h
    rw [e]
    have e2 : (z == 1) = false := by simp [h]
    go_enter Tryz.func39, Tryz.ntmps39
    go_wp2
    exact bodyPost_ret (v := .agg #[.int .i64 0, .bool false]) (by simp [results, Tryz.results39, go_sem]) rfl ⟨rfl, ballc _ _⟩
theorem rvalue_any (b : Int × Bool) (w : World) :
    Calls Tryz.prog 64 #[.agg #[.int .i64 b.1, .bool b.2]] w fun e w' => e = .returned (.int .i64 (valF b)) ∧ Below w.heap.size w w' := by
  obtain ⟨v, s⟩ := b
  by_cases h : v < 0
  · rw [valF_lo h]
    have e1 : decide (v < 0) = true := decide_eq_true h
    go_enter Tryz.func64, Tryz.ntmps64
    go_wp2
    go_ret
    exact ⟨rfl, ballc _ _⟩
  · have e1 : decide (v < 0) = false := decide_eq_false h
    by_cases h2 : 3 ≤ v
    · rw [valF_hi h h2]
      have e2 : decide (2 < v) = true := decide_eq_true (by omega)
      go_enter Tryz.func64, Tryz.ntmps64
      go_wp2
      go_ret
      exact ⟨rfl, ballc _ _⟩
    · rw [valF_in h h2]
      have e2 : decide (2 < v) = false := decide_eq_false (by omega)
      go_enter Tryz.func64, Tryz.ntmps64
      go_wp2
      go_ret
      exact ⟨rfl, ballc _ _⟩
theorem rRead_any (c : Int) (w : World) :
    Calls Tryz.prog 78 #[.int .i64 c] w fun e w' => e = .returned (agB (readK c)) ∧ Below w.heap.size w w' := by
  by_cases h : c < 0
  · have e : readK c = (2, false) := if_pos (.inl h)
    rw [e]
    have e1 : decide (c < 0) = true := decide_eq_true h
    go_enter Tryz.func78, Tryz.ntmps78
    go_wp2
    exact bodyPost_ret (v := .agg #[.int .i64 2, .bool false]) (by simp [results, Tryz.results78, go_sem]) rfl ⟨rfl, ballc _ _⟩
  · have e1 : decide (c < 0) = false := decide_eq_false h
    by_cases h2 : 6 ≤ c
    · have e : readK c = (2, false) := if_pos (.inr h2)
      rw [e]
      have e2 : decide (5 < c) = true := decide_eq_true (by omega)
      go_enter Tryz.func78, Tryz.ntmps78
      go_wp2
      exact bodyPost_ret (v := .agg #[.int .i64 2, .bool false]) (by simp [results, Tryz.results78, go_sem]) rfl ⟨rfl, ballc _ _⟩
    · have e2 : decide (5 < c) = false := decide_eq_false (by omega)
      have e : readK c = (c.tmod 3, decide (3 ≤ c)) := if_neg (by omega)
      rw [e]
      have hc : c = 0 ∨ c = 1 ∨ c = 2 ∨ c = 3 ∨ c = 4 ∨ c = 5 := by omega
      clear e e1 e2 h h2
      rcases hc with rfl | rfl | rfl | rfl | rfl | rfl
      all_goals
        go_enter Tryz.func78, Tryz.ntmps78
        go_wp2
        refine bodyPost_ret (v := _) (by simp [results, Tryz.results78, go_sem]; rfl) rfl ⟨rfl, ?_⟩
        first | exact ballc _ _ | exact below2T (ballc _ _) (Nat.le_refl _) _ _
theorem rCode_any (b : Int × Bool) (w : World) :
    Calls Tryz.prog 38 #[.agg #[.int .i64 b.1, .bool b.2]] w fun e w' => e = .returned (.int .i64 (codeF b)) ∧ Below w.heap.size w w' := by
  obtain ⟨v, s⟩ := b
  have HV := hidden (fun V => rvalue_any (v, s) V)
  have hq := valF_bd (v, s)
  cases s
  · have e : codeF (v, false) = valF (v, false) := if_neg (by simp)
    rw [e]
    generalize valF (v, false) = q at *
    go_enter Tryz.func38, Tryz.ntmps38
    go_wp2_with fail
    refine (HV.out _).mono ?_
    rintro e w2 ⟨rfl, hb⟩
    have HB := hidden (bthen (ballc w _) hb)
    clear hb
    go_wp2
    go_ret
    exact ⟨rfl, HB.out⟩
  · have e : codeF (v, true) = valF (v, true) + 3 := (if_pos rfl).trans (Int.add_comm _ _)
    rw [e]
    generalize valF (v, true) = q at *
    go_enter Tryz.func38, Tryz.ntmps38
    go_wp2_with fail
    refine (HV.out _).mono ?_
    rintro e w2 ⟨rfl, hb⟩
    have HB := hidden (bthen (ballc w _) hb)
    clear hb
    go_wp2
    go_ret
    exact ⟨rfl, HB.out⟩

def toldF (k : Int) : Int := if k = 1 ∨ k = 2 then 1 else 0
theorem rtold_any (k : Int) (w : World) :
    Calls Tryz.prog 94 #[.int .i64 k] w fun e w' => e = .returned (.int .i64 (toldF k)) ∧ w = w' := by
  by_cases h1 : k = 1
  · subst h1
    go_enter Tryz.func94, Tryz.ntmps94
    go_wp2
    go_ret
    exact ⟨rfl, rfl⟩
  · have e1 : (k == 1) = false := by simp [h1]
    by_cases h2 : k = 2
    · subst h2
      clear h1
      go_enter Tryz.func94, Tryz.ntmps94
      go_wp2
      go_ret
      exact ⟨rfl, rfl⟩
    · have e2 : (k == 2) = false := by simp [h2]
      have e : toldF k = 0 := if_neg (by omega)
      rw [e]
      go_enter Tryz.func94, Tryz.ntmps94
      go_wp2
      go_ret
      exact ⟨rfl, rfl⟩
theorem obey_told {b : Int × Bool} {k : Int} (h : valF b = 2 ∨ b.2 = false) : obeyF b k = (toldF k, false) := by
  have hn : ¬ (valF b ≠ 2 ∧ b.2 = true) := by rintro ⟨h1, h2⟩; rcases h with h | h; exact h1 h; rw [h] at h2; cases h2
  unfold toldF
  by_cases h2 : k = 1 ∨ k = 2
  · rw [if_pos h2]; exact obeyF_1 hn h2
  · rw [if_neg h2]; exact obeyF_0 hn h2
set_option maxHeartbeats 2000000 in
theorem rKStep_any (n f d p r dr o sl md fr : Int) (ad : Option Addr) (cap : Nat) (zs : List Int) (x : Int) (b : Int × Bool) (k : Int) (a2 : Option Addr) (len c2 : Nat) (vs : List Int) (w : World) (hl : zs.length ≤ 9223372036854775807) (hT : Tab w ad zs) (hx : (Lit.int .i64 x).wf = true) (hlv : vs.length ≤ 9223372036854775807) (hV : kInt.Lies w.heap.size w (.slice a2 len c2) vs) :
    Calls Tryz.prog 77 #[.agg #[.int .i64 n, .int .i64 f, .int .i64 d, .int .i64 p, .int .i64 r, .int .i64 dr, .int .i64 o, .int .i64 sl, .int .i64 md, .int .i64 fr, .slice ad zs.length cap], .int .i64 x, .agg #[.int .i64 b.1, .bool b.2], .int .i64 k, .slice a2 len c2] w fun e w' => e = .returned (agB (stepF (plainE n f d p r dr o sl md fr zs) n f x b k vs)) ∧ Below w.heap.size w w' := by
  have hB0 : Below w.heap.size w (((w.alloc (.cells #[.int .i64 n, .int .i64 f, .int .i64 d, .int .i64 p, .int .i64 r, .int .i64 dr, .int .i64 o, .int .i64 sl, .int .i64 md, .int .i64 fr, .slice ad zs.length cap] 24)).alloc (.cells #[.int .i64 b.1, .bool b.2] 62)).alloc (.cells #[.int .i64 0, .bool false] 62)) := bthen (bthen (ballc w _) (ballc _ _)) (ballc _ _)
  have HT := hidden (hT.below hB0)
  have HV := hidden (hV.later hB0)
  have hk0 := blk_later (blk_later (blk_nw w #[.int .i64 n, .int .i64 f, .int .i64 d, .int .i64 p, .int .i64 r, .int .i64 dr, .int .i64 o, .int .i64 sl, .int .i64 md, .int .i64 fr, .slice ad zs.length cap] 24) (ballc _ (.cells #[.int .i64 b.1, .bool b.2] 62))) (ballc _ (.cells #[.int .i64 0, .bool false] 62))
  have hk1 := blk_later (blk_newAt (w.alloc (.cells #[.int .i64 n, .int .i64 f, .int .i64 d, .int .i64 p, .int .i64 r, .int .i64 dr, .int .i64 o, .int .i64 sl, .int .i64 md, .int .i64 fr, .slice ad zs.length cap] 24)) #[.int .i64 b.1, .bool b.2] 62 (b := w.heap.size + 1) (by simp)) (ballc _ (.cells #[.int .i64 0, .bool false] 62))
  have hk2 := blk_newAt ((w.alloc (.cells #[.int .i64 n, .int .i64 f, .int .i64 d, .int .i64 p, .int .i64 r, .int .i64 dr, .int .i64 o, .int .i64 sl, .int .i64 md, .int .i64 fr, .slice ad zs.length cap] 24)).alloc (.cells #[.int .i64 b.1, .bool b.2] 62)) #[.int .i64 0, .bool false] 62 (b := w.heap.size + 2) (by simp)
  have HK0 := hidden hk0
  have HK1 := hidden hk1
  have HK2 := hidden hk2
  have HB0 := hidden hB0
  have M1 := hidden (fun V h h2 => rMost_any n f d p r dr o sl md fr ad cap zs a2 len c2 vs V hl h hlv h2)
  have L1 := hidden (fun V h h2 => rLeast_any n f d p r dr o sl md fr ad cap zs (valF b) a2 len c2 vs V hl h hlv h2)
  have E1 := hidden (fun v V h h2 => rEnough_any n f d p r dr o sl md fr ad cap zs v a2 len c2 vs V hl h hlv h2)
  have TO := hidden (fun V => rtold_any k V)
  have ot := obey_told (b := b) (k := k)
  have os := obeyF_s (b := b) (k := k)
  have VA := hidden (fun V => rvalue_any b V)
  have HM := hidden (fun V => rmod_any x 3 V hx rfl)
  have s0 := stepF_0 (E := plainE n f d p r dr o sl md fr zs) (n := n) (f := f) (x := x) (b := b) (k := k) (vs := vs)
  have s1 := stepF_1 (E := plainE n f d p r dr o sl md fr zs) (n := n) (f := f) (x := x) (b := b) (k := k) (vs := vs)
  have s2 := stepF_2 (E := plainE n f d p r dr o sl md fr zs) (n := n) (f := f) (x := x) (b := b) (k := k) (vs := vs)
  have h3 := modF3 x
  clear hT hV hB0 hk0 hk1 hk2
  generalize plainE n f d p r dr o sl md fr zs = E at *
  generalize stepF E n f x b k vs = r at *
  obtain ⟨bv, bs⟩ := b
  dsimp only at *
  generalize mostF E n f vs = ms at *
  generalize valF (bv, bs) = q at *
  generalize leastF E f q vs = ls at *
  generalize modF x 3 = m at *
  have hm : m = 0 ∨ m = 1 ∨ m = 2 := by omega
  clear h3 hx
  rcases hm with rfl | rfl | rfl
  · obtain rfl := s0 rfl
    clear s0 s1 s2 L1 E1 TO ot os
    go_enter Tryz.func77, Tryz.ntmps77
    go_wp2_with fail
    generalize (((w.alloc (.cells #[.int .i64 n, .int .i64 f, .int .i64 d, .int .i64 p, .int .i64 r, .int .i64 dr, .int .i64 o, .int .i64 sl, .int .i64 md, .int .i64 fr, .slice ad zs.length cap] 24)).alloc (.cells #[.int .i64 bv, .bool bs] 62)).alloc (.cells #[.int .i64 0, .bool false] 62)) = W0 at *
    refine (VA.out _).mono ?_
    rintro e wv ⟨rfl, hb⟩
    have HB_wv := hidden (hb)
    clear hb
    have c0 := fun i => blk_cell (blk_later HK0.out HB_wv.out) i
    have c1 := fun i => blk_cell (blk_later HK1.out HB_wv.out) i
    have c2' := fun i => blk_cell (blk_later HK2.out HB_wv.out) i
    have l0 := blk_lt (blk_later HK0.out HB_wv.out)
    have l1 := blk_lt (blk_later HK1.out HB_wv.out)
    have l2 := blk_lt (blk_later HK2.out HB_wv.out)
    have fz := fun i => blk_frozen (blk_later HK2.out HB_wv.out) i
    go_wp2_with fail
    refine (HM.out _).mono ?_
    rintro e wm ⟨rfl, rfl⟩
    go_wp2_with fail
    refine (M1.out _ (HT.out.below HB_wv.out) (HV.out.later HB_wv.out)).mono ?_
    rintro e wa ⟨rfl, hb⟩
    have HB_wa := hidden (bthen HB_wv.out hb)
    clear hb c0 c1 c2' l0 l1 l2 fz
    have c0 := fun i => blk_cell (blk_later HK0.out HB_wa.out) i
    have c1 := fun i => blk_cell (blk_later HK1.out HB_wa.out) i
    have c2' := fun i => blk_cell (blk_later HK2.out HB_wa.out) i
    have l0 := blk_lt (blk_later HK0.out HB_wa.out)
    have l1 := blk_lt (blk_later HK1.out HB_wa.out)
    have l2 := blk_lt (blk_later HK2.out HB_wa.out)
    have fz := fun i => blk_frozen (blk_later HK2.out HB_wa.out) i
    go_wp2
    obtain ⟨r0, r1⟩ := read2T (blk_later HK2.out HB_wa.out) (.int .i64 ms) (.bool false)
    exact bodyPost_ret (v := .agg #[.int .i64 ms, .bool false]) (by simp [results, Tryz.results77, go_sem, r0, r1]) rfl ⟨rfl, below2T (bthen HB0.out HB_wa.out) (by omega) _ _⟩
  · obtain rfl := s1 rfl
    clear s0 s1 s2 M1 TO ot os
    have E2 := hidden (E1.out ls)
    clear E1
    generalize enoughB E n f ls vs = en at *
    go_enter Tryz.func77, Tryz.ntmps77
    go_wp2_with fail
    generalize (((w.alloc (.cells #[.int .i64 n, .int .i64 f, .int .i64 d, .int .i64 p, .int .i64 r, .int .i64 dr, .int .i64 o, .int .i64 sl, .int .i64 md, .int .i64 fr, .slice ad zs.length cap] 24)).alloc (.cells #[.int .i64 bv, .bool bs] 62)).alloc (.cells #[.int .i64 0, .bool false] 62)) = W0 at *
    refine (VA.out _).mono ?_
    rintro e wv ⟨rfl, hb⟩
    have HB_wv := hidden (hb)
    clear hb
    have c0 := fun i => blk_cell (blk_later HK0.out HB_wv.out) i
    have c1 := fun i => blk_cell (blk_later HK1.out HB_wv.out) i
    have c2' := fun i => blk_cell (blk_later HK2.out HB_wv.out) i
    have l0 := blk_lt (blk_later HK0.out HB_wv.out)
    have l1 := blk_lt (blk_later HK1.out HB_wv.out)
    have l2 := blk_lt (blk_later HK2.out HB_wv.out)
    have fz := fun i => blk_frozen (blk_later HK2.out HB_wv.out) i
    go_wp2_with fail
    refine (HM.out _).mono ?_
    rintro e wm ⟨rfl, rfl⟩
    go_wp2_with fail
    refine (HM.out _).mono ?_
    rintro e wm2 ⟨rfl, rfl⟩
    go_wp2_with fail
    refine (L1.out _ (HT.out.below HB_wv.out) (HV.out.later HB_wv.out)).mono ?_
    rintro e wb ⟨rfl, hb⟩
    have HB_wb := hidden (bthen HB_wv.out hb)
    clear hb c0 c1 c2' l0 l1 l2 fz
    have c0 := fun i => blk_cell (blk_later HK0.out HB_wb.out) i
    have c1 := fun i => blk_cell (blk_later HK1.out HB_wb.out) i
    have c2' := fun i => blk_cell (blk_later HK2.out HB_wb.out) i
    have l0 := blk_lt (blk_later HK0.out HB_wb.out)
    have l1 := blk_lt (blk_later HK1.out HB_wb.out)
    have l2 := blk_lt (blk_later HK2.out HB_wb.out)
    have fz := fun i => blk_frozen (blk_later HK2.out HB_wb.out) i
    go_wp2_with fail
    refine (E2.out _ (HT.out.below HB_wb.out) (HV.out.later HB_wb.out)).mono ?_
    rintro e wc ⟨rfl, hb⟩
    have HB_wc := hidden (bthen HB_wb.out hb)
    clear hb c0 c1 c2' l0 l1 l2 fz
    have c0 := fun i => blk_cell (blk_later HK0.out HB_wc.out) i
    have c1 := fun i => blk_cell (blk_later HK1.out HB_wc.out) i
    have c2' := fun i => blk_cell (blk_later HK2.out HB_wc.out) i
    have l0 := blk_lt (blk_later HK0.out HB_wc.out)
    have l1 := blk_lt (blk_later HK1.out HB_wc.out)
    have l2 := blk_lt (blk_later HK2.out HB_wc.out)
    have fz := fun i => blk_frozen (blk_later HK2.out HB_wc.out) i
    go_wp2
    obtain ⟨r0, r1⟩ := read2T (blk_later HK2.out HB_wc.out) (.int .i64 ls) (.bool en)
    exact bodyPost_ret (v := .agg #[.int .i64 ls, .bool en]) (by simp [results, Tryz.results77, go_sem, r0, r1]) rfl ⟨rfl, below2T (bthen HB0.out HB_wc.out) (by omega) _ _⟩
  · obtain rfl := s2 rfl
    clear s0 s1 s2 M1 L1 E1
    by_cases hq : q = 2
    · have g1 : (q == 2) = true := by simp [hq]
      rw [ot (.inl hq)]
      generalize toldF k = tk at *
      clear ot os
      go_enter Tryz.func77, Tryz.ntmps77
      go_wp2_with fail
      generalize (((w.alloc (.cells #[.int .i64 n, .int .i64 f, .int .i64 d, .int .i64 p, .int .i64 r, .int .i64 dr, .int .i64 o, .int .i64 sl, .int .i64 md, .int .i64 fr, .slice ad zs.length cap] 24)).alloc (.cells #[.int .i64 bv, .bool bs] 62)).alloc (.cells #[.int .i64 0, .bool false] 62)) = W0 at *
      refine (VA.out _).mono ?_
      rintro e wv ⟨rfl, hb⟩
      have HB_wv := hidden (hb)
      clear hb
      have c0 := fun i => blk_cell (blk_later HK0.out HB_wv.out) i
      have c1 := fun i => blk_cell (blk_later HK1.out HB_wv.out) i
      have c2' := fun i => blk_cell (blk_later HK2.out HB_wv.out) i
      have l0 := blk_lt (blk_later HK0.out HB_wv.out)
      have l1 := blk_lt (blk_later HK1.out HB_wv.out)
      have l2 := blk_lt (blk_later HK2.out HB_wv.out)
      have fz := fun i => blk_frozen (blk_later HK2.out HB_wv.out) i
      go_wp2_with fail
      refine (HM.out _).mono ?_
      rintro e wm ⟨rfl, rfl⟩
      go_wp2_with fail
      refine (HM.out _).mono ?_
      rintro e wm2 ⟨rfl, rfl⟩
      go_wp2_with fail
      refine (TO.out _).mono ?_
      rintro e wt ⟨rfl, rfl⟩
      go_wp2
      obtain ⟨r0, r1⟩ := read2T (blk_later HK2.out HB_wv.out) (.int .i64 tk) (.bool false)
      exact bodyPost_ret (v := .agg #[.int .i64 tk, .bool false]) (by simp [results, Tryz.results77, go_sem, r0, r1]) rfl ⟨rfl, below2T (bthen HB0.out HB_wv.out) (by omega) _ _⟩
    · have g1 : (q == 2) = false := by simp [hq]
      cases bs
      · rw [ot (.inr rfl)]
        generalize toldF k = tk at *
        clear ot os
        go_enter Tryz.func77, Tryz.ntmps77
        go_wp2_with fail
        generalize (((w.alloc (.cells #[.int .i64 n, .int .i64 f, .int .i64 d, .int .i64 p, .int .i64 r, .int .i64 dr, .int .i64 o, .int .i64 sl, .int .i64 md, .int .i64 fr, .slice ad zs.length cap] 24)).alloc (.cells #[.int .i64 bv, .bool false] 62)).alloc (.cells #[.int .i64 0, .bool false] 62)) = W0 at *
        refine (VA.out _).mono ?_
        rintro e wv ⟨rfl, hb⟩
        have HB_wv := hidden (hb)
        clear hb
        have c0 := fun i => blk_cell (blk_later HK0.out HB_wv.out) i
        have c1 := fun i => blk_cell (blk_later HK1.out HB_wv.out) i
        have c2' := fun i => blk_cell (blk_later HK2.out HB_wv.out) i
        have l0 := blk_lt (blk_later HK0.out HB_wv.out)
        have l1 := blk_lt (blk_later HK1.out HB_wv.out)
        have l2 := blk_lt (blk_later HK2.out HB_wv.out)
        have fz := fun i => blk_frozen (blk_later HK2.out HB_wv.out) i
        go_wp2_with fail
        refine (HM.out _).mono ?_
        rintro e wm ⟨rfl, rfl⟩
        go_wp2_with fail
        refine (HM.out _).mono ?_
        rintro e wm2 ⟨rfl, rfl⟩
        go_wp2_with fail
        refine (TO.out _).mono ?_
        rintro e wt ⟨rfl, rfl⟩
        go_wp2
        obtain ⟨r0, r1⟩ := read2T (blk_later HK2.out HB_wv.out) (.int .i64 tk) (.bool false)
        exact bodyPost_ret (v := .agg #[.int .i64 tk, .bool false]) (by simp [results, Tryz.results77, go_sem, r0, r1]) rfl ⟨rfl, below2T (bthen HB0.out HB_wv.out) (by omega) _ _⟩
      · rw [os hq rfl]
        clear ot os TO
        go_enter Tryz.func77, Tryz.ntmps77
        go_wp2_with fail
        generalize (((w.alloc (.cells #[.int .i64 n, .int .i64 f, .int .i64 d, .int .i64 p, .int .i64 r, .int .i64 dr, .int .i64 o, .int .i64 sl, .int .i64 md, .int .i64 fr, .slice ad zs.length cap] 24)).alloc (.cells #[.int .i64 bv, .bool true] 62)).alloc (.cells #[.int .i64 0, .bool false] 62)) = W0 at *
        refine (VA.out _).mono ?_
        rintro e wv ⟨rfl, hb⟩
        have HB_wv := hidden (hb)
        clear hb
        have c0 := fun i => blk_cell (blk_later HK0.out HB_wv.out) i
        have c1 := fun i => blk_cell (blk_later HK1.out HB_wv.out) i
        have c2' := fun i => blk_cell (blk_later HK2.out HB_wv.out) i
        have l0 := blk_lt (blk_later HK0.out HB_wv.out)
        have l1 := blk_lt (blk_later HK1.out HB_wv.out)
        have l2 := blk_lt (blk_later HK2.out HB_wv.out)
        have fz := fun i => blk_frozen (blk_later HK2.out HB_wv.out) i
        go_wp2_with fail
        refine (HM.out _).mono ?_
        rintro e wm ⟨rfl, rfl⟩
        go_wp2_with fail
        refine (HM.out _).mono ?_
        rintro e wm2 ⟨rfl, rfl⟩
        go_wp2
        obtain ⟨r0, r1⟩ := read2T (blk_later HK2.out HB_wv.out) (.int .i64 q) (.bool false)
        exact bodyPost_ret (v := .agg #[.int .i64 q, .bool false]) (by simp [results, Tryz.results77, go_sem, r0, r1]) rfl ⟨rfl, below2T (bthen HB0.out HB_wv.out) (by omega) _ _⟩
end Go.Proofs.YtkolhbacgoafcaaGreat

/- The document's own Byte returns a text of one byte, and makes at most new memory; no conditions. -/
namespace Go.Proofs.YtkolhbacgoafcaaGreat
open Go.ChangeShapes Go.WideShapes Go.ChangeAt Go.RowKit
set_option linter.unusedVariables false

theorem rbyte_any (n : Int) (w : World) :
    Calls Tryz.prog 37 #[.int .i64 n] w fun e w' => e = .returned (.string (numStr [n % 256])) ∧ Below w.heap.size w w' := by
  have hcv := conv_cells w [n % 256] 1
  simp only [List.map_cons, List.map_nil, List.length_cons, List.length_nil, Nat.zero_add] at hcv
  go_enter Tryz.func37, Tryz.ntmps37
  go_wp2
  go_ret
  exact ⟨rfl, (Below.refl _ _).alloc (Nat.le_refl _) _⟩
theorem numStr_size (zs : List Int) : (numStr zs).size = zs.length := by simp [numStr, ByteArray.size]
theorem numStr_append (a b : List Int) : numStr a ++ numStr b = numStr (a ++ b) := by
  apply ByteArray.ext
  simp [numStr, ByteArray.data_append]
theorem numStr_nil : (ByteArray.mk #[]) = numStr [] := rfl
end Go.Proofs.YtkolhbacgoafcaaGreat

/- The document's calls bit, code, digit, Of, Values, Vote, Step, Number and Bits of layer 16 return what plain functions give, and make at most new memory; conditions: rows lie where they say, lengths fit int. -/
namespace Go.Proofs.YtkolhbacgoafcaaGreat
open Go.ChangeShapes Go.WideShapes Go.ChangeAt Go.RowKit
set_option linter.unusedVariables false
attribute [local go_sem] cell_rg

def ubit (c : Int) : Int := if c = 49 then 1 else 0
theorem ubit_vdg {s : ByteArray} {k : Nat} (h : k < s.size) : ubit ((s[k]'h).toNat : Int) = if vdg 1 s k = 1 then 1 else 0 := by
  unfold ubit vdg
  rw [dif_pos h]
  generalize ((s[k]'h).toNat : Int) = c
  by_cases e : c = 49
  · subst e; decide
  · rw [if_neg e]
    symm
    apply if_neg
    split <;> omega
theorem start_ubit {s : ByteArray} {k : Nat} (h : k < s.size) : startF (ubit ((s[k]'h).toNat : Int)) = startF (vdg 1 s k) := by
  rw [ubit_vdg h]
  unfold startF
  by_cases e : vdg 1 s k = 1 <;> simp [e]
theorem rdigit_any (b : Int × Bool) (w : World) :
    Calls Tryz.prog 76 #[.agg #[.int .i64 b.1, .bool b.2]] w fun e w' => e = .returned (.string (ba [UInt8.ofNat (48 + (codeF b).toNat)])) ∧ Below w.heap.size w w' := by
  obtain ⟨v, s⟩ := b
  have C1 := hidden (fun V => rCode_any (v, s) V)
  have hb := codeF_bd (v, s)
  generalize codeF (v, s) = q at *
  have C2 := hidden (fun V => rbyte_any (48 + q) V)
  have HE : Hid (numStr [(48 + q) % 256] = ba [UInt8.ofNat (48 + q.toNat)]) := by
    show _ = _
    rw [numStr_one, show ((48 + q) % 256).toNat = 48 + q.toNat by omega]
  rw [HE.out] at C2
  dsimp only at C1
  generalize ba [UInt8.ofNat (48 + q.toNat)] = out at *
  go_enter Tryz.func76, Tryz.ntmps76
  go_wp2_with fail
  refine (C1.out _).mono ?_
  rintro e w2 ⟨rfl, hb⟩
  have HB2 := hidden (bthen (ballc w _) hb)
  clear hb
  go_wp2_with fail
  refine (C2.out _).mono ?_
  rintro e w3 ⟨rfl, hb⟩
  have HB3 := hidden (bthen HB2.out hb)
  clear hb
  go_wp2
  go_ret
  exact ⟨rfl, HB3.out⟩
theorem rcode_any (s : ByteArray) (k : Nat) (h : k < s.size) (w : World) :
    Calls Tryz.prog 63 #[.int .u8 ((s[k]'h).toNat : Int)] w fun e w' => e = .returned (agB (bitK s k)) ∧ Below w.heap.size w w' := by
  have HB : Hid (bitK s k = readK (vdg 5 s k)) := rfl
  have hno := fun q => vdg_no (last := 5) h q
  have hin := fun q r => vdg_in (last := 5) h q r
  have hlt := (s[k]'h).toNat_lt
  rw [HB.out]
  generalize vdg 5 s k = z at *
  generalize hc : ((s[k]'h).toNat : Int) = c at *
  have hc0 : 0 ≤ c ∧ c < 256 := by omega
  clear hc hlt HB
  by_cases h1 : c < 48
  · obtain rfl := hno (.inl h1)
    have d1 : decide (c < 48) = true := decide_eq_true h1
    have C1 := hidden (fun V => rRead_any (-1) V)
    generalize readK (-1) = b at *
    obtain ⟨bv, bs⟩ := b
    unfold agB at C1 ⊢
    dsimp only at C1 ⊢
    clear hno hin h1
    go_enter Tryz.func63, Tryz.ntmps63
    go_wp2_with fail
    refine (C1.out _).mono ?_
    rintro e w2 ⟨rfl, hb⟩
    have hk := blk_later (blk_nw w #[.int .i64 0, .bool false] 62) hb
    have c0 := fun i => blk_cell hk i
    have f0 := fun i => blk_frozen hk i
    have l0 := blk_lt hk
    have HB := hidden (bthen (ballc w _) hb)
    have HK := hidden hk
    clear hb hk
    go_wp2
    obtain ⟨r0, r1⟩ := read2T HK.out (.int .i64 bv) (.bool bs)
    exact bodyPost_ret (v := .agg #[.int .i64 bv, .bool bs]) (by simp [results, Tryz.results63, go_sem, r0, r1]) rfl ⟨rfl, below2T HB.out (Nat.le_refl _) _ _⟩
  · have d1 : decide (c < 48) = false := decide_eq_false h1
    by_cases h2 : 53 < c
    · obtain rfl := hno (.inr (by omega))
      have d2 : decide (53 < c) = true := decide_eq_true h2
      have C1 := hidden (fun V => rRead_any (-1) V)
      generalize readK (-1) = b at *
      obtain ⟨bv, bs⟩ := b
      unfold agB at C1 ⊢
      dsimp only at C1 ⊢
      clear hno hin h1 h2
      go_enter Tryz.func63, Tryz.ntmps63
      go_wp2_with fail
      refine (C1.out _).mono ?_
      rintro e w2 ⟨rfl, hb⟩
      have hk := blk_later (blk_nw w #[.int .i64 0, .bool false] 62) hb
      have c0 := fun i => blk_cell hk i
      have f0 := fun i => blk_frozen hk i
      have l0 := blk_lt hk
      have HB := hidden (bthen (ballc w _) hb)
      have HK := hidden hk
      clear hb hk
      go_wp2
      obtain ⟨r0, r1⟩ := read2T HK.out (.int .i64 bv) (.bool bs)
      exact bodyPost_ret (v := .agg #[.int .i64 bv, .bool bs]) (by simp [results, Tryz.results63, go_sem, r0, r1]) rfl ⟨rfl, below2T HB.out (Nat.le_refl _) _ _⟩
    · have d2 : decide (53 < c) = false := decide_eq_false h2
      have e := hin h1 (by omega)
      have C1 := hidden (fun V => rRead_any (c - 48) V)
      rw [e]
      generalize readK (c - 48) = b at *
      obtain ⟨bv, bs⟩ := b
      unfold agB at C1 ⊢
      dsimp only at C1 ⊢
      clear hno hin e
      go_enter Tryz.func63, Tryz.ntmps63
      go_wp2_with fail
      refine (C1.out _).mono ?_
      rintro e w2 ⟨rfl, hb⟩
      have hk := blk_later (blk_nw w #[.int .i64 0, .bool false] 62) hb
      have c0 := fun i => blk_cell hk i
      have f0 := fun i => blk_frozen hk i
      have l0 := blk_lt hk
      have HB := hidden (bthen (ballc w _) hb)
      have HK := hidden hk
      clear hb hk
      go_wp2
      obtain ⟨r0, r1⟩ := read2T HK.out (.int .i64 bv) (.bool bs)
      exact bodyPost_ret (v := .agg #[.int .i64 bv, .bool bs]) (by simp [results, Tryz.results63, go_sem, r0, r1]) rfl ⟨rfl, below2T HB.out (Nat.le_refl _) _ _⟩
theorem rVote_any (s : ByteArray) (k : Nat) (w : World) (hs : s.size ≤ 9223372036854775807) :
    Calls Tryz.prog 75 #[.string s, .int .i64 (k : Int)] w fun e w' => e = .returned (.int .i64 (vdg 2 s k)) ∧ w = w' := by
  have d0 : decide ((k : Int) < 0) = false := decide_eq_false (by omega)
  by_cases h2 : s.size ≤ k
  · have d3 : decide (s.size ≤ k) = true := decide_eq_true h2
    have d3' : (s.size : Int) ≤ (k : Int) := by omega
    have e := hidden (vdg_out (last := 2) h2)
    go_enter Tryz.func75, Tryz.ntmps75
    go_wp2
    go_ret
    exact ⟨ret_i e.out.symm, rfl⟩
  · have hj : k < s.size := by omega
    have d2 : decide (s.size ≤ k) = false := decide_eq_false h2
    have d3 : decide ((s.size : Int) ≤ (k : Int)) = false := decide_eq_false (by omega)
    have hb := (s[k]'hj).toNat_lt
    by_cases h3 : ((s[k]'hj).toNat : Int) < 48
    · have e := hidden (vdg_no (last := 2) hj (.inl h3))
      have d4 : decide (((s[k]'hj).toNat : Int) < 48) = true := decide_eq_true h3
      go_enter Tryz.func75, Tryz.ntmps75
      go_wp2
      go_ret
      exact ⟨ret_i e.out.symm, rfl⟩
    · have d4 : decide (((s[k]'hj).toNat : Int) < 48) = false := decide_eq_false h3
      by_cases h4 : (50 : Int) < ((s[k]'hj).toNat : Int)
      · have e := hidden (vdg_no (last := 2) hj (.inr h4))
        have d5 : decide ((50 : Int) < ((s[k]'hj).toNat : Int)) = true := decide_eq_true h4
        go_enter Tryz.func75, Tryz.ntmps75
        go_wp2
        go_ret
        exact ⟨ret_i e.out.symm, rfl⟩
      · have e := hidden (vdg_in (last := 2) hj h3 h4)
        have d5 : decide ((50 : Int) < ((s[k]'hj).toNat : Int)) = false := decide_eq_false h4
        go_enter Tryz.func75, Tryz.ntmps75
        go_wp2
        go_ret
        exact ⟨ret_i e.out.symm, rfl⟩
set_option maxHeartbeats 1000000 in
theorem rValues_any (s : ByteArray) (hs : s.size ≤ 100000) (w : World) :
    Calls Tryz.prog 34 #[.string s] w fun e w' => e = .returned (.string (dgB s.size (valG s))) ∧ Below w.heap.size w w' := by
  go_enter Tryz.func34, Tryz.ntmps34
  go_wp2
  go_loopw [3, 4] (fun a i wr => ∃ k : Nat, k ≤ s.size ∧ i = .int .i64 k ∧ a = .string (dgB k (valG s)) ∧ Below w.heap.size w wr) (fun _ i _ => s.size - (intV i).toNat)
  case atStart => exact ⟨0, Nat.zero_le _, rfl, rfl, Below.refl _ _⟩
  case round =>
    obtain ⟨k, hk, rfl, rfl, hB⟩ := hrel
    have HB := hidden hB
    clear hB
    by_cases hlt : k < s.size
    · have i2 : (k : Int) < (s.size : Int) := by omega
      have C1 := hidden (fun V => rcode_any s k hlt V)
      have hv := valG_int s k
      have hbd := valG_bd s k
      have z1 : (dgB k (valG s)).size ≤ 100000 := by rw [dgB_size]; omega
      have z2 : ∀ c, (ba [c]).size = 1 := fun _ => rfl
      have HS : Hid (dgB (k + 1) (valG s) = dgB k (valG s) ++ ba [UInt8.ofNat (48 + valG s k)]) := dgB_s k (valG s)
      generalize bitK s k = b at *
      obtain ⟨bv, bs⟩ := b
      unfold agB at C1
      dsimp only at C1 hv
      have C3 := hidden (fun V => rbyte_any (48 + bv) V)
      have HE : Hid (numStr [(48 + bv) % 256] = ba [UInt8.ofNat (48 + valG s k)]) := by
        show _ = _
        rw [numStr_one, show ((48 + bv) % 256).toNat = 48 + valG s k by omega]
      rw [HE.out] at C3
      have hfd : ∀ V : World, (Instr.field 62 (.agg #[.int .i64 bv, .bool bs]) 0).run Tryz.prog V = .ok (.int .i64 bv) V := fun _ => by kernel_rfl
      clear HE
      have z3 := z2 (UInt8.ofNat (48 + valG s k))
      clear z2
      generalize ba [UInt8.ofNat (48 + valG s k)] = dd at *
      generalize dgB k (valG s) = cur at *
      have hbv : 0 ≤ bv ∧ bv ≤ 2 := by omega
      clear hv hbd
      go_wp2_with fail
      refine (C1.out _).mono ?_
      rintro e w2 ⟨rfl, hb⟩
      have HB3 := hidden (bthen HB.out hb)
      clear hb
      go_wp2_with fail
      refine (C3.out _).mono ?_
      rintro e w4 ⟨rfl, hb⟩
      have HB4 := hidden (bthen HB3.out hb)
      clear hb
      go_wp2
      go_roundw
      case rel => exact ⟨k + 1, by omega, by go_num, by rw [HS.out], HB4.out⟩
      case measure => simp [intV]; omega
    · obtain rfl : k = s.size := by omega
      go_wp2
      go_ret
      exact ⟨rfl, HB.out⟩
theorem numG_stay {s : ByteArray} : ∀ k j, s.size ≤ k → numG s (k + j) = numG s k
  | k, 0, h => rfl
  | k, j + 1, h => by
    rw [show k + (j + 1) = (k + j) + 1 by omega]
    show numG s (k + j) + (if vdg 1 s (k + j) = 1 then 2 ^ (k + j) else 0) = _
    rw [vdg_out (by omega), if_neg (by decide), Nat.add_zero, numG_stay k j h]
set_option maxHeartbeats 4000000 in
theorem rVStep_any (n f d p r dr o sl md fr : Int) (ad : Option Addr) (cap : Nat) (zs : List Int) (x : Int) (codes told : ByteArray) (a2 : Option Addr) (c2 : Nat) (votes : List ByteArray) (w : World) (hl : zs.length ≤ 9223372036854775807) (hT : Tab w ad zs) (hx : (Lit.int .i64 x).wf = true)
    (hs1 : codes.size ≤ 100000) (hs2 : told.size ≤ 9223372036854775807) (hn : votes.length ≤ 100000) (hV : kStr.Lies w.heap.size w (.slice a2 votes.length c2) votes) (hz : ∀ t ∈ votes, t.size ≤ 9223372036854775807) :
    Calls Tryz.prog 62 #[.agg #[.int .i64 n, .int .i64 f, .int .i64 d, .int .i64 p, .int .i64 r, .int .i64 dr, .int .i64 o, .int .i64 sl, .int .i64 md, .int .i64 fr, .slice ad zs.length cap], .int .i64 x, .string codes, .string told, .slice a2 votes.length c2] w fun e w' => e = .returned (.string (dgB codes.size (stpG (plainE n f d p r dr o sl md fr zs) n f x codes told votes))) ∧ Below w.heap.size w w' := by
  have HT := hidden (hT.below (ballc w (.cells #[.int .i64 n, .int .i64 f, .int .i64 d, .int .i64 p, .int .i64 r, .int .i64 dr, .int .i64 o, .int .i64 sl, .int .i64 md, .int .i64 fr, .slice ad zs.length cap] 24)))
  have HV := hidden (hV.later (ballc w (.cells #[.int .i64 n, .int .i64 f, .int .i64 d, .int .i64 p, .int .i64 r, .int .i64 dr, .int .i64 o, .int .i64 sl, .int .i64 md, .int .i64 fr, .slice ad zs.length cap] 24)))
  have HK := hidden (blk_nw w #[.int .i64 n, .int .i64 f, .int .i64 d, .int .i64 p, .int .i64 r, .int .i64 dr, .int .i64 o, .int .i64 sl, .int .i64 md, .int .i64 fr, .slice ad zs.length cap] 24)
  have HB0 := hidden (ballc w (.cells #[.int .i64 n, .int .i64 f, .int .i64 d, .int .i64 p, .int .i64 r, .int .i64 dr, .int .i64 o, .int .i64 sl, .int .i64 md, .int .i64 fr, .slice ad zs.length cap] 24))
  have HZ := hidden hz
  obtain ⟨i0, hi, hz0, hz1, hz2⟩ := info_of infoInt
  clear hT hV hz
  go_enter Tryz.func62, Tryz.ntmps62
  go_wp2
  generalize w.alloc (.cells #[.int .i64 n, .int .i64 f, .int .i64 d, .int .i64 p, .int .i64 r, .int .i64 dr, .int .i64 o, .int .i64 sl, .int .i64 md, .int .i64 fr, .slice ad zs.length cap] 24) = wa at *
  go_loopw [11, 12] (fun a i wr => ∃ k : Nat, k ≤ codes.size ∧ i = .int .i64 k ∧ a = .string (dgB k (stpG (plainE n f d p r dr o sl md fr zs) n f x codes told votes)) ∧ Below wa.heap.size wa wr) (fun _ i _ => codes.size - (intV i).toNat)
  case atStart => exact ⟨0, Nat.zero_le _, rfl, rfl, Below.refl _ _⟩
  case round =>
    obtain ⟨k, hk, rfl, rfl, hB⟩ := hrel
    have HB := hidden hB
    clear hB
    by_cases hlt : k < codes.size
    · have i2 : (k : Int) < (codes.size : Int) := by omega
      have z1 : (dgB k (stpG (plainE n f d p r dr o sl md fr zs) n f x codes told votes)).size ≤ 100000 := by rw [dgB_size]; omega
      have HS : Hid (dgB (k + 1) (stpG (plainE n f d p r dr o sl md fr zs) n f x codes told votes) = dgB k (stpG (plainE n f d p r dr o sl md fr zs) n f x codes told votes) ++ ba [UInt8.ofNat (48 + stpG (plainE n f d p r dr o sl md fr zs) n f x codes told votes k)]) := dgB_s k _
      generalize hcur : dgB k (stpG (plainE n f d p r dr o sl md fr zs) n f x codes told votes) = cur at *
      have HCUR := hidden hcur
      clear hcur
      obtain ⟨wY, rfl⟩ : ∃ wY, wY = wr := ⟨_, rfl⟩
      go_wp2
      go_loopw [13, 14] (fun a i wr => ∃ j : Nat, j ≤ votes.length ∧ i = .int .i64 j ∧ wr.ownsRow wY.heap.size 3 1 a j (kInt.flat (votesP (votes.take j) k)) ∧ Below wY.heap.size wY wr) (fun _ i _ => votes.length - (intV i).toNat)
      case atStart => exact ⟨0, Nat.zero_le _, rfl, World.ownsRow_nil _ _ _ _, Below.refl _ _⟩
      case round =>
        obtain ⟨j, hj, rfl, hown, hB⟩ := hrel
        have HBj := hidden hB
        have HO := hidden hown
        have hBB := bthen HB.out hB
        by_cases hjl : j < votes.length
        · have j2 : (j : Int) < (votes.length : Int) := by omega
          obtain ⟨b, off, rfl, hbl, e0⟩ := kStr_at (HV.out.later hBB) j hjl
          have hm : votes.getD j noB ∈ votes := by rw [List.getD_eq_getElem?_getD, List.getElem?_eq_getElem hjl, Option.getD_some]; exact List.getElem_mem hjl
          have C1 := hidden (fun V => rVote_any (votes.getD j noB) k V (HZ.out _ hm))
          have HTK : Hid (votesP (votes.take (j + 1)) k = votesP (votes.take j) k ++ [vdg 2 (votes.getD j noB) k]) := by
            show _ = _
            unfold votesP
            rw [List.take_succ_eq_append_getElem hjl, List.map_append, List.getD_eq_getElem?_getD, List.getElem?_eq_getElem hjl, Option.getD_some]
            rfl
          clear hB hown hBB hm
          generalize vdg 2 (votes.getD j noB) k = z at *
          generalize votes.getD j noB = t at *
          go_wp2_with (first
            | (go_at_call 75; refine (C1.out _).mono ?_; rintro e w4 ⟨rfl, rfl⟩)
            | (at_builtin; refine kInt.wpList_append _ rfl (.tmp 27) (.tmp 34) 22 rfl wY.heap.size 3 i0 (.int .i64 0) 8 Tryz.underlying22 hi hz0 hz1 hz2 rfl u13 j _ rfl (HO.out.alloc _) (.slice (some ⟨wr.heap.size, 0, none⟩) 1 1) [z] rfl (Kind.Lies.of_block (K := kInt) (es := [z]) (heap_alloc_new wr _) (by simp [maxLen])) (by simp only [maxLen, List.length_singleton]; omega) (by simp only [List.length_singleton]; omega) (by have := HBj.out.size; simp; omega) ?_; intro v3 w3 hown3 hgrow3 _))
          have hB3 : Below wY.heap.size wY w3 := (HBj.out.alloc HBj.out.size _).grown hgrow3 (by have := HBj.out.size; simp; omega) (own_from HO.out)
          have hrow : w3.ownsRow wY.heap.size 3 1 v3 (j + 1) (kInt.flat (votesP (votes.take (j + 1)) k)) := by
            rw [HTK.out, Kind.flat_append]
            exact hown3
          go_roundw
          case rel => exact ⟨j + 1, by omega, by go_num, hrow, hB3⟩
          case measure => simp [intV]; omega
        · obtain rfl : j = votes.length := by omega
          rw [List.take_length] at hown
          obtain ⟨al, cl, rfl⟩ := own_slice hown
          have hli := hidden (Kind.Lies.of_own (K := kInt) (es := votesP votes k) (by rw [votesP_len]; exact hown))
          have HBB := hidden hBB
          have HKr := hidden (blk_later HK.out hBB)
          have c0 := fun i => blk_cell HKr.out i
          have l0 := blk_lt HKr.out
          have HTr := hidden (HT.out.below hBB)
          have i1 : (0 : Int) ≤ (k : Int) := by omega
          have C1 := hidden (fun V => rcode_any codes k hlt V)
          have C2 := hidden (fun V => rVote_any told k V hs2)
          have C3 := hidden (fun V h1 h2 => rKStep_any n f d p r dr o sl md fr ad cap zs x (bitK codes k) (vdg 2 told k) al votes.length cl (votesP votes k) V hl h1 hx (by rw [votesP_len]; omega) h2)
          have C4 := hidden (fun V => rdigit_any (stpB (plainE n f d p r dr o sl md fr zs) n f x codes told votes k) V)
          have HR : Hid (stpB (plainE n f d p r dr o sl md fr zs) n f x codes told votes k = stepF (plainE n f d p r dr o sl md fr zs) n f x (bitK codes k) (vdg 2 told k) (votesP votes k)) := rfl
          rw [← HR.out] at C3
          have HG : Hid (48 + stpG (plainE n f d p r dr o sl md fr zs) n f x codes told votes k = 48 + (codeF (stpB (plainE n f d p r dr o sl md fr zs) n f x codes told votes k)).toNat) := rfl
          rw [HG.out] at HS
          clear HR HG hown hB hBB HO
          have z3 : (ba [UInt8.ofNat (48 + (codeF (stpB (plainE n f d p r dr o sl md fr zs) n f x codes told votes k)).toNat)]).size = 1 := rfl
          generalize ba [UInt8.ofNat (48 + (codeF (stpB (plainE n f d p r dr o sl md fr zs) n f x codes told votes k)).toNat)] = dd at *
          generalize stpB (plainE n f d p r dr o sl md fr zs) n f x codes told votes k = q at *
          generalize hvp : votesP votes k = vp at *
          generalize bitK codes k = bk at *
          generalize vdg 2 told k = td at *
          obtain ⟨bv, bs⟩ := bk
          obtain ⟨qv, qs⟩ := q
          unfold agB at C1 C3
          dsimp only at C1 C3 C4
          have HBw := hidden (bthen HB0.out HBB.out)
          go_wp2
          refine wp_region_quiet_below (by kernel_rfl) (by kernel_rfl) ?_
          repeat (go_big_quiet_step (first
            | (go_at_call 63; exact Calls.regrown_of (C1.out _))
            | (go_at_call 75; exact Calls.regrown_of (Calls.to_below (C2.out _)))
            | (go_at_call 77; exact Calls.regrown_of (C3.out _ (HTr.out.below (below_regrown _ _ _)) (hli.out.later (below_regrown _ _ _))))
            | (go_at_call 76; exact Calls.regrown_of (C4.out _))))
          refine wpQuiet_nil ?_
          intro w6 hw6
          have HB6 := hidden (bthen HBB.out (rg_below hw6))
          clear hw6 c0 l0
          go_wp2
          go_roundw
          case rel => exact ⟨k + 1, by omega, by go_num, by rw [HS.out], HB6.out⟩
          case measure => simp [intV]; omega
    · obtain rfl : k = codes.size := by omega
      go_wp2
      go_ret
      exact ⟨rfl, bthen HB0.out HB.out⟩
end Go.Proofs.YtkolhbacgoafcaaGreat

/- The document's calls Tells, Hears, King and Ages of layer 15 return what plain functions give, and make at most new memory; conditions: the table lies where it says. -/
namespace Go.Proofs.YtkolhbacgoafcaaGreat
open Go.ChangeShapes Go.WideShapes Go.ChangeAt Go.RowKit
set_option linter.unusedVariables false


set_option maxHeartbeats 1000000 in
theorem rHears_any (n f d p r dr o sl md fr : Int) (ad : Option Addr) (cap : Nat) (zs : List Int) (age : Int) (R : Nat) (hR15 : R ≤ 15) (hd : R = 0 ∨ 1 ≤ d ∧ d ≤ 4) (w : World) (hl : zs.length ≤ 9223372036854775807) (hT : Tab w ad zs) (hR : gate (plainE n f d p r dr o sl md fr zs) (3 * (f + 1)) = (R : Int)) :
    Calls Tryz.prog 59 #[.agg #[.int .i64 n, .int .i64 f, .int .i64 d, .int .i64 p, .int .i64 r, .int .i64 dr, .int .i64 o, .int .i64 sl, .int .i64 md, .int .i64 fr, .slice ad zs.length cap], .int .i64 age] w fun e W' => e = .returned (.int .i64 (hearF R d age)) ∧ Below w.heap.size w W' := by
  have HC := hidden (fun V h => refRounds_any n f d p r dr o sl md fr ad cap zs V hl h)
  rw [hR] at HC
  have HT := hidden (hT.below (ballc w (.cells #[.int .i64 n, .int .i64 f, .int .i64 d, .int .i64 p, .int .i64 r, .int .i64 dr, .int .i64 o, .int .i64 sl, .int .i64 md, .int .i64 fr, .slice ad zs.length cap] 24)))
  have HK := hidden (blk_nw w #[.int .i64 n, .int .i64 f, .int .i64 d, .int .i64 p, .int .i64 r, .int .i64 dr, .int .i64 o, .int .i64 sl, .int .i64 md, .int .i64 fr, .slice ad zs.length cap] 24)
  have HB0 := hidden (ballc w (.cells #[.int .i64 n, .int .i64 f, .int .i64 d, .int .i64 p, .int .i64 r, .int .i64 dr, .int .i64 o, .int .i64 sl, .int .i64 md, .int .i64 fr, .slice ad zs.length cap] 24))
  clear hT hR
  go_enter Tryz.func59, Tryz.ntmps59
  go_wp2
  generalize w.alloc (.cells #[.int .i64 n, .int .i64 f, .int .i64 d, .int .i64 p, .int .i64 r, .int .i64 dr, .int .i64 o, .int .i64 sl, .int .i64 md, .int .i64 fr, .slice ad zs.length cap] 24) = wa at *
  go_loopw [5] (fun i wr => ∃ k : Nat, k ≤ R ∧ i = .int .i64 k ∧ (∀ j, j < k → hearB d age j = false) ∧ Below wa.heap.size wa wr) (fun i _ => R - (intV i).toNat)
  case atStart => exact ⟨0, Nat.zero_le _, rfl, fun j hj => absurd hj (Nat.not_lt_zero _), Below.refl _ _⟩
  case round =>
    obtain ⟨k, hk, rfl, hn, hB⟩ := hrel
    have HB := hidden hB
    have HN := hidden hn
    have HTr := hidden (HT.out.below hB)
    have HKr := hidden (blk_later HK.out hB)
    have c0 := fun i => blk_cell HKr.out i
    have l0 := blk_lt HKr.out
    clear hB hn
    go_wp2_with fail
    refine (HC.out _ HTr.out).mono ?_
    rintro e w2 ⟨rfl, hb⟩
    have HB2 := hidden (bthen HB.out hb)
    have HK2 := hidden (blk_later HKr.out hb)
    clear hb c0 l0 HKr HTr HB
    have c0 := fun i => blk_cell HK2.out i
    have l0 := blk_lt HK2.out
    by_cases hlt : k < R
    · obtain ⟨q1, q2⟩ := xd_bd hR15 hd hlt
      have q3 : 1 ≤ d ∧ d ≤ 4 := by omega
      have q4 : ((k : Int) + 1) * d = (k : Int) * d + d := by rw [Int.add_mul, Int.one_mul]
      have i2 : (k : Int) < (R : Int) := by omega
      by_cases ht : (k : Int) * d + d = age
      · have hres := hidden (show hearF R d age = _ from first_hit hlt (decide_eq_true ht) HN.out)
        have j : (age == (((k : Int) + 1) * d)) = true := by simp [← ht, q4]
        clear ht hd
        go_wp2
        go_ret
        exact ⟨ret_i hres.out.symm, bthen HB0.out HB2.out⟩
      · have HN2 : Hid (∀ j, j < k + 1 → hearB d age j = false) := fun j hj => by
          by_cases e : j = k
          · subst e; exact decide_eq_false ht
          · exact HN.out j (by omega)
        have j : (age == (((k : Int) + 1) * d)) = false := by rw [beq_eq_false_iff_ne]; intro h; exact ht (by rw [h, q4])
        clear ht hd
        go_wp2
        go_roundw
        case rel => exact ⟨k + 1, by omega, by go_num, HN2.out, HB2.out⟩
        case measure => simp [intV]; omega
    · obtain rfl : k = R := by omega
      have hres := hidden (show hearF k d age = _ from first_none HN.out)
      have i2 : ¬ (k : Int) < (k : Int) := by omega
      go_wp2
      go_ret
      exact ⟨ret_i hres.out.symm, bthen HB0.out HB2.out⟩

theorem rPKing_any (n f d p r dr o sl md fr : Int) (ad : Option Addr) (cap : Nat) (zs : List Int) (x : Int) (R : Nat) (hx : -9223372036854775808 ≤ x ∧ x ≤ 9223372036854775807) (w : World) (hl : zs.length ≤ 9223372036854775807) (hT : Tab w ad zs) (hR : gate (plainE n f d p r dr o sl md fr zs) (3 * (f + 1)) = (R : Int)) :
    Calls Tryz.prog 61 #[.agg #[.int .i64 n, .int .i64 f, .int .i64 d, .int .i64 p, .int .i64 r, .int .i64 dr, .int .i64 o, .int .i64 sl, .int .i64 md, .int .i64 fr, .slice ad zs.length cap], .int .i64 x] w fun e W' => e = .returned (.int .i64 (kingF R x)) ∧ Below w.heap.size w W' := by
  have HC := hidden (fun V h => refRounds_any n f d p r dr o sl md fr ad cap zs V hl h)
  rw [hR] at HC
  have HT := hidden (hT.below (ballc w (.cells #[.int .i64 n, .int .i64 f, .int .i64 d, .int .i64 p, .int .i64 r, .int .i64 dr, .int .i64 o, .int .i64 sl, .int .i64 md, .int .i64 fr, .slice ad zs.length cap] 24)))
  clear hT hR
  by_cases h0 : x < 0
  · have e1 : decide (x < 0) = true := decide_eq_true h0
    have hr := hidden (kingF_lo (R := R) h0)
    clear h0
    go_enter Tryz.func61, Tryz.ntmps61
    go_wp2
    go_ret
    exact ⟨ret_i hr.out.symm, ballc _ _⟩
  · have e1 : decide (x < 0) = false := decide_eq_false h0
    by_cases h1 : (R : Int) ≤ x
    · have e2 : decide ((R : Int) ≤ x) = true := decide_eq_true h1
      have hr := hidden (kingF_hi h1)
      clear h1
      go_enter Tryz.func61, Tryz.ntmps61
      go_wp2_with fail
      refine (HC.out _ HT.out).mono ?_
      rintro e w2 ⟨rfl, hb⟩
      have HB := hidden (bthen (ballc w _) hb)
      clear hb
      go_wp2
      go_ret
      exact ⟨ret_i hr.out.symm, HB.out⟩
    · have e2 : decide ((R : Int) ≤ x) = false := decide_eq_false h1
      have hr := hidden (kingF_in (R := R) (x := x) (by omega) (by omega))
      have e3 : x.tdiv 3 = x / 3 := by rw [Int.tdiv_eq_ediv_of_nonneg (by omega)]
      clear h1
      go_enter Tryz.func61, Tryz.ntmps61
      go_wp2_with fail
      refine (HC.out _ HT.out).mono ?_
      rintro e w2 ⟨rfl, hb⟩
      have HB := hidden (bthen (ballc w _) hb)
      clear hb
      go_wp2
      go_ret
      exact ⟨ret_i hr.out.symm, HB.out⟩

/-- When exchanges are told. -/
def agesL (d : Int) (k : Nat) : List Int := (List.range k).map fun (j : Nat) => (j : Int) * d
theorem agesL_s (d : Int) (k : Nat) : agesL d (k + 1) = agesL d k ++ [(k : Int) * d] := by simp [agesL, List.range_succ]
theorem agesL_len (d : Int) (k : Nat) : (agesL d k).length = k := by simp [agesL]
end Go.Proofs.YtkolhbacgoafcaaGreat

/- The document's calls Blank, well, Tell, part and older of layer 17 return what plain functions give, and make at most new memory; conditions: rows lie where they say, lengths fit int. -/
namespace Go.Proofs.YtkolhbacgoafcaaGreat
open Go.ChangeShapes Go.WideShapes Go.ChangeAt Go.RowKit
set_option linter.unusedVariables false
attribute [local go_sem] cell_rg

theorem rPBlank_any (n f d p r dr o sl md fr : Int) (ad : Option Addr) (cap : Nat) (zs : List Int) (L : Nat) (w : World) (hl : zs.length ≤ 9223372036854775807) (hT : Tab w ad zs) (hL : gate (plainE n f d p r dr o sl md fr zs) (3 * (f + 1) * d) = (L : Int)) (hL60 : L ≤ 60) :
    Calls Tryz.prog 58 #[.agg #[.int .i64 n, .int .i64 f, .int .i64 d, .int .i64 p, .int .i64 r, .int .i64 dr, .int .i64 o, .int .i64 sl, .int .i64 md, .int .i64 fr, .slice ad zs.length cap]] w fun e w' => e = .returned (.string (ba (zerL L))) ∧ Below w.heap.size w w' := by
  have HC := hidden (fun V h => refLength_any n f d p r dr o sl md fr ad cap zs V hl h)
  rw [hL] at HC
  have HT := hidden (hT.below (ballc w (.cells #[.int .i64 n, .int .i64 f, .int .i64 d, .int .i64 p, .int .i64 r, .int .i64 dr, .int .i64 o, .int .i64 sl, .int .i64 md, .int .i64 fr, .slice ad zs.length cap] 24)))
  clear hT hL
  go_enter Tryz.func58, Tryz.ntmps58
  go_wp2_with fail
  refine (HC.out _ HT.out).mono ?_
  rintro e w2 ⟨rfl, hb⟩
  have HB := hidden (bthen (ballc w _) hb)
  clear hb
  go_wp2_with fail
  refine (rRepZ_any L _ (by omega)).mono ?_
  rintro e w3 ⟨rfl, rfl⟩
  go_wp2
  go_ret
  exact ⟨rfl, HB.out⟩
theorem rwell_any (n f d p r dr o sl md fr : Int) (ad : Option Addr) (cap : Nat) (zs : List Int) (L : Nat) (s : ByteArray) (w : World) (hl : zs.length ≤ 9223372036854775807) (hT : Tab w ad zs) (hL : gate (plainE n f d p r dr o sl md fr zs) (3 * (f + 1) * d) = (L : Int)) (hL60 : L ≤ 60) :
    Calls Tryz.prog 32 #[.agg #[.int .i64 n, .int .i64 f, .int .i64 d, .int .i64 p, .int .i64 r, .int .i64 dr, .int .i64 o, .int .i64 sl, .int .i64 md, .int .i64 fr, .slice ad zs.length cap], .string s] w fun e w' => e = .returned (.string (ba (wellL L s))) ∧ Below w.heap.size w w' := by
  have HC := hidden (fun V h => refLength_any n f d p r dr o sl md fr ad cap zs V hl h)
  rw [hL] at HC
  have HBk := hidden (fun V h => rPBlank_any n f d p r dr o sl md fr ad cap zs L V hl h hL hL60)
  have HT := hidden (hT.below (ballc w (.cells #[.int .i64 n, .int .i64 f, .int .i64 d, .int .i64 p, .int .i64 r, .int .i64 dr, .int .i64 o, .int .i64 sl, .int .i64 md, .int .i64 fr, .slice ad zs.length cap] 24)))
  clear hT hL
  by_cases he : s.size = L
  · have hw : wellL L s = bl s := if_pos he
    have j : ((s.size : Int) != (L : Int)) = false := by simp [he]
    rw [hw, ba_bl]
    clear hw he
    go_enter Tryz.func32, Tryz.ntmps32
    go_wp2_with fail
    refine (HC.out _ HT.out).mono ?_
    rintro e w2 ⟨rfl, hb⟩
    have HB := hidden (bthen (ballc w _) hb)
    clear hb HC HBk HT
    go_wp2
    go_ret
    exact ⟨rfl, HB.out⟩
  · have hw : wellL L s = zerL L := if_neg he
    have j : ((s.size : Int) != (L : Int)) = true := by simp; omega
    rw [hw]
    clear hw
    go_enter Tryz.func32, Tryz.ntmps32
    go_wp2_with fail
    refine (HC.out _ HT.out).mono ?_
    rintro e w2 ⟨rfl, hb⟩
    have HB := hidden (bthen (ballc w _) hb)
    obtain ⟨hbox, hsz⟩ := box_at hb
    have HT2 := hidden (HT.out.below hb)
    clear hb HC HT
    go_wp2_with fail
    refine (HBk.out _ HT2.out).mono ?_
    rintro e w4 ⟨rfl, hb⟩
    have HB4 := hidden (bthen HB.out hb)
    clear hb hbox hsz
    go_wp2
    go_ret
    exact ⟨rfl, HB4.out⟩
theorem rpart_any (s : ByteArray) (k : Nat) (w : World) (hs : s.size ≤ 9223372036854775807) :
    Calls Tryz.prog 60 #[.string s, .int .i64 (k : Int)] w fun e w' => e = .returned (.string (prt s k)) ∧ w = w' := by
  have d0 : decide ((k : Int) < 0) = false := decide_eq_false (by omega)
  by_cases h : k < s.size
  · have d1 : decide (s.size ≤ k) = false := decide_eq_false (by omega)
    have d2 : decide ((s.size : Int) ≤ (k : Int)) = false := decide_eq_false (by omega)
    have s1 := fun V => cut_one s k h V
    generalize prt s k = z at *
    go_enter Tryz.func60, Tryz.ntmps60
    go_wp2
    go_ret
    exact ⟨rfl, rfl⟩
  · have d1 : decide (s.size ≤ k) = true := decide_eq_true (by omega)
    have d2 : decide ((s.size : Int) ≤ (k : Int)) = true := decide_eq_true (by omega)
    have HP : Hid (prt s k = noB) := if_neg h
    go_enter Tryz.func60, Tryz.ntmps60
    go_wp2
    go_ret
    exact ⟨by rw [HP.out]; rfl, rfl⟩
/-- Which exchange is heard at an age. -/
theorem hear_yes {R D a : Nat} (hD : 1 ≤ D) (h : a % D = 0) (h1 : 1 ≤ a) (h2 : a ≤ R * D) : hearF R (D : Int) (a : Int) = ((a / D - 1 : Nat) : Int) ∧ a / D - 1 < R := by
  have hm := Nat.div_add_mod a D
  rw [h, Nat.add_zero] at hm
  have hq : 1 ≤ a / D := Nat.div_pos (Nat.le_of_dvd (by omega) (Nat.dvd_of_mod_eq_zero h)) (by omega)
  have hqR : a / D ≤ R := Nat.div_le_of_le_mul (by rw [Nat.mul_comm]; exact h2)
  refine ⟨first_hit (by omega) ?_ ?_, by omega⟩
  · refine decide_eq_true ?_
    obtain ⟨q, hqq⟩ : ∃ q, a / D = q + 1 := ⟨a / D - 1, by omega⟩
    rw [hqq] at hm ⊢
    rw [Nat.add_sub_cancel, ← hm, Nat.mul_comm D (q + 1), Nat.add_mul, Nat.one_mul]
    simp
  · intro j hj
    refine decide_eq_false (fun e => ?_)
    have e2 : (j + 1) * D = a := by
      have : (((j + 1) * D : Nat) : Int) = (a : Int) := by rw [Nat.add_mul, Nat.one_mul]; simpa using e
      exact Int.ofNat.inj this
    have e3 : a / D = j + 1 := by rw [← e2, Nat.mul_div_cancel _ (by omega)]
    omega
theorem hear_no {R D a : Nat} (h : ¬ a % D = 0) : hearF R (D : Int) (a : Int) = -1 := by
  refine first_none fun j hj => decide_eq_false (fun e => h ?_)
  have e2 : (j + 1) * D = a := by
    have : (((j + 1) * D : Nat) : Int) = (a : Int) := by rw [Nat.add_mul, Nat.one_mul]; simpa using e
    exact Int.ofNat.inj this
  rw [← e2, Nat.mul_mod_left]
/-- What is told of bytes. -/
theorem vdg_at8 (last : Int) (l : List UInt8) (k : Nat) (h : k < l.length) : vdg last (ba l) k = vdg last (ba [at8 l k]) 0 := by
  have h1 : k < (ba l).size := by rw [ba_size]; exact h
  have h2 : 0 < (ba [at8 l k]).size := by rw [ba_size]; simp
  have e : (ba l)[k]'h1 = (ba [at8 l k])[0]'h2 := by
    rw [at8_lt h]
    rfl
  unfold vdg
  rw [dif_pos h1, dif_pos h2, e]
theorem valG_at8 (l : List UInt8) (k : Nat) (h : k < l.length) : valG (ba l) k = valG (ba [at8 l k]) 0 := by
  unfold valG bitK
  rw [vdg_at8 5 l k h]
theorem tell_dg {R D : Nat} (l : List UInt8) (hl : l.length = R * D) (hD : R = 0 ∨ 1 ≤ D) : dgB R (valG (ba (tellL D l R))) = dgB R (fun j => valG (ba l) (j * D)) := by
  refine dgB_congr fun k hk => ?_
  have h1 : k * D < l.length := by rw [hl]; exact Nat.mul_lt_mul_of_pos_right hk (by omega)
  rw [valG_at8 _ k (by rw [tellL_len]; exact hk), valG_at8 _ _ h1]
  unfold tellL
  rw [at8_map _ hk]

end Go.Proofs.YtkolhbacgoafcaaGreat

/- The document's call older of layer 17 returns a code at an age, and makes at most new memory; conditions: rows lie where they say, lengths fit int, at most a hundred thousand votes. -/
namespace Go.Proofs.YtkolhbacgoafcaaGreat
open Go.ChangeShapes Go.WideShapes Go.ChangeAt Go.RowKit
set_option linter.unusedVariables false
attribute [local go_sem] cell_rg

theorem digs_s (votes : List ByteArray) (q k : Nat) (hk : k < votes.length) : (digsP votes q).take (k + 1) = (digsP votes q).take k ++ [prt (votes.getD k noB) q] := by
  unfold digsP
  rw [List.take_add_one, List.getElem?_map, List.getElem?_eq_getElem hk, List.getD_eq_getElem?_getD, List.getElem?_eq_getElem hk]
  rfl

set_option maxRecDepth 100000 in
set_option maxHeartbeats 4000000 in
theorem rolder_hear (n f d p r dr o sl md fr : Int) (ad : Option Addr) (cap : Nat) (zs : List Int) (R q : Nat) (hq : q < R) (hR15 : R ≤ 15) (b : UInt8) (a : Nat) (ha : a ≤ 1000) (hh : hearF R d (a : Int) = (q : Int)) (hd : R = 0 ∨ 1 ≤ d ∧ d ≤ 4) (a2 : Option Addr) (c2 : Nat) (votes : List ByteArray) (w : World) (hl : zs.length ≤ 9223372036854775807) (hT : Tab w ad zs) (hR : gate (plainE n f d p r dr o sl md fr zs) (3 * (f + 1)) = (R : Int))
    (hn : votes.length ≤ 100000) (hV : kStr.Lies w.heap.size w (.slice a2 votes.length c2) votes) (hz : ∀ t ∈ votes, t.size ≤ 9223372036854775807) :
    Calls Tryz.prog 33 #[.agg #[.int .i64 n, .int .i64 f, .int .i64 d, .int .i64 p, .int .i64 r, .int .i64 dr, .int .i64 o, .int .i64 sl, .int .i64 md, .int .i64 fr, .slice ad zs.length cap], .string (ba [b]), .int .i64 (a : Int), .slice a2 votes.length c2] w fun e w' => e = .returned (.string (ba [hrdB (plainE n f d p r dr o sl md fr zs) n f votes q b])) ∧ Below w.heap.size w w' := by
  have HB0 := hidden (ballc w (.cells #[.int .i64 n, .int .i64 f, .int .i64 d, .int .i64 p, .int .i64 r, .int .i64 dr, .int .i64 o, .int .i64 sl, .int .i64 md, .int .i64 fr, .slice ad zs.length cap] 24))
  have HT := hidden (hT.below HB0.out)
  have HK := hidden (blk_nw w #[.int .i64 n, .int .i64 f, .int .i64 d, .int .i64 p, .int .i64 r, .int .i64 dr, .int .i64 o, .int .i64 sl, .int .i64 md, .int .i64 fr, .slice ad zs.length cap] 24)
  have CH := hidden (fun V h => rHears_any n f d p r dr o sl md fr ad cap zs (a : Int) R hR15 hd V hl h hR)
  rw [hh] at CH
  have CK := hidden (fun V h => rPKing_any n f d p r dr o sl md fr ad cap zs (q : Int) R (by omega) V hl h hR)
  rw [kingF_in (by omega) (by omega), show (q : Int) / 3 = ((q / 3 : Nat) : Int) by omega] at CK
  have HV := hidden hV
  have HZ := hidden hz
  have CS := hidden (fun (told : ByteArray) (ht : told = toldP votes q) (V : World) (hB : Tab V ad zs) (a3 : Option Addr) (c3 : Nat) (hg : kStr.Lies V.heap.size V (.slice a3 (digsP votes q).length c3) (digsP votes q)) => rVStep_any n f d p r dr o sl md fr ad cap zs (q : Int) (ba [b]) told a3 c3 (digsP votes q) V hl hB (wfNat q (by omega)) (by rw [ba_size]; simp) (by rw [ht]; exact told_size votes q) (by rw [digsP_len]; exact hn) hg (digs_size votes q))
  rw [show (ba [b]).size = 1 by rw [ba_size]; rfl] at CS
  have CS2 : Hid (∀ (told : ByteArray) (ht : told = toldP votes q) (V : World) (hB : Tab V ad zs) (a3 : Option Addr) (c3 : Nat) (hg : kStr.Lies V.heap.size V (.slice a3 votes.length c3) (digsP votes q)), Calls Tryz.prog 62 #[.agg #[.int .i64 n, .int .i64 f, .int .i64 d, .int .i64 p, .int .i64 r, .int .i64 dr, .int .i64 o, .int .i64 sl, .int .i64 md, .int .i64 fr, .slice ad zs.length cap], .int .i64 (q : Int), .string (ba [b]), .string told, .slice a3 votes.length c3] V fun e w' => e = .returned (.string (ba [hrdB (plainE n f d p r dr o sl md fr zs) n f votes q b])) ∧ Below V.heap.size V w') := fun told ht V hB a3 c3 hg => by
    have h := CS.out told ht V hB a3 c3 (by rw [digsP_len]; exact hg)
    rw [dg_one, digsP_len, ht] at h
    rw [ht]
    exact h
  have HM := hidden (digsP_len votes q)
  obtain ⟨i0, hi, hz0, hz1, hz2⟩ := info_of infoStr
  clear hT hV hz hR hd hh CS
  generalize ba [hrdB (plainE n f d p r dr o sl md fr zs) n f votes q b] = out at *
  generalize ba [b] = code at *
  have q1 : decide ((q : Int) < 0) = false := decide_eq_false (by omega)
  go_enter Tryz.func33, Tryz.ntmps33
  go_wp2_with fail
  refine (CH.out _ HT.out).mono ?_
  rintro e w2 ⟨rfl, hb⟩
  have HB2 := hidden (bthen HB0.out hb)
  have HT2 := hidden (HT.out.below hb)
  have HK2 := hidden (blk_later HK.out hb)
  have hws : w.heap.size < w2.heap.size := blk_lt HK2.out
  have HV2 := hidden (HV.out.later HB2.out)
  clear hb HT HK CH HV
  go_wp2
  clear q1
  go_loopw [10, 11] (fun x i wr => ∃ k : Nat, k ≤ votes.length ∧ i = .int .i64 k ∧ wr.ownsRow w2.heap.size 9 1 x k (kStr.flat ((digsP votes q).take k)) ∧ Below w2.heap.size w2 wr) (fun _ i _ => votes.length - (intV i).toNat)
  case atStart => exact ⟨0, Nat.zero_le _, rfl, World.ownsRow_nil _ _ _ _, Below.refl _ _⟩
  case round =>
    obtain ⟨k, hk, rfl, hown, hB⟩ := hrel
    have HBr := hidden hB
    have HO := hidden hown
    by_cases hlt : k < votes.length
    · have i1 : (0 : Int) ≤ (k : Int) := by omega
      have i2 : (k : Int) < (votes.length : Int) := by omega
      obtain ⟨bb, off, rfl, hbl, e0⟩ := kStr_at (HV2.out.below hB) k hlt
      have hm : votes.getD k noB ∈ votes := by rw [List.getD_eq_getElem?_getD, List.getElem?_eq_getElem hlt, Option.getD_some]; exact List.getElem_mem hlt
      have CP := hidden (fun V => rpart_any (votes.getD k noB) q V (HZ.out _ hm))
      have HDS := hidden (digs_s votes q k hlt)
      have lb := Nat.lt_of_lt_of_le hbl hB.size
      clear hB hown hm
      generalize prt (votes.getD k noB) q = on at *
      generalize votes.getD k noB = tk at *
      go_wp2_with fail
      refine (CP.out _).mono ?_
      rintro e w7 ⟨rfl, rfl⟩
      go_wp2_with (at_builtin; refine kStr.wpList_append _ rfl (.tmp 26) (.tmp 33) 25 rfl w2.heap.size 9 i0 (.string noB) 16 Tryz.underlying25 hi hz0 hz1 hz2 rfl u10 k _ rfl (HO.out.alloc _) (.slice (some ⟨wr.heap.size, 0, none⟩) 1 1) [on] rfl (Kind.Lies.of_block (K := kStr) (es := [on]) (heap_alloc_new wr _) (by simp [maxLen])) (by simp only [maxLen, List.length_singleton]; omega) (by simp only [List.length_singleton]; omega) (by have := HBr.out.size; simp; omega) ?_; intro v3 w3 hown3 hgrow3 _)
      have hB3 : Below w2.heap.size w2 w3 := (HBr.out.alloc HBr.out.size _).grown hgrow3 (by have := HBr.out.size; simp; omega) (own_from HO.out)
      have hrow : w3.ownsRow w2.heap.size 9 1 v3 (k + 1) (kStr.flat ((digsP votes q).take (k + 1))) := by
        rw [HDS.out, Kind.flat_append]
        exact hown3
      go_roundw
      case rel => exact ⟨k + 1, by omega, by go_num, hrow, hB3⟩
      case measure => simp [intV]; omega
    · have hkM : k = votes.length := by omega
      subst hkM
      have i2 : ¬ (votes.length : Int) < (votes.length : Int) := by omega
      have hdt : (digsP votes q).take votes.length = digsP votes q := by rw [← HM.out]; exact List.take_length
      rw [hdt] at hown
      obtain ⟨xa, xc, rfl⟩ := own_slice hown
      have hX : kStr.Lies wr.heap.size wr (.slice xa votes.length xc) (digsP votes q) := by
        have h := Kind.Lies.of_own (K := kStr) (base := w2.heap.size) (e := 9) (v := .slice xa votes.length xc) (es := digsP votes q) (by rw [HM.out]; exact hown)
        exact h
      have HX := hidden hX
      have HKr := hidden (blk_later HK2.out hB)
      have c0 := blk_cell HKr.out
      have l0 := blk_lt HKr.out
      clear hB hown hX hdt HO
      go_wp2_with fail
      refine (CK.out _ (HT2.out.below HBr.out)).mono ?_
      rintro e w6 ⟨rfl, hb⟩
      have HB6 := hidden (bthen HBr.out hb)
      have HX6 := hidden (HX.out.later hb)
      have HK6 := hidden (blk_later HKr.out hb)
      clear hb c0 l0 HKr CK
      have c0 := blk_cell HK6.out
      have l0 := blk_lt HK6.out
      have q0 : decide ((0 : Int) ≤ ((q / 3 : Nat) : Int)) = true := decide_eq_true (by omega)
      have q00 : (0 : Int) ≤ ((q / 3 : Nat) : Int) := by omega
      by_cases hq3 : q / 3 < votes.length
      · have q2 : decide (((q / 3 : Nat) : Int) < (votes.length : Int)) = true := decide_eq_true (by omega)
        have q3 : ((q / 3 : Nat) : Int) < (votes.length : Int) := by omega
        obtain ⟨bb, off, rfl, hbl, e0⟩ := kStr_at HX6.out (q / 3) (by rw [HM.out]; exact hq3)
        have CX := hidden (CS2.out (toldP votes q) rfl w6 (HT2.out.below HB6.out) _ _ HX6.out)
        have HTD : Hid (toldP votes q = (digsP votes q).getD (q / 3) noB) := rfl
        rw [← HTD.out] at e0
        clear CS2 HX HX6 HTD
        generalize toldP votes q = told at *
        generalize q / 3 = kk at *
        go_wp2_with fail
        refine CX.out.mono ?_
        rintro e w9 ⟨rfl, hb⟩
        have HB9 := hidden (bthen HB2.out (bthen HB6.out hb))
        clear hb
        go_wp2
        go_ret
        exact ⟨rfl, HB9.out⟩
      · have q2 : decide (((q / 3 : Nat) : Int) < (votes.length : Int)) = false := decide_eq_false (by omega)
        have q3 : ¬ ((q / 3 : Nat) : Int) < (votes.length : Int) := by omega
        have htd : (⟨#[]⟩ : ByteArray) = toldP votes q := by
          unfold toldP
          rw [List.getD_eq_getElem?_getD, List.getElem?_eq_none (by rw [HM.out]; omega)]
          rfl
        have CX := hidden (CS2.out ⟨#[]⟩ htd w6 (HT2.out.below HB6.out) _ _ HX6.out)
        clear CS2 HX HX6 htd
        generalize q / 3 = kk at *
        go_wp2_with fail
        refine CX.out.mono ?_
        rintro e w9 ⟨rfl, hb⟩
        have HB9 := hidden (bthen HB2.out (bthen HB6.out hb))
        clear hb
        go_wp2
        go_ret
        exact ⟨rfl, HB9.out⟩
theorem rolder_not (n f d p r dr o sl md fr : Int) (ad : Option Addr) (cap : Nat) (zs : List Int) (R : Nat) (hR15 : R ≤ 15) (b : UInt8) (a : Nat) (hh : hearF R d (a : Int) = -1) (hd : R = 0 ∨ 1 ≤ d ∧ d ≤ 4) (a2 : Option Addr) (c2 M : Nat) (w : World) (hl : zs.length ≤ 9223372036854775807) (hT : Tab w ad zs) (hR : gate (plainE n f d p r dr o sl md fr zs) (3 * (f + 1)) = (R : Int)) :
    Calls Tryz.prog 33 #[.agg #[.int .i64 n, .int .i64 f, .int .i64 d, .int .i64 p, .int .i64 r, .int .i64 dr, .int .i64 o, .int .i64 sl, .int .i64 md, .int .i64 fr, .slice ad zs.length cap], .string (ba [b]), .int .i64 (a : Int), .slice a2 M c2] w fun e w' => e = .returned (.string (ba [b])) ∧ Below w.heap.size w w' := by
  have HB0 := hidden (ballc w (.cells #[.int .i64 n, .int .i64 f, .int .i64 d, .int .i64 p, .int .i64 r, .int .i64 dr, .int .i64 o, .int .i64 sl, .int .i64 md, .int .i64 fr, .slice ad zs.length cap] 24))
  have HT := hidden (hT.below HB0.out)
  have CH := hidden (fun V h => rHears_any n f d p r dr o sl md fr ad cap zs (a : Int) R hR15 hd V hl h hR)
  rw [hh] at CH
  clear hT hR hd hh
  generalize ba [b] = code at *
  go_enter Tryz.func33, Tryz.ntmps33
  go_wp2_with fail
  refine (CH.out _ HT.out).mono ?_
  rintro e w2 ⟨rfl, hb⟩
  have HB2 := hidden (bthen HB0.out hb)
  clear hb
  go_wp2
  go_ret
  exact ⟨rfl, HB2.out⟩
theorem rolder_any (n f d p r dr o sl md fr : Int) (ad : Option Addr) (cap : Nat) (zs : List Int) (R D : Nat) (hR15 : R ≤ 15) (hD : d = (D : Int) ∧ 1 ≤ D ∧ D ≤ 4) (b : UInt8) (a : Nat) (ha1 : 1 ≤ a) (ha : a ≤ R * D) (a2 : Option Addr) (c2 : Nat) (votes : List ByteArray) (w : World) (hl : zs.length ≤ 9223372036854775807) (hT : Tab w ad zs) (hR : gate (plainE n f d p r dr o sl md fr zs) (3 * (f + 1)) = (R : Int))
    (hn : votes.length ≤ 100000) (hV : kStr.Lies w.heap.size w (.slice a2 votes.length c2) votes) (hz : ∀ t ∈ votes, t.size ≤ 9223372036854775807) :
    Calls Tryz.prog 33 #[.agg #[.int .i64 n, .int .i64 f, .int .i64 d, .int .i64 p, .int .i64 r, .int .i64 dr, .int .i64 o, .int .i64 sl, .int .i64 md, .int .i64 fr, .slice ad zs.length cap], .string (ba [b]), .int .i64 (a : Int), .slice a2 votes.length c2] w fun e w' => e = .returned (.string (ba [oldB (hrdF n f d p r dr o sl md fr ad cap zs votes) D a b])) ∧ Below w.heap.size w w' := by
  obtain ⟨hdD, hD1, hD4⟩ := hD
  have h60 : R * D ≤ 60 := Nat.mul_le_mul hR15 hD4
  by_cases h : a % D = 0
  · obtain ⟨h1, h2⟩ := hear_yes (R := R) hD1 h ha1 ha
    have e : oldB (hrdF n f d p r dr o sl md fr ad cap zs votes) D a b = hrdB (plainE n f d p r dr o sl md fr zs) n f votes (a / D - 1) b := if_pos h
    rw [e]
    exact rolder_hear n f d p r dr o sl md fr ad cap zs R (a / D - 1) h2 hR15 b a (by omega) (by rw [hdD]; exact h1) (by omega) a2 c2 votes w hl hT hR hn hV hz
  · have e : oldB (hrdF n f d p r dr o sl md fr ad cap zs votes) D a b = b := if_neg h
    rw [e]
    exact rolder_not n f d p r dr o sl md fr ad cap zs R hR15 b a (by rw [hdD]; exact hear_no h) (by omega) a2 c2 votes.length w hl hT hR
end Go.Proofs.YtkolhbacgoafcaaGreat

/- The document's calls Move and Begin of layer 17 return a pipe a tick later with what is done, and a pipe with a new instance in it, and make at most new memory; conditions: rows lie where they say, lengths fit int, at most a hundred thousand votes. -/
namespace Go.Proofs.YtkolhbacgoafcaaGreat
open Go.ChangeShapes Go.WideShapes Go.ChangeAt Go.RowKit
set_option linter.unusedVariables false
attribute [local go_sem] cell_rg

/-- A part of a text of bytes. -/
theorem cut8_mid (l : List UInt8) (k : Nat) (h : k < l.length) (W : World) : (Instr.slice 9 (.string (ba l)) (some (.int .i64 (k : Int))) (some (.int .i64 ((k : Int) + 1))) none).run Tryz.prog W = .ok (.string (ba [at8 l k])) W := by
  have hs : k < (ba l).size := by rw [ba_size]; exact h
  rw [cut_one (ba l) k hs W, prt_in hs]
  congr 2
  apply ByteArray.ext
  rw [ByteArray.data_extract]
  simp only [ba]
  rw [List.extract_toArray, List.extract_eq_take_drop]
  congr 1
  rw [at8_lt h, show k + 1 - k = 1 by omega, List.drop_eq_getElem_cons h]
  rfl
theorem cut8_end (l : List UInt8) (k : Nat) (h : l.length = k + 1) (W : World) : (Instr.slice 9 (.string (ba l)) (some (.int .i64 (k : Int))) none none).run Tryz.prog W = .ok (.string (ba [at8 l k])) W := by
  rw [run_slice_string_l W 9 (ba l) Tryz.underlying9 .i64 (k : Int) (by omega) (by rw [ba_size, h]; omega)]
  congr 2
  apply ByteArray.ext
  simp only [ba, ByteArray.data_extract, Int.toNat_natCast]
  rw [List.extract_toArray, List.extract_eq_take_drop]
  congr 1
  rw [at8_lt (by omega), List.drop_eq_getElem_cons (by omega), List.drop_eq_nil_of_le (by omega)]
  have : (ByteArray.mk l.toArray).size = k + 1 := by rw [← h]; exact ba_size l
  rw [this, show k + 1 - k = 1 by omega]
  rfl
/-- The bytes so far. -/
def newK (h : Nat → UInt8 → UInt8) (D : Nat) (l : List UInt8) (k : Nat) : List UInt8 := (List.range k).map (newB h D l)
theorem newK_s (h : Nat → UInt8 → UInt8) (D : Nat) (l : List UInt8) (k : Nat) : ba (newK h D l k) ++ ba [newB h D l k] = ba (newK h D l (k + 1)) := by
  rw [ba_append]
  simp [newK, List.range_succ]
theorem newK_len (h : Nat → UInt8 → UInt8) (D : Nat) (l : List UInt8) (k : Nat) : (newK h D l k).length = k := by simp [newK]
theorem endF_yes {b : UInt8} (h : valG (ba [b]) 0 = 1) : endF b = 1 := if_pos h
theorem endF_no {b : UInt8} (h : ¬ valG (ba [b]) 0 = 1) : endF b = 0 := if_neg h
theorem toL_one (v : Nat) (hv : v ≤ 2) : ((ba [UInt8.ofNat (48 + v)]).toList == [49]) = decide (v = 1) := by
  rw [ByteArray.toList_eq]
  have : v = 0 ∨ v = 1 ∨ v = 2 := by omega
  rcases this with rfl | rfl | rfl <;> decide

set_option maxRecDepth 100000 in
set_option maxHeartbeats 4000000 in
theorem rPMove_yes (n f d p r dr o sl md fr : Int) (ad : Option Addr) (cap : Nat) (zs : List Int) (R D K : Nat) (s : ByteArray) (a2 : Option Addr) (c2 : Nat) (votes : List ByteArray) (w : World) (hl : zs.length ≤ 9223372036854775807) (hT : Tab w ad zs) (hE : plainE n f d p r dr o sl md fr zs = 0) (hR : gate (plainE n f d p r dr o sl md fr zs) (3 * (f + 1)) = (R : Int)) (hL : gate (plainE n f d p r dr o sl md fr zs) (3 * (f + 1) * d) = ((K + 1 : Nat) : Int))
    (hR15 : R ≤ 15) (hL60 : K + 1 ≤ 60) (hLD : K + 1 = R * D) (hD : d = (D : Int) ∧ 1 ≤ D ∧ D ≤ 4) (hn : votes.length ≤ 100000) (hV : kStr.Lies w.heap.size w (.slice a2 votes.length c2) votes) (hz : ∀ t ∈ votes, t.size ≤ 9223372036854775807) :
    Calls Tryz.prog 13 #[.agg #[.int .i64 n, .int .i64 f, .int .i64 d, .int .i64 p, .int .i64 r, .int .i64 dr, .int .i64 o, .int .i64 sl, .int .i64 md, .int .i64 fr, .slice ad zs.length cap], .string s, .slice a2 votes.length c2] w fun e w' => e = .returned (.tuple #[.string (ba (newL (hrdF n f d p r dr o sl md fr ad cap zs votes) D (wellL (K + 1) s))), .int .i64 (endF (newB (hrdF n f d p r dr o sl md fr ad cap zs votes) D (wellL (K + 1) s) (K + 1)))]) ∧ Below w.heap.size w w' := by
  have HB0 := hidden (ballc w (.cells #[.int .i64 n, .int .i64 f, .int .i64 d, .int .i64 p, .int .i64 r, .int .i64 dr, .int .i64 o, .int .i64 sl, .int .i64 md, .int .i64 fr, .slice ad zs.length cap] 24))
  have HP := hidden (fun V h => refPlain_any n f d p r dr o sl md fr ad cap zs V hl h)
  rw [hE] at HP
  have HW := hidden (fun V h => rwell_any n f d p r dr o sl md fr ad cap zs (K + 1) s V hl h hL hL60)
  have HNL : Hid (newL (hrdF n f d p r dr o sl md fr ad cap zs votes) D (wellL (K + 1) s) = newK (hrdF n f d p r dr o sl md fr ad cap zs votes) D (wellL (K + 1) s) (K + 1)) := by show _ = _; unfold newL newK; rw [wellL_len]
  have HLN := hidden (wellL_len (K + 1) s)
  have CO : Hid (∀ k, k ≤ K → ∀ V, Tab V ad zs → kStr.Lies V.heap.size V (.slice a2 votes.length c2) votes → Calls Tryz.prog 33 #[.agg #[.int .i64 n, .int .i64 f, .int .i64 d, .int .i64 p, .int .i64 r, .int .i64 dr, .int .i64 o, .int .i64 sl, .int .i64 md, .int .i64 fr, .slice ad zs.length cap], .string (ba [at8 (wellL (K + 1) s) k]), .int .i64 ((k : Int) + 1), .slice a2 votes.length c2] V fun e w' => e = .returned (.string (ba [newB (hrdF n f d p r dr o sl md fr ad cap zs votes) D (wellL (K + 1) s) (k + 1)])) ∧ Below V.heap.size V w') := fun k hk V h1 h2 => by
    have h := rolder_any n f d p r dr o sl md fr ad cap zs R D hR15 hD (at8 (wellL (K + 1) s) k) (k + 1) (by omega) (by omega) a2 c2 votes V hl h1 hR hn h2 hz
    rw [← newB_s] at h
    exact h
  have CV : Hid (∀ b V, Calls Tryz.prog 34 #[.string (ba [b])] V fun e w' => e = .returned (.string (ba [UInt8.ofNat (48 + valG (ba [b]) 0)])) ∧ Below V.heap.size V w') := fun b V => by
    have h := rValues_any (ba [b]) (by rw [ba_size]; simp) V
    rw [show (ba [b]).size = 1 by rw [ba_size]; rfl, dg_one] at h
    exact h
  have HT := hidden (hT.below HB0.out)
  have HK := hidden (blk_nw w #[.int .i64 n, .int .i64 f, .int .i64 d, .int .i64 p, .int .i64 r, .int .i64 dr, .int .i64 o, .int .i64 sl, .int .i64 md, .int .i64 fr, .slice ad zs.length cap] 24)
  have HV := hidden (hV.later HB0.out)
  have CU := hidden (fun (k : Nat) (hk : k < K + 1) V => cut8_mid (wellL (K + 1) s) k (by rw [wellL_len]; exact hk) V)
  have CE := hidden (fun V => cut8_end (wellL (K + 1) s) K (wellL_len _ _) V)
  have hsz : (ba (wellL (K + 1) s)).size = K + 1 := by rw [ba_size, wellL_len]
  rw [HNL.out]
  clear hT hR hL hLD hV hz hE HNL hD
  generalize hrdF n f d p r dr o sl md fr ad cap zs votes = hf at *
  generalize wellL (K + 1) s = ll at *
  generalize hws : ba ll = ws at *
  clear hws
  go_enter Tryz.func13, Tryz.ntmps13
  go_wp2_with fail
  refine (HP.out _ HT.out).mono ?_
  rintro e w2 ⟨rfl, hb⟩
  have HB2 := hidden (bthen HB0.out hb)
  have HT2 := hidden (HT.out.below hb)
  have HK2 := hidden (blk_later HK.out hb)
  have HV2 := hidden (HV.out.later hb)
  have c0 := blk_cell HK2.out
  have l0 := blk_lt HK2.out
  clear hb HT HK HV HP
  go_wp2_with fail
  refine (HW.out _ HT2.out).mono ?_
  rintro e w3 ⟨rfl, hb⟩
  have HB3 := hidden (bthen HB2.out hb)
  have HT3 := hidden (HT2.out.below hb)
  have HK3 := hidden (blk_later HK2.out hb)
  have HV3 := hidden (HV2.out.later hb)
  clear hb HT2 HK2 HV2 c0 l0 HW HB2
  have hws3 : w.heap.size < w3.heap.size := blk_lt HK3.out
  go_wp2
  go_loopw [9, 10] (fun a i wr => ∃ k : Nat, k ≤ K ∧ i = .int .i64 ((k : Int) + 1) ∧ a = .string (ba (newK hf D ll (k + 1))) ∧ Below w3.heap.size w3 wr) (fun _ i _ => K + 1 - (intV i).toNat)
  case atStart => exact ⟨0, Nat.zero_le _, rfl, rfl, Below.refl _ _⟩
  case round =>
    obtain ⟨k, hk, rfl, rfl, hB⟩ := hrel
    have HBr := hidden hB
    have HKr := hidden (blk_later HK3.out hB)
    have HTr := hidden (HT3.out.below hB)
    have HVr := hidden (HV3.out.later hB)
    have c0 := blk_cell HKr.out
    have l0 := blk_lt HKr.out
    clear hB
    by_cases hlt : k < K
    · have i2 : (k : Int) + 1 < (K : Int) + 1 := by omega
      have i3 : (k : Int) < (K : Int) := by omega
      have cut := CU.out k (by omega)
      have CX := hidden (CO.out k (by omega))
      have HS := hidden (newK_s hf D ll (k + 1))
      have hns1 : (ba (newK hf D ll (k + 1))).size = k + 1 := by rw [ba_size, newK_len]
      have hns2 : (ba [newB hf D ll (k + 1)]).size = 1 := by rw [ba_size]; rfl
      have t1 : IntKind.i64.wrap ((k : Int) + 1 - 1) = (k : Int) := IntWalk.i64_in _ (by omega) |>.trans (by omega)
      have t2 : IntKind.i64.wrap (k : Int) = (k : Int) := IntWalk.i64_in _ (by omega)
      generalize hou : ba (newK hf D ll (k + 1)) = out at *
      have HOU := hidden hou
      clear hou
      generalize ba [newB hf D ll (k + 1)] = pc at *
      generalize ba [at8 ll k] = cc at *
      go_wp2
      refine wp_region_quiet_below (by kernel_rfl) (by kernel_rfl) ?_
      repeat (go_big_quiet_step (first | (go_at_call 33; exact Calls.regrown_of (CX.out _ (HTr.out.below (below_regrown _ _ _)) (HVr.out.later (below_regrown _ _ _))))))
      refine wpQuiet_nil ?_
      intro w5 hw5
      have HB5 := hidden (bthen HBr.out (rg_below hw5))
      clear hw5 c0 l0
      go_wp2
      go_roundw
      case rel => exact ⟨k + 1, by omega, by go_num, by rw [HS.out], HB5.out⟩
      case measure => simp [intV]; omega
    · obtain rfl : k = K := by omega
      have i2 : ¬ (k : Int) + 1 < (k : Int) + 1 := by omega
      have cut := CE.out
      have CX := hidden (CO.out k (Nat.le_refl _))
      have CW := hidden (CV.out (newB hf D ll (k + 1)))
      have t1 : IntKind.i64.wrap ((k : Int) + 1 - 1) = (k : Int) := IntWalk.i64_in _ (by omega) |>.trans (by omega)
      have t2 : IntKind.i64.wrap (k : Int) = (k : Int) := IntWalk.i64_in _ (by omega)
      have hv2 := valG_bd (ba [newB hf D ll (k + 1)]) 0
      have HTL := hidden (toL_one (valG (ba [newB hf D ll (k + 1)]) 0) hv2)
      have HEY := hidden (endF_yes (b := newB hf D ll (k + 1)))
      have HEN := hidden (endF_no (b := newB hf D ll (k + 1)))
      generalize hen : endF (newB hf D ll (k + 1)) = en at *
      have HENF := hidden hen
      clear hen
      generalize valG (ba [newB hf D ll (k + 1)]) 0 = v at *
      generalize ba [newB hf D ll (k + 1)] = pc at *
      generalize ba [UInt8.ofNat (48 + v)] = vt at *
      generalize hou : ba (newK hf D ll (k + 1)) = out at *
      have HOU := hidden hou
      clear hou
      generalize ba [at8 ll k] = cc at *
      by_cases hv1 : v = 1
      · have e3 : (vt.toList == [49]) = true := by rw [HTL.out]; exact decide_eq_true hv1
        have he := HEY.out hv1
        subst he
        clear HTL HEY HEN hv1
        go_wp2
        refine wp_region_quiet_below (by kernel_rfl) (by kernel_rfl) ?_
        repeat (go_big_quiet_step (first | (go_at_call 33; exact Calls.regrown_of (CX.out _ (HTr.out.below (below_regrown _ _ _)) (HVr.out.later (below_regrown _ _ _)))) | (go_at_call 34; exact Calls.regrown_of (CW.out _))))
        refine wpQuiet_nil ?_
        intro w5 hw5
        have HB5 := hidden (bthen HB3.out (bthen HBr.out (rg_below hw5)))
        clear hw5 c0 l0
        go_wp2
        exact bodyPost_ret (v := .tuple #[.string out, .int .i64 1]) (by simp [results, Tryz.results13, go_sem]) rfl ⟨by rw [HOU.out, HENF.out], HB5.out⟩
      · have e3 : (vt.toList == [49]) = false := by rw [HTL.out]; exact decide_eq_false hv1
        have he := HEN.out hv1
        subst he
        clear HTL HEY HEN hv1
        go_wp2
        refine wp_region_quiet_below (by kernel_rfl) (by kernel_rfl) ?_
        repeat (go_big_quiet_step (first | (go_at_call 33; exact Calls.regrown_of (CX.out _ (HTr.out.below (below_regrown _ _ _)) (HVr.out.later (below_regrown _ _ _)))) | (go_at_call 34; exact Calls.regrown_of (CW.out _))))
        refine wpQuiet_nil ?_
        intro w5 hw5
        have HB5 := hidden (bthen HB3.out (bthen HBr.out (rg_below hw5)))
        clear hw5 c0 l0
        go_wp2
        exact bodyPost_ret (v := .tuple #[.string out, .int .i64 0]) (by simp [results, Tryz.results13, go_sem]) rfl ⟨by rw [HOU.out, HENF.out], HB5.out⟩
theorem rPMove_no (n f d p r dr o sl md fr : Int) (ad : Option Addr) (cap : Nat) (zs : List Int) (s : ByteArray) (a2 : Option Addr) (c2 M : Nat) (w : World) (hl : zs.length ≤ 9223372036854775807) (hT : Tab w ad zs) (hE : ¬ plainE n f d p r dr o sl md fr zs = 0) :
    Calls Tryz.prog 13 #[.agg #[.int .i64 n, .int .i64 f, .int .i64 d, .int .i64 p, .int .i64 r, .int .i64 dr, .int .i64 o, .int .i64 sl, .int .i64 md, .int .i64 fr, .slice ad zs.length cap], .string s, .slice a2 M c2] w fun e w' => e = .returned (.tuple #[.string ⟨#[]⟩, .int .i64 0]) ∧ Below w.heap.size w w' := by
  have HB0 := hidden (ballc w (.cells #[.int .i64 n, .int .i64 f, .int .i64 d, .int .i64 p, .int .i64 r, .int .i64 dr, .int .i64 o, .int .i64 sl, .int .i64 md, .int .i64 fr, .slice ad zs.length cap] 24))
  have HP := hidden (refPlain_any n f d p r dr o sl md fr ad cap zs (w.alloc (.cells #[.int .i64 n, .int .i64 f, .int .i64 d, .int .i64 p, .int .i64 r, .int .i64 dr, .int .i64 o, .int .i64 sl, .int .i64 md, .int .i64 fr, .slice ad zs.length cap] 24)) hl (hT.below (ballc _ _)))
  have j1 : (plainE n f d p r dr o sl md fr zs != 0) = true := bne_iff_ne.2 hE
  generalize plainE n f d p r dr o sl md fr zs = E at *
  clear hE hT
  go_enter Tryz.func13, Tryz.ntmps13
  go_wp2_with fail
  refine HP.out.mono ?_
  rintro e w2 ⟨rfl, hb⟩
  have HB2 := hidden (bthen HB0.out hb)
  clear hb HP
  go_wp2
  exact bodyPost_ret (v := .tuple #[.string ⟨#[]⟩, .int .i64 0]) (by simp [results, Tryz.results13, go_sem]) rfl ⟨rfl, HB2.out⟩
theorem rPMove_any (n f d p r dr o sl md fr : Int) (ad : Option Addr) (cap : Nat) (zs : List Int) (R D L : Nat) (s : ByteArray) (a2 : Option Addr) (c2 : Nat) (votes : List ByteArray) (w : World) (hl : zs.length ≤ 9223372036854775807) (hT : Tab w ad zs) (hR : gate (plainE n f d p r dr o sl md fr zs) (3 * (f + 1)) = (R : Int)) (hL : gate (plainE n f d p r dr o sl md fr zs) (3 * (f + 1) * d) = (L : Int))
    (hR15 : R ≤ 15) (hL60 : L ≤ 60) (hLD : L = R * D) (hd : plainE n f d p r dr o sl md fr zs = 0 → (R : Int) = 3 * (f + 1) ∧ d = (D : Int) ∧ 1 ≤ D ∧ D ≤ 4) (hd0 : ¬ plainE n f d p r dr o sl md fr zs = 0 → R = 0) (hn : votes.length ≤ 100000) (hV : kStr.Lies w.heap.size w (.slice a2 votes.length c2) votes) (hz : ∀ t ∈ votes, t.size ≤ 9223372036854775807) :
    Calls Tryz.prog 13 #[.agg #[.int .i64 n, .int .i64 f, .int .i64 d, .int .i64 p, .int .i64 r, .int .i64 dr, .int .i64 o, .int .i64 sl, .int .i64 md, .int .i64 fr, .slice ad zs.length cap], .string s, .slice a2 votes.length c2] w fun e w' => e = .returned (.tuple #[.string (ba (newL (hrdF n f d p r dr o sl md fr ad cap zs votes) D (wellL L s))), .int .i64 (endF (newB (hrdF n f d p r dr o sl md fr ad cap zs votes) D (wellL L s) L))]) ∧ Below w.heap.size w w' := by
  by_cases hE : plainE n f d p r dr o sl md fr zs = 0
  · obtain ⟨h1, h2, h3, h4⟩ := hd hE
    obtain ⟨_, _, f1, _⟩ := plainE_ok hE
    have hL1 : 1 ≤ L := by
      rw [hLD]
      exact Nat.mul_pos (by omega) h3
    obtain ⟨K, rfl⟩ : ∃ K, L = K + 1 := ⟨L - 1, by omega⟩
    exact rPMove_yes n f d p r dr o sl md fr ad cap zs R D K s a2 c2 votes w hl hT hE hR hL hR15 hL60 hLD ⟨h2, h3, h4⟩ hn hV hz
  · have hR0 := hd0 hE
    subst hR0
    have hL0 : L = 0 := by rw [hLD, Nat.zero_mul]
    subst hL0
    have e1 : newL (hrdF n f d p r dr o sl md fr ad cap zs votes) D (wellL 0 s) = [] := List.eq_nil_of_length_eq_zero (by rw [newL_len, wellL_len])
    have e2 : endF (newB (hrdF n f d p r dr o sl md fr ad cap zs votes) D (wellL 0 s) 0) = 0 := by rw [newB_0]; rfl
    rw [e1, e2]
    exact rPMove_no n f d p r dr o sl md fr ad cap zs s a2 c2 votes.length w hl hT hE

set_option maxHeartbeats 1000000 in
theorem rPBegin_any (n f d p r dr o sl md fr : Int) (ad : Option Addr) (cap : Nat) (zs : List Int) (L : Nat) (s : ByteArray) (bit : Int) (w : World) (hl : zs.length ≤ 9223372036854775807) (hT : Tab w ad zs) (hL : gate (plainE n f d p r dr o sl md fr zs) (3 * (f + 1) * d) = (L : Int)) (hL60 : L ≤ 60) (hL1 : plainE n f d p r dr o sl md fr zs = 0 → 1 ≤ L) :
    Calls Tryz.prog 15 #[.agg #[.int .i64 n, .int .i64 f, .int .i64 d, .int .i64 p, .int .i64 r, .int .i64 dr, .int .i64 o, .int .i64 sl, .int .i64 md, .int .i64 fr, .slice ad zs.length cap], .string s, .int .i64 bit] w fun e w' => e = .returned (.string (ba ((wellL L s).set 0 (begC8 bit)))) ∧ Below w.heap.size w w' := by
  have HB0 := hidden (ballc w (.cells #[.int .i64 n, .int .i64 f, .int .i64 d, .int .i64 p, .int .i64 r, .int .i64 dr, .int .i64 o, .int .i64 sl, .int .i64 md, .int .i64 fr, .slice ad zs.length cap] 24))
  have HP := hidden (refPlain_any n f d p r dr o sl md fr ad cap zs (w.alloc (.cells #[.int .i64 n, .int .i64 f, .int .i64 d, .int .i64 p, .int .i64 r, .int .i64 dr, .int .i64 o, .int .i64 sl, .int .i64 md, .int .i64 fr, .slice ad zs.length cap] 24)) hl (hT.below (ballc _ _)))
  by_cases hE : plainE n f d p r dr o sl md fr zs = 0
  · obtain ⟨K, rfl⟩ : ∃ K, L = K + 1 := ⟨L - 1, by have := hL1 hE; omega⟩
    rw [hE] at HP
    have HW := hidden (fun V h => rwell_any n f d p r dr o sl md fr ad cap zs (K + 1) s V hl h hL hL60)
    have C1 := hidden (fun V => rStart_any bit V)
    have C2 := hidden (fun V => rCode_any (startF bit) V)
    have hcb := codeF_bd (startF bit)
    have HBC : Hid (begC8 bit = UInt8.ofNat (48 + (codeF (startF bit)).toNat)) := rfl
    have HT := hidden (hT.below HB0.out)
    have HK := hidden (blk_nw w #[.int .i64 n, .int .i64 f, .int .i64 d, .int .i64 p, .int .i64 r, .int .i64 dr, .int .i64 o, .int .i64 sl, .int .i64 md, .int .i64 fr, .slice ad zs.length cap] 24)
    have hlen := wellL_len (K + 1) s
    obtain ⟨c0', rest, hwl⟩ : ∃ c0' rest, wellL (K + 1) s = c0' :: rest := by
      cases h : wellL (K + 1) s with
      | nil => rw [h] at hlen; cases hlen
      | cons a b => exact ⟨a, b, rfl⟩
    rw [hwl] at HW hlen ⊢
    have hrl : rest.length = K := by simpa using hlen
    have hcut : ∀ X : World, (Instr.slice 9 (.string (ba (c0' :: rest))) (some (.int .i64 1)) none none).run Tryz.prog X = .ok (.string (ba rest)) X := fun X => by
      rw [run_slice_string_l X 9 (ba (c0' :: rest)) Tryz.underlying9 .i64 1 (by omega) (by rw [ba_size, List.length_cons]; omega)]
      congr 2
      apply ByteArray.ext
      rw [ByteArray.data_extract]
      simp only [ba]
      rw [List.extract_toArray, List.extract_eq_take_drop]
      congr 1
      have : (ByteArray.mk (c0' :: rest).toArray).size = K + 1 := by rw [← hlen]; exact ba_size _
      rw [this]
      simp
      exact List.take_of_length_le (by omega)
    have hfin : Hid (ba [begC8 bit] ++ ba rest = ba ((c0' :: rest).set 0 (begC8 bit))) := by
      show _ = _
      rw [ba_append]
      rfl
    rw [← hfin.out]
    have hns1 : (ba [begC8 bit]).size = 1 := by rw [ba_size]; rfl
    have hns2 : (ba rest).size = K := by rw [ba_size, hrl]
    have HNS : Hid (numStr [(48 + codeF (startF bit)) % 256] = ba [begC8 bit]) := by
      show _ = _
      rw [HBC.out]
      show ba [UInt8.ofNat ((48 + codeF (startF bit)) % 256).toNat] = _
      congr 3
      omega
    have C3 := hidden (fun V => rbyte_any (48 + codeF (startF bit)) V)
    rw [HNS.out] at C3
    clear hT hL hE hwl hfin HNS HBC hlen hrl hL1
    generalize ba [begC8 bit] = bt at *
    generalize codeF (startF bit) = q at *
    generalize startF bit = sb at *
    obtain ⟨bv, bs⟩ := sb
    unfold agB at C1
    dsimp only at C1 C2
    have t1 : IntKind.i64.wrap (48 + q) = 48 + q := IntWalk.i64_in _ (by omega)
    generalize ba (c0' :: rest) = ws at *
    generalize ba rest = rs at *
    go_enter Tryz.func15, Tryz.ntmps15
    go_wp2_with fail
    refine HP.out.mono ?_
    rintro e w2 ⟨rfl, hb⟩
    have HB2 := hidden (bthen HB0.out hb)
    have HT2 := hidden (HT.out.below hb)
    have HK2 := hidden (blk_later HK.out hb)
    have c0 := blk_cell HK2.out
    have l0 := blk_lt HK2.out
    clear hb HT HK HP
    go_wp2
    refine wp_region_quiet_below (by kernel_rfl) (by kernel_rfl) ?_
    repeat (go_big_quiet_step (first | (go_at_call 39; exact Calls.regrown_of (C1.out _)) | (go_at_call 38; exact Calls.regrown_of (C2.out _)) | (go_at_call 37; exact Calls.regrown_of (C3.out _)) | (go_at_call 32; exact Calls.regrown_of (HW.out _ (HT2.out.below (below_regrown _ _ _))))))
    refine wpQuiet_nil ?_
    intro w5 hw5
    have HB5 := hidden (bthen HB2.out (rg_below hw5))
    clear hw5 c0 l0
    go_wp2
    go_ret
    exact ⟨rfl, HB5.out⟩
  · have hL0 : L = 0 := by
      rw [gate_no hE] at hL
      omega
    subst hL0
    have hn : (wellL 0 s).set 0 (begC8 bit) = [] := List.eq_nil_of_length_eq_zero (by rw [List.length_set, wellL_len])
    rw [hn]
    have j1 : (plainE n f d p r dr o sl md fr zs != 0) = true := bne_iff_ne.2 hE
    generalize plainE n f d p r dr o sl md fr zs = E at *
    clear hE hT hL hL1 hn
    go_enter Tryz.func15, Tryz.ntmps15
    go_wp2_with fail
    refine HP.out.mono ?_
    rintro e w2 ⟨rfl, hb⟩
    have HB2 := hidden (bthen HB0.out hb)
    clear hb HP
    go_wp2
    go_ret
    exact ⟨rfl, HB2.out⟩
end Go.Proofs.YtkolhbacgoafcaaGreat
