/- Several texts of one's own in one: what each proves, and its conditions, is said ahead of it. -/
import Derived.Test.YtohgmliafidalaaBd
import Derived.Test.YtohgmliafidalaaBf
import Derived.Test.YtohgmliafidalaaBc
import Derived.Test.YtohgmliafidalaaBe

/- The document's calls Start, value, told, Step, Code and Read of layer 14 return what plain functions give, and make at most new memory; conditions: the table and the votes lie where they say, and lengths and numbers fit int. -/
namespace Go.Proofs.Ytohgmliafidalaa
open Go.ChangeShapes Go.WideShapes Go.ChangeAt Go.RowKit
set_option linter.unusedVariables false
attribute [local go_sem] cell_rg

theorem rStart_any (z : Int) (w : World) :
    Calls Try.prog 100 #[.int .i64 z] w fun e w' => e = .returned (agB (startF z)) ∧ Below w.heap.size w w' := by
  by_cases h : z = 1
  · subst h
    go_enter Try.func100, Try.ntmps100
    go_wp2
    exact bodyPost_ret (v := .agg #[.int .i64 1, .bool false]) (by simp [results, Try.results100, go_sem]) rfl ⟨rfl, ballc _ _⟩
  · have e : startF z = (0, false) := if_neg h
    rw [e]
    have e2 : (z == 1) = false := by simp [h]
    go_enter Try.func100, Try.ntmps100
    go_wp2
    exact bodyPost_ret (v := .agg #[.int .i64 0, .bool false]) (by simp [results, Try.results100, go_sem]) rfl ⟨rfl, ballc _ _⟩
theorem rvalue_any (b : Int × Bool) (w : World) :
    Calls Try.prog 124 #[.agg #[.int .i64 b.1, .bool b.2]] w fun e w' => e = .returned (.int .i64 (valF b)) ∧ Below w.heap.size w w' := by
  obtain ⟨v, s⟩ := b
  by_cases h : v < 0
  · rw [valF_lo h]
    have e1 : decide (v < 0) = true := decide_eq_true h
    go_enter Try.func124, Try.ntmps124
    go_wp2
    go_ret
    exact ⟨rfl, ballc _ _⟩
  · have e1 : decide (v < 0) = false := decide_eq_false h
    by_cases h2 : 3 ≤ v
    · rw [valF_hi h h2]
      have e2 : decide (2 < v) = true := decide_eq_true (by omega)
      go_enter Try.func124, Try.ntmps124
      go_wp2
      go_ret
      exact ⟨rfl, ballc _ _⟩
    · rw [valF_in h h2]
      have e2 : decide (2 < v) = false := decide_eq_false (by omega)
      go_enter Try.func124, Try.ntmps124
      go_wp2
      go_ret
      exact ⟨rfl, ballc _ _⟩
theorem rRead_any (c : Int) (w : World) :
    Calls Try.prog 119 #[.int .i64 c] w fun e w' => e = .returned (agB (readK c)) ∧ Below w.heap.size w w' := by
  by_cases h : c < 0
  · have e : readK c = (2, false) := if_pos (.inl h)
    rw [e]
    have e1 : decide (c < 0) = true := decide_eq_true h
    go_enter Try.func119, Try.ntmps119
    go_wp2
    exact bodyPost_ret (v := .agg #[.int .i64 2, .bool false]) (by simp [results, Try.results119, go_sem]) rfl ⟨rfl, ballc _ _⟩
  · have e1 : decide (c < 0) = false := decide_eq_false h
    by_cases h2 : 6 ≤ c
    · have e : readK c = (2, false) := if_pos (.inr h2)
      rw [e]
      have e2 : decide (5 < c) = true := decide_eq_true (by omega)
      go_enter Try.func119, Try.ntmps119
      go_wp2
      exact bodyPost_ret (v := .agg #[.int .i64 2, .bool false]) (by simp [results, Try.results119, go_sem]) rfl ⟨rfl, ballc _ _⟩
    · have e2 : decide (5 < c) = false := decide_eq_false (by omega)
      have e : readK c = (c.tmod 3, decide (3 ≤ c)) := if_neg (by omega)
      rw [e]
      have hc : c = 0 ∨ c = 1 ∨ c = 2 ∨ c = 3 ∨ c = 4 ∨ c = 5 := by omega
      clear e e1 e2 h h2
      rcases hc with rfl | rfl | rfl | rfl | rfl | rfl
      all_goals
        go_enter Try.func119, Try.ntmps119
        go_wp2
        refine bodyPost_ret (v := _) (by simp [results, Try.results119, go_sem]; rfl) rfl ⟨rfl, ?_⟩
        first | exact ballc _ _ | exact below2T (ballc _ _) (Nat.le_refl _) _ _
theorem rCode_any (b : Int × Bool) (w : World) :
    Calls Try.prog 121 #[.agg #[.int .i64 b.1, .bool b.2]] w fun e w' => e = .returned (.int .i64 (codeF b)) ∧ Below w.heap.size w w' := by
  obtain ⟨v, s⟩ := b
  have HV := hidden (fun V => rvalue_any (v, s) V)
  have hq := valF_bd (v, s)
  cases s
  · have e : codeF (v, false) = valF (v, false) := if_neg (by simp)
    rw [e]
    generalize valF (v, false) = q at *
    go_enter Try.func121, Try.ntmps121
    go_wp2_with fail
    refine (HV.out _).mono ?_
    rintro e w2 ⟨rfl, hb⟩
    have HB := hidden (bthen (ballc w _) hb)
    clear hb
    go_wp2
    go_ret
    exact ⟨rfl, HB.out⟩
  · have e : codeF (v, true) = valF (v, true) + 3 := (if_pos rfl).trans (Int.add_comm _ _)
    rw [e]
    generalize valF (v, true) = q at *
    go_enter Try.func121, Try.ntmps121
    go_wp2_with fail
    refine (HV.out _).mono ?_
    rintro e w2 ⟨rfl, hb⟩
    have HB := hidden (bthen (ballc w _) hb)
    clear hb
    go_wp2
    go_ret
    exact ⟨rfl, HB.out⟩

def toldF (k : Int) : Int := if k = 1 ∨ k = 2 then 1 else 0
theorem rtold_any (k : Int) (w : World) :
    Calls Try.prog 128 #[.int .i64 k] w fun e w' => e = .returned (.int .i64 (toldF k)) ∧ w = w' := by
  by_cases h1 : k = 1
  · subst h1
    go_enter Try.func128, Try.ntmps128
    go_wp2
    go_ret
    exact ⟨rfl, rfl⟩
  · have e1 : (k == 1) = false := by simp [h1]
    by_cases h2 : k = 2
    · subst h2
      clear h1
      go_enter Try.func128, Try.ntmps128
      go_wp2
      go_ret
      exact ⟨rfl, rfl⟩
    · have e2 : (k == 2) = false := by simp [h2]
      have e : toldF k = 0 := if_neg (by omega)
      rw [e]
      go_enter Try.func128, Try.ntmps128
      go_wp2
      go_ret
      exact ⟨rfl, rfl⟩
theorem obey_told {b : Int × Bool} {k : Int} (h : valF b = 2 ∨ b.2 = false) : obeyF b k = (toldF k, false) := by
  have hn : ¬ (valF b ≠ 2 ∧ b.2 = true) := by rintro ⟨h1, h2⟩; rcases h with h | h; exact h1 h; rw [h] at h2; cases h2
  unfold toldF
  by_cases h2 : k = 1 ∨ k = 2
  · rw [if_pos h2]; exact obeyF_1 hn h2
  · rw [if_neg h2]; exact obeyF_0 hn h2
set_option maxHeartbeats 2000000 in
theorem rKStep_any (n f d p r dr o sl md fr : Int) (ad : Option Addr) (cap : Nat) (zs : List Int) (x : Int) (b : Int × Bool) (k : Int) (a2 : Option Addr) (len c2 : Nat) (vs : List Int) (w : World) (hl : zs.length ≤ 9223372036854775807) (hT : Tab w ad zs) (hx : (Lit.int .i64 x).wf = true) (hlv : vs.length ≤ 9223372036854775807) (hV : kInt.Lies w.heap.size w (.slice a2 len c2) vs) :
    Calls Try.prog 107 #[.agg #[.int .i64 n, .int .i64 f, .int .i64 d, .int .i64 p, .int .i64 r, .int .i64 dr, .int .i64 o, .int .i64 sl, .int .i64 md, .int .i64 fr, .slice ad zs.length cap], .int .i64 x, .agg #[.int .i64 b.1, .bool b.2], .int .i64 k, .slice a2 len c2] w fun e w' => e = .returned (agB (stepF (plainE n f d p r dr o sl md fr zs) n f x b k vs)) ∧ Below w.heap.size w w' := by
  have hB0 : Below w.heap.size w (((w.alloc (.cells #[.int .i64 n, .int .i64 f, .int .i64 d, .int .i64 p, .int .i64 r, .int .i64 dr, .int .i64 o, .int .i64 sl, .int .i64 md, .int .i64 fr, .slice ad zs.length cap] 24)).alloc (.cells #[.int .i64 b.1, .bool b.2] 108)).alloc (.cells #[.int .i64 0, .bool false] 108)) := bthen (bthen (ballc w _) (ballc _ _)) (ballc _ _)
  have HT := hidden (hT.below hB0)
  have HV := hidden (hV.later hB0)
  have hk0 := blk_later (blk_later (blk_nw w #[.int .i64 n, .int .i64 f, .int .i64 d, .int .i64 p, .int .i64 r, .int .i64 dr, .int .i64 o, .int .i64 sl, .int .i64 md, .int .i64 fr, .slice ad zs.length cap] 24) (ballc _ (.cells #[.int .i64 b.1, .bool b.2] 108))) (ballc _ (.cells #[.int .i64 0, .bool false] 108))
  have hk1 := blk_later (blk_newAt (w.alloc (.cells #[.int .i64 n, .int .i64 f, .int .i64 d, .int .i64 p, .int .i64 r, .int .i64 dr, .int .i64 o, .int .i64 sl, .int .i64 md, .int .i64 fr, .slice ad zs.length cap] 24)) #[.int .i64 b.1, .bool b.2] 108 (b := w.heap.size + 1) (by simp)) (ballc _ (.cells #[.int .i64 0, .bool false] 108))
  have hk2 := blk_newAt ((w.alloc (.cells #[.int .i64 n, .int .i64 f, .int .i64 d, .int .i64 p, .int .i64 r, .int .i64 dr, .int .i64 o, .int .i64 sl, .int .i64 md, .int .i64 fr, .slice ad zs.length cap] 24)).alloc (.cells #[.int .i64 b.1, .bool b.2] 108)) #[.int .i64 0, .bool false] 108 (b := w.heap.size + 2) (by simp)
  have HK0 := hidden hk0
  have HK1 := hidden hk1
  have HK2 := hidden hk2
  have HB0 := hidden hB0
  have M1 := hidden (fun V h h2 => rMost_any n f d p r dr o sl md fr ad cap zs a2 len c2 vs V hl h hlv h2)
  have L1 := hidden (fun V h h2 => rLeast_any n f d p r dr o sl md fr ad cap zs (valF b) a2 len c2 vs V hl h hlv h2)
  have E1 := hidden (fun v V h h2 => rEnough_any n f d p r dr o sl md fr ad cap zs v a2 len c2 vs V hl h hlv h2)
  have TO := hidden (fun V => rtold_any k V)
  have ot := obey_told (b := b) (k := k)
  have os := obeyF_s (b := b) (k := k)
  have VA := hidden (fun V => rvalue_any b V)
  have HM := hidden (fun V => rmod_any x 3 V hx rfl)
  have s0 := stepF_0 (E := plainE n f d p r dr o sl md fr zs) (n := n) (f := f) (x := x) (b := b) (k := k) (vs := vs)
  have s1 := stepF_1 (E := plainE n f d p r dr o sl md fr zs) (n := n) (f := f) (x := x) (b := b) (k := k) (vs := vs)
  have s2 := stepF_2 (E := plainE n f d p r dr o sl md fr zs) (n := n) (f := f) (x := x) (b := b) (k := k) (vs := vs)
  have h3 := modF3 x
  clear hT hV hB0 hk0 hk1 hk2
  generalize plainE n f d p r dr o sl md fr zs = E at *
  generalize stepF E n f x b k vs = r at *
  obtain ⟨bv, bs⟩ := b
  dsimp only at *
  generalize mostF E n f vs = ms at *
  generalize valF (bv, bs) = q at *
  generalize leastF E f q vs = ls at *
  generalize modF x 3 = m at *
  have hm : m = 0 ∨ m = 1 ∨ m = 2 := by omega
  clear h3 hx
  rcases hm with rfl | rfl | rfl
  · obtain rfl := s0 rfl
    clear s0 s1 s2 L1 E1 TO ot os
    go_enter Try.func107, Try.ntmps107
    go_wp2_with fail
    generalize (((w.alloc (.cells #[.int .i64 n, .int .i64 f, .int .i64 d, .int .i64 p, .int .i64 r, .int .i64 dr, .int .i64 o, .int .i64 sl, .int .i64 md, .int .i64 fr, .slice ad zs.length cap] 24)).alloc (.cells #[.int .i64 bv, .bool bs] 108)).alloc (.cells #[.int .i64 0, .bool false] 108)) = W0 at *
    refine (VA.out _).mono ?_
    rintro e wv ⟨rfl, hb⟩
    have HB_wv := hidden (hb)
    clear hb
    have c0 := fun i => blk_cell (blk_later HK0.out HB_wv.out) i
    have c1 := fun i => blk_cell (blk_later HK1.out HB_wv.out) i
    have c2' := fun i => blk_cell (blk_later HK2.out HB_wv.out) i
    have l0 := blk_lt (blk_later HK0.out HB_wv.out)
    have l1 := blk_lt (blk_later HK1.out HB_wv.out)
    have l2 := blk_lt (blk_later HK2.out HB_wv.out)
    have fz := fun i => blk_frozen (blk_later HK2.out HB_wv.out) i
    go_wp2_with fail
    refine (HM.out _).mono ?_
    rintro e wm ⟨rfl, rfl⟩
    go_wp2_with fail
    refine (M1.out _ (HT.out.below HB_wv.out) (HV.out.later HB_wv.out)).mono ?_
    rintro e wa ⟨rfl, hb⟩
    have HB_wa := hidden (bthen HB_wv.out hb)
    clear hb c0 c1 c2' l0 l1 l2 fz
    have c0 := fun i => blk_cell (blk_later HK0.out HB_wa.out) i
    have c1 := fun i => blk_cell (blk_later HK1.out HB_wa.out) i
    have c2' := fun i => blk_cell (blk_later HK2.out HB_wa.out) i
    have l0 := blk_lt (blk_later HK0.out HB_wa.out)
    have l1 := blk_lt (blk_later HK1.out HB_wa.out)
    have l2 := blk_lt (blk_later HK2.out HB_wa.out)
    have fz := fun i => blk_frozen (blk_later HK2.out HB_wa.out) i
    go_wp2
    obtain ⟨r0, r1⟩ := read2T (blk_later HK2.out HB_wa.out) (.int .i64 ms) (.bool false)
    exact bodyPost_ret (v := .agg #[.int .i64 ms, .bool false]) (by simp [results, Try.results107, go_sem, r0, r1]) rfl ⟨rfl, below2T (bthen HB0.out HB_wa.out) (by omega) _ _⟩
  · obtain rfl := s1 rfl
    clear s0 s1 s2 M1 TO ot os
    have E2 := hidden (E1.out ls)
    clear E1
    generalize enoughB E n f ls vs = en at *
    go_enter Try.func107, Try.ntmps107
    go_wp2_with fail
    generalize (((w.alloc (.cells #[.int .i64 n, .int .i64 f, .int .i64 d, .int .i64 p, .int .i64 r, .int .i64 dr, .int .i64 o, .int .i64 sl, .int .i64 md, .int .i64 fr, .slice ad zs.length cap] 24)).alloc (.cells #[.int .i64 bv, .bool bs] 108)).alloc (.cells #[.int .i64 0, .bool false] 108)) = W0 at *
    refine (VA.out _).mono ?_
    rintro e wv ⟨rfl, hb⟩
    have HB_wv := hidden (hb)
    clear hb
    have c0 := fun i => blk_cell (blk_later HK0.out HB_wv.out) i
    have c1 := fun i => blk_cell (blk_later HK1.out HB_wv.out) i
    have c2' := fun i => blk_cell (blk_later HK2.out HB_wv.out) i
    have l0 := blk_lt (blk_later HK0.out HB_wv.out)
    have l1 := blk_lt (blk_later HK1.out HB_wv.out)
    have l2 := blk_lt (blk_later HK2.out HB_wv.out)
    have fz := fun i => blk_frozen (blk_later HK2.out HB_wv.out) i
    go_wp2_with fail
    refine (HM.out _).mono ?_
    rintro e wm ⟨rfl, rfl⟩
    go_wp2_with fail
    refine (HM.out _).mono ?_
    rintro e wm2 ⟨rfl, rfl⟩
    go_wp2_with fail
    refine (L1.out _ (HT.out.below HB_wv.out) (HV.out.later HB_wv.out)).mono ?_
    rintro e wb ⟨rfl, hb⟩
    have HB_wb := hidden (bthen HB_wv.out hb)
    clear hb c0 c1 c2' l0 l1 l2 fz
    have c0 := fun i => blk_cell (blk_later HK0.out HB_wb.out) i
    have c1 := fun i => blk_cell (blk_later HK1.out HB_wb.out) i
    have c2' := fun i => blk_cell (blk_later HK2.out HB_wb.out) i
    have l0 := blk_lt (blk_later HK0.out HB_wb.out)
    have l1 := blk_lt (blk_later HK1.out HB_wb.out)
    have l2 := blk_lt (blk_later HK2.out HB_wb.out)
    have fz := fun i => blk_frozen (blk_later HK2.out HB_wb.out) i
    go_wp2_with fail
    refine (E2.out _ (HT.out.below HB_wb.out) (HV.out.later HB_wb.out)).mono ?_
    rintro e wc ⟨rfl, hb⟩
    have HB_wc := hidden (bthen HB_wb.out hb)
    clear hb c0 c1 c2' l0 l1 l2 fz
    have c0 := fun i => blk_cell (blk_later HK0.out HB_wc.out) i
    have c1 := fun i => blk_cell (blk_later HK1.out HB_wc.out) i
    have c2' := fun i => blk_cell (blk_later HK2.out HB_wc.out) i
    have l0 := blk_lt (blk_later HK0.out HB_wc.out)
    have l1 := blk_lt (blk_later HK1.out HB_wc.out)
    have l2 := blk_lt (blk_later HK2.out HB_wc.out)
    have fz := fun i => blk_frozen (blk_later HK2.out HB_wc.out) i
    go_wp2
    obtain ⟨r0, r1⟩ := read2T (blk_later HK2.out HB_wc.out) (.int .i64 ls) (.bool en)
    exact bodyPost_ret (v := .agg #[.int .i64 ls, .bool en]) (by simp [results, Try.results107, go_sem, r0, r1]) rfl ⟨rfl, below2T (bthen HB0.out HB_wc.out) (by omega) _ _⟩
  · obtain rfl := s2 rfl
    clear s0 s1 s2 M1 L1 E1
    by_cases hq : q = 2
    · have g1 : (q == 2) = true := by simp [hq]
      rw [ot (.inl hq)]
      generalize toldF k = tk at *
      clear ot os
      go_enter Try.func107, Try.ntmps107
      go_wp2_with fail
      generalize (((w.alloc (.cells #[.int .i64 n, .int .i64 f, .int .i64 d, .int .i64 p, .int .i64 r, .int .i64 dr, .int .i64 o, .int .i64 sl, .int .i64 md, .int .i64 fr, .slice ad zs.length cap] 24)).alloc (.cells #[.int .i64 bv, .bool bs] 108)).alloc (.cells #[.int .i64 0, .bool false] 108)) = W0 at *
      refine (VA.out _).mono ?_
      rintro e wv ⟨rfl, hb⟩
      have HB_wv := hidden (hb)
      clear hb
      have c0 := fun i => blk_cell (blk_later HK0.out HB_wv.out) i
      have c1 := fun i => blk_cell (blk_later HK1.out HB_wv.out) i
      have c2' := fun i => blk_cell (blk_later HK2.out HB_wv.out) i
      have l0 := blk_lt (blk_later HK0.out HB_wv.out)
      have l1 := blk_lt (blk_later HK1.out HB_wv.out)
      have l2 := blk_lt (blk_later HK2.out HB_wv.out)
      have fz := fun i => blk_frozen (blk_later HK2.out HB_wv.out) i
      go_wp2_with fail
      refine (HM.out _).mono ?_
      rintro e wm ⟨rfl, rfl⟩
      go_wp2_with fail
      refine (HM.out _).mono ?_
      rintro e wm2 ⟨rfl, rfl⟩
      go_wp2_with fail
      refine (TO.out _).mono ?_
      rintro e wt ⟨rfl, rfl⟩
      go_wp2
      obtain ⟨r0, r1⟩ := read2T (blk_later HK2.out HB_wv.out) (.int .i64 tk) (.bool false)
      exact bodyPost_ret (v := .agg #[.int .i64 tk, .bool false]) (by simp [results, Try.results107, go_sem, r0, r1]) rfl ⟨rfl, below2T (bthen HB0.out HB_wv.out) (by omega) _ _⟩
    · have g1 : (q == 2) = false := by simp [hq]
      cases bs
      · rw [ot (.inr rfl)]
        generalize toldF k = tk at *
        clear ot os
        go_enter Try.func107, Try.ntmps107
        go_wp2_with fail
        generalize (((w.alloc (.cells #[.int .i64 n, .int .i64 f, .int .i64 d, .int .i64 p, .int .i64 r, .int .i64 dr, .int .i64 o, .int .i64 sl, .int .i64 md, .int .i64 fr, .slice ad zs.length cap] 24)).alloc (.cells #[.int .i64 bv, .bool false] 108)).alloc (.cells #[.int .i64 0, .bool false] 108)) = W0 at *
        refine (VA.out _).mono ?_
        rintro e wv ⟨rfl, hb⟩
        have HB_wv := hidden (hb)
        clear hb
        have c0 := fun i => blk_cell (blk_later HK0.out HB_wv.out) i
        have c1 := fun i => blk_cell (blk_later HK1.out HB_wv.out) i
        have c2' := fun i => blk_cell (blk_later HK2.out HB_wv.out) i
        have l0 := blk_lt (blk_later HK0.out HB_wv.out)
        have l1 := blk_lt (blk_later HK1.out HB_wv.out)
        have l2 := blk_lt (blk_later HK2.out HB_wv.out)
        have fz := fun i => blk_frozen (blk_later HK2.out HB_wv.out) i
        go_wp2_with fail
        refine (HM.out _).mono ?_
        rintro e wm ⟨rfl, rfl⟩
        go_wp2_with fail
        refine (HM.out _).mono ?_
        rintro e wm2 ⟨rfl, rfl⟩
        go_wp2_with fail
        refine (TO.out _).mono ?_
        rintro e wt ⟨rfl, rfl⟩
        go_wp2
        obtain ⟨r0, r1⟩ := read2T (blk_later HK2.out HB_wv.out) (.int .i64 tk) (.bool false)
        exact bodyPost_ret (v := .agg #[.int .i64 tk, .bool false]) (by simp [results, Try.results107, go_sem, r0, r1]) rfl ⟨rfl, below2T (bthen HB0.out HB_wv.out) (by omega) _ _⟩
      · rw [os hq rfl]
        clear ot os TO
        go_enter Try.func107, Try.ntmps107
        go_wp2_with fail
        generalize (((w.alloc (.cells #[.int .i64 n, .int .i64 f, .int .i64 d, .int .i64 p, .int .i64 r, .int .i64 dr, .int .i64 o, .int .i64 sl, .int .i64 md, .int .i64 fr, .slice ad zs.length cap] 24)).alloc (.cells #[.int .i64 bv, .bool true] 108)).alloc (.cells #[.int .i64 0, .bool false] 108)) = W0 at *
        refine (VA.out _).mono ?_
        rintro e wv ⟨rfl, hb⟩
        have HB_wv := hidden (hb)
        clear hb
        have c0 := fun i => blk_cell (blk_later HK0.out HB_wv.out) i
        have c1 := fun i => blk_cell (blk_later HK1.out HB_wv.out) i
        have c2' := fun i => blk_cell (blk_later HK2.out HB_wv.out) i
        have l0 := blk_lt (blk_later HK0.out HB_wv.out)
        have l1 := blk_lt (blk_later HK1.out HB_wv.out)
        have l2 := blk_lt (blk_later HK2.out HB_wv.out)
        have fz := fun i => blk_frozen (blk_later HK2.out HB_wv.out) i
        go_wp2_with fail
        refine (HM.out _).mono ?_
        rintro e wm ⟨rfl, rfl⟩
        go_wp2_with fail
        refine (HM.out _).mono ?_
        rintro e wm2 ⟨rfl, rfl⟩
        go_wp2
        obtain ⟨r0, r1⟩ := read2T (blk_later HK2.out HB_wv.out) (.int .i64 q) (.bool false)
        exact bodyPost_ret (v := .agg #[.int .i64 q, .bool false]) (by simp [results, Try.results107, go_sem, r0, r1]) rfl ⟨rfl, below2T (bthen HB0.out HB_wv.out) (by omega) _ _⟩
end Go.Proofs.Ytohgmliafidalaa

/- The document's own Byte returns a text of one byte, and makes at most new memory; no conditions. -/
namespace Go.Proofs.Ytohgmliafidalaa
open Go.ChangeShapes Go.WideShapes Go.ChangeAt Go.RowKit
set_option linter.unusedVariables false

theorem rbyte_any (n : Int) (w : World) :
    Calls Try.prog 89 #[.int .i64 n] w fun e w' => e = .returned (.string (numStr [n % 256])) ∧ Below w.heap.size w w' := by
  have hcv := conv_cells w [n % 256] 1
  simp only [List.map_cons, List.map_nil, List.length_cons, List.length_nil, Nat.zero_add] at hcv
  go_enter Try.func89, Try.ntmps89
  go_wp2
  go_ret
  exact ⟨rfl, (Below.refl _ _).alloc (Nat.le_refl _) _⟩
theorem numStr_size (zs : List Int) : (numStr zs).size = zs.length := by simp [numStr, ByteArray.size]
theorem numStr_append (a b : List Int) : numStr a ++ numStr b = numStr (a ++ b) := by
  apply ByteArray.ext
  simp [numStr, ByteArray.data_append]
theorem numStr_nil : (ByteArray.mk #[]) = numStr [] := rfl
end Go.Proofs.Ytohgmliafidalaa

/- The document's calls bit, code, digit, Of, Values, Vote, Step, Number and Bits of layer 16 return what plain functions give, and make at most new memory; conditions: rows lie where they say, lengths fit int. -/
namespace Go.Proofs.Ytohgmliafidalaa
open Go.ChangeShapes Go.WideShapes Go.ChangeAt Go.RowKit
set_option linter.unusedVariables false
attribute [local go_sem] cell_rg

def ubit (c : Int) : Int := if c = 49 then 1 else 0
theorem ubit_vdg {s : ByteArray} {k : Nat} (h : k < s.size) : ubit ((s[k]'h).toNat : Int) = if vdg 1 s k = 1 then 1 else 0 := by
  unfold ubit vdg
  rw [dif_pos h]
  generalize ((s[k]'h).toNat : Int) = c
  by_cases e : c = 49
  · subst e; decide
  · rw [if_neg e]
    symm
    apply if_neg
    split <;> omega
theorem start_ubit {s : ByteArray} {k : Nat} (h : k < s.size) : startF (ubit ((s[k]'h).toNat : Int)) = startF (vdg 1 s k) := by
  rw [ubit_vdg h]
  unfold startF
  by_cases e : vdg 1 s k = 1 <;> simp [e]
theorem rbit_any (c : Int) (w : World) :
    Calls Try.prog 70 #[.int .u8 c] w fun e w' => e = .returned (.int .i64 (ubit c)) ∧ w = w' := by
  by_cases h : c = 49
  · have e := hidden (show ubit c = 1 from if_pos h)
    have j : (c == 49) = true := by simp [h]
    go_enter Try.func70, Try.ntmps70
    go_wp2
    go_ret
    exact ⟨ret_i e.out.symm, rfl⟩
  · have e := hidden (show ubit c = 0 from if_neg h)
    have j : (c == 49) = false := by simp [h]
    go_enter Try.func70, Try.ntmps70
    go_wp2
    go_ret
    exact ⟨ret_i e.out.symm, rfl⟩
theorem rdigit_any (b : Int × Bool) (w : World) :
    Calls Try.prog 99 #[.agg #[.int .i64 b.1, .bool b.2]] w fun e w' => e = .returned (.string (ba [UInt8.ofNat (48 + (codeF b).toNat)])) ∧ Below w.heap.size w w' := by
  obtain ⟨v, s⟩ := b
  have C1 := hidden (fun V => rCode_any (v, s) V)
  have hb := codeF_bd (v, s)
  generalize codeF (v, s) = q at *
  have C2 := hidden (fun V => rbyte_any (48 + q) V)
  have HE : Hid (numStr [(48 + q) % 256] = ba [UInt8.ofNat (48 + q.toNat)]) := by
    show _ = _
    rw [numStr_one, show ((48 + q) % 256).toNat = 48 + q.toNat by omega]
  rw [HE.out] at C2
  dsimp only at C1
  generalize ba [UInt8.ofNat (48 + q.toNat)] = out at *
  go_enter Try.func99, Try.ntmps99
  go_wp2_with fail
  refine (C1.out _).mono ?_
  rintro e w2 ⟨rfl, hb⟩
  have HB2 := hidden (bthen (ballc w _) hb)
  clear hb
  go_wp2_with fail
  refine (C2.out _).mono ?_
  rintro e w3 ⟨rfl, hb⟩
  have HB3 := hidden (bthen HB2.out hb)
  clear hb
  go_wp2
  go_ret
  exact ⟨rfl, HB3.out⟩
theorem rcode_any (s : ByteArray) (k : Nat) (h : k < s.size) (w : World) :
    Calls Try.prog 90 #[.int .u8 ((s[k]'h).toNat : Int)] w fun e w' => e = .returned (agB (bitK s k)) ∧ Below w.heap.size w w' := by
  have HB : Hid (bitK s k = readK (vdg 5 s k)) := rfl
  have hno := fun q => vdg_no (last := 5) h q
  have hin := fun q r => vdg_in (last := 5) h q r
  have hlt := (s[k]'h).toNat_lt
  rw [HB.out]
  generalize vdg 5 s k = z at *
  generalize hc : ((s[k]'h).toNat : Int) = c at *
  have hc0 : 0 ≤ c ∧ c < 256 := by omega
  clear hc hlt HB
  by_cases h1 : c < 48
  · obtain rfl := hno (.inl h1)
    have d1 : decide (c < 48) = true := decide_eq_true h1
    have C1 := hidden (fun V => rRead_any (-1) V)
    generalize readK (-1) = b at *
    obtain ⟨bv, bs⟩ := b
    unfold agB at C1 ⊢
    dsimp only at C1 ⊢
    clear hno hin h1
    go_enter Try.func90, Try.ntmps90
    go_wp2_with fail
    refine (C1.out _).mono ?_
    rintro e w2 ⟨rfl, hb⟩
    have hk := blk_later (blk_nw w #[.int .i64 0, .bool false] 108) hb
    have c0 := fun i => blk_cell hk i
    have f0 := fun i => blk_frozen hk i
    have l0 := blk_lt hk
    have HB := hidden (bthen (ballc w _) hb)
    have HK := hidden hk
    clear hb hk
    go_wp2
    obtain ⟨r0, r1⟩ := read2T HK.out (.int .i64 bv) (.bool bs)
    exact bodyPost_ret (v := .agg #[.int .i64 bv, .bool bs]) (by simp [results, Try.results90, go_sem, r0, r1]) rfl ⟨rfl, below2T HB.out (Nat.le_refl _) _ _⟩
  · have d1 : decide (c < 48) = false := decide_eq_false h1
    by_cases h2 : 53 < c
    · obtain rfl := hno (.inr (by omega))
      have d2 : decide (53 < c) = true := decide_eq_true h2
      have C1 := hidden (fun V => rRead_any (-1) V)
      generalize readK (-1) = b at *
      obtain ⟨bv, bs⟩ := b
      unfold agB at C1 ⊢
      dsimp only at C1 ⊢
      clear hno hin h1 h2
      go_enter Try.func90, Try.ntmps90
      go_wp2_with fail
      refine (C1.out _).mono ?_
      rintro e w2 ⟨rfl, hb⟩
      have hk := blk_later (blk_nw w #[.int .i64 0, .bool false] 108) hb
      have c0 := fun i => blk_cell hk i
      have f0 := fun i => blk_frozen hk i
      have l0 := blk_lt hk
      have HB := hidden (bthen (ballc w _) hb)
      have HK := hidden hk
      clear hb hk
      go_wp2
      obtain ⟨r0, r1⟩ := read2T HK.out (.int .i64 bv) (.bool bs)
      exact bodyPost_ret (v := .agg #[.int .i64 bv, .bool bs]) (by simp [results, Try.results90, go_sem, r0, r1]) rfl ⟨rfl, below2T HB.out (Nat.le_refl _) _ _⟩
    · have d2 : decide (53 < c) = false := decide_eq_false h2
      have e := hin h1 (by omega)
      have C1 := hidden (fun V => rRead_any (c - 48) V)
      rw [e]
      generalize readK (c - 48) = b at *
      obtain ⟨bv, bs⟩ := b
      unfold agB at C1 ⊢
      dsimp only at C1 ⊢
      clear hno hin e
      go_enter Try.func90, Try.ntmps90
      go_wp2_with fail
      refine (C1.out _).mono ?_
      rintro e w2 ⟨rfl, hb⟩
      have hk := blk_later (blk_nw w #[.int .i64 0, .bool false] 108) hb
      have c0 := fun i => blk_cell hk i
      have f0 := fun i => blk_frozen hk i
      have l0 := blk_lt hk
      have HB := hidden (bthen (ballc w _) hb)
      have HK := hidden hk
      clear hb hk
      go_wp2
      obtain ⟨r0, r1⟩ := read2T HK.out (.int .i64 bv) (.bool bs)
      exact bodyPost_ret (v := .agg #[.int .i64 bv, .bool bs]) (by simp [results, Try.results90, go_sem, r0, r1]) rfl ⟨rfl, below2T HB.out (Nat.le_refl _) _ _⟩
theorem rVote_any (s : ByteArray) (k : Nat) (w : World) (hs : s.size ≤ 9223372036854775807) :
    Calls Try.prog 106 #[.string s, .int .i64 (k : Int)] w fun e w' => e = .returned (.int .i64 (vdg 2 s k)) ∧ w = w' := by
  have d0 : decide ((k : Int) < 0) = false := decide_eq_false (by omega)
  by_cases h2 : s.size ≤ k
  · have d3 : decide (s.size ≤ k) = true := decide_eq_true h2
    have d3' : (s.size : Int) ≤ (k : Int) := by omega
    have e := hidden (vdg_out (last := 2) h2)
    go_enter Try.func106, Try.ntmps106
    go_wp2
    go_ret
    exact ⟨ret_i e.out.symm, rfl⟩
  · have hj : k < s.size := by omega
    have d2 : decide (s.size ≤ k) = false := decide_eq_false h2
    have d3 : decide ((s.size : Int) ≤ (k : Int)) = false := decide_eq_false (by omega)
    have hb := (s[k]'hj).toNat_lt
    by_cases h3 : ((s[k]'hj).toNat : Int) < 48
    · have e := hidden (vdg_no (last := 2) hj (.inl h3))
      have d4 : decide (((s[k]'hj).toNat : Int) < 48) = true := decide_eq_true h3
      go_enter Try.func106, Try.ntmps106
      go_wp2
      go_ret
      exact ⟨ret_i e.out.symm, rfl⟩
    · have d4 : decide (((s[k]'hj).toNat : Int) < 48) = false := decide_eq_false h3
      by_cases h4 : (50 : Int) < ((s[k]'hj).toNat : Int)
      · have e := hidden (vdg_no (last := 2) hj (.inr h4))
        have d5 : decide ((50 : Int) < ((s[k]'hj).toNat : Int)) = true := decide_eq_true h4
        go_enter Try.func106, Try.ntmps106
        go_wp2
        go_ret
        exact ⟨ret_i e.out.symm, rfl⟩
      · have e := hidden (vdg_in (last := 2) hj h3 h4)
        have d5 : decide ((50 : Int) < ((s[k]'hj).toNat : Int)) = false := decide_eq_false h4
        go_enter Try.func106, Try.ntmps106
        go_wp2
        go_ret
        exact ⟨ret_i e.out.symm, rfl⟩
set_option maxHeartbeats 1000000 in
theorem rOf_any (s : ByteArray) (hs : s.size ≤ 100000) (w : World) :
    Calls Try.prog 56 #[.string s] w fun e w' => e = .returned (.string (dgB s.size (ofG s))) ∧ Below w.heap.size w w' := by
  go_enter Try.func56, Try.ntmps56
  go_wp2
  go_loopw [3, 4] (fun a i wr => ∃ k : Nat, k ≤ s.size ∧ i = .int .i64 k ∧ a = .string (dgB k (ofG s)) ∧ Below w.heap.size w wr) (fun _ i _ => s.size - (intV i).toNat)
  case atStart => exact ⟨0, Nat.zero_le _, rfl, rfl, Below.refl _ _⟩
  case round =>
    obtain ⟨k, hk, rfl, rfl, hB⟩ := hrel
    have HB := hidden hB
    clear hB
    by_cases hlt : k < s.size
    · have i2 : (k : Int) < (s.size : Int) := by omega
      have C1 := hidden (fun V => rbit_any ((s[k]'hlt).toNat : Int) V)
      have C2 := hidden (fun V => rStart_any (ubit ((s[k]'hlt).toNat : Int)) V)
      rw [start_ubit hlt] at C2
      have C3 := hidden (fun V => rdigit_any (startF (vdg 1 s k)) V)
      have z1 : (dgB k (ofG s)).size ≤ 100000 := by rw [dgB_size]; omega
      have z2 : ∀ c, (ba [c]).size = 1 := fun _ => rfl
      have HS : Hid (dgB (k + 1) (ofG s) = dgB k (ofG s) ++ ba [UInt8.ofNat (48 + (codeF (startF (vdg 1 s k))).toNat)]) := dgB_s k (ofG s)
      have z3 := z2 (UInt8.ofNat (48 + (codeF (startF (vdg 1 s k))).toNat))
      clear z2
      generalize ba [UInt8.ofNat (48 + (codeF (startF (vdg 1 s k))).toNat)] = dd at *
      generalize startF (vdg 1 s k) = b at *
      generalize ubit ((s[k]'hlt).toNat : Int) = ub at *
      obtain ⟨bv, bs⟩ := b
      unfold agB at C2
      dsimp only at C2 C3
      generalize dgB k (ofG s) = cur at *
      go_wp2_with fail
      refine (C1.out _).mono ?_
      rintro e w2 ⟨rfl, rfl⟩
      go_wp2_with fail
      refine (C2.out _).mono ?_
      rintro e w3 ⟨rfl, hb⟩
      have HB3 := hidden (bthen HB.out hb)
      clear hb
      go_wp2_with fail
      refine (C3.out _).mono ?_
      rintro e w4 ⟨rfl, hb⟩
      have HB4 := hidden (bthen HB3.out hb)
      clear hb
      go_wp2
      go_roundw
      case rel => exact ⟨k + 1, by omega, by go_num, by rw [HS.out], HB4.out⟩
      case measure => simp [intV]; omega
    · obtain rfl : k = s.size := by omega
      go_wp2
      go_ret
      exact ⟨rfl, HB.out⟩
set_option maxHeartbeats 1000000 in
theorem rValues_any (s : ByteArray) (hs : s.size ≤ 100000) (w : World) :
    Calls Try.prog 51 #[.string s] w fun e w' => e = .returned (.string (dgB s.size (valG s))) ∧ Below w.heap.size w w' := by
  go_enter Try.func51, Try.ntmps51
  go_wp2
  go_loopw [3, 4] (fun a i wr => ∃ k : Nat, k ≤ s.size ∧ i = .int .i64 k ∧ a = .string (dgB k (valG s)) ∧ Below w.heap.size w wr) (fun _ i _ => s.size - (intV i).toNat)
  case atStart => exact ⟨0, Nat.zero_le _, rfl, rfl, Below.refl _ _⟩
  case round =>
    obtain ⟨k, hk, rfl, rfl, hB⟩ := hrel
    have HB := hidden hB
    clear hB
    by_cases hlt : k < s.size
    · have i2 : (k : Int) < (s.size : Int) := by omega
      have C1 := hidden (fun V => rcode_any s k hlt V)
      have hv := valG_int s k
      have hbd := valG_bd s k
      have z1 : (dgB k (valG s)).size ≤ 100000 := by rw [dgB_size]; omega
      have z2 : ∀ c, (ba [c]).size = 1 := fun _ => rfl
      have HS : Hid (dgB (k + 1) (valG s) = dgB k (valG s) ++ ba [UInt8.ofNat (48 + valG s k)]) := dgB_s k (valG s)
      generalize bitK s k = b at *
      obtain ⟨bv, bs⟩ := b
      unfold agB at C1
      dsimp only at C1 hv
      have C3 := hidden (fun V => rbyte_any (48 + bv) V)
      have HE : Hid (numStr [(48 + bv) % 256] = ba [UInt8.ofNat (48 + valG s k)]) := by
        show _ = _
        rw [numStr_one, show ((48 + bv) % 256).toNat = 48 + valG s k by omega]
      rw [HE.out] at C3
      have hfd : ∀ V : World, (Instr.field 108 (.agg #[.int .i64 bv, .bool bs]) 0).run Try.prog V = .ok (.int .i64 bv) V := fun _ => by kernel_rfl
      clear HE
      have z3 := z2 (UInt8.ofNat (48 + valG s k))
      clear z2
      generalize ba [UInt8.ofNat (48 + valG s k)] = dd at *
      generalize dgB k (valG s) = cur at *
      have hbv : 0 ≤ bv ∧ bv ≤ 2 := by omega
      clear hv hbd
      go_wp2_with fail
      refine (C1.out _).mono ?_
      rintro e w2 ⟨rfl, hb⟩
      have HB3 := hidden (bthen HB.out hb)
      clear hb
      go_wp2_with fail
      refine (C3.out _).mono ?_
      rintro e w4 ⟨rfl, hb⟩
      have HB4 := hidden (bthen HB3.out hb)
      clear hb
      go_wp2
      go_roundw
      case rel => exact ⟨k + 1, by omega, by go_num, by rw [HS.out], HB4.out⟩
      case measure => simp [intV]; omega
    · obtain rfl : k = s.size := by omega
      go_wp2
      go_ret
      exact ⟨rfl, HB.out⟩
theorem numG_stay {s : ByteArray} : ∀ k j, s.size ≤ k → numG s (k + j) = numG s k
  | k, 0, h => rfl
  | k, j + 1, h => by
    rw [show k + (j + 1) = (k + j) + 1 by omega]
    show numG s (k + j) + (if vdg 1 s (k + j) = 1 then 2 ^ (k + j) else 0) = _
    rw [vdg_out (by omega), if_neg (by decide), Nat.add_zero, numG_stay k j h]
set_option maxHeartbeats 1000000 in
theorem rNumber_any (s : ByteArray) (hs : s.size ≤ 9223372036854775807) (w : World) :
    Calls Try.prog 24 #[.string s] w fun e w' => e = .returned (.int .i64 (numG s 8 : Int)) ∧ w = w' := by
  go_enter Try.func24, Try.ntmps24
  go_wp2
  go_loop [3, 4, 5] (fun a b i => ∃ k : Nat, k ≤ 8 ∧ k ≤ s.size ∧ i = .int .i64 k ∧ a = .int .i64 (numG s k : Int) ∧ b = .int .i64 ((2 ^ k : Nat) : Int)) (fun _ _ i => 8 - (intV i).toNat)
  case atStart => exact ⟨0, Nat.zero_le _, Nat.zero_le _, rfl, rfl, rfl⟩
  case round =>
    obtain ⟨k, hk, hk2, rfl, rfl, rfl⟩ := hrel
    by_cases hlt : k < 8
    · have d1 : decide ((k : Int) < 8) = true := decide_eq_true (by omega)
      by_cases hsz : k < s.size
      · have d2 : decide ((k : Int) < (s.size : Int)) = true := decide_eq_true (by omega)
        have i2 : (k : Int) < (s.size : Int) := by omega
        have hx := numG_lt s k
        have hp : 2 ^ k ≤ 128 := by
          have hk' : k = 0 ∨ k = 1 ∨ k = 2 ∨ k = 3 ∨ k = 4 ∨ k = 5 ∨ k = 6 ∨ k = 7 := by omega
          rcases hk' with rfl | rfl | rfl | rfl | rfl | rfl | rfl | rfl <;> decide
        have hp2 := hidden (Nat.pow_succ (n := 2) (m := k))
        have C1 := hidden (fun V => rbit_any ((s[k]'hsz).toNat : Int) V)
        have HU := ubit_vdg hsz
        have HN : Hid (numG s (k + 1) = numG s k + (if vdg 1 s k = 1 then 2 ^ k else 0)) := rfl
        generalize ubit ((s[k]'hsz).toNat : Int) = ub at *
        generalize 2 ^ k = P at *
        generalize numG s k = Q at *
        by_cases hz : vdg 1 s k = 1
        · rw [if_pos hz] at HN HU
          subst HU
          clear hz
          go_wp2_with fail
          refine (C1.out _).mono ?_
          rintro e w2 ⟨rfl, rfl⟩
          go_wp2
          go_round
          case rel => exact ⟨k + 1, by omega, by omega, by go_num, by rw [HN.out]; first | rfl | (congr 1; omega), by rw [hp2.out]; congr 1; omega⟩
          case measure => simp [intV]; omega
        · rw [if_neg hz] at HN HU
          subst HU
          clear hz
          go_wp2_with fail
          refine (C1.out _).mono ?_
          rintro e w2 ⟨rfl, rfl⟩
          go_wp2
          go_round
          case rel => exact ⟨k + 1, by omega, by omega, by go_num, by rw [HN.out]; first | rfl | (congr 1; omega), by rw [hp2.out]; congr 1; omega⟩
          case measure => simp [intV]; omega
      · obtain rfl : k = s.size := by omega
        have d2 : decide ((s.size : Int) < (s.size : Int)) = false := decide_eq_false (by omega)
        have hst := hidden (numG_stay (s := s) s.size (8 - s.size) (Nat.le_refl _))
        rw [show s.size + (8 - s.size) = 8 by omega] at hst
        have HQ : Hid (numG s 8 = numG s s.size) := hst.out
        generalize numG s s.size = Q at *
        go_wp2
        go_ret
        exact ⟨by rw [HQ.out]; rfl, rfl⟩
    · obtain rfl : k = 8 := by omega
      go_wp2
      go_ret
      exact ⟨rfl, rfl⟩
set_option maxHeartbeats 1000000 in
theorem rBits_any (n width : Int) (hn : n ≤ 9223372036854775807) (hw : -9223372036854775808 ≤ width ∧ width ≤ 9223372036854775807) (w : World) :
    Calls Try.prog 57 #[.int .i64 n, .int .i64 width] w fun e w' => e = .returned (.string (dgB (widF width) (bitG n.toNat))) ∧ Below w.heap.size w w' := by
  have hM : widF width ≤ 64 ∧ (∀ k : Nat, k < widF width ↔ (k : Int) < width ∧ k < 64) := ⟨widF_bd _, fun k => by unfold widF; omega⟩
  have CB := hidden (fun d V => rbyte_any (48 + d) V)
  obtain ⟨m, hm, hmb⟩ : ∃ m : Nat, n.toNat = m ∧ (m : Int) ≤ 9223372036854775807 := ⟨n.toNat, rfl, by omega⟩
  rw [hm]
  generalize widF width = M at *
  obtain ⟨hM64, hMk⟩ := hM
  have HMK := hidden hMk
  clear hMk
  by_cases h0 : n < 0
  · obtain rfl : m = 0 := by omega
    clear hm
    go_enter Try.func57, Try.ntmps57
    go_wp2
    go_loopw [0, 5, 6] (fun c a i wr => ∃ k : Nat, k ≤ M ∧ i = .int .i64 k ∧ a = .string (dgB k (bitG 0)) ∧ c = .int .i64 0 ∧ Below w.heap.size w wr) (fun _ _ i _ => M - (intV i).toNat)
    case atStart => exact ⟨0, Nat.zero_le _, rfl, rfl, rfl, Below.refl _ _⟩
    case round =>
      obtain ⟨k, hk, rfl, rfl, rfl, hB⟩ := hrel
      have HB := hidden hB
      clear hB
      by_cases hlt : k < M
      · have d1 : decide ((k : Int) < width) = true := decide_eq_true ((HMK.out k).1 hlt).1
        have d2 : decide ((k : Int) < 64) = true := decide_eq_true (by have := ((HMK.out k).1 hlt).2; omega)
        have z1 : (dgB k (bitG 0)).size ≤ 100000 := by rw [dgB_size]; omega
        have HS : Hid (dgB (k + 1) (bitG 0) = dgB k (bitG 0) ++ numStr [48]) := by
          show _ = _
          rw [dgB_s, show bitG 0 k = 0 by simp [bitG]]
          rfl
        have z3 : (numStr [48]).size = 1 := rfl
        have C1 := hidden (CB.out 0)
        rw [show ((48 : Int) + 0) % 256 = 48 by decide, show (48 : Int) + 0 = 48 by decide] at C1
        generalize numStr [48] = dd at *
        generalize dgB k (bitG 0) = cur at *
        go_wp2_with fail
        refine (C1.out _).mono ?_
        rintro e w2 ⟨rfl, hb⟩
        have HB2 := hidden (bthen HB.out hb)
        clear hb
        go_wp2
        go_roundw
        case rel => exact ⟨k + 1, by omega, by go_num, by rw [HS.out], rfl, HB2.out⟩
        case measure => simp [intV]; omega
      · obtain rfl : k = M := by omega
        have hno := fun q => hlt ((HMK.out k).2 q)
        by_cases hw1 : (k : Int) < width
        · have d1 : decide ((k : Int) < width) = true := decide_eq_true hw1
          have d2 : decide ((k : Int) < 64) = false := decide_eq_false (fun q => hno ⟨hw1, by omega⟩)
          clear hno
          go_wp2
          go_ret
          exact ⟨rfl, HB.out⟩
        · have d1 : decide ((k : Int) < width) = false := decide_eq_false hw1
          clear hno
          go_wp2
          go_ret
          exact ⟨rfl, HB.out⟩
  · obtain rfl : n = (m : Int) := by omega
    clear hm
    go_enter Try.func57, Try.ntmps57
    go_wp2
    go_loopw [0, 5, 6] (fun c a i wr => ∃ k : Nat, k ≤ M ∧ i = .int .i64 k ∧ a = .string (dgB k (bitG m)) ∧ c = .int .i64 ((m / 2 ^ k : Nat) : Int) ∧ Below w.heap.size w wr) (fun _ _ i _ => M - (intV i).toNat)
    case atStart => exact ⟨0, Nat.zero_le _, rfl, rfl, by simp, Below.refl _ _⟩
    case round =>
      obtain ⟨k, hk, rfl, rfl, rfl, hB⟩ := hrel
      have HB := hidden hB
      clear hB
      by_cases hlt : k < M
      · have d1 : decide ((k : Int) < width) = true := decide_eq_true ((HMK.out k).1 hlt).1
        have d2 : decide ((k : Int) < 64) = true := decide_eq_true (by have := ((HMK.out k).1 hlt).2; omega)
        have z1 : (dgB k (bitG m)).size ≤ 100000 := by rw [dgB_size]; omega
        have hbd := bitG_bd m k
        have hle : m / 2 ^ k ≤ m := Nat.div_le_self _ _
        have HN : Hid (m / 2 ^ (k + 1) = m / 2 ^ k / 2) := by show _ = _; rw [Nat.pow_succ, Nat.div_div_eq_div_mul]
        have HQ : Hid (bitG m k = m / 2 ^ k % 2) := rfl
        have HS : Hid (dgB (k + 1) (bitG m) = dgB k (bitG m) ++ ba [UInt8.ofNat (48 + bitG m k)]) := dgB_s k (bitG m)
        have z3 : (ba [UInt8.ofNat (48 + bitG m k)]).size = 1 := rfl
        have C1 := hidden (CB.out (bitG m k : Int))
        have HE : Hid (numStr [(48 + (bitG m k : Int)) % 256] = ba [UInt8.ofNat (48 + bitG m k)]) := by
          show _ = _
          rw [numStr_one, show ((48 + (bitG m k : Int)) % 256).toNat = 48 + bitG m k by omega]
        rw [HE.out] at C1
        clear HE
        generalize ba [UInt8.ofNat (48 + bitG m k)] = dd at *
        generalize dgB k (bitG m) = cur at *
        generalize m / 2 ^ k = q at *
        have t1 : (q : Int).tmod 2 = (bitG m k : Int) := by rw [Int.tmod_eq_emod_of_nonneg (by omega), HQ.out]; omega
        have t2 : (q : Int).tdiv 2 = ((q / 2 : Nat) : Int) := by rw [Int.tdiv_eq_ediv_of_nonneg (by omega)]; omega
        generalize bitG m k = z at *
        have h3 : q / 2 ≤ 4611686018427387903 := by omega
        generalize hq2 : q / 2 = q2 at *
        have HQ2 := hidden hq2
        clear hq2
        go_wp2_with fail
        refine (C1.out _).mono ?_
        rintro e w2 ⟨rfl, hb⟩
        have HB2 := hidden (bthen HB.out hb)
        clear hb
        go_wp2
        go_roundw
        case rel => exact ⟨k + 1, by omega, by go_num, by rw [HS.out], by rw [HN.out], HB2.out⟩
        case measure => simp [intV]; omega
      · obtain rfl : k = M := by omega
        have hno := fun q => hlt ((HMK.out k).2 q)
        generalize m / 2 ^ k = q at *
        by_cases hw1 : (k : Int) < width
        · have d1 : decide ((k : Int) < width) = true := decide_eq_true hw1
          have d2 : decide ((k : Int) < 64) = false := decide_eq_false (fun q => hno ⟨hw1, by omega⟩)
          clear hno
          go_wp2
          go_ret
          exact ⟨rfl, HB.out⟩
        · have d1 : decide ((k : Int) < width) = false := decide_eq_false hw1
          clear hno
          go_wp2
          go_ret
          exact ⟨rfl, HB.out⟩
set_option maxHeartbeats 4000000 in
theorem rVStep_any (n f d p r dr o sl md fr : Int) (ad : Option Addr) (cap : Nat) (zs : List Int) (x : Int) (codes told : ByteArray) (a2 : Option Addr) (c2 : Nat) (votes : List ByteArray) (w : World) (hl : zs.length ≤ 9223372036854775807) (hT : Tab w ad zs) (hx : (Lit.int .i64 x).wf = true)
    (hs1 : codes.size ≤ 100000) (hs2 : told.size ≤ 9223372036854775807) (hn : votes.length ≤ 100000) (hV : kStr.Lies w.heap.size w (.slice a2 votes.length c2) votes) (hz : ∀ t ∈ votes, t.size ≤ 9223372036854775807) :
    Calls Try.prog 67 #[.agg #[.int .i64 n, .int .i64 f, .int .i64 d, .int .i64 p, .int .i64 r, .int .i64 dr, .int .i64 o, .int .i64 sl, .int .i64 md, .int .i64 fr, .slice ad zs.length cap], .int .i64 x, .string codes, .string told, .slice a2 votes.length c2] w fun e w' => e = .returned (.string (dgB codes.size (stpG (plainE n f d p r dr o sl md fr zs) n f x codes told votes))) ∧ Below w.heap.size w w' := by
  have HT := hidden (hT.below (ballc w (.cells #[.int .i64 n, .int .i64 f, .int .i64 d, .int .i64 p, .int .i64 r, .int .i64 dr, .int .i64 o, .int .i64 sl, .int .i64 md, .int .i64 fr, .slice ad zs.length cap] 24)))
  have HV := hidden (hV.later (ballc w (.cells #[.int .i64 n, .int .i64 f, .int .i64 d, .int .i64 p, .int .i64 r, .int .i64 dr, .int .i64 o, .int .i64 sl, .int .i64 md, .int .i64 fr, .slice ad zs.length cap] 24)))
  have HK := hidden (blk_nw w #[.int .i64 n, .int .i64 f, .int .i64 d, .int .i64 p, .int .i64 r, .int .i64 dr, .int .i64 o, .int .i64 sl, .int .i64 md, .int .i64 fr, .slice ad zs.length cap] 24)
  have HB0 := hidden (ballc w (.cells #[.int .i64 n, .int .i64 f, .int .i64 d, .int .i64 p, .int .i64 r, .int .i64 dr, .int .i64 o, .int .i64 sl, .int .i64 md, .int .i64 fr, .slice ad zs.length cap] 24))
  have HZ := hidden hz
  obtain ⟨i0, hi, hz0, hz1, hz2⟩ := info_of infoInt
  clear hT hV hz
  go_enter Try.func67, Try.ntmps67
  go_wp2
  generalize w.alloc (.cells #[.int .i64 n, .int .i64 f, .int .i64 d, .int .i64 p, .int .i64 r, .int .i64 dr, .int .i64 o, .int .i64 sl, .int .i64 md, .int .i64 fr, .slice ad zs.length cap] 24) = wa at *
  go_loopw [11, 12] (fun a i wr => ∃ k : Nat, k ≤ codes.size ∧ i = .int .i64 k ∧ a = .string (dgB k (stpG (plainE n f d p r dr o sl md fr zs) n f x codes told votes)) ∧ Below wa.heap.size wa wr) (fun _ i _ => codes.size - (intV i).toNat)
  case atStart => exact ⟨0, Nat.zero_le _, rfl, rfl, Below.refl _ _⟩
  case round =>
    obtain ⟨k, hk, rfl, rfl, hB⟩ := hrel
    have HB := hidden hB
    clear hB
    by_cases hlt : k < codes.size
    · have i2 : (k : Int) < (codes.size : Int) := by omega
      have z1 : (dgB k (stpG (plainE n f d p r dr o sl md fr zs) n f x codes told votes)).size ≤ 100000 := by rw [dgB_size]; omega
      have HS : Hid (dgB (k + 1) (stpG (plainE n f d p r dr o sl md fr zs) n f x codes told votes) = dgB k (stpG (plainE n f d p r dr o sl md fr zs) n f x codes told votes) ++ ba [UInt8.ofNat (48 + stpG (plainE n f d p r dr o sl md fr zs) n f x codes told votes k)]) := dgB_s k _
      generalize hcur : dgB k (stpG (plainE n f d p r dr o sl md fr zs) n f x codes told votes) = cur at *
      have HCUR := hidden hcur
      clear hcur
      obtain ⟨wY, rfl⟩ : ∃ wY, wY = wr := ⟨_, rfl⟩
      go_wp2
      go_loopw [13, 14] (fun a i wr => ∃ j : Nat, j ≤ votes.length ∧ i = .int .i64 j ∧ wr.ownsRow wY.heap.size 3 1 a j (kInt.flat (votesP (votes.take j) k)) ∧ Below wY.heap.size wY wr) (fun _ i _ => votes.length - (intV i).toNat)
      case atStart => exact ⟨0, Nat.zero_le _, rfl, World.ownsRow_nil _ _ _ _, Below.refl _ _⟩
      case round =>
        obtain ⟨j, hj, rfl, hown, hB⟩ := hrel
        have HBj := hidden hB
        have HO := hidden hown
        have hBB := bthen HB.out hB
        by_cases hjl : j < votes.length
        · have j2 : (j : Int) < (votes.length : Int) := by omega
          obtain ⟨b, off, rfl, hbl, e0⟩ := kStr_at (HV.out.later hBB) j hjl
          have hm : votes.getD j noB ∈ votes := by rw [List.getD_eq_getElem?_getD, List.getElem?_eq_getElem hjl, Option.getD_some]; exact List.getElem_mem hjl
          have C1 := hidden (fun V => rVote_any (votes.getD j noB) k V (HZ.out _ hm))
          have HTK : Hid (votesP (votes.take (j + 1)) k = votesP (votes.take j) k ++ [vdg 2 (votes.getD j noB) k]) := by
            show _ = _
            unfold votesP
            rw [List.take_succ_eq_append_getElem hjl, List.map_append, List.getD_eq_getElem?_getD, List.getElem?_eq_getElem hjl, Option.getD_some]
            rfl
          clear hB hown hBB hm
          generalize vdg 2 (votes.getD j noB) k = z at *
          generalize votes.getD j noB = t at *
          go_wp2_with (first
            | (go_at_call 106; refine (C1.out _).mono ?_; rintro e w4 ⟨rfl, rfl⟩)
            | (at_builtin; refine kInt.wpList_append _ rfl (.tmp 27) (.tmp 34) 22 rfl wY.heap.size 3 i0 (.int .i64 0) 8 Try.underlying22 hi hz0 hz1 hz2 rfl u13 j _ rfl (HO.out.alloc _) (.slice (some ⟨wr.heap.size, 0, none⟩) 1 1) [z] rfl (Kind.Lies.of_block (K := kInt) (es := [z]) (heap_alloc_new wr _) (by simp [maxLen])) (by simp only [maxLen, List.length_singleton]; omega) (by simp only [List.length_singleton]; omega) (by have := HBj.out.size; simp; omega) ?_; intro v3 w3 hown3 hgrow3 _))
          have hB3 : Below wY.heap.size wY w3 := (HBj.out.alloc HBj.out.size _).grown hgrow3 (by have := HBj.out.size; simp; omega) (own_from HO.out)
          have hrow : w3.ownsRow wY.heap.size 3 1 v3 (j + 1) (kInt.flat (votesP (votes.take (j + 1)) k)) := by
            rw [HTK.out, Kind.flat_append]
            exact hown3
          go_roundw
          case rel => exact ⟨j + 1, by omega, by go_num, hrow, hB3⟩
          case measure => simp [intV]; omega
        · obtain rfl : j = votes.length := by omega
          rw [List.take_length] at hown
          obtain ⟨al, cl, rfl⟩ := own_slice hown
          have hli := hidden (Kind.Lies.of_own (K := kInt) (es := votesP votes k) (by rw [votesP_len]; exact hown))
          have HBB := hidden hBB
          have HKr := hidden (blk_later HK.out hBB)
          have c0 := fun i => blk_cell HKr.out i
          have l0 := blk_lt HKr.out
          have HTr := hidden (HT.out.below hBB)
          have i1 : (0 : Int) ≤ (k : Int) := by omega
          have C1 := hidden (fun V => rcode_any codes k hlt V)
          have C2 := hidden (fun V => rVote_any told k V hs2)
          have C3 := hidden (fun V h1 h2 => rKStep_any n f d p r dr o sl md fr ad cap zs x (bitK codes k) (vdg 2 told k) al votes.length cl (votesP votes k) V hl h1 hx (by rw [votesP_len]; omega) h2)
          have C4 := hidden (fun V => rdigit_any (stpB (plainE n f d p r dr o sl md fr zs) n f x codes told votes k) V)
          have HR : Hid (stpB (plainE n f d p r dr o sl md fr zs) n f x codes told votes k = stepF (plainE n f d p r dr o sl md fr zs) n f x (bitK codes k) (vdg 2 told k) (votesP votes k)) := rfl
          rw [← HR.out] at C3
          have HG : Hid (48 + stpG (plainE n f d p r dr o sl md fr zs) n f x codes told votes k = 48 + (codeF (stpB (plainE n f d p r dr o sl md fr zs) n f x codes told votes k)).toNat) := rfl
          rw [HG.out] at HS
          clear HR HG hown hB hBB HO
          have z3 : (ba [UInt8.ofNat (48 + (codeF (stpB (plainE n f d p r dr o sl md fr zs) n f x codes told votes k)).toNat)]).size = 1 := rfl
          generalize ba [UInt8.ofNat (48 + (codeF (stpB (plainE n f d p r dr o sl md fr zs) n f x codes told votes k)).toNat)] = dd at *
          generalize stpB (plainE n f d p r dr o sl md fr zs) n f x codes told votes k = q at *
          generalize hvp : votesP votes k = vp at *
          generalize bitK codes k = bk at *
          generalize vdg 2 told k = td at *
          obtain ⟨bv, bs⟩ := bk
          obtain ⟨qv, qs⟩ := q
          unfold agB at C1 C3
          dsimp only at C1 C3 C4
          have HBw := hidden (bthen HB0.out HBB.out)
          go_wp2
          refine wp_region_quiet_below (by kernel_rfl) (by kernel_rfl) ?_
          repeat (go_big_quiet_step (first
            | (go_at_call 90; exact Calls.regrown_of (C1.out _))
            | (go_at_call 106; exact Calls.regrown_of (Calls.to_below (C2.out _)))
            | (go_at_call 107; exact Calls.regrown_of (C3.out _ (HTr.out.below (below_regrown _ _ _)) (hli.out.later (below_regrown _ _ _))))
            | (go_at_call 99; exact Calls.regrown_of (C4.out _))))
          refine wpQuiet_nil ?_
          intro w6 hw6
          have HB6 := hidden (bthen HBB.out (rg_below hw6))
          clear hw6 c0 l0
          go_wp2
          go_roundw
          case rel => exact ⟨k + 1, by omega, by go_num, by rw [HS.out], HB6.out⟩
          case measure => simp [intV]; omega
    · obtain rfl : k = codes.size := by omega
      go_wp2
      go_ret
      exact ⟨rfl, bthen HB0.out HB.out⟩
end Go.Proofs.Ytohgmliafidalaa

/- The document's calls Tells, Hears, King and Ages of layer 15 return what plain functions give, and make at most new memory; conditions: the table lies where it says. -/
namespace Go.Proofs.Ytohgmliafidalaa
open Go.ChangeShapes Go.WideShapes Go.ChangeAt Go.RowKit
set_option linter.unusedVariables false

set_option maxHeartbeats 1000000 in
theorem rTells_any (n f d p r dr o sl md fr : Int) (ad : Option Addr) (cap : Nat) (zs : List Int) (age : Int) (R : Nat) (hR15 : R ≤ 15) (hd : R = 0 ∨ 1 ≤ d ∧ d ≤ 4) (w : World) (hl : zs.length ≤ 9223372036854775807) (hT : Tab w ad zs) (hR : gate (plainE n f d p r dr o sl md fr zs) (3 * (f + 1)) = (R : Int)) :
    Calls Try.prog 50 #[.agg #[.int .i64 n, .int .i64 f, .int .i64 d, .int .i64 p, .int .i64 r, .int .i64 dr, .int .i64 o, .int .i64 sl, .int .i64 md, .int .i64 fr, .slice ad zs.length cap], .int .i64 age] w fun e W' => e = .returned (.int .i64 (tellF R d age)) ∧ Below w.heap.size w W' := by
  have HC := hidden (fun V h => refRounds_any n f d p r dr o sl md fr ad cap zs V hl h)
  rw [hR] at HC
  have HT := hidden (hT.below (ballc w (.cells #[.int .i64 n, .int .i64 f, .int .i64 d, .int .i64 p, .int .i64 r, .int .i64 dr, .int .i64 o, .int .i64 sl, .int .i64 md, .int .i64 fr, .slice ad zs.length cap] 24)))
  have HK := hidden (blk_nw w #[.int .i64 n, .int .i64 f, .int .i64 d, .int .i64 p, .int .i64 r, .int .i64 dr, .int .i64 o, .int .i64 sl, .int .i64 md, .int .i64 fr, .slice ad zs.length cap] 24)
  have HB0 := hidden (ballc w (.cells #[.int .i64 n, .int .i64 f, .int .i64 d, .int .i64 p, .int .i64 r, .int .i64 dr, .int .i64 o, .int .i64 sl, .int .i64 md, .int .i64 fr, .slice ad zs.length cap] 24))
  clear hT hR
  go_enter Try.func50, Try.ntmps50
  go_wp2
  generalize w.alloc (.cells #[.int .i64 n, .int .i64 f, .int .i64 d, .int .i64 p, .int .i64 r, .int .i64 dr, .int .i64 o, .int .i64 sl, .int .i64 md, .int .i64 fr, .slice ad zs.length cap] 24) = wa at *
  go_loopw [5] (fun i wr => ∃ k : Nat, k ≤ R ∧ i = .int .i64 k ∧ (∀ j, j < k → tellB d age j = false) ∧ Below wa.heap.size wa wr) (fun i _ => R - (intV i).toNat)
  case atStart => exact ⟨0, Nat.zero_le _, rfl, fun j hj => absurd hj (Nat.not_lt_zero _), Below.refl _ _⟩
  case round =>
    obtain ⟨k, hk, rfl, hn, hB⟩ := hrel
    have HB := hidden hB
    have HN := hidden hn
    have HTr := hidden (HT.out.below hB)
    have HKr := hidden (blk_later HK.out hB)
    have c0 := fun i => blk_cell HKr.out i
    have l0 := blk_lt HKr.out
    clear hB hn
    go_wp2_with fail
    refine (HC.out _ HTr.out).mono ?_
    rintro e w2 ⟨rfl, hb⟩
    have HB2 := hidden (bthen HB.out hb)
    have HK2 := hidden (blk_later HKr.out hb)
    clear hb c0 l0 HKr HTr HB
    have c0 := fun i => blk_cell HK2.out i
    have l0 := blk_lt HK2.out
    by_cases hlt : k < R
    · obtain ⟨q1, q2⟩ := xd_bd hR15 hd hlt
      have q3 : 1 ≤ d ∧ d ≤ 4 := by omega
      have q4 : ((k : Int) + 1) * d = (k : Int) * d + d := by rw [Int.add_mul, Int.one_mul]
      have i2 : (k : Int) < (R : Int) := by omega
      by_cases ht : (k : Int) * d = age
      · have hres := hidden (show tellF R d age = _ from first_hit hlt (decide_eq_true ht) HN.out)
        have j : (age == ((k : Int) * d)) = true := by simp [← ht]
        clear ht hd
        go_wp2
        go_ret
        exact ⟨ret_i hres.out.symm, bthen HB0.out HB2.out⟩
      · have HN2 : Hid (∀ j, j < k + 1 → tellB d age j = false) := fun j hj => by
          by_cases e : j = k
          · subst e; exact decide_eq_false ht
          · exact HN.out j (by omega)
        have j : (age == ((k : Int) * d)) = false := by rw [beq_eq_false_iff_ne]; intro h; exact ht (by rw [h])
        clear ht hd
        go_wp2
        go_roundw
        case rel => exact ⟨k + 1, by omega, by go_num, HN2.out, HB2.out⟩
        case measure => simp [intV]; omega
    · obtain rfl : k = R := by omega
      have hres := hidden (show tellF k d age = _ from first_none HN.out)
      have i2 : ¬ (k : Int) < (k : Int) := by omega
      go_wp2
      go_ret
      exact ⟨ret_i hres.out.symm, bthen HB0.out HB2.out⟩

set_option maxHeartbeats 1000000 in
theorem rHears_any (n f d p r dr o sl md fr : Int) (ad : Option Addr) (cap : Nat) (zs : List Int) (age : Int) (R : Nat) (hR15 : R ≤ 15) (hd : R = 0 ∨ 1 ≤ d ∧ d ≤ 4) (w : World) (hl : zs.length ≤ 9223372036854775807) (hT : Tab w ad zs) (hR : gate (plainE n f d p r dr o sl md fr zs) (3 * (f + 1)) = (R : Int)) :
    Calls Try.prog 64 #[.agg #[.int .i64 n, .int .i64 f, .int .i64 d, .int .i64 p, .int .i64 r, .int .i64 dr, .int .i64 o, .int .i64 sl, .int .i64 md, .int .i64 fr, .slice ad zs.length cap], .int .i64 age] w fun e W' => e = .returned (.int .i64 (hearF R d age)) ∧ Below w.heap.size w W' := by
  have HC := hidden (fun V h => refRounds_any n f d p r dr o sl md fr ad cap zs V hl h)
  rw [hR] at HC
  have HT := hidden (hT.below (ballc w (.cells #[.int .i64 n, .int .i64 f, .int .i64 d, .int .i64 p, .int .i64 r, .int .i64 dr, .int .i64 o, .int .i64 sl, .int .i64 md, .int .i64 fr, .slice ad zs.length cap] 24)))
  have HK := hidden (blk_nw w #[.int .i64 n, .int .i64 f, .int .i64 d, .int .i64 p, .int .i64 r, .int .i64 dr, .int .i64 o, .int .i64 sl, .int .i64 md, .int .i64 fr, .slice ad zs.length cap] 24)
  have HB0 := hidden (ballc w (.cells #[.int .i64 n, .int .i64 f, .int .i64 d, .int .i64 p, .int .i64 r, .int .i64 dr, .int .i64 o, .int .i64 sl, .int .i64 md, .int .i64 fr, .slice ad zs.length cap] 24))
  clear hT hR
  go_enter Try.func64, Try.ntmps64
  go_wp2
  generalize w.alloc (.cells #[.int .i64 n, .int .i64 f, .int .i64 d, .int .i64 p, .int .i64 r, .int .i64 dr, .int .i64 o, .int .i64 sl, .int .i64 md, .int .i64 fr, .slice ad zs.length cap] 24) = wa at *
  go_loopw [5] (fun i wr => ∃ k : Nat, k ≤ R ∧ i = .int .i64 k ∧ (∀ j, j < k → hearB d age j = false) ∧ Below wa.heap.size wa wr) (fun i _ => R - (intV i).toNat)
  case atStart => exact ⟨0, Nat.zero_le _, rfl, fun j hj => absurd hj (Nat.not_lt_zero _), Below.refl _ _⟩
  case round =>
    obtain ⟨k, hk, rfl, hn, hB⟩ := hrel
    have HB := hidden hB
    have HN := hidden hn
    have HTr := hidden (HT.out.below hB)
    have HKr := hidden (blk_later HK.out hB)
    have c0 := fun i => blk_cell HKr.out i
    have l0 := blk_lt HKr.out
    clear hB hn
    go_wp2_with fail
    refine (HC.out _ HTr.out).mono ?_
    rintro e w2 ⟨rfl, hb⟩
    have HB2 := hidden (bthen HB.out hb)
    have HK2 := hidden (blk_later HKr.out hb)
    clear hb c0 l0 HKr HTr HB
    have c0 := fun i => blk_cell HK2.out i
    have l0 := blk_lt HK2.out
    by_cases hlt : k < R
    · obtain ⟨q1, q2⟩ := xd_bd hR15 hd hlt
      have q3 : 1 ≤ d ∧ d ≤ 4 := by omega
      have q4 : ((k : Int) + 1) * d = (k : Int) * d + d := by rw [Int.add_mul, Int.one_mul]
      have i2 : (k : Int) < (R : Int) := by omega
      by_cases ht : (k : Int) * d + d = age
      · have hres := hidden (show hearF R d age = _ from first_hit hlt (decide_eq_true ht) HN.out)
        have j : (age == (((k : Int) + 1) * d)) = true := by simp [← ht, q4]
        clear ht hd
        go_wp2
        go_ret
        exact ⟨ret_i hres.out.symm, bthen HB0.out HB2.out⟩
      · have HN2 : Hid (∀ j, j < k + 1 → hearB d age j = false) := fun j hj => by
          by_cases e : j = k
          · subst e; exact decide_eq_false ht
          · exact HN.out j (by omega)
        have j : (age == (((k : Int) + 1) * d)) = false := by rw [beq_eq_false_iff_ne]; intro h; exact ht (by rw [h, q4])
        clear ht hd
        go_wp2
        go_roundw
        case rel => exact ⟨k + 1, by omega, by go_num, HN2.out, HB2.out⟩
        case measure => simp [intV]; omega
    · obtain rfl : k = R := by omega
      have hres := hidden (show hearF k d age = _ from first_none HN.out)
      have i2 : ¬ (k : Int) < (k : Int) := by omega
      go_wp2
      go_ret
      exact ⟨ret_i hres.out.symm, bthen HB0.out HB2.out⟩

theorem rPKing_any (n f d p r dr o sl md fr : Int) (ad : Option Addr) (cap : Nat) (zs : List Int) (x : Int) (R : Nat) (hx : -9223372036854775808 ≤ x ∧ x ≤ 9223372036854775807) (w : World) (hl : zs.length ≤ 9223372036854775807) (hT : Tab w ad zs) (hR : gate (plainE n f d p r dr o sl md fr zs) (3 * (f + 1)) = (R : Int)) :
    Calls Try.prog 66 #[.agg #[.int .i64 n, .int .i64 f, .int .i64 d, .int .i64 p, .int .i64 r, .int .i64 dr, .int .i64 o, .int .i64 sl, .int .i64 md, .int .i64 fr, .slice ad zs.length cap], .int .i64 x] w fun e W' => e = .returned (.int .i64 (kingF R x)) ∧ Below w.heap.size w W' := by
  have HC := hidden (fun V h => refRounds_any n f d p r dr o sl md fr ad cap zs V hl h)
  rw [hR] at HC
  have HT := hidden (hT.below (ballc w (.cells #[.int .i64 n, .int .i64 f, .int .i64 d, .int .i64 p, .int .i64 r, .int .i64 dr, .int .i64 o, .int .i64 sl, .int .i64 md, .int .i64 fr, .slice ad zs.length cap] 24)))
  clear hT hR
  by_cases h0 : x < 0
  · have e1 : decide (x < 0) = true := decide_eq_true h0
    have hr := hidden (kingF_lo (R := R) h0)
    clear h0
    go_enter Try.func66, Try.ntmps66
    go_wp2
    go_ret
    exact ⟨ret_i hr.out.symm, ballc _ _⟩
  · have e1 : decide (x < 0) = false := decide_eq_false h0
    by_cases h1 : (R : Int) ≤ x
    · have e2 : decide ((R : Int) ≤ x) = true := decide_eq_true h1
      have hr := hidden (kingF_hi h1)
      clear h1
      go_enter Try.func66, Try.ntmps66
      go_wp2_with fail
      refine (HC.out _ HT.out).mono ?_
      rintro e w2 ⟨rfl, hb⟩
      have HB := hidden (bthen (ballc w _) hb)
      clear hb
      go_wp2
      go_ret
      exact ⟨ret_i hr.out.symm, HB.out⟩
    · have e2 : decide ((R : Int) ≤ x) = false := decide_eq_false h1
      have hr := hidden (kingF_in (R := R) (x := x) (by omega) (by omega))
      have e3 : x.tdiv 3 = x / 3 := by rw [Int.tdiv_eq_ediv_of_nonneg (by omega)]
      clear h1
      go_enter Try.func66, Try.ntmps66
      go_wp2_with fail
      refine (HC.out _ HT.out).mono ?_
      rintro e w2 ⟨rfl, hb⟩
      have HB := hidden (bthen (ballc w _) hb)
      clear hb
      go_wp2
      go_ret
      exact ⟨ret_i hr.out.symm, HB.out⟩

/-- When exchanges are told. -/
def agesL (d : Int) (k : Nat) : List Int := (List.range k).map fun (j : Nat) => (j : Int) * d
theorem agesL_s (d : Int) (k : Nat) : agesL d (k + 1) = agesL d k ++ [(k : Int) * d] := by simp [agesL, List.range_succ]
theorem agesL_len (d : Int) (k : Nat) : (agesL d k).length = k := by simp [agesL]
end Go.Proofs.Ytohgmliafidalaa

/- The document's calls Begin, Tell, votes and Step of layer 19 return what plain functions give, and make at most new memory; conditions: rows lie where they say, numbers and lengths fit int, at most a hundred thousand packets and codes. -/
namespace Go.Proofs.Ytohgmliafidalaa
open Go.ChangeShapes Go.WideShapes Go.ChangeAt Go.RowKit
set_option linter.unusedVariables false
attribute [local go_sem] cell_rg

set_option maxHeartbeats 4000000 in
theorem rABegin_any (N : Nat) (f d p r dr o sl md fr : Int) (ad : Option Addr) (cap : Nat) (zs : List Int) (num : Int) (seen : ByteArray) (w : World) (hl : zs.length ≤ 9223372036854775807) (hT : Tab w ad zs) (hn : num ≤ 9223372036854775807) (hs : seen.size ≤ 9223372036854775807) (hE : plainE (N : Int) f d p r dr o sl md fr zs = 0) :
    Calls Try.prog 19 #[.agg #[.int .i64 (N : Int), .int .i64 f, .int .i64 d, .int .i64 p, .int .i64 r, .int .i64 dr, .int .i64 o, .int .i64 sl, .int .i64 md, .int .i64 fr, .slice ad zs.length cap], .int .i64 num, .string seen] w fun e w' => e = .returned (.string (begA 0 N num seen)) ∧ Below w.heap.size w w' := by
  have HB0 := hidden (ballc w (.cells #[.int .i64 (N : Int), .int .i64 f, .int .i64 d, .int .i64 p, .int .i64 r, .int .i64 dr, .int .i64 o, .int .i64 sl, .int .i64 md, .int .i64 fr, .slice ad zs.length cap] 24))
  have HK := hidden (blk_nw w #[.int .i64 (N : Int), .int .i64 f, .int .i64 d, .int .i64 p, .int .i64 r, .int .i64 dr, .int .i64 o, .int .i64 sl, .int .i64 md, .int .i64 fr, .slice ad zs.length cap] 24)
  have HP := hidden (refPlain_any (N : Int) f d p r dr o sl md fr ad cap zs (w.alloc (.cells #[.int .i64 (N : Int), .int .i64 f, .int .i64 d, .int .i64 p, .int .i64 r, .int .i64 dr, .int .i64 o, .int .i64 sl, .int .i64 md, .int .i64 fr, .slice ad zs.length cap] 24)) hl (hT.below (ballc _ _)))
  obtain ⟨n1, n2, _⟩ := plainE_ok hE
  have C1 := hidden (fun V => rBits_any num 8 hn (by omega) V)
  have C2 := hidden (fun V => Calls.to_below (rDigits_any seen 0 N V hs (by omega) (by omega)))
  have hz := begS_size N num seen
  have C3 := hidden (fun V => rOf_any (begS N num seen) (by omega) V)
  rw [hz] at C3
  have HA : Hid (begA 0 N num seen = dgB (8 + N) (ofG (begS N num seen))) := if_pos rfl
  rw [HA.out]
  have HS : Hid (dgB (widF 8) (bitG num.toNat) ++ digT seen 0 N = begS N num seen) := rfl
  rw [hE] at HP
  have s1 : (dgB (widF 8) (bitG num.toNat)).size = 8 := dgB_size _ _
  have s2 : (digT seen 0 N).size = N := dgB_size _ _
  generalize dgB (8 + N) (ofG (begS N num seen)) = out at *
  generalize begS N num seen = bs at *
  generalize dgB (widF 8) (bitG num.toNat) = t1 at *
  generalize digT seen 0 N = t2 at *
  clear hE hT HA hz
  go_enter Try.func19, Try.ntmps19
  go_wp2_with fail
  refine HP.out.mono ?_
  rintro e w2 ⟨rfl, hb⟩
  have HB2 := hidden (bthen HB0.out hb)
  have HK2 := hidden (blk_later HK.out hb)
  have c0 := blk_cell HK2.out
  have l0 := blk_lt HK2.out
  clear hb HP
  go_wp2
  have hcat := HS.out
  refine wp_region_quiet_below (by kernel_rfl) (by kernel_rfl) ?_
  repeat (go_big_quiet_step (fail))
  go_big_quiet_step ((go_at_call 57; exact Calls.regrown_of (C1.out _)))
  repeat (go_big_quiet_step (fail))
  go_big_quiet_step ((go_at_call 58; exact Calls.regrown_of (C2.out _)))
  repeat (go_big_quiet_step (fail))
  go_big_quiet_step ((go_at_call 56; exact Calls.regrown_of (C3.out _)))
  repeat (go_big_quiet_step (fail))
  refine wpQuiet_nil ?_
  intro w5 hw5
  have HB5 := hidden (bthen HB2.out (rg_below hw5))
  clear hw5 c0 l0
  go_wp2
  go_ret
  exact ⟨rfl, HB5.out⟩
theorem rABegin_no (n f d p r dr o sl md fr : Int) (ad : Option Addr) (cap : Nat) (zs : List Int) (num : Int) (seen : ByteArray) (w : World) (hl : zs.length ≤ 9223372036854775807) (hT : Tab w ad zs) (hE : ¬ plainE n f d p r dr o sl md fr zs = 0) :
    Calls Try.prog 19 #[.agg #[.int .i64 n, .int .i64 f, .int .i64 d, .int .i64 p, .int .i64 r, .int .i64 dr, .int .i64 o, .int .i64 sl, .int .i64 md, .int .i64 fr, .slice ad zs.length cap], .int .i64 num, .string seen] w fun e w' => e = .returned (.string noB) ∧ Below w.heap.size w w' := by
  have HB0 := hidden (ballc w (.cells #[.int .i64 n, .int .i64 f, .int .i64 d, .int .i64 p, .int .i64 r, .int .i64 dr, .int .i64 o, .int .i64 sl, .int .i64 md, .int .i64 fr, .slice ad zs.length cap] 24))
  have HP := hidden (refPlain_any n f d p r dr o sl md fr ad cap zs (w.alloc (.cells #[.int .i64 n, .int .i64 f, .int .i64 d, .int .i64 p, .int .i64 r, .int .i64 dr, .int .i64 o, .int .i64 sl, .int .i64 md, .int .i64 fr, .slice ad zs.length cap] 24)) hl (hT.below (ballc _ _)))
  have j1 : (plainE n f d p r dr o sl md fr zs != 0) = true := bne_iff_ne.2 hE
  generalize plainE n f d p r dr o sl md fr zs = E at *
  clear hE hT
  go_enter Try.func19, Try.ntmps19
  go_wp2_with fail
  refine HP.out.mono ?_
  rintro e w2 ⟨rfl, hb⟩
  have HB2 := hidden (bthen HB0.out hb)
  clear hb HP
  go_wp2
  go_ret
  exact ⟨rfl, HB2.out⟩
theorem rABegin_all (n f d p r dr o sl md fr : Int) (ad : Option Addr) (cap : Nat) (zs : List Int) (num : Int) (seen : ByteArray) (w : World) (hl : zs.length ≤ 9223372036854775807) (hT : Tab w ad zs) (hn : num ≤ 9223372036854775807) (hs : seen.size ≤ 9223372036854775807) :
    Calls Try.prog 19 #[.agg #[.int .i64 n, .int .i64 f, .int .i64 d, .int .i64 p, .int .i64 r, .int .i64 dr, .int .i64 o, .int .i64 sl, .int .i64 md, .int .i64 fr, .slice ad zs.length cap], .int .i64 num, .string seen] w fun e w' => e = .returned (.string (begA (plainE n f d p r dr o sl md fr zs) n.toNat num seen)) ∧ Below w.heap.size w w' := by
  by_cases hE : plainE n f d p r dr o sl md fr zs = 0
  · obtain ⟨N, rfl⟩ : ∃ N : Nat, n = (N : Int) := ⟨n.toNat, by have := (plainE_ok hE).1; omega⟩
    rw [Int.toNat_natCast]
    have h := rABegin_any N f d p r dr o sl md fr ad cap zs num seen w hl hT hn hs hE
    rw [← hE] at h
    exact h
  · have h : begA (plainE n f d p r dr o sl md fr zs) n.toNat num seen = noB := if_neg hE
    rw [h]
    exact rABegin_no n f d p r dr o sl md fr ad cap zs num seen w hl hT hE
set_option maxHeartbeats 4000000 in
theorem rATell_any (n f d p r dr o sl md fr : Int) (ad : Option Addr) (cap : Nat) (zs : List Int) (R : Nat) (age : Int) (codes : ByteArray) (hs : codes.size ≤ 100000) (w : World) (hl : zs.length ≤ 9223372036854775807) (hT : Tab w ad zs) (hR : gate (plainE n f d p r dr o sl md fr zs) (3 * (f + 1)) = (R : Int)) (hR15 : R ≤ 15) (hd : R = 0 ∨ 1 ≤ d ∧ d ≤ 4) :
    Calls Try.prog 17 #[.agg #[.int .i64 n, .int .i64 f, .int .i64 d, .int .i64 p, .int .i64 r, .int .i64 dr, .int .i64 o, .int .i64 sl, .int .i64 md, .int .i64 fr, .slice ad zs.length cap], .int .i64 age, .string codes] w fun e w' => e = .returned (.tuple #[.int .i64 (telX R d age codes), .string (telV R d age codes)]) ∧ Below w.heap.size w w' := by
  have HB0 := hidden (ballc w (.cells #[.int .i64 n, .int .i64 f, .int .i64 d, .int .i64 p, .int .i64 r, .int .i64 dr, .int .i64 o, .int .i64 sl, .int .i64 md, .int .i64 fr, .slice ad zs.length cap] 24))
  have HT := hidden (hT.below HB0.out)
  have C1 := hidden (rTells_any n f d p r dr o sl md fr ad cap zs age R hR15 hd (w.alloc (.cells #[.int .i64 n, .int .i64 f, .int .i64 d, .int .i64 p, .int .i64 r, .int .i64 dr, .int .i64 o, .int .i64 sl, .int .i64 md, .int .i64 fr, .slice ad zs.length cap] 24)) hl HT.out hR)
  have C3 := hidden (fun V => rValues_any codes hs V)
  have hlt : -1 ≤ tellF R d age ∧ tellF R d age ≤ 15 := by
    have := first_lt R (tellB d age)
    show -1 ≤ firstF R (tellB d age) ∧ firstF R (tellB d age) ≤ 15
    omega
  have HX : Hid (telX R d age codes = if telB R d age codes = true then 0 else tellF R d age + 1) := rfl
  have HV : Hid (telV R d age codes = if telB R d age codes = true then noB else dgB codes.size (valG codes)) := rfl
  have HTB : Hid (telB R d age codes = (emt codes || (tellF R d age == -1))) := rfl
  rw [HX.out, HV.out, HTB.out]
  clear HX HV HTB hR hT
  generalize tellF R d age = x at *
  generalize dgB codes.size (valG codes) = vs at *
  by_cases he : emt codes = true
  · have e1 : codes.toList.isEmpty = true := he
    rw [if_pos (by rw [he]; rfl), if_pos (by rw [he]; rfl)]
    clear he
    go_enter Try.func17, Try.ntmps17
    go_wp2_with fail
    refine C1.out.mono ?_
    rintro e w2 ⟨rfl, hb⟩
    have HB2 := hidden (bthen HB0.out hb)
    clear hb
    go_wp2
    exact bodyPost_ret (v := .tuple #[.int .i64 0, .string noB]) (by simp [results, Try.results17, go_sem]; try rfl) rfl ⟨rfl, HB2.out⟩
  · have e1 : codes.toList.isEmpty = false := by
      have : emt codes = false := by simpa using he
      exact this
    have he2 : emt codes = false := e1
    by_cases hx : x = -1
    · have e2 : (x == -1) = true := beq_iff_eq.2 hx
      rw [if_pos (by rw [e2]; simp), if_pos (by rw [e2]; simp)]
      have e3 : decide (x < 0) = true := decide_eq_true (by omega)
      clear he he2 hx e2
      go_enter Try.func17, Try.ntmps17
      go_wp2_with fail
      refine C1.out.mono ?_
      rintro e w2 ⟨rfl, hb⟩
      have HB2 := hidden (bthen HB0.out hb)
      clear hb
      go_wp2
      exact bodyPost_ret (v := .tuple #[.int .i64 0, .string noB]) (by simp [results, Try.results17, go_sem]; try rfl) rfl ⟨rfl, HB2.out⟩
    · have e2 : (x == -1) = false := beq_eq_false_iff_ne.2 hx
      rw [if_neg (by rw [e2, he2]; decide), if_neg (by rw [e2, he2]; decide)]
      have e3 : decide (x < 0) = false := decide_eq_false (by omega)
      clear he he2 hx e2
      go_enter Try.func17, Try.ntmps17
      go_wp2_with fail
      refine C1.out.mono ?_
      rintro e w2 ⟨rfl, hb⟩
      have HB2 := hidden (bthen HB0.out hb)
      clear hb
      go_wp2_with fail
      refine (C3.out _).mono ?_
      rintro e w4 ⟨rfl, hb⟩
      have HB4 := hidden (bthen HB2.out hb)
      clear hb
      go_wp2
      exact bodyPost_ret (v := .tuple #[.int .i64 (x + 1), .string vs]) (by simp [results, Try.results17, go_sem]) rfl ⟨rfl, HB4.out⟩
theorem told_take (x : Int) (qs : List Pkt) (j : Nat) (h : j < qs.length) : toldQ x (qs.take (j + 1)) = toldQ x (qs.take j) ++ [vecOf x (qs.getD j noP)] := by
  unfold toldQ
  have e : qs.getD j noP = qs[j] := by rw [List.getD_eq_getElem?_getD, List.getElem?_eq_getElem h, Option.getD_some]
  rw [e, List.take_succ_eq_append_getElem h, List.map_append]
  rfl
set_option maxRecDepth 100000 in
set_option maxHeartbeats 4000000 in
theorem rvotes_any (x : Int) (hx : -1 ≤ x ∧ x ≤ 1000) (a2 : Option Addr) (c2 : Nat) (qs : List Pkt) (w : World) (hn : qs.length ≤ 100000) (hV : kPkt.Lies w.heap.size w (.slice a2 qs.length c2) qs) :
    Calls Try.prog 65 #[.int .i64 x, .slice a2 qs.length c2] w fun e w' => ∃ a c, e = .returned (.slice a qs.length c) ∧ kStr.Lies w'.heap.size w' (.slice a qs.length c) (toldQ x qs) ∧ Below w.heap.size w w' := by
  obtain ⟨N, hN⟩ : ∃ N, N = qs.length := ⟨_, rfl⟩
  have hN5 : N ≤ 100000 := by omega
  have HV := hidden hV
  have HN := hidden hN
  obtain ⟨i0, hi, hz0, hz1, hz2⟩ := info_of infoStr
  rw [← hN] at HV ⊢
  clear hV hN
  go_enter Try.func65, Try.ntmps65
  go_wp2
  go_loopw [5, 6] (fun a i wr => ∃ j : Nat, j ≤ N ∧ i = .int .i64 j ∧ wr.ownsRow w.heap.size 9 1 a j (kStr.flat (toldQ x (qs.take j))) ∧ Below w.heap.size w wr) (fun _ i _ => N - (intV i).toNat)
  case atStart => exact ⟨0, Nat.zero_le _, rfl, World.ownsRow_nil _ _ _ _, Below.refl _ _⟩
  case round =>
    obtain ⟨j, hj, rfl, hown, hB⟩ := hrel
    have HB := hidden hB
    have HO := hidden hown
    by_cases hlt : j < N
    · have i1 : (0 : Int) ≤ (j : Int) := by omega
      have i2 : (j : Int) < (N : Int) := by omega
      have hjv : j < qs.length := by rw [← HN.out]; exact hlt
      obtain ⟨b, off, rfl, hbl, e0, e1, e2, e3, e4, e5⟩ := kPkt_at (HV.out.below hB) j hjv
      have HS := hidden (told_take x qs j hjv)
      have lb := Nat.lt_of_lt_of_le hbl hB.size
      have hws := hB.size
      obtain ⟨q, hq⟩ : ∃ q, q = qs.getD j noP := ⟨_, rfl⟩
      rw [← hq] at e0 e1 e2 e3 e4 e5
      rw [← hq] at HS
      clear hown hB hjv hq
      obtain ⟨vo, ex, ve, ps, cy, te⟩ := q
      dsimp only at e0 e1 e2 e3 e4 e5
      by_cases hex : ex = x + 1
      · have hve : vecOf x ⟨vo, ex, ve, ps, cy, te⟩ = ve := if_pos hex
        rw [hve] at HS
        have d1 : (ex == x + 1) = true := beq_iff_eq.2 hex
        clear hve hex
        go_wp2_with (at_builtin; refine kStr.wpList_append _ rfl (.tmp 21) (.tmp 27) 25 rfl w.heap.size 9 i0 (.string noB) 16 Try.underlying25 hi hz0 hz1 hz2 rfl u5 j _ rfl (HO.out.alloc _) (.slice (some ⟨wr.heap.size, 0, none⟩) 1 1) [ve] rfl (Kind.Lies.of_block (K := kStr) (es := [ve]) (heap_alloc_new wr _) (by simp [maxLen])) (by simp only [maxLen, List.length_singleton]; omega) (by simp only [List.length_singleton]; omega) (by simp; omega) ?_; intro v3 w3 hown3 hgrow3 _)
        have hB3 : Below w.heap.size w w3 := (HB.out.alloc hws _).grown hgrow3 (by simp; omega) (own_from HO.out)
        have hrow : w3.ownsRow w.heap.size 9 1 v3 (j + 1) (kStr.flat (toldQ x (qs.take (j + 1)))) := by
          rw [HS.out, Kind.flat_append]
          exact hown3
        go_roundw
        case rel => exact ⟨j + 1, by omega, by go_num, hrow, hB3⟩
        case measure => simp [intV]; omega
      · have hve : vecOf x ⟨vo, ex, ve, ps, cy, te⟩ = noB := if_neg hex
        rw [hve] at HS
        have d1 : (ex == x + 1) = false := beq_eq_false_iff_ne.2 hex
        clear hve hex
        go_wp2_with (at_builtin; refine kStr.wpList_append _ rfl (.tmp 29) (.tmp 30) 25 rfl w.heap.size 9 i0 (.string noB) 16 Try.underlying25 hi hz0 hz1 hz2 rfl u5 j _ rfl (HO.out.alloc _) (.slice (some ⟨wr.heap.size, 0, none⟩) 1 1) [noB] rfl (Kind.Lies.of_block (K := kStr) (es := [noB]) (heap_alloc_new wr _) (by simp [maxLen])) (by simp only [maxLen, List.length_singleton]; omega) (by simp only [List.length_singleton]; omega) (by simp; omega) ?_; intro v3 w3 hown3 hgrow3 _)
        have hB3 : Below w.heap.size w w3 := (HB.out.alloc hws _).grown hgrow3 (by simp; omega) (own_from HO.out)
        have hrow : w3.ownsRow w.heap.size 9 1 v3 (j + 1) (kStr.flat (toldQ x (qs.take (j + 1)))) := by
          rw [HS.out, Kind.flat_append]
          exact hown3
        go_roundw
        case rel => exact ⟨j + 1, by omega, by go_num, hrow, hB3⟩
        case measure => simp [intV]; omega
    · obtain rfl : j = N := by omega
      have i2 : ¬ (j : Int) < (j : Int) := by omega
      obtain ⟨ax, cx, rfl⟩ := own_slice hown
      have ht : qs.take j = qs := List.take_of_length_le (by have := HN.out; omega)
      rw [ht] at hown
      have hlen := toldQ_len x qs
      rw [← HN.out] at hlen
      have hlies : kStr.Lies wr.heap.size wr (.slice ax j cx) (toldQ x qs) := Kind.Lies.of_own (K := kStr) (base := w.heap.size) (e := 9) (by rw [hlen]; exact hown)
      have HL := hidden hlies
      clear hown hlies hlen ht HO hB
      go_wp2
      go_ret
      exact ⟨_, _, rfl, HL.out, HB.out⟩
set_option maxRecDepth 100000 in
set_option maxHeartbeats 8000000 in
theorem rAStep_any (n f d p r dr o sl md fr : Int) (ad : Option Addr) (cap : Nat) (zs : List Int) (R L : Nat) (age : Int) (codes got : ByteArray) (ha : -9223372036854775808 ≤ age ∧ age ≤ 9223372036854775807) (hs : codes.size ≤ 100000) (a2 : Option Addr) (c2 : Nat) (qs : List Pkt) (w : World) (hl : zs.length ≤ 9223372036854775807) (hT : Tab w ad zs) (hR : gate (plainE n f d p r dr o sl md fr zs) (3 * (f + 1)) = (R : Int)) (hL : gate (plainE n f d p r dr o sl md fr zs) (3 * (f + 1) * d) = (L : Int)) (hR15 : R ≤ 15) (hL60 : L ≤ 60) (hd : R = 0 ∨ 1 ≤ d ∧ d ≤ 4)
    (hn : qs.length ≤ 100000) (hV : kPkt.Lies w.heap.size w (.slice a2 qs.length c2) qs) (hz : ∀ q ∈ qs, q.ve.size ≤ 9223372036854775807) :
    Calls Try.prog 21 #[.agg #[.int .i64 n, .int .i64 f, .int .i64 d, .int .i64 p, .int .i64 r, .int .i64 dr, .int .i64 o, .int .i64 sl, .int .i64 md, .int .i64 fr, .slice ad zs.length cap], .int .i64 age, .string codes, .string got, .slice a2 qs.length c2] w fun e w' => e = .returned (.tuple #[.int .i64 (stpA (plainE n f d p r dr o sl md fr zs) R L n f d age codes got qs).age, .string (stpA (plainE n f d p r dr o sl md fr zs) R L n f d age codes got qs).codes, .string (stpA (plainE n f d p r dr o sl md fr zs) R L n f d age codes got qs).got]) ∧ Below w.heap.size w w' := by
  have HB0 := hidden (ballc w (.cells #[.int .i64 n, .int .i64 f, .int .i64 d, .int .i64 p, .int .i64 r, .int .i64 dr, .int .i64 o, .int .i64 sl, .int .i64 md, .int .i64 fr, .slice ad zs.length cap] 24))
  have HT := hidden (hT.below HB0.out)
  have HK := hidden (blk_nw w #[.int .i64 n, .int .i64 f, .int .i64 d, .int .i64 p, .int .i64 r, .int .i64 dr, .int .i64 o, .int .i64 sl, .int .i64 md, .int .i64 fr, .slice ad zs.length cap] 24)
  have HP := hidden (refPlain_any n f d p r dr o sl md fr ad cap zs (w.alloc (.cells #[.int .i64 n, .int .i64 f, .int .i64 d, .int .i64 p, .int .i64 r, .int .i64 dr, .int .i64 o, .int .i64 sl, .int .i64 md, .int .i64 fr, .slice ad zs.length cap] 24)) hl HT.out)
  by_cases hE : plainE n f d p r dr o sl md fr zs = 0
  · by_cases he : emt codes = true
    · have e1 : codes.toList.isEmpty = true := he
      have HS : Hid (stpA (plainE n f d p r dr o sl md fr zs) R L n f d age codes got qs = ⟨age, codes, got⟩) := (if_pos hE).trans (if_pos he)
      rw [HS.out]
      dsimp only
      rw [hE] at HP
      clear hE he HS hT hV hz hR hL
      generalize qs.length = M at *
      go_enter Try.func21, Try.ntmps21
      go_wp2_with fail
      refine HP.out.mono ?_
      rintro e w2 ⟨rfl, hb⟩
      have HB2 := hidden (bthen HB0.out hb)
      clear hb HP
      go_wp2
      exact bodyPost_ret (v := .tuple #[.int .i64 age, .string codes, .string got]) (by simp [results, Try.results21, go_sem]) rfl ⟨rfl, HB2.out⟩
    · have e1 : codes.toList.isEmpty = false := by
        have : emt codes = false := by simpa using he
        exact this
      have hal := sat_lim age L hL60
      have CL := hidden (fun V h => refLength_any n f d p r dr o sl md fr ad cap zs V hl h)
      rw [hL] at CL
      have CA := hidden (fun V => rsat_any age (L : Int) V (wfS ha) (wfS (by omega)))
      have CH := hidden (fun V h => rHears_any n f d p r dr o sl md fr ad cap zs (satF age L) R hR15 hd V hl h hR)
      have CE := hidden (fun (x : Nat) (hx : x < R) V (h2 : kPkt.Lies V.heap.size V (.slice a2 qs.length c2) qs) => rvotes_any (x : Int) (by omega) a2 c2 qs V hn h2)
      have CK := hidden (fun (x : Nat) (hx : x < R) V h => rPKing_any n f d p r dr o sl md fr ad cap zs (x : Int) R (by omega) V hl h hR)
      have CSV := hidden (fun (x : Nat) (hx : x < R) V h (a : Option Addr) (c : Nat) hv => rVStep_any n f d p r dr o sl md fr ad cap zs (x : Int) codes ((toldQ x qs).getD (x / 3) noB) a c (toldQ x qs) V hl h (wfQ x (by omega)) hs (getD_size _ _ (told_sizes x qs hz)) (by rw [toldQ_len]; exact hn) hv (told_sizes x qs hz))
      have HV := hidden hV
      have HHA : Hid (∀ x : Nat, herA 0 n f x codes qs = dgB codes.size (stpG 0 n f x codes ((toldQ x qs).getD (x / 3) noB) (toldQ x qs))) := fun _ => rfl
      have HS : Hid (stpA (plainE n f d p r dr o sl md fr zs) R L n f d age codes got qs = if satF age L = L then ⟨satF age L, noB, dgB codes.size (valG (midA R n f d (satF age L) codes qs))⟩ else ⟨satF age L, midA R n f d (satF age L) codes qs, got⟩) := (if_pos hE).trans (if_neg he)
      rw [HS.out]
      have hmd : midA R n f d (satF age L) codes qs = if hearF R d (satF age L) = -1 then codes else herA 0 n f (hearF R d (satF age L)).toNat codes qs := rfl
      have hlm := hear_lim R hR15 d (satF age L)
      have hms := midA_size R n f d (satF age L) codes qs
      have CW := hidden (fun V => rValues_any (midA R n f d (satF age L) codes qs) (by omega) V)
      rw [hms] at CW
      rw [hE] at HP CSV
      generalize hmm : midA R n f d (satF age L) codes qs = md' at *
      clear hE he HS hT hV hz hR hL hmm hms
      generalize dgB codes.size (valG md') = vs at *
      generalize hearF R d (satF age L) = h at *
      generalize hsa : satF age L = a at *
      clear hsa
      rcases hlm with hlm | ⟨x, hx, hlm⟩
      · rw [if_pos hlm] at hmd
        have d1 : decide (0 ≤ h) = false := decide_eq_false (by omega)
        have d1' : ¬ 0 ≤ h := by omega
        subst hmd
        clear CE CK CSV hlm
        generalize qs.length = M at *
        by_cases hal' : a = (L : Int)
        · rw [if_pos hal']
          have d2 : (a == (L : Int)) = true := beq_iff_eq.2 hal'
          clear hal'
          dsimp only
          go_enter Try.func21, Try.ntmps21
          go_wp2_with fail
          refine HP.out.mono ?_
          rintro e w2 ⟨rfl, hb⟩
          have HB2 := hidden (bthen HB0.out hb)
          have HT2 := hidden (HT.out.below hb)
          have HK2 := hidden (blk_later HK.out hb)
          have c0 := blk_cell HK2.out
          have l0 := blk_lt HK2.out
          clear hb HP
          go_wp2_with fail
          refine (CL.out _ HT2.out).mono ?_
          rintro e w3 ⟨rfl, hb⟩
          have HB3 := hidden (bthen HB2.out hb)
          have HT3 := hidden (HT2.out.below hb)
          have HK3 := hidden (blk_later HK2.out hb)
          clear hb c0 l0
          have c0 := blk_cell HK3.out
          have l0 := blk_lt HK3.out
          go_wp2_with fail
          refine (CA.out _).mono ?_
          rintro e w3b ⟨rfl, rfl⟩
          go_wp2_with fail
          refine (CH.out _ HT3.out).mono ?_
          rintro e w4 ⟨rfl, hb⟩
          have HB4 := hidden (bthen HB3.out hb)
          have HT4 := hidden (HT3.out.below hb)
          have HK4 := hidden (blk_later HK3.out hb)
          clear hb c0 l0
          have c0 := blk_cell HK4.out
          have l0 := blk_lt HK4.out
          have HB5 := hidden HB4.out
          have HT5 := hidden HT4.out
          go_wp2_with fail
          refine (CL.out _ HT5.out).mono ?_
          rintro e w6 ⟨rfl, hb⟩
          have HB6 := hidden (bthen HB5.out hb)
          clear hb c0 l0
          go_wp2_with fail
          refine (CW.out _).mono ?_
          rintro e w7 ⟨rfl, hb⟩
          have HB7 := hidden (bthen HB6.out hb)
          clear hb
          go_wp2
          exact bodyPost_ret (v := .tuple #[.int .i64 a, .string noB, .string vs]) (by simp [results, Try.results21, go_sem]; try rfl) rfl ⟨rfl, HB7.out⟩
        · rw [if_neg hal']
          have d2 : (a == (L : Int)) = false := beq_eq_false_iff_ne.2 hal'
          clear hal'
          dsimp only
          go_enter Try.func21, Try.ntmps21
          go_wp2_with fail
          refine HP.out.mono ?_
          rintro e w2 ⟨rfl, hb⟩
          have HB2 := hidden (bthen HB0.out hb)
          have HT2 := hidden (HT.out.below hb)
          have HK2 := hidden (blk_later HK.out hb)
          have c0 := blk_cell HK2.out
          have l0 := blk_lt HK2.out
          clear hb HP
          go_wp2_with fail
          refine (CL.out _ HT2.out).mono ?_
          rintro e w3 ⟨rfl, hb⟩
          have HB3 := hidden (bthen HB2.out hb)
          have HT3 := hidden (HT2.out.below hb)
          have HK3 := hidden (blk_later HK2.out hb)
          clear hb c0 l0
          have c0 := blk_cell HK3.out
          have l0 := blk_lt HK3.out
          go_wp2_with fail
          refine (CA.out _).mono ?_
          rintro e w3b ⟨rfl, rfl⟩
          go_wp2_with fail
          refine (CH.out _ HT3.out).mono ?_
          rintro e w4 ⟨rfl, hb⟩
          have HB4 := hidden (bthen HB3.out hb)
          have HT4 := hidden (HT3.out.below hb)
          have HK4 := hidden (blk_later HK3.out hb)
          clear hb c0 l0
          have c0 := blk_cell HK4.out
          have l0 := blk_lt HK4.out
          have HB5 := hidden HB4.out
          have HT5 := hidden HT4.out
          go_wp2_with fail
          refine (CL.out _ HT5.out).mono ?_
          rintro e w6 ⟨rfl, hb⟩
          have HB6 := hidden (bthen HB5.out hb)
          clear hb c0 l0
          go_wp2
          exact bodyPost_ret (v := .tuple #[.int .i64 a, .string md', .string got]) (by simp [results, Try.results21, go_sem]; try rfl) rfl ⟨rfl, HB6.out⟩
      · rw [if_neg (by omega), hlm, Int.toNat_natCast, HHA.out x] at hmd
        have CEX := hidden (CE.out x hx)
        have CKX := hidden (CK.out x hx)
        have CSX := hidden (CSV.out x hx)
        rw [kingF_in (by omega) (by omega), show (x : Int) / 3 = ((x / 3 : Nat) : Int) by omega] at CKX
        rw [← hmd, toldQ_len] at CSX
        clear CE CK CSV hmd HHA
        subst hlm
        have hql := toldQ_len x qs
        have HL := hidden hql
        have hx15 : x ≤ 15 := by omega
        have hq3 : x / 3 ≤ 5 := by omega
        clear hql
        generalize x / 3 = q3 at *
        generalize toldQ (x : Int) qs = votes at *
        generalize qs.length = M at *
        have d1 : decide ((0 : Int) ≤ (x : Int)) = true := decide_eq_true (by omega)
        have d1' : (0 : Int) ≤ (x : Int) := by omega
        by_cases hlt : q3 < M
        · have i1 : (0 : Int) ≤ (q3 : Int) := by omega
          have i2 : (q3 : Int) < (M : Int) := by omega
          by_cases hal' : a = (L : Int)
          · rw [if_pos hal']
            have d2 : (a == (L : Int)) = true := beq_iff_eq.2 hal'
            clear hal'
            dsimp only
            go_enter Try.func21, Try.ntmps21
            go_wp2_with fail
            refine HP.out.mono ?_
            rintro e w2 ⟨rfl, hb⟩
            have HB2 := hidden (bthen HB0.out hb)
            have HT2 := hidden (HT.out.below hb)
            have HK2 := hidden (blk_later HK.out hb)
            have c0 := blk_cell HK2.out
            have l0 := blk_lt HK2.out
            clear hb HP
            go_wp2_with fail
            refine (CL.out _ HT2.out).mono ?_
            rintro e w3 ⟨rfl, hb⟩
            have HB3 := hidden (bthen HB2.out hb)
            have HT3 := hidden (HT2.out.below hb)
            have HK3 := hidden (blk_later HK2.out hb)
            clear hb c0 l0
            have c0 := blk_cell HK3.out
            have l0 := blk_lt HK3.out
            go_wp2_with fail
            refine (CA.out _).mono ?_
            rintro e w3b ⟨rfl, rfl⟩
            go_wp2_with fail
            refine (CH.out _ HT3.out).mono ?_
            rintro e w4 ⟨rfl, hb⟩
            have HB4 := hidden (bthen HB3.out hb)
            have HT4 := hidden (HT3.out.below hb)
            have HK4 := hidden (blk_later HK3.out hb)
            clear hb c0 l0
            have c0 := blk_cell HK4.out
            have l0 := blk_lt HK4.out
            go_wp2_with fail
            refine (CEX.out _ (HV.out.later HB4.out)).mono ?_
            rintro e wa ⟨av, cv, rfl, hg, hb⟩
            have HBa := hidden (bthen HB4.out hb)
            have HTa := hidden (HT4.out.below hb)
            have HKa := hidden (blk_later HK4.out hb)
            have HGa := hidden hg
            clear hb hg c0 l0
            have c0 := blk_cell HKa.out
            have l0 := blk_lt HKa.out
            go_wp2_with fail
            refine (CKX.out _ HTa.out).mono ?_
            rintro e wb ⟨rfl, hb⟩
            have HBb := hidden (bthen HBa.out hb)
            have HTb := hidden (HTa.out.below hb)
            have HKb := hidden (blk_later HKa.out hb)
            have HGb := hidden (HGa.out.later hb)
            clear hb c0 l0
            have c0 := blk_cell HKb.out
            have l0 := blk_lt HKb.out
            go_wp2_with fail
            refine (CKX.out _ HTb.out).mono ?_
            rintro e wc ⟨rfl, hb⟩
            have HBc := hidden (bthen HBb.out hb)
            have HTc := hidden (HTb.out.below hb)
            have HKc := hidden (blk_later HKb.out hb)
            have HGc := hidden (HGb.out.later hb)
            clear hb c0 l0
            have c0 := blk_cell HKc.out
            have l0 := blk_lt HKc.out
            obtain ⟨bv, ov, rfl, hbl, ev⟩ := kStr_at HGc.out q3 (by rw [HL.out]; exact hlt)
            have C4 := hidden (CSX.out _ HTc.out _ _ HGc.out)
            generalize votes.getD q3 noB = kv at *
            go_wp2_with fail
            refine C4.out.mono ?_
            rintro e w5 ⟨rfl, hb⟩
            have HB5 := hidden (bthen HBc.out hb)
            have HT5 := hidden (HTc.out.below hb)
            have HK5 := hidden (blk_later HKc.out hb)
            clear hb c0 l0 ev
            have c0 := blk_cell HK5.out
            have l0 := blk_lt HK5.out
            go_wp2_with fail
            refine (CL.out _ HT5.out).mono ?_
            rintro e w6 ⟨rfl, hb⟩
            have HB6 := hidden (bthen HB5.out hb)
            clear hb c0 l0
            go_wp2_with fail
            refine (CW.out _).mono ?_
            rintro e w7 ⟨rfl, hb⟩
            have HB7 := hidden (bthen HB6.out hb)
            clear hb
            go_wp2
            exact bodyPost_ret (v := .tuple #[.int .i64 a, .string noB, .string vs]) (by simp [results, Try.results21, go_sem]; try rfl) rfl ⟨rfl, HB7.out⟩
          · rw [if_neg hal']
            have d2 : (a == (L : Int)) = false := beq_eq_false_iff_ne.2 hal'
            clear hal'
            dsimp only
            go_enter Try.func21, Try.ntmps21
            go_wp2_with fail
            refine HP.out.mono ?_
            rintro e w2 ⟨rfl, hb⟩
            have HB2 := hidden (bthen HB0.out hb)
            have HT2 := hidden (HT.out.below hb)
            have HK2 := hidden (blk_later HK.out hb)
            have c0 := blk_cell HK2.out
            have l0 := blk_lt HK2.out
            clear hb HP
            go_wp2_with fail
            refine (CL.out _ HT2.out).mono ?_
            rintro e w3 ⟨rfl, hb⟩
            have HB3 := hidden (bthen HB2.out hb)
            have HT3 := hidden (HT2.out.below hb)
            have HK3 := hidden (blk_later HK2.out hb)
            clear hb c0 l0
            have c0 := blk_cell HK3.out
            have l0 := blk_lt HK3.out
            go_wp2_with fail
            refine (CA.out _).mono ?_
            rintro e w3b ⟨rfl, rfl⟩
            go_wp2_with fail
            refine (CH.out _ HT3.out).mono ?_
            rintro e w4 ⟨rfl, hb⟩
            have HB4 := hidden (bthen HB3.out hb)
            have HT4 := hidden (HT3.out.below hb)
            have HK4 := hidden (blk_later HK3.out hb)
            clear hb c0 l0
            have c0 := blk_cell HK4.out
            have l0 := blk_lt HK4.out
            go_wp2_with fail
            refine (CEX.out _ (HV.out.later HB4.out)).mono ?_
            rintro e wa ⟨av, cv, rfl, hg, hb⟩
            have HBa := hidden (bthen HB4.out hb)
            have HTa := hidden (HT4.out.below hb)
            have HKa := hidden (blk_later HK4.out hb)
            have HGa := hidden hg
            clear hb hg c0 l0
            have c0 := blk_cell HKa.out
            have l0 := blk_lt HKa.out
            go_wp2_with fail
            refine (CKX.out _ HTa.out).mono ?_
            rintro e wb ⟨rfl, hb⟩
            have HBb := hidden (bthen HBa.out hb)
            have HTb := hidden (HTa.out.below hb)
            have HKb := hidden (blk_later HKa.out hb)
            have HGb := hidden (HGa.out.later hb)
            clear hb c0 l0
            have c0 := blk_cell HKb.out
            have l0 := blk_lt HKb.out
            go_wp2_with fail
            refine (CKX.out _ HTb.out).mono ?_
            rintro e wc ⟨rfl, hb⟩
            have HBc := hidden (bthen HBb.out hb)
            have HTc := hidden (HTb.out.below hb)
            have HKc := hidden (blk_later HKb.out hb)
            have HGc := hidden (HGb.out.later hb)
            clear hb c0 l0
            have c0 := blk_cell HKc.out
            have l0 := blk_lt HKc.out
            obtain ⟨bv, ov, rfl, hbl, ev⟩ := kStr_at HGc.out q3 (by rw [HL.out]; exact hlt)
            have C4 := hidden (CSX.out _ HTc.out _ _ HGc.out)
            generalize votes.getD q3 noB = kv at *
            go_wp2_with fail
            refine C4.out.mono ?_
            rintro e w5 ⟨rfl, hb⟩
            have HB5 := hidden (bthen HBc.out hb)
            have HT5 := hidden (HTc.out.below hb)
            have HK5 := hidden (blk_later HKc.out hb)
            clear hb c0 l0 ev
            have c0 := blk_cell HK5.out
            have l0 := blk_lt HK5.out
            go_wp2_with fail
            refine (CL.out _ HT5.out).mono ?_
            rintro e w6 ⟨rfl, hb⟩
            have HB6 := hidden (bthen HB5.out hb)
            clear hb c0 l0
            go_wp2
            exact bodyPost_ret (v := .tuple #[.int .i64 a, .string md', .string got]) (by simp [results, Try.results21, go_sem]; try rfl) rfl ⟨rfl, HB6.out⟩
        · have i2 : ¬ (q3 : Int) < (M : Int) := by omega
          have hkv : votes.getD q3 noB = noB := by
            rw [List.getD_eq_getElem?_getD, List.getElem?_eq_none (by have := HL.out; omega)]
            rfl
          rw [hkv] at CSX
          clear hkv
          by_cases hal' : a = (L : Int)
          · rw [if_pos hal']
            have d2 : (a == (L : Int)) = true := beq_iff_eq.2 hal'
            clear hal'
            dsimp only
            go_enter Try.func21, Try.ntmps21
            go_wp2_with fail
            refine HP.out.mono ?_
            rintro e w2 ⟨rfl, hb⟩
            have HB2 := hidden (bthen HB0.out hb)
            have HT2 := hidden (HT.out.below hb)
            have HK2 := hidden (blk_later HK.out hb)
            have c0 := blk_cell HK2.out
            have l0 := blk_lt HK2.out
            clear hb HP
            go_wp2_with fail
            refine (CL.out _ HT2.out).mono ?_
            rintro e w3 ⟨rfl, hb⟩
            have HB3 := hidden (bthen HB2.out hb)
            have HT3 := hidden (HT2.out.below hb)
            have HK3 := hidden (blk_later HK2.out hb)
            clear hb c0 l0
            have c0 := blk_cell HK3.out
            have l0 := blk_lt HK3.out
            go_wp2_with fail
            refine (CA.out _).mono ?_
            rintro e w3b ⟨rfl, rfl⟩
            go_wp2_with fail
            refine (CH.out _ HT3.out).mono ?_
            rintro e w4 ⟨rfl, hb⟩
            have HB4 := hidden (bthen HB3.out hb)
            have HT4 := hidden (HT3.out.below hb)
            have HK4 := hidden (blk_later HK3.out hb)
            clear hb c0 l0
            have c0 := blk_cell HK4.out
            have l0 := blk_lt HK4.out
            go_wp2_with fail
            refine (CEX.out _ (HV.out.later HB4.out)).mono ?_
            rintro e wa ⟨av, cv, rfl, hg, hb⟩
            have HBa := hidden (bthen HB4.out hb)
            have HTa := hidden (HT4.out.below hb)
            have HKa := hidden (blk_later HK4.out hb)
            have HGa := hidden hg
            clear hb hg c0 l0
            have c0 := blk_cell HKa.out
            have l0 := blk_lt HKa.out
            go_wp2_with fail
            refine (CKX.out _ HTa.out).mono ?_
            rintro e wb ⟨rfl, hb⟩
            have HBb := hidden (bthen HBa.out hb)
            have HTb := hidden (HTa.out.below hb)
            have HKb := hidden (blk_later HKa.out hb)
            have HGb := hidden (HGa.out.later hb)
            clear hb c0 l0
            have c0 := blk_cell HKb.out
            have l0 := blk_lt HKb.out
            have C4 := hidden (CSX.out _ HTb.out _ _ HGb.out)
            go_wp2_with fail
            refine C4.out.mono ?_
            rintro e w5 ⟨rfl, hb⟩
            have HB5 := hidden (bthen HBb.out hb)
            have HT5 := hidden (HTb.out.below hb)
            have HK5 := hidden (blk_later HKb.out hb)
            clear hb c0 l0
            have c0 := blk_cell HK5.out
            have l0 := blk_lt HK5.out
            go_wp2_with fail
            refine (CL.out _ HT5.out).mono ?_
            rintro e w6 ⟨rfl, hb⟩
            have HB6 := hidden (bthen HB5.out hb)
            clear hb c0 l0
            go_wp2_with fail
            refine (CW.out _).mono ?_
            rintro e w7 ⟨rfl, hb⟩
            have HB7 := hidden (bthen HB6.out hb)
            clear hb
            go_wp2
            exact bodyPost_ret (v := .tuple #[.int .i64 a, .string noB, .string vs]) (by simp [results, Try.results21, go_sem]; try rfl) rfl ⟨rfl, HB7.out⟩
          · rw [if_neg hal']
            have d2 : (a == (L : Int)) = false := beq_eq_false_iff_ne.2 hal'
            clear hal'
            dsimp only
            go_enter Try.func21, Try.ntmps21
            go_wp2_with fail
            refine HP.out.mono ?_
            rintro e w2 ⟨rfl, hb⟩
            have HB2 := hidden (bthen HB0.out hb)
            have HT2 := hidden (HT.out.below hb)
            have HK2 := hidden (blk_later HK.out hb)
            have c0 := blk_cell HK2.out
            have l0 := blk_lt HK2.out
            clear hb HP
            go_wp2_with fail
            refine (CL.out _ HT2.out).mono ?_
            rintro e w3 ⟨rfl, hb⟩
            have HB3 := hidden (bthen HB2.out hb)
            have HT3 := hidden (HT2.out.below hb)
            have HK3 := hidden (blk_later HK2.out hb)
            clear hb c0 l0
            have c0 := blk_cell HK3.out
            have l0 := blk_lt HK3.out
            go_wp2_with fail
            refine (CA.out _).mono ?_
            rintro e w3b ⟨rfl, rfl⟩
            go_wp2_with fail
            refine (CH.out _ HT3.out).mono ?_
            rintro e w4 ⟨rfl, hb⟩
            have HB4 := hidden (bthen HB3.out hb)
            have HT4 := hidden (HT3.out.below hb)
            have HK4 := hidden (blk_later HK3.out hb)
            clear hb c0 l0
            have c0 := blk_cell HK4.out
            have l0 := blk_lt HK4.out
            go_wp2_with fail
            refine (CEX.out _ (HV.out.later HB4.out)).mono ?_
            rintro e wa ⟨av, cv, rfl, hg, hb⟩
            have HBa := hidden (bthen HB4.out hb)
            have HTa := hidden (HT4.out.below hb)
            have HKa := hidden (blk_later HK4.out hb)
            have HGa := hidden hg
            clear hb hg c0 l0
            have c0 := blk_cell HKa.out
            have l0 := blk_lt HKa.out
            go_wp2_with fail
            refine (CKX.out _ HTa.out).mono ?_
            rintro e wb ⟨rfl, hb⟩
            have HBb := hidden (bthen HBa.out hb)
            have HTb := hidden (HTa.out.below hb)
            have HKb := hidden (blk_later HKa.out hb)
            have HGb := hidden (HGa.out.later hb)
            clear hb c0 l0
            have c0 := blk_cell HKb.out
            have l0 := blk_lt HKb.out
            have C4 := hidden (CSX.out _ HTb.out _ _ HGb.out)
            go_wp2_with fail
            refine C4.out.mono ?_
            rintro e w5 ⟨rfl, hb⟩
            have HB5 := hidden (bthen HBb.out hb)
            have HT5 := hidden (HTb.out.below hb)
            have HK5 := hidden (blk_later HKb.out hb)
            clear hb c0 l0
            have c0 := blk_cell HK5.out
            have l0 := blk_lt HK5.out
            go_wp2_with fail
            refine (CL.out _ HT5.out).mono ?_
            rintro e w6 ⟨rfl, hb⟩
            have HB6 := hidden (bthen HB5.out hb)
            clear hb c0 l0
            go_wp2
            exact bodyPost_ret (v := .tuple #[.int .i64 a, .string md', .string got]) (by simp [results, Try.results21, go_sem]; try rfl) rfl ⟨rfl, HB6.out⟩
  · have HS : Hid (stpA (plainE n f d p r dr o sl md fr zs) R L n f d age codes got qs = ⟨0, noB, noB⟩) := if_neg hE
    rw [HS.out]
    dsimp only
    have j1 : (plainE n f d p r dr o sl md fr zs != 0) = true := bne_iff_ne.2 hE
    clear hE HS hT hV hz hR hL
    generalize plainE n f d p r dr o sl md fr zs = E at *
    generalize qs.length = M at *
    go_enter Try.func21, Try.ntmps21
    go_wp2_with fail
    refine HP.out.mono ?_
    rintro e w2 ⟨rfl, hb⟩
    have HB2 := hidden (bthen HB0.out hb)
    clear hb HP
    go_wp2
    exact bodyPost_ret (v := .tuple #[.int .i64 0, .string noB, .string noB]) (by simp [results, Try.results21, go_sem]; try rfl) rfl ⟨rfl, HB2.out⟩
end Go.Proofs.Ytohgmliafidalaa

/- Plain words: how many exchanges there are, how far apart, and how long an instance is; no conditions. -/
namespace Go.Proofs.Ytohgmliafidalaa
open Go.ChangeShapes Go.WideShapes Go.ChangeAt Go.RowKit
set_option linter.unusedVariables false

/-- How many codes a pipe has, in stretches. -/
theorem len_nat (n f d p r dr o sl md fr : Int) (ad : Option Addr) (cap : Nat) (zs : List Int) : ∃ R D L : Nat, gate (plainE n f d p r dr o sl md fr zs) (3 * (f + 1)) = (R : Int) ∧ gate (plainE n f d p r dr o sl md fr zs) (3 * (f + 1) * d) = (L : Int) ∧ L = R * D ∧ R ≤ 15 ∧ L ≤ 60 ∧ (R = 0 ∨ (d = (D : Int) ∧ 1 ≤ D ∧ D ≤ 4)) ∧ (plainE n f d p r dr o sl md fr zs = 0 → (R : Int) = 3 * (f + 1) ∧ d = (D : Int) ∧ 1 ≤ D ∧ D ≤ 4) ∧ (¬ plainE n f d p r dr o sl md fr zs = 0 → R = 0) := by
  by_cases e : plainE n f d p r dr o sl md fr zs = 0
  · obtain ⟨h0, h00, h1, h2, h22, h3, h4, _⟩ := plainE_ok e
    rw [e, gate_ok, gate_ok]
    refine ⟨(3 * (f + 1)).toNat, d.toNat, (3 * (f + 1)).toNat * d.toNat, by omega, ?_, rfl, by omega, Nat.mul_le_mul (show (3 * (f + 1)).toNat ≤ 15 by omega) (show d.toNat ≤ 4 by omega), .inr ⟨by omega, by omega, by omega⟩, fun _ => ⟨by omega, by omega, by omega, by omega⟩, fun h => absurd rfl h⟩
    rw [Int.natCast_mul, Int.toNat_of_nonneg (by omega), Int.toNat_of_nonneg (by omega)]
  · rw [gate_no e, gate_no e]
    exact ⟨0, 0, 0, rfl, rfl, rfl, by omega, by omega, .inl rfl, fun h => absurd h e, fun _ => rfl⟩

end Go.Proofs.Ytohgmliafidalaa
