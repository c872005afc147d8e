/- The document's calls Start, value, told, Step, Code and Read of layer 14 return what plain functions give, and make at most new memory; conditions: the table and the votes lie where they say, and lengths and numbers fit int. -/
import Derived.Test.YtohgmliafidalaaKinA
import Derived.Test.YtohgmliafidalaaTalS
import Derived.Test.YtohgmliafidalaaNumRef
namespace Go.Proofs.Ytohgmliafidalaa
open Go.ChangeShapes Go.WideShapes Go.ChangeAt Go.RowKit
set_option linter.unusedVariables false
attribute [local go_sem] cell_rg

theorem rStart_any (z : Int) (w : World) :
    Calls Try.prog 100 #[.int .i64 z] w fun e w' => e = .returned (agB (startF z)) ∧ Below w.heap.size w w' := by
  by_cases h : z = 1
  · subst h
    go_enter Try.func100, Try.ntmps100
    go_wp2
    exact bodyPost_ret (v := .agg #[.int .i64 1, .bool false]) (by simp [results, Try.results100, go_sem]) rfl ⟨rfl, ballc _ _⟩
  · have e : startF z = (0, false) := if_neg h
    rw [e]
    have e2 : (z == 1) = false := by simp [h]
    go_enter Try.func100, Try.ntmps100
    go_wp2
    exact bodyPost_ret (v := .agg #[.int .i64 0, .bool false]) (by simp [results, Try.results100, go_sem]) rfl ⟨rfl, ballc _ _⟩
theorem rvalue_any (b : Int × Bool) (w : World) :
    Calls Try.prog 124 #[.agg #[.int .i64 b.1, .bool b.2]] w fun e w' => e = .returned (.int .i64 (valF b)) ∧ Below w.heap.size w w' := by
  obtain ⟨v, s⟩ := b
  by_cases h : v < 0
  · rw [valF_lo h]
    have e1 : decide (v < 0) = true := decide_eq_true h
    go_enter Try.func124, Try.ntmps124
    go_wp2
    go_ret
    exact ⟨rfl, ballc _ _⟩
  · have e1 : decide (v < 0) = false := decide_eq_false h
    by_cases h2 : 3 ≤ v
    · rw [valF_hi h h2]
      have e2 : decide (2 < v) = true := decide_eq_true (by omega)
      go_enter Try.func124, Try.ntmps124
      go_wp2
      go_ret
      exact ⟨rfl, ballc _ _⟩
    · rw [valF_in h h2]
      have e2 : decide (2 < v) = false := decide_eq_false (by omega)
      go_enter Try.func124, Try.ntmps124
      go_wp2
      go_ret
      exact ⟨rfl, ballc _ _⟩
theorem rRead_any (c : Int) (w : World) :
    Calls Try.prog 119 #[.int .i64 c] w fun e w' => e = .returned (agB (readK c)) ∧ Below w.heap.size w w' := by
  by_cases h : c < 0
  · have e : readK c = (2, false) := if_pos (.inl h)
    rw [e]
    have e1 : decide (c < 0) = true := decide_eq_true h
    go_enter Try.func119, Try.ntmps119
    go_wp2
    exact bodyPost_ret (v := .agg #[.int .i64 2, .bool false]) (by simp [results, Try.results119, go_sem]) rfl ⟨rfl, ballc _ _⟩
  · have e1 : decide (c < 0) = false := decide_eq_false h
    by_cases h2 : 6 ≤ c
    · have e : readK c = (2, false) := if_pos (.inr h2)
      rw [e]
      have e2 : decide (5 < c) = true := decide_eq_true (by omega)
      go_enter Try.func119, Try.ntmps119
      go_wp2
      exact bodyPost_ret (v := .agg #[.int .i64 2, .bool false]) (by simp [results, Try.results119, go_sem]) rfl ⟨rfl, ballc _ _⟩
    · have e2 : decide (5 < c) = false := decide_eq_false (by omega)
      have e : readK c = (c.tmod 3, decide (3 ≤ c)) := if_neg (by omega)
      rw [e]
      have hc : c = 0 ∨ c = 1 ∨ c = 2 ∨ c = 3 ∨ c = 4 ∨ c = 5 := by omega
      clear e e1 e2 h h2
      rcases hc with rfl | rfl | rfl | rfl | rfl | rfl
      all_goals
        go_enter Try.func119, Try.ntmps119
        go_wp2
        refine bodyPost_ret (v := _) (by simp [results, Try.results119, go_sem]; rfl) rfl ⟨rfl, ?_⟩
        first | exact ballc _ _ | exact below2T (ballc _ _) (Nat.le_refl _) _ _
theorem rCode_any (b : Int × Bool) (w : World) :
    Calls Try.prog 121 #[.agg #[.int .i64 b.1, .bool b.2]] w fun e w' => e = .returned (.int .i64 (codeF b)) ∧ Below w.heap.size w w' := by
  obtain ⟨v, s⟩ := b
  have HV := hidden (fun V => rvalue_any (v, s) V)
  have hq := valF_bd (v, s)
  cases s
  · have e : codeF (v, false) = valF (v, false) := if_neg (by simp)
    rw [e]
    generalize valF (v, false) = q at *
    go_enter Try.func121, Try.ntmps121
    go_wp2_with fail
    refine (HV.out _).mono ?_
    rintro e w2 ⟨rfl, hb⟩
    have HB := hidden (bthen (ballc w _) hb)
    clear hb
    go_wp2
    go_ret
    exact ⟨rfl, HB.out⟩
  · have e : codeF (v, true) = valF (v, true) + 3 := (if_pos rfl).trans (Int.add_comm _ _)
    rw [e]
    generalize valF (v, true) = q at *
    go_enter Try.func121, Try.ntmps121
    go_wp2_with fail
    refine (HV.out _).mono ?_
    rintro e w2 ⟨rfl, hb⟩
    have HB := hidden (bthen (ballc w _) hb)
    clear hb
    go_wp2
    go_ret
    exact ⟨rfl, HB.out⟩

def toldF (k : Int) : Int := if k = 1 ∨ k = 2 then 1 else 0
theorem rtold_any (k : Int) (w : World) :
    Calls Try.prog 128 #[.int .i64 k] w fun e w' => e = .returned (.int .i64 (toldF k)) ∧ w = w' := by
  by_cases h1 : k = 1
  · subst h1
    go_enter Try.func128, Try.ntmps128
    go_wp2
    go_ret
    exact ⟨rfl, rfl⟩
  · have e1 : (k == 1) = false := by simp [h1]
    by_cases h2 : k = 2
    · subst h2
      clear h1
      go_enter Try.func128, Try.ntmps128
      go_wp2
      go_ret
      exact ⟨rfl, rfl⟩
    · have e2 : (k == 2) = false := by simp [h2]
      have e : toldF k = 0 := if_neg (by omega)
      rw [e]
      go_enter Try.func128, Try.ntmps128
      go_wp2
      go_ret
      exact ⟨rfl, rfl⟩
theorem obey_told {b : Int × Bool} {k : Int} (h : valF b = 2 ∨ b.2 = false) : obeyF b k = (toldF k, false) := by
  have hn : ¬ (valF b ≠ 2 ∧ b.2 = true) := by rintro ⟨h1, h2⟩; rcases h with h | h; exact h1 h; rw [h] at h2; cases h2
  unfold toldF
  by_cases h2 : k = 1 ∨ k = 2
  · rw [if_pos h2]; exact obeyF_1 hn h2
  · rw [if_neg h2]; exact obeyF_0 hn h2
set_option maxHeartbeats 2000000 in
theorem rKStep_any (n f d p r dr o sl md fr : Int) (ad : Option Addr) (cap : Nat) (zs : List Int) (x : Int) (b : Int × Bool) (k : Int) (a2 : Option Addr) (len c2 : Nat) (vs : List Int) (w : World) (hl : zs.length ≤ 9223372036854775807) (hT : Tab w ad zs) (hx : (Lit.int .i64 x).wf = true) (hlv : vs.length ≤ 9223372036854775807) (hV : kInt.Lies w.heap.size w (.slice a2 len c2) vs) :
    Calls Try.prog 107 #[.agg #[.int .i64 n, .int .i64 f, .int .i64 d, .int .i64 p, .int .i64 r, .int .i64 dr, .int .i64 o, .int .i64 sl, .int .i64 md, .int .i64 fr, .slice ad zs.length cap], .int .i64 x, .agg #[.int .i64 b.1, .bool b.2], .int .i64 k, .slice a2 len c2] w fun e w' => e = .returned (agB (stepF (plainE n f d p r dr o sl md fr zs) n f x b k vs)) ∧ Below w.heap.size w w' := by
  have hB0 : Below w.heap.size w (((w.alloc (.cells #[.int .i64 n, .int .i64 f, .int .i64 d, .int .i64 p, .int .i64 r, .int .i64 dr, .int .i64 o, .int .i64 sl, .int .i64 md, .int .i64 fr, .slice ad zs.length cap] 24)).alloc (.cells #[.int .i64 b.1, .bool b.2] 108)).alloc (.cells #[.int .i64 0, .bool false] 108)) := bthen (bthen (ballc w _) (ballc _ _)) (ballc _ _)
  have HT := hidden (hT.below hB0)
  have HV := hidden (hV.later hB0)
  have hk0 := blk_later (blk_later (blk_nw w #[.int .i64 n, .int .i64 f, .int .i64 d, .int .i64 p, .int .i64 r, .int .i64 dr, .int .i64 o, .int .i64 sl, .int .i64 md, .int .i64 fr, .slice ad zs.length cap] 24) (ballc _ (.cells #[.int .i64 b.1, .bool b.2] 108))) (ballc _ (.cells #[.int .i64 0, .bool false] 108))
  have hk1 := blk_later (blk_newAt (w.alloc (.cells #[.int .i64 n, .int .i64 f, .int .i64 d, .int .i64 p, .int .i64 r, .int .i64 dr, .int .i64 o, .int .i64 sl, .int .i64 md, .int .i64 fr, .slice ad zs.length cap] 24)) #[.int .i64 b.1, .bool b.2] 108 (b := w.heap.size + 1) (by simp)) (ballc _ (.cells #[.int .i64 0, .bool false] 108))
  have hk2 := blk_newAt ((w.alloc (.cells #[.int .i64 n, .int .i64 f, .int .i64 d, .int .i64 p, .int .i64 r, .int .i64 dr, .int .i64 o, .int .i64 sl, .int .i64 md, .int .i64 fr, .slice ad zs.length cap] 24)).alloc (.cells #[.int .i64 b.1, .bool b.2] 108)) #[.int .i64 0, .bool false] 108 (b := w.heap.size + 2) (by simp)
  have HK0 := hidden hk0
  have HK1 := hidden hk1
  have HK2 := hidden hk2
  have HB0 := hidden hB0
  have M1 := hidden (fun V h h2 => rMost_any n f d p r dr o sl md fr ad cap zs a2 len c2 vs V hl h hlv h2)
  have L1 := hidden (fun V h h2 => rLeast_any n f d p r dr o sl md fr ad cap zs (valF b) a2 len c2 vs V hl h hlv h2)
  have E1 := hidden (fun v V h h2 => rEnough_any n f d p r dr o sl md fr ad cap zs v a2 len c2 vs V hl h hlv h2)
  have TO := hidden (fun V => rtold_any k V)
  have ot := obey_told (b := b) (k := k)
  have os := obeyF_s (b := b) (k := k)
  have VA := hidden (fun V => rvalue_any b V)
  have HM := hidden (fun V => rmod_any x 3 V hx rfl)
  have s0 := stepF_0 (E := plainE n f d p r dr o sl md fr zs) (n := n) (f := f) (x := x) (b := b) (k := k) (vs := vs)
  have s1 := stepF_1 (E := plainE n f d p r dr o sl md fr zs) (n := n) (f := f) (x := x) (b := b) (k := k) (vs := vs)
  have s2 := stepF_2 (E := plainE n f d p r dr o sl md fr zs) (n := n) (f := f) (x := x) (b := b) (k := k) (vs := vs)
  have h3 := modF3 x
  clear hT hV hB0 hk0 hk1 hk2
  generalize plainE n f d p r dr o sl md fr zs = E at *
  generalize stepF E n f x b k vs = r at *
  obtain ⟨bv, bs⟩ := b
  dsimp only at *
  generalize mostF E n f vs = ms at *
  generalize valF (bv, bs) = q at *
  generalize leastF E f q vs = ls at *
  generalize modF x 3 = m at *
  have hm : m = 0 ∨ m = 1 ∨ m = 2 := by omega
  clear h3 hx
  rcases hm with rfl | rfl | rfl
  · obtain rfl := s0 rfl
    clear s0 s1 s2 L1 E1 TO ot os
    go_enter Try.func107, Try.ntmps107
    go_wp2_with fail
    generalize (((w.alloc (.cells #[.int .i64 n, .int .i64 f, .int .i64 d, .int .i64 p, .int .i64 r, .int .i64 dr, .int .i64 o, .int .i64 sl, .int .i64 md, .int .i64 fr, .slice ad zs.length cap] 24)).alloc (.cells #[.int .i64 bv, .bool bs] 108)).alloc (.cells #[.int .i64 0, .bool false] 108)) = W0 at *
    refine (VA.out _).mono ?_
    rintro e wv ⟨rfl, hb⟩
    have HB_wv := hidden (hb)
    clear hb
    have c0 := fun i => blk_cell (blk_later HK0.out HB_wv.out) i
    have c1 := fun i => blk_cell (blk_later HK1.out HB_wv.out) i
    have c2' := fun i => blk_cell (blk_later HK2.out HB_wv.out) i
    have l0 := blk_lt (blk_later HK0.out HB_wv.out)
    have l1 := blk_lt (blk_later HK1.out HB_wv.out)
    have l2 := blk_lt (blk_later HK2.out HB_wv.out)
    have fz := fun i => blk_frozen (blk_later HK2.out HB_wv.out) i
    go_wp2_with fail
    refine (HM.out _).mono ?_
    rintro e wm ⟨rfl, rfl⟩
    go_wp2_with fail
    refine (M1.out _ (HT.out.below HB_wv.out) (HV.out.later HB_wv.out)).mono ?_
    rintro e wa ⟨rfl, hb⟩
    have HB_wa := hidden (bthen HB_wv.out hb)
    clear hb c0 c1 c2' l0 l1 l2 fz
    have c0 := fun i => blk_cell (blk_later HK0.out HB_wa.out) i
    have c1 := fun i => blk_cell (blk_later HK1.out HB_wa.out) i
    have c2' := fun i => blk_cell (blk_later HK2.out HB_wa.out) i
    have l0 := blk_lt (blk_later HK0.out HB_wa.out)
    have l1 := blk_lt (blk_later HK1.out HB_wa.out)
    have l2 := blk_lt (blk_later HK2.out HB_wa.out)
    have fz := fun i => blk_frozen (blk_later HK2.out HB_wa.out) i
    go_wp2
    obtain ⟨r0, r1⟩ := read2T (blk_later HK2.out HB_wa.out) (.int .i64 ms) (.bool false)
    exact bodyPost_ret (v := .agg #[.int .i64 ms, .bool false]) (by simp [results, Try.results107, go_sem, r0, r1]) rfl ⟨rfl, below2T (bthen HB0.out HB_wa.out) (by omega) _ _⟩
  · obtain rfl := s1 rfl
    clear s0 s1 s2 M1 TO ot os
    have E2 := hidden (E1.out ls)
    clear E1
    generalize enoughB E n f ls vs = en at *
    go_enter Try.func107, Try.ntmps107
    go_wp2_with fail
    generalize (((w.alloc (.cells #[.int .i64 n, .int .i64 f, .int .i64 d, .int .i64 p, .int .i64 r, .int .i64 dr, .int .i64 o, .int .i64 sl, .int .i64 md, .int .i64 fr, .slice ad zs.length cap] 24)).alloc (.cells #[.int .i64 bv, .bool bs] 108)).alloc (.cells #[.int .i64 0, .bool false] 108)) = W0 at *
    refine (VA.out _).mono ?_
    rintro e wv ⟨rfl, hb⟩
    have HB_wv := hidden (hb)
    clear hb
    have c0 := fun i => blk_cell (blk_later HK0.out HB_wv.out) i
    have c1 := fun i => blk_cell (blk_later HK1.out HB_wv.out) i
    have c2' := fun i => blk_cell (blk_later HK2.out HB_wv.out) i
    have l0 := blk_lt (blk_later HK0.out HB_wv.out)
    have l1 := blk_lt (blk_later HK1.out HB_wv.out)
    have l2 := blk_lt (blk_later HK2.out HB_wv.out)
    have fz := fun i => blk_frozen (blk_later HK2.out HB_wv.out) i
    go_wp2_with fail
    refine (HM.out _).mono ?_
    rintro e wm ⟨rfl, rfl⟩
    go_wp2_with fail
    refine (HM.out _).mono ?_
    rintro e wm2 ⟨rfl, rfl⟩
    go_wp2_with fail
    refine (L1.out _ (HT.out.below HB_wv.out) (HV.out.later HB_wv.out)).mono ?_
    rintro e wb ⟨rfl, hb⟩
    have HB_wb := hidden (bthen HB_wv.out hb)
    clear hb c0 c1 c2' l0 l1 l2 fz
    have c0 := fun i => blk_cell (blk_later HK0.out HB_wb.out) i
    have c1 := fun i => blk_cell (blk_later HK1.out HB_wb.out) i
    have c2' := fun i => blk_cell (blk_later HK2.out HB_wb.out) i
    have l0 := blk_lt (blk_later HK0.out HB_wb.out)
    have l1 := blk_lt (blk_later HK1.out HB_wb.out)
    have l2 := blk_lt (blk_later HK2.out HB_wb.out)
    have fz := fun i => blk_frozen (blk_later HK2.out HB_wb.out) i
    go_wp2_with fail
    refine (E2.out _ (HT.out.below HB_wb.out) (HV.out.later HB_wb.out)).mono ?_
    rintro e wc ⟨rfl, hb⟩
    have HB_wc := hidden (bthen HB_wb.out hb)
    clear hb c0 c1 c2' l0 l1 l2 fz
    have c0 := fun i => blk_cell (blk_later HK0.out HB_wc.out) i
    have c1 := fun i => blk_cell (blk_later HK1.out HB_wc.out) i
    have c2' := fun i => blk_cell (blk_later HK2.out HB_wc.out) i
    have l0 := blk_lt (blk_later HK0.out HB_wc.out)
    have l1 := blk_lt (blk_later HK1.out HB_wc.out)
    have l2 := blk_lt (blk_later HK2.out HB_wc.out)
    have fz := fun i => blk_frozen (blk_later HK2.out HB_wc.out) i
    go_wp2
    obtain ⟨r0, r1⟩ := read2T (blk_later HK2.out HB_wc.out) (.int .i64 ls) (.bool en)
    exact bodyPost_ret (v := .agg #[.int .i64 ls, .bool en]) (by simp [results, Try.results107, go_sem, r0, r1]) rfl ⟨rfl, below2T (bthen HB0.out HB_wc.out) (by omega) _ _⟩
  · obtain rfl := s2 rfl
    clear s0 s1 s2 M1 L1 E1
    by_cases hq : q = 2
    · have g1 : (q == 2) = true := by simp [hq]
      rw [ot (.inl hq)]
      generalize toldF k = tk at *
      clear ot os
      go_enter Try.func107, Try.ntmps107
      go_wp2_with fail
      generalize (((w.alloc (.cells #[.int .i64 n, .int .i64 f, .int .i64 d, .int .i64 p, .int .i64 r, .int .i64 dr, .int .i64 o, .int .i64 sl, .int .i64 md, .int .i64 fr, .slice ad zs.length cap] 24)).alloc (.cells #[.int .i64 bv, .bool bs] 108)).alloc (.cells #[.int .i64 0, .bool false] 108)) = W0 at *
      refine (VA.out _).mono ?_
      rintro e wv ⟨rfl, hb⟩
      have HB_wv := hidden (hb)
      clear hb
      have c0 := fun i => blk_cell (blk_later HK0.out HB_wv.out) i
      have c1 := fun i => blk_cell (blk_later HK1.out HB_wv.out) i
      have c2' := fun i => blk_cell (blk_later HK2.out HB_wv.out) i
      have l0 := blk_lt (blk_later HK0.out HB_wv.out)
      have l1 := blk_lt (blk_later HK1.out HB_wv.out)
      have l2 := blk_lt (blk_later HK2.out HB_wv.out)
      have fz := fun i => blk_frozen (blk_later HK2.out HB_wv.out) i
      go_wp2_with fail
      refine (HM.out _).mono ?_
      rintro e wm ⟨rfl, rfl⟩
      go_wp2_with fail
      refine (HM.out _).mono ?_
      rintro e wm2 ⟨rfl, rfl⟩
      go_wp2_with fail
      refine (TO.out _).mono ?_
      rintro e wt ⟨rfl, rfl⟩
      go_wp2
      obtain ⟨r0, r1⟩ := read2T (blk_later HK2.out HB_wv.out) (.int .i64 tk) (.bool false)
      exact bodyPost_ret (v := .agg #[.int .i64 tk, .bool false]) (by simp [results, Try.results107, go_sem, r0, r1]) rfl ⟨rfl, below2T (bthen HB0.out HB_wv.out) (by omega) _ _⟩
    · have g1 : (q == 2) = false := by simp [hq]
      cases bs
      · rw [ot (.inr rfl)]
        generalize toldF k = tk at *
        clear ot os
        go_enter Try.func107, Try.ntmps107
        go_wp2_with fail
        generalize (((w.alloc (.cells #[.int .i64 n, .int .i64 f, .int .i64 d, .int .i64 p, .int .i64 r, .int .i64 dr, .int .i64 o, .int .i64 sl, .int .i64 md, .int .i64 fr, .slice ad zs.length cap] 24)).alloc (.cells #[.int .i64 bv, .bool false] 108)).alloc (.cells #[.int .i64 0, .bool false] 108)) = W0 at *
        refine (VA.out _).mono ?_
        rintro e wv ⟨rfl, hb⟩
        have HB_wv := hidden (hb)
        clear hb
        have c0 := fun i => blk_cell (blk_later HK0.out HB_wv.out) i
        have c1 := fun i => blk_cell (blk_later HK1.out HB_wv.out) i
        have c2' := fun i => blk_cell (blk_later HK2.out HB_wv.out) i
        have l0 := blk_lt (blk_later HK0.out HB_wv.out)
        have l1 := blk_lt (blk_later HK1.out HB_wv.out)
        have l2 := blk_lt (blk_later HK2.out HB_wv.out)
        have fz := fun i => blk_frozen (blk_later HK2.out HB_wv.out) i
        go_wp2_with fail
        refine (HM.out _).mono ?_
        rintro e wm ⟨rfl, rfl⟩
        go_wp2_with fail
        refine (HM.out _).mono ?_
        rintro e wm2 ⟨rfl, rfl⟩
        go_wp2_with fail
        refine (TO.out _).mono ?_
        rintro e wt ⟨rfl, rfl⟩
        go_wp2
        obtain ⟨r0, r1⟩ := read2T (blk_later HK2.out HB_wv.out) (.int .i64 tk) (.bool false)
        exact bodyPost_ret (v := .agg #[.int .i64 tk, .bool false]) (by simp [results, Try.results107, go_sem, r0, r1]) rfl ⟨rfl, below2T (bthen HB0.out HB_wv.out) (by omega) _ _⟩
      · rw [os hq rfl]
        clear ot os TO
        go_enter Try.func107, Try.ntmps107
        go_wp2_with fail
        generalize (((w.alloc (.cells #[.int .i64 n, .int .i64 f, .int .i64 d, .int .i64 p, .int .i64 r, .int .i64 dr, .int .i64 o, .int .i64 sl, .int .i64 md, .int .i64 fr, .slice ad zs.length cap] 24)).alloc (.cells #[.int .i64 bv, .bool true] 108)).alloc (.cells #[.int .i64 0, .bool false] 108)) = W0 at *
        refine (VA.out _).mono ?_
        rintro e wv ⟨rfl, hb⟩
        have HB_wv := hidden (hb)
        clear hb
        have c0 := fun i => blk_cell (blk_later HK0.out HB_wv.out) i
        have c1 := fun i => blk_cell (blk_later HK1.out HB_wv.out) i
        have c2' := fun i => blk_cell (blk_later HK2.out HB_wv.out) i
        have l0 := blk_lt (blk_later HK0.out HB_wv.out)
        have l1 := blk_lt (blk_later HK1.out HB_wv.out)
        have l2 := blk_lt (blk_later HK2.out HB_wv.out)
        have fz := fun i => blk_frozen (blk_later HK2.out HB_wv.out) i
        go_wp2_with fail
        refine (HM.out _).mono ?_
        rintro e wm ⟨rfl, rfl⟩
        go_wp2_with fail
        refine (HM.out _).mono ?_
        rintro e wm2 ⟨rfl, rfl⟩
        go_wp2
        obtain ⟨r0, r1⟩ := read2T (blk_later HK2.out HB_wv.out) (.int .i64 q) (.bool false)
        exact bodyPost_ret (v := .agg #[.int .i64 q, .bool false]) (by simp [results, Try.results107, go_sem, r0, r1]) rfl ⟨rfl, below2T (bthen HB0.out HB_wv.out) (by omega) _ _⟩
end Go.Proofs.Ytohgmliafidalaa
