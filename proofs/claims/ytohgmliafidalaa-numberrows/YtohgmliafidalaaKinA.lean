/- The calls Start, valueOf, obey, Step, Code and Read of package king return what plain functions give, and make at most new memory; conditions: the table and the votes lie where they say, and lengths and numbers fit int. -/
import Derived.Test.YtohgmliafidalaaKinM
import Derived.Test.YtohgmliafidalaaTalB
import Derived.Test.YtohgmliafidalaaSix
namespace Go.Proofs.Ytohgmliafidalaa
open Go.ChangeShapes Go.WideShapes Go.ChangeAt Go.RowKit
set_option linter.unusedVariables false
attribute [local go_sem] cell_rg

theorem set2T {w : World} {b : Nat} {z0 z1 : Value} {t : TypeId} (h : w.heap[b]? = some (.cells #[z0, z1] t (0, 0))) (v0 v1 : Value) :
    ((w.setCell ⟨b, 0, none⟩ v0).setCell ⟨b, 1, none⟩ v1).heap[b]? = some (.cells #[v0, v1] t (0, 0)) := by
  have h1 := heap_setCell_same _ b 0 _ _ v0 h
  have h2 := heap_setCell_same _ b 1 _ _ v1 h1
  simpa using h2
theorem read2T {w : World} {b : Nat} {z0 z1 : Value} {t : TypeId} (h : w.heap[b]? = some (.cells #[z0, z1] t (0, 0))) (v0 v1 : Value) :
    ((w.setCell ⟨b, 0, none⟩ v0).setCell ⟨b, 1, none⟩ v1).cell? ⟨b, 0, none⟩ = some v0 ∧ ((w.setCell ⟨b, 0, none⟩ v0).setCell ⟨b, 1, none⟩ v1).cell? ⟨b, 1, none⟩ = some v1 := by
  have h2 := set2T h v0 v1
  refine ⟨?_, ?_⟩ <;> simp only [World.cell?, h2] <;> rfl
theorem below2T {B : Nat} {a w : World} {b : Nat} (h : Below B a w) (hp : B ≤ b) (v0 v1 : Value) : Below B a ((w.setCell ⟨b, 0, none⟩ v0).setCell ⟨b, 1, none⟩ v1) :=
  (h.setCell (p := ⟨b, 0, none⟩) hp _).setCell (p := ⟨b, 1, none⟩) hp _
theorem Start_any (z : Int) (w : World) :
    Calls Try.prog 96 #[.int .i64 z] w fun e w' => e = .returned (agB (startF z)) ∧ Below w.heap.size w w' := by
  by_cases h : z = 1
  · subst h
    go_enter Try.func96, Try.ntmps96
    go_wp2
    exact bodyPost_ret (v := .agg #[.int .i64 1, .bool false]) (by simp [results, Try.results96, go_sem]) rfl ⟨rfl, ballc _ _⟩
  · have e : startF z = (0, false) := if_neg h
    rw [e]
    have e2 : (z == 1) = false := by simp [h]
    go_enter Try.func96, Try.ntmps96
    go_wp2
    exact bodyPost_ret (v := .agg #[.int .i64 0, .bool false]) (by simp [results, Try.results96, go_sem]) rfl ⟨rfl, ballc _ _⟩
theorem valueOf_any (b : Int × Bool) (w : World) :
    Calls Try.prog 120 #[.agg #[.int .i64 b.1, .bool b.2]] w fun e w' => e = .returned (.int .i64 (valF b)) ∧ Below w.heap.size w w' := by
  obtain ⟨v, s⟩ := b
  by_cases h : v < 0
  · rw [valF_lo h]
    have e1 : decide (v < 0) = true := decide_eq_true h
    go_enter Try.func120, Try.ntmps120
    go_wp2
    go_ret
    exact ⟨rfl, ballc _ _⟩
  · have e1 : decide (v < 0) = false := decide_eq_false h
    by_cases h2 : 3 ≤ v
    · rw [valF_hi h h2]
      have e2 : decide (3 ≤ v) = true := decide_eq_true h2
      go_enter Try.func120, Try.ntmps120
      go_wp2
      go_ret
      exact ⟨rfl, ballc _ _⟩
    · rw [valF_in h h2]
      have e2 : decide (3 ≤ v) = false := decide_eq_false h2
      go_enter Try.func120, Try.ntmps120
      go_wp2
      go_ret
      exact ⟨rfl, ballc _ _⟩
theorem Read_any (c : Int) (w : World) :
    Calls Try.prog 118 #[.int .i64 c] w fun e w' => e = .returned (agB (readK c)) ∧ Below w.heap.size w w' := by
  by_cases h : c < 0
  · have e : readK c = (2, false) := if_pos (.inl h)
    rw [e]
    have e1 : decide (c < 0) = true := decide_eq_true h
    go_enter Try.func118, Try.ntmps118
    go_wp2
    exact bodyPost_ret (v := .agg #[.int .i64 2, .bool false]) (by simp [results, Try.results118, go_sem]) rfl ⟨rfl, ballc _ _⟩
  · have e1 : decide (c < 0) = false := decide_eq_false h
    by_cases h2 : 6 ≤ c
    · have e : readK c = (2, false) := if_pos (.inr h2)
      rw [e]
      have e2 : decide (6 ≤ c) = true := decide_eq_true h2
      go_enter Try.func118, Try.ntmps118
      go_wp2
      exact bodyPost_ret (v := .agg #[.int .i64 2, .bool false]) (by simp [results, Try.results118, go_sem]) rfl ⟨rfl, ballc _ _⟩
    · have e2 : decide (6 ≤ c) = false := decide_eq_false h2
      have e : readK c = (c.tmod 3, decide (3 ≤ c)) := if_neg (by omega)
      rw [e]
      have hc : c = 0 ∨ c = 1 ∨ c = 2 ∨ c = 3 ∨ c = 4 ∨ c = 5 := by omega
      clear e e1 e2 h h2
      rcases hc with rfl | rfl | rfl | rfl | rfl | rfl
      all_goals
        go_enter Try.func118, Try.ntmps118
        go_wp2
        refine bodyPost_ret (v := _) (by simp [results, Try.results118, go_sem]; rfl) rfl ⟨rfl, ?_⟩
        first | exact ballc _ _ | exact below2T (ballc _ _) (Nat.le_refl _) _ _
theorem Code_any (b : Int × Bool) (w : World) :
    Calls Try.prog 95 #[.agg #[.int .i64 b.1, .bool b.2]] w fun e w' => e = .returned (.int .i64 (codeF b)) ∧ Below w.heap.size w w' := by
  obtain ⟨v, s⟩ := b
  have HV := hidden (fun V => valueOf_any (v, s) V)
  have hq := valF_bd (v, s)
  cases s
  · have e : codeF (v, false) = valF (v, false) := if_neg (by simp)
    rw [e]
    generalize valF (v, false) = q at *
    go_enter Try.func95, Try.ntmps95
    go_wp2_with fail
    refine (HV.out _).mono ?_
    rintro e w2 ⟨rfl, hb⟩
    have HB := hidden (bthen (ballc w _) hb)
    clear hb
    go_wp2
    go_ret
    exact ⟨rfl, HB.out⟩
  · have e : codeF (v, true) = 3 + valF (v, true) := if_pos rfl
    rw [e]
    generalize valF (v, true) = q at *
    go_enter Try.func95, Try.ntmps95
    go_wp2_with fail
    refine (HV.out _).mono ?_
    rintro e w2 ⟨rfl, hb⟩
    have HB := hidden (bthen (ballc w _) hb)
    clear hb
    go_wp2
    go_ret
    exact ⟨rfl, HB.out⟩

theorem obey_any (b : Int × Bool) (k : Int) (w : World) :
    Calls Try.prog 144 #[.agg #[.int .i64 b.1, .bool b.2], .int .i64 k] w fun e w' => e = .returned (agB (obeyF b k)) ∧ Below w.heap.size w w' := by
  obtain ⟨v, s⟩ := b
  have HV := hidden (fun V => valueOf_any (v, s) V)
  have hs := obeyF_s (b := (v, s)) (k := k)
  have h1 := obeyF_1 (b := (v, s)) (k := k)
  have h0 := obeyF_0 (b := (v, s)) (k := k)
  dsimp only at hs h1 h0
  generalize valF (v, s) = q at *
  generalize obeyF (v, s) k = r at *
  by_cases hq : q = 2
  · subst hq
    by_cases hk : k = 1
    · obtain rfl := h1 (fun h => h.1 rfl) (.inl hk)
      subst hk
      clear hs h1 h0
      go_enter Try.func144, Try.ntmps144
      go_wp2_with fail
      refine (HV.out _).mono ?_
      rintro e w2 ⟨rfl, hb⟩
      have hk0 := blk_later (blk_later (blk_nw w _ _) (ballc _ (.cells #[.int .i64 0, .bool false] 108))) hb
      have hk1 := blk_later (blk_newAt (w.alloc (.cells #[.int .i64 v, .bool s] 108)) #[.int .i64 0, .bool false] 108 (b := w.heap.size + 1) (by simp)) hb
      have hc0 := fun i => blk_cell hk0 i
      have hc1 := fun i => blk_cell hk1 i
      have hop := fun i => blk_frozen hk1 i
      have hl0 := blk_lt hk0
      have hl1 := blk_lt hk1
      have HB := hidden (bthen (bthen (ballc w _) (ballc _ _)) hb)
      have HK := hidden hk1
      clear hb hk0 hk1 HV
      go_wp2
      obtain ⟨r0, r1⟩ := read2T HK.out (.int .i64 1) (.bool false)
      exact bodyPost_ret (v := .agg #[.int .i64 1, .bool false]) (by simp [results, Try.results144, go_sem, r0, r1]) rfl ⟨rfl, below2T HB.out (by omega) _ _⟩
    · have j1 : (k == 1) = false := by simp [hk]
      by_cases hk2 : k = 2
      · obtain rfl := h1 (fun h => h.1 rfl) (.inr hk2)
        subst hk2
        clear hs h1 h0 hk
        go_enter Try.func144, Try.ntmps144
        go_wp2_with fail
        refine (HV.out _).mono ?_
        rintro e w2 ⟨rfl, hb⟩
        have hk0 := blk_later (blk_later (blk_nw w _ _) (ballc _ (.cells #[.int .i64 0, .bool false] 108))) hb
        have hk1 := blk_later (blk_newAt (w.alloc (.cells #[.int .i64 v, .bool s] 108)) #[.int .i64 0, .bool false] 108 (b := w.heap.size + 1) (by simp)) hb
        have hc0 := fun i => blk_cell hk0 i
        have hc1 := fun i => blk_cell hk1 i
        have hop := fun i => blk_frozen hk1 i
        have hl0 := blk_lt hk0
        have hl1 := blk_lt hk1
        have HB := hidden (bthen (bthen (ballc w _) (ballc _ _)) hb)
        have HK := hidden hk1
        clear hb hk0 hk1 HV
        go_wp2
        obtain ⟨r0, r1⟩ := read2T HK.out (.int .i64 1) (.bool false)
        exact bodyPost_ret (v := .agg #[.int .i64 1, .bool false]) (by simp [results, Try.results144, go_sem, r0, r1]) rfl ⟨rfl, below2T HB.out (by omega) _ _⟩
      · have j2 : (k == 2) = false := by simp [hk2]
        obtain rfl := h0 (fun h => h.1 rfl) (by omega)
        clear hs h1 h0
        go_enter Try.func144, Try.ntmps144
        go_wp2_with fail
        refine (HV.out _).mono ?_
        rintro e w2 ⟨rfl, hb⟩
        have hk0 := blk_later (blk_later (blk_nw w _ _) (ballc _ (.cells #[.int .i64 0, .bool false] 108))) hb
        have hk1 := blk_later (blk_newAt (w.alloc (.cells #[.int .i64 v, .bool s] 108)) #[.int .i64 0, .bool false] 108 (b := w.heap.size + 1) (by simp)) hb
        have hc0 := fun i => blk_cell hk0 i
        have hc1 := fun i => blk_cell hk1 i
        have hop := fun i => blk_frozen hk1 i
        have hl0 := blk_lt hk0
        have hl1 := blk_lt hk1
        have HB := hidden (bthen (bthen (ballc w _) (ballc _ _)) hb)
        have HK := hidden hk1
        clear hb hk0 hk1 HV
        go_wp2
        obtain ⟨r0, r1⟩ := read2T HK.out (.int .i64 0) (.bool false)
        exact bodyPost_ret (v := .agg #[.int .i64 0, .bool false]) (by simp [results, Try.results144, go_sem, r0, r1]) rfl ⟨rfl, below2T HB.out (by omega) _ _⟩
  · have j0 : (q == 2) = false := by simp [hq]
    cases s
    · by_cases hk : k = 1
      · obtain rfl := h1 (fun h => by cases h.2) (.inl hk)
        subst hk
        clear hs h1 h0
        go_enter Try.func144, Try.ntmps144
        go_wp2_with fail
        refine (HV.out _).mono ?_
        rintro e w2 ⟨rfl, hb⟩
        have hk0 := blk_later (blk_later (blk_nw w _ _) (ballc _ (.cells #[.int .i64 0, .bool false] 108))) hb
        have hk1 := blk_later (blk_newAt (w.alloc (.cells #[.int .i64 v, .bool false] 108)) #[.int .i64 0, .bool false] 108 (b := w.heap.size + 1) (by simp)) hb
        have hc0 := fun i => blk_cell hk0 i
        have hc1 := fun i => blk_cell hk1 i
        have hop := fun i => blk_frozen hk1 i
        have hl0 := blk_lt hk0
        have hl1 := blk_lt hk1
        have HB := hidden (bthen (bthen (ballc w _) (ballc _ _)) hb)
        have HK := hidden hk1
        clear hb hk0 hk1 HV
        go_wp2
        obtain ⟨r0, r1⟩ := read2T HK.out (.int .i64 1) (.bool false)
        exact bodyPost_ret (v := .agg #[.int .i64 1, .bool false]) (by simp [results, Try.results144, go_sem, r0, r1]) rfl ⟨rfl, below2T HB.out (by omega) _ _⟩
      · have j1 : (k == 1) = false := by simp [hk]
        by_cases hk2 : k = 2
        · obtain rfl := h1 (fun h => by cases h.2) (.inr hk2)
          subst hk2
          clear hs h1 h0 hk
          go_enter Try.func144, Try.ntmps144
          go_wp2_with fail
          refine (HV.out _).mono ?_
          rintro e w2 ⟨rfl, hb⟩
          have hk0 := blk_later (blk_later (blk_nw w _ _) (ballc _ (.cells #[.int .i64 0, .bool false] 108))) hb
          have hk1 := blk_later (blk_newAt (w.alloc (.cells #[.int .i64 v, .bool false] 108)) #[.int .i64 0, .bool false] 108 (b := w.heap.size + 1) (by simp)) hb
          have hc0 := fun i => blk_cell hk0 i
          have hc1 := fun i => blk_cell hk1 i
          have hop := fun i => blk_frozen hk1 i
          have hl0 := blk_lt hk0
          have hl1 := blk_lt hk1
          have HB := hidden (bthen (bthen (ballc w _) (ballc _ _)) hb)
          have HK := hidden hk1
          clear hb hk0 hk1 HV
          go_wp2
          obtain ⟨r0, r1⟩ := read2T HK.out (.int .i64 1) (.bool false)
          exact bodyPost_ret (v := .agg #[.int .i64 1, .bool false]) (by simp [results, Try.results144, go_sem, r0, r1]) rfl ⟨rfl, below2T HB.out (by omega) _ _⟩
        · have j2 : (k == 2) = false := by simp [hk2]
          obtain rfl := h0 (fun h => by cases h.2) (by omega)
          clear hs h1 h0
          go_enter Try.func144, Try.ntmps144
          go_wp2_with fail
          refine (HV.out _).mono ?_
          rintro e w2 ⟨rfl, hb⟩
          have hk0 := blk_later (blk_later (blk_nw w _ _) (ballc _ (.cells #[.int .i64 0, .bool false] 108))) hb
          have hk1 := blk_later (blk_newAt (w.alloc (.cells #[.int .i64 v, .bool false] 108)) #[.int .i64 0, .bool false] 108 (b := w.heap.size + 1) (by simp)) hb
          have hc0 := fun i => blk_cell hk0 i
          have hc1 := fun i => blk_cell hk1 i
          have hop := fun i => blk_frozen hk1 i
          have hl0 := blk_lt hk0
          have hl1 := blk_lt hk1
          have HB := hidden (bthen (bthen (ballc w _) (ballc _ _)) hb)
          have HK := hidden hk1
          clear hb hk0 hk1 HV
          go_wp2
          obtain ⟨r0, r1⟩ := read2T HK.out (.int .i64 0) (.bool false)
          exact bodyPost_ret (v := .agg #[.int .i64 0, .bool false]) (by simp [results, Try.results144, go_sem, r0, r1]) rfl ⟨rfl, below2T HB.out (by omega) _ _⟩
    · obtain rfl := hs hq rfl
      clear hs h1 h0
      go_enter Try.func144, Try.ntmps144
      go_wp2_with fail
      refine (HV.out _).mono ?_
      rintro e w2 ⟨rfl, hb⟩
      have hk0 := blk_later (blk_later (blk_nw w _ _) (ballc _ (.cells #[.int .i64 0, .bool false] 108))) hb
      have hk1 := blk_later (blk_newAt (w.alloc (.cells #[.int .i64 v, .bool true] 108)) #[.int .i64 0, .bool false] 108 (b := w.heap.size + 1) (by simp)) hb
      have hc0 := fun i => blk_cell hk0 i
      have hc1 := fun i => blk_cell hk1 i
      have hop := fun i => blk_frozen hk1 i
      have hl0 := blk_lt hk0
      have hl1 := blk_lt hk1
      have HB := hidden (bthen (bthen (ballc w _) (ballc _ _)) hb)
      have HK := hidden hk1
      clear hb hk0 hk1 HV
      go_wp2
      obtain ⟨r0, r1⟩ := read2T HK.out (.int .i64 q) (.bool false)
      exact bodyPost_ret (v := .agg #[.int .i64 q, .bool false]) (by simp [results, Try.results144, go_sem, r0, r1]) rfl ⟨rfl, below2T HB.out (by omega) _ _⟩
set_option maxHeartbeats 2000000 in
theorem KStep_any (n f d p r dr o sl md fr : Int) (ad : Option Addr) (cap : Nat) (zs : List Int) (x : Int) (b : Int × Bool) (k : Int) (a2 : Option Addr) (len c2 : Nat) (vs : List Int) (w : World) (hl : zs.length ≤ 9223372036854775807) (hT : Tab w ad zs) (hx : (Lit.int .i64 x).wf = true) (hlv : vs.length ≤ 9223372036854775807) (hV : kInt.Lies w.heap.size w (.slice a2 len c2) vs) :
    Calls Try.prog 132 #[.agg #[.int .i64 n, .int .i64 f, .int .i64 d, .int .i64 p, .int .i64 r, .int .i64 dr, .int .i64 o, .int .i64 sl, .int .i64 md, .int .i64 fr, .slice ad zs.length cap], .int .i64 x, .agg #[.int .i64 b.1, .bool b.2], .int .i64 k, .slice a2 len c2] w fun e w' => e = .returned (agB (stepF (plainE n f d p r dr o sl md fr zs) n f x b k vs)) ∧ Below w.heap.size w w' := by
  have hB0 : Below w.heap.size w (((w.alloc (.cells #[.int .i64 n, .int .i64 f, .int .i64 d, .int .i64 p, .int .i64 r, .int .i64 dr, .int .i64 o, .int .i64 sl, .int .i64 md, .int .i64 fr, .slice ad zs.length cap] 24)).alloc (.cells #[.int .i64 b.1, .bool b.2] 108)).alloc (.cells #[.int .i64 0, .bool false] 108)) := bthen (bthen (ballc w _) (ballc _ _)) (ballc _ _)
  have HT := hidden (hT.below hB0)
  have HV := hidden (hV.later hB0)
  have hk0 := blk_later (blk_later (blk_nw w #[.int .i64 n, .int .i64 f, .int .i64 d, .int .i64 p, .int .i64 r, .int .i64 dr, .int .i64 o, .int .i64 sl, .int .i64 md, .int .i64 fr, .slice ad zs.length cap] 24) (ballc _ (.cells #[.int .i64 b.1, .bool b.2] 108))) (ballc _ (.cells #[.int .i64 0, .bool false] 108))
  have hk1 := blk_later (blk_newAt (w.alloc (.cells #[.int .i64 n, .int .i64 f, .int .i64 d, .int .i64 p, .int .i64 r, .int .i64 dr, .int .i64 o, .int .i64 sl, .int .i64 md, .int .i64 fr, .slice ad zs.length cap] 24)) #[.int .i64 b.1, .bool b.2] 108 (b := w.heap.size + 1) (by simp)) (ballc _ (.cells #[.int .i64 0, .bool false] 108))
  have hk2 := blk_newAt ((w.alloc (.cells #[.int .i64 n, .int .i64 f, .int .i64 d, .int .i64 p, .int .i64 r, .int .i64 dr, .int .i64 o, .int .i64 sl, .int .i64 md, .int .i64 fr, .slice ad zs.length cap] 24)).alloc (.cells #[.int .i64 b.1, .bool b.2] 108)) #[.int .i64 0, .bool false] 108 (b := w.heap.size + 2) (by simp)
  have HK0 := hidden hk0
  have HK1 := hidden hk1
  have HK2 := hidden hk2
  have HB0 := hidden hB0
  have M1 := hidden (fun V h h2 => Most_any n f d p r dr o sl md fr ad cap zs a2 len c2 vs V hl h hlv h2)
  have L1 := hidden (fun V h h2 => Least_any n f d p r dr o sl md fr ad cap zs (valF b) a2 len c2 vs V hl h hlv h2)
  have E1 := hidden (fun v V h h2 => Enough_any n f d p r dr o sl md fr ad cap zs v a2 len c2 vs V hl h hlv h2)
  have OB := hidden (fun V => obey_any b k V)
  have VA := hidden (fun V => valueOf_any b V)
  have HM := hidden (fun V => mod_any x 3 V hx rfl)
  have s0 := stepF_0 (E := plainE n f d p r dr o sl md fr zs) (n := n) (f := f) (x := x) (b := b) (k := k) (vs := vs)
  have s1 := stepF_1 (E := plainE n f d p r dr o sl md fr zs) (n := n) (f := f) (x := x) (b := b) (k := k) (vs := vs)
  have s2 := stepF_2 (E := plainE n f d p r dr o sl md fr zs) (n := n) (f := f) (x := x) (b := b) (k := k) (vs := vs)
  have h3 := modF3 x
  clear hT hV hB0 hk0 hk1 hk2
  generalize plainE n f d p r dr o sl md fr zs = E at *
  generalize stepF E n f x b k vs = r at *
  obtain ⟨bv, bs⟩ := b
  dsimp only at *
  generalize mostF E n f vs = ms at *
  generalize valF (bv, bs) = q at *
  generalize leastF E f q vs = ls at *
  generalize modF x 3 = m at *
  have hm : m = 0 ∨ m = 1 ∨ m = 2 := by omega
  clear h3 hx
  rcases hm with rfl | rfl | rfl
  · obtain rfl := s0 rfl
    clear s0 s1 s2 L1 E1 OB VA
    go_enter Try.func132, Try.ntmps132
    go_wp2_with fail
    refine (HM.out _).mono ?_
    rintro e wm ⟨rfl, rfl⟩
    generalize (((w.alloc (.cells #[.int .i64 n, .int .i64 f, .int .i64 d, .int .i64 p, .int .i64 r, .int .i64 dr, .int .i64 o, .int .i64 sl, .int .i64 md, .int .i64 fr, .slice ad zs.length cap] 24)).alloc (.cells #[.int .i64 bv, .bool bs] 108)).alloc (.cells #[.int .i64 0, .bool false] 108)) = W0 at *
    have c0 := fun i => blk_cell HK0.out i
    have c1 := fun i => blk_cell HK1.out i
    have c2' := fun i => blk_cell HK2.out i
    have l0 := blk_lt HK0.out
    have l1 := blk_lt HK1.out
    have l2 := blk_lt HK2.out
    have fz := fun i => blk_frozen HK2.out i
    go_wp2_with fail
    refine (M1.out _ HT.out HV.out).mono ?_
    rintro e wa ⟨rfl, hb⟩
    have HB_wa := hidden (hb)
    clear hb c0 c1 c2' l0 l1 l2 fz
    have c0 := fun i => blk_cell (blk_later HK0.out HB_wa.out) i
    have c1 := fun i => blk_cell (blk_later HK1.out HB_wa.out) i
    have c2' := fun i => blk_cell (blk_later HK2.out HB_wa.out) i
    have l0 := blk_lt (blk_later HK0.out HB_wa.out)
    have l1 := blk_lt (blk_later HK1.out HB_wa.out)
    have l2 := blk_lt (blk_later HK2.out HB_wa.out)
    have fz := fun i => blk_frozen (blk_later HK2.out HB_wa.out) i
    go_wp2
    obtain ⟨r0, r1⟩ := read2T (blk_later HK2.out HB_wa.out) (.int .i64 ms) (.bool false)
    exact bodyPost_ret (v := .agg #[.int .i64 ms, .bool false]) (by simp [results, Try.results132, go_sem, r0, r1]) rfl ⟨rfl, below2T (bthen HB0.out HB_wa.out) (by omega) _ _⟩
  · obtain rfl := s1 rfl
    clear s0 s1 s2 M1 OB
    have E2 := hidden (E1.out ls)
    clear E1
    generalize enoughB E n f ls vs = en at *
    go_enter Try.func132, Try.ntmps132
    go_wp2_with fail
    refine (HM.out _).mono ?_
    rintro e wm ⟨rfl, rfl⟩
    generalize (((w.alloc (.cells #[.int .i64 n, .int .i64 f, .int .i64 d, .int .i64 p, .int .i64 r, .int .i64 dr, .int .i64 o, .int .i64 sl, .int .i64 md, .int .i64 fr, .slice ad zs.length cap] 24)).alloc (.cells #[.int .i64 bv, .bool bs] 108)).alloc (.cells #[.int .i64 0, .bool false] 108)) = W0 at *
    have c0 := fun i => blk_cell HK0.out i
    have c1 := fun i => blk_cell HK1.out i
    have c2' := fun i => blk_cell HK2.out i
    have l0 := blk_lt HK0.out
    have l1 := blk_lt HK1.out
    have l2 := blk_lt HK2.out
    have fz := fun i => blk_frozen HK2.out i
    go_wp2_with fail
    refine wp_region_quiet_below (by kernel_rfl) (by kernel_rfl) ?_
    repeat (go_big_quiet_step (first
      | (go_at_call 120; exact Calls.regrown_of (VA.out _))
      | (go_at_call 142; exact Calls.regrown_of (L1.out _ (HT.out.below (below_regrown _ _ _)) (HV.out.later (below_regrown _ _ _))))))
    refine wpQuiet_nil ?_
    intro wb hwb
    have HB_wb := hidden (rg_below hwb)
    clear hwb c0 c1 c2' l0 l1 l2 fz
    have c0 := fun i => blk_cell (blk_later HK0.out HB_wb.out) i
    have c1 := fun i => blk_cell (blk_later HK1.out HB_wb.out) i
    have c2' := fun i => blk_cell (blk_later HK2.out HB_wb.out) i
    have l0 := blk_lt (blk_later HK0.out HB_wb.out)
    have l1 := blk_lt (blk_later HK1.out HB_wb.out)
    have l2 := blk_lt (blk_later HK2.out HB_wb.out)
    have fz := fun i => blk_frozen (blk_later HK2.out HB_wb.out) i
    go_wp2_with fail
    refine (E2.out _ (HT.out.below HB_wb.out) (HV.out.later HB_wb.out)).mono ?_
    rintro e wc ⟨rfl, hb⟩
    have HB_wc := hidden (bthen HB_wb.out hb)
    clear hb c0 c1 c2' l0 l1 l2 fz
    have c0 := fun i => blk_cell (blk_later HK0.out HB_wc.out) i
    have c1 := fun i => blk_cell (blk_later HK1.out HB_wc.out) i
    have c2' := fun i => blk_cell (blk_later HK2.out HB_wc.out) i
    have l0 := blk_lt (blk_later HK0.out HB_wc.out)
    have l1 := blk_lt (blk_later HK1.out HB_wc.out)
    have l2 := blk_lt (blk_later HK2.out HB_wc.out)
    have fz := fun i => blk_frozen (blk_later HK2.out HB_wc.out) i
    go_wp2
    obtain ⟨r0, r1⟩ := read2T (blk_later HK2.out HB_wc.out) (.int .i64 ls) (.bool en)
    exact bodyPost_ret (v := .agg #[.int .i64 ls, .bool en]) (by simp [results, Try.results132, go_sem, r0, r1]) rfl ⟨rfl, below2T (bthen HB0.out HB_wc.out) (by omega) _ _⟩
  · obtain rfl := s2 rfl
    clear s0 s1 s2 M1 L1 E1 VA
    generalize obeyF (bv, bs) k = r at *
    obtain ⟨rv, rs⟩ := r
    go_enter Try.func132, Try.ntmps132
    go_wp2_with fail
    refine (HM.out _).mono ?_
    rintro e wm ⟨rfl, rfl⟩
    generalize (((w.alloc (.cells #[.int .i64 n, .int .i64 f, .int .i64 d, .int .i64 p, .int .i64 r, .int .i64 dr, .int .i64 o, .int .i64 sl, .int .i64 md, .int .i64 fr, .slice ad zs.length cap] 24)).alloc (.cells #[.int .i64 bv, .bool bs] 108)).alloc (.cells #[.int .i64 0, .bool false] 108)) = W0 at *
    have c0 := fun i => blk_cell HK0.out i
    have c1 := fun i => blk_cell HK1.out i
    have c2' := fun i => blk_cell HK2.out i
    have l0 := blk_lt HK0.out
    have l1 := blk_lt HK1.out
    have l2 := blk_lt HK2.out
    have fz := fun i => blk_frozen HK2.out i
    go_wp2_with fail
    refine (OB.out _).mono ?_
    rintro e wa ⟨rfl, hb⟩
    have HB_wa := hidden (hb)
    clear hb c0 c1 c2' l0 l1 l2 fz
    have c0 := fun i => blk_cell (blk_later HK0.out HB_wa.out) i
    have c1 := fun i => blk_cell (blk_later HK1.out HB_wa.out) i
    have c2' := fun i => blk_cell (blk_later HK2.out HB_wa.out) i
    have l0 := blk_lt (blk_later HK0.out HB_wa.out)
    have l1 := blk_lt (blk_later HK1.out HB_wa.out)
    have l2 := blk_lt (blk_later HK2.out HB_wa.out)
    have fz := fun i => blk_frozen (blk_later HK2.out HB_wa.out) i
    unfold agB
    go_wp2
    obtain ⟨r0, r1⟩ := read2T (blk_later HK2.out HB_wa.out) (.int .i64 rv) (.bool rs)
    exact bodyPost_ret (v := .agg #[.int .i64 rv, .bool rs]) (by simp [results, Try.results132, go_sem, r0, r1]) rfl ⟨rfl, below2T (bthen HB0.out HB_wa.out) (by omega) _ _⟩
end Go.Proofs.Ytohgmliafidalaa
