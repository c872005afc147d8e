/- Several texts of one's own in one: what each proves, and its conditions, is said ahead of it. -/
import Derived.Test.YtkolhbacgoafcaaBh
import Derived.Test.YtkolhbacgoafcaaBa
import Derived.Test.YtkolhbacgoafcaaBd
import Derived.Test.YtkolhbacgoafcaaBg
import Derived.Test.YtkolhbacgoafcaaBe

/- A row of rows of texts that came in as an argument, opened: where they lie, and that their lengths fit int; no conditions. -/
namespace Go.Proofs.Ytkolhbacgoafcaa
open Go.ChangeShapes Go.WideShapes Go.ChangeAt Go.RowKit
set_option linter.unusedVariables false

/-- Rows of rows of texts: each with its place and its room. -/
def kSl : Kind (Option Addr × Nat × List ByteArray) := ⟨1, fun e => [.slice e.1 e.2.2.length e.2.1], fun _ => rfl, by intro a u hu; simp at hu; subst hu; rfl, by decide⟩
/-- What a row of texts among them is. -/
def RowIn (w : World) (e : Option Addr × Nat × List ByteArray) : Prop := kStr.Lies w.heap.size w (.slice e.1 e.2.2.length e.2.1) e.2.2 ∧ e.2.2.length ≤ 9223372036854775807 ∧ ∀ t ∈ e.2.2, t.size ≤ 9223372036854775807
def kSlz (w : World) : Kind { e : Option Addr × Nat × List ByteArray // RowIn w e } := ⟨1, fun e => [.slice e.1.1 e.1.2.2.length e.1.2.1], fun _ => rfl, by intro a u hu; simp at hu; subst hu; rfl, by decide⟩
theorem kSlz_flat (w : World) (l : List { e : Option Addr × Nat × List ByteArray // RowIn w e }) : (kSlz w).flat l = kSl.flat (l.map Subtype.val) := by
  induction l with
  | nil => rfl
  | cons a l ih => simp only [Kind.flat, List.flatMap_cons, List.map_cons] at ih ⊢; rw [ih]; rfl
section
variable {H : Type} {enc : TypeId × Value → H} {w : World} {base : Nat} {spare : Nat → Bool} {held : Bool}
theorem strz_rows {c : Value} {fuel : Nat} {y : DataW H × List MemPlace} (h : DataW.trod enc Try.prog w base spare held fuel 30 [c] = some y) :
    ∃ e, c = .slice e.1 e.2.2.length e.2.1 ∧ RowIn w e := by
  obtain ⟨ad, cap, es, rfl, hl, hE⟩ := kStrz.open_rows Try.underlying30 (by kernel_rfl) dec_strz h
  refine ⟨(ad, cap, es.map Subtype.val), by rw [List.length_map], ?_, by rw [List.length_map]; exact hl, ?_⟩
  · obtain ⟨ad', c, hv, h1, h2, h3, hc⟩ := hE
    refine ⟨ad', c, by rw [List.length_map]; exact hv, by rw [List.length_map]; exact h1, h2, h3, fun hj => ?_⟩
    rw [← kStrz_flat]
    exact hc (by simpa using hj)
  · intro t ht
    obtain ⟨q, _, rfl⟩ := List.mem_map.1 ht
    exact q.2
theorem dec_rowz (n : Nat) (cs : List Value) (y : DataW H × List MemPlace) (hl : cs.length = (kSlz w).k) (h : DataW.trod enc Try.prog w base spare held n 30 cs = some y) : ∃ a, cs = (kSlz w).enc a := by
  obtain ⟨c0, rfl⟩ : ∃ c0, cs = [c0] := by
    have h2 : cs.length = 1 := hl
    match cs, h2 with
    | [c0], _ => exact ⟨c0, rfl⟩
  obtain ⟨e, rfl, he⟩ := strz_rows h
  exact ⟨⟨e, he⟩, rfl⟩
set_option maxRecDepth 100000 in
theorem open_rowz {r : Reach} {b0 : Nat} {v : Value} {dt : DataW H} {ps : List MemPlace} (hv : Value.okWide Try.prog w r b0 35 v) (h : DataW.Trod enc Try.prog w base spare held 35 v dt ps) :
    ∃ (ad : Option Addr) (cap : Nat) (es : List (Option Addr × Nat × List ByteArray)), v = .slice ad es.length cap ∧ es.length ≤ 9223372036854775807 ∧ kSl.Lies w.heap.size w (.slice ad es.length cap) es ∧ ∀ e ∈ es, RowIn w e := by
  obtain ⟨ad, cap, es, rfl, hl, hE⟩ := (kSlz w).open_arg Try.underlying35 (by kernel_rfl) dec_rowz hv h
  refine ⟨ad, cap, es.map Subtype.val, by rw [List.length_map], by rw [List.length_map]; exact hl, ?_, ?_⟩
  · obtain ⟨ad', c, hv, h1, h2, h3, hc⟩ := hE
    refine ⟨ad', c, by rw [List.length_map]; exact hv, by rw [List.length_map]; exact h1, h2, h3, fun hj => ?_⟩
    rw [← kSlz_flat]
    exact hc (by simpa using hj)
  · intro t ht
    obtain ⟨q, _, rfl⟩ := List.mem_map.1 ht
    exact q.2
end
end Go.Proofs.Ytkolhbacgoafcaa

/- Plain mathematics: with few faulty nodes all others agree in the end of an instance, and keep what they share; no conditions but those in the theorems. -/
namespace Go.Proofs.Ytkolhbacgoafcaa
open Go.ChangeShapes Go.WideShapes Go.ChangeAt Go.RowKit
set_option linter.unusedVariables false

section
variable {fa : Nat → Bool} {lies : List Int} {N : Nat} {F : Nat}
/-- How many are faulty. -/
def facL (fa : Nat → Bool) (N : Nat) : Nat := (List.range N).countP fa
/-- A node's value. -/
def vlF (bs : List (Int × Bool)) (a : Nat) : Int := valF (bs.getD a (0, false))
/-- How many honest nodes have a value. -/
def hvL (fa : Nat → Bool) (N : Nat) (bs : List (Int × Bool)) (v : Int) : Nat := (List.range N).countP fun a => !fa a && decide (vlF bs a = v)
theorem countP_or {α : Type} (P R Q : α → Bool) (l : List α) (h : ∀ a ∈ l, Q a = true → P a = true ∨ R a = true) : l.countP Q ≤ l.countP P + l.countP R := by
  induction l with
  | nil => simp
  | cons a l ih =>
    have ih := ih fun b hb => h b (List.mem_cons_of_mem _ hb)
    have ha := h a List.mem_cons_self
    simp only [List.countP_cons]
    cases hQ : Q a <;> cases hP : P a <;> cases hR : R a <;> simp_all <;> omega
theorem cnt_votes (v : Int) (x t : Nat) (bs : List (Int × Bool)) : cntL v (votesL fa lies N x t bs) = (List.range N).countP fun a => decide (sayF fa lies N x t bs a = v) := by
  unfold cntL votesL
  rw [List.countP_map]
  rfl
theorem say_h {x t a : Nat} {bs : List (Int × Bool)} (h : fa a = false) : sayF fa lies N x t bs a = vlF bs a := if_neg (by rw [h]; decide)
theorem votes_lo (v : Int) (x t : Nat) (bs : List (Int × Bool)) : hvL fa N bs v ≤ cntL v (votesL fa lies N x t bs) := by
  rw [cnt_votes]
  apply List.countP_mono_left
  intro a _ h
  simp at h
  rw [say_h h.1]
  simp [h.2]
theorem votes_hi (v : Int) (x t : Nat) (bs : List (Int × Bool)) : cntL v (votesL fa lies N x t bs) ≤ hvL fa N bs v + facL fa N := by
  rw [cnt_votes]
  apply countP_or
  intro a _ h
  cases hf : fa a
  · rw [say_h hf] at h
    left; simpa using h
  · right; rfl
theorem hv_sum (bs : List (Int × Bool)) : hvL fa N bs 0 + hvL fa N bs 1 + hvL fa N bs 2 + facL fa N = N := by
  have key : ∀ l : List Nat, l.countP (fun a => !fa a && decide (vlF bs a = 0)) + l.countP (fun a => !fa a && decide (vlF bs a = 1)) + l.countP (fun a => !fa a && decide (vlF bs a = 2)) + l.countP fa = l.length := by
    intro l
    induction l with
    | nil => rfl
    | cons a l ih =>
      have hb := valF_bd (bs.getD a (0, false))
      have h3 : vlF bs a = 0 ∨ vlF bs a = 1 ∨ vlF bs a = 2 := by unfold vlF; omega
      simp only [List.countP_cons, List.length_cons]
      cases hf : fa a <;> rcases h3 with h | h | h <;> simp [h] <;> omega
  have := key (List.range N)
  rw [List.length_range] at this
  exact this
theorem hv_zero {bs : List (Int × Bool)} {v : Int} (h : ∀ a, a < N → fa a = false → vlF bs a ≠ v) : hvL fa N bs v = 0 := by
  unfold hvL
  rw [List.countP_eq_zero]
  intro a ha
  have := h a (List.mem_range.1 ha)
  cases hf : fa a <;> simp [hf] at this ⊢
  exact this
/-- All honest nodes have a value. -/
def ComV (fa : Nat → Bool) (N : Nat) (v : Int) (bs : List (Int × Bool)) : Prop := ∀ a, a < N → fa a = false → vlF bs a = v
theorem exch_at (x : Nat) (bs : List (Int × Bool)) (a : Nat) (ha : a < N) : (exchL fa lies N F x bs).getD a (0, false) = stepN fa lies N F x bs a := range_getD _ _ _ _ ha
theorem most_bd (n f : Int) (vs : List Int) : 0 ≤ mostF 0 n f vs ∧ mostF 0 n f vs ≤ 2 := by unfold mostF; repeat' split <;> omega
theorem least_bd (f now : Int) (vs : List Int) (h : 0 ≤ now ∧ now ≤ 2) : 0 ≤ leastF 0 f now vs ∧ leastF 0 f now vs ≤ 2 := by unfold leastF; repeat' split <;> omega
theorem ex0 {x : Nat} (hx : x % 3 = 0) (bs : List (Int × Bool)) (a : Nat) (ha : a < N) : vlF (exchL fa lies N F x bs) a = mostF 0 N F (votesL fa lies N x a bs) := by
  unfold vlF
  rw [exch_at x bs a ha]
  unfold stepN
  rw [stepF_0 (by rw [modF3_nat, hx]; rfl)]
  exact valF_same (most_bd _ _ _)
theorem ex1' {x : Nat} (hx : x % 3 = 1) (bs : List (Int × Bool)) (a : Nat) (ha : a < N) : (exchL fa lies N F x bs).getD a (0, false) = (leastF 0 F (vlF bs a) (votesL fa lies N x a bs), enoughB 0 N F (leastF 0 F (vlF bs a) (votesL fa lies N x a bs)) (votesL fa lies N x a bs)) := by
  rw [exch_at x bs a ha]
  unfold stepN
  rw [stepF_1 (by rw [modF3_nat, hx]; rfl)]
  rfl
theorem ex1 {x : Nat} (hx : x % 3 = 1) (bs : List (Int × Bool)) (a : Nat) (ha : a < N) : vlF (exchL fa lies N F x bs) a = leastF 0 F (vlF bs a) (votesL fa lies N x a bs) := by
  show valF _ = _
  rw [ex1' hx bs a ha]
  exact valF_same (least_bd _ _ _ (valF_bd _))
theorem ex2 {x : Nat} (hx : x % 3 = 2) (bs : List (Int × Bool)) (a : Nat) (ha : a < N) : (exchL fa lies N F x bs).getD a (0, false) = obeyF (bs.getD a (0, false)) ((votesL fa lies N x a bs).getD (x / 3) 0) := by
  rw [exch_at x bs a ha]
  unfold stepN
  rw [stepF_2 (by rw [modF3_nat, hx]; rfl)]
theorem com_hv {v : Int} {bs : List (Int × Bool)} (h : ComV fa N v bs) {u : Int} (hu : u ≠ v) : hvL fa N bs u = 0 := hv_zero fun a ha hf e => hu ((e.symm.trans (h a ha hf)))
/-- Exchange 0 keeps what all share. -/
theorem keep0 {v : Int} (hv : v = 0 ∨ v = 1) (hF : facL fa N ≤ F) (hN : 3 * F < N) {x : Nat} (hx : x % 3 = 0) {bs : List (Int × Bool)} (h : ComV fa N v bs) : ComV fa N v (exchL fa lies N F x bs) := by
  intro a ha hf
  rw [ex0 hx bs a ha]
  have s := hv_sum (fa := fa) (N := N) bs
  have l0 := votes_lo (fa := fa) (lies := lies) (N := N) 0 x a bs
  have l1 := votes_lo (fa := fa) (lies := lies) (N := N) 1 x a bs
  have u1 := votes_hi (fa := fa) (lies := lies) (N := N) 1 x a bs
  rcases hv with rfl | rfl
  · have z1 := com_hv h (u := 1) (by decide)
    have z2 := com_hv h (u := 2) (by decide)
    exact mostF_0 rfl (by omega) (by omega)
  · have z1 := com_hv h (u := 0) (by decide)
    have z2 := com_hv h (u := 2) (by decide)
    exact mostF_1 rfl (by omega)
theorem keep1 {v : Int} (hv : v = 0 ∨ v = 1) (hF : facL fa N ≤ F) (hN : 3 * F < N) {x : Nat} (hx : x % 3 = 1) {bs : List (Int × Bool)} (h : ComV fa N v bs) (a : Nat) (ha : a < N) : (exchL fa lies N F x bs).getD a (0, false) = (v, true) := by
  rw [ex1' hx bs a ha]
  have s := hv_sum (fa := fa) (N := N) bs
  have l0 := votes_lo (fa := fa) (lies := lies) (N := N) 0 x a bs
  have l1 := votes_lo (fa := fa) (lies := lies) (N := N) 1 x a bs
  have u0 := votes_hi (fa := fa) (lies := lies) (N := N) 0 x a bs
  rcases hv with rfl | rfl
  · have z1 := com_hv h (u := 1) (by decide)
    have z2 := com_hv h (u := 2) (by decide)
    rw [leastF_0 rfl (by omega)]
    rw [enoughB_ok rfl, cntF_in (by decide) (by decide)]
    exact Prod.ext rfl (decide_eq_true (by omega))
  · have z1 := com_hv h (u := 0) (by decide)
    have z2 := com_hv h (u := 2) (by decide)
    rw [leastF_1 rfl (by omega) (by omega)]
    rw [enoughB_ok rfl, cntF_in (by decide) (by decide)]
    exact Prod.ext rfl (decide_eq_true (by omega))
theorem keep2 {v : Int} (hv : v = 0 ∨ v = 1) {x : Nat} (hx : x % 3 = 2) {bs : List (Int × Bool)} (h : ∀ a, a < N → fa a = false → bs.getD a (0, false) = (v, true)) : ComV fa N v (exchL fa lies N F x bs) := by
  intro a ha hf
  unfold vlF
  rw [ex2 hx bs a ha, h a ha hf]
  have e : valF (v, true) = v := valF_same (by simp; omega)
  rw [obeyF_s (by rw [e]; omega) rfl, e]
  exact valF_same (by simp; omega)
/-- Behind exchange 0 honest nodes have one value, or do not know. -/
theorem ag0 (hF : facL fa N ≤ F) (hN : 3 * F < N) {x : Nat} (hx : x % 3 = 0) (bs : List (Int × Bool)) : ∃ v : Int, (v = 0 ∨ v = 1) ∧ ∀ a, a < N → fa a = false → vlF (exchL fa lies N F x bs) a = v ∨ vlF (exchL fa lies N F x bs) a = 2 := by
  have s := hv_sum (fa := fa) (N := N) bs
  by_cases h : ∃ a, a < N ∧ fa a = false ∧ vlF (exchL fa lies N F x bs) a = 1
  · obtain ⟨b, hb, hfb, h1⟩ := h
    rw [ex0 hx bs b hb] at h1
    have u1 := votes_hi (fa := fa) (lies := lies) (N := N) 1 x b bs
    have q1 : (N : Int) - F ≤ (cntL 1 (votesL fa lies N x b bs) : Int) := by
      by_cases k : (N : Int) - F ≤ (cntL 1 (votesL fa lies N x b bs) : Int)
      · exact k
      · by_cases k2 : (N : Int) - F ≤ (cntL 0 (votesL fa lies N x b bs) : Int)
        · rw [mostF_0 rfl k k2] at h1; cases h1
        · rw [mostF_2 rfl k k2] at h1; cases h1
    refine ⟨1, .inr rfl, fun a ha hf => ?_⟩
    rw [ex0 hx bs a ha]
    have u0 := votes_hi (fa := fa) (lies := lies) (N := N) 0 x a bs
    by_cases k : (N : Int) - F ≤ (cntL 1 (votesL fa lies N x a bs) : Int)
    · exact .inl (mostF_1 rfl k)
    · exact .inr (mostF_2 rfl k (by omega))
  · refine ⟨0, .inl rfl, fun a ha hf => ?_⟩
    have hb := valF_bd ((exchL fa lies N F x bs).getD a (0, false))
    have h1 : vlF (exchL fa lies N F x bs) a ≠ 1 := fun e => h ⟨a, ha, hf, e⟩
    unfold vlF at h1 ⊢
    omega
theorem ag1 {v : Int} (hv : v = 0 ∨ v = 1) (hF : facL fa N ≤ F) (hN : 3 * F < N) {x : Nat} (hx : x % 3 = 1) {bs : List (Int × Bool)} (h : ∀ a, a < N → fa a = false → vlF bs a = v ∨ vlF bs a = 2) :
    (∃ b, b < N ∧ fa b = false ∧ ((exchL fa lies N F x bs).getD b (0, false)).2 = true ∧ vlF (exchL fa lies N F x bs) b ≠ 2) → ComV fa N v (exchL fa lies N F x bs) := by
  have s := hv_sum (fa := fa) (N := N) bs
  rintro ⟨b, hb, hfb, hs, hn2⟩
  rw [ex1 hx bs b hb] at hn2
  rw [ex1' hx bs b hb] at hs
  simp only at hs
  have hbv := h b hb hfb
  have u0 := votes_hi (fa := fa) (lies := lies) (N := N) 0 x b bs
  have u1 := votes_hi (fa := fa) (lies := lies) (N := N) 1 x b bs
  rw [enoughB_ok rfl] at hs
  have hs := of_decide_eq_true hs
  rcases hv with rfl | rfl
  · have z1 : hvL fa N bs 1 = 0 := hv_zero fun a ha hf => by rcases h a ha hf with e | e <;> omega
    have e0 : leastF 0 F (vlF bs b) (votesL fa lies N x b bs) = 0 := by
      by_cases k : (F : Int) + 1 ≤ (cntL 0 (votesL fa lies N x b bs) : Int)
      · exact leastF_0 rfl k
      · by_cases k2 : (F : Int) + 1 ≤ (cntL 2 (votesL fa lies N x b bs) : Int)
        · exact absurd (leastF_2 rfl k (by omega) k2) hn2
        · have e := leastF_n (now := vlF bs b) rfl k (by omega) k2
          rw [e] at hn2 ⊢
          omega
    rw [e0, cntF_in (by decide) (by decide)] at hs
    intro a ha hf
    rw [ex1 hx bs a ha]
    have l0 := votes_lo (fa := fa) (lies := lies) (N := N) 0 x a bs
    exact leastF_0 rfl (by omega)
  · have z1 : hvL fa N bs 0 = 0 := hv_zero fun a ha hf => by rcases h a ha hf with e | e <;> omega
    have e0 : leastF 0 F (vlF bs b) (votesL fa lies N x b bs) = 1 := by
      by_cases k : (F : Int) + 1 ≤ (cntL 1 (votesL fa lies N x b bs) : Int)
      · exact leastF_1 rfl (by omega) k
      · by_cases k2 : (F : Int) + 1 ≤ (cntL 2 (votesL fa lies N x b bs) : Int)
        · exact absurd (leastF_2 rfl (by omega) k k2) hn2
        · have e := leastF_n (now := vlF bs b) rfl (by omega) k k2
          rw [e] at hn2 ⊢
          omega
    rw [e0, cntF_in (by decide) (by decide)] at hs
    intro a ha hf
    rw [ex1 hx bs a ha]
    have l1 := votes_lo (fa := fa) (lies := lies) (N := N) 1 x a bs
    have u0' := votes_hi (fa := fa) (lies := lies) (N := N) 0 x a bs
    exact leastF_1 rfl (by omega) (by omega)
theorem king_vote {x : Nat} (hk : x / 3 < N) (hfk : fa (x / 3) = false) (bs : List (Int × Bool)) (a : Nat) : (votesL fa lies N x a bs).getD (x / 3) 0 = vlF bs (x / 3) := by
  unfold votesL
  rw [range_getD _ _ _ _ hk, say_h hfk]
theorem ag2 {v : Int} (hv : v = 0 ∨ v = 1) {x : Nat} (hx : x % 3 = 2) (hk : x / 3 < N) (hfk : fa (x / 3) = false) {bs : List (Int × Bool)} (hs : (∃ b, b < N ∧ fa b = false ∧ (bs.getD b (0, false)).2 = true ∧ vlF bs b ≠ 2) → ComV fa N v bs) : ∃ u : Int, (u = 0 ∨ u = 1) ∧ ComV fa N u (exchL fa lies N F x bs) := by
  by_cases h : ∃ b, b < N ∧ fa b = false ∧ (bs.getD b (0, false)).2 = true ∧ vlF bs b ≠ 2
  · have hc := hs h
    refine ⟨v, hv, fun a ha hf => ?_⟩
    unfold vlF
    rw [ex2 hx bs a ha, king_vote hk hfk, hc _ hk hfk]
    have e := hc a ha hf
    unfold vlF at e
    by_cases k : valF (bs.getD a (0, false)) ≠ 2 ∧ (bs.getD a (0, false)).2 = true
    · rw [obeyF_s k.1 k.2, e]
      exact valF_same (by simp; omega)
    · rcases hv with rfl | rfl
      · rw [obeyF_0 k (by decide)]; rfl
      · rw [obeyF_1 k (by decide)]; rfl
  · by_cases hq : vlF bs (x / 3) = 1 ∨ vlF bs (x / 3) = 2
    · refine ⟨1, .inr rfl, fun a ha hf => ?_⟩
      unfold vlF
      rw [ex2 hx bs a ha, king_vote hk hfk, obeyF_1 (fun k => h ⟨a, ha, hf, k.2, k.1⟩) hq]
      rfl
    · refine ⟨0, .inl rfl, fun a ha hf => ?_⟩
      unfold vlF
      rw [ex2 hx bs a ha, king_vote hk hfk, obeyF_0 (fun k => h ⟨a, ha, hf, k.2, k.1⟩) hq]
      rfl
variable {bits : List Int}
theorem play_step (x : Nat) : playL fa lies N F bits (x + 1) = exchL fa lies N F x (playL fa lies N F bits x) := rfl
theorem keep_phase {v : Int} (hv : v = 0 ∨ v = 1) (hF : facL fa N ≤ F) (hN : 3 * F < N) (m : Nat) (h : ComV fa N v (playL fa lies N F bits (3 * m))) : ComV fa N v (playL fa lies N F bits (3 * (m + 1))) := by
  rw [show 3 * (m + 1) = 3 * m + 1 + 1 + 1 by omega, play_step, play_step, play_step]
  exact keep2 hv (by omega) fun a ha hf => keep1 hv hF hN (by omega) (keep0 hv hF hN (by omega) h) a ha
theorem agree_phase (hF : facL fa N ≤ F) (hN : 3 * F < N) (m : Nat) (hm : m < N) (hfm : fa m = false) : ∃ u : Int, (u = 0 ∨ u = 1) ∧ ComV fa N u (playL fa lies N F bits (3 * (m + 1))) := by
  rw [show 3 * (m + 1) = 3 * m + 1 + 1 + 1 by omega, play_step, play_step, play_step]
  obtain ⟨v, hv, h0⟩ := ag0 (lies := lies) hF hN (x := 3 * m) (by omega) (playL fa lies N F bits (3 * m))
  have e : (3 * m + 1 + 1) / 3 = m := by omega
  exact ag2 hv (by omega) (by rw [e]; exact hm) (by rw [e]; exact hfm) (ag1 hv hF hN (by omega) h0)
theorem keep_all {v : Int} (hv : v = 0 ∨ v = 1) (hF : facL fa N ≤ F) (hN : 3 * F < N) {m : Nat} (h : ComV fa N v (playL fa lies N F bits (3 * m))) (k : Nat) : ComV fa N v (playL fa lies N F bits (3 * (m + k))) := by
  induction k with
  | zero => exact h
  | succ k ih => exact keep_phase hv hF hN (m + k) ih
theorem one_honest (hF : facL fa N ≤ F) (hN : 3 * F < N) : ∃ m, m ≤ F ∧ fa m = false := by
  by_cases h : ∃ m, m ≤ F ∧ fa m = false
  · exact h
  · exfalso
    have hall : ∀ a ∈ List.range (F + 1), fa a = true := fun a ha => by
      have := List.mem_range.1 ha
      cases e : fa a
      · exact absurd ⟨a, by omega, e⟩ h
      · rfl
    have h1 : (List.range (F + 1)).countP fa = (List.range (F + 1)).length := List.countP_eq_length.2 hall
    rw [List.length_range] at h1
    have h2 : (List.range (F + 1)).countP fa ≤ (List.range N).countP fa := by
      apply List.Sublist.countP_le
      exact List.range_sublist.2 (by omega)
    unfold facL at hF
    omega
/-- All honest nodes agree in the end. -/
theorem agree_all (hF : facL fa N ≤ F) (hN : 3 * F < N) : ∃ u : Int, (u = 0 ∨ u = 1) ∧ ComV fa N u (playL fa lies N F bits (3 * (F + 1))) := by
  obtain ⟨m, hm, hfm⟩ := one_honest hF hN
  obtain ⟨u, hu, h⟩ := agree_phase (lies := lies) (bits := bits) hF hN m (by omega) hfm
  refine ⟨u, hu, ?_⟩
  have := keep_all hu hF hN h (F - m)
  rwa [show m + 1 + (F - m) = F + 1 by omega] at this
/-- What all honest nodes begin with, they have in the end. -/
theorem keep_end {v : Int} (hv : v = 0 ∨ v = 1) (hF : facL fa N ≤ F) (hN : 3 * F < N) (h : ∀ a, a < N → fa a = false → bits.getD a 0 = v) : ComV fa N v (playL fa lies N F bits (3 * (F + 1))) := by
  have h0 : ComV fa N v (playL fa lies N F bits (3 * 0)) := by
    intro a ha hf
    show valF ((startL N bits).getD a (0, false)) = v
    unfold startL
    rw [range_getD _ _ _ _ ha, h a ha hf]
    rcases hv with rfl | rfl <;> rfl
  have := keep_all hv hF hN h0 (F + 1)
  rwa [Nat.zero_add] at this
end
end Go.Proofs.Ytkolhbacgoafcaa

/- Plain mathematics: with few faulty nodes all others agree in the end of an instance, whatever faulty ones tell (any function), and keep what they share; no conditions but those in the theorems. -/
namespace Go.Proofs.Ytkolhbacgoafcaa
open Go.ChangeShapes Go.WideShapes Go.ChangeAt Go.RowKit
set_option linter.unusedVariables false

/-- What a node tells another one, faulty ones whatever they like. -/
def sayG (fa : Nat → Bool) (lie : Nat → Nat → Nat → Int) (x t : Nat) (bs : List (Int × Bool)) (a : Nat) : Int := if fa a = true then lie x a t else valF (bs.getD a (0, false))
def votesG (fa : Nat → Bool) (lie : Nat → Nat → Nat → Int) (N x t : Nat) (bs : List (Int × Bool)) : List Int := (List.range N).map (sayG fa lie x t bs)
def stepG (fa : Nat → Bool) (lie : Nat → Nat → Nat → Int) (N : Nat) (f : Int) (x : Nat) (bs : List (Int × Bool)) (t : Nat) : Int × Bool := stepF 0 N f x (bs.getD t (0, false)) ((votesG fa lie N x t bs).getD (x / 3) 0) (votesG fa lie N x t bs)
def exchG (fa : Nat → Bool) (lie : Nat → Nat → Nat → Int) (N : Nat) (f : Int) (x : Nat) (bs : List (Int × Bool)) : List (Int × Bool) := (List.range N).map (stepG fa lie N f x bs)
def playG (fa : Nat → Bool) (lie : Nat → Nat → Nat → Int) (N : Nat) (f : Int) (bs0 : List (Int × Bool)) : Nat → List (Int × Bool)
  | 0 => bs0
  | x + 1 => exchG fa lie N f x (playG fa lie N f bs0 x)
section
variable {fa : Nat → Bool} {lie : Nat → Nat → Nat → Int} {N : Nat} {F : Nat}
theorem cnt_votesG (v : Int) (x t : Nat) (bs : List (Int × Bool)) : cntL v (votesG fa lie N x t bs) = (List.range N).countP fun a => decide (sayG fa lie x t bs a = v) := by
  unfold cntL votesG
  rw [List.countP_map]
  rfl
theorem say_hG {x t a : Nat} {bs : List (Int × Bool)} (h : fa a = false) : sayG fa lie x t bs a = vlF bs a := if_neg (by rw [h]; decide)
theorem votes_loG (v : Int) (x t : Nat) (bs : List (Int × Bool)) : hvL fa N bs v ≤ cntL v (votesG fa lie N x t bs) := by
  rw [cnt_votesG]
  apply List.countP_mono_left
  intro a _ h
  simp at h
  rw [say_hG h.1]
  simp [h.2]
theorem votes_hiG (v : Int) (x t : Nat) (bs : List (Int × Bool)) : cntL v (votesG fa lie N x t bs) ≤ hvL fa N bs v + facL fa N := by
  rw [cnt_votesG]
  apply countP_or
  intro a _ h
  cases hf : fa a
  · rw [say_hG hf] at h
    left; simpa using h
  · right; rfl
theorem exch_atG (x : Nat) (bs : List (Int × Bool)) (a : Nat) (ha : a < N) : (exchG fa lie N F x bs).getD a (0, false) = stepG fa lie N F x bs a := range_getD _ _ _ _ ha
theorem ex0G {x : Nat} (hx : x % 3 = 0) (bs : List (Int × Bool)) (a : Nat) (ha : a < N) : vlF (exchG fa lie N F x bs) a = mostF 0 N F (votesG fa lie N x a bs) := by
  unfold vlF
  rw [exch_atG x bs a ha]
  unfold stepG
  rw [stepF_0 (by rw [modF3_nat, hx]; rfl)]
  exact valF_same (most_bd _ _ _)
theorem ex1G' {x : Nat} (hx : x % 3 = 1) (bs : List (Int × Bool)) (a : Nat) (ha : a < N) : (exchG fa lie N F x bs).getD a (0, false) = (leastF 0 F (vlF bs a) (votesG fa lie N x a bs), enoughB 0 N F (leastF 0 F (vlF bs a) (votesG fa lie N x a bs)) (votesG fa lie N x a bs)) := by
  rw [exch_atG x bs a ha]
  unfold stepG
  rw [stepF_1 (by rw [modF3_nat, hx]; rfl)]
  rfl
theorem ex1G {x : Nat} (hx : x % 3 = 1) (bs : List (Int × Bool)) (a : Nat) (ha : a < N) : vlF (exchG fa lie N F x bs) a = leastF 0 F (vlF bs a) (votesG fa lie N x a bs) := by
  show valF _ = _
  rw [ex1G' hx bs a ha]
  exact valF_same (least_bd _ _ _ (valF_bd _))
theorem ex2G {x : Nat} (hx : x % 3 = 2) (bs : List (Int × Bool)) (a : Nat) (ha : a < N) : (exchG fa lie N F x bs).getD a (0, false) = obeyF (bs.getD a (0, false)) ((votesG fa lie N x a bs).getD (x / 3) 0) := by
  rw [exch_atG x bs a ha]
  unfold stepG
  rw [stepF_2 (by rw [modF3_nat, hx]; rfl)]
/-- Exchange 0 keeps what all share. -/
theorem keep0G {v : Int} (hv : v = 0 ∨ v = 1) (hF : facL fa N ≤ F) (hN : 3 * F < N) {x : Nat} (hx : x % 3 = 0) {bs : List (Int × Bool)} (h : ComV fa N v bs) : ComV fa N v (exchG fa lie N F x bs) := by
  intro a ha hf
  rw [ex0G hx bs a ha]
  have s := hv_sum (fa := fa) (N := N) bs
  have l0 := votes_loG (fa := fa) (lie := lie) (N := N) 0 x a bs
  have l1 := votes_loG (fa := fa) (lie := lie) (N := N) 1 x a bs
  have u1 := votes_hiG (fa := fa) (lie := lie) (N := N) 1 x a bs
  rcases hv with rfl | rfl
  · have z1 := com_hv h (u := 1) (by decide)
    have z2 := com_hv h (u := 2) (by decide)
    exact mostF_0 rfl (by omega) (by omega)
  · have z1 := com_hv h (u := 0) (by decide)
    have z2 := com_hv h (u := 2) (by decide)
    exact mostF_1 rfl (by omega)
theorem keep1G {v : Int} (hv : v = 0 ∨ v = 1) (hF : facL fa N ≤ F) (hN : 3 * F < N) {x : Nat} (hx : x % 3 = 1) {bs : List (Int × Bool)} (h : ComV fa N v bs) (a : Nat) (ha : a < N) : (exchG fa lie N F x bs).getD a (0, false) = (v, true) := by
  rw [ex1G' hx bs a ha]
  have s := hv_sum (fa := fa) (N := N) bs
  have l0 := votes_loG (fa := fa) (lie := lie) (N := N) 0 x a bs
  have l1 := votes_loG (fa := fa) (lie := lie) (N := N) 1 x a bs
  have u0 := votes_hiG (fa := fa) (lie := lie) (N := N) 0 x a bs
  rcases hv with rfl | rfl
  · have z1 := com_hv h (u := 1) (by decide)
    have z2 := com_hv h (u := 2) (by decide)
    rw [leastF_0 rfl (by omega)]
    rw [enoughB_ok rfl, cntF_in (by decide) (by decide)]
    exact Prod.ext rfl (decide_eq_true (by omega))
  · have z1 := com_hv h (u := 0) (by decide)
    have z2 := com_hv h (u := 2) (by decide)
    rw [leastF_1 rfl (by omega) (by omega)]
    rw [enoughB_ok rfl, cntF_in (by decide) (by decide)]
    exact Prod.ext rfl (decide_eq_true (by omega))
theorem keep2G {v : Int} (hv : v = 0 ∨ v = 1) {x : Nat} (hx : x % 3 = 2) {bs : List (Int × Bool)} (h : ∀ a, a < N → fa a = false → bs.getD a (0, false) = (v, true)) : ComV fa N v (exchG fa lie N F x bs) := by
  intro a ha hf
  unfold vlF
  rw [ex2G hx bs a ha, h a ha hf]
  have e : valF (v, true) = v := valF_same (by simp; omega)
  rw [obeyF_s (by rw [e]; omega) rfl, e]
  exact valF_same (by simp; omega)
/-- Behind exchange 0 honest nodes have one value, or do not know. -/
theorem ag0G (hF : facL fa N ≤ F) (hN : 3 * F < N) {x : Nat} (hx : x % 3 = 0) (bs : List (Int × Bool)) : ∃ v : Int, (v = 0 ∨ v = 1) ∧ ∀ a, a < N → fa a = false → vlF (exchG fa lie N F x bs) a = v ∨ vlF (exchG fa lie N F x bs) a = 2 := by
  have s := hv_sum (fa := fa) (N := N) bs
  by_cases h : ∃ a, a < N ∧ fa a = false ∧ vlF (exchG fa lie N F x bs) a = 1
  · obtain ⟨b, hb, hfb, h1⟩ := h
    rw [ex0G hx bs b hb] at h1
    have u1 := votes_hiG (fa := fa) (lie := lie) (N := N) 1 x b bs
    have q1 : (N : Int) - F ≤ (cntL 1 (votesG fa lie N x b bs) : Int) := by
      by_cases k : (N : Int) - F ≤ (cntL 1 (votesG fa lie N x b bs) : Int)
      · exact k
      · by_cases k2 : (N : Int) - F ≤ (cntL 0 (votesG fa lie N x b bs) : Int)
        · rw [mostF_0 rfl k k2] at h1; cases h1
        · rw [mostF_2 rfl k k2] at h1; cases h1
    refine ⟨1, .inr rfl, fun a ha hf => ?_⟩
    rw [ex0G hx bs a ha]
    have u0 := votes_hiG (fa := fa) (lie := lie) (N := N) 0 x a bs
    by_cases k : (N : Int) - F ≤ (cntL 1 (votesG fa lie N x a bs) : Int)
    · exact .inl (mostF_1 rfl k)
    · exact .inr (mostF_2 rfl k (by omega))
  · refine ⟨0, .inl rfl, fun a ha hf => ?_⟩
    have hb := valF_bd ((exchG fa lie N F x bs).getD a (0, false))
    have h1 : vlF (exchG fa lie N F x bs) a ≠ 1 := fun e => h ⟨a, ha, hf, e⟩
    unfold vlF at h1 ⊢
    omega
theorem ag1G {v : Int} (hv : v = 0 ∨ v = 1) (hF : facL fa N ≤ F) (hN : 3 * F < N) {x : Nat} (hx : x % 3 = 1) {bs : List (Int × Bool)} (h : ∀ a, a < N → fa a = false → vlF bs a = v ∨ vlF bs a = 2) :
    (∃ b, b < N ∧ fa b = false ∧ ((exchG fa lie N F x bs).getD b (0, false)).2 = true ∧ vlF (exchG fa lie N F x bs) b ≠ 2) → ComV fa N v (exchG fa lie N F x bs) := by
  have s := hv_sum (fa := fa) (N := N) bs
  rintro ⟨b, hb, hfb, hs, hn2⟩
  rw [ex1G hx bs b hb] at hn2
  rw [ex1G' hx bs b hb] at hs
  simp only at hs
  have hbv := h b hb hfb
  have u0 := votes_hiG (fa := fa) (lie := lie) (N := N) 0 x b bs
  have u1 := votes_hiG (fa := fa) (lie := lie) (N := N) 1 x b bs
  rw [enoughB_ok rfl] at hs
  have hs := of_decide_eq_true hs
  rcases hv with rfl | rfl
  · have z1 : hvL fa N bs 1 = 0 := hv_zero fun a ha hf => by rcases h a ha hf with e | e <;> omega
    have e0 : leastF 0 F (vlF bs b) (votesG fa lie N x b bs) = 0 := by
      by_cases k : (F : Int) + 1 ≤ (cntL 0 (votesG fa lie N x b bs) : Int)
      · exact leastF_0 rfl k
      · by_cases k2 : (F : Int) + 1 ≤ (cntL 2 (votesG fa lie N x b bs) : Int)
        · exact absurd (leastF_2 rfl k (by omega) k2) hn2
        · have e := leastF_n (now := vlF bs b) rfl k (by omega) k2
          rw [e] at hn2 ⊢
          omega
    rw [e0, cntF_in (by decide) (by decide)] at hs
    intro a ha hf
    rw [ex1G hx bs a ha]
    have l0 := votes_loG (fa := fa) (lie := lie) (N := N) 0 x a bs
    exact leastF_0 rfl (by omega)
  · have z1 : hvL fa N bs 0 = 0 := hv_zero fun a ha hf => by rcases h a ha hf with e | e <;> omega
    have e0 : leastF 0 F (vlF bs b) (votesG fa lie N x b bs) = 1 := by
      by_cases k : (F : Int) + 1 ≤ (cntL 1 (votesG fa lie N x b bs) : Int)
      · exact leastF_1 rfl (by omega) k
      · by_cases k2 : (F : Int) + 1 ≤ (cntL 2 (votesG fa lie N x b bs) : Int)
        · exact absurd (leastF_2 rfl (by omega) k k2) hn2
        · have e := leastF_n (now := vlF bs b) rfl (by omega) k k2
          rw [e] at hn2 ⊢
          omega
    rw [e0, cntF_in (by decide) (by decide)] at hs
    intro a ha hf
    rw [ex1G hx bs a ha]
    have l1 := votes_loG (fa := fa) (lie := lie) (N := N) 1 x a bs
    have u0' := votes_hiG (fa := fa) (lie := lie) (N := N) 0 x a bs
    exact leastF_1 rfl (by omega) (by omega)
theorem king_voteG {x : Nat} (hk : x / 3 < N) (hfk : fa (x / 3) = false) (bs : List (Int × Bool)) (a : Nat) : (votesG fa lie N x a bs).getD (x / 3) 0 = vlF bs (x / 3) := by
  unfold votesG
  rw [range_getD _ _ _ _ hk, say_hG hfk]
theorem ag2G {v : Int} (hv : v = 0 ∨ v = 1) {x : Nat} (hx : x % 3 = 2) (hk : x / 3 < N) (hfk : fa (x / 3) = false) {bs : List (Int × Bool)} (hs : (∃ b, b < N ∧ fa b = false ∧ (bs.getD b (0, false)).2 = true ∧ vlF bs b ≠ 2) → ComV fa N v bs) : ∃ u : Int, (u = 0 ∨ u = 1) ∧ ComV fa N u (exchG fa lie N F x bs) := by
  by_cases h : ∃ b, b < N ∧ fa b = false ∧ (bs.getD b (0, false)).2 = true ∧ vlF bs b ≠ 2
  · have hc := hs h
    refine ⟨v, hv, fun a ha hf => ?_⟩
    unfold vlF
    rw [ex2G hx bs a ha, king_voteG hk hfk, hc _ hk hfk]
    have e := hc a ha hf
    unfold vlF at e
    by_cases k : valF (bs.getD a (0, false)) ≠ 2 ∧ (bs.getD a (0, false)).2 = true
    · rw [obeyF_s k.1 k.2, e]
      exact valF_same (by simp; omega)
    · rcases hv with rfl | rfl
      · rw [obeyF_0 k (by decide)]; rfl
      · rw [obeyF_1 k (by decide)]; rfl
  · by_cases hq : vlF bs (x / 3) = 1 ∨ vlF bs (x / 3) = 2
    · refine ⟨1, .inr rfl, fun a ha hf => ?_⟩
      unfold vlF
      rw [ex2G hx bs a ha, king_voteG hk hfk, obeyF_1 (fun k => h ⟨a, ha, hf, k.2, k.1⟩) hq]
      rfl
    · refine ⟨0, .inl rfl, fun a ha hf => ?_⟩
      unfold vlF
      rw [ex2G hx bs a ha, king_voteG hk hfk, obeyF_0 (fun k => h ⟨a, ha, hf, k.2, k.1⟩) hq]
      rfl
variable {bs0 : List (Int × Bool)}
theorem play_stepG (x : Nat) : playG fa lie N F bs0 (x + 1) = exchG fa lie N F x (playG fa lie N F bs0 x) := rfl
theorem keep_phaseG {v : Int} (hv : v = 0 ∨ v = 1) (hF : facL fa N ≤ F) (hN : 3 * F < N) (m : Nat) (h : ComV fa N v (playG fa lie N F bs0 (3 * m))) : ComV fa N v (playG fa lie N F bs0 (3 * (m + 1))) := by
  rw [show 3 * (m + 1) = 3 * m + 1 + 1 + 1 by omega, play_stepG, play_stepG, play_stepG]
  exact keep2G hv (by omega) fun a ha hf => keep1G hv hF hN (by omega) (keep0G hv hF hN (by omega) h) a ha
theorem agree_phaseG (hF : facL fa N ≤ F) (hN : 3 * F < N) (m : Nat) (hm : m < N) (hfm : fa m = false) : ∃ u : Int, (u = 0 ∨ u = 1) ∧ ComV fa N u (playG fa lie N F bs0 (3 * (m + 1))) := by
  rw [show 3 * (m + 1) = 3 * m + 1 + 1 + 1 by omega, play_stepG, play_stepG, play_stepG]
  obtain ⟨v, hv, h0⟩ := ag0G (lie := lie) hF hN (x := 3 * m) (by omega) (playG fa lie N F bs0 (3 * m))
  have e : (3 * m + 1 + 1) / 3 = m := by omega
  exact ag2G hv (by omega) (by rw [e]; exact hm) (by rw [e]; exact hfm) (ag1G hv hF hN (by omega) h0)
theorem keep_allG {v : Int} (hv : v = 0 ∨ v = 1) (hF : facL fa N ≤ F) (hN : 3 * F < N) {m : Nat} (h : ComV fa N v (playG fa lie N F bs0 (3 * m))) (k : Nat) : ComV fa N v (playG fa lie N F bs0 (3 * (m + k))) := by
  induction k with
  | zero => exact h
  | succ k ih => exact keep_phaseG hv hF hN (m + k) ih
theorem one_honestG (hF : facL fa N ≤ F) (hN : 3 * F < N) : ∃ m, m ≤ F ∧ fa m = false := by
  by_cases h : ∃ m, m ≤ F ∧ fa m = false
  · exact h
  · exfalso
    have hall : ∀ a ∈ List.range (F + 1), fa a = true := fun a ha => by
      have := List.mem_range.1 ha
      cases e : fa a
      · exact absurd ⟨a, by omega, e⟩ h
      · rfl
    have h1 : (List.range (F + 1)).countP fa = (List.range (F + 1)).length := List.countP_eq_length.2 hall
    rw [List.length_range] at h1
    have h2 : (List.range (F + 1)).countP fa ≤ (List.range N).countP fa := by
      apply List.Sublist.countP_le
      exact List.range_sublist.2 (by omega)
    unfold facL at hF
    omega
/-- All honest nodes agree in the end. -/
theorem agree_allG (hF : facL fa N ≤ F) (hN : 3 * F < N) : ∃ u : Int, (u = 0 ∨ u = 1) ∧ ComV fa N u (playG fa lie N F bs0 (3 * (F + 1))) := by
  obtain ⟨m, hm, hfm⟩ := one_honestG hF hN
  obtain ⟨u, hu, h⟩ := agree_phaseG (lie := lie) (bs0 := bs0) hF hN m (by omega) hfm
  refine ⟨u, hu, ?_⟩
  have := keep_allG hu hF hN h (F - m)
  rwa [show m + 1 + (F - m) = F + 1 by omega] at this
/-- What all honest nodes begin with, they have in the end. -/
theorem keep_endG {v : Int} (hv : v = 0 ∨ v = 1) (hF : facL fa N ≤ F) (hN : 3 * F < N) (h : ComV fa N v bs0) : ComV fa N v (playG fa lie N F bs0 (3 * (F + 1))) := by
  have := keep_allG (lie := lie) (bs0 := bs0) hv hF hN (m := 0) h (F + 1)
  rwa [Nat.zero_add] at this
end
end Go.Proofs.Ytkolhbacgoafcaa

/- Plain mathematics: with few faulty nodes all others have the same bits behind a whole instance, whatever texts faulty ones tell, and keep bits that they share; no conditions but those in the theorems. -/
namespace Go.Proofs.Ytkolhbacgoafcaa
open Go.ChangeShapes Go.WideShapes Go.ChangeAt Go.RowKit
set_option linter.unusedVariables false

/-- What a lie is: those of one place after another, round and round. -/
def lieV (lies : List ByteArray) (N x a t : Nat) : ByteArray := lies.getD (((x * N + a) * N + t) % lies.length) noB
def sayV (fa : Nat → Bool) (lies : List ByteArray) (N wd x t : Nat) (now : List ByteArray) (a : Nat) : ByteArray := if fa a = true then lieV lies N x a t else dgB wd (valG (now.getD a noB))
def votesV (fa : Nat → Bool) (lies : List ByteArray) (N wd x t : Nat) (now : List ByteArray) : List ByteArray := (List.range N).map (sayV fa lies N wd x t now)
def nextV (fa : Nat → Bool) (lies : List ByteArray) (N wd : Nat) (f : Int) (x : Nat) (now : List ByteArray) (t : Nat) : ByteArray := dgB wd (stpG 0 N f x (now.getD t noB) ((votesV fa lies N wd x t now).getD (x / 3) noB) (votesV fa lies N wd x t now))
def nowV (fa : Nat → Bool) (lies : List ByteArray) (N wd : Nat) (f : Int) (bits : List ByteArray) : Nat → List ByteArray
  | 0 => (List.range N).map fun i => dgB wd (ofG (bits.getD i noB))
  | x + 1 => (List.range N).map (nextV fa lies N wd f x (nowV fa lies N wd f bits x))
/-- The bits of all nodes at one place. -/
def bitsP (N : Nat) (now : List ByteArray) (p : Nat) : List (Int × Bool) := (List.range N).map fun i => bitK (now.getD i noB) p
theorem nowV_len (fa : Nat → Bool) (lies : List ByteArray) (N wd : Nat) (f : Int) (bits : List ByteArray) (x : Nat) : (nowV fa lies N wd f bits x).length = N := by cases x <;> simp [nowV]
theorem votesV_len (fa : Nat → Bool) (lies : List ByteArray) (N wd x t : Nat) (now : List ByteArray) : (votesV fa lies N wd x t now).length = N := by simp [votesV]
theorem votesV_at (fa : Nat → Bool) (lies : List ByteArray) (N wd x t : Nat) (now : List ByteArray) (a : Nat) (ha : a < N) : (votesV fa lies N wd x t now).getD a noB = sayV fa lies N wd x t now a := range_getD _ _ _ _ ha
theorem nowV_at (fa : Nat → Bool) (lies : List ByteArray) (N wd : Nat) (f : Int) (bits : List ByteArray) (x i : Nat) (hi : i < N) : (nowV fa lies N wd f bits (x + 1)).getD i noB = nextV fa lies N wd f x (nowV fa lies N wd f bits x) i := range_getD _ _ _ _ hi
theorem nowV_size (fa : Nat → Bool) (lies : List ByteArray) (N wd : Nat) (f : Int) (bits : List ByteArray) (x i : Nat) (hi : i < N) : ((nowV fa lies N wd f bits x).getD i noB).size = wd := by
  cases x with
  | zero =>
    have : (nowV fa lies N wd f bits 0).getD i noB = dgB wd (ofG (bits.getD i noB)) := range_getD _ _ _ _ hi
    rw [this, dgB_size]
  | succ x => rw [nowV_at _ _ _ _ _ _ _ _ hi]; exact dgB_size _ _
theorem readK_codeF {b : Int × Bool} (h : 0 ≤ b.1 ∧ b.1 ≤ 2) : readK (codeF b) = b := by
  obtain ⟨v, s⟩ := b
  have e := valF_same (b := (v, s)) h
  simp only at h e
  have hv : v = 0 ∨ v = 1 ∨ v = 2 := by omega
  unfold codeF
  rw [e]
  rcases hv with rfl | rfl | rfl <;> cases s <;> rfl
theorem obey_bd (b : Int × Bool) (k : Int) : 0 ≤ (obeyF b k).1 ∧ (obeyF b k).1 ≤ 2 ∧ (obeyF b k).2 = false := by
  have := valF_bd b
  unfold obeyF
  split
  · exact ⟨by simp; omega, by simp; omega, rfl⟩
  · split <;> exact ⟨by decide, by decide, rfl⟩
theorem step_bd (n f x : Int) (b : Int × Bool) (k : Int) (vs : List Int) : 0 ≤ (stepF 0 n f x b k vs).1 ∧ (stepF 0 n f x b k vs).1 ≤ 2 := by
  have h := modF3 x
  have hx : modF x 3 = 0 ∨ modF x 3 = 1 ∨ modF x 3 = 2 := by omega
  rcases hx with hx | hx | hx
  · rw [stepF_0 hx]; exact most_bd n f vs
  · rw [stepF_1 hx]; exact least_bd f _ vs (valF_bd b)
  · rw [stepF_2 hx]; exact ⟨(obey_bd b k).1, (obey_bd b k).2.1⟩
theorem bit_next (fa : Nat → Bool) (lies : List ByteArray) (N wd : Nat) (f : Int) (x : Nat) (now : List ByteArray) (t p : Nat) (hp : p < wd) : bitK (nextV fa lies N wd f x now t) p = stpB 0 N f x (now.getD t noB) ((votesV fa lies N wd x t now).getD (x / 3) noB) (votesV fa lies N wd x t now) p := by
  have hb := stpG_bd 0 N f x (now.getD t noB) ((votesV fa lies N wd x t now).getD (x / 3) noB) (votesV fa lies N wd x t now) p
  unfold bitK nextV
  rw [vdg_dgB hp (by omega) (by omega), stpG_int]
  exact readK_codeF (step_bd _ _ _ _ _ _)
section
variable {fa : Nat → Bool} {lies : List ByteArray} {N wd F : Nat} {bits : List ByteArray}
theorem say_bit (x t : Nat) (now : List ByteArray) (p : Nat) (hp : p < wd) (a : Nat) (ha : a < N) : vdg 2 (sayV fa lies N wd x t now a) p = sayG fa (fun x a t => vdg 2 (lieV lies N x a t) p) x t (bitsP N now p) a := by
  unfold sayV sayG
  by_cases h : fa a = true
  · rw [if_pos h, if_pos h]
  · rw [if_neg h, if_neg h]
    have hv := valG_bd (now.getD a noB) p
    have e : (bitsP N now p).getD a (0, false) = bitK (now.getD a noB) p := range_getD _ _ _ _ ha
    rw [vdg_dgB hp (by omega) (by omega), valG_int, e]
    exact (valF_same (readK_bd _)).symm
theorem votes_bit (x t : Nat) (now : List ByteArray) (p : Nat) (hp : p < wd) : (votesV fa lies N wd x t now).map (fun s => vdg 2 s p) = votesG fa (fun x a t => vdg 2 (lieV lies N x a t) p) N x t (bitsP N now p) := by
  unfold votesV votesG
  rw [List.map_map]
  apply List.map_congr_left
  intro a ha
  exact say_bit x t now p hp a (List.mem_range.1 ha)
theorem bits_step (x : Nat) (hx : x / 3 < N) (now : List ByteArray) (p : Nat) (hp : p < wd) : bitsP N ((List.range N).map (nextV fa lies N wd F x now)) p = exchG fa (fun x a t => vdg 2 (lieV lies N x a t) p) N F x (bitsP N now p) := by
  unfold exchG
  conv => lhs; unfold bitsP
  apply List.map_congr_left
  intro t ht
  have ht := List.mem_range.1 ht
  have e : ((List.range N).map (nextV fa lies N wd F x now)).getD t noB = nextV fa lies N wd F x now t := range_getD _ _ _ _ ht
  rw [e, bit_next _ _ _ _ _ _ _ _ _ hp]
  unfold stpB stepG
  have e1 : (bitsP N now p).getD t (0, false) = bitK (now.getD t noB) p := range_getD _ _ _ _ ht
  have e2 : (votesG fa (fun x a t => vdg 2 (lieV lies N x a t) p) N x t (bitsP N now p)).getD (x / 3) 0 = vdg 2 ((votesV fa lies N wd x t now).getD (x / 3) noB) p := by
    rw [votesV_at _ _ _ _ _ _ _ _ hx, say_bit x t now p hp _ hx]
    exact range_getD _ _ _ _ hx
  rw [votes_bit x t now p hp, e1, e2]
theorem bits_play (hN : F < N) (p : Nat) (hp : p < wd) : ∀ x, x ≤ 3 * (F + 1) → bitsP N (nowV fa lies N wd F bits x) p = playG fa (fun x a t => vdg 2 (lieV lies N x a t) p) N F (bitsP N (nowV fa lies N wd F bits 0) p) x
  | 0, _ => rfl
  | x + 1, h => by
    have ih := bits_play hN p hp x (by omega)
    show bitsP N ((List.range N).map (nextV fa lies N wd F x (nowV fa lies N wd F bits x))) p = _
    rw [bits_step x (by omega) _ p hp, ih]
    rfl
theorem start_bit (i p : Nat) (hi : i < N) (hp : p < wd) : vlF (bitsP N (nowV fa lies N wd F bits 0) p) i = if vdg 1 (bits.getD i noB) p = 1 then 1 else 0 := by
  unfold vlF
  have e : (bitsP N (nowV fa lies N wd F bits 0) p).getD i (0, false) = bitK ((nowV fa lies N wd F bits 0).getD i noB) p := range_getD _ _ _ _ hi
  have e2 : (nowV fa lies N wd F bits 0).getD i noB = dgB wd (ofG (bits.getD i noB)) := range_getD _ _ _ _ hi
  have hb := ofG_bd (bits.getD i noB) p
  rw [e, e2]
  unfold bitK
  rw [vdg_dgB hp (by omega) (by omega), ofG_int]
  unfold startF
  by_cases h : vdg 1 (bits.getD i noB) p = 1
  · rw [if_pos h, if_pos h]; rfl
  · rw [if_neg h, if_neg h]; rfl
/-- At one place: the common bit in the end. -/
theorem place_end (hF : facL fa N ≤ F) (hN : 3 * F < N) (p : Nat) (hp : p < wd) : ∃ u : Nat, u ≤ 1 ∧ (∀ i, i < N → fa i = false → stpG 0 N F ((3 * F + 2 : Nat) : Int) ((nowV fa lies N wd F bits (3 * F + 2)).getD i noB) ((votesV fa lies N wd (3 * F + 2) i (nowV fa lies N wd F bits (3 * F + 2))).getD ((3 * F + 2) / 3) noB) (votesV fa lies N wd (3 * F + 2) i (nowV fa lies N wd F bits (3 * F + 2))) p = u)
    ∧ ∀ v : Nat, v ≤ 1 → (∀ i, i < N → fa i = false → (if vdg 1 (bits.getD i noB) p = 1 then 1 else 0) = v) → u = v := by
  obtain ⟨ui, hu, hcom⟩ := agree_allG (lie := fun x a t => vdg 2 (lieV lies N x a t) p) (bs0 := bitsP N (nowV fa lies N wd F bits 0) p) hF hN
  obtain ⟨m, hm, hfm⟩ := one_honestG hF hN
  refine ⟨ui.toNat, by omega, fun i hi hf => ?_, fun v hv h => ?_⟩
  · have hc := hcom i hi hf
    rw [show 3 * (F + 1) = (3 * F + 2) + 1 by omega] at hc
    have hpl := bits_play (fa := fa) (lies := lies) (bits := bits) (wd := wd) (by omega : F < N) p hp (3 * F + 2 + 1) (by omega)
    rw [← hpl] at hc
    unfold vlF at hc
    have e : (bitsP N (nowV fa lies N wd F bits (3 * F + 2 + 1)) p).getD i (0, false) = bitK ((nowV fa lies N wd F bits (3 * F + 2 + 1)).getD i noB) p := range_getD _ _ _ _ hi
    rw [e, nowV_at _ _ _ _ _ _ _ _ hi, bit_next _ _ _ _ _ _ _ _ _ hp] at hc
    have hob : (stpB 0 N F ((3 * F + 2 : Nat) : Int) ((nowV fa lies N wd F bits (3 * F + 2)).getD i noB) ((votesV fa lies N wd (3 * F + 2) i (nowV fa lies N wd F bits (3 * F + 2))).getD ((3 * F + 2) / 3) noB) (votesV fa lies N wd (3 * F + 2) i (nowV fa lies N wd F bits (3 * F + 2))) p).2 = false := by
      unfold stpB
      rw [stepF_2 (by rw [modF3_nat]; omega)]
      exact (obey_bd _ _).2.2
    unfold stpG codeF
    rw [if_neg (by rw [hob]; decide), hc]
  · have hk := keep_endG (lie := fun x a t => vdg 2 (lieV lies N x a t) p) (bs0 := bitsP N (nowV fa lies N wd F bits 0) p) (v := (v : Int)) (by omega) hF hN (fun i hi hf => by
      rw [start_bit i p hi hp]
      have := h i hi hf
      by_cases q : vdg 1 (bits.getD i noB) p = 1
      · rw [if_pos q] at this ⊢; omega
      · rw [if_neg q] at this ⊢; omega)
    have h1 := hcom m (by omega) hfm
    have h2 := hk m (by omega) hfm
    omega
/-- All nodes that are not faulty end with one text; a bit that all of them began with stays. -/
theorem vec_end (hF : facL fa N ≤ F) (hN : 3 * F < N) : ∃ u : Nat → Nat, (∀ p, u p ≤ 1) ∧ (∀ i, i < N → fa i = false → (nowV fa lies N wd F bits (3 * (F + 1))).getD i noB = dgB wd u) ∧ ∀ p, p < wd → ∀ v : Nat, v ≤ 1 → (∀ i, i < N → fa i = false → (if vdg 1 (bits.getD i noB) p = 1 then 1 else 0) = v) → u p = v := by
  refine ⟨fun p => if h : p < wd then Classical.choose (place_end (lies := lies) (bits := bits) hF hN p h) else 0, fun p => ?_, fun i hi hf => ?_, fun p hp => ?_⟩
  · simp only
    split
    · next h => exact (Classical.choose_spec (place_end (lies := lies) (bits := bits) hF hN p h)).1
    · omega
  · rw [show 3 * (F + 1) = (3 * F + 2) + 1 by omega, nowV_at _ _ _ _ _ _ _ _ hi]
    refine dgB_congr fun p hp => ?_
    rw [dif_pos hp]
    exact (Classical.choose_spec (place_end (lies := lies) (bits := bits) hF hN p hp)).2.1 i hi hf
  · simp only
    rw [dif_pos hp]
    exact (Classical.choose_spec (place_end (lies := lies) (bits := bits) hF hN p hp)).2.2
end
/-- As many nodes are faulty as there are numbers that say so, at most. -/
theorem one_num (a : Int) : ∀ N : Nat, (List.range N).countP (fun k : Nat => decide ((k : Int) = a)) = if 0 ≤ a ∧ a < N then 1 else 0
  | 0 => by simp
  | N + 1 => by
    rw [List.range_succ, List.countP_append, one_num a N, List.countP_singleton]
    by_cases h : (N : Int) = a
    · subst h
      rw [if_neg (by omega), if_pos (by simp), if_pos (by omega)]
    · rw [if_neg (show ¬ decide ((N : Int) = a) = true by simp [h])]
      by_cases h2 : 0 ≤ a ∧ a < N
      · rw [if_pos h2, if_pos (by omega)]
      · rw [if_neg h2, if_neg (by omega)]
def faI (fs : List Int) (k : Nat) : Bool := decide ((k : Int) ∈ fs)
theorem facL_le (N : Nat) : ∀ fs : List Int, facL (faI fs) N ≤ fs.length
  | [] => by
    unfold facL faI
    simp
  | a :: l => by
    have ih := facL_le N l
    have h1 := one_num a N
    have h := countP_or (fun k : Nat => decide ((k : Int) = a)) (faI l) (faI (a :: l)) (List.range N) (fun k _ h => by
      unfold faI at h ⊢
      have h := of_decide_eq_true h
      rcases List.mem_cons.1 h with h | h
      · left; exact decide_eq_true h
      · right; exact decide_eq_true h)
    unfold facL at ih ⊢
    rw [h1] at h
    rw [List.length_cons]
    split at h <;> omega
end Go.Proofs.Ytkolhbacgoafcaa

/- Plain mathematics: an instance in a pipe goes through it as it would alone; no conditions but those in the theorems. -/
namespace Go.Proofs.Ytkolhbacgoafcaa
open Go.ChangeShapes Go.WideShapes Go.ChangeAt Go.RowKit
set_option linter.unusedVariables false

/-- A bit's code, as a byte; what the king told. -/
def cB (b : Int × Bool) : UInt8 := UInt8.ofNat (48 + (codeF b).toNat)
def bossQ (votes : List ByteArray) (x : Nat) : Int := (votesP votes x).getD (x / 3) (-1)
theorem bit_code {b : Int × Bool} (h : 0 ≤ b.1 ∧ b.1 ≤ 2) : bitK (ba [cB b]) 0 = b := by
  have hb := codeF_bd b
  have e : ba [cB b] = dgB 1 (fun _ => (codeF b).toNat) := rfl
  unfold bitK
  rw [e, vdg_dgB (by omega) (by omega) (by omega), Int.toNat_of_nonneg hb.1]
  exact readK_codeF h
theorem told_boss (votes : List ByteArray) (x : Nat) : vdg 2 (toldP votes x) 0 = bossQ votes x := by
  unfold toldP bossQ digsP votesP
  rw [List.getD_eq_getElem?_getD, List.getD_eq_getElem?_getD, List.getElem?_map, List.getElem?_map]
  cases votes[x / 3]? with
  | none => exact vdg_out (show noB.size ≤ 0 from Nat.le_refl 0)
  | some t => exact vdg_prt 2 t x
theorem digs_votes (votes : List ByteArray) (x : Nat) : (digsP votes x).map (fun t => vdg 2 t 0) = votesP votes x := by
  unfold digsP votesP
  rw [List.map_map]
  exact List.map_congr_left fun t _ => vdg_prt 2 t x
theorem hrd_step (n f : Int) (votes : List ByteArray) (x : Nat) {b : Int × Bool} (h : 0 ≤ b.1 ∧ b.1 ≤ 2) : hrdB 0 n f votes x (cB b) = cB (stepF 0 n f x b (bossQ votes x) (votesP votes x)) := by
  unfold hrdB stpG stpB
  rw [bit_code h, told_boss, digs_votes]
  rfl
/-- The instance alone, tick by tick; the pipe. -/
def bQ (n f : Int) (D : Nat) (vts : Nat → List ByteArray) (bit : Int) : Nat → Int × Bool
  | 0 => startF bit
  | t + 1 => if (t + 1) % D = 0 then stepF 0 n f (((t + 1) / D - 1 : Nat) : Int) (bQ n f D vts bit t) (bossQ (vts t) ((t + 1) / D - 1)) (votesP (vts t) ((t + 1) / D - 1)) else bQ n f D vts bit t
def lQ (n f : Int) (D : Nat) (vts : Nat → List ByteArray) (l0 : List UInt8) : Nat → List UInt8
  | 0 => l0
  | t + 1 => newL (hrdB 0 n f (vts t)) D (lQ n f D vts l0 t)
theorem start_bd (bit : Int) : 0 ≤ (startF bit).1 ∧ (startF bit).1 ≤ 2 := by unfold startF; split <;> decide
section
variable {n f : Int} {D : Nat} {vts : Nat → List ByteArray} {bit : Int} {l0 : List UInt8}
theorem bQ_bd : ∀ t, 0 ≤ (bQ n f D vts bit t).1 ∧ (bQ n f D vts bit t).1 ≤ 2
  | 0 => start_bd bit
  | t + 1 => by
    unfold bQ
    split
    · exact step_bd _ _ _ _ _ _
    · exact bQ_bd t
theorem lQ_len : ∀ t, (lQ n f D vts l0 t).length = l0.length
  | 0 => rfl
  | t + 1 => by
    show (newL _ _ _).length = _
    rw [newL_len, lQ_len t]
theorem old_next (t : Nat) : oldB (hrdB 0 n f (vts t)) D (t + 1) (cB (bQ n f D vts bit t)) = cB (bQ n f D vts bit (t + 1)) := by
  unfold oldB
  show _ = cB (if (t + 1) % D = 0 then _ else _)
  by_cases h : (t + 1) % D = 0
  · rw [if_pos h, if_pos h, hrd_step n f (vts t) _ (bQ_bd t)]
  · rw [if_neg h, if_neg h]
theorem lQ_at (h0 : at8 l0 0 = cB (startF bit)) : ∀ t, t < l0.length → at8 (lQ n f D vts l0 t) t = cB (bQ n f D vts bit t)
  | 0, _ => h0
  | t + 1, h => by
    have ih := lQ_at h0 t (by omega)
    show at8 (newL _ _ _) (t + 1) = _
    have hl : t + 1 < (newL (hrdB 0 n f (vts t)) D (lQ n f D vts l0 t)).length := by rw [newL_len, lQ_len]; exact h
    rw [at8_lt hl]
    have e : (newL (hrdB 0 n f (vts t)) D (lQ n f D vts l0 t))[t + 1]'hl = newB (hrdB 0 n f (vts t)) D (lQ n f D vts l0 t) (t + 1) := by simp [newL]
    rw [e, newB_s, ih, old_next]
theorem lQ_end (h0 : at8 l0 0 = cB (startF bit)) (t : Nat) (h : t < l0.length) : newB (hrdB 0 n f (vts t)) D (lQ n f D vts l0 t) (t + 1) = cB (bQ n f D vts bit (t + 1)) := by
  rw [newB_s, lQ_at h0 t h, old_next]
end
theorem endF_code {b : Int × Bool} (h : 0 ≤ b.1 ∧ b.1 ≤ 2) : (endF (cB b) == 1) = (b.1 == 1) := by
  unfold endF valG
  rw [bit_code h]
  by_cases e : b.1 = 1
  · rw [if_pos (by rw [e]; rfl), e]
  · rw [if_neg (by omega)]
    have : (b.1 == 1) = false := by simp [e]
    rw [this]; rfl
end Go.Proofs.Ytkolhbacgoafcaa
