/- Plain mathematics: with few faulty nodes all others have the same bits behind a whole instance, whatever texts faulty ones tell, and keep bits that they share; no conditions but those in the theorems. -/
import Derived.Test.YtgfdfakffkhekabKinG
import Derived.Test.YtgfdfakffkhekabVecC
namespace Go.Proofs.Ytgfdfakffkhekab
open Go.ChangeShapes Go.WideShapes Go.ChangeAt Go.RowKit
set_option linter.unusedVariables false

/-- What a lie is: those of one place after another, round and round. -/
def lieV (lies : List ByteArray) (N x a t : Nat) : ByteArray := lies.getD (((x * N + a) * N + t) % lies.length) noB
def sayV (fa : Nat → Bool) (lies : List ByteArray) (N wd x t : Nat) (now : List ByteArray) (a : Nat) : ByteArray := if fa a = true then lieV lies N x a t else dgB wd (valG (now.getD a noB))
def votesV (fa : Nat → Bool) (lies : List ByteArray) (N wd x t : Nat) (now : List ByteArray) : List ByteArray := (List.range N).map (sayV fa lies N wd x t now)
def nextV (fa : Nat → Bool) (lies : List ByteArray) (N wd : Nat) (f : Int) (x : Nat) (now : List ByteArray) (t : Nat) : ByteArray := dgB wd (stpG 0 N f x (now.getD t noB) ((votesV fa lies N wd x t now).getD (x / 3) noB) (votesV fa lies N wd x t now))
def nowV (fa : Nat → Bool) (lies : List ByteArray) (N wd : Nat) (f : Int) (bits : List ByteArray) : Nat → List ByteArray
  | 0 => (List.range N).map fun i => dgB wd (ofG (bits.getD i noB))
  | x + 1 => (List.range N).map (nextV fa lies N wd f x (nowV fa lies N wd f bits x))
/-- The bits of all nodes at one place. -/
def bitsP (N : Nat) (now : List ByteArray) (p : Nat) : List (Int × Bool) := (List.range N).map fun i => bitK (now.getD i noB) p
theorem nowV_len (fa : Nat → Bool) (lies : List ByteArray) (N wd : Nat) (f : Int) (bits : List ByteArray) (x : Nat) : (nowV fa lies N wd f bits x).length = N := by cases x <;> simp [nowV]
theorem votesV_len (fa : Nat → Bool) (lies : List ByteArray) (N wd x t : Nat) (now : List ByteArray) : (votesV fa lies N wd x t now).length = N := by simp [votesV]
theorem votesV_at (fa : Nat → Bool) (lies : List ByteArray) (N wd x t : Nat) (now : List ByteArray) (a : Nat) (ha : a < N) : (votesV fa lies N wd x t now).getD a noB = sayV fa lies N wd x t now a := range_getD _ _ _ _ ha
theorem nowV_at (fa : Nat → Bool) (lies : List ByteArray) (N wd : Nat) (f : Int) (bits : List ByteArray) (x i : Nat) (hi : i < N) : (nowV fa lies N wd f bits (x + 1)).getD i noB = nextV fa lies N wd f x (nowV fa lies N wd f bits x) i := range_getD _ _ _ _ hi
theorem nowV_size (fa : Nat → Bool) (lies : List ByteArray) (N wd : Nat) (f : Int) (bits : List ByteArray) (x i : Nat) (hi : i < N) : ((nowV fa lies N wd f bits x).getD i noB).size = wd := by
  cases x with
  | zero =>
    have : (nowV fa lies N wd f bits 0).getD i noB = dgB wd (ofG (bits.getD i noB)) := range_getD _ _ _ _ hi
    rw [this, dgB_size]
  | succ x => rw [nowV_at _ _ _ _ _ _ _ _ hi]; exact dgB_size _ _
theorem readK_codeF {b : Int × Bool} (h : 0 ≤ b.1 ∧ b.1 ≤ 2) : readK (codeF b) = b := by
  obtain ⟨v, s⟩ := b
  have e := valF_same (b := (v, s)) h
  simp only at h e
  have hv : v = 0 ∨ v = 1 ∨ v = 2 := by omega
  unfold codeF
  rw [e]
  rcases hv with rfl | rfl | rfl <;> cases s <;> rfl
theorem obey_bd (b : Int × Bool) (k : Int) : 0 ≤ (obeyF b k).1 ∧ (obeyF b k).1 ≤ 2 ∧ (obeyF b k).2 = false := by
  have := valF_bd b
  unfold obeyF
  split
  · exact ⟨by simp; omega, by simp; omega, rfl⟩
  · split <;> exact ⟨by decide, by decide, rfl⟩
theorem step_bd (n f x : Int) (b : Int × Bool) (k : Int) (vs : List Int) : 0 ≤ (stepF 0 n f x b k vs).1 ∧ (stepF 0 n f x b k vs).1 ≤ 2 := by
  have h := modF3 x
  have hx : modF x 3 = 0 ∨ modF x 3 = 1 ∨ modF x 3 = 2 := by omega
  rcases hx with hx | hx | hx
  · rw [stepF_0 hx]; exact most_bd n f vs
  · rw [stepF_1 hx]; exact least_bd f _ vs (valF_bd b)
  · rw [stepF_2 hx]; exact ⟨(obey_bd b k).1, (obey_bd b k).2.1⟩
theorem bit_next (fa : Nat → Bool) (lies : List ByteArray) (N wd : Nat) (f : Int) (x : Nat) (now : List ByteArray) (t p : Nat) (hp : p < wd) : bitK (nextV fa lies N wd f x now t) p = stpB 0 N f x (now.getD t noB) ((votesV fa lies N wd x t now).getD (x / 3) noB) (votesV fa lies N wd x t now) p := by
  have hb := stpG_bd 0 N f x (now.getD t noB) ((votesV fa lies N wd x t now).getD (x / 3) noB) (votesV fa lies N wd x t now) p
  unfold bitK nextV
  rw [vdg_dgB hp (by omega) (by omega), stpG_int]
  exact readK_codeF (step_bd _ _ _ _ _ _)
section
variable {fa : Nat → Bool} {lies : List ByteArray} {N wd F : Nat} {bits : List ByteArray}
theorem say_bit (x t : Nat) (now : List ByteArray) (p : Nat) (hp : p < wd) (a : Nat) (ha : a < N) : vdg 2 (sayV fa lies N wd x t now a) p = sayG fa (fun x a t => vdg 2 (lieV lies N x a t) p) x t (bitsP N now p) a := by
  unfold sayV sayG
  by_cases h : fa a = true
  · rw [if_pos h, if_pos h]
  · rw [if_neg h, if_neg h]
    have hv := valG_bd (now.getD a noB) p
    have e : (bitsP N now p).getD a (0, false) = bitK (now.getD a noB) p := range_getD _ _ _ _ ha
    rw [vdg_dgB hp (by omega) (by omega), valG_int, e]
    exact (valF_same (readK_bd _)).symm
theorem votes_bit (x t : Nat) (now : List ByteArray) (p : Nat) (hp : p < wd) : (votesV fa lies N wd x t now).map (fun s => vdg 2 s p) = votesG fa (fun x a t => vdg 2 (lieV lies N x a t) p) N x t (bitsP N now p) := by
  unfold votesV votesG
  rw [List.map_map]
  apply List.map_congr_left
  intro a ha
  exact say_bit x t now p hp a (List.mem_range.1 ha)
theorem bits_step (x : Nat) (hx : x / 3 < N) (now : List ByteArray) (p : Nat) (hp : p < wd) : bitsP N ((List.range N).map (nextV fa lies N wd F x now)) p = exchG fa (fun x a t => vdg 2 (lieV lies N x a t) p) N F x (bitsP N now p) := by
  unfold exchG
  conv => lhs; unfold bitsP
  apply List.map_congr_left
  intro t ht
  have ht := List.mem_range.1 ht
  have e : ((List.range N).map (nextV fa lies N wd F x now)).getD t noB = nextV fa lies N wd F x now t := range_getD _ _ _ _ ht
  rw [e, bit_next _ _ _ _ _ _ _ _ _ hp]
  unfold stpB stepG
  have e1 : (bitsP N now p).getD t (0, false) = bitK (now.getD t noB) p := range_getD _ _ _ _ ht
  have e2 : (votesG fa (fun x a t => vdg 2 (lieV lies N x a t) p) N x t (bitsP N now p)).getD (x / 3) 0 = vdg 2 ((votesV fa lies N wd x t now).getD (x / 3) noB) p := by
    rw [votesV_at _ _ _ _ _ _ _ _ hx, say_bit x t now p hp _ hx]
    exact range_getD _ _ _ _ hx
  rw [votes_bit x t now p hp, e1, e2]
theorem bits_play (hN : F < N) (p : Nat) (hp : p < wd) : ∀ x, x ≤ 3 * (F + 1) → bitsP N (nowV fa lies N wd F bits x) p = playG fa (fun x a t => vdg 2 (lieV lies N x a t) p) N F (bitsP N (nowV fa lies N wd F bits 0) p) x
  | 0, _ => rfl
  | x + 1, h => by
    have ih := bits_play hN p hp x (by omega)
    show bitsP N ((List.range N).map (nextV fa lies N wd F x (nowV fa lies N wd F bits x))) p = _
    rw [bits_step x (by omega) _ p hp, ih]
    rfl
theorem start_bit (i p : Nat) (hi : i < N) (hp : p < wd) : vlF (bitsP N (nowV fa lies N wd F bits 0) p) i = if vdg 1 (bits.getD i noB) p = 1 then 1 else 0 := by
  unfold vlF
  have e : (bitsP N (nowV fa lies N wd F bits 0) p).getD i (0, false) = bitK ((nowV fa lies N wd F bits 0).getD i noB) p := range_getD _ _ _ _ hi
  have e2 : (nowV fa lies N wd F bits 0).getD i noB = dgB wd (ofG (bits.getD i noB)) := range_getD _ _ _ _ hi
  have hb := ofG_bd (bits.getD i noB) p
  rw [e, e2]
  unfold bitK
  rw [vdg_dgB hp (by omega) (by omega), ofG_int]
  unfold startF
  by_cases h : vdg 1 (bits.getD i noB) p = 1
  · rw [if_pos h, if_pos h]; rfl
  · rw [if_neg h, if_neg h]; rfl
/-- At one place: the common bit in the end. -/
theorem place_end (hF : facL fa N ≤ F) (hN : 3 * F < N) (p : Nat) (hp : p < wd) : ∃ u : Nat, u ≤ 1 ∧ (∀ i, i < N → fa i = false → stpG 0 N F ((3 * F + 2 : Nat) : Int) ((nowV fa lies N wd F bits (3 * F + 2)).getD i noB) ((votesV fa lies N wd (3 * F + 2) i (nowV fa lies N wd F bits (3 * F + 2))).getD ((3 * F + 2) / 3) noB) (votesV fa lies N wd (3 * F + 2) i (nowV fa lies N wd F bits (3 * F + 2))) p = u)
    ∧ ∀ v : Nat, v ≤ 1 → (∀ i, i < N → fa i = false → (if vdg 1 (bits.getD i noB) p = 1 then 1 else 0) = v) → u = v := by
  obtain ⟨ui, hu, hcom⟩ := agree_allG (lie := fun x a t => vdg 2 (lieV lies N x a t) p) (bs0 := bitsP N (nowV fa lies N wd F bits 0) p) hF hN
  obtain ⟨m, hm, hfm⟩ := one_honestG hF hN
  refine ⟨ui.toNat, by omega, fun i hi hf => ?_, fun v hv h => ?_⟩
  · have hc := hcom i hi hf
    rw [show 3 * (F + 1) = (3 * F + 2) + 1 by omega] at hc
    have hpl := bits_play (fa := fa) (lies := lies) (bits := bits) (wd := wd) (by omega : F < N) p hp (3 * F + 2 + 1) (by omega)
    rw [← hpl] at hc
    unfold vlF at hc
    have e : (bitsP N (nowV fa lies N wd F bits (3 * F + 2 + 1)) p).getD i (0, false) = bitK ((nowV fa lies N wd F bits (3 * F + 2 + 1)).getD i noB) p := range_getD _ _ _ _ hi
    rw [e, nowV_at _ _ _ _ _ _ _ _ hi, bit_next _ _ _ _ _ _ _ _ _ hp] at hc
    have hob : (stpB 0 N F ((3 * F + 2 : Nat) : Int) ((nowV fa lies N wd F bits (3 * F + 2)).getD i noB) ((votesV fa lies N wd (3 * F + 2) i (nowV fa lies N wd F bits (3 * F + 2))).getD ((3 * F + 2) / 3) noB) (votesV fa lies N wd (3 * F + 2) i (nowV fa lies N wd F bits (3 * F + 2))) p).2 = false := by
      unfold stpB
      rw [stepF_2 (by rw [modF3_nat]; omega)]
      exact (obey_bd _ _).2.2
    unfold stpG codeF
    rw [if_neg (by rw [hob]; decide), hc]
  · have hk := keep_endG (lie := fun x a t => vdg 2 (lieV lies N x a t) p) (bs0 := bitsP N (nowV fa lies N wd F bits 0) p) (v := (v : Int)) (by omega) hF hN (fun i hi hf => by
      rw [start_bit i p hi hp]
      have := h i hi hf
      by_cases q : vdg 1 (bits.getD i noB) p = 1
      · rw [if_pos q] at this ⊢; omega
      · rw [if_neg q] at this ⊢; omega)
    have h1 := hcom m (by omega) hfm
    have h2 := hk m (by omega) hfm
    omega
/-- All nodes that are not faulty end with one text; a bit that all of them began with stays. -/
theorem vec_end (hF : facL fa N ≤ F) (hN : 3 * F < N) : ∃ u : Nat → Nat, (∀ p, u p ≤ 1) ∧ (∀ i, i < N → fa i = false → (nowV fa lies N wd F bits (3 * (F + 1))).getD i noB = dgB wd u) ∧ ∀ p, p < wd → ∀ v : Nat, v ≤ 1 → (∀ i, i < N → fa i = false → (if vdg 1 (bits.getD i noB) p = 1 then 1 else 0) = v) → u p = v := by
  refine ⟨fun p => if h : p < wd then Classical.choose (place_end (lies := lies) (bits := bits) hF hN p h) else 0, fun p => ?_, fun i hi hf => ?_, fun p hp => ?_⟩
  · simp only
    split
    · next h => exact (Classical.choose_spec (place_end (lies := lies) (bits := bits) hF hN p h)).1
    · omega
  · rw [show 3 * (F + 1) = (3 * F + 2) + 1 by omega, nowV_at _ _ _ _ _ _ _ _ hi]
    refine dgB_congr fun p hp => ?_
    rw [dif_pos hp]
    exact (Classical.choose_spec (place_end (lies := lies) (bits := bits) hF hN p hp)).2.1 i hi hf
  · simp only
    rw [dif_pos hp]
    exact (Classical.choose_spec (place_end (lies := lies) (bits := bits) hF hN p hp)).2.2
end
/-- As many nodes are faulty as there are numbers that say so, at most. -/
theorem one_num (a : Int) : ∀ N : Nat, (List.range N).countP (fun k : Nat => decide ((k : Int) = a)) = if 0 ≤ a ∧ a < N then 1 else 0
  | 0 => by simp
  | N + 1 => by
    rw [List.range_succ, List.countP_append, one_num a N, List.countP_singleton]
    by_cases h : (N : Int) = a
    · subst h
      rw [if_neg (by omega), if_pos (by simp), if_pos (by omega)]
    · rw [if_neg (show ¬ decide ((N : Int) = a) = true by simp [h])]
      by_cases h2 : 0 ≤ a ∧ a < N
      · rw [if_pos h2, if_pos (by omega)]
      · rw [if_neg h2, if_neg (by omega)]
def faI (fs : List Int) (k : Nat) : Bool := decide ((k : Int) ∈ fs)
theorem facL_le (N : Nat) : ∀ fs : List Int, facL (faI fs) N ≤ fs.length
  | [] => by
    unfold facL faI
    simp
  | a :: l => by
    have ih := facL_le N l
    have h1 := one_num a N
    have h := countP_or (fun k : Nat => decide ((k : Int) = a)) (faI l) (faI (a :: l)) (List.range N) (fun k _ h => by
      unfold faI at h ⊢
      have h := of_decide_eq_true h
      rcases List.mem_cons.1 h with h | h
      · left; exact decide_eq_true h
      · right; exact decide_eq_true h)
    unfold facL at ih ⊢
    rw [h1] at h
    rw [List.length_cons]
    split at h <;> omega
end Go.Proofs.Ytgfdfakffkhekab
