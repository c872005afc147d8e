/- Plain mathematics of packets on the wire: sealed bytes, what is decoded of bytes by the program's way and by the document's, that both are the same, and that a right packet comes back; no Go text in sight. -/
import Derived.Test.YtcnmbpgjgjncdaaWireM
import Derived.Test.YtcnmbpgjgjncdaaTellsM
namespace Go.Proofs.Ytcnmbpgjgjncdaa
open Go.ChangeShapes Go.WideShapes Go.ChangeAt Go.RowKit
set_option linter.unusedVariables false

def plainB (p : Pk) : ByteArray := ba (plainL p)
def sealB (p : Pk) : ByteArray := plainB p ++ tailOf (plainB p)
def pkR (E R B L M : Int) (p : Pk) : Int := pRight E R B L M p.vo p.ex p.ve p.ps p.cy p.te
theorem pr_ok {E R B L M : Int} (vo : ByteArray) (ex : Int) (ve : ByteArray) (ps cy : Int) (te : ByteArray) (h : pRight E R B L M vo ex ve ps cy te = 0) : E = 0 ∧ areD vo R = true ∧ ¬ (ex < 0 ∨ R < ex ∨ (ex = 0 ∧ emp ve = false) ∨ (¬ ex = 0 ∧ areD ve B = false)) ∧ ¬ (ps < 0 ∨ L < ps) ∧ ¬ (cy < 0 ∨ M ≤ cy ∨ (ps = 0 ∧ (¬ cy = 0 ∨ emp te = false))) ∧ ¬ 16 < te.size := by
  unfold pRight at h
  by_cases e : E = 0
  · rw [if_neg (not_not_intro e)] at h
    by_cases a : areD vo R = false
    · rw [if_pos a] at h; omega
    rw [if_neg a] at h
    by_cases b : ex < 0 ∨ R < ex ∨ (ex = 0 ∧ emp ve = false) ∨ (¬ ex = 0 ∧ areD ve B = false)
    · rw [if_pos b] at h; omega
    rw [if_neg b] at h
    by_cases c : ps < 0 ∨ L < ps
    · rw [if_pos c] at h; omega
    rw [if_neg c] at h
    by_cases d : cy < 0 ∨ M ≤ cy ∨ (ps = 0 ∧ (¬ cy = 0 ∨ emp te = false))
    · rw [if_pos d] at h; omega
    rw [if_neg d] at h
    by_cases f : 16 < te.size
    · rw [if_pos f] at h; omega
    exact ⟨e, by simpa using a, b, c, d, f⟩
  · rw [if_pos e] at h; exact absurd h e
theorem digL_of {s : ByteArray} (h : Digs s) : DigL (bl s) := by
  intro b hb
  obtain ⟨i, hi, rfl⟩ := List.getElem_of_mem hb
  exact h i (by simpa [bl] using hi)
theorem emp_of {s : ByteArray} (h : ¬ emp s = false) : s = ⟨#[]⟩ := by
  have h1 : emp s = true := by simpa using h
  unfold emp at h1
  rw [Lib.toList_data] at h1
  apply bl_inj
  have : s.data.toList = [] := List.isEmpty_iff.1 h1
  exact this
theorem rightP_of {E R B L M : Int} {p : Pk} (h : pkR E R B L M p = 0) (hR : R ≤ 255) (hL : L ≤ 255) (hM : M ≤ 256) : RightP R.toNat B.toNat p := by
  obtain ⟨e, a, b, c, d, f⟩ := pr_ok _ _ _ _ _ _ h
  obtain ⟨a1, a2⟩ := areD_of a
  have b' : 0 ≤ p.ex ∧ p.ex ≤ R ∧ ¬ (p.ex = 0 ∧ emp p.ve = false) ∧ ¬ (¬ p.ex = 0 ∧ areD p.ve B = false) := by
    refine ⟨?_, ?_, ?_, ?_⟩
    · exact Int.not_lt.1 fun k => b (.inl k)
    · exact Int.not_lt.1 fun k => b (.inr (.inl k))
    · exact fun k => b (.inr (.inr (.inl k)))
    · exact fun k => b (.inr (.inr (.inr k)))
  obtain ⟨b1, b2, b3, b4⟩ := b'
  have vB : p.ex ≠ 0 → areD p.ve B = true := fun hx => by
    cases k : areD p.ve B
    · exact absurd ⟨hx, k⟩ b4
    · rfl
  refine ⟨digL_of a2, ?_, b1, by omega, ?_, ?_, ?_, by omega, by omega, ?_, ?_, ?_, by omega⟩
  · rw [bl_length]; omega
  · intro hx
    exact emp_of fun k => b3 ⟨hx, k⟩
  · intro hx
    exact digL_of (areD_of (vB hx)).2
  · intro hx
    have := (areD_of (vB hx)).1
    rw [bl_length]; omega
  · exact Int.not_lt.1 fun k => d (.inl k)
  · have : ¬ M ≤ p.cy := fun k => d (.inr (.inl k))
    omega
  · intro hz
    refine ⟨?_, ?_⟩
    · by_cases hc : p.cy = 0
      · exact hc
      · exact absurd (.inr (.inr ⟨hz, .inl hc⟩)) d
    · exact emp_of fun k => d (.inr (.inr ⟨hz, .inr k⟩))
theorem open_ok {s : ByteArray} (h : (openF s).2 = 0) : 4 ≤ s.size ∧ (openF s).1 = s.extract 0 (s.size - 4) ∧ s = (openF s).1 ++ tailOf (openF s).1 := by
  unfold openF at *
  by_cases h1 : s.size < 4
  · rw [if_pos h1] at h; simp at h
  · rw [if_neg h1] at h ⊢
    by_cases h2 : s.extract (s.size - 4) s.size = tailOf (s.extract 0 (s.size - 4))
    · rw [if_pos h2] at h ⊢
      refine ⟨by omega, rfl, ?_⟩
      rw [← h2]
      apply bl_inj
      rw [bl_append]
      simp only [bl, Lib.extract_data, List.drop_zero, Nat.sub_zero]
      have e : (s.data.toList.drop (s.size - 4)).take (s.size - (s.size - 4)) = s.data.toList.drop (s.size - 4) := List.take_of_length_le (by simp)
      rw [e, List.take_append_drop]
    · rw [if_neg h2] at h; simp at h
theorem openF_seal (b : ByteArray) : openF (b ++ tailOf b) = (b, 0) := by
  have ht := tailOf_size b
  have hs : (b ++ tailOf b).size = b.size + 4 := by rw [ByteArray.size_append, ht]
  have e1 : (b ++ tailOf b).extract 0 b.size = b := by
    apply bl_inj
    simp only [bl, Lib.extract_data, ByteArray.data_append, Array.toList_append, List.drop_zero, Nat.sub_zero]
    exact List.take_left' (by simp)
  have e2 : (b ++ tailOf b).extract b.size (b.size + 4) = tailOf b := by
    apply bl_inj
    simp only [bl, Lib.extract_data, ByteArray.data_append, Array.toList_append]
    rw [List.drop_left' (by simp)]
    exact List.take_of_length_le (by simp; omega)
  unfold openF
  rw [hs, if_neg (by omega), Nat.add_sub_cancel, e1, e2, if_pos rfl]
theorem seal_open {s : ByteArray} {p : Pk} (h : (openF s).2 = 0) : sealB p = s ↔ plainB p = (openF s).1 := by
  obtain ⟨h1, h2, h3⟩ := open_ok h
  constructor
  · intro e
    have := openF_seal (plainB p)
    unfold sealB at e
    rw [e] at this
    rw [this]
  · intro e
    unfold sealB
    rw [e]
    exact h3.symm
/-- What is decoded of bytes, by the program's way. -/
def decP (E R B L M : Int) (s : ByteArray) : Pk × Int :=
  if ¬ E = 0 then (pk0, E) else if 40 < s.size then (pk0, 6) else if ¬ (openF s).2 = 0 then (pk0, (openF s).2) else
  if pkR E R B L M (readF (bl (openF s).1) R.toNat B.toNat) = 0 ∧ sealB (readF (bl (openF s).1) R.toNat B.toNat) = s then (readF (bl (openF s).1) R.toNat B.toNat, 0) else (pk0, 3)
/-- And by the document's. -/
def decR (E R B L M : Int) (s : ByteArray) : Pk × Int :=
  if ¬ E = 0 then (pk0, E) else if 40 < s.size then (pk0, 6) else if ¬ (openF s).2 = 0 then (pk0, (openF s).2) else
  if pkR E R B L M (guessF (bl (openF s).1) R.toNat B.toNat) = 0 ∧ plainB (guessF (bl (openF s).1) R.toNat B.toNat) = (openF s).1 then (guessF (bl (openF s).1) R.toNat B.toNat, 0) else (pk0, 3)
theorem dec_eq {E R B L M : Int} (s : ByteArray) (hb : E = 0 → R ≤ 255 ∧ L ≤ 255 ∧ M ≤ 256) : decR E R B L M s = decP E R B L M s := by
  unfold decR decP
  by_cases e : E = 0
  · rw [if_neg (not_not_intro e), if_neg (not_not_intro e)]
    obtain ⟨hR, hL, hM⟩ := hb e
    by_cases h40 : 40 < s.size
    · rw [if_pos h40, if_pos h40]
    · rw [if_neg h40, if_neg h40]
      by_cases ho : (openF s).2 = 0
      · rw [if_neg (not_not_intro ho), if_neg (not_not_intro ho)]
        have key : ∀ p : Pk, pkR E R B L M p = 0 → plainB p = (openF s).1 → readF (bl (openF s).1) R.toNat B.toNat = p ∧ guessF (bl (openF s).1) R.toNat B.toNat = p := by
          intro p h1 h2
          have hp := rightP_of h1 hR hL hM
          rw [← h2, plainB, bl_ba]
          exact ⟨readF_plain hp, guessF_plain hp⟩
        by_cases hr : pkR E R B L M (readF (bl (openF s).1) R.toNat B.toNat) = 0 ∧ sealB (readF (bl (openF s).1) R.toNat B.toNat) = s
        · have k := key _ hr.1 ((seal_open ho).1 hr.2)
          rw [k.2, if_pos hr, if_pos ⟨hr.1, (seal_open ho).1 hr.2⟩]
        · rw [if_neg hr, if_neg]
          intro hg
          have k := key _ hg.1 hg.2
          apply hr
          rw [k.1]
          exact ⟨hg.1, (seal_open ho).2 hg.2⟩
      · rw [if_pos ho, if_pos ho]
  · rw [if_pos e, if_pos e]
theorem seal_size {R B : Nat} {p : Pk} (h : RightP R B p) (hR : R ≤ 15) (hB : B ≤ 21) : (sealB p).size ≤ 40 ∧ (plainB p).size ≤ 36 := by
  have hl := plainL_length h
  have ht := h.te
  have e : (plainB p).size = (plainL p).length := ba_size _
  unfold sealB
  rw [ByteArray.size_append, tailOf_size, e]
  split at hl <;> split at hl <;> omega
theorem dec_enc {E R B L M : Int} {p : Pk} (h : pkR E R B L M p = 0) (hb : E = 0 → R ≤ 15 ∧ B ≤ 21 ∧ L ≤ 255 ∧ M ≤ 256) : decP E R B L M (sealB p) = (p, 0) := by
  have e := (pr_ok _ _ _ _ _ _ h).1
  obtain ⟨hR, hB, hL, hM⟩ := hb e
  have hp := rightP_of h (by omega) hL hM
  have hs := (seal_size hp (by omega) (by omega)).1
  have ho : openF (sealB p) = (plainB p, 0) := openF_seal _
  unfold decP
  rw [if_neg (not_not_intro e), if_neg (by omega), ho, if_neg (by simp)]
  have k : readF (bl (plainB p)) R.toNat B.toNat = p := by rw [plainB, bl_ba]; exact readF_plain hp
  simp only
  rw [k, if_pos ⟨h, rfl⟩]
/-- What comes of Decode is right, and has just those bytes. -/
theorem dec_only {E R B L M : Int} {s : ByteArray} (h : (decP E R B L M s).2 = 0) : pkR E R B L M (decP E R B L M s).1 = 0 ∧ sealB (decP E R B L M s).1 = s := by
  unfold decP at *
  by_cases e : E = 0
  · rw [if_neg (not_not_intro e)] at h ⊢
    by_cases h40 : 40 < s.size
    · rw [if_pos h40] at h; simp at h
    · rw [if_neg h40] at h ⊢
      by_cases ho : (openF s).2 = 0
      · rw [if_neg (not_not_intro ho)] at h ⊢
        by_cases hr : pkR E R B L M (readF (bl (openF s).1) R.toNat B.toNat) = 0 ∧ sealB (readF (bl (openF s).1) R.toNat B.toNat) = s
        · rw [if_pos hr]; exact hr
        · rw [if_neg hr] at h; simp at h
      · rw [if_pos ho] at h; exact absurd h ho
  · rw [if_pos e] at h; exact absurd h e
theorem dec_no {E R B L M : Int} {s : ByteArray} (h : ¬ (decP E R B L M s).2 = 0) : (decP E R B L M s).1 = pk0 := by
  unfold decP at *
  by_cases e : E = 0
  · rw [if_neg (not_not_intro e)] at h ⊢
    by_cases h40 : 40 < s.size
    · rw [if_pos h40]
    · rw [if_neg h40] at h ⊢
      by_cases ho : (openF s).2 = 0
      · rw [if_neg (not_not_intro ho)] at h ⊢
        by_cases hr : pkR E R B L M (readF (bl (openF s).1) R.toNat B.toNat) = 0 ∧ sealB (readF (bl (openF s).1) R.toNat B.toNat) = s
        · rw [if_pos hr] at h; simp at h
        · rw [if_neg hr]
      · rw [if_pos ho]
  · rw [if_pos e]
/-- One byte that is another one is told. -/
theorem dec_tells {E R B L M : Int} {p : Pk} (h : pkR E R B L M p = 0) (hb : E = 0 → R ≤ 15 ∧ B ≤ 21 ∧ L ≤ 255 ∧ M ≤ 256) (k : Nat) (c : UInt8) (hk : k < (sealB p).size) (hc : ¬ (sealB p)[k] = c) : (decP E R B L M (changed (sealB p) k c)).2 = 4 := by
  have e := (pr_ok _ _ _ _ _ _ h).1
  obtain ⟨hR, hB, hL, hM⟩ := hb e
  have hp := rightP_of h (by omega) hL hM
  have hs := (seal_size hp (by omega) (by omega)).1
  have hd := changed_data (sealB p) k c hk
  have hz : (changed (sealB p) k c).size = (sealB p).size := by
    have h1 : (changed (sealB p) k c).size = (changed (sealB p) k c).data.toList.length := by simp
    rw [h1, hd, List.length_set]
    simp
  have ho : openF (changed (sealB p) k c) = (⟨#[]⟩, 4) := openF_tells (plainB p) k c hk hc
  unfold decP
  rw [if_neg (not_not_intro e), if_neg (by omega), ho, if_pos (by simp)]
end Go.Proofs.Ytcnmbpgjgjncdaa
