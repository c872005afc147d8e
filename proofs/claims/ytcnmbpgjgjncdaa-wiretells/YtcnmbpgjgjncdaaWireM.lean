/- Plain mathematics of packets as bytes: digits four a byte, a packet's bytes, what is read of bytes, and that a right packet is read back; no Go text in sight. -/
import Derived.Test.YtcnmbpgjgjncdaaPacM
namespace Go.Proofs.Ytcnmbpgjgjncdaa
set_option linter.unusedVariables false

/-- A text as a list, and back. -/
def bl (s : ByteArray) : List UInt8 := s.data.toList
def ba (l : List UInt8) : ByteArray := ⟨l.toArray⟩
theorem ba_bl (s : ByteArray) : ba (bl s) = s := by simp [ba, bl]
theorem bl_ba (l : List UInt8) : bl (ba l) = l := by simp [ba, bl]
theorem bl_length (s : ByteArray) : (bl s).length = s.size := by simp [bl]
theorem bl_inj {s t : ByteArray} (h : bl s = bl t) : s = t := by rw [← ba_bl s, ← ba_bl t, h]
theorem ba_size (l : List UInt8) : (ba l).size = l.length := by simp [ba, ByteArray.size]
theorem ba_append (a b : List UInt8) : ba a ++ ba b = ba (a ++ b) := by
  apply ByteArray.ext
  simp [ba, ByteArray.data_append]
theorem bl_append (a b : ByteArray) : bl (a ++ b) = bl a ++ bl b := by simp [bl, ByteArray.data_append]
theorem ba_nil : ba [] = ⟨#[]⟩ := rfl

def dgL (l : List UInt8) (k : Nat) : Nat := (l.getD k 48).toNat - 48
/-- Four digits in a byte. -/
def pkN (l : List UInt8) (j : Nat) : Nat := dgL l (4 * j) + 4 * dgL l (4 * j + 1) + 16 * dgL l (4 * j + 2) + 64 * dgL l (4 * j + 3)
def pkL (l : List UInt8) : List UInt8 := (List.range ((l.length + 3) / 4)).map fun j => UInt8.ofNat (pkN l j)
def DigL (l : List UInt8) : Prop := ∀ b ∈ l, 48 ≤ b.toNat ∧ b.toNat ≤ 50
def unN (l : List UInt8) (a i : Nat) : Nat := 48 + (l.getD (a + i / 4) 0).toNat / 4 ^ (i % 4) % 4
/-- So many digits, from a place on. -/
def unL (l : List UInt8) (a n : Nat) : List UInt8 := (List.range n).map fun i => UInt8.ofNat (unN l a i)
theorem pkL_length (l : List UInt8) : (pkL l).length = (l.length + 3) / 4 := by simp [pkL]
theorem unL_length (l : List UInt8) (a n : Nat) : (unL l a n).length = n := by simp [unL]
theorem dgL_le {l : List UInt8} (h : DigL l) (k : Nat) : dgL l k ≤ 2 := by
  unfold dgL
  by_cases hk : k < l.length
  · have := h l[k] (List.getElem_mem hk)
    rw [List.getD_eq_getElem?_getD, List.getElem?_eq_getElem hk, Option.getD_some]
    omega
  · rw [List.getD_eq_getElem?_getD, List.getElem?_eq_none (by omega)]
    decide
theorem dgL_at {l : List UInt8} (k : Nat) (hk : k < l.length) : dgL l k = l[k].toNat - 48 := by
  unfold dgL
  rw [List.getD_eq_getElem?_getD, List.getElem?_eq_getElem hk, Option.getD_some]
theorem pkN_lt {l : List UInt8} (h : DigL l) (j : Nat) : pkN l j < 256 := by
  have h0 := dgL_le h (4 * j)
  have h1 := dgL_le h (4 * j + 1)
  have h2 := dgL_le h (4 * j + 2)
  have h3 := dgL_le h (4 * j + 3)
  unfold pkN
  omega
theorem pk_digit {l : List UInt8} (h : DigL l) (j r : Nat) (hr : r < 4) : pkN l j / 4 ^ r % 4 = dgL l (4 * j + r) := by
  have h0 := dgL_le h (4 * j)
  have h1 := dgL_le h (4 * j + 1)
  have h2 := dgL_le h (4 * j + 2)
  have h3 := dgL_le h (4 * j + 3)
  unfold pkN
  obtain rfl | rfl | rfl | rfl : r = 0 ∨ r = 1 ∨ r = 2 ∨ r = 3 := by omega
  · simp only [Nat.pow_zero, Nat.div_one, Nat.add_zero]; omega
  · simp only [Nat.pow_one]; omega
  · simp only [show (4 : Nat) ^ 2 = 16 by decide]; omega
  · simp only [show (4 : Nat) ^ 3 = 64 by decide]; omega
theorem getD_mid (A M B : List UInt8) (k : Nat) (hk : k < M.length) (d : UInt8) : (A ++ M ++ B).getD (A.length + k) d = M[k] := by
  rw [List.getD_eq_getElem?_getD, List.append_assoc, List.getElem?_append_right (by omega), Nat.add_sub_cancel_left, List.getElem?_append_left hk, List.getElem?_eq_getElem hk, Option.getD_some]
theorem unL_pkL {l : List UInt8} (h : DigL l) (A B : List UInt8) : unL (A ++ pkL l ++ B) A.length l.length = l := by
  apply List.ext_getElem
  · rw [unL_length]
  · intro i h1 h2
    have hj : i / 4 < (pkL l).length := by rw [pkL_length]; omega
    have e : unN (A ++ pkL l ++ B) A.length i = l[i].toNat := by
      unfold unN
      rw [getD_mid A (pkL l) B (i / 4) hj 0]
      have e1 : (pkL l)[i / 4] = UInt8.ofNat (pkN l (i / 4)) := by simp [pkL]
      rw [e1, UInt8.toNat_ofNat_of_lt' (pkN_lt h _), pk_digit h _ _ (Nat.mod_lt _ (by omega))]
      have e2 : 4 * (i / 4) + i % 4 = i := by omega
      rw [e2, dgL_at i h2]
      have := h l[i] (List.getElem_mem h2)
      omega
    simp only [unL, List.getElem_map, List.getElem_range]
    rw [e]
    simp

/-- A packet. -/
structure Pk where
  vo : ByteArray
  ex : Int
  ve : ByteArray
  ps : Int
  cy : Int
  te : ByteArray
def pk0 : Pk := ⟨⟨#[]⟩, 0, ⟨#[]⟩, 0, 0, ⟨#[]⟩⟩
/-- Its bytes, without their sum. -/
def tagN (ex ps : Int) : Nat := 64 + (if ex = 0 then 0 else 1) + (if ps = 0 then 0 else 2)
def partL (ex : Int) (ve : ByteArray) : List UInt8 := if ex = 0 then [] else UInt8.ofNat ex.toNat :: pkL (bl ve)
def msgL (ps cy : Int) (te : ByteArray) : List UInt8 := if ps = 0 then [] else UInt8.ofNat ps.toNat :: UInt8.ofNat cy.toNat :: UInt8.ofNat te.size :: bl te
def plainL (p : Pk) : List UInt8 := UInt8.ofNat (tagN p.ex p.ps) :: (pkL (bl p.vo) ++ (partL p.ex p.ve ++ msgL p.ps p.cy p.te))
/-- What is right of a packet, as far as its bytes ask. -/
structure RightP (R B : Nat) (p : Pk) : Prop where
  vo : DigL (bl p.vo)
  vl : (bl p.vo).length = R
  e0 : 0 ≤ p.ex
  e1 : p.ex ≤ 255
  ez : p.ex = 0 → p.ve = ⟨#[]⟩
  ve : p.ex ≠ 0 → DigL (bl p.ve)
  vb : p.ex ≠ 0 → (bl p.ve).length = B
  s0 : 0 ≤ p.ps
  s1 : p.ps ≤ 255
  c0 : 0 ≤ p.cy
  c1 : p.cy ≤ 255
  pz : p.ps = 0 → p.cy = 0 ∧ p.te = ⟨#[]⟩
  te : p.te.size ≤ 16
/-- What the program reads of bytes. -/
def nb (l : List UInt8) (a : Nat) : Nat := (l.getD a 0).toNat
def adv (l : List UInt8) (a n : Nat) : Nat := min (a + n) l.length
def rdA (l : List UInt8) (R : Nat) : Nat := adv l (adv l 0 1) ((R + 3) / 4)
def rdB (l : List UInt8) (R B : Nat) : Nat := if nb l 0 % 2 = 1 then adv l (adv l (rdA l R) 1) ((B + 3) / 4) else rdA l R
def rdT (l : List UInt8) (a n : Nat) : List UInt8 := (l.drop a).take n
def readF (l : List UInt8) (R B : Nat) : Pk where
  vo := ba (unL l (adv l 0 1) R)
  ex := if nb l 0 % 2 = 1 then nb l (rdA l R) else 0
  ve := if nb l 0 % 2 = 1 then ba (unL l (adv l (rdA l R) 1) B) else ⟨#[]⟩
  ps := if nb l 0 / 2 % 2 = 1 then nb l (rdB l R B) else 0
  cy := if nb l 0 / 2 % 2 = 1 then nb l (adv l (rdB l R B) 1) else 0
  te := if nb l 0 / 2 % 2 = 1 then ba (rdT l (adv l (adv l (adv l (rdB l R B) 1) 1) 1) (nb l (adv l (adv l (rdB l R B) 1) 1))) else ⟨#[]⟩
/-- What the document's answer guesses of bytes. -/
def unp (l : List UInt8) (a n : Nat) : List UInt8 := if n = 0 ∨ a + (n - 1) / 4 < l.length then unL l a n else []
def guA (R : Nat) : Nat := 1 + (R + 3) / 4
def guX (l : List UInt8) (R : Nat) : Bool := decide (nb l 0 % 2 = 1 ∧ guA R < l.length)
def guB (l : List UInt8) (R B : Nat) : Nat := if guX l R = true then guA R + 1 + (B + 3) / 4 else guA R
def guY (l : List UInt8) (R B : Nat) : Bool := decide (nb l 0 / 2 % 2 = 1 ∧ guB l R B + 2 < l.length)
def guessF (l : List UInt8) (R B : Nat) : Pk :=
  if l.length = 0 then pk0 else
  { vo := ba (unp l 1 R)
    ex := if guX l R = true then nb l (guA R) else 0
    ve := if guX l R = true then ba (unp l (guA R + 1) B) else ⟨#[]⟩
    ps := if guY l R B = true then nb l (guB l R B) else 0
    cy := if guY l R B = true then nb l (guB l R B + 1) else 0
    te := if guY l R B = true then ba (l.drop (guB l R B + 3)) else ⟨#[]⟩ }

theorem nb_mid (A : List UInt8) (x : Nat) (B : List UInt8) (hx : x < 256) : nb (A ++ UInt8.ofNat x :: B) A.length = x := by
  unfold nb
  rw [List.getD_eq_getElem?_getD, List.getElem?_append_right (Nat.le_refl _), Nat.sub_self]
  simp only [List.getElem?_cons_zero, Option.getD_some]
  rw [UInt8.toNat_ofNat_of_lt' hx]
theorem adv_in (l : List UInt8) (a n : Nat) (h : a + n ≤ l.length) : adv l a n = a + n := by unfold adv; omega
theorem tagN_lt (ex ps : Int) : tagN ex ps < 256 := by unfold tagN; split <;> split <;> omega
theorem tag_odd (ex ps : Int) : tagN ex ps % 2 = if ex = 0 then 0 else 1 := by unfold tagN; split <;> split <;> omega
theorem tag_two (ex ps : Int) : tagN ex ps / 2 % 2 = if ps = 0 then 0 else 1 := by unfold tagN; split <;> split <;> omega
theorem plainL_tag (p : Pk) : nb (plainL p) 0 = tagN p.ex p.ps := nb_mid [] (tagN p.ex p.ps) _ (tagN_lt _ _)
theorem partL_length {R B : Nat} {p : Pk} (h : RightP R B p) : (partL p.ex p.ve).length = if p.ex = 0 then 0 else 1 + (B + 3) / 4 := by
  unfold partL
  split
  · rfl
  · rename_i hx
    rw [List.length_cons, pkL_length, h.vb hx]
    omega
theorem plainL_length {R B : Nat} {p : Pk} (h : RightP R B p) : (plainL p).length = 1 + (R + 3) / 4 + (if p.ex = 0 then 0 else 1 + (B + 3) / 4) + (if p.ps = 0 then 0 else 3 + p.te.size) := by
  unfold plainL
  rw [List.length_cons, List.length_append, List.length_append, pkL_length, h.vl, partL_length h]
  have e : (msgL p.ps p.cy p.te).length = if p.ps = 0 then 0 else 3 + p.te.size := by
    unfold msgL
    split
    · rfl
    · simp only [List.length_cons, bl_length]; omega
  rw [e]
  omega
/-- The votes of a packet's bytes. -/
theorem plain_vo {R B : Nat} {p : Pk} (h : RightP R B p) : unL (plainL p) 1 R = bl p.vo := by
  have := unL_pkL h.vo [UInt8.ofNat (tagN p.ex p.ps)] (partL p.ex p.ve ++ msgL p.ps p.cy p.te)
  rw [h.vl] at this
  simpa [plainL] using this
theorem plain_ex {R B : Nat} {p : Pk} (h : RightP R B p) (hx : p.ex ≠ 0) : nb (plainL p) (1 + (R + 3) / 4) = p.ex.toNat ∧ unL (plainL p) (1 + (R + 3) / 4 + 1) B = bl p.ve := by
  have e0 := h.e0
  have e1 := h.e1
  have hA : (UInt8.ofNat (tagN p.ex p.ps) :: pkL (bl p.vo)).length = 1 + (R + 3) / 4 := by rw [List.length_cons, pkL_length, h.vl]; omega
  have hp : plainL p = (UInt8.ofNat (tagN p.ex p.ps) :: pkL (bl p.vo)) ++ UInt8.ofNat p.ex.toNat :: (pkL (bl p.ve) ++ msgL p.ps p.cy p.te) := by
    unfold plainL partL
    rw [if_neg hx]
    simp
  constructor
  · rw [hp, ← hA]
    exact nb_mid _ _ _ (by omega)
  · have := unL_pkL (h.ve hx) ((UInt8.ofNat (tagN p.ex p.ps) :: pkL (bl p.vo)) ++ [UInt8.ofNat p.ex.toNat]) (msgL p.ps p.cy p.te)
    rw [h.vb hx, List.length_append, hA, List.length_singleton] at this
    rw [hp]
    simpa using this
def offN (R B : Nat) (ex : Int) : Nat := 1 + (R + 3) / 4 + (if ex = 0 then 0 else 1 + (B + 3) / 4)
theorem plain_ps {R B : Nat} {p : Pk} (h : RightP R B p) (hx : p.ps ≠ 0) :
    nb (plainL p) (offN R B p.ex) = p.ps.toNat ∧ nb (plainL p) (offN R B p.ex + 1) = p.cy.toNat ∧ nb (plainL p) (offN R B p.ex + 1 + 1) = p.te.size ∧ (plainL p).drop (offN R B p.ex + 3) = bl p.te := by
  have s0 := h.s0
  have s1 := h.s1
  have c0 := h.c0
  have c1 := h.c1
  have t1 := h.te
  have hA : (UInt8.ofNat (tagN p.ex p.ps) :: (pkL (bl p.vo) ++ partL p.ex p.ve)).length = offN R B p.ex := by
    unfold offN
    rw [List.length_cons, List.length_append, pkL_length, h.vl, partL_length h]; omega
  have hp : plainL p = (UInt8.ofNat (tagN p.ex p.ps) :: (pkL (bl p.vo) ++ partL p.ex p.ve)) ++ UInt8.ofNat p.ps.toNat :: UInt8.ofNat p.cy.toNat :: UInt8.ofNat p.te.size :: bl p.te := by
    unfold plainL msgL
    rw [if_neg hx]
    simp
  generalize UInt8.ofNat (tagN p.ex p.ps) :: (pkL (bl p.vo) ++ partL p.ex p.ve) = A at *
  rw [hp, ← hA]
  refine ⟨nb_mid _ _ _ (by omega), ?_, ?_, ?_⟩
  · have := nb_mid (A ++ [UInt8.ofNat p.ps.toNat]) p.cy.toNat (UInt8.ofNat p.te.size :: bl p.te) (by omega)
    rw [List.length_append, List.length_singleton] at this
    simpa using this
  · have := nb_mid (A ++ [UInt8.ofNat p.ps.toNat, UInt8.ofNat p.cy.toNat]) p.te.size (bl p.te) (by omega)
    rw [List.length_append] at this
    simpa using this
  · rw [List.drop_append, List.drop_eq_nil_of_le (by omega), Nat.add_sub_cancel_left]
    simp
theorem readF_plain {R B : Nat} {p : Pk} (h : RightP R B p) : readF (plainL p) R B = p := by
  have hl := plainL_length h
  have ht := plainL_tag p
  have ho := tag_odd p.ex p.ps
  have hw := tag_two p.ex p.ps
  rw [← ht] at ho hw
  have a1 : adv (plainL p) 0 1 = 1 := by rw [adv_in _ _ _ (by omega)]
  have a2 : rdA (plainL p) R = 1 + (R + 3) / 4 := by unfold rdA; rw [a1, adv_in _ _ _ (by omega)]
  have a3 : rdB (plainL p) R B = offN R B p.ex := by
    unfold rdB offN
    by_cases hx : p.ex = 0
    · rw [if_pos hx] at ho
      rw [if_neg (by omega), if_pos hx, a2]
      omega
    · rw [if_neg hx] at ho
      rw [if_neg hx] at hl
      have k : adv (plainL p) (1 + (R + 3) / 4) 1 = 1 + (R + 3) / 4 + 1 := adv_in _ _ _ (by omega)
      rw [if_pos ho, if_neg hx, a2, k, adv_in _ _ _ (by omega)]
      omega
  have hvo := plain_vo h
  have e0 := h.e0
  have s0 := h.s0
  have c0 := h.c0
  have x1 : (if nb (plainL p) 0 % 2 = 1 then (nb (plainL p) (rdA (plainL p) R) : Int) else 0) = p.ex := by
    by_cases hx : p.ex = 0
    · rw [if_pos hx] at ho
      rw [if_neg (by omega), hx]
    · rw [if_neg hx] at ho
      rw [if_pos ho, a2, (plain_ex h hx).1]
      omega
  have x2 : (if nb (plainL p) 0 % 2 = 1 then ba (unL (plainL p) (adv (plainL p) (rdA (plainL p) R) 1) B) else ⟨#[]⟩) = p.ve := by
    by_cases hx : p.ex = 0
    · rw [if_pos hx] at ho
      rw [if_neg (by omega), h.ez hx]
    · rw [if_neg hx] at ho
      rw [if_neg hx] at hl
      rw [if_pos ho, a2, adv_in _ _ _ (by omega), (plain_ex h hx).2, ba_bl]
  by_cases hp : p.ps = 0
  · obtain ⟨hc, hte⟩ := h.pz hp
    rw [if_pos hp] at hw
    have hn : ¬ nb (plainL p) 0 / 2 % 2 = 1 := by omega
    obtain ⟨vo, ex, ve, ps, cy, te⟩ := p
    simp only [readF, if_neg hn, x1, x2, a1, hvo, ba_bl] at *
    rw [hp, hc, hte]
  · have hw' : nb (plainL p) 0 / 2 % 2 = 1 := by rw [hw, if_neg hp]
    obtain ⟨p1, p2, p3, p4⟩ := plain_ps h hp
    have hlo : offN R B p.ex + 3 + p.te.size = (plainL p).length := by
      rw [hl, if_neg hp]; unfold offN; omega
    have b1 : adv (plainL p) (offN R B p.ex) 1 = offN R B p.ex + 1 := adv_in _ _ _ (by omega)
    have b2 : adv (plainL p) (offN R B p.ex + 1) 1 = offN R B p.ex + 1 + 1 := adv_in _ _ _ (by omega)
    have b3 : adv (plainL p) (offN R B p.ex + 1 + 1) 1 = offN R B p.ex + 3 := by rw [adv_in _ _ _ (by omega)]
    have x3 : (rdT (plainL p) (offN R B p.ex + 3) p.te.size) = bl p.te := by
      unfold rdT
      rw [p4, List.take_of_length_le (by rw [bl_length]; omega)]
    have i1 : ((p.ps.toNat : Nat) : Int) = p.ps := by omega
    have i2 : ((p.cy.toNat : Nat) : Int) = p.cy := by omega
    unfold readF
    rw [x1, x2, a1, hvo, ba_bl, a3, if_pos hw', if_pos hw', if_pos hw', b1, b2, b3, p1, p2, p3, x3, ba_bl, i1, i2]
theorem unp_in (l : List UInt8) (a n : Nat) (h : a + (n + 3) / 4 ≤ l.length) : unp l a n = unL l a n := by
  unfold unp
  rw [if_pos (by omega)]
theorem guessF_plain {R B : Nat} {p : Pk} (h : RightP R B p) : guessF (plainL p) R B = p := by
  have hl := plainL_length h
  have ht := plainL_tag p
  have ho := tag_odd p.ex p.ps
  have hw := tag_two p.ex p.ps
  rw [← ht] at ho hw
  have e0 := h.e0
  have s0 := h.s0
  have c0 := h.c0
  have x0 : unp (plainL p) 1 R = bl p.vo := by rw [unp_in _ _ _ (by omega), plain_vo h]
  have hX : guX (plainL p) R = decide (p.ex ≠ 0) := by
    unfold guX guA
    by_cases hx : p.ex = 0
    · rw [if_pos hx] at ho
      rw [decide_eq_false (by omega), decide_eq_false (by simp [hx])]
    · rw [if_neg hx] at ho hl
      rw [decide_eq_true (by omega), decide_eq_true hx]
  have hB : guB (plainL p) R B = offN R B p.ex := by
    unfold guB offN guA
    rw [hX]
    by_cases hx : p.ex = 0
    · simp [hx]
    · simp [hx]; omega
  have x1 : (if guX (plainL p) R = true then (nb (plainL p) (guA R) : Int) else 0) = p.ex := by
    rw [hX]
    by_cases hx : p.ex = 0
    · simp [hx]
    · rw [if_pos (by simp [hx]), guA, (plain_ex h hx).1]
      omega
  have x2 : (if guX (plainL p) R = true then ba (unp (plainL p) (guA R + 1) B) else ⟨#[]⟩) = p.ve := by
    rw [hX]
    by_cases hx : p.ex = 0
    · simp [hx, h.ez hx]
    · rw [if_neg hx] at hl
      rw [if_pos (by simp [hx]), guA, unp_in _ _ _ (by omega), (plain_ex h hx).2, ba_bl]
  have hnz : ¬ (plainL p).length = 0 := by omega
  by_cases hp : p.ps = 0
  · obtain ⟨hc, hte⟩ := h.pz hp
    rw [if_pos hp] at hw
    have hY : ¬ guY (plainL p) R B = true := by
      unfold guY
      rw [decide_eq_false (by omega)]
      decide
    unfold guessF
    rw [if_neg hnz, x0, x1, x2, if_neg hY, if_neg hY, if_neg hY, ba_bl]
    obtain ⟨vo, ex, ve, ps, cy, te⟩ := p
    simp only at hp hc hte ⊢
    rw [hp, hc, hte]
  · have hw' : nb (plainL p) 0 / 2 % 2 = 1 := by rw [hw, if_neg hp]
    obtain ⟨p1, p2, p3, p4⟩ := plain_ps h hp
    have hlo : offN R B p.ex + 3 + p.te.size = (plainL p).length := by
      rw [hl, if_neg hp]; unfold offN; omega
    have hY : guY (plainL p) R B = true := by
      unfold guY
      rw [hB]
      exact decide_eq_true (by omega)
    have i1 : ((p.ps.toNat : Nat) : Int) = p.ps := by omega
    have i2 : ((p.cy.toNat : Nat) : Int) = p.cy := by omega
    unfold guessF
    rw [if_neg hnz, x0, x1, x2, if_pos hY, if_pos hY, if_pos hY, hB, p1, p2, p4, ba_bl, ba_bl, i1, i2]
end Go.Proofs.Ytcnmbpgjgjncdaa
