/- Plain mathematics of the CRC-32 sum: each step loses nothing, sums are linear in what is summed; no Go text in sight. -/
import Derived.Test.YtcnmbpgjgjncdaaPut
namespace Go.Proofs.Ytcnmbpgjgjncdaa
set_option linter.unusedVariables false

/-- One bit's part of the sum. -/
def crcStep (x : Nat) : Nat := if x % 2 = 1 then (x / 2) ^^^ 3988292384 else x / 2
def crcSteps : Nat → Nat → Nat
  | 0, x => x
  | k + 1, x => crcStep (crcSteps k x)
/-- One byte's part of the sum. -/
def crcByte (x b : Nat) : Nat := crcSteps 8 (x ^^^ b)
def crcRaw (x : Nat) (l : List UInt8) : Nat := l.foldl (fun r b => crcByte r b.toNat) x
/-- The sum. -/
def crcOf (l : List UInt8) : Nat := crcRaw 4294967295 l ^^^ 4294967295

theorem xor_lt32 {a b : Nat} (ha : a < 4294967296) (hb : b < 4294967296) : a ^^^ b < 4294967296 := by
  have h : (4294967296 : Nat) = 2 ^ 32 := by decide
  rw [h] at *
  exact Nat.xor_lt_two_pow ha hb
theorem crcStep_lt {x : Nat} (h : x < 4294967296) : crcStep x < 4294967296 := by
  unfold crcStep
  split
  · exact xor_lt32 (by omega) (by decide)
  · omega
theorem crcSteps_lt : ∀ (k : Nat) {x : Nat}, x < 4294967296 → crcSteps k x < 4294967296
  | 0, _, h => h
  | k + 1, _, h => crcStep_lt (crcSteps_lt k h)
theorem crcByte_lt {x b : Nat} (h : x < 4294967296) (hb : b < 256) : crcByte x b < 4294967296 := crcSteps_lt 8 (xor_lt32 h (by omega))
theorem crcRaw_lt : ∀ (l : List UInt8) {x : Nat}, x < 4294967296 → crcRaw x l < 4294967296
  | [], _, h => h
  | b :: l, x, h => crcRaw_lt l (crcByte_lt h b.toNat_lt)
theorem crcOf_lt (l : List UInt8) : crcOf l < 4294967296 := xor_lt32 (crcRaw_lt l (by decide)) (by decide)
theorem crcRaw_snoc (x : Nat) (l : List UInt8) (b : UInt8) : crcRaw x (l ++ [b]) = crcByte (crcRaw x l) b.toNat := by
  simp [crcRaw, List.foldl_append]

theorem xor_half (x y : Nat) : (x ^^^ y) / 2 = x / 2 ^^^ y / 2 := by
  have := Nat.shiftRight_xor_distrib (a := x) (b := y) (i := 1)
  simpa [Nat.shiftRight_succ] using this
theorem xor_odd (x y : Nat) : (x ^^^ y) % 2 = (x % 2 + y % 2) % 2 := by
  have := Nat.xor_mod_two_pow (a := x) (b := y) (n := 1)
  simp only [Nat.pow_one] at this
  rw [this]
  have hx : x % 2 = 0 ∨ x % 2 = 1 := by omega
  have hy : y % 2 = 0 ∨ y % 2 = 1 := by omega
  rcases hx with h | h <;> rcases hy with g | g <;> rw [h, g] <;> decide
theorem crcStep_xor (x y : Nat) : crcStep (x ^^^ y) = crcStep x ^^^ crcStep y := by
  have h := xor_odd x y
  have e := xor_half x y
  have hx : x % 2 = 0 ∨ x % 2 = 1 := by omega
  have hy : y % 2 = 0 ∨ y % 2 = 1 := by omega
  unfold crcStep
  rcases hx with hx | hx <;> rcases hy with hy | hy <;> rw [hx, hy] at h <;> simp only [Nat.reduceAdd, Nat.reduceMod] at h <;> rw [h, hx, hy, e] <;> simp
  · ac_rfl
  · ac_rfl
  · have : x / 2 ^^^ 3988292384 ^^^ (y / 2 ^^^ 3988292384) = x / 2 ^^^ y / 2 ^^^ (3988292384 ^^^ 3988292384) := by ac_rfl
    rw [this, Nat.xor_self, Nat.xor_zero]
theorem crcSteps_xor : ∀ (k x y : Nat), crcSteps k (x ^^^ y) = crcSteps k x ^^^ crcSteps k y
  | 0, _, _ => rfl
  | k + 1, x, y => by simp only [crcSteps]; rw [crcSteps_xor k, crcStep_xor]
theorem crcByte_xor (x y b c : Nat) : crcByte (x ^^^ y) (b ^^^ c) = crcByte x b ^^^ crcByte y c := by
  unfold crcByte
  rw [← crcSteps_xor]
  congr 1
  ac_rfl
/-- A step loses nothing: the highest bit tells whether the number was odd. -/
theorem crcStep_inj {x y : Nat} (hx : x < 4294967296) (hy : y < 4294967296) (h : crcStep x = crcStep y) : x = y := by
  have top : ∀ z : Nat, z < 4294967296 → (2147483648 ≤ crcStep z ↔ z % 2 = 1) := by
    intro z hz
    unfold crcStep
    split
    · rename_i h1
      simp only [h1, iff_true]
      have hb : (z / 2 ^^^ 3988292384).testBit 31 = true := by
        rw [Nat.testBit_xor, Nat.testBit_lt_two_pow (show z / 2 < 2 ^ 31 by omega)]
        decide
      exact Nat.le_of_not_lt fun hlt => by
        rw [Nat.testBit_lt_two_pow (show _ < 2 ^ 31 from hlt)] at hb
        exact absurd hb (by decide)
    · rename_i h1
      constructor
      · intro h2; omega
      · intro h2; exact absurd h2 h1
  have tx := top x hx
  have ty := top y hy
  rw [h] at tx
  have hp : x % 2 = 1 ↔ y % 2 = 1 := tx.symm.trans ty
  unfold crcStep at h
  by_cases hxo : x % 2 = 1
  · have hyo := hp.1 hxo
    rw [if_pos hxo, if_pos hyo] at h
    have := congrArg (· ^^^ 3988292384) h
    simp only [Nat.xor_assoc, Nat.xor_self, Nat.xor_zero] at this
    omega
  · have hyo : ¬ y % 2 = 1 := fun g => hxo (hp.2 g)
    rw [if_neg hxo, if_neg hyo] at h
    omega
theorem crcSteps_inj : ∀ (k : Nat) {x y : Nat}, x < 4294967296 → y < 4294967296 → crcSteps k x = crcSteps k y → x = y
  | 0, _, _, _, _, h => h
  | k + 1, _, _, hx, hy, h => crcSteps_inj k hx hy (crcStep_inj (crcSteps_lt k hx) (crcSteps_lt k hy) h)
theorem xor_cancel_right {x y b : Nat} (h : x ^^^ b = y ^^^ b) : x = y := by
  have := congrArg (· ^^^ b) h
  simpa only [Nat.xor_assoc, Nat.xor_self, Nat.xor_zero] using this
theorem xor_cancel_left {x b c : Nat} (h : x ^^^ b = x ^^^ c) : b = c := by
  rw [Nat.xor_comm x b, Nat.xor_comm x c] at h
  exact xor_cancel_right h
theorem crcByte_inj {x y b : Nat} (hx : x < 4294967296) (hy : y < 4294967296) (hb : b < 256) (h : crcByte x b = crcByte y b) : x = y :=
  xor_cancel_right (crcSteps_inj 8 (xor_lt32 hx (by omega)) (xor_lt32 hy (by omega)) h)
theorem crcByte_inj' {x b c : Nat} (hx : x < 4294967296) (hb : b < 256) (hc : c < 256) (h : crcByte x b = crcByte x c) : b = c :=
  xor_cancel_left (crcSteps_inj 8 (xor_lt32 hx (by omega)) (xor_lt32 hx (by omega)) h)
theorem crcRaw_inj : ∀ (l : List UInt8) {x y : Nat}, x < 4294967296 → y < 4294967296 → crcRaw x l = crcRaw y l → x = y
  | [], _, _, _, _, h => h
  | b :: l, _, _, hx, hy, h => crcByte_inj hx hy b.toNat_lt (crcRaw_inj l (crcByte_lt hx b.toNat_lt) (crcByte_lt hy b.toNat_lt) h)
/-- One byte that is another one makes another sum. -/
theorem crcOf_tells (l r : List UInt8) (b c : UInt8) (h : crcOf (l ++ b :: r) = crcOf (l ++ c :: r)) : b = c := by
  have h1 := xor_cancel_right h
  unfold crcRaw at h1
  rw [List.foldl_append, List.foldl_append, List.foldl_cons, List.foldl_cons] at h1
  have hl := crcRaw_lt l (show 4294967295 < 4294967296 by decide)
  have h2 := crcRaw_inj r (crcByte_lt hl b.toNat_lt) (crcByte_lt hl c.toNat_lt) h1
  exact UInt8.toNat.inj (crcByte_inj' hl b.toNat_lt c.toNat_lt h2)
theorem crcRaw_mix : ∀ (a b c : List UInt8), b.length = a.length → c.length = a.length → ∀ x y z : Nat,
    crcRaw (x ^^^ y ^^^ z) ((a.zip (b.zip c)).map fun t => t.1 ^^^ t.2.1 ^^^ t.2.2) = crcRaw x a ^^^ crcRaw y b ^^^ crcRaw z c
  | [], b, c, hb, hc, x, y, z => by
    have hb' := List.eq_nil_of_length_eq_zero hb
    have hc' := List.eq_nil_of_length_eq_zero hc
    subst hb' hc'
    rfl
  | p :: a, [], c, hb, hc, x, y, z => by simp at hb
  | p :: a, q :: b, [], hb, hc, x, y, z => by simp at hc
  | p :: a, q :: b, r :: c, hb, hc, x, y, z => by
    have hb' : b.length = a.length := by simpa using hb
    have hc' : c.length = a.length := by simpa using hc
    have ih := crcRaw_mix a b c hb' hc' (crcByte x p.toNat) (crcByte y q.toNat) (crcByte z r.toNat)
    have e : crcByte (x ^^^ y ^^^ z) (p ^^^ q ^^^ r).toNat = crcByte x p.toNat ^^^ crcByte y q.toNat ^^^ crcByte z r.toNat := by
      rw [UInt8.toNat_xor, UInt8.toNat_xor, crcByte_xor, crcByte_xor]
    rw [← e] at ih
    exact ih
/-- The sum of what three texts of one length are together is their three sums together. -/
theorem crcOf_mix (a b c : List UInt8) (hb : b.length = a.length) (hc : c.length = a.length) :
    crcOf ((a.zip (b.zip c)).map fun t => t.1 ^^^ t.2.1 ^^^ t.2.2) = crcOf a ^^^ crcOf b ^^^ crcOf c := by
  unfold crcOf
  have h := crcRaw_mix a b c hb hc 4294967295 4294967295 4294967295
  have e0 : (4294967295 ^^^ 4294967295 ^^^ 4294967295 : Nat) = 4294967295 := by decide
  rw [e0] at h
  rw [h]
  generalize crcRaw 4294967295 a = A
  generalize crcRaw 4294967295 b = B
  generalize crcRaw 4294967295 c = C
  generalize (4294967295 : Nat) = M
  have e : A ^^^ M ^^^ (B ^^^ M) ^^^ (C ^^^ M) = A ^^^ B ^^^ C ^^^ M ^^^ (M ^^^ M) := by ac_rfl
  rw [e, Nat.xor_self, Nat.xor_zero]
end Go.Proofs.Ytcnmbpgjgjncdaa
