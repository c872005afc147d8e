/- Plain words on packets: digits, what is told at a place, what is right, without and with a message; two that are alike compare as equal; no conditions. -/
import Derived.Test.YtcnmbpgjgjncdaaConfF
import Derived.Laws.RangeString
import Derived.Laws.RangeAny
namespace Go.Proofs.Ytcnmbpgjgjncdaa
open Go.ChangeShapes Go.WideShapes Go.ChangeAt Go.RowKit
set_option linter.unusedVariables false

/-- What a byte or a rune tells. -/
def digV (c : Int) : Int := if 48 ≤ c ∧ c ≤ 50 then c - 48 else -1
theorem digV_no {c : Int} (h : ¬ (48 ≤ c ∧ c ≤ 50)) : digV c = -1 := if_neg h
theorem digV_yes {c : Int} (h : 48 ≤ c ∧ c ≤ 50) : digV c = c - 48 := if_pos h
/-- The digit at a place. -/
def dgAt (s : ByteArray) (k : Int) : Int := if h : 0 ≤ k ∧ k < s.size then digV ((s[k.toNat]'(by omega)).toNat) else -1
/-- All bytes are digits. -/
def Digs (s : ByteArray) : Prop := ∀ i, (h : i < s.size) → 48 ≤ (s[i]'h).toNat ∧ (s[i]'h).toNat ≤ 50
def digsDec (s : ByteArray) : Decidable (Digs s) := inferInstanceAs (Decidable (∀ i, (h : i < s.size) → 48 ≤ (s[i]'h).toNat ∧ (s[i]'h).toNat ≤ 50))
def areD (s : ByteArray) (n : Int) : Bool := @decide ((s.size : Int) = n ∧ Digs s) (@instDecidableAnd _ _ _ (digsDec s))
theorem areD_size {s : ByteArray} {n : Int} (h : ¬ (s.size : Int) = n) : areD s n = false := @decide_eq_false _ (_) fun k => h k.1
theorem areD_bad {s : ByteArray} {n : Int} {i : Nat} (hi : i < s.size) (h : ¬ (48 ≤ (s[i]'hi).toNat ∧ (s[i]'hi).toNat ≤ 50)) : areD s n = false := @decide_eq_false _ (_) fun k => h (k.2 i hi)
theorem areD_good {s : ByteArray} {n : Int} (h : (s.size : Int) = n) (k : Digs s) : areD s n = true := @decide_eq_true _ (_) ⟨h, k⟩
theorem areD_of {s : ByteArray} {n : Int} (h : areD s n = true) : (s.size : Int) = n ∧ Digs s := @of_decide_eq_true _ (_) h
/-- A text without a byte. -/
def emp (s : ByteArray) : Bool := s.toList.isEmpty
theorem emp_no : emp ⟨#[]⟩ = true := by simp [emp, go_sem]
/-- Why a packet is not right, of a configuration with so many exchanges, bits, slots and numbers. -/
def pRight (E R B L M : Int) (vo : ByteArray) (ex : Int) (ve : ByteArray) (ps cy : Int) (te : ByteArray) : Int :=
  if ¬ E = 0 then E else if areD vo R = false then 3 else if ex < 0 ∨ R < ex ∨ (ex = 0 ∧ emp ve = false) ∨ (¬ ex = 0 ∧ areD ve B = false) then 16 else
  if ps < 0 ∨ L < ps then 11 else if cy < 0 ∨ M ≤ cy ∨ (ps = 0 ∧ (¬ cy = 0 ∨ emp te = false)) then 2 else if 16 < te.size then 15 else 0
def bitF (ex : Int) (ve : ByteArray) (x k : Int) : Int := if x < 0 ∨ 65535 < x ∨ ¬ ex = x + 1 then -1 else dgAt ve k
/-- A packet with a message in the place of its own. -/
def carS (s : Int) : Int := if s < 0 ∨ 32 ≤ s then 0 else s + 1
def carC (s c : Int) : Int := if s < 0 ∨ 32 ≤ s then 0 else c
def carT (s : Int) (t : ByteArray) : ByteArray := if s < 0 ∨ 32 ≤ s then ⟨#[]⟩ else t
/-- So many zeros. -/
def zerosB (n : Nat) : ByteArray := ⟨(List.replicate n (48 : UInt8)).toArray⟩

theorem eqs (d : Nat) (w : World) (a : ByteArray) : (Op.equalIn (d + 1) 9 (.string a) (.string a)).run Try.prog w = .ok true w := by
  unfold Op.equalIn
  simp [run_underlying Try.underlying9]
  show (a.data == a.data) = true
  simp
theorem eqi' (d : Nat) (w : World) (a : Int) : (Op.equalIn (d + 1) 3 (.int .i64 a) (.int .i64 a)).run Try.prog w = .ok true w := by
  rw [run_equalIn_int w d 3 .i64 .i64 a a Try.underlying3]; simp
/-- Two boxes of a call's own, in a later world. -/
theorem box_two {w wl : World} {C D : Array Value} {t u : TypeId} (hb : Below ((w.alloc (.cells C t)).alloc (.cells D u)).heap.size ((w.alloc (.cells C t)).alloc (.cells D u)) wl) :
    (∀ i, wl.cell? ⟨w.heap.size, i, none⟩ = C[i]?) ∧ (∀ i, wl.cell? ⟨w.heap.size + 1, i, none⟩ = D[i]?) ∧ w.heap.size < wl.heap.size ∧ w.heap.size + 1 < wl.heap.size := by
  have hs := hb.size
  simp at hs
  refine ⟨fun i => ?_, fun i => ?_, by omega, by omega⟩
  · rw [hb.cell (p := ⟨w.heap.size, i, none⟩) (by simp; omega)]
    rw [(ballc (w.alloc (.cells C t)) (.cells D u)).cell (p := ⟨w.heap.size, i, none⟩) (by simp)]
    exact World.cell?_alloc_mark w C t _ i
  · rw [hb.cell (p := ⟨w.heap.size + 1, i, none⟩) (by simp)]
    have := World.cell?_alloc_mark (w.alloc (.cells C t)) D u (0, 0) i
    rw [World.size_alloc] at this
    exact this
end Go.Proofs.Ytcnmbpgjgjncdaa
