/- Plain mathematics of three texts together, and how a row of bytes of one's own is turned into a text; no conditions beside those named. -/
import Derived.Test.YtjecogbhkmljkabCrc
import Derived.Deep.AppendLies
namespace Go.Proofs.Ytjecogbhkmljkab
open Go.ChangeShapes Go.WideShapes Go.ChangeAt Go.RowKit
set_option linter.unusedVariables false

/-- The first k bytes of three texts together. -/
def mixL (a b c : List UInt8) (k : Nat) : List UInt8 := ((a.take k).zip ((b.take k).zip (c.take k))).map fun t => t.1 ^^^ t.2.1 ^^^ t.2.2
theorem mixL_length (a b c : List UInt8) (k : Nat) (ha : k ≤ a.length) (hb : k ≤ b.length) (hc : k ≤ c.length) : (mixL a b c k).length = k := by
  simp [mixL]
  omega
theorem mixL_succ (a b c : List UInt8) (k : Nat) (ha : k < a.length) (hb : k < b.length) (hc : k < c.length) : mixL a b c (k + 1) = mixL a b c k ++ [a[k] ^^^ b[k] ^^^ c[k]] := by
  unfold mixL
  rw [List.take_succ_eq_append_getElem ha, List.take_succ_eq_append_getElem hb, List.take_succ_eq_append_getElem hc]
  rw [List.zip_append (by simp; omega), List.zip_append (by simp; omega), List.map_append]
  rfl
theorem mixL_sum (a b c : List UInt8) (k : Nat) (ha : k ≤ a.length) (hb : k ≤ b.length) (hc : k ≤ c.length) : crcOf (mixL a b c k) = crcOf (a.take k) ^^^ crcOf (b.take k) ^^^ crcOf (c.take k) :=
  crcOf_mix _ _ _ (by simp; omega) (by simp; omega)
def byteVals (l : List UInt8) : List Value := l.map fun x => Value.int .u8 (x.toNat : Int)
theorem byteVals_snoc (l : List UInt8) (x : UInt8) : byteVals (l ++ [x]) = byteVals l ++ [.int .u8 (x.toNat : Int)] := by simp [byteVals]
theorem u8_xor_bytes (x y : UInt8) : bits .xor .u8 (x.toNat : Int) (y.toNat : Int) = ((x ^^^ y).toNat : Int) := by
  rw [u8_xor_nat _ _ x.toNat_lt y.toNat_lt, UInt8.toNat_xor]
theorem min4 {P : Program} (W : World) (ts : Array TypeId) (t : TypeId) (k : IntKind) (x y z u m : Int) (h : m ≤ x ∧ m ≤ y ∧ m ≤ z ∧ m ≤ u ∧ (m = x ∨ m = y ∨ m = z ∨ m = u)) :
    (Builtin.min_ ts t #[.int k x, .int k y, .int k z, .int k u]).run P W = .ok (.int k m) W := by
  simp [Builtin.min_, Builtin.min2]
  repeat' split
  all_goals omega

/-- A row of bytes that the call owns, as a text. -/
theorem conv_own (W : World) (base : Nat) (v : Value) (l : List UInt8) (h : W.ownsRow base 5 1 v l.length (byteVals l)) :
    (convert 27 9 v).run Try.prog W = .ok (.string ⟨l.toArray⟩) W := by
  rcases h.2 with ⟨hv, h0⟩ | ⟨g, cap, cur, hv, hb, hg, hn, hc, hs, ht⟩
  · have hl : l = [] := List.eq_nil_of_length_eq_zero h0
    subst hv hl
    rw [run_convert_bytes_string _ 27 9 5 _ _ _ Try.underlying27 Try.underlying5 Try.underlying9]
    rfl
  · subst hv
    refine run_convert_bytes_back W 27 9 5 _ cap l Try.underlying27 Try.underlying5 Try.underlying9 ?_
    intro j hj
    exact h.cells rfl j _ (by simp [byteVals, hj])
/-- What the law keeps of its row through calls that leave old memory alone. -/
def MixS (base : Nat) (v : Value) (l : List UInt8) (W : World) : Prop := W.ownsRow base 5 1 v l.length (byteVals l)
theorem MixS.drew {base : Nat} {v : Value} {l : List UInt8} {W : World} (h : MixS base v l W) : MixS base v l W.drew := h
theorem MixS.below {base : Nat} {v : Value} {l : List UInt8} {W W' : World} (h : MixS base v l W) (hb : Below W.heap.size W W') : MixS base v l W' := by
  refine World.ownsRow.kept (row := none) h ⟨hb.os, hb.tape, hb.output, hb.size, fun k hk _ => hb.block k hk⟩ ?_
  cases hv : v.ownBlock
  · exact Or.inl rfl
  · exact Or.inr (by simp)
theorem MixS.conv {base : Nat} {v : Value} {l : List UInt8} {W : World} (h : MixS base v l W) : MixS base v l W ∧ (convert 27 9 v).run Try.prog W = .ok (.string ⟨l.toArray⟩) W :=
  ⟨h, conv_own W base v l h⟩
end Go.Proofs.Ytjecogbhkmljkab
