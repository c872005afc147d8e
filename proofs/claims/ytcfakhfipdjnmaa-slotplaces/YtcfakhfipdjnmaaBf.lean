/- Several texts of one's own in one: what each proves, and its conditions, is said ahead of it. -/
import Derived.Test.YtcfakhfipdjnmaaBa
import Derived.Test.YtcfakhfipdjnmaaBc
import Derived.Test.YtcfakhfipdjnmaaBe
import Derived.Test.YtcfakhfipdjnmaaBd

/- Texts as lists of bytes, and back; no conditions. -/
namespace Go.Proofs.Ytcfakhfipdjnmaa
set_option linter.unusedVariables false

/-- A text as a list, and back. -/
def bl (s : ByteArray) : List UInt8 := s.data.toList
def ba (l : List UInt8) : ByteArray := ⟨l.toArray⟩
theorem ba_bl (s : ByteArray) : ba (bl s) = s := by simp [ba, bl]
theorem bl_ba (l : List UInt8) : bl (ba l) = l := by simp [ba, bl]
theorem bl_length (s : ByteArray) : (bl s).length = s.size := by simp [bl]
theorem bl_inj {s t : ByteArray} (h : bl s = bl t) : s = t := by rw [← ba_bl s, ← ba_bl t, h]
theorem ba_size (l : List UInt8) : (ba l).size = l.length := by simp [ba, ByteArray.size]
theorem ba_append (a b : List UInt8) : ba a ++ ba b = ba (a ++ b) := by
  apply ByteArray.ext
  simp [ba, ByteArray.data_append]
theorem bl_append (a b : ByteArray) : bl (a ++ b) = bl a ++ bl b := by simp [bl, ByteArray.data_append]
theorem ba_nil : ba [] = ⟨#[]⟩ := rfl

end Go.Proofs.Ytcfakhfipdjnmaa

/- The call marks of the statement SchedOnce returns the text with a 1 at one place more, and makes at most new memory; conditions: the text has at most 60 bytes, the place is 31 at most. -/
namespace Go.Proofs.Ytcfakhfipdjnmaa
open Go.ChangeShapes Go.WideShapes Go.ChangeAt Go.RowKit
set_option linter.unusedVariables false
attribute [local go_sem] cell_rg

theorem sentB_get (s : ByteArray) (j : Nat) : sentB s j = ((bl s)[j]? == some 49) := by
  unfold sentB
  by_cases h : j < s.size
  · have h' : j < s.data.toList.length := by simpa using h
    rw [decide_eq_true h, Bool.true_and, List.getD_eq_getElem?_getD]
    unfold bl
    rw [List.getElem?_eq_getElem h']
    rfl
  · have h' : (bl s)[j]? = none := List.getElem?_eq_none (by rw [bl_length]; omega)
    rw [h', decide_eq_false h]
    rfl
/-- A 0 more at the end tells nothing. -/
theorem sentB_pad (s : ByteArray) (j : Nat) : sentB (s ++ ba [48]) j = sentB s j := by
  rw [sentB_get, sentB_get, bl_append, bl_ba]
  by_cases h : j < (bl s).length
  · rw [List.getElem?_append_left h]
  · rw [List.getElem?_append_right (by omega), List.getElem?_eq_none (l := bl s) (by omega)]
    cases hj : j - (bl s).length with
    | zero => rfl
    | succ i => rfl
theorem set_text (s : ByteArray) (a : Nat) (c : UInt8) (h : a < s.size) : s.extract 0 a ++ ba [c] ++ s.extract (a + 1) s.size = ba ((bl s).set a c) := by
  apply ByteArray.ext
  have hl : a < s.data.toList.length := h
  simp only [ByteArray.data_append, ByteArray.data_extract, ba, bl]
  apply Array.ext'
  rw [List.set_eq_take_append_cons_drop, if_pos hl]
  simp only [Array.toList_append, Array.toList_extract, List.extract_eq_take_drop]
  have e : s.size = s.data.toList.length := rfl
  simp
  rw [List.take_of_length_le]
  rw [List.length_drop, ← e]
  omega
theorem sentB_mark (s : ByteArray) (a j : Nat) (h : a < s.size) : sentB (s.extract 0 a ++ ba [49] ++ s.extract (a + 1) s.size) j = (decide (j = a) || sentB s j) := by
  rw [set_text s a 49 h, sentB_get, sentB_get, bl_ba]
  by_cases e : j = a
  · subst e
    rw [List.getElem?_set_self (by rw [bl_length]; exact h), decide_eq_true rfl]
    rfl
  · rw [List.getElem?_set_ne (by omega), decide_eq_false e, Bool.false_or]
theorem size_mark (s : ByteArray) (a : Nat) (c : UInt8) (h : a < s.size) : (s.extract 0 a ++ ba [c] ++ s.extract (a + 1) s.size).size = s.size := by
  rw [set_text s a c h, ba_size, List.length_set, bl_length]
def strV : Value → ByteArray | .string t => t | _ => ⟨#[]⟩

set_option maxHeartbeats 1000000 in
theorem marks_any (s : ByteArray) (a : Nat) (w : World) (hs : s.size ≤ 60) (ha : a ≤ 31) :
    Calls Try.prog 20 #[.string s, .int .i64 (a : Int)] w fun e w' => ∃ t, e = .returned (.string t) ∧ t.size ≤ 60 ∧ (∀ j, sentB t j = (decide (j = a) || sentB s j)) ∧ Below w.heap.size w w' := by
  go_enter Try.func20, Try.ntmps20
  go_wp2
  go_loopw [0] (fun v wr => ∃ t : ByteArray, v = .string t ∧ t.size ≤ 60 ∧ (∀ j, sentB t j = sentB s j) ∧ Below w.heap.size w wr) (fun v _ => 60 - (strV v).size)
  case atStart => exact ⟨s, rfl, hs, fun _ => rfl, Below.refl _ _⟩
  case round =>
    obtain ⟨t, rfl, ht, hj, hB⟩ := hrel
    have HJ := hidden hj
    have HB := hidden hB
    clear hj hB
    by_cases hle : t.size ≤ a
    · have e1 : (t.size : Int) ≤ (a : Int) := by omega
      have n1 : ¬ 9223372036854775807 < t.size + 1 := by omega
      go_wp2
      go_roundw
      case rel => exact ⟨t ++ ba [48], rfl, by rw [ByteArray.size_append, ba_size]; simp; omega, fun j => (sentB_pad t j).trans (HJ.out j), HB.out⟩
      case measure =>
        show 60 - (t ++ ba [48]).size < 60 - t.size
        rw [ByteArray.size_append, ba_size]
        simp
        omega
    · have e1 : ¬ (t.size : Int) ≤ (a : Int) := by omega
      have hm := fun j => sentB_mark t a j (by omega)
      have hz := size_mark t a 49 (by omega)
      have HM := hidden hm
      have HZ := hidden hz
      clear hm hz
      obtain ⟨b, hb⟩ : ∃ b : Nat, b = a + 1 := ⟨_, rfl⟩
      have hs1 : ∀ W : World, (Instr.slice 9 (.string t) none (some (.int .i64 (a : Int))) none).run Try.prog W = .ok (.string (t.extract 0 a)) W := fun W => by
        rw [run_slice_string_to_if W 9 t .i64 _ Try.underlying9, if_pos ⟨by omega, by omega⟩]; rfl
      have hs2 : ∀ W : World, (Instr.slice 9 (.string t) (some (.int .i64 (b : Int))) none none).run Try.prog W = .ok (.string (t.extract b t.size)) W := fun W => by
        rw [run_slice_string_from_if W 9 t .i64 _ Try.underlying9, if_pos ⟨by omega, by omega⟩]; rfl
      have q1 : (a : Int) + 1 = (b : Int) := by omega
      have q2 : IntKind.i64.wrap ((a : Int) + 1) = (b : Int) := by rw [IntWalk.i64_in _ (by omega)]; omega
      have q3 : IntKind.i64.wrap (b : Int) = (b : Int) := IntWalk.i64_in _ (by omega)
      have z1 : (t.extract 0 a).size ≤ 60 := by rw [ByteArray.size_extract]; omega
      have z2 : (t.extract b t.size).size ≤ 60 := by rw [ByteArray.size_extract]; omega
      rw [← hb] at HM HZ
      generalize t.extract 0 a = x1 at *
      generalize t.extract b t.size = x2 at *
      have n1 : ¬ 9223372036854775807 < x1.size + 1 := by omega
      have n2 : ¬ 9223372036854775807 < x1.size + 1 + x2.size := by omega
      clear hb
      go_wp2
      refine wp_region_quiet_below (by kernel_rfl) (by kernel_rfl) ?_
      repeat (go_big_quiet_step (fail))
      refine wpQuiet_nil ?_
      intro w3 hw3
      have HB3 := hidden (bthen HB.out (rg_below hw3))
      clear hw3
      go_wp2
      go_ret
      exact ⟨x1 ++ ba [49] ++ x2, rfl, by rw [HZ.out]; exact ht, fun j => by rw [HM.out j, HJ.out j], HB3.out⟩
end Go.Proofs.Ytcfakhfipdjnmaa

/- Plain words on two clocks that drift: how far they are apart at the first tick at which one of them has a slot's middle, and some ticks later; conditions: what is right. -/
namespace Go.Proofs.Ytcfakhfipdjnmaa
open Go.ChangeShapes Go.WideShapes Go.ChangeAt Go.RowKit
set_option linter.unusedVariables false

/-- How many units a clock goes at a tick. -/
def unitE (r dr : Int) (l : List Int) (t : Nat) : Int := if t < l.length then max (r - dr) (min (l.getD t 0) (r + dr)) else r
theorem unitE_bd {r dr : Int} (h : 0 ≤ dr) (l : List Int) (t : Nat) : r - dr ≤ unitE r dr l t ∧ unitE r dr l t ≤ r + dr := by
  unfold unitE
  split <;> omega
/-- Where a clock is after t ticks. -/
def clockE (r dr : Int) (l : List Int) : Nat → Int
  | 0 => 0
  | t + 1 => clockE r dr l t + unitE r dr l t
theorem clockE_bd {r dr : Int} (h : 0 ≤ dr) (l : List Int) (t : Nat) : (t : Int) * (r - dr) ≤ clockE r dr l t ∧ clockE r dr l t ≤ (t : Int) * (r + dr) := by
  induction t with
  | zero => simp [clockE]
  | succ t ih =>
    have hu := unitE_bd (r := r) h l t
    have e1 : ((t + 1 : Nat) : Int) * (r - dr) = (t : Int) * (r - dr) + (r - dr) := by
      rw [Int.natCast_add, Int.add_mul]; simp
    have e2 : ((t + 1 : Nat) : Int) * (r + dr) = (t : Int) * (r + dr) + (r + dr) := by
      rw [Int.natCast_add, Int.add_mul]; simp
    rw [e1, e2]
    simp only [clockE]
    omega
theorem clockE_apart {r dr : Int} (h : 0 ≤ dr) (l l' : List Int) (t : Nat) : clockE r dr l' t - clockE r dr l t ≤ 2 * dr * (t : Int) ∧ clockE r dr l t - clockE r dr l' t ≤ 2 * dr * (t : Int) := by
  induction t with
  | zero => simp [clockE]
  | succ t ih =>
    have h1 := unitE_bd (r := r) h l t
    have h2 := unitE_bd (r := r) h l' t
    have e : 2 * dr * ((t + 1 : Nat) : Int) = 2 * dr * (t : Int) + 2 * dr := by
      rw [Int.natCast_add, Int.mul_add]; simp
    rw [e]
    simp only [clockE]
    omega
theorem clockE_later {r dr : Int} (h : 0 ≤ dr) (l : List Int) (t i : Nat) : (i : Int) * (r - dr) ≤ clockE r dr l (t + i) - clockE r dr l t ∧ clockE r dr l (t + i) - clockE r dr l t ≤ (i : Int) * (r + dr) := by
  induction i with
  | zero => simp
  | succ i ih =>
    have hu := unitE_bd (r := r) h l (t + i)
    have e1 : ((i + 1 : Nat) : Int) * (r - dr) = (i : Int) * (r - dr) + (r - dr) := by
      rw [Int.natCast_add, Int.add_mul]; simp
    have e2 : ((i + 1 : Nat) : Int) * (r + dr) = (i : Int) * (r + dr) + (r + dr) := by
      rw [Int.natCast_add, Int.add_mul]; simp
    rw [e1, e2, show t + (i + 1) = (t + i) + 1 from rfl]
    simp only [clockE]
    omega
/-- A quotient, rounded up, is no less than what it comes from. -/
theorem ceil_ge {a b x : Int} (hb : 1 ≤ b) (h : x * b ≤ a) : x ≤ (a + b - 1) / b := by
  rw [Int.le_ediv_iff_mul_le (by omega)]
  omega
/-- THE CLOCKS. T: the first tick at which mine has the middle m. -/
theorem clocks_meet {d p r dr m M G : Int} {mine other : List Int} {T : Nat} (d1 : 1 ≤ d) (r1 : 1 ≤ r) (dr1 : 0 ≤ dr) (dr2 : dr ≤ r - 1) (m0 : 0 ≤ m) (mM : m ≤ M) (hG : G = guardF d r dr M) (hp : M + d * r + G ≤ (p - 1) * (r - dr)) (g0 : r ≤ G)
    (hT : ∀ t, t < T → clockE r dr mine t < m) (hm : m ≤ clockE r dr mine T) (hTp : (T : Int) ≤ p) :
    (T : Int) + d < p ∧ clockE r dr other (T + d.toNat) - m - d * r ≤ G ∧ -G ≤ clockE r dr other (T + d.toNat) - m - d * r := by
  have hd : ((d.toNat : Nat) : Int) = d := by omega
  have hl := clockE_later (r := r) dr1 other T d.toNat
  rw [hd] at hl
  have ed1 : d * (r - dr) = d * r - d * dr := Int.mul_sub _ _ _
  have ed2 : d * (r + dr) = d * r + d * dr := Int.mul_add _ _ _
  have edr : (d + 1) * dr = d * dr + dr := by rw [Int.add_mul]; omega
  have hdd : 0 ≤ d * dr := Int.mul_nonneg (by omega) dr1
  have hdd2 : d * dr ≤ d * r := Int.mul_le_mul_of_nonneg_left (by omega) (by omega)
  -- U: what drift makes, rounded up
  obtain ⟨U, hU⟩ : ∃ U, (2 * dr * M + (r - dr) - 1) / (r - dr) = U := ⟨_, rfl⟩
  have hG' : G = U + r + (d + 1) * dr := by rw [hG]; unfold guardF; rw [hU]
  cases T with
  | zero =>
    simp only [clockE] at hm hl
    have hm' : m = 0 := by omega
    have U0 : 0 ≤ U := by
      rw [← hU]; exact Int.ediv_nonneg (by have := Int.mul_nonneg (show 0 ≤ 2 * dr by omega) (show 0 ≤ M by omega); omega) (by omega)
    refine ⟨?_, by omega, by omega⟩
    have h1 : d * 1 ≤ d * r := Int.mul_le_mul_of_nonneg_left r1 (by omega)
    rcases (by omega : d < p ∨ p ≤ d) with h | h
    · simpa using h
    · exfalso
      have h2 : (p - 1) * (r - dr) ≤ (d - 1) * (r - dr) := Int.mul_le_mul_of_nonneg_right (by omega) (by omega)
      have h3 : (d - 1) * (r - dr) = d * (r - dr) - (r - dr) := by rw [Int.sub_mul]; omega
      omega
  | succ t =>
    have ht := hT t (Nat.lt_succ_self t)
    have b1 := clockE_bd (r := r) dr1 mine t
    have ap := clockE_apart (r := r) dr1 mine other t
    have ap2 := clockE_apart (r := r) dr1 mine other (t + 1)
    have hu := unitE_bd (r := r) dr1 other t
    -- the drift up to tick t is within U
    have hx : 2 * dr * (t : Int) ≤ U := by
      rw [← hU]
      refine ceil_ge (by omega) ?_
      have e : 2 * dr * (t : Int) * (r - dr) = 2 * dr * ((t : Int) * (r - dr)) := Int.mul_assoc _ _ _
      rw [e]
      exact Int.mul_le_mul_of_nonneg_left (by omega) (by omega)
    have e2 : 2 * dr * ((t + 1 : Nat) : Int) = 2 * dr * (t : Int) + 2 * dr := by
      rw [Int.natCast_add, Int.mul_add]; simp
    rw [e2] at ap2
    have eb : clockE r dr other (t + 1) = clockE r dr other t + unitE r dr other t := rfl
    refine ⟨?_, by omega, by omega⟩
    -- ahead of the next pulse
    rcases (by omega : ((t + 1 : Nat) : Int) + d < p ∨ p ≤ ((t + 1 : Nat) : Int) + d) with h | h
    · exact h
    · exfalso
      have h2 : (p - 1) * (r - dr) ≤ ((t : Int) + d) * (r - dr) := Int.mul_le_mul_of_nonneg_right (by omega) (by omega)
      have h3 : ((t : Int) + d) * (r - dr) = (t : Int) * (r - dr) + d * (r - dr) := Int.add_mul _ _ _
      omega
/-- A period is long enough for the middle. -/
theorem clocks_reach {d p r dr m M G : Int} {mine : List Int} (d1 : 1 ≤ d) (r1 : 1 ≤ r) (dr1 : 0 ≤ dr) (dr2 : dr ≤ r - 1) (mM : m ≤ M) (hp : M + d * r + G ≤ (p - 1) * (r - dr)) (g0 : r ≤ G) (T : Nat) (hT : (T : Int) = p) : m ≤ clockE r dr mine T := by
  have b1 := clockE_bd (r := r) dr1 mine T
  rw [hT] at b1
  have e : (p - 1) * (r - dr) = p * (r - dr) - (r - dr) := by rw [Int.sub_mul]; omega
  have h1 : 0 ≤ d * r := Int.mul_nonneg (by omega) (by omega)
  omega
end Go.Proofs.Ytcfakhfipdjnmaa

/- Plain words on a node that sends whenever a slot is due: it sends in each of its slots just once, in their order; conditions: what is right. -/
namespace Go.Proofs.Ytcfakhfipdjnmaa
open Go.ChangeShapes Go.WideShapes Go.ChangeAt Go.RowKit
set_option linter.unusedVariables false

theorem mid_up {o sl : Int} {j k : Nat} (hsl : 1 ≤ sl) (h : j < k) : midE o sl (j : Int) + sl ≤ midE o sl (k : Int) := by
  unfold midE
  have h1 : ((j : Int) + 1) * sl ≤ (k : Int) * sl := Int.mul_le_mul_of_nonneg_right (by omega) (by omega)
  rw [Int.add_mul, Int.one_mul] at h1
  omega
/-- What was sent in, what is still to come, and that none of it is over. -/
structure Sent (o sl r dr : Int) (L : List Nat) (n : Nat) (s : ByteArray) (e : Int) : Prop where
  le : n ≤ L.length
  sent : ∀ k, sentB s k = decide (k ∈ L.take n)
  next : ∀ k ∈ L.drop n, e < midE o sl (k : Int) + r + dr
theorem sorted_rest {L : List Nat} (hs : L.Pairwise (· < ·)) {n : Nat} (h : n < L.length) : (∀ k ∈ L.take n, k < L[n]) ∧ ∀ k ∈ L.drop (n + 1), L[n] < k := by
  constructor
  · intro k hk
    obtain ⟨i, hi, rfl⟩ := List.getElem_of_mem hk
    rw [List.getElem_take]
    exact List.pairwise_iff_getElem.1 hs i n (by simp at hi; omega) h (by simp at hi; omega)
  · intro k hk
    obtain ⟨i, hi, rfl⟩ := List.getElem_of_mem hk
    rw [List.getElem_drop]
    exact List.pairwise_iff_getElem.1 hs n (n + 1 + i) h (by simp at hi; omega) (by omega)
theorem mem_split {L : List Nat} {n k : Nat} (h : k ∈ L) : k ∈ L.take n ∨ k ∈ L.drop n := by
  rw [← List.take_append_drop n L] at h
  exact List.mem_append.1 h
/-- Nothing is due where what is to come has not its middle yet. -/
theorem Sent.none {o sl r dr : Int} {L : List Nat} {n : Nat} {s : ByteArray} {e : Int} (h : Sent o sl r dr L n s e) (hn : ∀ k ∈ L.drop n, e < midE o sl (k : Int)) : firstF (dueB o sl r dr e s) L = -1 := by
  refine firstF_none fun k hk => ?_
  unfold dueB
  rcases mem_split (n := n) hk with h1 | h1
  · rw [h.sent k, decide_eq_true h1]; rfl
  · unfold timeB
    rw [decide_eq_false (by have := hn k h1; omega : ¬ midE o sl (k : Int) ≤ e), Bool.false_and, Bool.and_false]
/-- The next slot is due where its middle is over. -/
theorem Sent.hit {o sl r dr : Int} {L : List Nat} {n : Nat} {s : ByteArray} {e : Int} (h : Sent o sl r dr L n s e) (hs : L.Pairwise (· < ·)) (hl : n < L.length) (hm : midE o sl ((L[n] : Nat) : Int) ≤ e) : firstF (dueB o sl r dr e s) L = ((L[n] : Nat) : Int) := by
  have hd : L[n] ∈ L.drop n := by rw [List.drop_eq_getElem_cons hl]; exact List.mem_cons_self ..
  have hnt : ¬ L[n] ∈ L.take n := fun c => by have := (sorted_rest hs hl).1 _ c; omega
  refine firstF_hit (l0 := L.take n) ?_ ?_ ?_
  · unfold dueB timeB
    rw [h.sent, decide_eq_false hnt, decide_eq_true hm, decide_eq_true (h.next _ hd)]
    rfl
  · intro k hk
    unfold dueB
    rw [h.sent k, decide_eq_true hk]; rfl
  · have e : L.take n ++ [L[n]] = L.take (n + 1) := by rw [List.take_add_one, List.getElem?_eq_getElem hl]; rfl
    rw [e]
    exact List.take_prefix _ _
/-- Once sent in, the next one has not its middle yet. -/
theorem Sent.goes {o sl r dr : Int} {L : List Nat} {n : Nat} {s t : ByteArray} {e : Int} (h : Sent o sl r dr L n s e) (hs : L.Pairwise (· < ·)) (hl : n < L.length) (hsl : 1 ≤ sl) (hw : r + dr ≤ sl) (hr : 0 ≤ r + dr) (ht : ∀ j, sentB t j = (decide (j = L[n]) || sentB s j)) :
    Sent o sl r dr L (n + 1) t e ∧ ∀ k ∈ L.drop (n + 1), e < midE o sl (k : Int) := by
  have hd : L[n] ∈ L.drop n := by rw [List.drop_eq_getElem_cons hl]; exact List.mem_cons_self ..
  have h1 := h.next _ hd
  have hk : ∀ k ∈ L.drop (n + 1), e < midE o sl (k : Int) := fun k hk => by
    have := mid_up (o := o) hsl ((sorted_rest hs hl).2 k hk)
    omega
  refine ⟨⟨hl, fun k => ?_, fun k h2 => by have := hk k h2; omega⟩, hk⟩
  have e1 : L.take (n + 1) = L.take n ++ [L[n]] := by rw [List.take_add_one, List.getElem?_eq_getElem hl]; rfl
  rw [ht k, h.sent k, e1]
  by_cases c1 : k = L[n]
  · rw [decide_eq_true c1, decide_eq_true (show k ∈ L.take n ++ [L[n]] from List.mem_append_right _ (List.mem_singleton.2 c1))]; rfl
  · rw [decide_eq_false c1, Bool.false_or]
    by_cases c2 : k ∈ L.take n
    · rw [decide_eq_true c2, decide_eq_true (show k ∈ L.take n ++ [L[n]] from List.mem_append_left _ c2)]
    · rw [decide_eq_false c2, decide_eq_false (show ¬ k ∈ L.take n ++ [L[n]] from by rw [List.mem_append, List.mem_singleton]; exact fun c => c.elim c2 c1)]
/-- A tick later. -/
theorem Sent.later {o sl r dr : Int} {L : List Nat} {n : Nat} {s : ByteArray} {e u : Int} (h : Sent o sl r dr L n s e) (hn : ∀ k ∈ L.drop n, e < midE o sl (k : Int)) (hu : u ≤ r + dr) : Sent o sl r dr L n s (e + u) :=
  ⟨h.le, h.sent, fun k hk => by have := hn k hk; omega⟩
theorem Sent.start {o sl r dr : Int} {L : List Nat} (h : ∀ k ∈ L, 0 ≤ midE o sl (k : Int)) (hr : 0 < r + dr) : Sent o sl r dr L 0 ⟨#[]⟩ 0 :=
  ⟨Nat.zero_le _, fun k => by rw [sentB_far (Nat.zero_le _)]; simp, fun k hk => by have := h k (by simpa using hk); omega⟩
/-- At the end all were sent in. -/
theorem Sent.all {o sl r dr M p : Int} {L : List Nat} {n : Nat} {s : ByteArray} {e : Int} (h : Sent o sl r dr L n s e) (hM : ∀ k ∈ L, midE o sl (k : Int) ≤ M) (hp : M ≤ (p - 1) * (r - dr)) (hlast : ∀ k ∈ L.drop n, (p - 1) * (r - dr) < midE o sl (k : Int)) : n = L.length := by
  by_cases hl : n < L.length
  · exfalso
    have hd : L[n] ∈ L.drop n := by rw [List.drop_eq_getElem_cons hl]; exact List.mem_cons_self ..
    have h1 := hlast _ hd
    have h2 := hM _ (List.getElem_mem hl)
    omega
  · have := h.le
    omega
theorem mid_end {o sl b : Int} {zs : List Int} (hb : b < (zs.length : Int)) (sl1 : 1 ≤ sl) : midE o sl b ≤ lastE o sl zs := by
  unfold lastE midE
  have h : b * sl ≤ ((zs.length : Int) - 1) * sl := Int.mul_le_mul_of_nonneg_right (by omega) (by omega)
  omega
theorem clk_in {r dr : Int} (h : 0 ≤ dr) (h1 : 0 ≤ r - dr) (h2 : r + dr ≤ 128) (l : List Int) (t : Nat) (ht : t ≤ 1000) : 0 ≤ clockE r dr l t ∧ clockE r dr l t ≤ 128000 := by
  have b := clockE_bd (r := r) h l t
  obtain ⟨c0, c1⟩ := mul_bd (show 0 ≤ (t : Int) by omega) (show (t : Int) ≤ 1000 by omega) h1 (show r - dr ≤ 128 by omega)
  obtain ⟨e0, e1⟩ := mul_bd (show 0 ≤ (t : Int) by omega) (show (t : Int) ≤ 1000 by omega) (show 0 ≤ r + dr by omega) h2
  omega
/-- Of what is to come, all have their middle later than the first. -/
theorem Sent.wait {o sl r dr : Int} {L : List Nat} {n : Nat} {s : ByteArray} {e : Int} (h : Sent o sl r dr L n s e) (hs : L.Pairwise (· < ·)) (hsl : 1 ≤ sl) (hw : ∀ hl : n < L.length, e < midE o sl ((L[n] : Nat) : Int)) : ∀ k ∈ L.drop n, e < midE o sl (k : Int) := by
  intro k hk
  by_cases hl : n < L.length
  · rw [List.drop_eq_getElem_cons hl] at hk
    rcases List.mem_cons.1 hk with h1 | h1
    · rw [h1]; exact hw hl
    · have := mid_up (o := o) hsl ((sorted_rest hs hl).2 k h1)
      have := hw hl
      omega
  · rw [List.drop_eq_nil_of_le (by omega)] at hk; cases hk
end Go.Proofs.Ytcfakhfipdjnmaa

/- The call units of the statements on layers 21 and 22 returns how many units a clock goes at a tick, and makes at most new memory; conditions: rate and drift within their limits, the row lies where it says. -/
namespace Go.Proofs.Ytcfakhfipdjnmaa
open Go.ChangeShapes Go.WideShapes Go.ChangeAt Go.RowKit
set_option linter.unusedVariables false
attribute [local go_sem] cell_rg

set_option maxHeartbeats 1000000 in
theorem units_any (n f d p r dr o sl md fr : Int) (ad : Option Addr) (cap : Nat) (zs : List Int) (lad : Option Addr) (lcap : Nat) (ls : List Int) (t : Nat) (w : World) (r1 : 1 ≤ r) (r2 : r ≤ 64) (dr1 : 0 ≤ dr) (dr2 : dr ≤ r - 1) (ht : t ≤ 1000) (hll : ls.length ≤ 9223372036854775807) (hT : Tab w lad ls) :
    Calls Try.prog 21 #[.agg #[.int .i64 n, .int .i64 f, .int .i64 d, .int .i64 p, .int .i64 r, .int .i64 dr, .int .i64 o, .int .i64 sl, .int .i64 md, .int .i64 fr, .slice ad zs.length cap], .slice lad ls.length lcap, .int .i64 (t : Int)] w fun e w' => e = .returned (.int .i64 (unitE r dr ls t)) ∧ Below w.heap.size w w' := by
  by_cases hlt : t < ls.length
  · obtain ⟨a, rfl, hc, hal⟩ := (hT.below (ballc w (.cells #[.int .i64 n, .int .i64 f, .int .i64 d, .int .i64 p, .int .i64 r, .int .i64 dr, .int .i64 o, .int .i64 sl, .int .i64 md, .int .i64 fr, .slice ad zs.length cap] 24))).lies t hlt
    have HU : Hid (unitE r dr ls t = max (r - dr) (min (ls.getD t 0) (r + dr))) := if_pos hlt
    generalize ls.getD t 0 = x at hc HU
    have hal1 : (a.add t).block < w.heap.size + 1 := by simpa using hal
    have t1 : IntKind.i64.wrap (r - dr) = r - dr := IntWalk.i64_in _ (by omega)
    have t2 : IntKind.i64.wrap (r + dr) = r + dr := IntWalk.i64_in _ (by omega)
    clear hT
    have hx : r + dr < x ∨ (r - dr < x ∧ x ≤ r + dr) ∨ x ≤ r - dr := by omega
    rcases hx with h1 | ⟨h1, h2⟩ | h1
    case inl => have HV : Hid (unitE r dr ls t = r + dr) := by rw [HU.out]; exact (by omega : max (r - dr) (min x (r + dr)) = r + dr)
                clear HU
                go_enter Try.func21, Try.ntmps21
                go_wp2
                refine wp_region_quiet_below (by kernel_rfl) (by kernel_rfl) ?_
                repeat (go_big_quiet_step (fail))
                refine wpQuiet_nil ?_
                intro w2 hw2
                have HB2 := hidden (bthen (ballc w _) (rg_below hw2))
                clear hw2
                go_wp2
                all_goals
                  go_ret
                  exact ⟨ret_i (by rw [HV.out] <;> omega), HB2.out⟩
    case inr.inl => have HV : Hid (unitE r dr ls t = x) := by rw [HU.out]; exact (by omega : max (r - dr) (min x (r + dr)) = x)
                    clear HU
                    go_enter Try.func21, Try.ntmps21
                    go_wp2
                    refine wp_region_quiet_below (by kernel_rfl) (by kernel_rfl) ?_
                    repeat (go_big_quiet_step (fail))
                    refine wpQuiet_nil ?_
                    intro w2 hw2
                    have HB2 := hidden (bthen (ballc w _) (rg_below hw2))
                    clear hw2
                    go_wp2
                    all_goals
                      go_ret
                      exact ⟨ret_i (by rw [HV.out] <;> omega), HB2.out⟩
    case inr.inr => have HV : Hid (unitE r dr ls t = r - dr) := by rw [HU.out]; exact (by omega : max (r - dr) (min x (r + dr)) = r - dr)
                    clear HU
                    have h3 : x ≤ r + dr := by omega
                    go_enter Try.func21, Try.ntmps21
                    go_wp2
                    refine wp_region_quiet_below (by kernel_rfl) (by kernel_rfl) ?_
                    repeat (go_big_quiet_step (fail))
                    refine wpQuiet_nil ?_
                    intro w2 hw2
                    have HB2 := hidden (bthen (ballc w _) (rg_below hw2))
                    clear hw2
                    go_wp2
                    all_goals
                      go_ret
                      exact ⟨ret_i (by rw [HV.out] <;> omega), HB2.out⟩
  · have HU : Hid (unitE r dr ls t = r) := if_neg hlt
    go_enter Try.func21, Try.ntmps21
    go_wp2
    go_ret
    exact ⟨ret_i HU.out.symm, ballc _ _⟩
end Go.Proofs.Ytcfakhfipdjnmaa

/- The document's Settle returns what it says, and makes at most new memory; conditions: the table lies where it says, and its length fits int. -/
namespace Go.Proofs.Ytcfakhfipdjnmaa
open Go.ChangeShapes Go.WideShapes Go.ChangeAt Go.RowKit
set_option linter.unusedVariables false
attribute [local go_sem] cell_rg

end Go.Proofs.Ytcfakhfipdjnmaa

/- The document's Guard, Settle and All return what they say, and make at most new memory; conditions: the table lies where it says, and its length fits int. -/
namespace Go.Proofs.Ytcfakhfipdjnmaa
open Go.ChangeShapes Go.WideShapes Go.ChangeAt Go.RowKit
set_option linter.unusedVariables false
attribute [local go_sem] cell_rg

/-- The last slot's middle, as the document's Middle gives it. -/
theorem RLast_any (n f d p r dr o sl md fr : Int) (ad : Option Addr) (cap : Nat) (zs : List Int) (w : World) (hl : zs.length ≤ 9223372036854775807) (hT : Tab w ad zs) (hE : plainE n f d p r dr o sl md fr zs = 0) :
    Calls Try.prog 42 #[.agg #[.int .i64 n, .int .i64 f, .int .i64 d, .int .i64 p, .int .i64 r, .int .i64 dr, .int .i64 o, .int .i64 sl, .int .i64 md, .int .i64 fr, .slice ad zs.length cap], .int .i64 ((zs.length : Int) - 1)] w fun e w' => e = .returned (.int .i64 (lastE o sl zs)) ∧ Below w.heap.size w w' := by
  obtain ⟨_, _, _, _, _, _, _, _, _, _, _, _, _, o1, o2, sl1, sl2, _, _, _, _, z1, z2, _⟩ := plainE_ok hE
  have h := RMiddle_any n f d p r dr o sl md fr ad cap zs ((zs.length : Int) - 1) w hl hT
  rw [hE, slotB_yes (by omega) (by omega), placeE_yes] at h
  exact h

set_option maxHeartbeats 1000000 in
theorem RGuard_any (n f d p r dr o sl md fr : Int) (ad : Option Addr) (cap : Nat) (zs : List Int) (w : World) (hl : zs.length ≤ 9223372036854775807) (hT : Tab w ad zs) :
    Calls Try.prog 47 #[.agg #[.int .i64 n, .int .i64 f, .int .i64 d, .int .i64 p, .int .i64 r, .int .i64 dr, .int .i64 o, .int .i64 sl, .int .i64 md, .int .i64 fr, .slice ad zs.length cap]] w fun e w' => e = .returned (.int .i64 (gate (plainE n f d p r dr o sl md fr zs) (guardF d r dr (lastE o sl zs)))) ∧ Below w.heap.size w w' := by
  have HT := hidden (hT.below (ballc w (.cells #[.int .i64 n, .int .i64 f, .int .i64 d, .int .i64 p, .int .i64 r, .int .i64 dr, .int .i64 o, .int .i64 sl, .int .i64 md, .int .i64 fr, .slice ad zs.length cap] 24)))
  have HP := hidden (refPlain_any n f d p r dr o sl md fr ad cap zs (w.alloc (.cells #[.int .i64 n, .int .i64 f, .int .i64 d, .int .i64 p, .int .i64 r, .int .i64 dr, .int .i64 o, .int .i64 sl, .int .i64 md, .int .i64 fr, .slice ad zs.length cap] 24)) hl HT.out)
  clear hT
  by_cases hE : plainE n f d p r dr o sl md fr zs = 0
  · obtain ⟨M1, M2⟩ := lastE_bd hE
    obtain ⟨_, _, _, _, _, d1, d2, _, _, r1, r2, dr1, dr2, o1, o2, sl1, sl2, _, _, _, _, z1, z2, _⟩ := plainE_ok hE
    have HL := hidden (fun v h => RLast_any n f d p r dr o sl md fr ad cap zs v hl h hE)
    rw [hE] at HP ⊢
    rw [gate_ok]
    clear hE
    have tz : IntKind.i64.wrap ((zs.length : Int) - 1) = (zs.length : Int) - 1 := IntWalk.i64_in _ (by omega)
    generalize lastE o sl zs = M at HL M1 M2 ⊢
    obtain ⟨a0, a1, c0, c1, b0, b1⟩ := guardF_bd d1 d2 r1 r2 dr1 dr2 M1 M2
    have t1 : IntKind.i64.wrap (2 * dr) = 2 * dr := IntWalk.i64_in _ (by omega)
    have t2 : IntKind.i64.wrap (2 * dr * M) = 2 * dr * M := IntWalk.i64_in _ (by omega)
    go_enter Try.func47, Try.ntmps47
    go_wp2_with fail
    refine HP.out.mono ?_
    rintro e w2 ⟨rfl, hb2⟩
    have HB2 := hidden hb2
    clear hb2
    obtain ⟨hbox, hsz⟩ := box_at HB2.out
    have HT2 := hidden (HT.out.below HB2.out)
    go_wp2
    refine wp_region_quiet_below (by kernel_rfl) (by kernel_rfl) ?_
    repeat (go_big_quiet_step ((go_at_call 42; exact Calls.regrown_of (HL.out _ (HT2.out.below (below_regrown _ _ _))))))
    refine wpQuiet_nil ?_
    intro w3 hw3
    have HB3 := hidden (bthen HB2.out (rg_below hw3))
    clear hw3 hbox hsz t1 t2 tz
    obtain ⟨hbox, hsz⟩ := box_at HB3.out
    have HGD : Hid (guardF d r dr M = (2 * dr * M + (r - dr) - 1) / (r - dr) + r + (d + 1) * dr) := rfl
    generalize 2 * dr * M = A at *
    have HZ := hidden (ceil_zero (a := A) (b := r - dr) (by omega))
    have HM := hidden (ceil_more (a := A) (b := r - dr) (by omega))
    have e0 := Int.emod_nonneg A (show r - dr ≠ 0 by omega)
    have q0 : 0 ≤ A / (r - dr) := Int.ediv_nonneg a0 (by omega)
    have q1 : A / (r - dr) ≤ A := Int.ediv_le_self _ a0
    clear c0 c1
    by_cases hm : 0 < A % (r - dr)
    · have HV : Hid (guardF d r dr M = A / (r - dr) + 1 + r + (d + 1) * dr) := hidden (by rw [HGD.out, HM.out hm])
      clear HGD HZ HM
      go_wp2
      go_ret
      exact ⟨ret_i HV.out.symm, bthen (ballc w _) HB3.out⟩
    · have HV : Hid (guardF d r dr M = A / (r - dr) + r + (d + 1) * dr) := hidden (by rw [HGD.out, HZ.out (by omega)])
      clear HGD HZ HM
      go_wp2
      go_ret
      exact ⟨ret_i HV.out.symm, bthen (ballc w _) HB3.out⟩
  · have HG := hidden (gate_no hE (guardF d r dr (lastE o sl zs)))
    generalize plainE n f d p r dr o sl md fr zs = E at *
    go_enter Try.func47, Try.ntmps47
    go_wp2_with fail
    refine HP.out.mono ?_
    rintro e w2 ⟨rfl, hb2⟩
    have HB2 := hidden hb2
    clear hb2
    obtain ⟨hbox, hsz⟩ := box_at HB2.out
    go_wp2
    go_ret
    exact ⟨ret_i HG.out.symm, bthen (ballc w _) HB2.out⟩
end Go.Proofs.Ytcfakhfipdjnmaa

/- The document's Right returns what it says, and makes at most new memory; conditions: the table lies where it says, and its length fits int. -/
namespace Go.Proofs.Ytcfakhfipdjnmaa
open Go.ChangeShapes Go.WideShapes Go.ChangeAt Go.RowKit
set_option linter.unusedVariables false
attribute [local go_sem] cell_rg

set_option maxHeartbeats 2000000 in
theorem RRight_any (n f d p r dr o sl md fr : Int) (ad : Option Addr) (cap : Nat) (zs : List Int) (w : World) (hl : zs.length ≤ 9223372036854775807) (hT : Tab w ad zs) :
    Calls Try.prog 19 #[.agg #[.int .i64 n, .int .i64 f, .int .i64 d, .int .i64 p, .int .i64 r, .int .i64 dr, .int .i64 o, .int .i64 sl, .int .i64 md, .int .i64 fr, .slice ad zs.length cap]] w fun e w' => e = .returned (.int .i64 (rightE n f d p r dr o sl md fr zs)) ∧ Below w.heap.size w w' := by
  have HT := hidden (hT.below (ballc w (.cells #[.int .i64 n, .int .i64 f, .int .i64 d, .int .i64 p, .int .i64 r, .int .i64 dr, .int .i64 o, .int .i64 sl, .int .i64 md, .int .i64 fr, .slice ad zs.length cap] 24)))
  have HP := hidden (refPlain_any n f d p r dr o sl md fr ad cap zs (w.alloc (.cells #[.int .i64 n, .int .i64 f, .int .i64 d, .int .i64 p, .int .i64 r, .int .i64 dr, .int .i64 o, .int .i64 sl, .int .i64 md, .int .i64 fr, .slice ad zs.length cap] 24)) hl HT.out)
  have HPP := hidden (fun v h => refPlain_any n f d p r dr o sl md fr ad cap zs v hl h)
  clear hT
  by_cases hE : plainE n f d p r dr o sl md fr zs = 0
  · have HR := hidden (rightE_plain hE)
    obtain ⟨M1, M2⟩ := lastE_bd hE
    obtain ⟨_, _, _, _, _, d1, d2, _, p2, r1, r2, dr1, dr2, o1, o2, sl1, sl2, _, _, _, _, z1, z2, _⟩ := plainE_ok hE
    have p1 := plainE_p hE
    obtain ⟨g1, g2⟩ := guardF_in d1 d2 r1 r2 dr1 dr2 M1 M2
    have HL := hidden (fun v h => RLast_any n f d p r dr o sl md fr ad cap zs v hl h hE)
    have HG := hidden (fun v h => RGuard_any n f d p r dr o sl md fr ad cap zs v hl h)
    rw [hE] at HP HG
    simp only [gate_ok] at HG
    clear hE HPP
    have HF : Hid (rightF d p r dr sl (lastE o sl zs) = _) := hidden (rfl : rightF d p r dr sl (lastE o sl zs) = if sl ≤ 2 * guardF d r dr (lastE o sl zs) then 8 else if (p - 1) * (r - dr) < lastE o sl zs + d * r + guardF d r dr (lastE o sl zs) then 8 else if 32768 ≤ p * (r + dr) then 8 else 0)
    have HV : Hid (rightE n f d p r dr o sl md fr zs = if sl ≤ 2 * guardF d r dr (lastE o sl zs) then 8 else if (p - 1) * (r - dr) < lastE o sl zs + d * r + guardF d r dr (lastE o sl zs) then 8 else if 32768 ≤ p * (r + dr) then 8 else 0) := HR.out.trans HF.out
    clear HF HR
    have tz : IntKind.i64.wrap ((zs.length : Int) - 1) = (zs.length : Int) - 1 := IntWalk.i64_in _ (by omega)
    generalize guardF d r dr (lastE o sl zs) = G at *
    generalize lastE o sl zs = M at *
    obtain ⟨a0, a1⟩ := mul_bd (show 0 ≤ d by omega) d2 (show 0 ≤ r by omega) r2
    obtain ⟨b0, b1⟩ := mul_bd (show 0 ≤ p - 1 by omega) (show p - 1 ≤ 399 by omega) (show 0 ≤ r - dr by omega) (show r - dr ≤ 64 by omega)
    obtain ⟨e0, e1⟩ := mul_bd (show 0 ≤ p by omega) p2 (show 0 ≤ r + dr by omega) (show r + dr ≤ 128 by omega)
    have t1 : IntKind.i64.wrap (d * r) = d * r := IntWalk.i64_in _ (by omega)
    have t2 : IntKind.i64.wrap (M + d * r) = M + d * r := IntWalk.i64_in _ (by omega)
    have t3 : IntKind.i64.wrap (M + d * r + G) = M + d * r + G := IntWalk.i64_in _ (by omega)
    go_enter Try.func19, Try.ntmps19
    go_wp2_with fail
    refine HP.out.mono ?_
    rintro e w2 ⟨rfl, hb2⟩
    have HB2 := hidden hb2
    clear hb2
    obtain ⟨hbox, hsz⟩ := box_at HB2.out
    go_wp2_with fail
    refine (HG.out _ (HT.out.below HB2.out)).mono ?_
    rintro e w3 ⟨rfl, hb3⟩
    have HB3 := hidden (bthen HB2.out hb3)
    clear hb3 hbox hsz
    obtain ⟨hbox, hsz⟩ := box_at HB3.out
    have HT3 := hidden (HT.out.below HB3.out)
    go_wp2
    refine wp_region_quiet_below (by kernel_rfl) (by kernel_rfl) ?_
    repeat (go_big_quiet_step ((go_at_call 42; exact Calls.regrown_of (HL.out _ (HT3.out.below (below_regrown _ _ _))))))
    refine wpQuiet_nil ?_
    intro w4 hw4
    have HB4 := hidden (bthen HB3.out (rg_below hw4))
    clear hw4 hbox hsz t1 t2 t3 tz
    obtain ⟨hbox, hsz⟩ := box_at HB4.out
    generalize hX : M + d * r + G = X at *
    have hX1 : 0 ≤ X ∧ X ≤ 200000000 := by omega
    clear hX
    by_cases c0 : sl ≤ 2 * G
    · have HW : Hid (rightE n f d p r dr o sl md fr zs = 8) := HV.out.trans (if_pos c0)
      clear HV
      go_wp2
      go_ret
      exact ⟨ret_i HW.out.symm, bthen (ballc w _) HB4.out⟩
    have c0' : decide (sl ≤ 2 * G) = false := decide_eq_false c0
    by_cases c1 : (p - 1) * (r - dr) < X
    · have HW : Hid (rightE n f d p r dr o sl md fr zs = 8) := HV.out.trans ((if_neg c0).trans (if_pos c1))
      clear HV
      go_wp2
      go_ret
      exact ⟨ret_i HW.out.symm, bthen (ballc w _) HB4.out⟩
    have c1' : decide ((p - 1) * (r - dr) < X) = false := decide_eq_false c1
    by_cases c2 : 32768 ≤ p * (r + dr)
    · have HW : Hid (rightE n f d p r dr o sl md fr zs = 8) := HV.out.trans ((if_neg c0).trans ((if_neg c1).trans (if_pos c2)))
      clear HV
      go_wp2
      go_ret
      exact ⟨ret_i HW.out.symm, bthen (ballc w _) HB4.out⟩
    · have HW : Hid (rightE n f d p r dr o sl md fr zs = 0) := HV.out.trans ((if_neg c0).trans ((if_neg c1).trans (if_neg c2)))
      clear HV
      go_wp2
      go_ret
      exact ⟨ret_i HW.out.symm, bthen (ballc w _) HB4.out⟩
  · have HR := hidden (rightE_not hE)
    generalize plainE n f d p r dr o sl md fr zs = E at *
    go_enter Try.func19, Try.ntmps19
    go_wp2_with fail
    refine HP.out.mono ?_
    rintro e w2 ⟨rfl, hb2⟩
    have HB2 := hidden hb2
    clear hb2
    obtain ⟨hbox, hsz⟩ := box_at HB2.out
    go_wp2_with fail
    refine (HPP.out _ (HT.out.below HB2.out)).mono ?_
    rintro e w3 ⟨rfl, hb3⟩
    have HB3 := hidden (bthen HB2.out hb3)
    clear hb3 hbox hsz
    go_wp2
    go_ret
    exact ⟨ret_i HR.out.symm, bthen (ballc w _) HB3.out⟩
end Go.Proofs.Ytcfakhfipdjnmaa
