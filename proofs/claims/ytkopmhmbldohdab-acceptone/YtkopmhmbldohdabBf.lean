/- Several texts of one's own in one: what each proves, and its conditions, is said ahead of it. -/
import Derived.Test.YtkopmhmbldohdabBa
import Derived.Test.YtkopmhmbldohdabBc
import Derived.Test.YtkopmhmbldohdabBd
import Derived.Test.YtkopmhmbldohdabBe

/- A row of packets that came in as an argument, opened: where its packets lie, and that their texts' lengths fit int; no conditions. -/
namespace Go.Proofs.Ytkopmhmbldohdab
open Go.ChangeShapes Go.WideShapes Go.ChangeAt Go.RowKit
set_option linter.unusedVariables false

/-- Rows of packets whose Vec fits int. -/
def kPktz : Kind { q : Pkt // q.ve.size ≤ 9223372036854775807 } := ⟨6, fun q => pktC q.1, fun _ => rfl, by intro a u hu; simp [pktC] at hu; rcases hu with rfl | rfl | rfl | rfl | rfl | rfl <;> rfl, by decide⟩
theorem kPktz_flat (l : List { q : Pkt // q.ve.size ≤ 9223372036854775807 }) : kPktz.flat l = kPkt.flat (l.map Subtype.val) := by
  induction l with
  | nil => rfl
  | cons a l ih => simp only [Kind.flat, List.flatMap_cons, List.map_cons] at ih ⊢; rw [ih]; rfl
section
variable {H : Type} {enc : TypeId × Value → H} {w : World} {base : Nat} {spare : Nat → Bool} {held : Bool}
set_option maxRecDepth 100000 in
theorem dec_pktz (n : Nat) (cs : List Value) (y : DataW H × List MemPlace) (hl : cs.length = kPktz.k) (h : DataW.trod enc Try.prog w base spare held n 32 cs = some y) : ∃ a, cs = kPktz.enc a := by
  obtain ⟨c0, c1, c2, c3, c4, c5, rfl⟩ : ∃ c0 c1 c2 c3 c4 c5, cs = [c0, c1, c2, c3, c4, c5] := by
    have h2 : cs.length = 6 := hl
    match cs, h2 with
    | [c0, c1, c2, c3, c4, c5], _ => exact ⟨c0, c1, c2, c3, c4, c5, rfl⟩
  obtain ⟨xs, m, _, _, _, hxl, hfs⟩ := DataW.trod_struct Try.underlying32 h
  have k3 : Try.prog.cellsOf 3 = 1 := by kernel_rfl
  have k9 : Try.prog.cellsOf 9 = 1 := by kernel_rfl
  obtain ⟨y0, q0⟩ := some_of_lt hxl (by decide : 0 < 6) (hfs 0 _ rfl)
  obtain ⟨x0, h0, _, w0⟩ := DataW.trod_string Try.underlying9 (show DataW.trod enc Try.prog w base spare held m 9 [c0] = some y0 by simpa [Value.cells, k9] using q0)
  obtain ⟨y1, q1⟩ := some_of_lt hxl (by decide : 1 < 6) (hfs 1 _ rfl)
  obtain ⟨x1, h1, _, w1⟩ := DataW.trod_int Try.underlying3 (show DataW.trod enc Try.prog w base spare held m 3 [c1] = some y1 by simpa [Value.cells, k3] using q1)
  obtain ⟨y2, q2⟩ := some_of_lt hxl (by decide : 2 < 6) (hfs 2 _ rfl)
  obtain ⟨x2, h2, _, w2⟩ := DataW.trod_string Try.underlying9 (show DataW.trod enc Try.prog w base spare held m 9 [c2] = some y2 by simpa [Value.cells, k9] using q2)
  obtain ⟨y3, q3⟩ := some_of_lt hxl (by decide : 3 < 6) (hfs 3 _ rfl)
  obtain ⟨x3, h3, _, w3⟩ := DataW.trod_int Try.underlying3 (show DataW.trod enc Try.prog w base spare held m 3 [c3] = some y3 by simpa [Value.cells, k3] using q3)
  obtain ⟨y4, q4⟩ := some_of_lt hxl (by decide : 4 < 6) (hfs 4 _ rfl)
  obtain ⟨x4, h4, _, w4⟩ := DataW.trod_int Try.underlying3 (show DataW.trod enc Try.prog w base spare held m 3 [c4] = some y4 by simpa [Value.cells, k3] using q4)
  obtain ⟨y5, q5⟩ := some_of_lt hxl (by decide : 5 < 6) (hfs 5 _ rfl)
  obtain ⟨x5, h5, _, w5⟩ := DataW.trod_string Try.underlying9 (show DataW.trod enc Try.prog w base spare held m 9 [c5] = some y5 by simpa [Value.cells, k9] using q5)
  simp only [List.cons.injEq, and_true] at h0 h1 h2 h3 h4 h5
  subst h0 h1 h2 h3 h4 h5
  unfold maxLen at w0 w2 w5
  exact ⟨⟨⟨x0, x1, x2, x3, x4, x5⟩, w2⟩, rfl⟩
theorem pktz_out {ad : Option Addr} {cap : Nat} {es : List { q : Pkt // q.ve.size ≤ 9223372036854775807 }} (hl : es.length ≤ 9223372036854775807) (hE : kPktz.Lies w.heap.size w (.slice ad es.length cap) es) :
    (es.map Subtype.val).length ≤ 9223372036854775807 ∧ kPkt.Lies w.heap.size w (.slice ad (es.map Subtype.val).length cap) (es.map Subtype.val) ∧ ∀ q ∈ es.map Subtype.val, q.ve.size ≤ 9223372036854775807 := by
  refine ⟨by rw [List.length_map]; exact hl, ?_, ?_⟩
  · obtain ⟨ad', c, hv, h1, h2, h3, hc⟩ := hE
    refine ⟨ad', c, by rw [List.length_map]; exact hv, by rw [List.length_map]; exact h1, h2, h3, fun hj => ?_⟩
    rw [← kPktz_flat]
    exact hc (by simpa using hj)
  · intro t ht
    obtain ⟨q, _, rfl⟩ := List.mem_map.1 ht
    exact q.2
set_option maxRecDepth 100000 in
theorem open_pks {r : Reach} {b0 : Nat} {v : Value} {dt : DataW H} {ps : List MemPlace} (hv : Value.okWide Try.prog w r b0 45 v) (h : DataW.Trod enc Try.prog w base spare held 45 v dt ps) :
    ∃ (ad : Option Addr) (cap : Nat) (es : List Pkt), v = .slice ad es.length cap ∧ es.length ≤ 9223372036854775807 ∧ kPkt.Lies w.heap.size w (.slice ad es.length cap) es ∧ ∀ q ∈ es, q.ve.size ≤ 9223372036854775807 := by
  obtain ⟨ad, cap, es, rfl, hl, hE⟩ := kPktz.open_arg Try.underlying45 (by kernel_rfl) dec_pktz hv h
  obtain ⟨h1, h2, h3⟩ := pktz_out hl hE
  exact ⟨ad, cap, es.map Subtype.val, by rw [List.length_map], h1, h2, h3⟩
theorem rows_pks {c : Value} {fuel : Nat} {y : DataW H × List MemPlace} (h : DataW.trod enc Try.prog w base spare held fuel 45 [c] = some y) :
    ∃ (ad : Option Addr) (cap : Nat) (es : List Pkt), c = .slice ad es.length cap ∧ es.length ≤ 9223372036854775807 ∧ kPkt.Lies w.heap.size w (.slice ad es.length cap) es ∧ ∀ q ∈ es, q.ve.size ≤ 9223372036854775807 := by
  obtain ⟨ad, cap, es, rfl, hl, hE⟩ := kPktz.open_rows Try.underlying45 (by kernel_rfl) dec_pktz h
  obtain ⟨h1, h2, h3⟩ := pktz_out hl hE
  exact ⟨ad, cap, es.map Subtype.val, by rw [List.length_map], h1, h2, h3⟩
end
end Go.Proofs.Ytkopmhmbldohdab

/- Plain words on two clocks that drift: how far they are apart at the first tick at which one of them has a slot's middle, and some ticks later; conditions: what is right. -/
namespace Go.Proofs.Ytkopmhmbldohdab
open Go.ChangeShapes Go.WideShapes Go.ChangeAt Go.RowKit
set_option linter.unusedVariables false

/-- How many units a clock goes at a tick. -/
def unitE (r dr : Int) (l : List Int) (t : Nat) : Int := if t < l.length then max (r - dr) (min (l.getD t 0) (r + dr)) else r
theorem unitE_bd {r dr : Int} (h : 0 ≤ dr) (l : List Int) (t : Nat) : r - dr ≤ unitE r dr l t ∧ unitE r dr l t ≤ r + dr := by
  unfold unitE
  split <;> omega
/-- Where a clock is after t ticks. -/
def clockE (r dr : Int) (l : List Int) : Nat → Int
  | 0 => 0
  | t + 1 => clockE r dr l t + unitE r dr l t
theorem clockE_bd {r dr : Int} (h : 0 ≤ dr) (l : List Int) (t : Nat) : (t : Int) * (r - dr) ≤ clockE r dr l t ∧ clockE r dr l t ≤ (t : Int) * (r + dr) := by
  induction t with
  | zero => simp [clockE]
  | succ t ih =>
    have hu := unitE_bd (r := r) h l t
    have e1 : ((t + 1 : Nat) : Int) * (r - dr) = (t : Int) * (r - dr) + (r - dr) := by
      rw [Int.natCast_add, Int.add_mul]; simp
    have e2 : ((t + 1 : Nat) : Int) * (r + dr) = (t : Int) * (r + dr) + (r + dr) := by
      rw [Int.natCast_add, Int.add_mul]; simp
    rw [e1, e2]
    simp only [clockE]
    omega
theorem clockE_apart {r dr : Int} (h : 0 ≤ dr) (l l' : List Int) (t : Nat) : clockE r dr l' t - clockE r dr l t ≤ 2 * dr * (t : Int) ∧ clockE r dr l t - clockE r dr l' t ≤ 2 * dr * (t : Int) := by
  induction t with
  | zero => simp [clockE]
  | succ t ih =>
    have h1 := unitE_bd (r := r) h l t
    have h2 := unitE_bd (r := r) h l' t
    have e : 2 * dr * ((t + 1 : Nat) : Int) = 2 * dr * (t : Int) + 2 * dr := by
      rw [Int.natCast_add, Int.mul_add]; simp
    rw [e]
    simp only [clockE]
    omega
theorem clockE_later {r dr : Int} (h : 0 ≤ dr) (l : List Int) (t i : Nat) : (i : Int) * (r - dr) ≤ clockE r dr l (t + i) - clockE r dr l t ∧ clockE r dr l (t + i) - clockE r dr l t ≤ (i : Int) * (r + dr) := by
  induction i with
  | zero => simp
  | succ i ih =>
    have hu := unitE_bd (r := r) h l (t + i)
    have e1 : ((i + 1 : Nat) : Int) * (r - dr) = (i : Int) * (r - dr) + (r - dr) := by
      rw [Int.natCast_add, Int.add_mul]; simp
    have e2 : ((i + 1 : Nat) : Int) * (r + dr) = (i : Int) * (r + dr) + (r + dr) := by
      rw [Int.natCast_add, Int.add_mul]; simp
    rw [e1, e2, show t + (i + 1) = (t + i) + 1 from rfl]
    simp only [clockE]
    omega
/-- A quotient, rounded up, is no less than what it comes from. -/
theorem ceil_ge {a b x : Int} (hb : 1 ≤ b) (h : x * b ≤ a) : x ≤ (a + b - 1) / b := by
  rw [Int.le_ediv_iff_mul_le (by omega)]
  omega
/-- THE CLOCKS. T: the first tick at which mine has the middle m. -/
theorem clocks_meet {d p r dr m M G : Int} {mine other : List Int} {T : Nat} (d1 : 1 ≤ d) (r1 : 1 ≤ r) (dr1 : 0 ≤ dr) (dr2 : dr ≤ r - 1) (m0 : 0 ≤ m) (mM : m ≤ M) (hG : G = guardF d r dr M) (hp : M + d * r + G ≤ (p - 1) * (r - dr)) (g0 : r ≤ G)
    (hT : ∀ t, t < T → clockE r dr mine t < m) (hm : m ≤ clockE r dr mine T) (hTp : (T : Int) ≤ p) :
    (T : Int) + d < p ∧ clockE r dr other (T + d.toNat) - m - d * r ≤ G ∧ -G ≤ clockE r dr other (T + d.toNat) - m - d * r := by
  have hd : ((d.toNat : Nat) : Int) = d := by omega
  have hl := clockE_later (r := r) dr1 other T d.toNat
  rw [hd] at hl
  have ed1 : d * (r - dr) = d * r - d * dr := Int.mul_sub _ _ _
  have ed2 : d * (r + dr) = d * r + d * dr := Int.mul_add _ _ _
  have edr : (d + 1) * dr = d * dr + dr := by rw [Int.add_mul]; omega
  have hdd : 0 ≤ d * dr := Int.mul_nonneg (by omega) dr1
  have hdd2 : d * dr ≤ d * r := Int.mul_le_mul_of_nonneg_left (by omega) (by omega)
  -- U: what drift makes, rounded up
  obtain ⟨U, hU⟩ : ∃ U, (2 * dr * M + (r - dr) - 1) / (r - dr) = U := ⟨_, rfl⟩
  have hG' : G = U + r + (d + 1) * dr := by rw [hG]; unfold guardF; rw [hU]
  cases T with
  | zero =>
    simp only [clockE] at hm hl
    have hm' : m = 0 := by omega
    have U0 : 0 ≤ U := by
      rw [← hU]; exact Int.ediv_nonneg (by have := Int.mul_nonneg (show 0 ≤ 2 * dr by omega) (show 0 ≤ M by omega); omega) (by omega)
    refine ⟨?_, by omega, by omega⟩
    have h1 : d * 1 ≤ d * r := Int.mul_le_mul_of_nonneg_left r1 (by omega)
    rcases (by omega : d < p ∨ p ≤ d) with h | h
    · simpa using h
    · exfalso
      have h2 : (p - 1) * (r - dr) ≤ (d - 1) * (r - dr) := Int.mul_le_mul_of_nonneg_right (by omega) (by omega)
      have h3 : (d - 1) * (r - dr) = d * (r - dr) - (r - dr) := by rw [Int.sub_mul]; omega
      omega
  | succ t =>
    have ht := hT t (Nat.lt_succ_self t)
    have b1 := clockE_bd (r := r) dr1 mine t
    have ap := clockE_apart (r := r) dr1 mine other t
    have ap2 := clockE_apart (r := r) dr1 mine other (t + 1)
    have hu := unitE_bd (r := r) dr1 other t
    -- the drift up to tick t is within U
    have hx : 2 * dr * (t : Int) ≤ U := by
      rw [← hU]
      refine ceil_ge (by omega) ?_
      have e : 2 * dr * (t : Int) * (r - dr) = 2 * dr * ((t : Int) * (r - dr)) := Int.mul_assoc _ _ _
      rw [e]
      exact Int.mul_le_mul_of_nonneg_left (by omega) (by omega)
    have e2 : 2 * dr * ((t + 1 : Nat) : Int) = 2 * dr * (t : Int) + 2 * dr := by
      rw [Int.natCast_add, Int.mul_add]; simp
    rw [e2] at ap2
    have eb : clockE r dr other (t + 1) = clockE r dr other t + unitE r dr other t := rfl
    refine ⟨?_, by omega, by omega⟩
    -- ahead of the next pulse
    rcases (by omega : ((t + 1 : Nat) : Int) + d < p ∨ p ≤ ((t + 1 : Nat) : Int) + d) with h | h
    · exact h
    · exfalso
      have h2 : (p - 1) * (r - dr) ≤ ((t : Int) + d) * (r - dr) := Int.mul_le_mul_of_nonneg_right (by omega) (by omega)
      have h3 : ((t : Int) + d) * (r - dr) = (t : Int) * (r - dr) + d * (r - dr) := Int.add_mul _ _ _
      omega
/-- A period is long enough for the middle. -/
theorem clocks_reach {d p r dr m M G : Int} {mine : List Int} (d1 : 1 ≤ d) (r1 : 1 ≤ r) (dr1 : 0 ≤ dr) (dr2 : dr ≤ r - 1) (mM : m ≤ M) (hp : M + d * r + G ≤ (p - 1) * (r - dr)) (g0 : r ≤ G) (T : Nat) (hT : (T : Int) = p) : m ≤ clockE r dr mine T := by
  have b1 := clockE_bd (r := r) dr1 mine T
  rw [hT] at b1
  have e : (p - 1) * (r - dr) = p * (r - dr) - (r - dr) := by rw [Int.sub_mul]; omega
  have h1 : 0 ≤ d * r := Int.mul_nonneg (by omega) (by omega)
  omega
end Go.Proofs.Ytkopmhmbldohdab

/- Plain words on clocks that begin anew, clear ticks and windows: at a clear tick all clocks tell the nominal slot, and windows are apart; conditions: what is right. -/
namespace Go.Proofs.Ytkopmhmbldohdab
open Go.ChangeShapes Go.WideShapes Go.ChangeAt Go.RowKit
set_option linter.unusedVariables false

/-- Where a clock stands after t ticks, on its ring. -/
def ringC (r dr : Int) (ls : List Int) (anchor : Int) (t : Nat) : Int := if t = 0 then anchor else (anchor + clockE r dr ls t) % 65536
theorem ringC_zero (r dr : Int) (ls : List Int) (anchor : Int) : ringC r dr ls anchor 0 = anchor := if_pos rfl
theorem ringC_succ (r dr : Int) (ls : List Int) (anchor : Int) (t : Nat) : ringC r dr ls anchor (t + 1) = (ringC r dr ls anchor t + unitE r dr ls t) % 65536 := by
  unfold ringC
  rw [if_neg (by omega)]
  have e : clockE r dr ls (t + 1) = clockE r dr ls t + unitE r dr ls t := rfl
  rw [e]
  by_cases h : t = 0
  · subst h
    rw [if_pos rfl]
    have e0 : clockE r dr ls 0 = 0 := rfl
    rw [e0]; omega
  · rw [if_neg h]; omega
theorem ringC_diff {r dr : Int} {ls : List Int} {anchor : Int} {t : Nat} (h0 : 0 ≤ clockE r dr ls t) (h1 : clockE r dr ls t < 65536) : (ringC r dr ls anchor t - anchor) % 65536 = clockE r dr ls t := by
  unfold ringC
  by_cases h : t = 0
  · subst h
    rw [if_pos rfl]
    have e0 : clockE r dr ls 0 = 0 := rfl
    rw [e0]; omega
  · rw [if_neg h]; omega
theorem ringC_bd (r dr : Int) (ls : List Int) (anchor : Int) (t : Nat) (ha : -9223372036854775808 ≤ anchor ∧ anchor ≤ 9223372036854775807) : -9223372036854775808 ≤ ringC r dr ls anchor t ∧ ringC r dr ls anchor t ≤ 9223372036854775807 := by
  unfold ringC
  split <;> omega
/-- Clocks within a period are short of half their way round. -/
theorem clock_half {p r dr : Int} (h : 0 ≤ dr) (h1 : 1 ≤ r - dr) (F2 : p * (r + dr) < 32768) (ls : List Int) {t : Nat} (ht : (t : Int) ≤ p) : 0 ≤ clockE r dr ls t ∧ clockE r dr ls t < 32768 := by
  have b := clockE_bd (r := r) h ls t
  have h2 : 0 ≤ (t : Int) * (r - dr) := Int.mul_nonneg (by omega) (by omega)
  have h3 : (t : Int) * (r + dr) ≤ p * (r + dr) := Int.mul_le_mul_of_nonneg_right ht (by omega)
  omega
/-- At a clear tick all tell the nominal slot. -/
theorem clear_same {r dr o sl t e : Int} {m : Nat} (hsl : 1 ≤ sl) (ho : 0 ≤ o) (ht : 0 ≤ t ∧ t ≤ 2000) (hc : clearB 0 r dr o sl m t = true) (h1 : t * (r - dr) ≤ e) (h2 : e ≤ t * (r + dr)) : slotF 0 o sl m e = slotF 0 o sl m (t * r) := by
  rw [clearB_in ht, List.all_eq_true] at hc
  rw [Int.mul_sub] at h1
  rw [Int.mul_add] at h2
  have side : ∀ k : Nat, k ≤ m → (o + (k : Int) * sl ≤ e ↔ o + (k : Int) * sl ≤ t * r) := fun k hk => by
    have h3 := hc k (List.mem_range.2 (by omega))
    rw [farB_iff] at h3
    omega
  have inn : ∀ k : Nat, k < m → ((o + (k : Int) * sl ≤ e ∧ e < o + (k : Int) * sl + sl) ↔ (o + (k : Int) * sl ≤ t * r ∧ t * r < o + (k : Int) * sl + sl)) := fun k hk => by
    have h3 := side k (by omega)
    have h4 := side (k + 1) (by omega)
    rw [← next_begin] at h4
    omega
  by_cases hex : ∃ k : Nat, k < m ∧ o + (k : Int) * sl ≤ t * r ∧ t * r < o + (k : Int) * sl + sl
  · obtain ⟨k, hk, h3, h4⟩ := hex
    obtain ⟨h5, h6⟩ := (inn k hk).2 ⟨h3, h4⟩
    rw [slotF_is hsl ho hk h3 h4, slotF_is hsl ho hk h5 h6]
  · rw [slotF_not hsl (fun k hk c => hex ⟨k, hk, c⟩), slotF_not hsl (fun k hk c => hex ⟨k, hk, (inn k hk).1 c⟩)]
/-- Windows are apart: what lies in one lies in no other. -/
theorem win_only {d r G o sl e : Int} {m k : Nat} (hsl : 1 ≤ sl) (hG : 2 * G < sl) (hk : k < m) (h1 : winLo d r G o sl k ≤ e) (h2 : e ≤ winHi d r G o sl k) : firstF (inWin d r G o sl e) (List.range m) = (k : Int) := by
  refine firstF_range_hit hk (by unfold inWin; rw [decide_eq_true h1, decide_eq_true h2]; rfl) fun j hj => ?_
  have h3 : ((j : Int) + 1) * sl ≤ (k : Int) * sl := Int.mul_le_mul_of_nonneg_right (by omega) (by omega)
  rw [Int.add_mul, Int.one_mul] at h3
  unfold winLo midE at h1
  unfold inWin
  rw [decide_eq_false (by unfold winHi midE; omega : ¬ e ≤ winHi d r G o sl j), Bool.and_false]
theorem mid_endS {o sl b : Int} {zs : List Int} (hb : b < (zs.length : Int)) (sl1 : 1 ≤ sl) : midE o sl b ≤ lastE o sl zs := by
  unfold lastE midE
  have h : b * sl ≤ ((zs.length : Int) - 1) * sl := Int.mul_le_mul_of_nonneg_right (by omega) (by omega)
  omega
end Go.Proofs.Ytkopmhmbldohdab

/- Plain words on many messages at one tick: all that are there are taken or refused, and of what is right one is taken at most; conditions: what is right. -/
namespace Go.Proofs.Ytkopmhmbldohdab
open Go.ChangeShapes Go.WideShapes Go.ChangeAt Go.RowKit
set_option linter.unusedVariables false

/-- How many packets have a message. -/
def cntQ (qs : List Pkt) : Nat → Nat
  | 0 => 0
  | k + 1 => if (qs.getD k noQ).ps = 0 then cntQ qs k else cntQ qs k + 1
theorem cntQ_no {qs : List Pkt} {k : Nat} (h : (qs.getD k noQ).ps = 0) : cntQ qs (k + 1) = cntQ qs k := if_pos h
theorem cntQ_yes {qs : List Pkt} {k : Nat} (h : ¬ (qs.getD k noQ).ps = 0) : cntQ qs (k + 1) = cntQ qs k + 1 := if_neg h
theorem cntQ_le (qs : List Pkt) (k : Nat) : cntQ qs k ≤ k := by
  induction k with
  | zero => exact Nat.le_refl _
  | succ k ih =>
    by_cases h : (qs.getD k noQ).ps = 0
    · rw [cntQ_no h]; omega
    · rw [cntQ_yes h]; omega
theorem all_cnt (chk : Int → Pkt → ByteArray → Int) (m n : Int) (mh mz : ByteArray) (qs : List Pkt) (k : Nat) : (allT chk m n mh mz qs k).got.length + (allT chk m n mh mz qs k).no = cntQ qs k := by
  induction k with
  | zero => rfl
  | succ k ih =>
    by_cases h : (qs.getD k noQ).ps = 0
    · rw [all_skip h, cntQ_no h]; exact ih
    · rw [cntQ_yes h]
      by_cases e : chk (k : Int) (qs.getD k noQ) (allT chk m n mh mz qs k).hd = 0
      · rw [all_take h e]; simp; omega
      · rw [all_no h e]; dsimp only; omega
/-- A message that is taken: whose slot, in whose window. -/
theorem took {n f d p r dr o sl md fr : Int} {zs : List Int} {mc ma mn mr fm ps cy : Int} {te mh : ByteArray} (h : chkC n f d p r dr o sl md fr zs mc ma mn mr fm ps cy te mh = 0) :
    2 ≤ mr ∧ ∃ j : Nat, j < zs.length ∧ zs.getD j 0 = fm ∧ winLo d r (guardF d r dr (lastE o sl zs)) o sl j ≤ (mc - ma) % 65536 ∧ (mc - ma) % 65536 ≤ winHi d r (guardF d r dr (lastE o sl zs)) o sl j := by
  obtain ⟨hE, hps, h3, ho, hw, _, _, _⟩ := chk_ok h
  refine ⟨h3, (ps - 1).toNat, by omega, ?_⟩
  have hk : ps - 1 = (((ps - 1).toNat : Nat) : Int) := by omega
  have hl : (ps - 1).toNat < zs.length := by omega
  generalize (ps - 1).toNat = j at *
  rw [hk, hE] at ho hw
  rw [ownF_in hl] at ho
  rw [win1_in hl, win2_in hl] at hw
  exact ⟨ho, by omega, by omega⟩
/-- One at most. -/
theorem all_one {n f d p r dr o sl md fr : Int} {zs : List Int} {mc ma mn mr : Int} {m n' : Int} {mh mz : ByteArray} {qs : List Pkt} (hsl : 1 ≤ sl) (hG : 2 * guardF d r dr (lastE o sl zs) < sl) (k : Nat) :
    (allT (fun i (q : Pkt) h => chkC n f d p r dr o sl md fr zs mc ma mn mr i q.ps q.cy q.te h) m n' mh mz qs k).got.length ≤ 1 ∧ (¬ (allT (fun i (q : Pkt) h => chkC n f d p r dr o sl md fr zs mc ma mn mr i q.ps q.cy q.te h) m n' mh mz qs k).got.length = 0 → 2 ≤ mr ∧ ∃ i j : Nat, i < k ∧ j < zs.length ∧ zs.getD j 0 = (i : Int) ∧ winLo d r (guardF d r dr (lastE o sl zs)) o sl j ≤ (mc - ma) % 65536 ∧ (mc - ma) % 65536 ≤ winHi d r (guardF d r dr (lastE o sl zs)) o sl j) := by
  induction k with
  | zero => exact ⟨Nat.zero_le _, fun h => absurd rfl h⟩
  | succ k ih =>
    obtain ⟨ih1, ih2⟩ := ih
    by_cases h : (qs.getD k noQ).ps = 0
    · rw [all_skip h]
      refine ⟨ih1, fun h2 => ?_⟩
      obtain ⟨a, i, j, b, c⟩ := ih2 h2
      exact ⟨a, i, j, by omega, c⟩
    · by_cases e : (fun i (q : Pkt) h => chkC n f d p r dr o sl md fr zs mc ma mn mr i q.ps q.cy q.te h) (k : Int) (qs.getD k noQ) (allT (fun i (q : Pkt) h => chkC n f d p r dr o sl md fr zs mc ma mn mr i q.ps q.cy q.te h) m n' mh mz qs k).hd = 0
      · obtain ⟨t1, j, t2, t3, t4, t5⟩ := took e
        rw [all_take h e]
        have hz : (allT (fun i (q : Pkt) h => chkC n f d p r dr o sl md fr zs mc ma mn mr i q.ps q.cy q.te h) m n' mh mz qs k).got.length = 0 := by
          apply Classical.byContradiction
          intro hn
          obtain ⟨_, i, j', hi, u2, u3, u4, u5⟩ := ih2 hn
          have e1 := win_only hsl hG t2 t4 t5
          have e2 := win_only hsl hG u2 u4 u5
          have : j = j' := by omega
          subst this
          omega
        refine ⟨by dsimp only; rw [List.length_append, hz]; exact Nat.le_refl _, fun _ => ⟨t1, k, j, by omega, t2, t3, t4, t5⟩⟩
      · rw [all_no h e]
        refine ⟨ih1, fun h2 => ?_⟩
        obtain ⟨a, i, j, b, c⟩ := ih2 h2
        exact ⟨a, i, j, by omega, c⟩
end Go.Proofs.Ytkopmhmbldohdab

/- The document's Right returns what it says, and makes at most new memory; conditions: the table lies where it says, and its length fits int. -/
namespace Go.Proofs.Ytkopmhmbldohdab
open Go.ChangeShapes Go.WideShapes Go.ChangeAt Go.RowKit
set_option linter.unusedVariables false
attribute [local go_sem] cell_rg

set_option maxHeartbeats 2000000 in
theorem RRight_any (n f d p r dr o sl md fr : Int) (ad : Option Addr) (cap : Nat) (zs : List Int) (w : World) (hl : zs.length ≤ 9223372036854775807) (hT : Tab w ad zs) :
    Calls Try.prog 13 #[.agg #[.int .i64 n, .int .i64 f, .int .i64 d, .int .i64 p, .int .i64 r, .int .i64 dr, .int .i64 o, .int .i64 sl, .int .i64 md, .int .i64 fr, .slice ad zs.length cap]] w fun e w' => e = .returned (.int .i64 (rightE n f d p r dr o sl md fr zs)) ∧ Below w.heap.size w w' := by
  have HT := hidden (hT.below (ballc w (.cells #[.int .i64 n, .int .i64 f, .int .i64 d, .int .i64 p, .int .i64 r, .int .i64 dr, .int .i64 o, .int .i64 sl, .int .i64 md, .int .i64 fr, .slice ad zs.length cap] 24)))
  have HP := hidden (refPlain_any n f d p r dr o sl md fr ad cap zs (w.alloc (.cells #[.int .i64 n, .int .i64 f, .int .i64 d, .int .i64 p, .int .i64 r, .int .i64 dr, .int .i64 o, .int .i64 sl, .int .i64 md, .int .i64 fr, .slice ad zs.length cap] 24)) hl HT.out)
  have HPP := hidden (fun v h => refPlain_any n f d p r dr o sl md fr ad cap zs v hl h)
  clear hT
  by_cases hE : plainE n f d p r dr o sl md fr zs = 0
  · have HR := hidden (rightE_plain hE)
    obtain ⟨M1, M2⟩ := lastE_bd hE
    obtain ⟨_, _, _, _, _, d1, d2, _, p2, r1, r2, dr1, dr2, o1, o2, sl1, sl2, _, _, _, _, z1, z2, _⟩ := plainE_ok hE
    have p1 := plainE_p hE
    obtain ⟨g1, g2⟩ := guardF_in d1 d2 r1 r2 dr1 dr2 M1 M2
    have HL := hidden (fun v h => RLast_any n f d p r dr o sl md fr ad cap zs v hl h hE)
    have HG := hidden (fun v h => RGuard_any n f d p r dr o sl md fr ad cap zs v hl h)
    rw [hE] at HP HG
    simp only [gate_ok] at HG
    clear hE HPP
    have HF : Hid (rightF d p r dr sl (lastE o sl zs) = _) := hidden (rfl : rightF d p r dr sl (lastE o sl zs) = if sl ≤ 2 * guardF d r dr (lastE o sl zs) then 8 else if (p - 1) * (r - dr) < lastE o sl zs + d * r + guardF d r dr (lastE o sl zs) then 8 else if 32768 ≤ p * (r + dr) then 8 else 0)
    have HV : Hid (rightE n f d p r dr o sl md fr zs = if sl ≤ 2 * guardF d r dr (lastE o sl zs) then 8 else if (p - 1) * (r - dr) < lastE o sl zs + d * r + guardF d r dr (lastE o sl zs) then 8 else if 32768 ≤ p * (r + dr) then 8 else 0) := HR.out.trans HF.out
    clear HF HR
    have tz : IntKind.i64.wrap ((zs.length : Int) - 1) = (zs.length : Int) - 1 := IntWalk.i64_in _ (by omega)
    generalize guardF d r dr (lastE o sl zs) = G at *
    generalize lastE o sl zs = M at *
    obtain ⟨a0, a1⟩ := mul_bd (show 0 ≤ d by omega) d2 (show 0 ≤ r by omega) r2
    obtain ⟨b0, b1⟩ := mul_bd (show 0 ≤ p - 1 by omega) (show p - 1 ≤ 399 by omega) (show 0 ≤ r - dr by omega) (show r - dr ≤ 64 by omega)
    obtain ⟨e0, e1⟩ := mul_bd (show 0 ≤ p by omega) p2 (show 0 ≤ r + dr by omega) (show r + dr ≤ 128 by omega)
    have t1 : IntKind.i64.wrap (d * r) = d * r := IntWalk.i64_in _ (by omega)
    have t2 : IntKind.i64.wrap (M + d * r) = M + d * r := IntWalk.i64_in _ (by omega)
    have t3 : IntKind.i64.wrap (M + d * r + G) = M + d * r + G := IntWalk.i64_in _ (by omega)
    go_enter Try.func13, Try.ntmps13
    go_wp2_with fail
    refine HP.out.mono ?_
    rintro e w2 ⟨rfl, hb2⟩
    have HB2 := hidden hb2
    clear hb2
    obtain ⟨hbox, hsz⟩ := box_at HB2.out
    go_wp2_with fail
    refine (HG.out _ (HT.out.below HB2.out)).mono ?_
    rintro e w3 ⟨rfl, hb3⟩
    have HB3 := hidden (bthen HB2.out hb3)
    clear hb3 hbox hsz
    obtain ⟨hbox, hsz⟩ := box_at HB3.out
    have HT3 := hidden (HT.out.below HB3.out)
    go_wp2
    refine wp_region_quiet_below (by kernel_rfl) (by kernel_rfl) ?_
    repeat (go_big_quiet_step ((go_at_call 8; exact Calls.regrown_of (HL.out _ (HT3.out.below (below_regrown _ _ _))))))
    refine wpQuiet_nil ?_
    intro w4 hw4
    have HB4 := hidden (bthen HB3.out (rg_below hw4))
    clear hw4 hbox hsz t1 t2 t3 tz
    obtain ⟨hbox, hsz⟩ := box_at HB4.out
    generalize hX : M + d * r + G = X at *
    have hX1 : 0 ≤ X ∧ X ≤ 200000000 := by omega
    clear hX
    by_cases c0 : sl ≤ 2 * G
    · have HW : Hid (rightE n f d p r dr o sl md fr zs = 8) := HV.out.trans (if_pos c0)
      clear HV
      go_wp2
      go_ret
      exact ⟨ret_i HW.out.symm, bthen (ballc w _) HB4.out⟩
    have c0' : decide (sl ≤ 2 * G) = false := decide_eq_false c0
    by_cases c1 : (p - 1) * (r - dr) < X
    · have HW : Hid (rightE n f d p r dr o sl md fr zs = 8) := HV.out.trans ((if_neg c0).trans (if_pos c1))
      clear HV
      go_wp2
      go_ret
      exact ⟨ret_i HW.out.symm, bthen (ballc w _) HB4.out⟩
    have c1' : decide ((p - 1) * (r - dr) < X) = false := decide_eq_false c1
    by_cases c2 : 32768 ≤ p * (r + dr)
    · have HW : Hid (rightE n f d p r dr o sl md fr zs = 8) := HV.out.trans ((if_neg c0).trans ((if_neg c1).trans (if_pos c2)))
      clear HV
      go_wp2
      go_ret
      exact ⟨ret_i HW.out.symm, bthen (ballc w _) HB4.out⟩
    · have HW : Hid (rightE n f d p r dr o sl md fr zs = 0) := HV.out.trans ((if_neg c0).trans ((if_neg c1).trans (if_neg c2)))
      clear HV
      go_wp2
      go_ret
      exact ⟨ret_i HW.out.symm, bthen (ballc w _) HB4.out⟩
  · have HR := hidden (rightE_not hE)
    generalize plainE n f d p r dr o sl md fr zs = E at *
    go_enter Try.func13, Try.ntmps13
    go_wp2_with fail
    refine HP.out.mono ?_
    rintro e w2 ⟨rfl, hb2⟩
    have HB2 := hidden hb2
    clear hb2
    obtain ⟨hbox, hsz⟩ := box_at HB2.out
    go_wp2_with fail
    refine (HPP.out _ (HT.out.below HB2.out)).mono ?_
    rintro e w3 ⟨rfl, hb3⟩
    have HB3 := hidden (bthen HB2.out hb3)
    clear hb3 hbox hsz
    go_wp2
    go_ret
    exact ⟨ret_i HR.out.symm, bthen (ballc w _) HB3.out⟩
end Go.Proofs.Ytkopmhmbldohdab
