/- Several texts of one's own in one: what each proves, and its conditions, is said ahead of it. -/
import Derived.Test.YtohgmliafidalaaBc
import Derived.Test.YtohgmliafidalaaBa
import Derived.Deep.OwnRows
import Derived.Shelf.Abstract
import Derived.Laws.AppendOwn

/- The call Number of package vec returns the number of a text's first places; conditions: the text's length fits int. -/
namespace Go.Proofs.Ytohgmliafidalaa
open Go.ChangeShapes Go.WideShapes Go.ChangeAt Go.RowKit
set_option linter.unusedVariables false
attribute [local go_sem] cell_rg

/-- The number of the first places of a text. -/
def numG (s : ByteArray) : Nat → Nat
  | 0 => 0
  | k + 1 => numG s k + (if vdg 1 s k = 1 then 2 ^ k else 0)
theorem numG_lt (s : ByteArray) : ∀ k, numG s k < 2 ^ k
  | 0 => Nat.one_pos
  | k + 1 => by
    have := numG_lt s k
    unfold numG
    split <;> (rw [Nat.pow_succ]; omega)
theorem or_pow : ∀ k : Nat, k < 8 → ∀ x : Nat, x < 2 ^ k → bits .or .i64 (x : Int) ((2 ^ k : Nat) : Int) = ((x + 2 ^ k : Nat) : Int) := by decide +kernel
set_option maxHeartbeats 1000000 in
theorem Number_any (s : ByteArray) (hs : s.size ≤ 9223372036854775807) (w : World) :
    Calls Try.prog 72 #[.string s] w fun e w' => e = .returned (.int .i64 (numG s 8 : Int)) ∧ w = w' := by
  have CG := hidden (fun (k : Nat) V => vdigitAt_any s k 1 V hs (by decide))
  go_enter Try.func72, Try.ntmps72
  go_wp2
  go_loop [3, 5] (fun a i => ∃ k : Nat, k ≤ 8 ∧ i = .int .i64 k ∧ a = .int .i64 (numG s k : Int)) (fun _ i => 8 - (intV i).toNat)
  case atStart => exact ⟨0, Nat.zero_le _, rfl, rfl⟩
  case round =>
    obtain ⟨k, hk, rfl, rfl⟩ := hrel
    by_cases hlt : k < 8
    · have i2 : (k : Int) < 8 := by omega
      have hx := numG_lt s k
      have HO := hidden (or_pow k hlt (numG s k) hx)
      have HC := hidden (CG.out k)
      have HN : Hid (numG s (k + 1) = numG s k + (if vdg 1 s k = 1 then 2 ^ k else 0)) := rfl
      have hp : 2 ^ k ≤ 128 := by
        have hk' : k = 0 ∨ k = 1 ∨ k = 2 ∨ k = 3 ∨ k = 4 ∨ k = 5 ∨ k = 6 ∨ k = 7 := by omega
        rcases hk' with rfl | rfl | rfl | rfl | rfl | rfl | rfl | rfl <;> decide
      generalize vdg 1 s k = z at *
      by_cases hz : z = 1
      · subst hz
        rw [if_pos rfl] at HN
        go_wp2_with fail
        refine (HC.out _).mono ?_
        rintro e w2 ⟨rfl, rfl⟩
        have HW : Hid (wrap64 ((2 : Int) ^ k) = ((2 ^ k : Nat) : Int)) := by
          show wrap64 ((2 : Int) ^ k) = ((2 ^ k : Nat) : Int)
          rw [show (2 : Int) ^ k = ((2 ^ k : Nat) : Int) by simp]
          generalize 2 ^ k = y at *
          unfold wrap64
          omega
        clear hp hx
        go_wp2
        go_round
        case rel => exact ⟨k + 1, by omega, by go_num, by rw [HW.out, HO.out, HN.out]⟩
        case measure => simp [intV]; omega
      · have j : (z == 1) = false := by simp [hz]
        rw [if_neg hz] at HN
        clear hz
        go_wp2_with fail
        refine (HC.out _).mono ?_
        rintro e w2 ⟨rfl, rfl⟩
        go_wp2
        go_round
        case rel => exact ⟨k + 1, by omega, by go_num, by rw [HN.out]; rfl⟩
        case measure => simp [intV]; omega
    · obtain rfl : k = 8 := by omega
      go_wp2
      go_ret
      exact ⟨rfl, rfl⟩
end Go.Proofs.Ytohgmliafidalaa

/- Plain mathematics of cycles' numbers and members: the number behind one, a row of them, digits of a text; no conditions. -/
namespace Go.Proofs.Ytohgmliafidalaa
open Go.ChangeShapes Go.WideShapes Go.ChangeAt Go.RowKit
set_option linter.unusedVariables false

/-- The number behind one; the next one of a node that agreed on something, or on nothing. -/
def behF (md n : Int) : Int := modF (modF n md + 1) md
def ownF (own : Int) (agreed : ByteArray) : Int := if emt agreed = true then own else (numG agreed 8 : Int)
def nextF (E md own : Int) (agreed : ByteArray) : Int := if E = 0 then behF md (ownF own agreed) else 0
def apartF (E md a b : Int) : Int := if E = 0 then modF (modF b md - modF a md) md else 0
/-- Numbers one behind another. -/
def seqF (md first : Int) : Nat → Int
  | 0 => modF first md
  | k + 1 => behF md (seqF md first k)
def seqL (md first : Int) (m : Nat) : List Int := (List.range m).map (seqF md first)
theorem seqL_len (md first : Int) (m : Nat) : (seqL md first m).length = m := by simp [seqL]
theorem seqL_s (md first : Int) (m : Nat) : seqL md first (m + 1) = seqL md first m ++ [seqF md first m] := by simp [seqL, List.range_succ]
/-- Digits of a text from a place on: 1 where there is a 1. -/
def digG (s : ByteArray) (fr k : Nat) : Nat := if vdg 1 s (fr + k) = 1 then 1 else 0
def digT (s : ByteArray) (fr n : Nat) : ByteArray := dgB n (digG s fr)
theorem digG_bd (s : ByteArray) (fr k : Nat) : digG s fr k ≤ 1 := by unfold digG; split <;> omega
def memF (E : Int) (N : Nat) (own agreed : ByteArray) : ByteArray := if E = 0 then (if emt agreed = true then digT own 0 N else digT agreed 8 N) else noB
theorem modF_bd (n : Int) {by_ : Int} (h : 1 ≤ by_) : 0 ≤ modF n by_ ∧ modF n by_ < by_ := by
  unfold modF
  rw [if_neg (by omega)]
  have h1 := Int.tmod_lt_of_pos n (b := by_) (by omega)
  have h2 := Int.lt_tmod_of_pos n (b := by_) (by omega)
  split <;> omega
theorem modF_in {n by_ : Int} (h0 : 0 ≤ n) (h : n < by_) : modF n by_ = n := by
  unfold modF
  rw [if_neg (by omega), Int.tmod_eq_of_lt h0 h, if_neg (by omega)]
theorem modF_self {by_ : Int} (h : 1 ≤ by_) : modF by_ by_ = 0 := by
  unfold modF
  rw [if_neg (by omega), Int.tmod_self, if_neg (by omega)]
theorem modF_emod (n : Int) {by_ : Int} (h : 1 ≤ by_) : modF n by_ = n % by_ := by
  unfold modF
  rw [if_neg (by omega), Int.tmod_eq_emod]
  have h1 := Int.emod_nonneg n (show by_ ≠ 0 by omega)
  have h2 := Int.emod_lt_of_pos n (show 0 < by_ by omega)
  by_cases c : 0 ≤ n ∨ by_ ∣ n
  · rw [if_pos c, if_neg (by omega)]; omega
  · rw [if_neg c]
    have hne : n % by_ ≠ 0 := fun e => c (.inr (Int.dvd_of_emod_eq_zero e))
    have : (by_.natAbs : Int) = by_ := by omega
    rw [this, if_pos (by omega)]
    omega
theorem modF_lt (n : Int) {md : Int} (h : 2 ≤ md) (h2 : md ≤ 250) : 0 ≤ modF n md ∧ modF n md ≤ 249 := by
  have := modF_bd n (by_ := md) (by omega)
  omega
theorem behF_bd (n : Int) {md : Int} (h : 2 ≤ md) (h2 : md ≤ 250) : 0 ≤ behF md n ∧ behF md n ≤ 249 := modF_lt _ h h2
/-- A number counts as what is left of it. -/
theorem behF_mod (n : Int) {md : Int} (h : 2 ≤ md) : behF md n = modF (n + 1) md := by
  unfold behF
  rw [modF_emod _ (show 1 ≤ md by omega), modF_emod n (show 1 ≤ md by omega), modF_emod _ (show 1 ≤ md by omega)]
  rw [Int.emod_add_emod]
theorem seqF_at (first : Int) {md : Int} (h : 2 ≤ md) : ∀ k : Nat, seqF md first k = (first + k) % md
  | 0 => by
    unfold seqF
    rw [modF_emod _ (by omega)]
    simp
  | k + 1 => by
    unfold seqF
    rw [behF_mod _ h, modF_emod _ (by omega), seqF_at first h k, Int.emod_add_emod]
    congr 1
    omega
end Go.Proofs.Ytohgmliafidalaa

/- The calls isVote, counted, Count, Quorum, Some, Enough, Most and Least of package tally return what plain functions give, and make at most new memory; conditions: the table and the votes lie where they say, and lengths fit int. -/
namespace Go.Proofs.Ytohgmliafidalaa
open Go.ChangeShapes Go.WideShapes Go.ChangeAt Go.RowKit
set_option linter.unusedVariables false

theorem isVote_any (v : Int) (w : World) :
    Calls Try.prog 156 #[.int .i64 v] w fun e w' => e = .returned (.bool (voteB v)) ∧ w = w' := by
  by_cases h : 0 ≤ v ∧ v < 3
  · have e := voteB_yes h.1 h.2
    obtain ⟨h1, h2⟩ := h
    have i1 : decide (v < 3) = true := by simp [h2]
    have i2 : decide (0 ≤ v) = true := by simp [h1]
    rw [e]; clear e
    go_enter Try.func156, Try.ntmps156
    go_wp2
    go_ret
    exact ⟨rfl, rfl⟩
  · have e := voteB_no h
    rw [e]; clear e
    by_cases h1 : 0 ≤ v
    · have i2 : decide (0 ≤ v) = true := by simp [h1]
      have i1 : decide (v < 3) = false := by simp; omega
      clear h
      go_enter Try.func156, Try.ntmps156
      go_wp2
      go_ret
      exact ⟨rfl, rfl⟩
    · have i2 : decide (0 ≤ v) = false := by simp; omega
      clear h
      go_enter Try.func156, Try.ntmps156
      go_wp2
      go_ret
      exact ⟨rfl, rfl⟩

set_option maxHeartbeats 2000000 in
theorem counted_any (ad : Option Addr) (len cap : Nat) (zs : List Int) (hlz : zs.length ≤ 9223372036854775807) (w : World) (hZ : kInt.Lies w.heap.size w (.slice ad len cap) zs) :
    Calls Try.prog 151 #[.slice ad len cap] w fun e w' => e = .returned (.agg #[.int .i64 (cntL 0 zs : Int), .int .i64 (cntL 1 zs : Int), .int .i64 (cntL 2 zs : Int)]) ∧ Below w.heap.size w w' := by
  obtain rfl := hZ.len
  go_enter Try.func151, Try.ntmps151
  go_wp2
  go_loopw [8] (fun i wr => ∃ k : Nat, k ≤ zs.length ∧ i = .int .i64 k ∧ wr = (w.alloc (.cells #[.int .i64 0, .int .i64 0, .int .i64 0] 170)).alloc (.cells #[.int .i64 (cntL 0 (zs.take k) : Int), .int .i64 (cntL 1 (zs.take k) : Int), .int .i64 (cntL 2 (zs.take k) : Int)] 170)) (fun i _ => zs.length - (intV i).toNat)
  case atStart => exact ⟨0, Nat.zero_le _, rfl, rfl⟩
  case round =>
    obtain ⟨k, hk, rfl, rfl⟩ := hrel
    by_cases hlt : k < zs.length
    · obtain ⟨b, off, rfl, hbl, e0⟩ := kInt_at hZ k hlt
      have f0 : ∀ o1 o2, ((w.alloc o1).alloc o2).cell? ⟨b, off + k, none⟩ = some (.int .i64 zs[k]) := fun o1 o2 => ((((Below.refl _ w).alloc (Nat.le_refl _) o1).alloc (by simp) o2).cell (p := ⟨b, off + k, none⟩) hbl).trans e0
      have hsn := fun v => cntL_snoc v (zs.take k) zs[k]
      rw [← take_snocV zs hlt] at hsn
      have hle := fun v => cntL_le v (zs.take k)
      rw [List.length_take, Nat.min_eq_left hk] at hle
      have l0 := hle 0
      have l1 := hle 1
      have l2 := hle 2
      have s0 := hsn 0
      have s1 := hsn 1
      have s2 := hsn 2
      clear hsn hle
      generalize zs[k] = z at f0 s0 s1 s2
      generalize cntL 0 (zs.take k) = c0 at *
      generalize cntL 1 (zs.take k) = c1 at *
      generalize cntL 2 (zs.take k) = c2 at *
      have HS0 := hidden s0
      have HS1 := hidden s1
      have HS2 := hidden s2
      have i1 : (0 : Int) ≤ (k : Int) := by omega
      have i2 : (k : Int) < (zs.length : Int) := by omega
      clear s0 s1 s2 e0 hZ
      by_cases hz : 0 ≤ z ∧ z < 3
      · have HV := hidden (voteB_yes hz.1 hz.2)
        have hz6 : z = 0 ∨ z = 1 ∨ z = 2 := by omega
        clear hz
        rcases hz6 with rfl | rfl | rfl
        all_goals
          go_wp2_with (go_at_call 156; refine (isVote_any _ _).mono ?_; rintro e w' ⟨rfl, rfl⟩; rw [HV.out])
          go_roundw
          case rel => exact ⟨k + 1, by omega, by go_num, by rw [HS0.out, HS1.out, HS2.out]; rfl⟩
          case measure => simp [intV]; omega
      · have HV := hidden (voteB_no hz)
        have HZ := hidden hz
        clear hz
        go_wp2_with (go_at_call 156; refine (isVote_any _ _).mono ?_; rintro e w' ⟨rfl, rfl⟩; rw [HV.out])
        go_roundw
        case rel => exact ⟨k + 1, by omega, by go_num, by rw [HS0.out, HS1.out, HS2.out, if_neg (by have := HZ.out; omega), if_neg (by have := HZ.out; omega), if_neg (by have := HZ.out; omega)]; rfl⟩
        case measure => simp [intV]; omega
    · obtain rfl : k = zs.length := by omega
      rw [List.take_length]
      go_wp2
      exact bodyPost_ret (v := .agg #[.int .i64 (cntL 0 zs : Int), .int .i64 (cntL 1 zs : Int), .int .i64 (cntL 2 zs : Int)]) (by simp [results, Try.results151, go_sem]) rfl ⟨rfl, (((Below.refl _ w).alloc (Nat.le_refl _) _).alloc (by simp) _)⟩

theorem idx3_0 (x y z : Value) (w : World) : (Instr.index 170 (.agg #[x, y, z]) (.int .i64 0)).run Try.prog w = .ok x w := by kernel_rfl
theorem idx3_1 (x y z : Value) (w : World) : (Instr.index 170 (.agg #[x, y, z]) (.int .i64 1)).run Try.prog w = .ok y w := by kernel_rfl
theorem idx3_2 (x y z : Value) (w : World) : (Instr.index 170 (.agg #[x, y, z]) (.int .i64 2)).run Try.prog w = .ok z w := by kernel_rfl
attribute [local go_sem] idx3_0 idx3_1 idx3_2 in
set_option maxHeartbeats 1000000 in
theorem TCount_any (v : Int) (ad : Option Addr) (len cap : Nat) (zs : List Int) (hlz : zs.length ≤ 9223372036854775807) (w : World) (hZ : kInt.Lies w.heap.size w (.slice ad len cap) zs) :
    Calls Try.prog 153 #[.int .i64 v, .slice ad len cap] w fun e w' => e = .returned (.int .i64 (cntF v zs)) ∧ Below w.heap.size w w' := by
  by_cases hz : 0 ≤ v ∧ v < 3
  · have HV := hidden (voteB_yes hz.1 hz.2)
    have hz6 : v = 0 ∨ v = 1 ∨ v = 2 := by omega
    have HC := hidden (cntF_in hz.1 hz.2 zs)
    clear hz
    rcases hz6 with rfl | rfl | rfl
    all_goals
      go_enter Try.func153, Try.ntmps153
      go_wp2_with fail
      refine (isVote_any _ _).mono ?_
      rintro e w' ⟨rfl, rfl⟩
      rw [HV.out]
      go_wp2_with fail
      refine (counted_any _ _ _ _ hlz _ hZ).mono ?_
      rintro e w2 ⟨rfl, hb⟩
      go_wp2
      go_ret
      exact ⟨ret_i HC.out.symm, hb⟩
  · have HV := hidden (voteB_no hz)
    have HC := hidden (cntF_out hz zs)
    clear hz
    go_enter Try.func153, Try.ntmps153
    go_wp2_with fail
    refine (isVote_any _ _).mono ?_
    rintro e w' ⟨rfl, rfl⟩
    rw [HV.out]
    go_wp2
    go_ret
    exact ⟨ret_i HC.out.symm, Below.refl _ _⟩
end Go.Proofs.Ytohgmliafidalaa

/- The calls Quorum, Some, Enough, Most and Least of package tally return what plain functions give, and make at most new memory; conditions: the table and the votes lie where they say, and lengths fit int. -/
namespace Go.Proofs.Ytohgmliafidalaa
open Go.ChangeShapes Go.WideShapes Go.ChangeAt Go.RowKit
set_option linter.unusedVariables false
attribute [local go_sem] idx3_0 idx3_1 idx3_2

theorem Quorum_any (n f d p r dr o sl md fr : Int) (ad : Option Addr) (cap : Nat) (zs : List Int) (w : World) (hl : zs.length ≤ 9223372036854775807) (hT : Tab w ad zs) :
    Calls Try.prog 150 #[.agg #[.int .i64 n, .int .i64 f, .int .i64 d, .int .i64 p, .int .i64 r, .int .i64 dr, .int .i64 o, .int .i64 sl, .int .i64 md, .int .i64 fr, .slice ad zs.length cap]] w fun e w' => e = .returned (.int .i64 (gate (plainE n f d p r dr o sl md fr zs) (n - f))) ∧ Below w.heap.size w w' := by
  have HQ := hidden (plain_any n f d p r dr o sl md fr ad cap zs (w.alloc (.cells #[.int .i64 n, .int .i64 f, .int .i64 d, .int .i64 p, .int .i64 r, .int .i64 dr, .int .i64 o, .int .i64 sl, .int .i64 md, .int .i64 fr, .slice ad zs.length cap] 24)) hl (hT.below (ballc _ _)))
  have HK := hidden (fun h => plainE_ok (n := n) (f := f) (d := d) (p := p) (r := r) (dr := dr) (o := o) (sl := sl) (md := md) (fr := fr) (zs := zs) h)
  clear hT
  generalize plainE n f d p r dr o sl md fr zs = E at HQ HK
  by_cases hE : E = 0
  · subst hE
    obtain ⟨n1, n2, f1, f2, _⟩ := HK.out rfl
    go_enter Try.func150, Try.ntmps150
    go_wp2_with fail
    refine HQ.out.mono ?_
    rintro e w2 ⟨rfl, hb2⟩
    have HB2 : Hid (Below w.heap.size w w2) := bthen (ballc w _) hb2
    obtain ⟨hbox, hsz⟩ := box_at hb2
    clear hb2 HQ HK
    go_wp2
    go_ret
    exact ⟨ret_i (gate_ok _).symm, HB2.out⟩
  · go_enter Try.func150, Try.ntmps150
    go_wp2_with fail
    refine HQ.out.mono ?_
    rintro e w2 ⟨rfl, hb2⟩
    have HB2 : Hid (Below w.heap.size w w2) := bthen (ballc w _) hb2
    clear hb2 HQ HK
    go_wp2
    go_ret
    exact ⟨ret_i (gate_no hE _).symm, HB2.out⟩
theorem Some_any (n f d p r dr o sl md fr : Int) (ad : Option Addr) (cap : Nat) (zs : List Int) (w : World) (hl : zs.length ≤ 9223372036854775807) (hT : Tab w ad zs) :
    Calls Try.prog 152 #[.agg #[.int .i64 n, .int .i64 f, .int .i64 d, .int .i64 p, .int .i64 r, .int .i64 dr, .int .i64 o, .int .i64 sl, .int .i64 md, .int .i64 fr, .slice ad zs.length cap]] w fun e w' => e = .returned (.int .i64 (gate (plainE n f d p r dr o sl md fr zs) (f + 1))) ∧ Below w.heap.size w w' := by
  have HQ := hidden (plain_any n f d p r dr o sl md fr ad cap zs (w.alloc (.cells #[.int .i64 n, .int .i64 f, .int .i64 d, .int .i64 p, .int .i64 r, .int .i64 dr, .int .i64 o, .int .i64 sl, .int .i64 md, .int .i64 fr, .slice ad zs.length cap] 24)) hl (hT.below (ballc _ _)))
  have HK := hidden (fun h => plainE_ok (n := n) (f := f) (d := d) (p := p) (r := r) (dr := dr) (o := o) (sl := sl) (md := md) (fr := fr) (zs := zs) h)
  clear hT
  generalize plainE n f d p r dr o sl md fr zs = E at HQ HK
  by_cases hE : E = 0
  · subst hE
    obtain ⟨n1, n2, f1, f2, _⟩ := HK.out rfl
    go_enter Try.func152, Try.ntmps152
    go_wp2_with fail
    refine HQ.out.mono ?_
    rintro e w2 ⟨rfl, hb2⟩
    have HB2 : Hid (Below w.heap.size w w2) := bthen (ballc w _) hb2
    obtain ⟨hbox, hsz⟩ := box_at hb2
    clear hb2 HQ HK
    go_wp2
    go_ret
    exact ⟨ret_i (gate_ok _).symm, HB2.out⟩
  · go_enter Try.func152, Try.ntmps152
    go_wp2_with fail
    refine HQ.out.mono ?_
    rintro e w2 ⟨rfl, hb2⟩
    have HB2 : Hid (Below w.heap.size w w2) := bthen (ballc w _) hb2
    clear hb2 HQ HK
    go_wp2
    go_ret
    exact ⟨ret_i (gate_no hE _).symm, HB2.out⟩

theorem Enough_any (n f d p r dr o sl md fr : Int) (ad : Option Addr) (cap : Nat) (zs : List Int) (v : Int) (a2 : Option Addr) (len c2 : Nat) (vs : List Int) (w : World) (hl : zs.length ≤ 9223372036854775807) (hT : Tab w ad zs) (hlv : vs.length ≤ 9223372036854775807) (hV : kInt.Lies w.heap.size w (.slice a2 len c2) vs) :
    Calls Try.prog 143 #[.agg #[.int .i64 n, .int .i64 f, .int .i64 d, .int .i64 p, .int .i64 r, .int .i64 dr, .int .i64 o, .int .i64 sl, .int .i64 md, .int .i64 fr, .slice ad zs.length cap], .int .i64 v, .slice a2 len c2] w fun e w' => e = .returned (.bool (enoughB (plainE n f d p r dr o sl md fr zs) n f v vs)) ∧ Below w.heap.size w w' := by
  have HQ := hidden (Quorum_any n f d p r dr o sl md fr ad cap zs (w.alloc (.cells #[.int .i64 n, .int .i64 f, .int .i64 d, .int .i64 p, .int .i64 r, .int .i64 dr, .int .i64 o, .int .i64 sl, .int .i64 md, .int .i64 fr, .slice ad zs.length cap] 24)) hl (hT.below (ballc _ _)))
  have HK := hidden (fun h => plainE_ok (n := n) (f := f) (d := d) (p := p) (r := r) (dr := dr) (o := o) (sl := sl) (md := md) (fr := fr) (zs := zs) h)
  have HV := hidden (hV.later (ballc w (.cells #[.int .i64 n, .int .i64 f, .int .i64 d, .int .i64 p, .int .i64 r, .int .i64 dr, .int .i64 o, .int .i64 sl, .int .i64 md, .int .i64 fr, .slice ad zs.length cap] 24)))
  clear hT hV
  generalize plainE n f d p r dr o sl md fr zs = E at HQ HK
  by_cases hE : E = 0
  · obtain ⟨n1, n2, f1, f2, n3, _⟩ := HK.out hE
    subst hE
    rw [gate_ok] at HQ
    have HE := hidden (enoughB_ok (E := 0) rfl n f v vs)
    have hq : 0 < n - f := by omega
    generalize n - f = q at *
    have C2 := fun V h => TCount_any v a2 len c2 vs hlv V h
    generalize cntF v vs = c at *
    have iq : decide (0 < q) = true := by simp [hq]
    by_cases hc : q ≤ c
    · rw [decide_eq_true hc] at HE
      have ic : decide (q ≤ c) = true := by simp [hc]
      go_enter Try.func143, Try.ntmps143
      go_wp2_with fail
      refine HQ.out.mono ?_
      rintro e w2 ⟨rfl, hb2⟩
      have HV2 := hidden (HV.out.later hb2)
      have HB2 : Hid (Below w.heap.size w w2) := bthen (ballc w _) hb2
      clear hb2 HQ HK HV
      go_wp2_with fail
      refine (C2 _ HV2.out).mono ?_
      rintro e w3 ⟨rfl, hb3⟩
      have HB3 := hidden (bthen HB2.out hb3)
      clear hb3 C2 HB2
      go_wp2
      go_ret
      exact ⟨ret_b HE.out.symm, HB3.out⟩
    · rw [decide_eq_false hc] at HE
      have ic : decide (q ≤ c) = false := by simp; omega
      go_enter Try.func143, Try.ntmps143
      go_wp2_with fail
      refine HQ.out.mono ?_
      rintro e w2 ⟨rfl, hb2⟩
      have HV2 := hidden (HV.out.later hb2)
      have HB2 : Hid (Below w.heap.size w w2) := bthen (ballc w _) hb2
      clear hb2 HQ HK HV
      go_wp2_with fail
      refine (C2 _ HV2.out).mono ?_
      rintro e w3 ⟨rfl, hb3⟩
      have HB3 := hidden (bthen HB2.out hb3)
      clear hb3 C2 HB2
      go_wp2
      go_ret
      exact ⟨ret_b HE.out.symm, HB3.out⟩
  · rw [gate_no hE] at HQ
    have HE := hidden (enoughB_no hE n f v vs)
    clear hE HK
    go_enter Try.func143, Try.ntmps143
    go_wp2_with fail
    refine HQ.out.mono ?_
    rintro e w2 ⟨rfl, hb2⟩
    have HB2 : Hid (Below w.heap.size w w2) := bthen (ballc w _) hb2
    clear hb2 HQ
    go_wp2
    go_ret
    exact ⟨ret_b HE.out.symm, HB2.out⟩

set_option maxHeartbeats 2000000 in
theorem Most_any (n f d p r dr o sl md fr : Int) (ad : Option Addr) (cap : Nat) (zs : List Int) (a2 : Option Addr) (len c2 : Nat) (vs : List Int) (w : World) (hl : zs.length ≤ 9223372036854775807) (hT : Tab w ad zs) (hlv : vs.length ≤ 9223372036854775807) (hV : kInt.Lies w.heap.size w (.slice a2 len c2) vs) :
    Calls Try.prog 141 #[.agg #[.int .i64 n, .int .i64 f, .int .i64 d, .int .i64 p, .int .i64 r, .int .i64 dr, .int .i64 o, .int .i64 sl, .int .i64 md, .int .i64 fr, .slice ad zs.length cap], .slice a2 len c2] w fun e w' => e = .returned (.int .i64 (mostF (plainE n f d p r dr o sl md fr zs) n f vs)) ∧ Below w.heap.size w w' := by
  have HQ := hidden (Quorum_any n f d p r dr o sl md fr ad cap zs (w.alloc (.cells #[.int .i64 n, .int .i64 f, .int .i64 d, .int .i64 p, .int .i64 r, .int .i64 dr, .int .i64 o, .int .i64 sl, .int .i64 md, .int .i64 fr, .slice ad zs.length cap] 24)) hl (hT.below (ballc _ _)))
  have HK := hidden (fun h => plainE_ok (n := n) (f := f) (d := d) (p := p) (r := r) (dr := dr) (o := o) (sl := sl) (md := md) (fr := fr) (zs := zs) h)
  have HV := hidden (hV.later (ballc w (.cells #[.int .i64 n, .int .i64 f, .int .i64 d, .int .i64 p, .int .i64 r, .int .i64 dr, .int .i64 o, .int .i64 sl, .int .i64 md, .int .i64 fr, .slice ad zs.length cap] 24)))
  have C2 := fun V h => counted_any a2 len c2 vs hlv V h
  clear hT hV
  generalize plainE n f d p r dr o sl md fr zs = E at HQ HK
  by_cases hE : E = 0
  · obtain ⟨n1, n2, f1, f2, n3, _⟩ := HK.out hE
    subst hE
    rw [gate_ok] at HQ
    have hq : 0 < n - f := by omega
    have m1 := fun h => mostF_1 (E := 0) rfl (n := n) (f := f) (zs := vs) h
    have m0 := fun h => mostF_0 (E := 0) rfl (n := n) (f := f) (zs := vs) h
    have m2 := fun h => mostF_2 (E := 0) rfl (n := n) (f := f) (zs := vs) h
    generalize mostF 0 n f vs = M at *
    generalize n - f = q at *
    generalize cntL 0 vs = k0 at *
    generalize cntL 1 vs = k1 at *
    generalize cntL 2 vs = k2 at *
    have iq : (q == 0) = false := by simp; omega
    by_cases h1 : q ≤ (k1 : Int)
    · have HM := hidden (m1 h1)
      clear m0 m1 m2
      go_enter Try.func141, Try.ntmps141
      go_wp2_with fail
      refine HQ.out.mono ?_
      rintro e w2 ⟨rfl, hb2⟩
      have HV2 := hidden (HV.out.later hb2)
      have HB2 : Hid (Below w.heap.size w w2) := bthen (ballc w _) hb2
      clear hb2 HQ HK HV
      go_wp2_with fail
      refine (C2 _ HV2.out).mono ?_
      rintro e w3 ⟨rfl, hb3⟩
      have HB3 := hidden (bthen HB2.out hb3)
      clear hb3 C2 HB2
      go_wp2
      go_ret
      exact ⟨ret_i HM.out.symm, bthen HB3.out (ballc _ _)⟩
    · by_cases h0 : q ≤ (k0 : Int)
      · have HM := hidden (m0 h1 h0)
        clear m0 m1 m2
        go_enter Try.func141, Try.ntmps141
        go_wp2_with fail
        refine HQ.out.mono ?_
        rintro e w2 ⟨rfl, hb2⟩
        have HV2 := hidden (HV.out.later hb2)
        have HB2 : Hid (Below w.heap.size w w2) := bthen (ballc w _) hb2
        clear hb2 HQ HK HV
        go_wp2_with fail
        refine (C2 _ HV2.out).mono ?_
        rintro e w3 ⟨rfl, hb3⟩
        have HB3 := hidden (bthen HB2.out hb3)
        clear hb3 C2 HB2
        go_wp2
        go_ret
        exact ⟨ret_i HM.out.symm, bthen HB3.out (ballc _ _)⟩
      · have HM := hidden (m2 h1 h0)
        clear m0 m1 m2
        go_enter Try.func141, Try.ntmps141
        go_wp2_with fail
        refine HQ.out.mono ?_
        rintro e w2 ⟨rfl, hb2⟩
        have HV2 := hidden (HV.out.later hb2)
        have HB2 : Hid (Below w.heap.size w w2) := bthen (ballc w _) hb2
        clear hb2 HQ HK HV
        go_wp2_with fail
        refine (C2 _ HV2.out).mono ?_
        rintro e w3 ⟨rfl, hb3⟩
        have HB3 := hidden (bthen HB2.out hb3)
        clear hb3 C2 HB2
        go_wp2
        go_ret
        exact ⟨ret_i HM.out.symm, bthen HB3.out (ballc _ _)⟩
  · rw [gate_no hE] at HQ
    have HE := hidden (mostF_no hE n f vs)
    clear hE HK
    go_enter Try.func141, Try.ntmps141
    go_wp2_with fail
    refine HQ.out.mono ?_
    rintro e w2 ⟨rfl, hb2⟩
    have HV2 := hidden (HV.out.later hb2)
    have HB2 : Hid (Below w.heap.size w w2) := bthen (ballc w _) hb2
    clear hb2 HQ HV
    go_wp2_with fail
    refine (C2 _ HV2.out).mono ?_
    rintro e w3 ⟨rfl, hb3⟩
    have HB3 := hidden (bthen HB2.out hb3)
    clear hb3 C2 HB2
    go_wp2
    go_ret
    exact ⟨ret_i HE.out.symm, bthen HB3.out (ballc _ _)⟩
set_option maxHeartbeats 4000000 in
theorem Least_any (n f d p r dr o sl md fr : Int) (ad : Option Addr) (cap : Nat) (zs : List Int) (now : Int) (a2 : Option Addr) (len c2 : Nat) (vs : List Int) (w : World) (hl : zs.length ≤ 9223372036854775807) (hT : Tab w ad zs) (hlv : vs.length ≤ 9223372036854775807) (hV : kInt.Lies w.heap.size w (.slice a2 len c2) vs) :
    Calls Try.prog 142 #[.agg #[.int .i64 n, .int .i64 f, .int .i64 d, .int .i64 p, .int .i64 r, .int .i64 dr, .int .i64 o, .int .i64 sl, .int .i64 md, .int .i64 fr, .slice ad zs.length cap], .int .i64 now, .slice a2 len c2] w fun e w' => e = .returned (.int .i64 (leastF (plainE n f d p r dr o sl md fr zs) f now vs)) ∧ Below w.heap.size w w' := by
  have HQ := hidden (Some_any n f d p r dr o sl md fr ad cap zs (w.alloc (.cells #[.int .i64 n, .int .i64 f, .int .i64 d, .int .i64 p, .int .i64 r, .int .i64 dr, .int .i64 o, .int .i64 sl, .int .i64 md, .int .i64 fr, .slice ad zs.length cap] 24)) hl (hT.below (ballc _ _)))
  have HK := hidden (fun h => plainE_ok (n := n) (f := f) (d := d) (p := p) (r := r) (dr := dr) (o := o) (sl := sl) (md := md) (fr := fr) (zs := zs) h)
  have HV := hidden (hV.later (ballc w (.cells #[.int .i64 n, .int .i64 f, .int .i64 d, .int .i64 p, .int .i64 r, .int .i64 dr, .int .i64 o, .int .i64 sl, .int .i64 md, .int .i64 fr, .slice ad zs.length cap] 24)))
  have C2 := fun V h => counted_any a2 len c2 vs hlv V h
  clear hT hV
  generalize plainE n f d p r dr o sl md fr zs = E at HQ HK
  by_cases hE : E = 0
  · obtain ⟨n1, n2, f1, f2, n3, _⟩ := HK.out hE
    subst hE
    rw [gate_ok] at HQ
    have hq : 0 < f + 1 := by omega
    have m0 := fun h => leastF_0 (E := 0) rfl (f := f) (now := now) (zs := vs) h
    have m1 := fun h => leastF_1 (E := 0) rfl (f := f) (now := now) (zs := vs) h
    have m2 := fun h => leastF_2 (E := 0) rfl (f := f) (now := now) (zs := vs) h
    have m3 := fun h => leastF_n (E := 0) rfl (f := f) (now := now) (zs := vs) h
    generalize leastF 0 f now vs = M at *
    generalize f + 1 = q at *
    generalize cntL 0 vs = k0 at *
    generalize cntL 1 vs = k1 at *
    generalize cntL 2 vs = k2 at *
    have iq : (q == 0) = false := by simp; omega
    by_cases h0 : q ≤ (k0 : Int)
    · have HM := hidden (m0 h0)
      clear m0 m1 m2 m3
      go_enter Try.func142, Try.ntmps142
      go_wp2_with fail
      refine HQ.out.mono ?_
      rintro e w2 ⟨rfl, hb2⟩
      have HV2 := hidden (HV.out.later hb2)
      have HB2 : Hid (Below w.heap.size w w2) := bthen (ballc w _) hb2
      clear hb2 HQ HK HV
      go_wp2_with fail
      refine (C2 _ HV2.out).mono ?_
      rintro e w3 ⟨rfl, hb3⟩
      have HB3 := hidden (bthen HB2.out hb3)
      clear hb3 C2 HB2
      go_wp2
      refine wp_loop_rounds 4 ?_
      rw [rounds_succ]
      go_wp2
      go_ret
      first | exact ⟨ret_i HM.out.symm, HB3.out⟩ | exact ⟨ret_i HM.out.symm, bthen HB3.out (ballc _ _)⟩
    · by_cases h1 : q ≤ (k1 : Int)
      · have HM := hidden (m1 h0 h1)
        clear m0 m1 m2 m3
        go_enter Try.func142, Try.ntmps142
        go_wp2_with fail
        refine HQ.out.mono ?_
        rintro e w2 ⟨rfl, hb2⟩
        have HV2 := hidden (HV.out.later hb2)
        have HB2 : Hid (Below w.heap.size w w2) := bthen (ballc w _) hb2
        clear hb2 HQ HK HV
        go_wp2_with fail
        refine (C2 _ HV2.out).mono ?_
        rintro e w3 ⟨rfl, hb3⟩
        have HB3 := hidden (bthen HB2.out hb3)
        clear hb3 C2 HB2
        go_wp2
        refine wp_loop_rounds 4 ?_
        rw [rounds_succ]
        go_wp2
        rw [rounds_succ]
        go_wp2
        go_ret
        first | exact ⟨ret_i HM.out.symm, HB3.out⟩ | exact ⟨ret_i HM.out.symm, bthen HB3.out (ballc _ _)⟩
      · by_cases h2 : q ≤ (k2 : Int)
        · have HM := hidden (m2 h0 h1 h2)
          clear m0 m1 m2 m3
          go_enter Try.func142, Try.ntmps142
          go_wp2_with fail
          refine HQ.out.mono ?_
          rintro e w2 ⟨rfl, hb2⟩
          have HV2 := hidden (HV.out.later hb2)
          have HB2 : Hid (Below w.heap.size w w2) := bthen (ballc w _) hb2
          clear hb2 HQ HK HV
          go_wp2_with fail
          refine (C2 _ HV2.out).mono ?_
          rintro e w3 ⟨rfl, hb3⟩
          have HB3 := hidden (bthen HB2.out hb3)
          clear hb3 C2 HB2
          go_wp2
          refine wp_loop_rounds 4 ?_
          rw [rounds_succ]
          go_wp2
          rw [rounds_succ]
          go_wp2
          rw [rounds_succ]
          go_wp2
          go_ret
          first | exact ⟨ret_i HM.out.symm, HB3.out⟩ | exact ⟨ret_i HM.out.symm, bthen HB3.out (ballc _ _)⟩
        · have HM := hidden (m3 h0 h1 h2)
          clear m0 m1 m2 m3
          go_enter Try.func142, Try.ntmps142
          go_wp2_with fail
          refine HQ.out.mono ?_
          rintro e w2 ⟨rfl, hb2⟩
          have HV2 := hidden (HV.out.later hb2)
          have HB2 : Hid (Below w.heap.size w w2) := bthen (ballc w _) hb2
          clear hb2 HQ HK HV
          go_wp2_with fail
          refine (C2 _ HV2.out).mono ?_
          rintro e w3 ⟨rfl, hb3⟩
          have HB3 := hidden (bthen HB2.out hb3)
          clear hb3 C2 HB2
          go_wp2
          refine wp_loop_rounds 4 ?_
          rw [rounds_succ]
          go_wp2
          rw [rounds_succ]
          go_wp2
          rw [rounds_succ]
          go_wp2
          rw [rounds_succ]
          go_wp2
          go_ret
          first | exact ⟨ret_i HM.out.symm, HB3.out⟩ | exact ⟨ret_i HM.out.symm, bthen HB3.out (ballc _ _)⟩
  · rw [gate_no hE] at HQ
    have HE := hidden (leastF_no hE f now vs)
    clear hE HK
    go_enter Try.func142, Try.ntmps142
    go_wp2_with fail
    refine HQ.out.mono ?_
    rintro e w2 ⟨rfl, hb2⟩
    have HB2 : Hid (Below w.heap.size w w2) := bthen (ballc w _) hb2
    clear hb2 HQ HV
    go_wp2
    go_ret
    exact ⟨ret_i HE.out.symm, HB2.out⟩
end Go.Proofs.Ytohgmliafidalaa

/- The calls Start, valueOf, obey, Step, Code and Read of package king return what plain functions give, and make at most new memory; conditions: the table and the votes lie where they say, and lengths and numbers fit int. -/
namespace Go.Proofs.Ytohgmliafidalaa
open Go.ChangeShapes Go.WideShapes Go.ChangeAt Go.RowKit
set_option linter.unusedVariables false
attribute [local go_sem] cell_rg

theorem set2T {w : World} {b : Nat} {z0 z1 : Value} {t : TypeId} (h : w.heap[b]? = some (.cells #[z0, z1] t (0, 0))) (v0 v1 : Value) :
    ((w.setCell ⟨b, 0, none⟩ v0).setCell ⟨b, 1, none⟩ v1).heap[b]? = some (.cells #[v0, v1] t (0, 0)) := by
  have h1 := heap_setCell_same _ b 0 _ _ v0 h
  have h2 := heap_setCell_same _ b 1 _ _ v1 h1
  simpa using h2
theorem read2T {w : World} {b : Nat} {z0 z1 : Value} {t : TypeId} (h : w.heap[b]? = some (.cells #[z0, z1] t (0, 0))) (v0 v1 : Value) :
    ((w.setCell ⟨b, 0, none⟩ v0).setCell ⟨b, 1, none⟩ v1).cell? ⟨b, 0, none⟩ = some v0 ∧ ((w.setCell ⟨b, 0, none⟩ v0).setCell ⟨b, 1, none⟩ v1).cell? ⟨b, 1, none⟩ = some v1 := by
  have h2 := set2T h v0 v1
  refine ⟨?_, ?_⟩ <;> simp only [World.cell?, h2] <;> rfl
theorem below2T {B : Nat} {a w : World} {b : Nat} (h : Below B a w) (hp : B ≤ b) (v0 v1 : Value) : Below B a ((w.setCell ⟨b, 0, none⟩ v0).setCell ⟨b, 1, none⟩ v1) :=
  (h.setCell (p := ⟨b, 0, none⟩) hp _).setCell (p := ⟨b, 1, none⟩) hp _
theorem Start_any (z : Int) (w : World) :
    Calls Try.prog 96 #[.int .i64 z] w fun e w' => e = .returned (agB (startF z)) ∧ Below w.heap.size w w' := by
  by_cases h : z = 1
  · subst h
    go_enter Try.func96, Try.ntmps96
    go_wp2
    exact bodyPost_ret (v := .agg #[.int .i64 1, .bool false]) (by simp [results, Try.results96, go_sem]) rfl ⟨rfl, ballc _ _⟩
  · have e : startF z = (0, false) := if_neg h
    rw [e]
    have e2 : (z == 1) = false := by simp [h]
    go_enter Try.func96, Try.ntmps96
    go_wp2
    exact bodyPost_ret (v := .agg #[.int .i64 0, .bool false]) (by simp [results, Try.results96, go_sem]) rfl ⟨rfl, ballc _ _⟩
theorem valueOf_any (b : Int × Bool) (w : World) :
    Calls Try.prog 120 #[.agg #[.int .i64 b.1, .bool b.2]] w fun e w' => e = .returned (.int .i64 (valF b)) ∧ Below w.heap.size w w' := by
  obtain ⟨v, s⟩ := b
  by_cases h : v < 0
  · rw [valF_lo h]
    have e1 : decide (v < 0) = true := decide_eq_true h
    go_enter Try.func120, Try.ntmps120
    go_wp2
    go_ret
    exact ⟨rfl, ballc _ _⟩
  · have e1 : decide (v < 0) = false := decide_eq_false h
    by_cases h2 : 3 ≤ v
    · rw [valF_hi h h2]
      have e2 : decide (3 ≤ v) = true := decide_eq_true h2
      go_enter Try.func120, Try.ntmps120
      go_wp2
      go_ret
      exact ⟨rfl, ballc _ _⟩
    · rw [valF_in h h2]
      have e2 : decide (3 ≤ v) = false := decide_eq_false h2
      go_enter Try.func120, Try.ntmps120
      go_wp2
      go_ret
      exact ⟨rfl, ballc _ _⟩
theorem Read_any (c : Int) (w : World) :
    Calls Try.prog 118 #[.int .i64 c] w fun e w' => e = .returned (agB (readK c)) ∧ Below w.heap.size w w' := by
  by_cases h : c < 0
  · have e : readK c = (2, false) := if_pos (.inl h)
    rw [e]
    have e1 : decide (c < 0) = true := decide_eq_true h
    go_enter Try.func118, Try.ntmps118
    go_wp2
    exact bodyPost_ret (v := .agg #[.int .i64 2, .bool false]) (by simp [results, Try.results118, go_sem]) rfl ⟨rfl, ballc _ _⟩
  · have e1 : decide (c < 0) = false := decide_eq_false h
    by_cases h2 : 6 ≤ c
    · have e : readK c = (2, false) := if_pos (.inr h2)
      rw [e]
      have e2 : decide (6 ≤ c) = true := decide_eq_true h2
      go_enter Try.func118, Try.ntmps118
      go_wp2
      exact bodyPost_ret (v := .agg #[.int .i64 2, .bool false]) (by simp [results, Try.results118, go_sem]) rfl ⟨rfl, ballc _ _⟩
    · have e2 : decide (6 ≤ c) = false := decide_eq_false h2
      have e : readK c = (c.tmod 3, decide (3 ≤ c)) := if_neg (by omega)
      rw [e]
      have hc : c = 0 ∨ c = 1 ∨ c = 2 ∨ c = 3 ∨ c = 4 ∨ c = 5 := by omega
      clear e e1 e2 h h2
      rcases hc with rfl | rfl | rfl | rfl | rfl | rfl
      all_goals
        go_enter Try.func118, Try.ntmps118
        go_wp2
        refine bodyPost_ret (v := _) (by simp [results, Try.results118, go_sem]; rfl) rfl ⟨rfl, ?_⟩
        first | exact ballc _ _ | exact below2T (ballc _ _) (Nat.le_refl _) _ _
theorem Code_any (b : Int × Bool) (w : World) :
    Calls Try.prog 95 #[.agg #[.int .i64 b.1, .bool b.2]] w fun e w' => e = .returned (.int .i64 (codeF b)) ∧ Below w.heap.size w w' := by
  obtain ⟨v, s⟩ := b
  have HV := hidden (fun V => valueOf_any (v, s) V)
  have hq := valF_bd (v, s)
  cases s
  · have e : codeF (v, false) = valF (v, false) := if_neg (by simp)
    rw [e]
    generalize valF (v, false) = q at *
    go_enter Try.func95, Try.ntmps95
    go_wp2_with fail
    refine (HV.out _).mono ?_
    rintro e w2 ⟨rfl, hb⟩
    have HB := hidden (bthen (ballc w _) hb)
    clear hb
    go_wp2
    go_ret
    exact ⟨rfl, HB.out⟩
  · have e : codeF (v, true) = 3 + valF (v, true) := if_pos rfl
    rw [e]
    generalize valF (v, true) = q at *
    go_enter Try.func95, Try.ntmps95
    go_wp2_with fail
    refine (HV.out _).mono ?_
    rintro e w2 ⟨rfl, hb⟩
    have HB := hidden (bthen (ballc w _) hb)
    clear hb
    go_wp2
    go_ret
    exact ⟨rfl, HB.out⟩

theorem obey_any (b : Int × Bool) (k : Int) (w : World) :
    Calls Try.prog 144 #[.agg #[.int .i64 b.1, .bool b.2], .int .i64 k] w fun e w' => e = .returned (agB (obeyF b k)) ∧ Below w.heap.size w w' := by
  obtain ⟨v, s⟩ := b
  have HV := hidden (fun V => valueOf_any (v, s) V)
  have hs := obeyF_s (b := (v, s)) (k := k)
  have h1 := obeyF_1 (b := (v, s)) (k := k)
  have h0 := obeyF_0 (b := (v, s)) (k := k)
  dsimp only at hs h1 h0
  generalize valF (v, s) = q at *
  generalize obeyF (v, s) k = r at *
  by_cases hq : q = 2
  · subst hq
    by_cases hk : k = 1
    · obtain rfl := h1 (fun h => h.1 rfl) (.inl hk)
      subst hk
      clear hs h1 h0
      go_enter Try.func144, Try.ntmps144
      go_wp2_with fail
      refine (HV.out _).mono ?_
      rintro e w2 ⟨rfl, hb⟩
      have hk0 := blk_later (blk_later (blk_nw w _ _) (ballc _ (.cells #[.int .i64 0, .bool false] 108))) hb
      have hk1 := blk_later (blk_newAt (w.alloc (.cells #[.int .i64 v, .bool s] 108)) #[.int .i64 0, .bool false] 108 (b := w.heap.size + 1) (by simp)) hb
      have hc0 := fun i => blk_cell hk0 i
      have hc1 := fun i => blk_cell hk1 i
      have hop := fun i => blk_frozen hk1 i
      have hl0 := blk_lt hk0
      have hl1 := blk_lt hk1
      have HB := hidden (bthen (bthen (ballc w _) (ballc _ _)) hb)
      have HK := hidden hk1
      clear hb hk0 hk1 HV
      go_wp2
      obtain ⟨r0, r1⟩ := read2T HK.out (.int .i64 1) (.bool false)
      exact bodyPost_ret (v := .agg #[.int .i64 1, .bool false]) (by simp [results, Try.results144, go_sem, r0, r1]) rfl ⟨rfl, below2T HB.out (by omega) _ _⟩
    · have j1 : (k == 1) = false := by simp [hk]
      by_cases hk2 : k = 2
      · obtain rfl := h1 (fun h => h.1 rfl) (.inr hk2)
        subst hk2
        clear hs h1 h0 hk
        go_enter Try.func144, Try.ntmps144
        go_wp2_with fail
        refine (HV.out _).mono ?_
        rintro e w2 ⟨rfl, hb⟩
        have hk0 := blk_later (blk_later (blk_nw w _ _) (ballc _ (.cells #[.int .i64 0, .bool false] 108))) hb
        have hk1 := blk_later (blk_newAt (w.alloc (.cells #[.int .i64 v, .bool s] 108)) #[.int .i64 0, .bool false] 108 (b := w.heap.size + 1) (by simp)) hb
        have hc0 := fun i => blk_cell hk0 i
        have hc1 := fun i => blk_cell hk1 i
        have hop := fun i => blk_frozen hk1 i
        have hl0 := blk_lt hk0
        have hl1 := blk_lt hk1
        have HB := hidden (bthen (bthen (ballc w _) (ballc _ _)) hb)
        have HK := hidden hk1
        clear hb hk0 hk1 HV
        go_wp2
        obtain ⟨r0, r1⟩ := read2T HK.out (.int .i64 1) (.bool false)
        exact bodyPost_ret (v := .agg #[.int .i64 1, .bool false]) (by simp [results, Try.results144, go_sem, r0, r1]) rfl ⟨rfl, below2T HB.out (by omega) _ _⟩
      · have j2 : (k == 2) = false := by simp [hk2]
        obtain rfl := h0 (fun h => h.1 rfl) (by omega)
        clear hs h1 h0
        go_enter Try.func144, Try.ntmps144
        go_wp2_with fail
        refine (HV.out _).mono ?_
        rintro e w2 ⟨rfl, hb⟩
        have hk0 := blk_later (blk_later (blk_nw w _ _) (ballc _ (.cells #[.int .i64 0, .bool false] 108))) hb
        have hk1 := blk_later (blk_newAt (w.alloc (.cells #[.int .i64 v, .bool s] 108)) #[.int .i64 0, .bool false] 108 (b := w.heap.size + 1) (by simp)) hb
        have hc0 := fun i => blk_cell hk0 i
        have hc1 := fun i => blk_cell hk1 i
        have hop := fun i => blk_frozen hk1 i
        have hl0 := blk_lt hk0
        have hl1 := blk_lt hk1
        have HB := hidden (bthen (bthen (ballc w _) (ballc _ _)) hb)
        have HK := hidden hk1
        clear hb hk0 hk1 HV
        go_wp2
        obtain ⟨r0, r1⟩ := read2T HK.out (.int .i64 0) (.bool false)
        exact bodyPost_ret (v := .agg #[.int .i64 0, .bool false]) (by simp [results, Try.results144, go_sem, r0, r1]) rfl ⟨rfl, below2T HB.out (by omega) _ _⟩
  · have j0 : (q == 2) = false := by simp [hq]
    cases s
    · by_cases hk : k = 1
      · obtain rfl := h1 (fun h => by cases h.2) (.inl hk)
        subst hk
        clear hs h1 h0
        go_enter Try.func144, Try.ntmps144
        go_wp2_with fail
        refine (HV.out _).mono ?_
        rintro e w2 ⟨rfl, hb⟩
        have hk0 := blk_later (blk_later (blk_nw w _ _) (ballc _ (.cells #[.int .i64 0, .bool false] 108))) hb
        have hk1 := blk_later (blk_newAt (w.alloc (.cells #[.int .i64 v, .bool false] 108)) #[.int .i64 0, .bool false] 108 (b := w.heap.size + 1) (by simp)) hb
        have hc0 := fun i => blk_cell hk0 i
        have hc1 := fun i => blk_cell hk1 i
        have hop := fun i => blk_frozen hk1 i
        have hl0 := blk_lt hk0
        have hl1 := blk_lt hk1
        have HB := hidden (bthen (bthen (ballc w _) (ballc _ _)) hb)
        have HK := hidden hk1
        clear hb hk0 hk1 HV
        go_wp2
        obtain ⟨r0, r1⟩ := read2T HK.out (.int .i64 1) (.bool false)
        exact bodyPost_ret (v := .agg #[.int .i64 1, .bool false]) (by simp [results, Try.results144, go_sem, r0, r1]) rfl ⟨rfl, below2T HB.out (by omega) _ _⟩
      · have j1 : (k == 1) = false := by simp [hk]
        by_cases hk2 : k = 2
        · obtain rfl := h1 (fun h => by cases h.2) (.inr hk2)
          subst hk2
          clear hs h1 h0 hk
          go_enter Try.func144, Try.ntmps144
          go_wp2_with fail
          refine (HV.out _).mono ?_
          rintro e w2 ⟨rfl, hb⟩
          have hk0 := blk_later (blk_later (blk_nw w _ _) (ballc _ (.cells #[.int .i64 0, .bool false] 108))) hb
          have hk1 := blk_later (blk_newAt (w.alloc (.cells #[.int .i64 v, .bool false] 108)) #[.int .i64 0, .bool false] 108 (b := w.heap.size + 1) (by simp)) hb
          have hc0 := fun i => blk_cell hk0 i
          have hc1 := fun i => blk_cell hk1 i
          have hop := fun i => blk_frozen hk1 i
          have hl0 := blk_lt hk0
          have hl1 := blk_lt hk1
          have HB := hidden (bthen (bthen (ballc w _) (ballc _ _)) hb)
          have HK := hidden hk1
          clear hb hk0 hk1 HV
          go_wp2
          obtain ⟨r0, r1⟩ := read2T HK.out (.int .i64 1) (.bool false)
          exact bodyPost_ret (v := .agg #[.int .i64 1, .bool false]) (by simp [results, Try.results144, go_sem, r0, r1]) rfl ⟨rfl, below2T HB.out (by omega) _ _⟩
        · have j2 : (k == 2) = false := by simp [hk2]
          obtain rfl := h0 (fun h => by cases h.2) (by omega)
          clear hs h1 h0
          go_enter Try.func144, Try.ntmps144
          go_wp2_with fail
          refine (HV.out _).mono ?_
          rintro e w2 ⟨rfl, hb⟩
          have hk0 := blk_later (blk_later (blk_nw w _ _) (ballc _ (.cells #[.int .i64 0, .bool false] 108))) hb
          have hk1 := blk_later (blk_newAt (w.alloc (.cells #[.int .i64 v, .bool false] 108)) #[.int .i64 0, .bool false] 108 (b := w.heap.size + 1) (by simp)) hb
          have hc0 := fun i => blk_cell hk0 i
          have hc1 := fun i => blk_cell hk1 i
          have hop := fun i => blk_frozen hk1 i
          have hl0 := blk_lt hk0
          have hl1 := blk_lt hk1
          have HB := hidden (bthen (bthen (ballc w _) (ballc _ _)) hb)
          have HK := hidden hk1
          clear hb hk0 hk1 HV
          go_wp2
          obtain ⟨r0, r1⟩ := read2T HK.out (.int .i64 0) (.bool false)
          exact bodyPost_ret (v := .agg #[.int .i64 0, .bool false]) (by simp [results, Try.results144, go_sem, r0, r1]) rfl ⟨rfl, below2T HB.out (by omega) _ _⟩
    · obtain rfl := hs hq rfl
      clear hs h1 h0
      go_enter Try.func144, Try.ntmps144
      go_wp2_with fail
      refine (HV.out _).mono ?_
      rintro e w2 ⟨rfl, hb⟩
      have hk0 := blk_later (blk_later (blk_nw w _ _) (ballc _ (.cells #[.int .i64 0, .bool false] 108))) hb
      have hk1 := blk_later (blk_newAt (w.alloc (.cells #[.int .i64 v, .bool true] 108)) #[.int .i64 0, .bool false] 108 (b := w.heap.size + 1) (by simp)) hb
      have hc0 := fun i => blk_cell hk0 i
      have hc1 := fun i => blk_cell hk1 i
      have hop := fun i => blk_frozen hk1 i
      have hl0 := blk_lt hk0
      have hl1 := blk_lt hk1
      have HB := hidden (bthen (bthen (ballc w _) (ballc _ _)) hb)
      have HK := hidden hk1
      clear hb hk0 hk1 HV
      go_wp2
      obtain ⟨r0, r1⟩ := read2T HK.out (.int .i64 q) (.bool false)
      exact bodyPost_ret (v := .agg #[.int .i64 q, .bool false]) (by simp [results, Try.results144, go_sem, r0, r1]) rfl ⟨rfl, below2T HB.out (by omega) _ _⟩
set_option maxHeartbeats 2000000 in
theorem KStep_any (n f d p r dr o sl md fr : Int) (ad : Option Addr) (cap : Nat) (zs : List Int) (x : Int) (b : Int × Bool) (k : Int) (a2 : Option Addr) (len c2 : Nat) (vs : List Int) (w : World) (hl : zs.length ≤ 9223372036854775807) (hT : Tab w ad zs) (hx : (Lit.int .i64 x).wf = true) (hlv : vs.length ≤ 9223372036854775807) (hV : kInt.Lies w.heap.size w (.slice a2 len c2) vs) :
    Calls Try.prog 132 #[.agg #[.int .i64 n, .int .i64 f, .int .i64 d, .int .i64 p, .int .i64 r, .int .i64 dr, .int .i64 o, .int .i64 sl, .int .i64 md, .int .i64 fr, .slice ad zs.length cap], .int .i64 x, .agg #[.int .i64 b.1, .bool b.2], .int .i64 k, .slice a2 len c2] w fun e w' => e = .returned (agB (stepF (plainE n f d p r dr o sl md fr zs) n f x b k vs)) ∧ Below w.heap.size w w' := by
  have hB0 : Below w.heap.size w (((w.alloc (.cells #[.int .i64 n, .int .i64 f, .int .i64 d, .int .i64 p, .int .i64 r, .int .i64 dr, .int .i64 o, .int .i64 sl, .int .i64 md, .int .i64 fr, .slice ad zs.length cap] 24)).alloc (.cells #[.int .i64 b.1, .bool b.2] 108)).alloc (.cells #[.int .i64 0, .bool false] 108)) := bthen (bthen (ballc w _) (ballc _ _)) (ballc _ _)
  have HT := hidden (hT.below hB0)
  have HV := hidden (hV.later hB0)
  have hk0 := blk_later (blk_later (blk_nw w #[.int .i64 n, .int .i64 f, .int .i64 d, .int .i64 p, .int .i64 r, .int .i64 dr, .int .i64 o, .int .i64 sl, .int .i64 md, .int .i64 fr, .slice ad zs.length cap] 24) (ballc _ (.cells #[.int .i64 b.1, .bool b.2] 108))) (ballc _ (.cells #[.int .i64 0, .bool false] 108))
  have hk1 := blk_later (blk_newAt (w.alloc (.cells #[.int .i64 n, .int .i64 f, .int .i64 d, .int .i64 p, .int .i64 r, .int .i64 dr, .int .i64 o, .int .i64 sl, .int .i64 md, .int .i64 fr, .slice ad zs.length cap] 24)) #[.int .i64 b.1, .bool b.2] 108 (b := w.heap.size + 1) (by simp)) (ballc _ (.cells #[.int .i64 0, .bool false] 108))
  have hk2 := blk_newAt ((w.alloc (.cells #[.int .i64 n, .int .i64 f, .int .i64 d, .int .i64 p, .int .i64 r, .int .i64 dr, .int .i64 o, .int .i64 sl, .int .i64 md, .int .i64 fr, .slice ad zs.length cap] 24)).alloc (.cells #[.int .i64 b.1, .bool b.2] 108)) #[.int .i64 0, .bool false] 108 (b := w.heap.size + 2) (by simp)
  have HK0 := hidden hk0
  have HK1 := hidden hk1
  have HK2 := hidden hk2
  have HB0 := hidden hB0
  have M1 := hidden (fun V h h2 => Most_any n f d p r dr o sl md fr ad cap zs a2 len c2 vs V hl h hlv h2)
  have L1 := hidden (fun V h h2 => Least_any n f d p r dr o sl md fr ad cap zs (valF b) a2 len c2 vs V hl h hlv h2)
  have E1 := hidden (fun v V h h2 => Enough_any n f d p r dr o sl md fr ad cap zs v a2 len c2 vs V hl h hlv h2)
  have OB := hidden (fun V => obey_any b k V)
  have VA := hidden (fun V => valueOf_any b V)
  have HM := hidden (fun V => mod_any x 3 V hx rfl)
  have s0 := stepF_0 (E := plainE n f d p r dr o sl md fr zs) (n := n) (f := f) (x := x) (b := b) (k := k) (vs := vs)
  have s1 := stepF_1 (E := plainE n f d p r dr o sl md fr zs) (n := n) (f := f) (x := x) (b := b) (k := k) (vs := vs)
  have s2 := stepF_2 (E := plainE n f d p r dr o sl md fr zs) (n := n) (f := f) (x := x) (b := b) (k := k) (vs := vs)
  have h3 := modF3 x
  clear hT hV hB0 hk0 hk1 hk2
  generalize plainE n f d p r dr o sl md fr zs = E at *
  generalize stepF E n f x b k vs = r at *
  obtain ⟨bv, bs⟩ := b
  dsimp only at *
  generalize mostF E n f vs = ms at *
  generalize valF (bv, bs) = q at *
  generalize leastF E f q vs = ls at *
  generalize modF x 3 = m at *
  have hm : m = 0 ∨ m = 1 ∨ m = 2 := by omega
  clear h3 hx
  rcases hm with rfl | rfl | rfl
  · obtain rfl := s0 rfl
    clear s0 s1 s2 L1 E1 OB VA
    go_enter Try.func132, Try.ntmps132
    go_wp2_with fail
    refine (HM.out _).mono ?_
    rintro e wm ⟨rfl, rfl⟩
    generalize (((w.alloc (.cells #[.int .i64 n, .int .i64 f, .int .i64 d, .int .i64 p, .int .i64 r, .int .i64 dr, .int .i64 o, .int .i64 sl, .int .i64 md, .int .i64 fr, .slice ad zs.length cap] 24)).alloc (.cells #[.int .i64 bv, .bool bs] 108)).alloc (.cells #[.int .i64 0, .bool false] 108)) = W0 at *
    have c0 := fun i => blk_cell HK0.out i
    have c1 := fun i => blk_cell HK1.out i
    have c2' := fun i => blk_cell HK2.out i
    have l0 := blk_lt HK0.out
    have l1 := blk_lt HK1.out
    have l2 := blk_lt HK2.out
    have fz := fun i => blk_frozen HK2.out i
    go_wp2_with fail
    refine (M1.out _ HT.out HV.out).mono ?_
    rintro e wa ⟨rfl, hb⟩
    have HB_wa := hidden (hb)
    clear hb c0 c1 c2' l0 l1 l2 fz
    have c0 := fun i => blk_cell (blk_later HK0.out HB_wa.out) i
    have c1 := fun i => blk_cell (blk_later HK1.out HB_wa.out) i
    have c2' := fun i => blk_cell (blk_later HK2.out HB_wa.out) i
    have l0 := blk_lt (blk_later HK0.out HB_wa.out)
    have l1 := blk_lt (blk_later HK1.out HB_wa.out)
    have l2 := blk_lt (blk_later HK2.out HB_wa.out)
    have fz := fun i => blk_frozen (blk_later HK2.out HB_wa.out) i
    go_wp2
    obtain ⟨r0, r1⟩ := read2T (blk_later HK2.out HB_wa.out) (.int .i64 ms) (.bool false)
    exact bodyPost_ret (v := .agg #[.int .i64 ms, .bool false]) (by simp [results, Try.results132, go_sem, r0, r1]) rfl ⟨rfl, below2T (bthen HB0.out HB_wa.out) (by omega) _ _⟩
  · obtain rfl := s1 rfl
    clear s0 s1 s2 M1 OB
    have E2 := hidden (E1.out ls)
    clear E1
    generalize enoughB E n f ls vs = en at *
    go_enter Try.func132, Try.ntmps132
    go_wp2_with fail
    refine (HM.out _).mono ?_
    rintro e wm ⟨rfl, rfl⟩
    generalize (((w.alloc (.cells #[.int .i64 n, .int .i64 f, .int .i64 d, .int .i64 p, .int .i64 r, .int .i64 dr, .int .i64 o, .int .i64 sl, .int .i64 md, .int .i64 fr, .slice ad zs.length cap] 24)).alloc (.cells #[.int .i64 bv, .bool bs] 108)).alloc (.cells #[.int .i64 0, .bool false] 108)) = W0 at *
    have c0 := fun i => blk_cell HK0.out i
    have c1 := fun i => blk_cell HK1.out i
    have c2' := fun i => blk_cell HK2.out i
    have l0 := blk_lt HK0.out
    have l1 := blk_lt HK1.out
    have l2 := blk_lt HK2.out
    have fz := fun i => blk_frozen HK2.out i
    go_wp2_with fail
    refine wp_region_quiet_below (by kernel_rfl) (by kernel_rfl) ?_
    repeat (go_big_quiet_step (first
      | (go_at_call 120; exact Calls.regrown_of (VA.out _))
      | (go_at_call 142; exact Calls.regrown_of (L1.out _ (HT.out.below (below_regrown _ _ _)) (HV.out.later (below_regrown _ _ _))))))
    refine wpQuiet_nil ?_
    intro wb hwb
    have HB_wb := hidden (rg_below hwb)
    clear hwb c0 c1 c2' l0 l1 l2 fz
    have c0 := fun i => blk_cell (blk_later HK0.out HB_wb.out) i
    have c1 := fun i => blk_cell (blk_later HK1.out HB_wb.out) i
    have c2' := fun i => blk_cell (blk_later HK2.out HB_wb.out) i
    have l0 := blk_lt (blk_later HK0.out HB_wb.out)
    have l1 := blk_lt (blk_later HK1.out HB_wb.out)
    have l2 := blk_lt (blk_later HK2.out HB_wb.out)
    have fz := fun i => blk_frozen (blk_later HK2.out HB_wb.out) i
    go_wp2_with fail
    refine (E2.out _ (HT.out.below HB_wb.out) (HV.out.later HB_wb.out)).mono ?_
    rintro e wc ⟨rfl, hb⟩
    have HB_wc := hidden (bthen HB_wb.out hb)
    clear hb c0 c1 c2' l0 l1 l2 fz
    have c0 := fun i => blk_cell (blk_later HK0.out HB_wc.out) i
    have c1 := fun i => blk_cell (blk_later HK1.out HB_wc.out) i
    have c2' := fun i => blk_cell (blk_later HK2.out HB_wc.out) i
    have l0 := blk_lt (blk_later HK0.out HB_wc.out)
    have l1 := blk_lt (blk_later HK1.out HB_wc.out)
    have l2 := blk_lt (blk_later HK2.out HB_wc.out)
    have fz := fun i => blk_frozen (blk_later HK2.out HB_wc.out) i
    go_wp2
    obtain ⟨r0, r1⟩ := read2T (blk_later HK2.out HB_wc.out) (.int .i64 ls) (.bool en)
    exact bodyPost_ret (v := .agg #[.int .i64 ls, .bool en]) (by simp [results, Try.results132, go_sem, r0, r1]) rfl ⟨rfl, below2T (bthen HB0.out HB_wc.out) (by omega) _ _⟩
  · obtain rfl := s2 rfl
    clear s0 s1 s2 M1 L1 E1 VA
    generalize obeyF (bv, bs) k = r at *
    obtain ⟨rv, rs⟩ := r
    go_enter Try.func132, Try.ntmps132
    go_wp2_with fail
    refine (HM.out _).mono ?_
    rintro e wm ⟨rfl, rfl⟩
    generalize (((w.alloc (.cells #[.int .i64 n, .int .i64 f, .int .i64 d, .int .i64 p, .int .i64 r, .int .i64 dr, .int .i64 o, .int .i64 sl, .int .i64 md, .int .i64 fr, .slice ad zs.length cap] 24)).alloc (.cells #[.int .i64 bv, .bool bs] 108)).alloc (.cells #[.int .i64 0, .bool false] 108)) = W0 at *
    have c0 := fun i => blk_cell HK0.out i
    have c1 := fun i => blk_cell HK1.out i
    have c2' := fun i => blk_cell HK2.out i
    have l0 := blk_lt HK0.out
    have l1 := blk_lt HK1.out
    have l2 := blk_lt HK2.out
    have fz := fun i => blk_frozen HK2.out i
    go_wp2_with fail
    refine (OB.out _).mono ?_
    rintro e wa ⟨rfl, hb⟩
    have HB_wa := hidden (hb)
    clear hb c0 c1 c2' l0 l1 l2 fz
    have c0 := fun i => blk_cell (blk_later HK0.out HB_wa.out) i
    have c1 := fun i => blk_cell (blk_later HK1.out HB_wa.out) i
    have c2' := fun i => blk_cell (blk_later HK2.out HB_wa.out) i
    have l0 := blk_lt (blk_later HK0.out HB_wa.out)
    have l1 := blk_lt (blk_later HK1.out HB_wa.out)
    have l2 := blk_lt (blk_later HK2.out HB_wa.out)
    have fz := fun i => blk_frozen (blk_later HK2.out HB_wa.out) i
    unfold agB
    go_wp2
    obtain ⟨r0, r1⟩ := read2T (blk_later HK2.out HB_wa.out) (.int .i64 rv) (.bool rs)
    exact bodyPost_ret (v := .agg #[.int .i64 rv, .bool rs]) (by simp [results, Try.results132, go_sem, r0, r1]) rfl ⟨rfl, below2T (bthen HB0.out HB_wa.out) (by omega) _ _⟩
end Go.Proofs.Ytohgmliafidalaa

/- Rows of texts that lie in memory, and the small calls of package hold (fits, ofNode): what they return; they make at most new memory; conditions: as many nodes and ticks as a plain configuration may have. -/
namespace Go.Proofs.Ytohgmliafidalaa
open Go.ChangeShapes Go.WideShapes Go.ChangeAt Go.RowKit
set_option linter.unusedVariables false

/-- Rows of texts. -/
def kStr : Kind ByteArray := ⟨1, fun s => [.string s], fun _ => rfl, by intro a u hu; simp at hu; subst hu; rfl, by decide⟩
def svals (l : List ByteArray) : Array Value := (l.map Value.string).toArray
theorem kStr_flat (l : List ByteArray) : kStr.flat l = l.map Value.string := by
  induction l with
  | nil => rfl
  | cons a l ih => simp only [Kind.flat, List.flatMap_cons, List.map_cons] at ih ⊢; rw [ih]; rfl
theorem kStr_at {n₀ : Nat} {W : World} {ad : Option Addr} {len cap : Nat} {hs : List ByteArray} (h : kStr.Lies n₀ W (.slice ad len cap) hs) (j : Nat) (hj : j < hs.length) : ∃ b off : Nat, ad = some ⟨b, off, none⟩ ∧ b < n₀ ∧ W.cell? ⟨b, off + j, none⟩ = some (.string (hs.getD j noB)) := by
  obtain ⟨b, off, he, hb, hc⟩ := h.at j hj
  refine ⟨b, off, he, hb, ?_⟩
  have := hc 0 (by decide)
  rw [List.getD_eq_getElem?_getD, List.getElem?_eq_getElem hj, Option.getD_some]
  simpa [kStr] using this
theorem kStr_caps {n₀ : Nat} {W : World} {ad : Option Addr} {len cap : Nat} {hs : List ByteArray} (h : kStr.Lies n₀ W (.slice ad len cap) hs) : hs.length ≤ cap ∧ cap ≤ 9223372036854775807 := by
  obtain ⟨a', c', hv, h1, h2, _⟩ := h
  have e : cap = c' := by
    have := congrArg (fun v => match v with | .slice _ _ c => c | _ => 0) hv
    exact this
  unfold maxLen at h2
  omega
theorem svals_size (l : List ByteArray) : (svals l).size = l.length := by simp [svals]
theorem svals_at (l : List ByteArray) (i : Nat) (h : i < l.length) : (svals l)[i]? = some (.string (l.getD i noB)) := by
  rw [List.getD_eq_getElem?_getD, List.getElem?_eq_getElem h, Option.getD_some]
  simp [svals, h]
theorem svals_set (l : List ByteArray) (i : Nat) (s : ByteArray) : (svals l).setIfInBounds i (.string s) = svals (l.set i s) := by
  apply Array.ext'
  simp only [svals, Array.toList_setIfInBounds, List.map_set]
theorem svals_made (n : Nat) : madeCells #[Value.string noB] n = svals (List.replicate n noB) := by
  have h := toList_madeCells_one (Value.string noB) n
  apply Array.ext'
  rw [h]
  simp [svals]
theorem infoStr : (Try.prog.info? 9).map (fun i => (i.zero, i.size, i.bytes)) = some (some (.string noB), 1, 16) := by kernel_rfl
theorem make_strs (n : Nat) (hn : n ≤ 100000) (w : World) : (Instr.makeSlice 25 (.int .i64 (n : Int)) (.int .i64 (n : Int))).run Try.prog w = .ok (.slice (some ⟨w.heap.size, 0, none⟩) n n) (w.alloc (.cells (svals (List.replicate n noB)) 9)) := by
  rw [← svals_made]
  exact run_make_row' 25 9 (.string noB) 16 Try.underlying25 infoStr rfl .i64 .i64 n (by omega) (by omega) w
/-- A row of texts that is a block of its own. -/
def SBlk (W : World) (g : Nat) (l : List ByteArray) : Prop := W.heap[g]? = some (.cells (svals l) 9 (0, 0))
theorem SBlk.lies {W : World} {g : Nat} {l : List ByteArray} (h : SBlk W g l) (hl : l.length ≤ maxLen) : kStr.Lies W.heap.size W (.slice (some ⟨g, 0, none⟩) l.length l.length) l := by
  refine Kind.Lies.of_block (K := kStr) (t := 9) ?_ hl
  rw [kStr_flat]
  exact h
theorem SBlk.lt {W : World} {g : Nat} {l : List ByteArray} (h : SBlk W g l) : g < W.heap.size := (Array.getElem?_eq_some_iff.1 h).1
theorem SBlk.later {W W' : World} {g : Nat} {l : List ByteArray} (h : SBlk W g l) (hb : Below W.heap.size W W') : SBlk W' g l := (hb.block g h.lt).trans h
theorem SBlk.drew {W : World} {g : Nat} {l : List ByteArray} (h : SBlk W g l) : SBlk W.drew g l := h
theorem SBlk.cell {W : World} {g : Nat} {l : List ByteArray} (h : SBlk W g l) (i : Nat) (hi : i < l.length) : W.cell? ⟨g, i, none⟩ = some (.string (l.getD i noB)) := by
  rw [← svals_at l i hi]
  simp [World.cell?, show W.heap[g]? = _ from h]
theorem SBlk.open {W : World} {g : Nat} {l : List ByteArray} (h : SBlk W g l) (i : Nat) : W.frozen? ⟨g, i, none⟩ = false := by
  simp [World.frozen?, show W.heap[g]? = _ from h]
theorem SBlk.set {W : World} {g : Nat} {l : List ByteArray} (h : SBlk W g l) (i : Nat) (s : ByteArray) : SBlk (W.setCell ⟨g, i, none⟩ (.string s)) g (l.set i s) := by
  have := heap_setCell_same W g i _ _ (.string s) h
  rw [svals_set] at this
  exact this
theorem SBlk.other {W : World} {g : Nat} {l : List ByteArray} (h : SBlk W g l) (a : Addr) (v : Value) (ha : g ≠ a.block) : SBlk (W.setCell a v) g l := (heap_setCell_other W a g v ha).trans h
theorem mul_cast {N D : Nat} (hN : N ≤ 13) (hD : D ≤ 4) : N * D ≤ 52 := Nat.mul_le_mul hN hD
theorem wr64 {x : Int} {m : Nat} (e : x = (m : Int)) (h : m ≤ 1000000) : wrap64 x = (m : Int) := by subst e; unfold wrap64; omega
theorem wrI {x : Int} {m : Nat} (e : x = (m : Int)) (h : m ≤ 1000000) : IntKind.i64.wrap x = (m : Int) := by subst e; exact IntWalk.i64_in _ (by omega)
end Go.Proofs.Ytohgmliafidalaa

/- The calls digits, bitAt and votesAt of package vec return what plain functions give, and make at most new memory; conditions: rows lie where they say, lengths fit int, and at most a hundred thousand digits are asked for. -/
namespace Go.Proofs.Ytohgmliafidalaa
open Go.ChangeShapes Go.WideShapes Go.ChangeAt Go.RowKit Go.Shelf
set_option linter.unusedVariables false
attribute [local go_sem] cell_rg

theorem bvals_fill (n : Nat) (h : Nat → UInt8) : bvals (List.replicate n 0) = bvals (fillL 0 n h 0) := by rw [fillL_0]
set_option maxHeartbeats 2000000 in
theorem digits_any (n : Nat) (hn : n ≤ 100000) (F : Nat) (lb : Array Value) (eF : Enters Try.prog F) (g : Nat → Nat) (hg : ∀ k, k < n → g k ≤ 9) (w : World)
    (hG : ∀ k : Nat, k < n → ∀ V, Below w.heap.size w V → Calls Try.prog F (#[.int .i64 (k : Int)] ++ lb) V fun e V' => e = .returned (.int .i64 (g k : Int)) ∧ Below V.heap.size V V') :
    Calls Try.prog 85 #[.int .i64 (n : Int), .func (.func F) #[] lb] w fun e w' => e = .returned (.string (dgB n g)) ∧ Below w.heap.size w w' := by
  have hmk := fun V => make_bytes n hn V
  have HG := hidden hG
  have HGB := hidden hg
  have HK0 : Hid ((w.alloc (.cells (bvals (List.replicate n 0)) 5)).heap[w.heap.size]? = some (.cells (bvals (fillL 0 n (fun j => UInt8.ofNat (48 + g j)) 0)) 5 (0, 0))) := by
    show _ = _
    rw [fillL_0]
    exact blk_nw w _ _
  have HB0 : Hid (Below w.heap.size w (w.alloc (.cells (bvals (List.replicate n 0)) 5))) := ballc w _
  have HL : Hid ((fillL (0 : UInt8) n (fun j => UInt8.ofNat (48 + g j)) n) = dgL n g) := fillL_all _ _ _
  have HLn : Hid (∀ k, (fillL (0 : UInt8) n (fun j => UInt8.ofNat (48 + g j)) k).length = n) := fun k => fillL_len _ _ _ _
  clear hG hg
  unfold Enters at eF
  go_enter Try.func85, Try.ntmps85
  go_wp2
  clear hmk
  generalize (w.alloc (.cells (bvals (List.replicate n 0)) 5)) = W0 at *
  go_loopw [10] (fun i wr => ∃ k : Nat, k ≤ n ∧ i = .int .i64 k ∧ wr.heap[w.heap.size]? = some (.cells (bvals (fillL 0 n (fun j => UInt8.ofNat (48 + g j)) k)) 5 (0, 0)) ∧ Below w.heap.size w wr) (fun i _ => n - (intV i).toNat)
  case atStart => exact ⟨0, Nat.zero_le _, rfl, HK0.out, HB0.out⟩
  case round =>
    obtain ⟨k, hk, rfl, hX, hB⟩ := hrel
    clear HK0 HB0
    by_cases hlt : k < n
    · have i1 : (0 : Int) ≤ (k : Int) := by omega
      have i2 : (k : Int) < (n : Int) := by omega
      have hcall := HG.out k hlt wr hB
      have hgb := HGB.out k hlt
      have HS : Hid ((fillL (0 : UInt8) n (fun j => UInt8.ofNat (48 + g j)) k).set k (UInt8.ofNat (48 + g k)) = fillL 0 n (fun j => UInt8.ofNat (48 + g j)) (k + 1)) := fillL_set (0 : UInt8) n (fun j => UInt8.ofNat (48 + g j)) k hlt
      have HB := hidden hB
      have HX := hidden hX
      clear hX hB
      generalize hz : g k = z at *
      have HZ := hidden hz
      clear hz
      go_wp2_with (go_at_fn F; refine hcall.mono ?_; rintro e w2 ⟨rfl, hb⟩; refine Hid.out ?_)
      have hX2 := blk_later HX.out hb
      have HB2 := hidden (bthen HB.out hb)
      have HX2 := hidden hX2
      have c0 := blk_cell hX2 k
      rw [bvals_at _ k (by rw [HLn.out]; exact hlt)] at c0
      have f0 := blk_frozen hX2 k
      have l0 := blk_lt hX2
      clear hb hX2 hcall HX
      refine hidden ?_
      go_wp2
      have hset := heap_setCell_same w2 w.heap.size k _ _ (.int .u8 ((48 + z : Nat) : Int)) HX2.out
      rw [bvals_set _ k (48 + z) (by omega), HS.out] at hset
      rw [show ((48 + z : Nat) : Int) = 48 + (z : Int) by omega] at hset
      go_roundw
      case rel => exact ⟨k + 1, by omega, by go_num, hset, HB2.out.setCell (p := ⟨w.heap.size, k, none⟩) (Nat.le_refl _) _⟩
      case measure => simp [intV]; omega
    · obtain rfl : k = n := by omega
      have i2 : ¬ (k : Int) < (k : Int) := by omega
      rw [HL.out] at hX
      have hcv := conv_blk hX
      rw [dgL_len] at hcv
      have HB := hidden hB
      clear hX hB
      have HD : Hid (dgB k g = ba (dgL k g)) := rfl
      generalize ba (dgL k g) = out at *
      go_wp2
      go_ret
      exact ⟨by rw [HD.out]; rfl, HB.out⟩

theorem bitAt_any (s : ByteArray) (k : Nat) (w : World) (hs : s.size ≤ 9223372036854775807) :
    Calls Try.prog 87 #[.string s, .int .i64 (k : Int)] w fun e w' => e = .returned (agB (bitK s k)) ∧ Below w.heap.size w w' := by
  have C1 := hidden (fun V => vdigitAt_any s k 5 V hs (by decide))
  have C2 := hidden (fun V => Read_any (vdg 5 s k) V)
  have HE : Hid (bitK s k = readK (vdg 5 s k)) := rfl
  generalize readK (vdg 5 s k) = b at *
  generalize vdg 5 s k = c at *
  obtain ⟨bv, bs⟩ := b
  unfold agB at C2 ⊢
  rw [HE.out]
  clear hs
  go_enter Try.func87, Try.ntmps87
  go_wp2_with fail
  refine (C1.out _).mono ?_
  rintro e w2 ⟨rfl, rfl⟩
  go_wp2_with fail
  refine (C2.out _).mono ?_
  rintro e w3 ⟨rfl, hb⟩
  have hk := blk_later (blk_nw w #[.int .i64 0, .bool false] 108) hb
  have c0 := fun i => blk_cell hk i
  have f0 := fun i => blk_frozen hk i
  have l0 := blk_lt hk
  have HB := hidden (bthen (ballc w _) hb)
  have HK := hidden hk
  clear hb hk
  go_wp2
  obtain ⟨r0, r1⟩ := read2T HK.out (.int .i64 bv) (.bool bs)
  exact bodyPost_ret (v := .agg #[.int .i64 bv, .bool bs]) (by simp [results, Try.results87, go_sem, r0, r1]) rfl ⟨rfl, below2T HB.out (Nat.le_refl _) _ _⟩

/-- What each text tells of one place. -/
def votesP (votes : List ByteArray) (k : Nat) : List Int := votes.map fun t => vdg 2 t k
theorem votesP_len (votes : List ByteArray) (k : Nat) : (votesP votes k).length = votes.length := by simp [votesP]
theorem votesP_fill (votes : List ByteArray) (k : Nat) : (List.range votes.length).map (fun i => vdg 2 (votes.getD i noB) k) = votesP votes k := by
  unfold votesP
  apply List.ext_getElem
  · simp
  · intro i h1 h2
    simp at h1 h2
    simp [h1]
set_option maxHeartbeats 2000000 in
theorem votesAt_any (a2 : Option Addr) (c2 : Nat) (votes : List ByteArray) (k : Nat) (w : World) (hn : votes.length ≤ 100000) (hV : kStr.Lies w.heap.size w (.slice a2 votes.length c2) votes) (hz : ∀ t ∈ votes, t.size ≤ 9223372036854775807) :
    Calls Try.prog 133 #[.slice a2 votes.length c2, .int .i64 (k : Int)] w fun e w' => ∃ g, e = .returned (.slice (some ⟨g, 0, none⟩) votes.length votes.length) ∧ IBlk w' g (votesP votes k) ∧ Below w.heap.size w w' := by
  obtain ⟨N, hN⟩ : ∃ N, N = votes.length := ⟨_, rfl⟩
  have hN5 : N ≤ 100000 := by omega
  have hmk := fun V => make_ints N rfl (by omega) V
  have HV := hidden hV
  have HZ := hidden hz
  have HK0 : Hid (IBlk (w.alloc (.cells (kInt.flat (List.replicate N 0)).toArray 3)) w.heap.size (fillL 0 N (fun i => vdg 2 (votes.getD i noB) k) 0)) := by
    show IBlk _ _ _
    rw [fillL_0]
    exact blk_nw w _ _
  have HB0 : Hid (Below w.heap.size w (w.alloc (.cells (kInt.flat (List.replicate N 0)).toArray 3))) := ballc w _
  have HF : Hid (fillL 0 N (fun i => vdg 2 (votes.getD i noB) k) N = votesP votes k) := by show _ = _; rw [fillL_all, hN]; exact votesP_fill votes k
  have HN := hidden hN
  rw [← hN] at HV ⊢
  clear hV hz hN
  go_enter Try.func133, Try.ntmps133
  go_wp2
  clear hmk
  generalize w.alloc (.cells (kInt.flat (List.replicate N 0)).toArray 3) = W0 at *
  go_loopw [13] (fun i wr => ∃ j : Nat, j ≤ N ∧ i = .int .i64 j ∧ IBlk wr w.heap.size (fillL 0 N (fun i => vdg 2 (votes.getD i noB) k) j) ∧ Below w.heap.size w wr) (fun i _ => N - (intV i).toNat)
  case atStart => exact ⟨0, Nat.zero_le _, rfl, HK0.out, HB0.out⟩
  case round =>
    obtain ⟨j, hj, rfl, hX, hB⟩ := hrel
    clear HK0 HB0
    have HB := hidden hB
    have HX := hidden hX
    by_cases hlt : j < N
    · have i1 : (0 : Int) ≤ (j : Int) := by omega
      have i2 : (j : Int) < (N : Int) := by omega
      have hjv : j < votes.length := by rw [← HN.out]; exact hlt
      obtain ⟨b, off, rfl, hbl, e0⟩ := kStr_at (HV.out.below hB) j hjv
      have hm : votes.getD j noB ∈ votes := by rw [List.getD_eq_getElem?_getD, List.getElem?_eq_getElem hjv, Option.getD_some]; exact List.getElem_mem hjv
      have C1 := hidden (fun V => vdigitAt_any (votes.getD j noB) k 2 V (HZ.out _ hm) (by decide))
      have HS : Hid ((fillL 0 N (fun i => vdg 2 (votes.getD i noB) k) j).set j (vdg 2 (votes.getD j noB) k) = fillL 0 N (fun i => vdg 2 (votes.getD i noB) k) (j + 1)) := fillL_set 0 N (fun i => vdg 2 (votes.getD i noB) k) j hlt
      have c0 := hX.cell j (by rw [fillL_len]; exact hlt)
      have f0 := hX.open j
      have l0 := hX.lt
      have lb := Nat.lt_of_lt_of_le hbl hB.size
      clear hX hB hm hjv
      generalize hz : vdg 2 (votes.getD j noB) k = z at *
      clear hz
      generalize votes.getD j noB = t at *
      generalize (fillL 0 N (fun i => vdg 2 (votes.getD i noB) k) j).getD j 0 = y at *
      go_wp2_with fail
      refine (C1.out _).mono ?_
      rintro e w2 ⟨rfl, rfl⟩
      go_wp2
      have hset := HX.out.set j z
      rw [HS.out] at hset
      go_roundw
      case rel => exact ⟨j + 1, by omega, by go_num, hset, HB.out.setCell (p := ⟨w.heap.size, j, none⟩) (Nat.le_refl _) _⟩
      case measure => simp [intV]; omega
    · obtain rfl : j = N := by omega
      have i2 : ¬ (j : Int) < (j : Int) := by omega
      clear hX hB
      go_wp2
      go_ret
      exact ⟨_, rfl, by rw [← HF.out]; exact HX.out, HB.out⟩
end Go.Proofs.Ytohgmliafidalaa

/- The calls Of, Values and Bits of package vec, and what Of, Values and Bits hand on, return what plain functions give, and make at most new memory; conditions: lengths of texts are at most a hundred thousand. -/
namespace Go.Proofs.Ytohgmliafidalaa
open Go.ChangeShapes Go.WideShapes Go.ChangeAt Go.RowKit Go.Shelf
set_option linter.unusedVariables false
attribute [local go_sem] cell_rg

theorem Of1_any (s : ByteArray) (hs : s.size ≤ 9223372036854775807) (k g : Nat) (w : World) (hk : w.heap[g]? = some (.cells #[.string s] 9 (0, 0))) :
    Calls Try.prog 94 #[.int .i64 (k : Int), .pointer (some ⟨g, 0, none⟩)] w fun e w' => e = .returned (.int .i64 (ofG s k : Int)) ∧ Below w.heap.size w w' := by
  have C1 := hidden (fun V => vdigitAt_any s k 1 V hs (by decide))
  have C2 := hidden (fun V => Start_any (vdg 1 s k) V)
  have C3 := hidden (fun V => Code_any (startF (vdg 1 s k)) V)
  rw [ofG_int]
  generalize codeF (startF (vdg 1 s k)) = q at *
  generalize startF (vdg 1 s k) = b at *
  generalize vdg 1 s k = d at *
  obtain ⟨bv, bs⟩ := b
  unfold agB at C2
  dsimp only at C2 C3
  have c0 : w.cell? ⟨g, 0, none⟩ = some (.string s) := blk_cell hk 0
  have l0 := blk_lt hk
  clear hk hs
  go_enter Try.func94, Try.ntmps94
  go_wp2_with fail
  refine (C1.out _).mono ?_
  rintro e w2 ⟨rfl, rfl⟩
  go_wp2_with fail
  refine (C2.out _).mono ?_
  rintro e w3 ⟨rfl, hb⟩
  have HB3 := hidden hb
  clear hb
  go_wp2_with fail
  refine (C3.out _).mono ?_
  rintro e w4 ⟨rfl, hb⟩
  have HB4 := hidden (bthen HB3.out hb)
  clear hb
  go_wp2
  go_ret
  exact ⟨rfl, HB4.out⟩
theorem Values1_any (s : ByteArray) (hs : s.size ≤ 9223372036854775807) (k g : Nat) (w : World) (hk : w.heap[g]? = some (.cells #[.string s] 9 (0, 0))) :
    Calls Try.prog 86 #[.int .i64 (k : Int), .pointer (some ⟨g, 0, none⟩)] w fun e w' => e = .returned (.int .i64 (valG s k : Int)) ∧ Below w.heap.size w w' := by
  have C1 := hidden (fun V => bitAt_any s k V hs)
  rw [valG_int]
  generalize bitK s k = b at *
  obtain ⟨bv, bs⟩ := b
  unfold agB at C1
  dsimp only at C1 ⊢
  have hfd : ∀ V : World, (Instr.field 108 (.agg #[.int .i64 bv, .bool bs]) 0).run Try.prog V = .ok (.int .i64 bv) V := fun _ => by kernel_rfl
  have c0 : w.cell? ⟨g, 0, none⟩ = some (.string s) := blk_cell hk 0
  have l0 := blk_lt hk
  clear hk hs
  go_enter Try.func86, Try.ntmps86
  go_wp2_with fail
  refine (C1.out _).mono ?_
  rintro e w2 ⟨rfl, hb⟩
  have HB3 := hidden hb
  clear hb
  go_wp2
  go_ret
  exact ⟨rfl, HB3.out⟩
/-- The digit of a number at a place. -/
def bitG (n : Nat) (k : Nat) : Nat := n / 2 ^ k % 2
theorem bitG_bd (n k : Nat) : bitG n k ≤ 1 := by unfold bitG; omega
theorem and_one (x : Nat) (h : x < 9223372036854775808) : bits .and .i64 (x : Int) 1 = ((x % 2 : Nat) : Int) := by
  unfold bits
  have e : (BitVec.ofInt IntKind.i64.bits (x : Int) &&& BitVec.ofInt IntKind.i64.bits 1).toNat = x % 2 := by
    rw [BitVec.toNat_and]
    simp only [BitVec.toNat_ofInt]
    have h1 : ((x : Int) % ((2 ^ IntKind.i64.bits : Nat) : Int)).toNat = x := by
      have : ((2 ^ IntKind.i64.bits : Nat) : Int) = 18446744073709551616 := by decide
      rw [this]; omega
    have h2 : ((1 : Int) % ((2 ^ IntKind.i64.bits : Nat) : Int)).toNat = 1 := by decide
    rw [h1, h2, Nat.and_one_is_mod]
  show IntKind.i64.wrap _ = _
  simp only
  rw [e]
  exact IntWalk.i64_in _ (by omega)
theorem Bits1_any (n : Nat) (hn : n < 9223372036854775808) (k : Nat) (hk64 : k < 64) (g : Nat) (w : World) (hk : w.heap[g]? = some (.cells #[.int .i64 (n : Int)] 3 (0, 0))) :
    Calls Try.prog 98 #[.int .i64 (k : Int), .pointer (some ⟨g, 0, none⟩)] w fun e w' => e = .returned (.int .i64 (bitG n k : Int)) ∧ Below w.heap.size w w' := by
  have c0 : w.cell? ⟨g, 0, none⟩ = some (.int .i64 (n : Int)) := blk_cell hk 0
  have l0 := blk_lt hk
  have hd : (n : Int) / 2 ^ k = ((n / 2 ^ k : Nat) : Int) := by
    rw [show (2 : Int) ^ k = ((2 ^ k : Nat) : Int) by simp]; exact (Int.natCast_ediv _ _).symm
  have hle : n / 2 ^ k ≤ n := Nat.div_le_self _ _
  have HA : Hid (bits .and .i64 ((n : Int) / 2 ^ k) 1 = (bitG n k : Int)) := by
    show _ = _
    rw [hd, and_one (n / 2 ^ k) (by omega)]; rfl
  clear hk hd hle
  go_enter Try.func98, Try.ntmps98
  go_wp2
  go_ret
  exact ⟨ret_i (by first | exact HA.out | (simp only [Int.toNat_natCast]; exact HA.out)), Below.refl _ _⟩

theorem Of_any (s : ByteArray) (hs : s.size ≤ 100000) (w : World) :
    Calls Try.prog 53 #[.string s] w fun e w' => e = .returned (.string (dgB s.size (ofG s))) ∧ Below w.heap.size w w' := by
  have hmf : ∀ (fn : Fn) (first cap : Array Value) (w : World), (Instr.makeFunc fn first cap).run Try.prog w = .ok (.func fn first cap) w := fun _ _ _ _ => rfl
  have CD := hidden (digits_any s.size hs 94 #[.pointer (some ⟨w.heap.size, 0, none⟩)] (enters_of Try.func94 (by kernel_rfl) rfl) (ofG s) (fun k _ => by have := ofG_bd s k; omega) (w.alloc (.cells #[.string s] 9))
    (fun k hk V hV => Of1_any s (by omega) k w.heap.size V (blk_later (blk_nw w #[.string s] 9) hV)))
  go_enter Try.func53, Try.ntmps53
  go_wp2_with fail
  refine CD.out.mono ?_
  rintro e w2 ⟨rfl, hb⟩
  have HB := hidden (bthen (ballc w _) hb)
  clear hb
  go_wp2
  go_ret
  exact ⟨rfl, HB.out⟩
theorem Values_any (s : ByteArray) (hs : s.size ≤ 100000) (w : World) :
    Calls Try.prog 49 #[.string s] w fun e w' => e = .returned (.string (dgB s.size (valG s))) ∧ Below w.heap.size w w' := by
  have hmf : ∀ (fn : Fn) (first cap : Array Value) (w : World), (Instr.makeFunc fn first cap).run Try.prog w = .ok (.func fn first cap) w := fun _ _ _ _ => rfl
  have CD := hidden (digits_any s.size hs 86 #[.pointer (some ⟨w.heap.size, 0, none⟩)] (enters_of Try.func86 (by kernel_rfl) rfl) (valG s) (fun k _ => by have := valG_bd s k; omega) (w.alloc (.cells #[.string s] 9))
    (fun k hk V hV => Values1_any s (by omega) k w.heap.size V (blk_later (blk_nw w #[.string s] 9) hV)))
  go_enter Try.func49, Try.ntmps49
  go_wp2_with fail
  refine CD.out.mono ?_
  rintro e w2 ⟨rfl, hb⟩
  have HB := hidden (bthen (ballc w _) hb)
  clear hb
  go_wp2
  go_ret
  exact ⟨rfl, HB.out⟩
/-- How many digits a width asks for. -/
def widF (width : Int) : Nat := (min (max width 0) 64).toNat
theorem widF_bd (width : Int) : widF width ≤ 64 := by unfold widF; omega
theorem Bits_any2 (n width : Int) (hn : n ≤ 9223372036854775807) (w : World) :
    Calls Try.prog 54 #[.int .i64 n, .int .i64 width] w fun e w' => e = .returned (.string (dgB (widF width) (bitG n.toNat))) ∧ Below w.heap.size w w' := by
  have hmf : ∀ (fn : Fn) (first cap : Array Value) (w : World), (Instr.makeFunc fn first cap).run Try.prog w = .ok (.func fn first cap) w := fun _ _ _ _ => rfl
  have HCD := hidden (fun (V : World) (m M : Nat) (hm : (m : Int) ≤ 9223372036854775807) (hM : M ≤ 64) (hV : V.heap[w.heap.size]? = some (.cells #[.int .i64 (m : Int)] 3 (0, 0))) => digits_any M (by omega) 98 #[.pointer (some ⟨w.heap.size, 0, none⟩)] (enters_of Try.func98 (by kernel_rfl) rfl) (bitG m) (fun k _ => by have := bitG_bd m k; omega) V
    (fun k hk W hW => Bits1_any m (by omega) k (by omega) w.heap.size W (blk_later hV hW)))
  by_cases h0 : n < 0
  · obtain hm : n.toNat = 0 := by omega
    rw [hm]
    by_cases w0 : width < 0
    · have e : widF width = 0 := by unfold widF; omega
      rw [e]
      clear hm e
      go_enter Try.func54, Try.ntmps54
      go_wp2_with fail
      refine (HCD.out _ 0 0 (by omega) (by omega) (blk_nw w #[.int .i64 0] 3)).mono ?_
      rintro e w2 ⟨rfl, hb⟩
      have HB := hidden (bthen (ballc w _) hb)
      clear hb
      go_wp2
      go_ret
      exact ⟨rfl, HB.out⟩
    · by_cases w1 : 64 < width
      · have e : widF width = 64 := by unfold widF; omega
        rw [e]
        clear hm e
        go_enter Try.func54, Try.ntmps54
        go_wp2_with fail
        refine (HCD.out _ 0 64 (by omega) (by omega) (blk_nw w #[.int .i64 0] 3)).mono ?_
        rintro e w2 ⟨rfl, hb⟩
        have HB := hidden (bthen (ballc w _) hb)
        clear hb
        go_wp2
        go_ret
        exact ⟨rfl, HB.out⟩
      · obtain ⟨M, rfl⟩ : ∃ M : Nat, width = (M : Int) := ⟨width.toNat, by omega⟩
        have e : widF (M : Int) = M := by unfold widF; omega
        rw [e]
        clear hm e
        have hM : M ≤ 64 := by omega
        go_enter Try.func54, Try.ntmps54
        go_wp2_with fail
        refine (HCD.out _ 0 M (by omega) hM (blk_nw w #[.int .i64 0] 3)).mono ?_
        rintro e w2 ⟨rfl, hb⟩
        have HB := hidden (bthen (ballc w _) hb)
        clear hb
        go_wp2
        go_ret
        exact ⟨rfl, HB.out⟩
  · obtain ⟨m, rfl⟩ : ∃ m : Nat, n = (m : Int) := ⟨n.toNat, by omega⟩
    rw [Int.toNat_natCast]
    by_cases w0 : width < 0
    · have e : widF width = 0 := by unfold widF; omega
      rw [e]
      clear e
      go_enter Try.func54, Try.ntmps54
      go_wp2_with fail
      refine (HCD.out _ m 0 (by omega) (by omega) (blk_nw w #[.int .i64 (m : Int)] 3)).mono ?_
      rintro e w2 ⟨rfl, hb⟩
      have HB := hidden (bthen (ballc w _) hb)
      clear hb
      go_wp2
      go_ret
      exact ⟨rfl, HB.out⟩
    · by_cases w1 : 64 < width
      · have e : widF width = 64 := by unfold widF; omega
        rw [e]
        clear e
        go_enter Try.func54, Try.ntmps54
        go_wp2_with fail
        refine (HCD.out _ m 64 (by omega) (by omega) (blk_nw w #[.int .i64 (m : Int)] 3)).mono ?_
        rintro e w2 ⟨rfl, hb⟩
        have HB := hidden (bthen (ballc w _) hb)
        clear hb
        go_wp2
        go_ret
        exact ⟨rfl, HB.out⟩
      · obtain ⟨M, rfl⟩ : ∃ M : Nat, width = (M : Int) := ⟨width.toNat, by omega⟩
        have e : widF (M : Int) = M := by unfold widF; omega
        rw [e]
        clear e
        have hM : M ≤ 64 := by omega
        go_enter Try.func54, Try.ntmps54
        go_wp2_with fail
        refine (HCD.out _ m M (by omega) hM (blk_nw w #[.int .i64 (m : Int)] 3)).mono ?_
        rintro e w2 ⟨rfl, hb⟩
        have HB := hidden (bthen (ballc w _) hb)
        clear hb
        go_wp2
        go_ret
        exact ⟨rfl, HB.out⟩
end Go.Proofs.Ytohgmliafidalaa

/- Plain words on worlds that are made of another one by laying new blocks: what lay there stays, and new blocks are where they were laid; no conditions. -/
namespace Go.Proofs.Ytohgmliafidalaa
open Go.ChangeShapes Go.WideShapes Go.ChangeAt Go.RowKit
set_option linter.unusedVariables false

/-- A world that is another one with new blocks at its end. -/
def Chn (n : Nat) (w w' : World) : Prop := Below n w w' ∧ n ≤ w'.heap.size
theorem Chn.refl {n : Nat} {w : World} (h : n ≤ w.heap.size) : Chn n w w := ⟨Below.refl _ _, h⟩
theorem Chn.alloc {n : Nat} {w w' : World} (h : Chn n w w') (o : Obj) : Chn n w (w'.alloc o) := ⟨h.1.alloc h.2 o, by rw [World.size_alloc]; exact Nat.le_succ_of_le h.2⟩
theorem Chn.drew {n : Nat} {w w' : World} (h : Chn n w w') : Chn n w w'.drew := ⟨h.1.drew, h.2⟩
theorem Chn.below {n : Nat} {w w' w'' : World} (h : Chn n w w') (k : Below w'.heap.size w' w'') : Chn n w w'' := ⟨h.1.trans (k.mono h.2), Nat.le_trans h.2 k.size⟩
theorem Chn.out {w w' : World} (h : Chn w.heap.size w w') : Below w.heap.size w w' := h.1
theorem Chn.set {n : Nat} {w w' : World} (h : Chn n w w') (g i : Nat) (hg : n ≤ g) (v : Value) : Chn n w (w'.setCell ⟨g, i, none⟩ v) := ⟨h.1.setCell (p := ⟨g, i, none⟩) hg v, by simpa using h.2⟩
theorem Chn.le {n : Nat} {w w' : World} (h : Chn n w w') : n ≤ w'.heap.size := h.2
theorem Chn.grown {n g : Nat} {w w' w'' : World} (h : Chn n w w') (k : w'.grownBy w'' (some g)) (hg : n ≤ g) : Chn n w w'' := ⟨h.1.trans ⟨k.os, k.tape, k.output, k.size, fun i hi => k.block i (Nat.lt_of_lt_of_le hi h.2) (by simp; omega)⟩, Nat.le_trans h.2 k.size⟩
end Go.Proofs.Ytohgmliafidalaa
