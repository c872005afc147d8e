/- Several texts of one's own in one: what each proves, and its conditions, is said ahead of it. -/
import Derived.Test.YtkopmhmbldohdaaBa
import Derived.Test.YtkopmhmbldohdaaBc
import Derived.Shelf.Abstract

/- The document's call In of layer 14 tells whether a number is in a row, and leaves all as it was; conditions: the row lies where it says, and lengths fit int. -/
namespace Go.Proofs.Ytkopmhmbldohdaa
open Go.ChangeShapes Go.WideShapes Go.ChangeAt Go.RowKit
set_option linter.unusedVariables false
attribute [local go_sem] cell_rg

set_option maxHeartbeats 1000000 in
theorem rIn_any (n : Int) (a2 : Option Addr) (c2 : Nat) (vs : List Int) (hlv : vs.length ≤ 9223372036854775807) (w : World) (hV : kInt.Lies w.heap.size w (.slice a2 vs.length c2) vs) :
    Calls Try.prog 34 #[.slice a2 vs.length c2, .int .i64 n] w fun e w' => e = .returned (.bool (decide (n ∈ vs))) ∧ w = w' := by
  go_enter Try.func34, Try.ntmps34
  go_wp2
  go_loop [5] (fun i => ∃ k : Nat, k ≤ vs.length ∧ i = .int .i64 k ∧ n ∉ vs.take k) (fun i => vs.length - (intV i).toNat)
  case atStart => exact ⟨0, Nat.zero_le _, rfl, by simp⟩
  case round =>
    obtain ⟨k, hk, rfl, hn⟩ := hrel
    by_cases hlt : k < vs.length
    · obtain ⟨b, off, rfl, hbl, e0⟩ := kInt_at hV k hlt
      have HS := hidden (take_snocV vs hlt)
      have HM : Hid (vs[k] ∈ vs) := List.getElem_mem hlt
      have HN := hidden hn
      have i1 : (0 : Int) ≤ (k : Int) := by omega
      have i2 : (k : Int) < (vs.length : Int) := by omega
      clear hV hn
      generalize vs[k] = z at *
      by_cases h : z = n
      · subst h
        have j : (z == z) = true := by simp
        have HD : Hid (decide (z ∈ vs) = true) := decide_eq_true HM.out
        go_wp2
        go_ret
        exact ⟨ret_b HD.out.symm, rfl⟩
      · have j : (z == n) = false := by simp [h]
        have HN2 : Hid (n ∉ vs.take (k + 1)) := by
          show ¬ _
          rw [HS.out, List.mem_append, List.mem_singleton]
          exact fun hh => hh.elim HN.out (fun e => h e.symm)
        go_wp2
        go_round
        case rel => exact ⟨k + 1, by omega, by go_num, HN2.out⟩
        case measure => simp [intV]; omega
    · obtain rfl : k = vs.length := by omega
      rw [List.take_length] at hn
      have HD : Hid (decide (n ∈ vs) = false) := decide_eq_false hn
      clear hn
      go_wp2
      go_ret
      exact ⟨ret_b HD.out.symm, rfl⟩
end Go.Proofs.Ytkopmhmbldohdaa

/- The integer calls Clamp, Mod and Sat of the document's answer for layer 1 return what plain functions on integers give, and leave the world as it was; for integers that fit int. -/
namespace Go.Proofs.Ytkopmhmbldohdaa
open Go.ChangeShapes Go.WideShapes Go.ChangeAt Go.RowKit
set_option linter.unusedVariables false

theorem rclamp_any (n lo hi : Int) (w : World) :
    Calls Try.prog 33 #[.int .i64 n, .int .i64 lo, .int .i64 hi] w fun e w' => e = .returned (.int .i64 (clampF n lo hi)) ∧ w = w' := by
  by_cases h1 : n < lo
  · have e : clampF n lo hi = lo := by unfold clampF; rw [if_pos (Or.inl h1)]
    rw [e]; clear e
    go_enter Try.func33, Try.ntmps33
    go_wp2
    go_ret
    exact ⟨by first | rfl | exact ret_i (by omega), rfl⟩
  · by_cases h2 : hi < lo
    · have e : clampF n lo hi = lo := by unfold clampF; rw [if_pos (Or.inr h2)]
      rw [e]; clear e
      go_enter Try.func33, Try.ntmps33
      go_wp2
      go_ret
      exact ⟨by first | rfl | exact ret_i (by omega), rfl⟩
    · by_cases h3 : n ≤ hi
      · have e : clampF n lo hi = n := by unfold clampF; rw [if_neg (by omega), if_pos h3]
        rw [e]; clear e
        go_enter Try.func33, Try.ntmps33
        go_wp2
        go_ret
        exact ⟨by first | rfl | exact ret_i (by omega), rfl⟩
      · have e : clampF n lo hi = hi := by unfold clampF; rw [if_neg (by omega), if_neg h3]
        rw [e]; clear e
        go_enter Try.func33, Try.ntmps33
        go_wp2
        go_ret
        exact ⟨by first | rfl | exact ret_i (by omega), rfl⟩
theorem rmod_any (n b : Int) (w : World) (hn : (Lit.int .i64 n).wf = true) (hb : (Lit.int .i64 b).wf = true) :
    Calls Try.prog 78 #[.int .i64 n, .int .i64 b] w fun e w' => e = .returned (.int .i64 (modF n b)) ∧ w = w' := by
  have bn := bd64 hn
  have bb := bd64 hb
  by_cases h1 : b < 1
  · have e : modF n b = 0 := by unfold modF; rw [if_pos h1]
    rw [e]; clear e
    go_enter Try.func78, Try.ntmps78
    go_wp2
    go_ret
    exact ⟨rfl, rfl⟩
  · by_cases h2 : n.tmod b < 0
    · have e : modF n b = n.tmod b + b := by unfold modF; rw [if_neg h1, if_pos h2]
      rw [e]; clear e
      have hr : -b < n.tmod b := by have := Int.lt_tmod_of_pos n (show 0 < b by omega); omega
      go_enter Try.func78, Try.ntmps78
      go_wp2
      go_ret
      exact ⟨rfl, rfl⟩
    · have e : modF n b = n.tmod b := by unfold modF; rw [if_neg h1, if_neg h2]
      rw [e]; clear e
      go_enter Try.func78, Try.ntmps78
      go_wp2
      go_ret
      exact ⟨rfl, rfl⟩
end Go.Proofs.Ytkopmhmbldohdaa

/- The document's calls Has, Mark and Sync of layer 23 return what plain functions give, and make at most new memory; conditions: the row lies where it says, lengths fit int. -/
namespace Go.Proofs.Ytkopmhmbldohdaa
open Go.ChangeShapes Go.WideShapes Go.ChangeAt Go.RowKit
set_option linter.unusedVariables false
attribute [local go_sem] cell_rg

theorem sentB_at {s : ByteArray} {k : Nat} (h : k < s.size) : sentB s k = (((s[k]'h).toNat : Int) == 49) := by
  by_cases e : ((s[k]'h).toNat : Int) = 49
  · have h1 := markU_yes h e
    rw [beq_iff_eq.2 e]
    unfold markU markP at h1
    cases hs : sentB s k
    · rw [hs] at h1; simp at h1
    · rfl
  · have h1 := markU_no h e
    rw [beq_eq_false_iff_ne.2 e]
    unfold markU markP at h1
    cases hs : sentB s k
    · rfl
    · rw [hs] at h1; simp at h1
theorem sentB_out {s : ByteArray} {k : Nat} (h : ¬ k < s.size) : sentB s k = false := by unfold sentB; rw [decide_eq_false h]; rfl
theorem rSync_any (mm : Array Value) (mc ma mn mr : Int) (mz mh mt ml : ByteArray) (hM : MemW mm mc ma mn mr mz mh mt ml) (w : World) :
    Calls Try.prog 11 #[.agg mm] w fun e w' => e = .returned (.bool (decide (2 ≤ mr))) ∧ Below w.heap.size w w' := by
  have e8 := hM.c8
  have HB := hidden (ballc w (.cells mm 30))
  clear hM
  go_enter Try.func11, Try.ntmps11
  go_wp2
  go_ret
  exact ⟨rfl, HB.out⟩
theorem rHas_any (s : ByteArray) (z : Int) (w : World) (hs : s.size ≤ 9223372036854775807) :
    Calls Try.prog 22 #[.string s, .int .i64 z] w fun e w' => e = .returned (.bool (hasI s z)) ∧ w = w' := by
  by_cases h0 : 0 ≤ z
  · have d0 : decide (0 ≤ z) = true := decide_eq_true h0
    obtain ⟨k, rfl⟩ := Int.eq_ofNat_of_zero_le h0
    rw [hasI_nat]
    by_cases h1 : k < s.size
    · have i3 : (k : Int) < (s.size : Int) := by omega
      have d1 : decide ((k : Int) < (s.size : Int)) = true := decide_eq_true i3
      have d2 : decide (k < s.size) = true := decide_eq_true h1
      have HD := hidden (sentB_at h1)
      generalize sentB s k = R at *
      go_enter Try.func22, Try.ntmps22
      go_wp2
      go_ret
      exact ⟨ret_b HD.out.symm, rfl⟩
    · have i3 : ¬ (k : Int) < (s.size : Int) := by omega
      have d1 : decide ((k : Int) < (s.size : Int)) = false := decide_eq_false i3
      have d2 : decide (k < s.size) = false := decide_eq_false h1
      rw [sentB_out h1]
      go_enter Try.func22, Try.ntmps22
      go_wp2
      go_ret
      exact ⟨rfl, rfl⟩
  · have d0 : decide (0 ≤ z) = false := decide_eq_false h0
    rw [hasI_neg h0]
    go_enter Try.func22, Try.ntmps22
    go_wp2
    go_ret
    exact ⟨rfl, rfl⟩
set_option maxRecDepth 100000 in
set_option maxHeartbeats 2000000 in
theorem rMark_any (s : ByteArray) (n : Int) (a2 : Option Addr) (c2 : Nat) (vs : List Int) (w : World) (hs : s.size ≤ 9223372036854775807) (hlv : vs.length ≤ 9223372036854775807) (hV : kInt.Lies w.heap.size w (.slice a2 vs.length c2) vs) :
    Calls Try.prog 13 #[.string s, .int .i64 n, .slice a2 vs.length c2] w fun e w' => e = .returned (.string (markB s n vs)) ∧ Below w.heap.size w w' := by
  have HC := hidden (fun V => rclamp_any n 0 64 V)
  rw [mkN_int] at HC
  have HH := hidden (fun (k : Nat) V => rHas_any s (k : Int) V hs)
  have HI := hidden (fun (k : Nat) => rIn_any (k : Int) a2 c2 vs hlv w hV)
  have HR : Hid (markB s n vs = ba (markL s (mkN n) vs)) := rfl
  have hN := mkN_le n
  generalize markB s n vs = R at *
  generalize mkN n = N at *
  clear hV
  go_enter Try.func13, Try.ntmps13
  go_wp2
  go_loop [7, 8] (fun t i => ∃ k : Nat, k ≤ N ∧ i = .int .i64 k ∧ t = .string (ba (markL s k vs))) (fun _ i => N - (intV i).toNat)
  case atStart => exact ⟨0, Nat.zero_le _, rfl, rfl⟩
  case round =>
    obtain ⟨k, hk, rfl, rfl⟩ := hrel
    by_cases hlt : k < N
    · have i2 : (k : Int) < (N : Int) := by omega
      have HHk := hidden (HH.out k w)
      rw [hasI_nat] at HHk
      have HIk := hidden (HI.out k)
      have HG := hidden (markB_grow s vs k)
      have HU : Hid (markU s vs k = if (sentB s k || decide ((k : Int) ∈ vs)) = true then 49 else 48) := rfl
      have hsz : (ba (markL s k vs)).size ≤ 64 := by rw [ba_size, markL_len]; omega
      have hgo : Hid ((ba (markL s k vs) ++ ba [markU s vs k]) = ba (markL s (k + 1) vs)) := HG.out.symm
      generalize ba (markL s k vs) = t at *
      generalize decide ((k : Int) ∈ vs) = b2 at *
      generalize sentB s k = b1 at *
      have n1 : ¬ 9223372036854775807 < t.size + 1 := by omega
      clear HG HH HI
      go_wp2_with fail
      refine (HC.out _).mono ?_
      rintro e w2 ⟨rfl, rfl⟩
      go_wp2_with fail
      refine HHk.out.mono ?_
      rintro e w2 ⟨rfl, rfl⟩
      cases b1 with
      | true =>
        rw [HU.out, if_pos (by rfl)] at hgo
        go_wp2
        go_round
        case rel => exact ⟨k + 1, by omega, by go_num, congrArg Value.string hgo.out⟩
        case measure => simp [intV]; omega
      | false =>
        go_wp2_with fail
        refine HIk.out.mono ?_
        rintro e w2 ⟨rfl, rfl⟩
        cases b2 with
        | true =>
          rw [HU.out, if_pos (by rfl)] at hgo
          go_wp2
          go_round
          case rel => exact ⟨k + 1, by omega, by go_num, congrArg Value.string hgo.out⟩
          case measure => simp [intV]; omega
        | false =>
          rw [HU.out, if_neg (by decide)] at hgo
          go_wp2
          go_round
          case rel => exact ⟨k + 1, by omega, by go_num, congrArg Value.string hgo.out⟩
          case measure => simp [intV]; omega
    · obtain rfl : k = N := by omega
      have i2 : ¬ (k : Int) < (k : Int) := by omega
      go_wp2_with fail
      refine (HC.out _).mono ?_
      rintro e w2 ⟨rfl, rfl⟩
      go_wp2
      go_ret
      exact ⟨by rw [HR.out]; rfl, Below.refl _ _⟩
end Go.Proofs.Ytkopmhmbldohdaa

/- The calls Slot, Owner, owners, wasSentIn and isTime of package sched return what plain functions give, and make at most new memory; conditions: the table lies where it says, its length and the numbers fit int. -/
namespace Go.Proofs.Ytkopmhmbldohdaa
open Go.ChangeShapes Go.WideShapes Go.ChangeAt Go.RowKit
set_option linter.unusedVariables false
attribute [local go_sem] cell_rg


/-- The table of what is plain. -/
theorem owners_any (n f d p r dr o sl md fr : Int) (ad : Option Addr) (cap : Nat) (zs : List Int) (w : World) (hl : zs.length ≤ 9223372036854775807) (hT : Tab w ad zs) :
    Calls Try.prog 64 #[.agg #[.int .i64 n, .int .i64 f, .int .i64 d, .int .i64 p, .int .i64 r, .int .i64 dr, .int .i64 o, .int .i64 sl, .int .i64 md, .int .i64 fr, .slice ad zs.length cap]] w fun e w' => e = .returned (if plainE n f d p r dr o sl md fr zs = 0 then .slice ad zs.length cap else .slice none 0 0) ∧ Below w.heap.size w w' := by
  have HT := hidden (hT.below (ballc w (.cells #[.int .i64 n, .int .i64 f, .int .i64 d, .int .i64 p, .int .i64 r, .int .i64 dr, .int .i64 o, .int .i64 sl, .int .i64 md, .int .i64 fr, .slice ad zs.length cap] 24)))
  have HP := hidden (plain_any n f d p r dr o sl md fr ad cap zs (w.alloc (.cells #[.int .i64 n, .int .i64 f, .int .i64 d, .int .i64 p, .int .i64 r, .int .i64 dr, .int .i64 o, .int .i64 sl, .int .i64 md, .int .i64 fr, .slice ad zs.length cap] 24)) hl HT.out)
  clear hT
  generalize plainE n f d p r dr o sl md fr zs = E at *
  by_cases hE : E = 0
  · rw [if_pos hE]
    subst hE
    go_enter Try.func64, Try.ntmps64
    go_wp2_with fail
    refine HP.out.mono ?_
    rintro e w2 ⟨rfl, hb2⟩
    have HB2 := hidden hb2
    clear hb2
    obtain ⟨hbox, hsz⟩ := box_at HB2.out
    go_wp2
    go_ret
    exact ⟨rfl, bthen (ballc w _) HB2.out⟩
  · rw [if_neg hE]
    go_enter Try.func64, Try.ntmps64
    go_wp2_with fail
    refine HP.out.mono ?_
    rintro e w2 ⟨rfl, hb2⟩
    have HB2 := hidden hb2
    clear hb2
    go_wp2
    go_ret
    exact ⟨rfl, bthen (ballc w _) HB2.out⟩

set_option maxHeartbeats 1000000 in
theorem SOwner_any (n f d p r dr o sl md fr : Int) (ad : Option Addr) (cap : Nat) (zs : List Int) (s : Int) (w : World) (hs : -9223372036854775808 ≤ s ∧ s ≤ 9223372036854775807) (hl : zs.length ≤ 9223372036854775807) (hT : Tab w ad zs) :
    Calls Try.prog 46 #[.agg #[.int .i64 n, .int .i64 f, .int .i64 d, .int .i64 p, .int .i64 r, .int .i64 dr, .int .i64 o, .int .i64 sl, .int .i64 md, .int .i64 fr, .slice ad zs.length cap], .int .i64 s] w fun e w' => e = .returned (.int .i64 (ownF (plainE n f d p r dr o sl md fr zs) zs s)) ∧ Below w.heap.size w w' := by
  have HT := hidden (hT.below (ballc w (.cells #[.int .i64 n, .int .i64 f, .int .i64 d, .int .i64 p, .int .i64 r, .int .i64 dr, .int .i64 o, .int .i64 sl, .int .i64 md, .int .i64 fr, .slice ad zs.length cap] 24)))
  have HO := hidden (owners_any n f d p r dr o sl md fr ad cap zs (w.alloc (.cells #[.int .i64 n, .int .i64 f, .int .i64 d, .int .i64 p, .int .i64 r, .int .i64 dr, .int .i64 o, .int .i64 sl, .int .i64 md, .int .i64 fr, .slice ad zs.length cap] 24)) hl HT.out)
  have hF : plainE n f d p r dr o sl md fr zs = 0 ∧ 0 ≤ s ∧ s < (zs.length : Int) ∨ ¬ (plainE n f d p r dr o sl md fr zs = 0 ∧ 0 ≤ s ∧ s < (zs.length : Int)) := Classical.em _
  have HV : Hid (ownF (plainE n f d p r dr o sl md fr zs) zs s = if plainE n f d p r dr o sl md fr zs = 0 ∧ 0 ≤ s ∧ s < (zs.length : Int) then zs.getD s.toNat 0 else -1) := rfl
  clear hT
  generalize ownF (plainE n f d p r dr o sl md fr zs) zs s = R at *
  generalize plainE n f d p r dr o sl md fr zs = E at *
  by_cases h0 : s < 0
  · have HR : Hid (R = -1) := by rw [HV.out]; exact if_neg (fun c => by omega)
    have e1 : decide (s < 0) = true := decide_eq_true h0
    clear hF HV h0
    generalize (if E = 0 then Value.slice ad zs.length cap else Value.slice none 0 0) = sv at *
    go_enter Try.func46, Try.ntmps46
    go_wp2_with fail
    refine HO.out.mono ?_
    rintro e w2 ⟨rfl, hb2⟩
    have HB2 := hidden hb2
    clear hb2
    go_wp2
    go_ret
    exact ⟨ret_i HR.out.symm, bthen (ballc w _) HB2.out⟩
  have e1 : decide (s < 0) = false := decide_eq_false h0
  by_cases hE : E = 0
  case neg =>
    have HR : Hid (R = -1) := by rw [HV.out]; exact if_neg (fun c => hE c.1)
    rw [if_neg hE] at HO
    have e2 : (0 : Int) ≤ s := by omega
    clear hF HV hE h0
    go_enter Try.func46, Try.ntmps46
    go_wp2_with fail
    refine HO.out.mono ?_
    rintro e w2 ⟨rfl, hb2⟩
    have HB2 := hidden hb2
    clear hb2
    go_wp2
    go_ret
    exact ⟨ret_i HR.out.symm, bthen (ballc w _) HB2.out⟩
  rw [if_pos hE] at HO
  obtain ⟨k, rfl⟩ := Int.eq_ofNat_of_zero_le (show 0 ≤ s by omega)
  by_cases h2 : zs.length ≤ k
  · have HR : Hid (R = -1) := by rw [HV.out]; exact if_neg (fun c => by omega)
    have e2 : decide ((zs.length : Int) ≤ (k : Int)) = true := decide_eq_true (by omega)
    clear hF HV hE h0
    go_enter Try.func46, Try.ntmps46
    go_wp2_with fail
    refine HO.out.mono ?_
    rintro e w2 ⟨rfl, hb2⟩
    have HB2 := hidden hb2
    clear hb2
    go_wp2
    go_ret
    exact ⟨ret_i HR.out.symm, bthen (ballc w _) HB2.out⟩
  · have hlt : k < zs.length := by omega
    have HR : Hid (R = zs.getD k 0) := by rw [HV.out]; exact if_pos ⟨hE, by omega, by omega⟩
    have e2 : decide ((zs.length : Int) ≤ (k : Int)) = false := decide_eq_false (by omega)
    have i1 : (0 : Int) ≤ (k : Int) := by omega
    have i2 : (k : Int) < (zs.length : Int) := by omega
    obtain ⟨a, ha, hc⟩ := HT.out k hlt
    subst ha
    clear hF HV hE h0
    go_enter Try.func46, Try.ntmps46
    go_wp2_with fail
    refine HO.out.mono ?_
    rintro e w2 ⟨rfl, hb2⟩
    have HB2 := hidden hb2
    have hc2 := (HT.out.below HB2.out).at k hlt
    clear hb2 hc
    go_wp2
    go_ret
    exact ⟨ret_i (by rw [HR.out]; simp [hlt]), bthen (ballc w _) HB2.out⟩
end Go.Proofs.Ytkopmhmbldohdaa

/- The calls of package ring and of the document's answer on clocks return what plain functions on integers give, and leave the world as it was; for integers that fit int. -/
namespace Go.Proofs.Ytkopmhmbldohdaa
open Go.ChangeShapes Go.WideShapes Go.ChangeAt Go.RowKit
set_option linter.unusedVariables false

def signedF (a b : Int) : Int := if (a - b) % 65536 < 32768 then (a - b) % 65536 else (a - b) % 65536 - 65536
theorem tmod_neg (n : Int) (h : n.tmod 65536 < 0) : n.tmod 65536 + 65536 = n % 65536 := by
  have h1 := Int.mul_tdiv_add_tmod n 65536
  have h2 : -65536 < n.tmod 65536 := by
    by_cases h0 : 0 ≤ n
    · have := Int.tmod_nonneg 65536 h0; omega
    · have e : n.tmod 65536 = -((-n).tmod 65536) := by rw [Int.neg_tmod]; omega
      have := Int.tmod_lt_of_pos (-n) (b := 65536) (by omega)
      omega
  omega
theorem tmod_pos (n : Int) (h : ¬ n.tmod 65536 < 0) : n.tmod 65536 = n % 65536 := by
  have h1 := Int.mul_tdiv_add_tmod n 65536
  have h2 := Int.tmod_lt_of_pos n (b := 65536) (by omega)
  omega
theorem nmod_any (n : Int) (w : World) :
    Calls Try.prog 83 #[.int .i64 n, .int .i64 65536] w fun e w' => e = .returned (.int .i64 (n % 65536)) ∧ w = w' := by
  have hr : -65536 < n.tmod 65536 := by have := Int.lt_tmod_of_pos n (show (0 : Int) < 65536 by omega); omega
  by_cases h : n.tmod 65536 < 0
  · rw [← tmod_neg n h]
    go_enter Try.func83, Try.ntmps83
    go_wp2
    go_ret
    exact ⟨rfl, rfl⟩
  · rw [← tmod_pos n h]
    go_enter Try.func83, Try.ntmps83
    go_wp2
    go_ret
    exact ⟨rfl, rfl⟩
theorem read_any (n : Int) (w : World) :
    Calls Try.prog 77 #[.int .i64 n] w fun e w' => e = .returned (.int .i64 (n % 65536)) ∧ w = w' := by
  go_enter Try.func77, Try.ntmps77
  go_wp2_with (go_at_call 83; refine (nmod_any _ _).mono ?_; rintro e w' ⟨rfl, rfl⟩)
  go_ret
  exact ⟨rfl, rfl⟩
theorem since_any (a b : Int) (w : World) (ha : 0 ≤ a ∧ a < 65536) (hb : 0 ≤ b ∧ b < 65536) :
    Calls Try.prog 69 #[.int .i64 a, .int .i64 b] w fun e w' => e = .returned (.int .i64 ((a - b) % 65536)) ∧ w = w' := by
  have t1 : IntKind.i64.wrap (a - b) = a - b := IntWalk.i64_in _ (by omega)
  go_enter Try.func69, Try.ntmps69
  go_wp2_with (go_at_call 77; refine (read_any _ _).mono ?_; rintro e w' ⟨rfl, rfl⟩)
  go_ret
  exact ⟨rfl, rfl⟩
theorem bothSince_any (a b : Int) (w : World) :
    Calls Try.prog 68 #[.func (.func 69) #[] #[], .int .i64 a, .int .i64 b] w fun e w' => e = .returned (.int .i64 ((a - b) % 65536)) ∧ w = w' := by
  have em : (a % 65536 - b % 65536) % 65536 = (a - b) % 65536 := by omega
  go_enter Try.func68, Try.ntmps68
  go_wp2_with (first
    | (go_at_call 77; refine (read_any _ _).mono ?_; rintro e w' ⟨rfl, rfl⟩)
    | (go_at_call 69; refine (since_any _ _ _ (by omega) (by omega)).mono ?_; rintro e w' ⟨rfl, rfl⟩))
  go_ret
  exact ⟨rfl, rfl⟩
theorem Diff_any (a b : Int) (w : World) :
    Calls Try.prog 52 #[.int .i64 a, .int .i64 b] w fun e w' => e = .returned (.int .i64 ((a - b) % 65536)) ∧ w = w' := by
  go_enter Try.func52, Try.ntmps52
  go_wp2_with (go_at_call 68; refine (bothSince_any _ _ _).mono ?_; rintro e w' ⟨rfl, rfl⟩)
  go_ret
  exact ⟨rfl, rfl⟩
end Go.Proofs.Ytkopmhmbldohdaa

/- The calls Guard, Settle and All of package bound return what the document says, and make at most new memory; conditions: the table lies where it says, and its length fits int. -/
namespace Go.Proofs.Ytkopmhmbldohdaa
open Go.ChangeShapes Go.WideShapes Go.ChangeAt Go.RowKit
set_option linter.unusedVariables false
attribute [local go_sem] cell_rg

set_option maxHeartbeats 1000000 in
theorem BGuard_any (n f d p r dr o sl md fr : Int) (ad : Option Addr) (cap : Nat) (zs : List Int) (w : World) (hl : zs.length ≤ 9223372036854775807) (hT : Tab w ad zs) :
    Calls Try.prog 63 #[.agg #[.int .i64 n, .int .i64 f, .int .i64 d, .int .i64 p, .int .i64 r, .int .i64 dr, .int .i64 o, .int .i64 sl, .int .i64 md, .int .i64 fr, .slice ad zs.length cap]] w fun e w' => e = .returned (.int .i64 (gate (plainE n f d p r dr o sl md fr zs) (guardF d r dr (lastE o sl zs)))) ∧ Below w.heap.size w w' := by
  have HT := hidden (hT.below (Joins.below_alloc2 w (.cells #[.int .i64 n, .int .i64 f, .int .i64 d, .int .i64 p, .int .i64 r, .int .i64 dr, .int .i64 o, .int .i64 sl, .int .i64 md, .int .i64 fr, .slice ad zs.length cap] 24) (.cells #[.int .i64 n, .int .i64 f, .int .i64 d, .int .i64 p, .int .i64 r, .int .i64 dr, .int .i64 o, .int .i64 sl, .int .i64 md, .int .i64 fr, .slice ad zs.length cap] 99)))
  have HP := hidden (cPlain_any n f d p r dr o sl md fr ad cap zs ((w.alloc (.cells #[.int .i64 n, .int .i64 f, .int .i64 d, .int .i64 p, .int .i64 r, .int .i64 dr, .int .i64 o, .int .i64 sl, .int .i64 md, .int .i64 fr, .slice ad zs.length cap] 24)).alloc (.cells #[.int .i64 n, .int .i64 f, .int .i64 d, .int .i64 p, .int .i64 r, .int .i64 dr, .int .i64 o, .int .i64 sl, .int .i64 md, .int .i64 fr, .slice ad zs.length cap] 99)) hl HT.out)
  clear hT
  by_cases hE : plainE n f d p r dr o sl md fr zs = 0
  · have HI := hidden (fun (v : World) (h : Tab v ad zs) => guard_any n f d p r dr o sl md fr ad cap zs v hE)
    have HG : Hid (gate (plainE n f d p r dr o sl md fr zs) (guardF d r dr (lastE o sl zs)) = guardF d r dr (lastE o sl zs)) := by rw [hE]; exact gate_ok _
    obtain ⟨_, _, f1, f2, _, d1, d2, _, p2, _⟩ := plainE_ok hE
    have p1 := plainE_p hE
    have hd : decide (plainE n f d p r dr o sl md fr zs = 0) = true := decide_eq_true hE
    rw [hd] at HP
    clear hd hE
    go_enter Try.func63, Try.ntmps63
    go_wp2_with fail
    refine HP.out.mono ?_
    rintro e w2 ⟨rfl, hb2⟩
    have HB2 := hidden hb2
    clear hb2
    obtain ⟨hbox, hbox1, hsz⟩ := box_at2 HB2.out
    go_wp2_with fail
    refine (HI.out _ (HT.out.below HB2.out)).mono ?_
    rintro e w3 ⟨rfl, hb3⟩
    have HB3 := hidden (bthen HB2.out hb3)
    clear hb3 hbox hbox1 hsz
    go_wp2
    go_ret
    exact ⟨ret_i HG.out.symm, bthen (Joins.below_alloc2 _ _ _) HB3.out⟩
  · have HG := hidden (gate_no hE (guardF d r dr (lastE o sl zs)))
    have hd : decide (plainE n f d p r dr o sl md fr zs = 0) = false := decide_eq_false hE
    rw [hd] at HP
    clear hd hE
    go_enter Try.func63, Try.ntmps63
    go_wp2_with fail
    refine HP.out.mono ?_
    rintro e w2 ⟨rfl, hb2⟩
    have HB2 := hidden hb2
    clear hb2
    go_wp2
    go_ret
    exact ⟨ret_i HG.out.symm, bthen (Joins.below_alloc2 _ _ _) HB2.out⟩
end Go.Proofs.Ytkopmhmbldohdaa

/- The calls Elapsed, Now, canBe, Nominal, first and Clear of package slot return what plain functions give, and make at most new memory; conditions: the table lies where it says, its length and the numbers fit int. -/
namespace Go.Proofs.Ytkopmhmbldohdaa
open Go.ChangeShapes Go.WideShapes Go.ChangeAt Go.RowKit Go.Shelf
set_option linter.unusedVariables false
attribute [local go_sem] cell_rg

theorem Elapsed_any (a b : Int) (w : World) :
    Calls Try.prog 36 #[.int .i64 a, .int .i64 b] w fun e w' => e = .returned (.int .i64 ((a - b) % 65536)) ∧ w = w' := by
  go_enter Try.func36, Try.ntmps36
  go_wp2_with (go_at_call 52; refine (Diff_any _ _ _).mono ?_; rintro e w' ⟨rfl, rfl⟩)
  go_ret
  exact ⟨rfl, rfl⟩
theorem wrap64_bd (x : Int) : -9223372036854775808 ≤ wrap64 x ∧ wrap64 x ≤ 9223372036854775807 := by unfold wrap64; omega

end Go.Proofs.Ytkopmhmbldohdaa

/- The calls Window, isWithin and Hit of package slot return what plain functions give, and make at most new memory; conditions: the table lies where it says, its length and the numbers fit int. -/
namespace Go.Proofs.Ytkopmhmbldohdaa
open Go.ChangeShapes Go.WideShapes Go.ChangeAt Go.RowKit Go.Shelf
set_option linter.unusedVariables false
attribute [local go_sem] cell_rg

theorem ret2_ii {a b c d : Int} (h : a = c) (k : b = d) : Ending.returned (.tuple #[.int .i64 a, .int .i64 b]) = .returned (.tuple #[.int .i64 c, .int .i64 d]) := by rw [h, k]
theorem own_pos {n : Int} {zs : List Int} (h : ownsB n zs = true) {k : Nat} (hk : k < zs.length) : 0 ≤ zs.getD k 0 := ((ownsB_iff.1 h).1 (zs.getD k 0) (by simp [hk])).1

set_option maxHeartbeats 1000000 in
theorem Window_any (n f d p r dr o sl md fr : Int) (ad : Option Addr) (cap : Nat) (zs : List Int) (s : Int) (w : World) (hs : -9223372036854775808 ≤ s ∧ s ≤ 9223372036854775807) (hl : zs.length ≤ 9223372036854775807) (hT : Tab w ad zs) :
    Calls Try.prog 45 #[.agg #[.int .i64 n, .int .i64 f, .int .i64 d, .int .i64 p, .int .i64 r, .int .i64 dr, .int .i64 o, .int .i64 sl, .int .i64 md, .int .i64 fr, .slice ad zs.length cap], .int .i64 s] w fun e w' => e = .returned (.tuple #[.int .i64 (win1 (plainE n f d p r dr o sl md fr zs) d r (guardF d r dr (lastE o sl zs)) o sl zs.length s), .int .i64 (win2 (plainE n f d p r dr o sl md fr zs) d r (guardF d r dr (lastE o sl zs)) o sl zs.length s)]) ∧ Below w.heap.size w w' := by
  have HT := hidden (hT.below (ballc w (.cells #[.int .i64 n, .int .i64 f, .int .i64 d, .int .i64 p, .int .i64 r, .int .i64 dr, .int .i64 o, .int .i64 sl, .int .i64 md, .int .i64 fr, .slice ad zs.length cap] 24)))
  have HO := hidden (SOwner_any n f d p r dr o sl md fr ad cap zs s (w.alloc (.cells #[.int .i64 n, .int .i64 f, .int .i64 d, .int .i64 p, .int .i64 r, .int .i64 dr, .int .i64 o, .int .i64 sl, .int .i64 md, .int .i64 fr, .slice ad zs.length cap] 24)) hs hl HT.out)
  have HM := hidden (fun V h => BMiddle_any n f d p r dr o sl md fr ad cap zs s V hl h)
  have HG := hidden (fun V h => BGuard_any n f d p r dr o sl md fr ad cap zs V hl h)
  clear hT
  by_cases hin : plainE n f d p r dr o sl md fr zs = 0 ∧ 0 ≤ s ∧ s < (zs.length : Int)
  · obtain ⟨hE, s1, s2⟩ := hin
    obtain ⟨k, rfl⟩ := Int.eq_ofNat_of_zero_le s1
    have hk : k < zs.length := by omega
    obtain ⟨M1, M2⟩ := lastE_bd hE
    obtain ⟨_, _, _, _, _, d1, d2, _, _, r1, r2, dr1, dr2, o1, o2, sl1, sl2, _, _, _, _, z1, z2, zo⟩ := plainE_ok hE
    have ho := own_pos zo hk
    obtain ⟨g1, g2⟩ := guardF_in d1 d2 r1 r2 dr1 dr2 M1 M2
    obtain ⟨m1, m2⟩ := midE_bd (s := (k : Int)) s1 (by omega) o1 o2 sl1 sl2
    obtain ⟨q0, q1⟩ := mul_bd (show 0 ≤ d by omega) d2 (show 0 ≤ r by omega) r2
    rw [hE] at HO HM HG ⊢
    rw [ownF_in hk] at HO
    rw [slotB_yes s1 s2] at HM
    simp only [placeE_yes] at HM
    simp only [gate_ok] at HG
    rw [win1_in hk, win2_in hk]
    unfold winLo winHi
    generalize zs.getD k 0 = ow at *
    generalize midE o sl (k : Int) = M at *
    generalize guardF d r dr (lastE o sl zs) = G at *
    generalize hdr : d * r = P at *
    have t1 : IntKind.i64.wrap P = P := IntWalk.i64_in _ (by omega)
    have t2 : IntKind.i64.wrap (M + P) = M + P := IntWalk.i64_in _ (by omega)
    have e0 : (ow == -1) = false := by rw [beq_eq_false_iff_ne]; omega
    clear hE M1 M2 zo ho
    go_enter Try.func45, Try.ntmps45
    go_wp2_with fail
    refine HO.out.mono ?_
    rintro e w2 ⟨rfl, hb2⟩
    have HB2 := hidden hb2
    have HT2 := hidden (HT.out.below hb2)
    clear hb2
    obtain ⟨hbox, hsz⟩ := box_at HB2.out
    go_wp2
    refine wp_region_quiet_below (by kernel_rfl) (by kernel_rfl) ?_
    repeat (go_big_quiet_step ((go_at_call 62; exact Calls.regrown_of (HM.out _ (HT2.out.below (below_regrown _ _ _))))))
    refine wpQuiet_nil ?_
    intro w3 hw3
    have HB3 := hidden (bthen HB2.out (rg_below hw3))
    have HT3 := hidden (HT2.out.below (rg_below hw3))
    clear hw3 hbox hsz t1 t2
    obtain ⟨hbox, hsz⟩ := box_at HB3.out
    go_wp2_with fail
    refine (HG.out _ HT3.out).mono ?_
    rintro e w4 ⟨rfl, hb4⟩
    have HB4 := hidden (bthen HB3.out hb4)
    clear hb4 hbox hsz
    go_wp2
    refine bodyPost_ret (v := .tuple #[.int .i64 (M + P - G), .int .i64 (M + P + G)]) (by simp [results, Try.results45, go_sem]) rfl ⟨rfl, bthen (ballc w _) HB4.out⟩
  · have hO : ownF (plainE n f d p r dr o sl md fr zs) zs s = -1 := by
      by_cases hE : plainE n f d p r dr o sl md fr zs = 0
      · exact ownF_no (fun c => hin ⟨hE, c⟩)
      · exact ownF_err hE
    rw [hO] at HO
    rw [win1_no hin, win2_no hin]
    clear hin hO HM HG
    go_enter Try.func45, Try.ntmps45
    go_wp2_with fail
    refine HO.out.mono ?_
    rintro e w2 ⟨rfl, hb2⟩
    have HB2 := hidden hb2
    clear hb2
    go_wp2
    refine bodyPost_ret (v := .tuple #[.int .i64 0, .int .i64 0]) (by simp [results, Try.results45, go_sem]) rfl ⟨rfl, bthen (ballc w _) HB2.out⟩


end Go.Proofs.Ytkopmhmbldohdaa

/- The calls wasSentIn and isTime of package sched return what plain functions give, and make at most new memory; conditions: the table lies where it says, its length and the numbers fit int. -/
namespace Go.Proofs.Ytkopmhmbldohdaa
open Go.ChangeShapes Go.WideShapes Go.ChangeAt Go.RowKit
set_option linter.unusedVariables false
attribute [local go_sem] cell_rg

theorem byte_at (s : ByteArray) (k : Nat) (h : k < s.size) : s[k] = s.data.toList.getD k 0 := by
  have h' : k < s.data.toList.length := by simpa using h
  rw [List.getD_eq_getElem?_getD, List.getElem?_eq_getElem h']
  rfl
theorem sentB_far {s : ByteArray} {k : Nat} (h : s.size ≤ k) : sentB s k = false := by
  unfold sentB
  rw [decide_eq_false (by omega : ¬ k < s.size), Bool.false_and]
theorem sentB_in {s : ByteArray} {k : Nat} (h : k < s.size) : sentB s k = (s.data.toList.getD k 0 == 49) := by
  unfold sentB
  rw [decide_eq_true h, Bool.true_and]
theorem u8_49 (b : UInt8) : ((b.toNat : Int) == 49) = (b == 49) := by
  by_cases h : b = 49
  · subst h; rfl
  · have h2 : ¬ b.toNat = 49 := fun c => h (UInt8.toNat_inj.1 c)
    rw [beq_eq_false_iff_ne.2 h, beq_eq_false_iff_ne]
    intro c
    exact h2 (by omega)

theorem wasSentIn_any (k : Nat) (s : ByteArray) (w : World) (hs : s.size ≤ 9223372036854775807) :
    Calls Try.prog 50 #[.int .i64 (k : Int), .string s] w fun e w' => e = .returned (.bool (sentB s k)) ∧ w = w' := by
  by_cases h : k < s.size
  · have hv := sentB_in h
    have hb := byte_at s k h
    have e1 : decide ((k : Int) < (s.size : Int)) = true := decide_eq_true (by omega)
    have i1 : (0 : Int) ≤ (k : Int) := by omega
    have i2 : (k : Int) < (s.size : Int) := by omega
    have hu := u8_49 (s.data.toList.getD k 0)
    rw [← hb] at hu hv
    go_enter Try.func50, Try.ntmps50
    go_wp2
    go_ret
    exact ⟨ret_b (by rw [hv, ← hu]; rfl), rfl⟩
  · have hv := sentB_far (s := s) (k := k) (by omega)
    have e1 : decide ((k : Int) < (s.size : Int)) = false := decide_eq_false (by omega)
    go_enter Try.func50, Try.ntmps50
    go_wp2
    go_ret
    exact ⟨ret_b hv.symm, rfl⟩

/-- Is it time for what has its middle at M? -/
def timeM (M r dr e : Int) : Bool := decide (M ≤ e) && decide (e < M + r + dr)
/-- Where a slot's middle is, 0 where there is no such slot. -/
def midP (o sl : Int) (m : Nat) (k : Nat) : Int := placeE 0 (slotB (k : Int) m) (midE o sl (k : Int))
theorem midP_in {o sl : Int} {m k : Nat} (h : k < m) : midP o sl m k = midE o sl (k : Int) := by
  unfold midP
  rw [slotB_yes (by omega) (by omega), placeE_yes]
theorem midP_no {o sl : Int} {m k : Nat} (h : ¬ k < m) : midP o sl m k = 0 := by
  unfold midP
  rw [slotB_no (by omega), placeE_no]
theorem midP_bd {o sl : Int} {m k : Nat} (hm : m ≤ 32) (o1 : 0 ≤ o) (o2 : o ≤ 30000) (sl1 : 1 ≤ sl) (sl2 : sl ≤ 30000) : 0 ≤ midP o sl m k ∧ midP o sl m k ≤ 975000 := by
  by_cases h : k < m
  · rw [midP_in h]; exact midE_bd (by omega) (by omega) o1 o2 sl1 sl2
  · rw [midP_no h]; omega
/-- Is that slot due? -/
def dueP (o sl r dr e : Int) (m : Nat) (s : ByteArray) (k : Nat) : Bool := !sentB s k && timeM (midP o sl m k) r dr e
theorem dueP_in {o sl r dr e : Int} {m : Nat} {s : ByteArray} {k : Nat} (h : k < m) : dueP o sl r dr e m s k = dueB o sl r dr e s k := by
  unfold dueP dueB timeM timeB
  rw [midP_in h]
theorem firstF_congr {p q : Nat → Bool} {l : List Nat} (h : ∀ k ∈ l, p k = q k) : firstF p l = firstF q l := by
  have e : l.find? p = l.find? q := by
    induction l with
    | nil => rfl
    | cons a l ih =>
      simp only [List.find?_cons, h a (List.mem_cons_self ..)]
      rw [ih fun k hk => h k (List.mem_cons_of_mem _ hk)]
  unfold firstF
  rw [e]
theorem firstF_dueP (o sl r dr e : Int) (zs : List Int) (node : Int) (s : ByteArray) : firstF (dueP o sl r dr e zs.length s) (ownL zs node zs.length) = dueF 0 o sl r dr zs node e s := by
  unfold dueF
  rw [ownedF_ok]
  exact firstF_congr fun k hk => dueP_in (ownL_mem.1 hk).1

set_option maxHeartbeats 1000000 in
theorem isTime_any (n f d p r dr o sl md fr : Int) (ad : Option Addr) (cap : Nat) (zs : List Int) (k : Nat) (el : Int) (w : World) (hP : plainE n f d p r dr o sl md fr zs = 0) (he : -9223372036854775808 ≤ el ∧ el ≤ 9223372036854775807) (hl : zs.length ≤ 9223372036854775807) (hT : Tab w ad zs) :
    Calls Try.prog 51 #[.agg #[.int .i64 n, .int .i64 f, .int .i64 d, .int .i64 p, .int .i64 r, .int .i64 dr, .int .i64 o, .int .i64 sl, .int .i64 md, .int .i64 fr, .slice ad zs.length cap], .int .i64 (k : Int), .int .i64 el] w fun e w' => e = .returned (.bool (timeM (midP o sl zs.length k) r dr el)) ∧ Below w.heap.size w w' := by
  obtain ⟨_, _, _, _, _, d1, d2, _, _, r1, r2, dr1, dr2, o1, o2, sl1, sl2, _, _, _, _, z1, z2, _⟩ := plainE_ok hP
  have HM := hidden (BMiddle_any n f d p r dr o sl md fr ad cap zs (k : Int) (w.alloc (.cells #[.int .i64 n, .int .i64 f, .int .i64 d, .int .i64 p, .int .i64 r, .int .i64 dr, .int .i64 o, .int .i64 sl, .int .i64 md, .int .i64 fr, .slice ad zs.length cap] 24)) hl (hT.below (ballc _ _)))
  rw [hP] at HM
  rw [show placeE 0 (slotB (k : Int) zs.length) (midE o sl (k : Int)) = midP o sl zs.length k from rfl] at HM
  obtain ⟨m1, m2⟩ := midP_bd (k := k) z2 o1 o2 sl1 sl2
  clear hT hP
  generalize midP o sl zs.length k = M at *
  have HV : Hid (timeM M r dr el = (decide (M ≤ el) && decide (el < M + r + dr))) := rfl
  by_cases h1 : M ≤ el
  · have e1 : decide (M ≤ el) = true := decide_eq_true h1
    have HR : Hid (timeM M r dr el = decide (el < M + r + dr)) := hidden (by rw [HV.out, e1, Bool.true_and])
    clear HV
    go_enter Try.func51, Try.ntmps51
    go_wp2_with fail
    refine HM.out.mono ?_
    rintro e w2 ⟨rfl, hb2⟩
    have HB2 := hidden hb2
    clear hb2
    obtain ⟨hbox, hsz⟩ := box_at HB2.out
    go_wp2
    go_ret
    exact ⟨ret_b HR.out.symm, bthen (ballc w _) HB2.out⟩
  · have e1 : decide (M ≤ el) = false := decide_eq_false h1
    have HR : Hid (timeM M r dr el = false) := hidden (by rw [HV.out, e1, Bool.false_and])
    clear HV
    go_enter Try.func51, Try.ntmps51
    go_wp2_with fail
    refine HM.out.mono ?_
    rintro e w2 ⟨rfl, hb2⟩
    have HB2 := hidden hb2
    clear hb2
    obtain ⟨hbox, hsz⟩ := box_at HB2.out
    go_wp2
    go_ret
    exact ⟨ret_b HR.out.symm, bthen (ballc w _) HB2.out⟩
end Go.Proofs.Ytkopmhmbldohdaa
