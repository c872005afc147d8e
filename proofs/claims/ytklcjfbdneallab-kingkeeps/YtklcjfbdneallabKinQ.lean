/- The statements' own count of faulty nodes returns what a plain function gives, and makes at most new memory; conditions: the table and the row lie where they say, and lengths fit int. -/
import Derived.Test.YtklcjfbdneallabConfRef
import Derived.Test.YtklcjfbdneallabKinS
import Derived.Test.YtklcjfbdneallabKinP
namespace Go.Proofs.Ytklcjfbdneallab
open Go.ChangeShapes Go.WideShapes Go.ChangeAt Go.RowKit
set_option linter.unusedVariables false

set_option maxHeartbeats 1000000 in
theorem few_no (n f d p r dr o sl md fr : Int) (ad : Option Addr) (cap : Nat) (zs : List Int) (a2 : Option Addr) (c2 : Nat) (fs : List Int) (hlf : fs.length ≤ 9223372036854775807) (w : World) (hl : zs.length ≤ 9223372036854775807) (hT : Tab w ad zs) (hno : ¬ (plainE n f d p r dr o sl md fr zs = 0 ∧ fs.length ≤ 20)) :
    Calls Try.prog 5 #[.agg #[.int .i64 n, .int .i64 f, .int .i64 d, .int .i64 p, .int .i64 r, .int .i64 dr, .int .i64 o, .int .i64 sl, .int .i64 md, .int .i64 fr, .slice ad zs.length cap], .slice a2 fs.length c2] w fun e w' => e = .returned (.bool false) ∧ Below w.heap.size w w' := by
  have HQ := hidden (refPlain_any n f d p r dr o sl md fr ad cap zs (w.alloc (.cells #[.int .i64 n, .int .i64 f, .int .i64 d, .int .i64 p, .int .i64 r, .int .i64 dr, .int .i64 o, .int .i64 sl, .int .i64 md, .int .i64 fr, .slice ad zs.length cap] 24)) hl (hT.below (ballc _ _)))
  clear hT
  generalize plainE n f d p r dr o sl md fr zs = E at *
  by_cases hE : E = 0
  · have j1 : (E != 0) = false := by simp [hE]
    have j2 : decide ((20 : Int) < (fs.length : Int)) = true := decide_eq_true (by omega)
    clear hno hE
    go_enter Try.func5, Try.ntmps5
    go_wp2_with fail
    refine HQ.out.mono ?_
    rintro e w2 ⟨rfl, hb⟩
    have HB := hidden (bthen (ballc w _) hb)
    clear hb HQ
    go_wp2
    go_ret
    exact ⟨rfl, HB.out⟩
  · have j1 : (E != 0) = true := by simp [hE]
    clear hno hE
    go_enter Try.func5, Try.ntmps5
    go_wp2_with fail
    refine HQ.out.mono ?_
    rintro e w2 ⟨rfl, hb⟩
    have HB := hidden (bthen (ballc w _) hb)
    clear hb HQ
    go_wp2
    go_ret
    exact ⟨rfl, HB.out⟩
/-- How many of the first k are faulty. -/
def facK (N : Nat) (fs : List Int) (k : Nat) : Nat := (List.range k).countP (faB N fs)
theorem facK_s (N : Nat) (fs : List Int) (k : Nat) : facK N fs (k + 1) = facK N fs k + if faB N fs k = true then 1 else 0 := by
  unfold facK
  rw [List.range_succ, List.countP_append, List.countP_singleton]
theorem facK_le (N : Nat) (fs : List Int) (k : Nat) : facK N fs k ≤ k := by
  unfold facK
  exact Nat.le_trans List.countP_le_length (by simp)
set_option maxHeartbeats 2000000 in
theorem few_ok (N : Nat) (f d p r dr o sl md fr : Int) (ad : Option Addr) (cap : Nat) (zs : List Int) (a2 : Option Addr) (c2 : Nat) (fs : List Int) (hlf : fs.length ≤ 20) (w : World) (hl : zs.length ≤ 9223372036854775807) (hT : Tab w ad zs) (hE : plainE (N : Int) f d p r dr o sl md fr zs = 0) (hV : kInt.Lies w.heap.size w (.slice a2 fs.length c2) fs) :
    Calls Try.prog 5 #[.agg #[.int .i64 (N : Int), .int .i64 f, .int .i64 d, .int .i64 p, .int .i64 r, .int .i64 dr, .int .i64 o, .int .i64 sl, .int .i64 md, .int .i64 fr, .slice ad zs.length cap], .slice a2 fs.length c2] w fun e w' => e = .returned (.bool (decide ((facL (faB N fs) N : Int) ≤ f))) ∧ Below w.heap.size w w' := by
  have HQ := hidden (refPlain_any (N : Int) f d p r dr o sl md fr ad cap zs (w.alloc (.cells #[.int .i64 (N : Int), .int .i64 f, .int .i64 d, .int .i64 p, .int .i64 r, .int .i64 dr, .int .i64 o, .int .i64 sl, .int .i64 md, .int .i64 fr, .slice ad zs.length cap] 24)) hl (hT.below (ballc _ _)))
  rw [hE] at HQ
  obtain ⟨n1, n2, _⟩ := plainE_ok hE
  have hN2 : N ≤ 13 := by omega
  have HV0 := hidden hV
  have j2 : decide ((20 : Int) < (fs.length : Int)) = false := decide_eq_false (by omega)
  clear hT hE n1 n2 hV
  go_enter Try.func5, Try.ntmps5
  go_wp2_with fail
  refine HQ.out.mono ?_
  rintro e w2 ⟨rfl, hb⟩
  have HK := hidden (blk_later (blk_nw w #[.int .i64 (N : Int), .int .i64 f, .int .i64 d, .int .i64 p, .int .i64 r, .int .i64 dr, .int .i64 o, .int .i64 sl, .int .i64 md, .int .i64 fr, .slice ad zs.length cap] 24) hb)
  have HB := hidden (bthen (ballc w _) hb)
  have HV := hidden (HV0.out.later HB.out)
  have c0 := fun i => blk_cell HK.out i
  have l0 := blk_lt HK.out
  clear hb HQ HV0
  go_wp2
  go_loop [5, 6] (fun c i => ∃ k : Nat, k ≤ N ∧ c = .int .i64 (facK N fs k : Int) ∧ i = .int .i64 k) (fun _ i => N - (intV i).toNat)
  case atStart => exact ⟨0, Nat.zero_le _, rfl, rfl⟩
  case round =>
    obtain ⟨k, hk, rfl, rfl⟩ := hrel
    by_cases hlt : k < N
    · have i2 : (k : Int) < (N : Int) := by omega
      have CI := hidden (rIn_any (k : Int) a2 c2 fs (by omega) w2 HV.out)
      rw [← faB_in (N := N) hlt] at CI
      have HS := hidden (facK_s N fs k)
      have hle := facK_le N fs k
      generalize facK N fs k = q at *
      have hq : (q : Int) ≤ 13 := by omega
      by_cases hf : faB N fs k = true
      · rw [hf] at CI
        have HS2 : Hid (facK N fs (k + 1) = q + 1) := HS.out.trans (by rw [if_pos hf])
        clear HS hf hle
        go_wp2_with fail
        refine CI.out.mono ?_
        rintro e w3 ⟨rfl, rfl⟩
        go_wp2
        go_round
        case rel => exact ⟨k + 1, by omega, by rw [HS2.out]; go_num, by go_num⟩
        case measure => simp [intV]; omega
      · have hf' : faB N fs k = false := by simpa using hf
        rw [hf'] at CI
        have HS2 : Hid (facK N fs (k + 1) = q) := HS.out.trans (by rw [if_neg hf]; omega)
        clear HS hf hf' hle
        go_wp2_with fail
        refine CI.out.mono ?_
        rintro e w3 ⟨rfl, rfl⟩
        go_wp2
        go_round
        case rel => exact ⟨k + 1, by omega, by rw [HS2.out], by go_num⟩
        case measure => simp [intV]; omega
    · obtain rfl : k = N := by omega
      go_wp2
      go_ret
      exact ⟨rfl, HB.out⟩
end Go.Proofs.Ytklcjfbdneallab
