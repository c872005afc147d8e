/- The document's calls In and say of layer 14 return what plain functions give, and make at most new memory; conditions: at most 13 nodes, rows lie where they say, and lengths fit int. -/
import Derived.Test.YtklcjfbdneallaaKinC
namespace Go.Proofs.Ytklcjfbdneallaa
open Go.ChangeShapes Go.WideShapes Go.ChangeAt Go.RowKit
set_option linter.unusedVariables false
attribute [local go_sem] cell_rg

set_option maxHeartbeats 1000000 in
theorem rIn_any (n : Int) (a2 : Option Addr) (c2 : Nat) (vs : List Int) (hlv : vs.length ≤ 9223372036854775807) (w : World) (hV : kInt.Lies w.heap.size w (.slice a2 vs.length c2) vs) :
    Calls Try.prog 57 #[.slice a2 vs.length c2, .int .i64 n] w fun e w' => e = .returned (.bool (decide (n ∈ vs))) ∧ w = w' := by
  go_enter Try.func57, Try.ntmps57
  go_wp2
  go_loop [5] (fun i => ∃ k : Nat, k ≤ vs.length ∧ i = .int .i64 k ∧ n ∉ vs.take k) (fun i => vs.length - (intV i).toNat)
  case atStart => exact ⟨0, Nat.zero_le _, rfl, by simp⟩
  case round =>
    obtain ⟨k, hk, rfl, hn⟩ := hrel
    by_cases hlt : k < vs.length
    · obtain ⟨b, off, rfl, hbl, e0⟩ := kInt_at hV k hlt
      have HS := hidden (take_snocV vs hlt)
      have HM : Hid (vs[k] ∈ vs) := List.getElem_mem hlt
      have HN := hidden hn
      have i1 : (0 : Int) ≤ (k : Int) := by omega
      have i2 : (k : Int) < (vs.length : Int) := by omega
      clear hV hn
      generalize vs[k] = z at *
      by_cases h : z = n
      · subst h
        have j : (z == z) = true := by simp
        have HD : Hid (decide (z ∈ vs) = true) := decide_eq_true HM.out
        go_wp2
        go_ret
        exact ⟨ret_b HD.out.symm, rfl⟩
      · have j : (z == n) = false := by simp [h]
        have HN2 : Hid (n ∉ vs.take (k + 1)) := by
          show ¬ _
          rw [HS.out, List.mem_append, List.mem_singleton]
          exact fun hh => hh.elim HN.out (fun e => h e.symm)
        go_wp2
        go_round
        case rel => exact ⟨k + 1, by omega, by go_num, HN2.out⟩
        case measure => simp [intV]; omega
    · obtain rfl : k = vs.length := by omega
      rw [List.take_length] at hn
      have HD : Hid (decide (n ∈ vs) = false) := decide_eq_false hn
      clear hn
      go_wp2
      go_ret
      exact ⟨ret_b HD.out.symm, rfl⟩
theorem faB_in {N : Nat} {vs : List Int} {a : Nat} (ha : a < N) : faB N vs a = decide ((a : Int) ∈ vs) := by
  unfold faB
  simp [ha]
theorem kBit_at {n₀ : Nat} {W : World} {ad : Option Addr} {len cap : Nat} {bs : List (Int × Bool)} (h : kBit.Lies n₀ W (.slice ad len cap) bs) (j : Nat) (hj : j < bs.length) : ∃ b off : Nat, ad = some ⟨b, off, none⟩ ∧ b < n₀ ∧ W.cell? ⟨b, off + j * 2, none⟩ = some (.int .i64 (bs.getD j (0, false)).1) ∧ W.cell? ⟨b, off + j * 2 + 1, none⟩ = some (.bool (bs.getD j (0, false)).2) := by
  obtain ⟨b, off, e, hb, hc⟩ := h.at j hj
  have e1 : bs.getD j (0, false) = bs[j] := by simp [hj]
  rw [e1]
  exact ⟨b, off, e, hb, hc 0 (by decide), hc 1 (by decide)⟩
set_option maxHeartbeats 2000000 in
theorem rsay_any (N : Nat) (f d p r dr o sl md fr : Int) (ad : Option Addr) (cap : Nat) (zs : List Int) (hN2 : N ≤ 13) (ab : Option Addr) (cb : Nat) (bs : List (Int × Bool)) (hbl : bs.length = N) (af : Option Addr) (cf : Nat) (fs : List Int) (hlf : fs.length ≤ 9223372036854775807) (a2 : Option Addr) (c2 : Nat) (vs : List Int) (hlv : vs.length ≤ 9223372036854775807) (x a t : Nat) (hx : x ≤ 100) (ha : a < N) (ht : t < 13) (hg : valF (bs.getD a (0, false)) = (bs.getD a (0, false)).1) (w : World) (hB : kBit.Lies w.heap.size w (.slice ab N cb) bs) (hF : kInt.Lies w.heap.size w (.slice af fs.length cf) fs) (hL : kInt.Lies w.heap.size w (.slice a2 vs.length c2) vs) :
    Calls Try.prog 56 #[.agg #[.int .i64 (N : Int), .int .i64 f, .int .i64 d, .int .i64 p, .int .i64 r, .int .i64 dr, .int .i64 o, .int .i64 sl, .int .i64 md, .int .i64 fr, .slice ad zs.length cap], .slice ab N cb, .slice af fs.length cf, .slice a2 vs.length c2, .int .i64 (x : Int), .int .i64 (a : Int), .int .i64 (t : Int)] w fun e w' => e = .returned (.int .i64 (sayF (faB N fs) vs N x t bs a)) ∧ Below w.heap.size w w' := by
  have CI := hidden (rIn_any (a : Int) af cf fs hlf (w.alloc (.cells #[.int .i64 (N : Int), .int .i64 f, .int .i64 d, .int .i64 p, .int .i64 r, .int .i64 dr, .int .i64 o, .int .i64 sl, .int .i64 md, .int .i64 fr, .slice ad zs.length cap] 24)) (hF.later (ballc _ _)))
  rw [← faB_in ha] at CI
  have ha13 : a < 13 := by omega
  by_cases hf : faB N fs a = true
  · rw [hf] at CI
    have HE : Hid (sayF (faB N fs) vs N x t bs a = lieF vs N x a t) := if_pos hf
    rw [HE.out]
    clear hB hF hf HE hg
    by_cases hv : vs.length = 0
    · have e : lieF vs N x a t = -1 := if_pos hv
      rw [e]
      have j1 : ((vs.length : Int) == 0) = true := beq_iff_eq.2 (by omega)
      clear hL
      go_enter Try.func56, Try.ntmps56
      go_wp2_with fail
      refine CI.out.mono ?_
      rintro e w2 ⟨rfl, rfl⟩
      go_wp2
      go_ret
      exact ⟨rfl, ballc _ _⟩
    · have e : lieF vs N x a t = vs.getD (((x * N + a) * N + t) % vs.length) 0 := if_neg hv
      have hm : ((x * N + a) * N + t) % vs.length < vs.length := Nat.mod_lt _ (by omega)
      obtain ⟨b, off, rfl, hbl', e0⟩ := kInt_at hL (((x * N + a) * N + t) % vs.length) hm
      have e1 : vs.getD (((x * N + a) * N + t) % vs.length) 0 = vs[((x * N + a) * N + t) % vs.length] := by simp [hm]
      rw [e, e1]
      clear e e1 hL
      generalize vs[((x * N + a) * N + t) % vs.length] = z at *
      have b1 := kmul_bd hx hN2
      have b2 : x * N + a ≤ 1400 := by omega
      have b3 := kmul_bd b2 hN2
      have t1 : IntKind.i64.wrap ((x : Int) * (N : Int)) = ((x * N : Nat) : Int) := wrIn (by simp) (by omega)
      have t2 : IntKind.i64.wrap (((x * N : Nat) : Int) + (a : Int)) = ((x * N + a : Nat) : Int) := wrIn (by omega) (by omega)
      have t3 : IntKind.i64.wrap (((x * N + a : Nat) : Int) * (N : Int)) = (((x * N + a) * N : Nat) : Int) := wrIn (Int.natCast_mul _ _).symm (by omega)
      have t4 : IntKind.i64.wrap ((((x * N + a) * N : Nat) : Int) + (t : Int)) = (((x * N + a) * N + t : Nat) : Int) := wrIn (by omega) (by omega)
      have t5 : ((((x * N + a) * N + t : Nat) : Int)).tmod (vs.length : Int) = ((((x * N + a) * N + t) % vs.length : Nat) : Int) := by rw [Int.tmod_eq_emod_of_nonneg (by omega)]; exact (Int.natCast_emod _ _).symm
      have i1 : (0 : Int) ≤ ((((x * N + a) * N + t) % vs.length : Nat) : Int) := Int.natCast_nonneg _
      have i2 : ((((x * N + a) * N + t) % vs.length : Nat) : Int) < (vs.length : Int) := Int.ofNat_lt.2 hm
      clear hm
      generalize x * N = p1 at *
      generalize (p1 + a) * N = p2 at *
      generalize p1 + a = p3 at *
      generalize p2 + t = p4 at *
      generalize p4 % vs.length = p5 at *
      have j0 : ((vs.length : Int) == 0) = false := beq_eq_false_iff_ne.2 (by omega)
      have j1 : ¬ (vs.length : Int) = 0 := by omega
      have e2 := ((ballc w (.cells #[.int .i64 (N : Int), .int .i64 f, .int .i64 d, .int .i64 p, .int .i64 r, .int .i64 dr, .int .i64 o, .int .i64 sl, .int .i64 md, .int .i64 fr, .slice ad zs.length cap] 24)).cell (p := ⟨b, off + p5, none⟩) hbl').trans e0
      have hbl2 : b < (w.alloc (.cells #[.int .i64 (N : Int), .int .i64 f, .int .i64 d, .int .i64 p, .int .i64 r, .int .i64 dr, .int .i64 o, .int .i64 sl, .int .i64 md, .int .i64 fr, .slice ad zs.length cap] 24)).heap.size := by simp; omega
      have hk0 := blk_nw w #[.int .i64 (N : Int), .int .i64 f, .int .i64 d, .int .i64 p, .int .i64 r, .int .i64 dr, .int .i64 o, .int .i64 sl, .int .i64 md, .int .i64 fr, .slice ad zs.length cap] 24
      have c0 := fun i => blk_cell hk0 i
      have l0 := blk_lt hk0
      have HW1 := hidden (ballc w (.cells #[.int .i64 (N : Int), .int .i64 f, .int .i64 d, .int .i64 p, .int .i64 r, .int .i64 dr, .int .i64 o, .int .i64 sl, .int .i64 md, .int .i64 fr, .slice ad zs.length cap] 24))
      clear b1 b2 b3 e0 hk0
      go_enter Try.func56, Try.ntmps56
      go_wp2_with fail
      refine CI.out.mono ?_
      rintro e w2 ⟨rfl, rfl⟩
      generalize w.alloc (.cells #[.int .i64 (N : Int), .int .i64 f, .int .i64 d, .int .i64 p, .int .i64 r, .int .i64 dr, .int .i64 o, .int .i64 sl, .int .i64 md, .int .i64 fr, .slice ad zs.length cap] 24) = W1 at *
      go_wp2
      go_ret
      exact ⟨rfl, HW1.out⟩
  · have hf' : faB N fs a = false := by simpa using hf
    rw [hf'] at CI
    have HE : Hid (sayF (faB N fs) vs N x t bs a = (bs.getD a (0, false)).1) := (if_neg hf).trans hg
    rw [HE.out]
    obtain ⟨b, off, rfl, hbl', e0, e1⟩ := kBit_at hB a (by omega)
    clear hB hF hL hf HE hg
    generalize bs.getD a (0, false) = bk at *
    have i1 : (0 : Int) ≤ (a : Int) := by omega
    have i2 : (a : Int) < (N : Int) := by omega
    go_enter Try.func56, Try.ntmps56
    go_wp2_with fail
    refine CI.out.mono ?_
    rintro e w2 ⟨rfl, rfl⟩
    go_wp2
    go_ret
    exact ⟨rfl, ballc _ _⟩
end Go.Proofs.Ytklcjfbdneallaa
