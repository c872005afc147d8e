/- The walk of the statement KingAgrees: the call returns true, and makes at most new memory; conditions: the table and the rows lie where they say, and lengths fit int. -/
import Derived.Test.YtklcjfbdneallabKinK
import Derived.Test.YtklcjfbdneallabKinQ
namespace Go.Proofs.Ytklcjfbdneallab.LawKingAgrees
open Go.ChangeShapes Go.WideShapes Go.ChangeAt Go.RowKit
set_option linter.unusedVariables false

/-- What is known of the common value behind k nodes. -/
def seenF (fa : Nat → Bool) (u : Int) (k : Nat) : Int := if (List.range k).all fa = true then -1 else u
theorem seenF_0 (fa : Nat → Bool) (u : Int) : seenF fa u 0 = -1 := rfl
theorem seenF_f {fa : Nat → Bool} {u : Int} {k : Nat} (h : fa k = true) : seenF fa u (k + 1) = seenF fa u k := by
  unfold seenF
  rw [List.range_succ, List.all_append]
  simp [h]
theorem seenF_h {fa : Nat → Bool} {u : Int} {k : Nat} (h : fa k = false) : seenF fa u (k + 1) = u := by
  unfold seenF
  rw [List.range_succ, List.all_append]
  simp [h]
theorem seenF_or (fa : Nat → Bool) (u : Int) (k : Nat) : seenF fa u k = -1 ∨ seenF fa u k = u := by unfold seenF; split <;> simp
theorem seenF_end {fa : Nat → Bool} {u : Int} {N F : Nat} (hF : facL fa N ≤ F) (hN : 3 * F < N) : seenF fa u N = u := by
  obtain ⟨m, hm, hf⟩ := one_honest hF hN
  refine if_neg fun h => ?_
  have := List.all_eq_true.1 h m (List.mem_range.2 (by omega))
  rw [hf] at this
  cases this
theorem ends_at {fa : Nat → Bool} {N : Nat} {bs : List (Int × Bool)} {u : Int} (h : ComV fa N u bs) (k : Nat) (hk : k < N) (hf : fa k = false) : (endsL fa N bs).getD k 0 = u := by
  unfold endsL
  rw [range_getD _ _ _ _ hk]
  unfold endN
  rw [if_neg (by rw [hf]; decide)]
  exact h k hk hf
set_option maxHeartbeats 4000000 in
theorem walk (n f d p r dr o sl md fr : Int) (ad : Option Addr) (cap : Nat) (zs : List Int) (a1 : Option Addr) (c1 : Nat) (bits : List Int) (a2 : Option Addr) (c2 : Nat) (fs : List Int) (a3 : Option Addr) (c3 : Nat) (vs : List Int) (w : World) (hl : zs.length ≤ 9223372036854775807) (hT : Tab w ad zs)
    (h1 : bits.length ≤ 9223372036854775807) (hV1 : kInt.Lies w.heap.size w (.slice a1 bits.length c1) bits) (h2 : fs.length ≤ 9223372036854775807) (hV2 : kInt.Lies w.heap.size w (.slice a2 fs.length c2) fs) (h3 : vs.length ≤ 9223372036854775807) (hV3 : kInt.Lies w.heap.size w (.slice a3 vs.length c3) vs) :
    Calls Try.prog 3 #[.agg #[.int .i64 n, .int .i64 f, .int .i64 d, .int .i64 p, .int .i64 r, .int .i64 dr, .int .i64 o, .int .i64 sl, .int .i64 md, .int .i64 fr, .slice ad zs.length cap], .slice a1 bits.length c1, .slice a2 fs.length c2, .slice a3 vs.length c3] w fun e w' => e = .returned (.bool true) ∧ Below w.heap.size w w' := by
  by_cases hno : plainE n f d p r dr o sl md fr zs = 0 ∧ fs.length ≤ 20
  · obtain ⟨hE, h20⟩ := hno
    obtain ⟨n1, n2, f1, f2, fn, _⟩ := plainE_ok hE
    obtain ⟨N, rfl⟩ : ∃ N : Nat, n = (N : Int) := ⟨n.toNat, by omega⟩
    obtain ⟨F, hF⟩ : ∃ F : Nat, f = (F : Int) := ⟨f.toNat, by omega⟩
    have CF := hidden (few_ok N f d p r dr o sl md fr ad cap zs a2 c2 fs h20 (w.alloc (.cells #[.int .i64 (N : Int), .int .i64 f, .int .i64 d, .int .i64 p, .int .i64 r, .int .i64 dr, .int .i64 o, .int .i64 sl, .int .i64 md, .int .i64 fr, .slice ad zs.length cap] 24)) hl (hT.below (ballc _ _)) hE (hV2.later (ballc _ _)))
    by_cases hfw : (facL (faB N fs) N : Int) ≤ f
    · rw [decide_eq_true hfw] at CF
      have hfac : facL (faB N fs) N ≤ F := by omega
      have hN3 : 3 * F < N := by omega
      have CP := hidden (fun V (hb : Below w.heap.size w V) => Play_ok N f d p r dr o sl md fr ad cap zs F hF a1 c1 bits a2 c2 fs a3 c3 vs V hl (hT.below hb) hE h1 h2 h3 (hV1.later hb) (hV2.later hb) (hV3.later hb))
      obtain ⟨u, hu, hcom⟩ := agree_all (lies := vs) (bits := bits) hfac hN3
      rw [← hF] at hcom
      have HEND := hidden (seenF_end (u := u) hfac hN3)
      have HAT := hidden (fun k hk hf => ends_at hcom k hk hf)
      have HLEN : Hid ((endsL (faB N fs) N (playL (faB N fs) vs N f bits (3 * (F + 1)))).length = N) := by show _ = _; simp [endsL]
      generalize endsL (faB N fs) N (playL (faB N fs) vs N f bits (3 * (F + 1))) = out at *
      have HV2 := hidden hV2
      have hN13 : N ≤ 13 := by omega
      clear hT hE hV1 hV2 hV3 hfw hF hfac hN3 hcom n1 n2 f1 f2 fn
      go_enter Try.func3, Try.ntmps3
      go_wp2_with fail
      refine CF.out.mono ?_
      rintro e w2 ⟨rfl, hb⟩
      have HB2 := hidden (bthen (ballc w _) hb)
      have HK2 := hidden (blk_later (blk_nw w #[.int .i64 (N : Int), .int .i64 f, .int .i64 d, .int .i64 p, .int .i64 r, .int .i64 dr, .int .i64 o, .int .i64 sl, .int .i64 md, .int .i64 fr, .slice ad zs.length cap] 24) hb)
      have c0 := fun i => blk_cell HK2.out i
      have l0 := blk_lt HK2.out
      clear hb CF
      go_wp2_with fail
      refine (CP.out _ HB2.out).mono ?_
      rintro e w3 ⟨g, rfl, hO, hb⟩
      have HB3 := hidden (bthen HB2.out hb)
      have HK3 := hidden (blk_later HK2.out hb)
      have HO := hidden hO
      clear hb hO CP c0 l0 HK2
      have c0 := fun i => blk_cell HK3.out i
      have l0 := blk_lt HK3.out
      have lo := HO.out.lt
      have HV3 := hidden (HV2.out.later HB3.out)
      go_wp2
      go_loop [10, 11] (fun c i => ∃ k : Nat, k ≤ N ∧ c = .int .i64 (seenF (faB N fs) u k) ∧ i = .int .i64 k) (fun _ i => N - (intV i).toNat)
      case atStart => exact ⟨0, Nat.zero_le _, rfl, rfl⟩
      case round =>
        obtain ⟨k, hk, rfl, rfl⟩ := hrel
        by_cases hlt : k < N
        · have i1 : (0 : Int) ≤ (k : Int) := by omega
          have i2 : (k : Int) < (N : Int) := by omega
          have CI := hidden (rIn_any (k : Int) a2 c2 fs h2 w3 HV3.out)
          rw [← faB_in (N := N) hlt] at CI
          by_cases hf : faB N fs k = true
          · rw [hf] at CI
            have HS := hidden (seenF_f (u := u) hf)
            generalize seenF (faB N fs) u k = q at *
            clear hf
            go_wp2_with fail
            refine CI.out.mono ?_
            rintro e w4 ⟨rfl, rfl⟩
            go_wp2
            go_round
            case rel => exact ⟨k + 1, by omega, by rw [HS.out], by go_num⟩
            case measure => simp [intV]; omega
          · have hf' : faB N fs k = false := by simpa using hf
            rw [hf'] at CI
            have HS := hidden (seenF_h (u := u) hf')
            have hc := HO.out.cell k (by rw [HLEN.out]; exact hlt)
            rw [HAT.out k hlt hf'] at hc
            have hor := seenF_or (faB N fs) u k
            generalize seenF (faB N fs) u k = q at *
            clear hf hf' HAT HEND
            rcases hu with rfl | rfl
            all_goals
              rcases hor with rfl | rfl
              all_goals
                go_wp2_with fail
                refine CI.out.mono ?_
                rintro e w4 ⟨rfl, rfl⟩
                go_wp2
                go_round
                case rel => exact ⟨k + 1, by omega, by rw [HS.out], by go_num⟩
                case measure => simp [intV]; omega
        · obtain rfl : k = N := by omega
          rw [HEND.out]
          have KN := hidden (fun V => known14_any V)
          have hu0 : 0 ≤ u := by omega
          have hu1 : decide (0 ≤ u) = true := decide_eq_true hu0
          go_wp2_with fail
          refine (KN.out _).mono ?_
          rintro e w5 ⟨rfl, hb⟩
          have HB5 := hidden (bthen HB3.out hb)
          clear hb
          go_wp2
          go_ret
          exact ⟨rfl, HB5.out⟩
    · rw [decide_eq_false hfw] at CF
      have KN := hidden (fun V => known14_any V)
      clear hT hE hV1 hV2 hV3 hfw n1 n2 f1 f2 fn hF
      go_enter Try.func3, Try.ntmps3
      go_wp2_with fail
      refine CF.out.mono ?_
      rintro e w2 ⟨rfl, hb⟩
      have HB2 := hidden (bthen (ballc w _) hb)
      clear hb CF
      go_wp2_with fail
      refine (KN.out _).mono ?_
      rintro e w3 ⟨rfl, hb⟩
      have HB3 := hidden (bthen HB2.out hb)
      clear hb
      go_wp2
      go_ret
      exact ⟨rfl, HB3.out⟩
  · have CF := hidden (few_no n f d p r dr o sl md fr ad cap zs a2 c2 fs h2 (w.alloc (.cells #[.int .i64 n, .int .i64 f, .int .i64 d, .int .i64 p, .int .i64 r, .int .i64 dr, .int .i64 o, .int .i64 sl, .int .i64 md, .int .i64 fr, .slice ad zs.length cap] 24)) hl (hT.below (ballc _ _)) hno)
    have KN := hidden (fun V => known14_any V)
    clear hT hV1 hV2 hV3 hno
    go_enter Try.func3, Try.ntmps3
    go_wp2_with fail
    refine CF.out.mono ?_
    rintro e w2 ⟨rfl, hb⟩
    have HB2 := hidden (bthen (ballc w _) hb)
    clear hb CF
    go_wp2_with fail
    refine (KN.out _).mono ?_
    rintro e w3 ⟨rfl, hb⟩
    have HB3 := hidden (bthen HB2.out hb)
    clear hb
    go_wp2
    go_ret
    exact ⟨rfl, HB3.out⟩
end Go.Proofs.Ytklcjfbdneallab.LawKingAgrees
