/- Several texts of one's own in one: what each proves, and its conditions, is said ahead of it. -/
import Derived.Test.YtohgmliafidalaaBj
import Derived.Test.YtohgmliafidalaaBi
import Derived.Test.YtohgmliafidalaaBc
import Derived.Test.YtohgmliafidalaaBe

/- The fixed calls of the statements on package beat come out as they must, and make at most new memory; no conditions. -/
namespace Go.Proofs.Ytohgmliafidalaa
open Go.ChangeShapes Go.WideShapes Go.ChangeAt Go.RowKit
set_option linter.unusedVariables false

theorem small18_any (w : World) :
    Calls Try.prog 38 #[] w fun e w' => ∃ g, e = .returned (.agg #[.int .i64 4, .int .i64 1, .int .i64 1, .int .i64 20, .int .i64 64, .int .i64 1, .int .i64 64, .int .i64 190, .int .i64 10, .int .i64 3, .slice (some ⟨g, 0, none⟩) 4 4]) ∧ Tab w' (some ⟨g, 0, none⟩) [0, 1, 2, 3] ∧ Below w.heap.size w w' := by
  go_enter Try.func38, Try.ntmps38
  go_wp2
  refine bodyPost_ret (v := .agg #[.int .i64 4, .int .i64 1, .int .i64 1, .int .i64 20, .int .i64 64, .int .i64 1, .int .i64 64, .int .i64 190, .int .i64 10, .int .i64 3, .slice (some ⟨w.heap.size + 1, 0, none⟩) 4 4]) (by simp [results, Try.results38, go_sem]) rfl ⟨_, rfl, Tab.four _ _ _ (by simp), Joins.below_alloc2 _ _ _⟩
theorem bval_2 {a b c d : Int} (h : a = c) (k : b = d) : Value.tuple #[.int .i64 a, .int .i64 b] = .tuple #[.int .i64 c, .int .i64 d] := by rw [h, k]
theorem bval_4 {a b : ByteArray} {i j k l : Int} {x y : Bool} (h1 : a = b) (h2 : i = j) (h3 : k = l) (h4 : x = y) : Value.tuple #[.string a, .int .i64 i, .int .i64 k, .bool x] = .tuple #[.string b, .int .i64 j, .int .i64 l, .bool y] := by rw [h1, h2, h3, h4]
theorem bval_i {a b : Int} (h : a = b) : Value.int .i64 a = .int .i64 b := by rw [h]
theorem stpP_small (ad : Option Addr) : stpP 4 1 1 20 64 1 64 190 10 3 ad 4 [0, 1, 2, 3] 1 6 [⟨#[49, 49, 49, 49, 49, 49]⟩, ⟨#[49, 49, 49, 49, 49, 49]⟩, ⟨#[49, 49, 49, 49, 49, 49]⟩] (wellL 6 ⟨#[48, 48, 48, 48, 48, 49]⟩) = true := by
  unfold stpP
  rw [hrdF_small, end_small17]
  rfl
theorem stpS_small (ad : Option Addr) : stpS 4 1 1 20 64 1 64 190 10 3 ad 4 [0, 1, 2, 3] 1 6 [⟨#[49, 49, 49, 49, 49, 49]⟩, ⟨#[49, 49, 49, 49, 49, 49]⟩, ⟨#[49, 49, 49, 49, 49, 49]⟩] (wellL 6 ⟨#[48, 48, 48, 48, 48, 49]⟩) 19 = 0 := by
  unfold stpS
  rw [stpP_small, plainE_small]
  rfl
theorem stpR_small (ad : Option Addr) : stpR 4 1 1 20 64 1 64 190 10 3 ad 4 [0, 1, 2, 3] 1 6 [⟨#[49, 49, 49, 49, 49, 49]⟩, ⟨#[49, 49, 49, 49, 49, 49]⟩, ⟨#[49, 49, 49, 49, 49, 49]⟩] (wellL 6 ⟨#[48, 48, 48, 48, 48, 49]⟩) 19 1 = 2 := by
  unfold stpR
  rw [stpP_small, plainE_small]
  rfl
theorem begin_small18 : ba ((newL (hrdB 0 4 1 [⟨#[49, 49, 49, 49, 49, 49]⟩, ⟨#[49, 49, 49, 49, 49, 49]⟩, ⟨#[49, 49, 49, 49, 49, 49]⟩]) 1 (wellL 6 ⟨#[48, 48, 48, 48, 48, 49]⟩)).set 0 (begC8 0)) = ⟨#[48, 49, 52, 49, 49, 52]⟩ := by decide +kernel
theorem stpL_small (ad : Option Addr) : ba (stpL 4 1 1 20 64 1 64 190 10 3 ad 4 [0, 1, 2, 3] 1 6 [⟨#[49, 49, 49, 49, 49, 49]⟩, ⟨#[49, 49, 49, 49, 49, 49]⟩, ⟨#[49, 49, 49, 49, 49, 49]⟩] (wellL 6 ⟨#[48, 48, 48, 48, 48, 49]⟩) 19) = ⟨#[48, 49, 52, 49, 49, 52]⟩ := by
  unfold stpL
  rw [stpS_small, hrdF_small, plainE_small, show bitI 0 20 ((6 : Nat) : Int) 0 = 0 by decide]
  exact begin_small18
theorem alone_small18 : aloT 0 20 6 13 (penF ⟨#[]⟩) 8 = ⟨#[48, 48, 48, 48, 48, 48, 49, 48]⟩ := by decide +kernel
theorem step18_any (g : Nat) (a2 : Option Addr) (w : World) (hT : Tab w (some ⟨g, 0, none⟩) [0, 1, 2, 3]) (hV : kStr.Lies w.heap.size w (.slice a2 3 3) [⟨#[49, 49, 49, 49, 49, 49]⟩, ⟨#[49, 49, 49, 49, 49, 49]⟩, ⟨#[49, 49, 49, 49, 49, 49]⟩]) :
    Calls Try.prog 40 #[.agg #[.int .i64 4, .int .i64 1, .int .i64 1, .int .i64 20, .int .i64 64, .int .i64 1, .int .i64 64, .int .i64 190, .int .i64 10, .int .i64 3, .slice (some ⟨g, 0, none⟩) 4 4], .string ⟨#[48, 48, 48, 48, 48, 49]⟩, .int .i64 19, .int .i64 1, .slice a2 3 3] w fun e w' => e = .returned (.tuple #[.string ⟨#[48, 49, 52, 49, 49, 52]⟩, .int .i64 0, .int .i64 2, .bool true]) ∧ Below w.heap.size w w' :=
  Calls.ret_to (BStep_any 4 1 1 20 64 1 64 190 10 3 (some ⟨g, 0, none⟩) 4 [0, 1, 2, 3] 6 1 6 ⟨#[48, 48, 48, 48, 48, 49]⟩ (by decide) 19 1 (by decide) (by decide) a2 3 [⟨#[49, 49, 49, 49, 49, 49]⟩, ⟨#[49, 49, 49, 49, 49, 49]⟩, ⟨#[49, 49, 49, 49, 49, 49]⟩] w (by decide) hT (by rw [plainE_small]; rfl) (by rw [plainE_small]; rfl) (by decide) (by decide) (by decide) (.inr ⟨rfl, by decide, by decide⟩) (by decide) hV (by decide))
    (bval_4 (stpL_small _) (stpS_small _) (stpR_small _) (stpP_small _))
set_option maxHeartbeats 4000000 in
theorem known18_any (w : World) :
    Calls Try.prog 10 #[] w fun e w' => e = .returned (.bool true) ∧ Below w.heap.size w w' := by
  go_enter Try.func10, Try.ntmps10
  go_wp2_with fail
  refine (small18_any _).mono ?_
  rintro e w3 ⟨g, rfl, hT, hb⟩
  have HB3 := hidden hb
  have HC := hidden (blk_nw w3 #[.int .i64 4, .int .i64 1, .int .i64 1, .int .i64 20, .int .i64 64, .int .i64 1, .int .i64 64, .int .i64 190, .int .i64 10, .int .i64 3, .slice (some ⟨g, 0, none⟩) 4 4] 24)
  have hC := ballc w3 (.cells #[.int .i64 4, .int .i64 1, .int .i64 1, .int .i64 20, .int .i64 64, .int .i64 1, .int .i64 64, .int .i64 190, .int .i64 10, .int .i64 3, .slice (some ⟨g, 0, none⟩) 4 4] 24)
  have HT3 := hidden (hT.below hC)
  have HBC := hidden (bthen HB3.out hC)
  clear hT hb hC
  go_wp2_with fail
  refine (Calls.ret_to (BNext_any 4 1 1 20 64 1 64 190 10 3 (some ⟨g, 0, none⟩) 4 [0, 1, 2, 3] 19 1 true _ (by decide) HT3.out (by decide) (by decide)) (bval_2 (c := 0) (d := 2) (by rw [plainE_small]; rfl) (by rw [plainE_small]; rfl))).mono ?_
  rintro e w4 ⟨rfl, hb⟩
  have HB4 := hidden (bthen HBC.out hb)
  have HT4 := hidden (HT3.out.below hb)
  have HC4 := hidden (blk_later HC.out hb)
  clear hb HT3
  have c0 := blk_cell HC4.out
  have l0 := blk_lt HC4.out
  go_wp2_with fail
  refine (Calls.ret_to (BNext_any 4 1 1 20 64 1 64 190 10 3 (some ⟨g, 0, none⟩) 4 [0, 1, 2, 3] 19 2 false _ (by decide) HT4.out (by decide) (by decide)) (bval_2 (c := 20) (d := 0) (by rw [plainE_small]; rfl) (by rw [plainE_small]; rfl))).mono ?_
  rintro e w5 ⟨rfl, hb⟩
  have HB5 := hidden (bthen HB4.out hb)
  have HT5 := hidden (HT4.out.below hb)
  have HC5 := hidden (blk_later HC4.out hb)
  clear hb HT4 c0 l0
  have c0 := blk_cell HC5.out
  have l0 := blk_lt HC5.out
  have hV : kStr.Lies (w5.alloc (.cells #[.string ⟨#[49, 49, 49, 49, 49, 49]⟩, .string ⟨#[49, 49, 49, 49, 49, 49]⟩, .string ⟨#[49, 49, 49, 49, 49, 49]⟩] 9)).heap.size (w5.alloc (.cells #[.string ⟨#[49, 49, 49, 49, 49, 49]⟩, .string ⟨#[49, 49, 49, 49, 49, 49]⟩, .string ⟨#[49, 49, 49, 49, 49, 49]⟩] 9)) (.slice (some ⟨w5.heap.size, 0, none⟩) 3 3) [⟨#[49, 49, 49, 49, 49, 49]⟩, ⟨#[49, 49, 49, 49, 49, 49]⟩, ⟨#[49, 49, 49, 49, 49, 49]⟩] :=
    Kind.Lies.of_block (K := kStr) (es := [⟨#[49, 49, 49, 49, 49, 49]⟩, ⟨#[49, 49, 49, 49, 49, 49]⟩, ⟨#[49, 49, 49, 49, 49, 49]⟩]) (heap_alloc_new w5 (.cells #[.string ⟨#[49, 49, 49, 49, 49, 49]⟩, .string ⟨#[49, 49, 49, 49, 49, 49]⟩, .string ⟨#[49, 49, 49, 49, 49, 49]⟩] 9)) (by simp [maxLen])
  have CM := hidden (step18_any g (some ⟨w5.heap.size, 0, none⟩) (w5.alloc (.cells #[.string ⟨#[49, 49, 49, 49, 49, 49]⟩, .string ⟨#[49, 49, 49, 49, 49, 49]⟩, .string ⟨#[49, 49, 49, 49, 49, 49]⟩] 9)) (HT5.out.below (ballc _ _)) hV)
  have HB6 := hidden (bthen HB5.out (ballc _ (.cells #[.string ⟨#[49, 49, 49, 49, 49, 49]⟩, .string ⟨#[49, 49, 49, 49, 49, 49]⟩, .string ⟨#[49, 49, 49, 49, 49, 49]⟩] 9)))
  have HT6 := hidden (HT5.out.below (ballc _ (.cells #[.string ⟨#[49, 49, 49, 49, 49, 49]⟩, .string ⟨#[49, 49, 49, 49, 49, 49]⟩, .string ⟨#[49, 49, 49, 49, 49, 49]⟩] 9)))
  have HC6 := hidden (blk_later HC5.out (ballc _ (.cells #[.string ⟨#[49, 49, 49, 49, 49, 49]⟩, .string ⟨#[49, 49, 49, 49, 49, 49]⟩, .string ⟨#[49, 49, 49, 49, 49, 49]⟩] 9)))
  clear hV HT5
  go_wp2_with fail
  refine CM.out.mono ?_
  rintro e w7 ⟨rfl, hb⟩
  have HB7 := hidden (bthen HB6.out hb)
  have HT7 := hidden (HT6.out.below hb)
  have HC7 := hidden (blk_later HC6.out hb)
  clear hb HT6 CM c0 l0
  have c0 := blk_cell HC7.out
  have l0 := blk_lt HC7.out
  go_wp2_with fail
  refine (Calls.ret_to (BBit_any 4 1 1 20 64 1 64 190 10 3 (some ⟨g, 0, none⟩) 4 [0, 1, 2, 3] 6 14 _ (by decide) HT7.out (by rw [plainE_small]; rfl) (by decide) (by decide)) (bval_i (b := 1) (by rw [plainE_small]; decide))).mono ?_
  rintro e w8 ⟨rfl, hb⟩
  have HB8 := hidden (bthen HB7.out hb)
  have HT8 := hidden (HT7.out.below hb)
  have HC8 := hidden (blk_later HC7.out hb)
  clear hb HT7 c0 l0
  have c0 := blk_cell HC8.out
  have l0 := blk_lt HC8.out
  go_wp2_with fail
  refine (Calls.ret_to (BBit_any 4 1 1 20 64 1 64 190 10 3 (some ⟨g, 0, none⟩) 4 [0, 1, 2, 3] 6 15 _ (by decide) HT8.out (by rw [plainE_small]; rfl) (by decide) (by decide)) (bval_i (b := 0) (by rw [plainE_small]; decide))).mono ?_
  rintro e w9 ⟨rfl, hb⟩
  have HB9 := hidden (bthen HB8.out hb)
  have HT9 := hidden (HT8.out.below hb)
  have HC9 := hidden (blk_later HC8.out hb)
  clear hb HT8 c0 l0
  have c0 := blk_cell HC9.out
  have l0 := blk_lt HC9.out
  go_wp2_with fail
  refine (Calls.ret_to (BBit_any 4 1 1 20 64 1 64 190 10 3 (some ⟨g, 0, none⟩) 4 [0, 1, 2, 3] 6 20 _ (by decide) HT9.out (by rw [plainE_small]; rfl) (by decide) (by decide)) (bval_i (b := 1) (by rw [plainE_small]; decide))).mono ?_
  rintro e w10 ⟨rfl, hb⟩
  have HB10 := hidden (bthen HB9.out hb)
  have HT10 := hidden (HT9.out.below hb)
  have HC10 := hidden (blk_later HC9.out hb)
  clear hb HT9 c0 l0
  have c0 := blk_cell HC10.out
  have l0 := blk_lt HC10.out
  go_wp2_with fail
  refine (Calls.ret_to (Alone_any 4 1 1 20 64 1 64 190 10 3 (some ⟨g, 0, none⟩) 4 [0, 1, 2, 3] 6 13 (by decide) ⟨#[]⟩ (by decide) 8 8 (by decide) _ (by decide) HT10.out (by rw [plainE_small]; rfl) (by decide)) (pval_s (b := ⟨#[48, 48, 48, 48, 48, 48, 49, 48]⟩) (by rw [plainE_small]; exact alone_small18))).mono ?_
  rintro e w11 ⟨rfl, hb⟩
  have HB11 := hidden (bthen HB10.out hb)
  clear hb c0 l0
  go_wp2
  go_ret
  exact ⟨rfl, HB11.out⟩
end Go.Proofs.Ytohgmliafidalaa

/- The statements' own test 'regular' holds of digits that have a 1 each period and no other, and makes at most new memory; conditions: those digits, the text's length fits int. -/
namespace Go.Proofs.Ytohgmliafidalaa
open Go.ChangeShapes Go.WideShapes Go.ChangeAt Go.RowKit
set_option linter.unusedVariables false
attribute [local go_sem] cell_rg

def numD (b : Bool) : Int := if b = true then 49 else 48
def cntR (R j : Nat) : Int := if R < j then 1 else 0
set_option maxRecDepth 100000 in
set_option maxHeartbeats 2000000 in
theorem regular_any (n f d p r dr o sl md fr : Int) (ad : Option Addr) (cap : Nat) (zs : List Int) (P u F : Nat) (hp : p = (P : Int)) (hP1 : 1 ≤ P) (hP4 : P ≤ 400) (e : Nat → Bool) (hu : u ≤ F) (he : ∀ t, u ≤ t → (e t = true ↔ (t - u) % P = 0)) (s : ByteArray) (hs : s.size ≤ 1000000) (hS : ∀ k (h : k < s.size), F ≤ k → ((s[k]'h).toNat : Int) = numD (e k)) (hF : F ≤ 1000000) (w : World) :
    Calls Try.prog 14 #[.agg #[.int .i64 n, .int .i64 f, .int .i64 d, .int .i64 p, .int .i64 r, .int .i64 dr, .int .i64 o, .int .i64 sl, .int .i64 md, .int .i64 fr, .slice ad zs.length cap], .string s, .int .i64 (F : Int)] w fun x w' => x = .returned (.bool true) ∧ Below w.heap.size w w' := by
  subst hp
  have HB0 := hidden (ballc w (.cells #[.int .i64 n, .int .i64 f, .int .i64 d, .int .i64 (P : Int), .int .i64 r, .int .i64 dr, .int .i64 o, .int .i64 sl, .int .i64 md, .int .i64 fr, .slice ad zs.length cap] 24))
  have HK := hidden (blk_nw w #[.int .i64 n, .int .i64 f, .int .i64 d, .int .i64 (P : Int), .int .i64 r, .int .i64 dr, .int .i64 o, .int .i64 sl, .int .i64 md, .int .i64 fr, .slice ad zs.length cap] 24)
  have HE := hidden he
  have HSS := hidden hS
  obtain ⟨N, hN⟩ : ∃ N, N = s.size := ⟨_, rfl⟩
  clear he hS
  go_enter Try.func14, Try.ntmps14
  go_wp2
  generalize hw0 : w.alloc (.cells #[.int .i64 n, .int .i64 f, .int .i64 d, .int .i64 (P : Int), .int .i64 r, .int .i64 dr, .int .i64 o, .int .i64 sl, .int .i64 md, .int .i64 fr, .slice ad zs.length cap] 24) = w0 at *
  clear hw0
  go_loopw [7] (fun i wr => ∃ k : Nat, F ≤ k ∧ (k ≤ F ∨ k ≤ s.size) ∧ i = .int .i64 k ∧ Below w0.heap.size w0 wr) (fun i _ => s.size - (intV i).toNat)
  case atStart => exact ⟨F, Nat.le_refl _, .inl (Nat.le_refl _), rfl, Below.refl _ _⟩
  case round =>
    obtain ⟨i, hFi, hi, rfl, hB⟩ := hrel
    have hKr := blk_later HK.out hB
    have HKr := hidden hKr
    have c0 := blk_cell hKr
    have l0 := blk_lt hKr
    have HB9 := hidden (bthen HB0.out hB)
    by_cases hlt : i < s.size
    · have i1 : (i : Int) < (s.size : Int) := by omega
      have i2 : (0 : Int) ≤ (i : Int) := by omega
      obtain ⟨q, hq⟩ : ∃ q : Nat, q = i + P := ⟨_, rfl⟩
      have t1 : (i : Int) + (P : Int) = (q : Int) := by omega
      have t2 : IntKind.i64.wrap (q : Int) = (q : Int) := IntWalk.i64_in _ (by omega)
      have j2 : (0 : Int) ≤ (q : Int) := by omega
      have HQ := hidden hq
      obtain ⟨R, hRP, hR⟩ := one_place (P := P) (u := u) (i := i) (by omega) (by omega)
      have HR : Hid (∀ j, j < P → (e (i + j) = true ↔ j = R)) := fun j hj => (HE.out (i + j) (by omega)).trans (hR j hj)
      clear hKr hR
      by_cases hfar : q < s.size
      · have j3 : (q : Int) < (s.size : Int) := by omega
        have jn : ((((s[i]'hlt).toNat : Nat) : Int) != (((s[q]'hfar).toNat : Nat) : Int)) = false := by
          rw [HSS.out i hlt hFi, HSS.out q hfar (by omega)]
          rw [hq]
          have e1 : e i = e (i + P) := by
            have h1 := HE.out i (by omega)
            have h2 := HE.out (i + P) (by omega)
            rw [show i + P - u = i - u + P by omega, Nat.add_mod_right] at h2
            cases h : e i
            · cases h' : e (i + P)
              · rfl
              · rw [h1.2 (h2.1 h')] at h; cases h
            · rw [h2.2 (h1.1 h)]
          rw [e1]
          simp
        clear hq
        go_wp2
        refine wp_region_quiet_below (by kernel_rfl) (by kernel_rfl) ?_
        repeat (go_big_quiet_step (fail))
        refine wpQuiet_nil ?_
        intro w5 hw5
        have hB5 := bthen hB (rg_below hw5)
        have HB5 := hidden hB5
        clear hw5 c0 l0 HB9 hB hB5
        go_wp2
        go_loopw [8, 9] (fun a b wr => ∃ j k : Nat, Hid (k = i + j) ∧ j ≤ P ∧ k ≤ s.size ∧ a = .int .i64 (cntR R j) ∧ b = .int .i64 (k : Int) ∧ Below w0.heap.size w0 wr) (fun _ b _ => s.size - (intV b).toNat)
        case atStart => exact ⟨0, i, rfl, Nat.zero_le _, by omega, rfl, rfl, HB5.out⟩
        case round =>
          obtain ⟨j, k, HKJ, hj, hjN, rfl, rfl, hB6⟩ := hrel
          have hKr := blk_later HK.out hB6
          have c0 := blk_cell hKr
          have l0 := blk_lt hKr
          have HB6 := hidden hB6
          clear hKr hB6
          have k2 : (0 : Int) ≤ (k : Int) := by omega
          by_cases hjJ : j < P ∧ k < s.size
          · have k3 : (k : Int) < (q : Int) := by have := HQ.out; have := HKJ.out; omega
            have k4 : (k : Int) < (s.size : Int) := by omega
            have k5 : k < s.size := hjJ.2
            have hbyte := HSS.out k k5 (by have := HKJ.out; omega)
            have hone := HR.out j hjJ.1
            by_cases hjr : j = R
            · have e1 : e k = true := (congrArg e HKJ.out).trans (hone.2 hjr)
              rw [e1] at hbyte
              have k6 : ((((s[k]'k5).toNat : Nat) : Int) == 49) = true := by rw [hbyte]; rfl
              have HC : Hid (cntR R (j + 1) = 1) := by show _ = _; unfold cntR; rw [if_pos (by omega)]
              have hc0 : cntR R j = 0 := by unfold cntR; rw [if_neg (by omega)]
              rw [hc0]
              clear hone hjr e1 hbyte hc0
              go_wp2
              go_roundw
              case rel => exact ⟨j + 1, k + 1, (by have := HKJ.out; show _ = _; omega), by omega, by omega, by rw [HC.out], by go_num, HB6.out⟩
              case measure => simp [intV]; omega
            · have e1 : e k = false := (congrArg e HKJ.out).trans (by cases h : e (i + j) <;> first | rfl | exact absurd (hone.1 h) hjr)
              rw [e1] at hbyte
              have k6 : ((((s[k]'k5).toNat : Nat) : Int) == 49) = false := by rw [hbyte]; rfl
              have HC : Hid (cntR R (j + 1) = cntR R j) := by
                show _ = _
                unfold cntR
                by_cases h : R < j
                · rw [if_pos h, if_pos (by omega)]
                · rw [if_neg h, if_neg (by omega)]
              generalize hcc : cntR R j = cc at *
              clear hone hjr e1 hbyte hcc
              go_wp2
              go_roundw
              case rel => exact ⟨j + 1, k + 1, (by have := HKJ.out; show _ = _; omega), by omega, by omega, by rw [HC.out], by go_num, HB6.out⟩
              case measure => simp [intV]; omega
          · have HBq := hidden (bthen HB0.out HB6.out)
            by_cases hjP : j = P
            · have hc : cntR R j = 1 := by unfold cntR; rw [if_pos (by omega)]
              rw [hc]
              have k3 : ¬ (k : Int) < (q : Int) := by have := HQ.out; have := HKJ.out; omega
              have k7 : decide ((q : Int) ≤ (s.size : Int)) = true := decide_eq_true (by have := HQ.out; have := HKJ.out; omega)
              have HX : Hid (F ≤ i + 1 ∧ (i + 1 ≤ F ∨ i + 1 ≤ s.size)) := ⟨by omega, .inr (by omega)⟩
              clear hjP
              clear hc hjJ
              go_wp2
              go_roundw
              case rel => exact ⟨i + 1, by omega, by omega, by go_num, HB6.out⟩
              case measure => simp [intV]; omega
            · exfalso
              have := HQ.out
              have := HKJ.out
              omega
      · have j3 : ¬ (q : Int) < (s.size : Int) := by omega
        have j3' : decide ((q : Int) < (s.size : Int)) = false := decide_eq_false j3
        clear hq
        go_wp2
        refine wp_region_quiet_below (by kernel_rfl) (by kernel_rfl) ?_
        repeat (go_big_quiet_step (fail))
        refine wpQuiet_nil ?_
        intro w5 hw5
        have hB5 := bthen hB (rg_below hw5)
        have HB5 := hidden hB5
        clear hw5 c0 l0 HB9 hB hB5
        go_wp2
        go_loopw [8, 9] (fun a b wr => ∃ j k : Nat, Hid (k = i + j) ∧ j ≤ P ∧ k ≤ s.size ∧ a = .int .i64 (cntR R j) ∧ b = .int .i64 (k : Int) ∧ Below w0.heap.size w0 wr) (fun _ b _ => s.size - (intV b).toNat)
        case atStart => exact ⟨0, i, rfl, Nat.zero_le _, by omega, rfl, rfl, HB5.out⟩
        case round =>
          obtain ⟨j, k, HKJ, hj, hjN, rfl, rfl, hB6⟩ := hrel
          have hKr := blk_later HK.out hB6
          have c0 := blk_cell hKr
          have l0 := blk_lt hKr
          have HB6 := hidden hB6
          clear hKr hB6
          have k2 : (0 : Int) ≤ (k : Int) := by omega
          by_cases hjJ : j < P ∧ k < s.size
          · have k3 : (k : Int) < (q : Int) := by have := HQ.out; have := HKJ.out; omega
            have k4 : (k : Int) < (s.size : Int) := by omega
            have k5 : k < s.size := hjJ.2
            have hbyte := HSS.out k k5 (by have := HKJ.out; omega)
            have hone := HR.out j hjJ.1
            by_cases hjr : j = R
            · have e1 : e k = true := (congrArg e HKJ.out).trans (hone.2 hjr)
              rw [e1] at hbyte
              have k6 : ((((s[k]'k5).toNat : Nat) : Int) == 49) = true := by rw [hbyte]; rfl
              have HC : Hid (cntR R (j + 1) = 1) := by show _ = _; unfold cntR; rw [if_pos (by omega)]
              have hc0 : cntR R j = 0 := by unfold cntR; rw [if_neg (by omega)]
              rw [hc0]
              clear hone hjr e1 hbyte hc0
              go_wp2
              go_roundw
              case rel => exact ⟨j + 1, k + 1, (by have := HKJ.out; show _ = _; omega), by omega, by omega, by rw [HC.out], by go_num, HB6.out⟩
              case measure => simp [intV]; omega
            · have e1 : e k = false := (congrArg e HKJ.out).trans (by cases h : e (i + j) <;> first | rfl | exact absurd (hone.1 h) hjr)
              rw [e1] at hbyte
              have k6 : ((((s[k]'k5).toNat : Nat) : Int) == 49) = false := by rw [hbyte]; rfl
              have HC : Hid (cntR R (j + 1) = cntR R j) := by
                show _ = _
                unfold cntR
                by_cases h : R < j
                · rw [if_pos h, if_pos (by omega)]
                · rw [if_neg h, if_neg (by omega)]
              generalize hcc : cntR R j = cc at *
              clear hone hjr e1 hbyte hcc
              go_wp2
              go_roundw
              case rel => exact ⟨j + 1, k + 1, (by have := HKJ.out; show _ = _; omega), by omega, by omega, by rw [HC.out], by go_num, HB6.out⟩
              case measure => simp [intV]; omega
          · have HBq := hidden (bthen HB0.out HB6.out)
            by_cases hjP : j = P
            · have hc : cntR R j = 1 := by unfold cntR; rw [if_pos (by omega)]
              rw [hc]
              have k3 : ¬ (k : Int) < (q : Int) := by have := HQ.out; have := HKJ.out; omega
              have k7 : decide ((q : Int) ≤ (s.size : Int)) = true := decide_eq_true (by have := HQ.out; have := HKJ.out; omega)
              have HX : Hid (F ≤ i + 1 ∧ (i + 1 ≤ F ∨ i + 1 ≤ s.size)) := ⟨by omega, .inr (by omega)⟩
              clear hjP
              clear hc hjJ
              go_wp2
              go_roundw
              case rel => exact ⟨i + 1, by omega, by omega, by go_num, HB6.out⟩
              case measure => simp [intV]; omega
            · have k3 : (k : Int) < (q : Int) := by have := HQ.out; have := HKJ.out; omega
              have k4 : ¬ (k : Int) < (s.size : Int) := by omega
              have k4' : decide ((k : Int) < (s.size : Int)) = false := decide_eq_false k4
              have k7 : decide ((q : Int) ≤ (s.size : Int)) = false := decide_eq_false (by have := HQ.out; have := HKJ.out; omega)
              have k8 : ¬ (1 : Int) < cntR R j := by unfold cntR; split <;> omega
              have k8' : decide ((1 : Int) < cntR R j) = false := decide_eq_false k8
              generalize cntR R j = cc at *
              clear hjJ
              go_wp2
              go_roundw
              case rel => exact ⟨i + 1, by omega, by omega, by go_num, HB6.out⟩
              case measure => simp [intV]; omega
    · have i1 : ¬ (i : Int) < (s.size : Int) := by omega
      clear hKr
      go_wp2
      go_ret
      exact ⟨rfl, HB9.out⟩
end Go.Proofs.Ytohgmliafidalaa

/- Plain words: bounds of a product; a plain configuration's period is no less than one; no conditions. -/
namespace Go.Proofs.Ytohgmliafidalaa
open Go.ChangeShapes Go.WideShapes Go.ChangeAt Go.RowKit
set_option linter.unusedVariables false

theorem mul_bd {a b A B : Int} (h1 : 0 ≤ a) (h2 : a ≤ A) (h3 : 0 ≤ b) (h4 : b ≤ B) : 0 ≤ a * b ∧ a * b ≤ A * B :=
  ⟨Int.mul_nonneg h1 h3, Int.mul_le_mul h2 h4 h3 (Int.le_trans h1 h2)⟩
theorem plainE_p {n f d p r dr o sl md fr : Int} {zs : List Int} (h : plainE n f d p r dr o sl md fr zs = 0) : 1 ≤ p := by
  obtain ⟨_, _, f1, f2, _, d1, d2, p1, _⟩ := plainE_ok h
  have := Int.mul_nonneg (show 0 ≤ f + 1 by omega) (show 0 ≤ d by omega)
  omega
end Go.Proofs.Ytohgmliafidalaa

/- The document's Settle returns what it says, and makes at most new memory; conditions: the table lies where it says, and its length fits int. -/
namespace Go.Proofs.Ytohgmliafidalaa
open Go.ChangeShapes Go.WideShapes Go.ChangeAt Go.RowKit
set_option linter.unusedVariables false
attribute [local go_sem] cell_rg

set_option maxHeartbeats 1000000 in
theorem RSettle_any (n f d p r dr o sl md fr : Int) (ad : Option Addr) (cap : Nat) (zs : List Int) (w : World) (hl : zs.length ≤ 9223372036854775807) (hT : Tab w ad zs) :
    Calls Try.prog 11 #[.agg #[.int .i64 n, .int .i64 f, .int .i64 d, .int .i64 p, .int .i64 r, .int .i64 dr, .int .i64 o, .int .i64 sl, .int .i64 md, .int .i64 fr, .slice ad zs.length cap]] w fun e w' => e = .returned (.int .i64 (gate (plainE n f d p r dr o sl md fr zs) (1 + 4 * (3 * (f + 1) * d) + 2 * p))) ∧ Below w.heap.size w w' := by
  have HT := hidden (hT.below (ballc w (.cells #[.int .i64 n, .int .i64 f, .int .i64 d, .int .i64 p, .int .i64 r, .int .i64 dr, .int .i64 o, .int .i64 sl, .int .i64 md, .int .i64 fr, .slice ad zs.length cap] 24)))
  have HP := hidden (refPlain_any n f d p r dr o sl md fr ad cap zs (w.alloc (.cells #[.int .i64 n, .int .i64 f, .int .i64 d, .int .i64 p, .int .i64 r, .int .i64 dr, .int .i64 o, .int .i64 sl, .int .i64 md, .int .i64 fr, .slice ad zs.length cap] 24)) hl HT.out)
  have HI := hidden (fun v h => refLength_any n f d p r dr o sl md fr ad cap zs v hl h)
  clear hT
  by_cases hE : plainE n f d p r dr o sl md fr zs = 0
  · obtain ⟨_, _, f1, f2, _, d1, d2, _, p2, _⟩ := plainE_ok hE
    have p1 := plainE_p hE
    rw [hE] at HP HI ⊢
    rw [gate_ok]
    simp only [gate_ok] at HI
    clear hE
    obtain ⟨b0, b1⟩ := mul_bd (show 0 ≤ 3 * (f + 1) by omega) (show 3 * (f + 1) ≤ 15 by omega) (show 0 ≤ d by omega) d2
    generalize 3 * (f + 1) * d = L at *
    have t1 : IntKind.i64.wrap (4 * L) = 4 * L := IntWalk.i64_in _ (by omega)
    have t2 : IntKind.i64.wrap (1 + 4 * L) = 1 + 4 * L := IntWalk.i64_in _ (by omega)
    have t3 : IntKind.i64.wrap (2 * p) = 2 * p := IntWalk.i64_in _ (by omega)
    have t4 : IntKind.i64.wrap (1 + 4 * L + 2 * p) = 1 + 4 * L + 2 * p := IntWalk.i64_in _ (by omega)
    go_enter Try.func11, Try.ntmps11
    go_wp2_with fail
    refine HP.out.mono ?_
    rintro e w2 ⟨rfl, hb2⟩
    have HB2 := hidden hb2
    clear hb2
    obtain ⟨hbox, hsz⟩ := box_at HB2.out
    have HT2 := hidden (HT.out.below HB2.out)
    go_wp2
    refine wp_region_quiet_below (by kernel_rfl) (by kernel_rfl) ?_
    repeat (go_big_quiet_step ((go_at_call 43; exact Calls.regrown_of (HI.out _ (HT2.out.below (below_regrown _ _ _))))))
    refine wpQuiet_nil ?_
    intro w3 hw3
    have HB3 := hidden (bthen HB2.out (rg_below hw3))
    clear hw3
    go_wp2
    go_ret
    exact ⟨rfl, bthen (ballc w _) HB3.out⟩
  · have HG := hidden (gate_no hE (1 + 4 * (3 * (f + 1) * d) + 2 * p))
    clear HI
    generalize plainE n f d p r dr o sl md fr zs = E at *
    go_enter Try.func11, Try.ntmps11
    go_wp2_with fail
    refine HP.out.mono ?_
    rintro e w2 ⟨rfl, hb2⟩
    have HB2 := hidden hb2
    clear hb2
    obtain ⟨hbox, hsz⟩ := box_at HB2.out
    go_wp2
    go_ret
    exact ⟨ret_i HG.out.symm, bthen (ballc w _) HB2.out⟩
end Go.Proofs.Ytohgmliafidalaa
