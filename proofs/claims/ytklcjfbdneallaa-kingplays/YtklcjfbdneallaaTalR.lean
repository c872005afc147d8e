/- The document's calls Quorum, Some, Count, Enough, Most and Least return what plain functions give, and make at most new memory; conditions: the table and the votes lie where they say, and lengths fit int. -/
import Derived.Test.YtklcjfbdneallaaTalM
import Derived.Test.YtklcjfbdneallaaConfRef
import Derived.Test.YtklcjfbdneallaaConfF
namespace Go.Proofs.Ytklcjfbdneallaa
open Go.ChangeShapes Go.WideShapes Go.ChangeAt Go.RowKit
set_option linter.unusedVariables false

theorem cntF_snoc (v : Int) (zs : List Int) (z : Int) : cntF v (zs ++ [z]) = cntF v zs + if (0 ≤ v ∧ v < 3) ∧ z = v then 1 else 0 := by
  unfold cntF
  by_cases h : 0 ≤ v ∧ v < 3
  · rw [if_pos h, if_pos h, cntL_snoc]
    by_cases h2 : z = v
    · rw [if_pos h2, if_pos ⟨h, h2⟩]; rfl
    · rw [if_neg h2, if_neg fun k => h2 k.2]; rfl
  · rw [if_neg h, if_neg h, if_neg fun k => h k.1]; rfl
set_option maxHeartbeats 2000000 in
theorem rTCount_any (v : Int) (ad : Option Addr) (len cap : Nat) (zs : List Int) (hlz : zs.length ≤ 9223372036854775807) (w : World) (hZ : kInt.Lies w.heap.size w (.slice ad len cap) zs) :
    Calls Try.prog 15 #[.int .i64 v, .slice ad len cap] w fun e w' => e = .returned (.int .i64 (cntF v zs)) ∧ w = w' := by
  obtain rfl := hZ.len
  go_enter Try.func15, Try.ntmps15
  go_wp2
  go_loop [5, 6] (fun c i => ∃ k : Nat, k ≤ zs.length ∧ c = .int .i64 (cntF v (zs.take k)) ∧ i = .int .i64 k) (fun _ i => zs.length - (intV i).toNat)
  case atStart => exact ⟨0, Nat.zero_le _, by rw [List.take_zero]; unfold cntF; split <;> rfl, rfl⟩
  case round =>
    obtain ⟨k, hk, rfl, rfl⟩ := hrel
    by_cases hlt : k < zs.length
    · obtain ⟨b, off, rfl, hbl, e0⟩ := kInt_at hZ k hlt
      have hsn := cntF_snoc v (zs.take k) zs[k]
      rw [← take_snocV zs hlt] at hsn
      have hle := cntF_bd v (zs.take k)
      rw [List.length_take, Nat.min_eq_left hk] at hle
      generalize zs[k] = z at e0 hsn
      generalize cntF v (zs.take k) = c at *
      have HS := hidden hsn
      have i1 : (0 : Int) ≤ (k : Int) := by omega
      have i2 : (k : Int) < (zs.length : Int) := by omega
      clear hsn hZ
      by_cases h1 : 0 ≤ v
      · have j1 : decide (0 ≤ v) = true := by simp [h1]
        by_cases h2 : v ≤ 2
        · have j2 : decide (v ≤ 2) = true := by simp [h2]
          by_cases h3 : z = v
          · subst h3
            have j3 : (z == z) = true := by simp
            have HS2 : Hid (_ = c + 1) := hidden (HS.out.trans (by rw [if_pos ⟨⟨h1, by omega⟩, rfl⟩]))
            go_wp2
            go_round
            case rel => exact ⟨k + 1, by omega, by rw [HS2.out], by go_num⟩
            case measure => simp [intV]; omega
          · have j3 : (z == v) = false := by simp [h3]
            have HS2 : Hid (_ = c) := hidden (HS.out.trans (by rw [if_neg fun k => h3 k.2]; omega))
            go_wp2
            go_round
            case rel => exact ⟨k + 1, by omega, by rw [HS2.out], by go_num⟩
            case measure => simp [intV]; omega
        · have j2 : decide (v ≤ 2) = false := by simp; omega
          have HS2 : Hid (_ = c) := hidden (HS.out.trans (by rw [if_neg fun k => h2 (by omega)]; omega))
          go_wp2
          go_round
          case rel => exact ⟨k + 1, by omega, by rw [HS2.out], by go_num⟩
          case measure => simp [intV]; omega
      · have j1 : decide (0 ≤ v) = false := by simp; omega
        have HS2 : Hid (_ = c) := hidden (HS.out.trans (by rw [if_neg fun k => h1 (by omega)]; omega))
        go_wp2
        go_round
        case rel => exact ⟨k + 1, by omega, by rw [HS2.out], by go_num⟩
        case measure => simp [intV]; omega
    · obtain rfl : k = zs.length := by omega
      rw [List.take_length]
      go_wp2
      go_ret
      exact ⟨rfl, rfl⟩

theorem rQuorum_any (n f d p r dr o sl md fr : Int) (ad : Option Addr) (cap : Nat) (zs : List Int) (w : World) (hl : zs.length ≤ 9223372036854775807) (hT : Tab w ad zs) :
    Calls Try.prog 11 #[.agg #[.int .i64 n, .int .i64 f, .int .i64 d, .int .i64 p, .int .i64 r, .int .i64 dr, .int .i64 o, .int .i64 sl, .int .i64 md, .int .i64 fr, .slice ad zs.length cap]] w fun e w' => e = .returned (.int .i64 (gate (plainE n f d p r dr o sl md fr zs) (n - f))) ∧ Below w.heap.size w w' := by
  have HQ := hidden (refPlain_any n f d p r dr o sl md fr ad cap zs (w.alloc (.cells #[.int .i64 n, .int .i64 f, .int .i64 d, .int .i64 p, .int .i64 r, .int .i64 dr, .int .i64 o, .int .i64 sl, .int .i64 md, .int .i64 fr, .slice ad zs.length cap] 24)) hl (hT.below (ballc _ _)))
  have HK := hidden (fun h => plainE_ok (n := n) (f := f) (d := d) (p := p) (r := r) (dr := dr) (o := o) (sl := sl) (md := md) (fr := fr) (zs := zs) h)
  clear hT
  generalize plainE n f d p r dr o sl md fr zs = E at HQ HK
  by_cases hE : E = 0
  · subst hE
    obtain ⟨n1, n2, f1, f2, _⟩ := HK.out rfl
    go_enter Try.func11, Try.ntmps11
    go_wp2_with fail
    refine HQ.out.mono ?_
    rintro e w2 ⟨rfl, hb2⟩
    have HB2 : Hid (Below w.heap.size w w2) := bthen (ballc w _) hb2
    obtain ⟨hbox, hsz⟩ := box_at hb2
    clear hb2 HQ HK
    go_wp2
    go_ret
    exact ⟨ret_i (gate_ok _).symm, HB2.out⟩
  · go_enter Try.func11, Try.ntmps11
    go_wp2_with fail
    refine HQ.out.mono ?_
    rintro e w2 ⟨rfl, hb2⟩
    have HB2 : Hid (Below w.heap.size w w2) := bthen (ballc w _) hb2
    clear hb2 HQ HK
    go_wp2
    go_ret
    exact ⟨ret_i (gate_no hE _).symm, HB2.out⟩
theorem rSome_any (n f d p r dr o sl md fr : Int) (ad : Option Addr) (cap : Nat) (zs : List Int) (w : World) (hl : zs.length ≤ 9223372036854775807) (hT : Tab w ad zs) :
    Calls Try.prog 13 #[.agg #[.int .i64 n, .int .i64 f, .int .i64 d, .int .i64 p, .int .i64 r, .int .i64 dr, .int .i64 o, .int .i64 sl, .int .i64 md, .int .i64 fr, .slice ad zs.length cap]] w fun e w' => e = .returned (.int .i64 (gate (plainE n f d p r dr o sl md fr zs) (f + 1))) ∧ Below w.heap.size w w' := by
  have HQ := hidden (refPlain_any n f d p r dr o sl md fr ad cap zs (w.alloc (.cells #[.int .i64 n, .int .i64 f, .int .i64 d, .int .i64 p, .int .i64 r, .int .i64 dr, .int .i64 o, .int .i64 sl, .int .i64 md, .int .i64 fr, .slice ad zs.length cap] 24)) hl (hT.below (ballc _ _)))
  have HK := hidden (fun h => plainE_ok (n := n) (f := f) (d := d) (p := p) (r := r) (dr := dr) (o := o) (sl := sl) (md := md) (fr := fr) (zs := zs) h)
  clear hT
  generalize plainE n f d p r dr o sl md fr zs = E at HQ HK
  by_cases hE : E = 0
  · subst hE
    obtain ⟨n1, n2, f1, f2, _⟩ := HK.out rfl
    go_enter Try.func13, Try.ntmps13
    go_wp2_with fail
    refine HQ.out.mono ?_
    rintro e w2 ⟨rfl, hb2⟩
    have HB2 : Hid (Below w.heap.size w w2) := bthen (ballc w _) hb2
    obtain ⟨hbox, hsz⟩ := box_at hb2
    clear hb2 HQ HK
    go_wp2
    go_ret
    exact ⟨ret_i (gate_ok _).symm, HB2.out⟩
  · go_enter Try.func13, Try.ntmps13
    go_wp2_with fail
    refine HQ.out.mono ?_
    rintro e w2 ⟨rfl, hb2⟩
    have HB2 : Hid (Below w.heap.size w w2) := bthen (ballc w _) hb2
    clear hb2 HQ HK
    go_wp2
    go_ret
    exact ⟨ret_i (gate_no hE _).symm, HB2.out⟩
end Go.Proofs.Ytklcjfbdneallaa
