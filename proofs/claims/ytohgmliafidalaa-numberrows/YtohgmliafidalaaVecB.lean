/- The calls Of, Values and Bits of package vec, and what Of, Values and Bits hand on, return what plain functions give, and make at most new memory; conditions: lengths of texts are at most a hundred thousand. -/
import Derived.Test.YtohgmliafidalaaVecA
import Derived.Test.YtohgmliafidalaaVecN
namespace Go.Proofs.Ytohgmliafidalaa
open Go.ChangeShapes Go.WideShapes Go.ChangeAt Go.RowKit Go.Shelf
set_option linter.unusedVariables false
attribute [local go_sem] cell_rg

theorem Of1_any (s : ByteArray) (hs : s.size ≤ 9223372036854775807) (k g : Nat) (w : World) (hk : w.heap[g]? = some (.cells #[.string s] 9 (0, 0))) :
    Calls Try.prog 94 #[.int .i64 (k : Int), .pointer (some ⟨g, 0, none⟩)] w fun e w' => e = .returned (.int .i64 (ofG s k : Int)) ∧ Below w.heap.size w w' := by
  have C1 := hidden (fun V => vdigitAt_any s k 1 V hs (by decide))
  have C2 := hidden (fun V => Start_any (vdg 1 s k) V)
  have C3 := hidden (fun V => Code_any (startF (vdg 1 s k)) V)
  rw [ofG_int]
  generalize codeF (startF (vdg 1 s k)) = q at *
  generalize startF (vdg 1 s k) = b at *
  generalize vdg 1 s k = d at *
  obtain ⟨bv, bs⟩ := b
  unfold agB at C2
  dsimp only at C2 C3
  have c0 : w.cell? ⟨g, 0, none⟩ = some (.string s) := blk_cell hk 0
  have l0 := blk_lt hk
  clear hk hs
  go_enter Try.func94, Try.ntmps94
  go_wp2_with fail
  refine (C1.out _).mono ?_
  rintro e w2 ⟨rfl, rfl⟩
  go_wp2_with fail
  refine (C2.out _).mono ?_
  rintro e w3 ⟨rfl, hb⟩
  have HB3 := hidden hb
  clear hb
  go_wp2_with fail
  refine (C3.out _).mono ?_
  rintro e w4 ⟨rfl, hb⟩
  have HB4 := hidden (bthen HB3.out hb)
  clear hb
  go_wp2
  go_ret
  exact ⟨rfl, HB4.out⟩
theorem Values1_any (s : ByteArray) (hs : s.size ≤ 9223372036854775807) (k g : Nat) (w : World) (hk : w.heap[g]? = some (.cells #[.string s] 9 (0, 0))) :
    Calls Try.prog 86 #[.int .i64 (k : Int), .pointer (some ⟨g, 0, none⟩)] w fun e w' => e = .returned (.int .i64 (valG s k : Int)) ∧ Below w.heap.size w w' := by
  have C1 := hidden (fun V => bitAt_any s k V hs)
  rw [valG_int]
  generalize bitK s k = b at *
  obtain ⟨bv, bs⟩ := b
  unfold agB at C1
  dsimp only at C1 ⊢
  have hfd : ∀ V : World, (Instr.field 108 (.agg #[.int .i64 bv, .bool bs]) 0).run Try.prog V = .ok (.int .i64 bv) V := fun _ => by kernel_rfl
  have c0 : w.cell? ⟨g, 0, none⟩ = some (.string s) := blk_cell hk 0
  have l0 := blk_lt hk
  clear hk hs
  go_enter Try.func86, Try.ntmps86
  go_wp2_with fail
  refine (C1.out _).mono ?_
  rintro e w2 ⟨rfl, hb⟩
  have HB3 := hidden hb
  clear hb
  go_wp2
  go_ret
  exact ⟨rfl, HB3.out⟩
/-- The digit of a number at a place. -/
def bitG (n : Nat) (k : Nat) : Nat := n / 2 ^ k % 2
theorem bitG_bd (n k : Nat) : bitG n k ≤ 1 := by unfold bitG; omega
theorem and_one (x : Nat) (h : x < 9223372036854775808) : bits .and .i64 (x : Int) 1 = ((x % 2 : Nat) : Int) := by
  unfold bits
  have e : (BitVec.ofInt IntKind.i64.bits (x : Int) &&& BitVec.ofInt IntKind.i64.bits 1).toNat = x % 2 := by
    rw [BitVec.toNat_and]
    simp only [BitVec.toNat_ofInt]
    have h1 : ((x : Int) % ((2 ^ IntKind.i64.bits : Nat) : Int)).toNat = x := by
      have : ((2 ^ IntKind.i64.bits : Nat) : Int) = 18446744073709551616 := by decide
      rw [this]; omega
    have h2 : ((1 : Int) % ((2 ^ IntKind.i64.bits : Nat) : Int)).toNat = 1 := by decide
    rw [h1, h2, Nat.and_one_is_mod]
  show IntKind.i64.wrap _ = _
  simp only
  rw [e]
  exact IntWalk.i64_in _ (by omega)
theorem Bits1_any (n : Nat) (hn : n < 9223372036854775808) (k : Nat) (hk64 : k < 64) (g : Nat) (w : World) (hk : w.heap[g]? = some (.cells #[.int .i64 (n : Int)] 3 (0, 0))) :
    Calls Try.prog 98 #[.int .i64 (k : Int), .pointer (some ⟨g, 0, none⟩)] w fun e w' => e = .returned (.int .i64 (bitG n k : Int)) ∧ Below w.heap.size w w' := by
  have c0 : w.cell? ⟨g, 0, none⟩ = some (.int .i64 (n : Int)) := blk_cell hk 0
  have l0 := blk_lt hk
  have hd : (n : Int) / 2 ^ k = ((n / 2 ^ k : Nat) : Int) := by
    rw [show (2 : Int) ^ k = ((2 ^ k : Nat) : Int) by simp]; exact (Int.natCast_ediv _ _).symm
  have hle : n / 2 ^ k ≤ n := Nat.div_le_self _ _
  have HA : Hid (bits .and .i64 ((n : Int) / 2 ^ k) 1 = (bitG n k : Int)) := by
    show _ = _
    rw [hd, and_one (n / 2 ^ k) (by omega)]; rfl
  clear hk hd hle
  go_enter Try.func98, Try.ntmps98
  go_wp2
  go_ret
  exact ⟨ret_i (by first | exact HA.out | (simp only [Int.toNat_natCast]; exact HA.out)), Below.refl _ _⟩

theorem Of_any (s : ByteArray) (hs : s.size ≤ 100000) (w : World) :
    Calls Try.prog 53 #[.string s] w fun e w' => e = .returned (.string (dgB s.size (ofG s))) ∧ Below w.heap.size w w' := by
  have hmf : ∀ (fn : Fn) (first cap : Array Value) (w : World), (Instr.makeFunc fn first cap).run Try.prog w = .ok (.func fn first cap) w := fun _ _ _ _ => rfl
  have CD := hidden (digits_any s.size hs 94 #[.pointer (some ⟨w.heap.size, 0, none⟩)] (enters_of Try.func94 (by kernel_rfl) rfl) (ofG s) (fun k _ => by have := ofG_bd s k; omega) (w.alloc (.cells #[.string s] 9))
    (fun k hk V hV => Of1_any s (by omega) k w.heap.size V (blk_later (blk_nw w #[.string s] 9) hV)))
  go_enter Try.func53, Try.ntmps53
  go_wp2_with fail
  refine CD.out.mono ?_
  rintro e w2 ⟨rfl, hb⟩
  have HB := hidden (bthen (ballc w _) hb)
  clear hb
  go_wp2
  go_ret
  exact ⟨rfl, HB.out⟩
theorem Values_any (s : ByteArray) (hs : s.size ≤ 100000) (w : World) :
    Calls Try.prog 49 #[.string s] w fun e w' => e = .returned (.string (dgB s.size (valG s))) ∧ Below w.heap.size w w' := by
  have hmf : ∀ (fn : Fn) (first cap : Array Value) (w : World), (Instr.makeFunc fn first cap).run Try.prog w = .ok (.func fn first cap) w := fun _ _ _ _ => rfl
  have CD := hidden (digits_any s.size hs 86 #[.pointer (some ⟨w.heap.size, 0, none⟩)] (enters_of Try.func86 (by kernel_rfl) rfl) (valG s) (fun k _ => by have := valG_bd s k; omega) (w.alloc (.cells #[.string s] 9))
    (fun k hk V hV => Values1_any s (by omega) k w.heap.size V (blk_later (blk_nw w #[.string s] 9) hV)))
  go_enter Try.func49, Try.ntmps49
  go_wp2_with fail
  refine CD.out.mono ?_
  rintro e w2 ⟨rfl, hb⟩
  have HB := hidden (bthen (ballc w _) hb)
  clear hb
  go_wp2
  go_ret
  exact ⟨rfl, HB.out⟩
/-- How many digits a width asks for. -/
def widF (width : Int) : Nat := (min (max width 0) 64).toNat
theorem widF_bd (width : Int) : widF width ≤ 64 := by unfold widF; omega
theorem Bits_any2 (n width : Int) (hn : n ≤ 9223372036854775807) (w : World) :
    Calls Try.prog 54 #[.int .i64 n, .int .i64 width] w fun e w' => e = .returned (.string (dgB (widF width) (bitG n.toNat))) ∧ Below w.heap.size w w' := by
  have hmf : ∀ (fn : Fn) (first cap : Array Value) (w : World), (Instr.makeFunc fn first cap).run Try.prog w = .ok (.func fn first cap) w := fun _ _ _ _ => rfl
  have HCD := hidden (fun (V : World) (m M : Nat) (hm : (m : Int) ≤ 9223372036854775807) (hM : M ≤ 64) (hV : V.heap[w.heap.size]? = some (.cells #[.int .i64 (m : Int)] 3 (0, 0))) => digits_any M (by omega) 98 #[.pointer (some ⟨w.heap.size, 0, none⟩)] (enters_of Try.func98 (by kernel_rfl) rfl) (bitG m) (fun k _ => by have := bitG_bd m k; omega) V
    (fun k hk W hW => Bits1_any m (by omega) k (by omega) w.heap.size W (blk_later hV hW)))
  by_cases h0 : n < 0
  · obtain hm : n.toNat = 0 := by omega
    rw [hm]
    by_cases w0 : width < 0
    · have e : widF width = 0 := by unfold widF; omega
      rw [e]
      clear hm e
      go_enter Try.func54, Try.ntmps54
      go_wp2_with fail
      refine (HCD.out _ 0 0 (by omega) (by omega) (blk_nw w #[.int .i64 0] 3)).mono ?_
      rintro e w2 ⟨rfl, hb⟩
      have HB := hidden (bthen (ballc w _) hb)
      clear hb
      go_wp2
      go_ret
      exact ⟨rfl, HB.out⟩
    · by_cases w1 : 64 < width
      · have e : widF width = 64 := by unfold widF; omega
        rw [e]
        clear hm e
        go_enter Try.func54, Try.ntmps54
        go_wp2_with fail
        refine (HCD.out _ 0 64 (by omega) (by omega) (blk_nw w #[.int .i64 0] 3)).mono ?_
        rintro e w2 ⟨rfl, hb⟩
        have HB := hidden (bthen (ballc w _) hb)
        clear hb
        go_wp2
        go_ret
        exact ⟨rfl, HB.out⟩
      · obtain ⟨M, rfl⟩ : ∃ M : Nat, width = (M : Int) := ⟨width.toNat, by omega⟩
        have e : widF (M : Int) = M := by unfold widF; omega
        rw [e]
        clear hm e
        have hM : M ≤ 64 := by omega
        go_enter Try.func54, Try.ntmps54
        go_wp2_with fail
        refine (HCD.out _ 0 M (by omega) hM (blk_nw w #[.int .i64 0] 3)).mono ?_
        rintro e w2 ⟨rfl, hb⟩
        have HB := hidden (bthen (ballc w _) hb)
        clear hb
        go_wp2
        go_ret
        exact ⟨rfl, HB.out⟩
  · obtain ⟨m, rfl⟩ : ∃ m : Nat, n = (m : Int) := ⟨n.toNat, by omega⟩
    rw [Int.toNat_natCast]
    by_cases w0 : width < 0
    · have e : widF width = 0 := by unfold widF; omega
      rw [e]
      clear e
      go_enter Try.func54, Try.ntmps54
      go_wp2_with fail
      refine (HCD.out _ m 0 (by omega) (by omega) (blk_nw w #[.int .i64 (m : Int)] 3)).mono ?_
      rintro e w2 ⟨rfl, hb⟩
      have HB := hidden (bthen (ballc w _) hb)
      clear hb
      go_wp2
      go_ret
      exact ⟨rfl, HB.out⟩
    · by_cases w1 : 64 < width
      · have e : widF width = 64 := by unfold widF; omega
        rw [e]
        clear e
        go_enter Try.func54, Try.ntmps54
        go_wp2_with fail
        refine (HCD.out _ m 64 (by omega) (by omega) (blk_nw w #[.int .i64 (m : Int)] 3)).mono ?_
        rintro e w2 ⟨rfl, hb⟩
        have HB := hidden (bthen (ballc w _) hb)
        clear hb
        go_wp2
        go_ret
        exact ⟨rfl, HB.out⟩
      · obtain ⟨M, rfl⟩ : ∃ M : Nat, width = (M : Int) := ⟨width.toNat, by omega⟩
        have e : widF (M : Int) = M := by unfold widF; omega
        rw [e]
        clear e
        have hM : M ≤ 64 := by omega
        go_enter Try.func54, Try.ntmps54
        go_wp2_with fail
        refine (HCD.out _ m M (by omega) hM (blk_nw w #[.int .i64 (m : Int)] 3)).mono ?_
        rintro e w2 ⟨rfl, hb⟩
        have HB := hidden (bthen (ballc w _) hb)
        clear hb
        go_wp2
        go_ret
        exact ⟨rfl, HB.out⟩
end Go.Proofs.Ytohgmliafidalaa
