/- The law CrcTells returns true at every text, place and byte, and makes at most new memory; conditions: the place fits int, the text has at most 2 to the 47th bytes. -/
import Derived.Test.YtjecogbhkmljkabTellsM
import Derived.Test.YtjecogbhkmljkabCrcK
import Derived.Deep.DrawnRows
namespace Go.Proofs.Ytjecogbhkmljkab.LawCrcTells
open Go.ChangeShapes Go.WideShapes Go.ChangeAt Go.RowKit
set_option linter.unusedVariables false
attribute [local go_sem ↓] Go.wp_at_zero Go.wp_at_succ

set_option maxHeartbeats 800000 in
theorem walk_early (s : ByteArray) (p : Int) (c : Int) (w0 : s.size ≤ 140737488351232) (w : World) (h : 200 < s.size ∨ p < 0 ∨ (s.size : Int) + 4 ≤ p) :
    Calls Try.prog 3 #[.string s, .int .i64 p, .int .u8 c] w fun e w' => e = .returned (.bool true) ∧ Below w.heap.size w w' := by
  have ht := tailOf_size s
  have hx : (s ++ tailOf s).size = s.size + 4 := by rw [ByteArray.size_append, ht]
  generalize hX : s ++ tailOf s = X at hx
  by_cases h1 : 200 < s.size
  · go_enter Try.func3, Try.ntmps3
    go_wp2_with fail
    refine (seal_any s _ (by omega)).mono ?_
    rintro e w1 ⟨rfl, hb1⟩
    go_wp2_with fail
    refine (cknown_any _).mono ?_
    rintro e w2 ⟨rfl, hb2⟩
    go_wp2
    go_ret
    exact ⟨rfl, hb1.trans (hb2.mono hb1.size)⟩
  · by_cases h2 : p < 0
    · go_enter Try.func3, Try.ntmps3
      go_wp2_with fail
      refine (seal_any s _ (by omega)).mono ?_
      rintro e w1 ⟨rfl, hb1⟩
      go_wp2_with fail
      refine (cknown_any _).mono ?_
      rintro e w2 ⟨rfl, hb2⟩
      go_wp2
      go_ret
      exact ⟨rfl, hb1.trans (hb2.mono hb1.size)⟩
    · have h3 : (s.size : Int) + 4 ≤ p := by omega
      have h4 : 0 ≤ p := by omega
      go_enter Try.func3, Try.ntmps3
      go_wp2_with fail
      refine (seal_any s _ (by omega)).mono ?_
      rintro e w1 ⟨rfl, hb1⟩
      rw [hX]
      go_wp2_with fail
      refine (cknown_any _).mono ?_
      rintro e w2 ⟨rfl, hb2⟩
      go_wp2
      go_ret
      exact ⟨rfl, hb1.trans (hb2.mono hb1.size)⟩
set_option maxHeartbeats 1000000 in
theorem walk_late (s : ByteArray) (p : Nat) (c : UInt8) (w : World) (h1 : s.size ≤ 200) (h2 : p < s.size + 4) :
    Calls Try.prog 3 #[.string s, .int .i64 p, .int .u8 c.toNat] w fun e w' => e = .returned (.bool true) ∧ Below w.heap.size w w' := by
  have ht := tailOf_size s
  obtain ⟨X, hX, hx, hO⟩ : ∃ X, s ++ tailOf s = X ∧ X.size = s.size + 4 ∧ ∀ hp : p < X.size, ¬ X[p] = c → openF (changed X p c) = (⟨#[]⟩, 4) :=
    ⟨_, rfl, by rw [ByteArray.size_append, ht], fun hp => openF_tells s p c hp⟩
  have hp : p < X.size := by omega
  have hO := hO hp
  have hd0 : decide ((p : Int) < 0) = false := by simp
  have hd1 : decide (((X.size : Nat) : Int) ≤ p) = false := by simp; omega
  have hd2 : decide (((s.size + 4 : Nat) : Int) ≤ p) = false := by simp; omega
  have hd3 : decide ((s.size : Int) + 4 ≤ p) = false := by simp; omega
  have hseal := fun w => seal_any s w (by omega)
  rw [hX] at hseal
  by_cases hE : X[p] = c
  · have hq : ((X[p].toNat : Int) == (c.toNat : Int)) = true := by rw [hE]; simp
    clear hO
    go_enter Try.func3, Try.ntmps3
    go_wp2_with fail
    refine (hseal _).mono ?_
    rintro e w1 ⟨rfl, hb1⟩
    go_wp2_with fail
    refine (cknown_any _).mono ?_
    rintro e w2 ⟨rfl, hb2⟩
    go_wp2
    go_ret
    exact ⟨rfl, hb1.trans (hb2.mono hb1.size)⟩
  · have hq : ((X[p].toNat : Int) == (c.toNat : Int)) = false := by
      apply Bool.eq_false_iff.2
      intro h
      have h' : (X[p].toNat : Int) = (c.toNat : Int) := by simpa using h
      exact hE (UInt8.toNat.inj (by omega))
    have hnum : numStr [(c.toNat : Int)] = ⟨#[c]⟩ := by simp [numStr]
    have hO := hO hE
    unfold changed at hO
    rw [← hnum, hx] at hO
    have hn1 : (numStr [(c.toNat : Int)]).size = 1 := by rw [hnum]; rfl
    have hopen := fun w => open_any (X.extract 0 p ++ numStr [(c.toNat : Int)] ++ X.extract (p + 1) (s.size + 4)) w (by rw [ByteArray.size_append, ByteArray.size_append, ByteArray.size_extract, ByteArray.size_extract, hn1]; omega)
    rw [hO] at hopen
    have hcv := fun (W : World) => conv_cells W.drew [(c.toNat : Int)] 1
    have hcv2 : ∀ W : World, (convert 27 9 (.slice (some ⟨W.heap.size, 0, none⟩) 1 1)).run Try.prog (W.alloc (.cells #[.int .u8 (c.toNat : Int)] 5)).drew = .ok (.string (numStr [(c.toNat : Int)])) (W.alloc (.cells #[.int .u8 (c.toNat : Int)] 5)).drew := fun W => hcv W
    clear hcv hO hnum hE
    have hi1 : (p : Int) + 1 ≤ (s.size : Int) + 4 := by omega
    have hi0 : (0 : Int) ≤ (p : Int) + 1 := by omega
    have hi2 : (p : Int) ≤ (s.size : Int) + 4 := by omega
    have hi3 : (0 : Int) ≤ (p : Int) := by omega
    have hw : IntKind.i64.wrap ((p : Int) + 1) = (p : Int) + 1 := by rw [IntKind.wrap_i64]; omega
    have hs2 : ∀ W : World, (Instr.slice 9 (.string X) (some (.int .i64 ((p : Int) + 1))) none none).run Try.prog W = .ok (.string (X.extract (p + 1) (s.size + 4))) W := fun W => by
      rw [run_slice_string_from_if W 9 X .i64 _ Try.underlying9, if_pos ⟨hi0, by omega⟩, hx]; rfl
    have hs1 : ∀ W : World, (Instr.slice 9 (.string X) none (some (.int .i64 (p : Int))) none).run Try.prog W = .ok (.string (X.extract 0 p)) W := fun W => by
      rw [run_slice_string_to_if W 9 X .i64 _ Try.underlying9, if_pos ⟨hi3, by omega⟩]; rfl
    go_enter Try.func3, Try.ntmps3
    go_wp2_with fail
    refine (hseal _).mono ?_
    rintro e w1 ⟨rfl, hb1⟩
    go_wp2_with fail
    go_region_with (go_at_call 7; refine (hopen _).mono ?_; rintro e w2 ⟨rfl, hb2⟩)
    go_wp2_with fail
    refine (cknown_any _).mono ?_
    rintro e w3 ⟨rfl, hb3⟩
    go_wp2
    go_ret
    have g1 : Below w.heap.size w (w1.alloc (Obj.cells #[Value.int .u8 (c.toNat : Int)] 5)).drew := (hb1.alloc hb1.size _).drew
    have g2 := g1.trans (hb2.mono g1.size)
    exact ⟨rfl, g2.trans (hb3.mono g2.size)⟩
theorem walk (s : ByteArray) (p : Int) (c : Int) (w0 : s.size ≤ 140737488351232) (w1 : (Lit.int .i64 p).wf = true) (w2 : (Lit.int .u8 c).wf = true) (w : World) :
    Calls Try.prog 3 #[.string s, .int .i64 p, .int .u8 c] w fun e w' => e = .returned (.bool true) ∧ Below w.heap.size w w' := by
  by_cases h : 200 < s.size ∨ p < 0 ∨ (s.size : Int) + 4 ≤ p
  · exact walk_early s p c w0 w h
  · obtain ⟨q, rfl⟩ := Int.eq_ofNat_of_zero_le (show 0 ≤ p by omega)
    have hc := bounds_u8 w2
    have e : c = ((UInt8.ofNat c.toNat).toNat : Int) := by simp; omega
    rw [e]
    exact walk_late s q (UInt8.ofNat c.toNat) w (by omega) (by omega)
end Go.Proofs.Ytjecogbhkmljkab.LawCrcTells
