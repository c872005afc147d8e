/- The calls of package packet that tell digits (digit, digitAt, areDigits, Vote, Bit), and those of the document's answer, return what plain functions give, and make at most new memory; conditions: lengths of texts, and numbers, fit int. -/
import Derived.Test.YtcnmbpgjgjncdaaPacM
namespace Go.Proofs.Ytcnmbpgjgjncdaa
open Go.ChangeShapes Go.WideShapes Go.ChangeAt Go.RowKit
set_option linter.unusedVariables false

theorem digit_any (r : Int) (w : World) :
    Calls Try.prog 65 #[.int .i32 r] w fun e w' => e = .returned (.int .i64 (digV r)) ∧ w = w' := by
  by_cases h1 : r < 48
  · have d1 : decide (r < 48) = true := by simp [h1]
    rw [digV_no (by omega)]
    go_enter Try.func65, Try.ntmps65
    go_wp2
    go_ret
    exact ⟨rfl, rfl⟩
  · have d1 : decide (r < 48) = false := by simp; omega
    by_cases h2 : 50 < r
    · have d2 : decide (50 < r) = true := by simp [h2]
      rw [digV_no (by omega)]
      go_enter Try.func65, Try.ntmps65
      go_wp2
      go_ret
      exact ⟨rfl, rfl⟩
    · have d2 : decide (50 < r) = false := by simp; omega
      have hr : r = 48 ∨ r = 49 ∨ r = 50 := by omega
      rcases hr with rfl | rfl | rfl
      all_goals
        go_enter Try.func65, Try.ntmps65
        go_wp2
        go_ret
        exact ⟨rfl, rfl⟩
theorem areDigits_any (s : ByteArray) (n : Int) (w : World) (hs : s.size ≤ 9223372036854775807) :
    Calls Try.prog 46 #[.string s, .int .i64 n] w fun e w' => e = .returned (.bool (areD s n)) ∧ Below w.heap.size w w' := by
  by_cases h1 : (s.size : Int) = n
  · subst h1
    go_enter Try.func46, Try.ntmps46
    go_wp2
    go_loopw [] (fun w' => ∃ (pos : Nat), w' = w.iter s pos ∧ pos ≤ s.size ∧ ∀ i, (h : i < s.size) → i < pos → 48 ≤ (s[i]'h).toNat ∧ (s[i]'h).toNat ≤ 50) (fun w' => s.size - w'.iterPos w.heap.size)
    case atStart => exact ⟨0, rfl, Nat.zero_le _, fun i _ h => absurd h (Nat.not_lt_zero _)⟩
    case round =>
      obtain ⟨pos, rfl, hle, hd⟩ := hrel
      have HD := hidden hd
      clear hd
      by_cases hp : pos < s.size
      · have hnx : ∀ ty, (Instr.next (.pointer (some ⟨w.heap.size, 0, none⟩)) true ty).run Try.prog (w.iter s pos) = _ := fun ty => run_next_any w s pos ty hp
        by_cases hg : 48 ≤ (s[pos]'hp).toNat ∧ (s[pos]'hp).toNat ≤ 50
        · rw [decode_ascii s pos hp (by omega)] at hnx
          have hv : ¬ digV ((s[pos]'hp).toNat) = -1 := by rw [digV_yes (by omega)]; omega
          have HG := hidden hg
          clear hg
          go_wp2_with (go_at_call 65; refine (digit_any _ _).mono ?_; rintro e w1 ⟨rfl, rfl⟩)
          go_roundw
          case rel =>
            refine ⟨pos + 1, rfl, by omega, fun i hi hlt => ?_⟩
            by_cases e : i = pos
            · subst e; exact HG.out
            · exact HD.out i hi (by omega)
          case measure => simp; omega
        · have hv : digV ((Utf8.decode s pos).1 : Int) = -1 := by
            refine digV_no fun h => hg ?_
            by_cases ha : (s[pos]'hp).toNat < 128
            · rw [decode_ascii s pos hp ha] at h
              dsimp only at h
              omega
            · have := (decode_high s pos hp (by omega)).1
              omega
          have HA := hidden (areD_bad (n := (s.size : Int)) hp hg)
          clear hg
          go_wp2_with (go_at_call 65; refine (digit_any _ _).mono ?_; rintro e w1 ⟨rfl, rfl⟩)
          go_ret
          exact ⟨ret_b HA.out.symm, (Below.refl _ w).alloc (Nat.le_refl _) _⟩
      · have hnx : ∀ ty, (Instr.next (.pointer (some ⟨w.heap.size, 0, none⟩)) true ty).run Try.prog (w.iter s pos) = _ := fun ty => run_next_end w s pos ty hp
        go_wp2
        go_ret
        exact ⟨ret_b (areD_good rfl (fun i hi => HD.out i hi (by omega))).symm, (Below.refl _ w).alloc (Nat.le_refl _) _⟩
  · have HA := hidden (areD_size h1)
    go_enter Try.func46, Try.ntmps46
    go_wp2
    go_ret
    exact ⟨ret_b HA.out.symm, Below.refl _ _⟩
end Go.Proofs.Ytcnmbpgjgjncdaa
