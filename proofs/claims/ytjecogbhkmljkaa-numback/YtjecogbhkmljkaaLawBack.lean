/- The law NumBack returns true at every input, and makes at most new memory; conditions: the integers fit int, each text has at most 2 to the 47th bytes. -/
import Derived.Test.YtjecogbhkmljkaaKnown
import Derived.Test.YtjecogbhkmljkaaBack
namespace Go.Proofs.Ytjecogbhkmljkaa.LawNumBack
open Go.ChangeShapes Go.WideShapes Go.ChangeAt Go.RowKit
set_option linter.unusedVariables false

theorem put_as (n b : Int) (S : ByteArray) (E : Int) (h : putF n b = (S, E)) (w : World) (hn : (Lit.int .i64 n).wf = true) :
    Calls Try.prog 9 #[.int .i64 n, .int .i64 b] w fun e w' => e = .returned (.tuple #[.string S, .int .i64 E]) ∧ Below w.heap.size w w' := by
  have := put_any n b w hn
  rw [h] at this
  exact this
theorem get_as (s : ByteArray) (a b x E : Int) (h : getF s a b = (x, E)) (w : World) (hs : s.size ≤ maxLen) :
    Calls Try.prog 11 #[.string s, .int .i64 a, .int .i64 b] w fun e w' => e = .returned (.tuple #[.int .i64 x, .int .i64 E]) ∧ w = w' := by
  have := get_any s a b w hs
  rw [h] at this
  exact this
/-- What the first half of the law meets. -/
theorem half1 (n b : Int) (s t : ByteArray) : ((putF n b).2 ≠ 0 ∧ (putF n b).1 = ⟨#[]⟩) ∨ ∃ S : ByteArray, putF n b = (S, 0) ∧ (S.size : Int) = b ∧ S.size ≤ 4 ∧ getF (s ++ S ++ t) s.size b = (n, 0) := by
  rcases putF_cases n b with h | ⟨h1, h2, h3, h4, hp⟩
  · exact Or.inl h
  · right
    refine ⟨_, hp, ?_, ?_, getF_putF n b s t h1 h2 h3 h4⟩
    · rw [numStr_size, leInts_length]; omega
    · rw [numStr_size, leInts_length]; omega
/-- What the second half of the law meets. -/
theorem half2 (b : Int) (s : ByteArray) : (getF s 0 b).2 ≠ 0 ∨ ∃ (x : Int) (T : ByteArray), getF s 0 b = (x, 0) ∧ putF x b = (T, 0) ∧ T.size ≤ s.size ∧ s.extract 0 T.size = T ∧ (Lit.int .i64 x).wf = true := by
  rcases getF_cases s 0 b with ⟨hg, hg1⟩ | ⟨g0, g1, g2, g3, hg⟩
  · exact Or.inl hg
  · right
    have hl := bytesAt_length s b.toNat 0
    have hb := leNum_bd _ (bytesAt_bd s b.toNat 0)
    rw [hl] at hb
    have h4 : (256 : Int) ^ b.toNat ≤ 4294967296 := by
      obtain h | h | h | h : b = 1 ∨ b = 2 ∨ b = 3 ∨ b = 4 := by omega
      all_goals subst h; decide
    have hsz : (s.extract 0 b.toNat).size = b.toNat := by simp [ByteArray.size_extract]; omega
    refine ⟨_, _, hg, putF_getF s b g1 g2 (by omega), by omega, by rw [hsz], ?_⟩
    exact WalkArith.wf_i64 ⟨by simp; omega, by simp; omega⟩

set_option maxHeartbeats 800000 in
theorem walk (n b : Int) (s t : ByteArray) (w0 : (Lit.int .i64 n).wf = true) (w1 : (Lit.int .i64 b).wf = true) (w2 : s.size ≤ 140737488351232) (w3 : t.size ≤ 140737488351232) (w : World) :
    Calls Try.prog 5 #[.int .i64 n, .int .i64 b, .string s, .string t] w fun e w' => e = .returned (.bool true) ∧ Below w.heap.size w w' := by
  have hs : s.size ≤ maxLen := by unfold maxLen; omega
  rcases half1 n b s t with ⟨hp, hp1⟩ | ⟨S, hS, hSb, hS4, hSg⟩
  · have hp' : ((putF n b).2 == 0) = false := by simpa using hp
    clear hp hp1
    rcases half2 b s with hg | ⟨x, T, hx, hT, hTs, hTe, wx⟩
    · have hg' : ((getF s 0 b).2 == 0) = false := by simpa using hg
      clear hg
      go_enter Try.func5, Try.ntmps5
      go_wp2_with fail
      refine (put_any n b _ w0).mono ?_
      rintro e wa ⟨rfl, hb1⟩
      go_wp2_with fail
      refine (get_any s 0 b _ hs).mono ?_
      rintro e wb ⟨rfl, rfl⟩
      go_wp2_with (go_at_call 13; refine (known_any _).mono ?_; rintro e w' ⟨rfl, hb⟩)
      go_ret
      exact ⟨rfl, hb1.trans (hb.mono hb1.size)⟩
    · go_enter Try.func5, Try.ntmps5
      go_wp2_with fail
      refine (put_any n b _ w0).mono ?_
      rintro e wa ⟨rfl, hb1⟩
      go_wp2_with fail
      refine (get_as s 0 b x 0 hx _ hs).mono ?_
      rintro e wb ⟨rfl, rfl⟩
      go_wp2_with fail
      refine (put_as x b T 0 hT _ wx).mono ?_
      rintro e wc ⟨rfl, hb2⟩
      go_wp2_with (go_at_call 13; refine (known_any _).mono ?_; rintro e w' ⟨rfl, hb⟩)
      go_ret
      have g := hb1.trans (hb2.mono hb1.size)
      exact ⟨rfl, g.trans (hb.mono g.size)⟩
  · rcases half2 b s with hg | ⟨x, T, hx, hT, hTs, hTe, wx⟩
    · have hg' : ((getF s 0 b).2 == 0) = false := by simpa using hg
      clear hg
      go_enter Try.func5, Try.ntmps5
      go_wp2_with fail
      refine (put_as n b S 0 hS _ w0).mono ?_
      rintro e wa ⟨rfl, hb1⟩
      go_wp2_with fail
      refine (get_as (s ++ S ++ t) s.size b n 0 hSg _ (by simp [ByteArray.size_append, maxLen]; omega)).mono ?_
      rintro e wb ⟨rfl, rfl⟩
      go_wp2_with fail
      refine (get_any s 0 b _ hs).mono ?_
      rintro e wb ⟨rfl, rfl⟩
      go_wp2_with (go_at_call 13; refine (known_any _).mono ?_; rintro e w' ⟨rfl, hb⟩)
      go_ret
      exact ⟨rfl, hb1.trans (hb.mono hb1.size)⟩
    · go_enter Try.func5, Try.ntmps5
      go_wp2_with fail
      refine (put_as n b S 0 hS _ w0).mono ?_
      rintro e wa ⟨rfl, hb1⟩
      go_wp2_with fail
      refine (get_as (s ++ S ++ t) s.size b n 0 hSg _ (by simp [ByteArray.size_append, maxLen]; omega)).mono ?_
      rintro e wb ⟨rfl, rfl⟩
      go_wp2_with fail
      refine (get_as s 0 b x 0 hx _ hs).mono ?_
      rintro e wb ⟨rfl, rfl⟩
      go_wp2_with fail
      refine (put_as x b T 0 hT _ wx).mono ?_
      rintro e wc ⟨rfl, hb2⟩
      go_wp2_with (go_at_call 13; refine (known_any _).mono ?_; rintro e w' ⟨rfl, hb⟩)
      go_ret
      have g := hb1.trans (hb2.mono hb1.size)
      exact ⟨rfl, g.trans (hb.mono g.size)⟩
end Go.Proofs.Ytjecogbhkmljkaa.LawNumBack
