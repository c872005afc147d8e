/- The calls Strip and Carry of package packet, and those of the document's answer, return what plain functions give, and make at most new memory; no conditions. -/
import Derived.Test.YtjkliandhcegeabPacM
import Derived.Test.YtjkliandhcegeabSix
namespace Go.Proofs.Ytjkliandhcegeab
open Go.ChangeShapes Go.WideShapes Go.ChangeAt Go.RowKit
set_option linter.unusedVariables false

theorem Strip_any (vo : ByteArray) (ex : Int) (ve : ByteArray) (ps cy : Int) (te : ByteArray) (w : World) :
    Calls Try.prog 26 #[.agg #[.string vo, .int .i64 ex, .string ve, .int .i64 ps, .int .i64 cy, .string te]] w fun e w' => e = .returned (.agg #[.string vo, .int .i64 ex, .string ve, .int .i64 0, .int .i64 0, .string ⟨#[]⟩]) ∧ Below w.heap.size w w' := by
  go_enter Try.func26, Try.ntmps26
  go_wp2
  exact bodyPost_ret (v := .agg #[.string vo, .int .i64 ex, .string ve, .int .i64 0, .int .i64 0, .string ⟨#[]⟩]) (by simp [results, Try.results26, go_sem]) rfl ⟨rfl, ((Below.refl _ w).alloc (Nat.le_refl _) _).alloc (by simp) _⟩
theorem Carry_any (vo : ByteArray) (ex : Int) (ve : ByteArray) (ps cy : Int) (te : ByteArray) (s c : Int) (t : ByteArray) (w : World) :
    Calls Try.prog 16 #[.agg #[.string vo, .int .i64 ex, .string ve, .int .i64 ps, .int .i64 cy, .string te], .int .i64 s, .int .i64 c, .string t] w fun e w' => e = .returned (.agg #[.string vo, .int .i64 ex, .string ve, .int .i64 (carS s), .int .i64 (carC s c), .string (carT s t)]) ∧ Below w.heap.size w w' := by
  by_cases h : s < 0 ∨ 32 ≤ s
  · have e1 : carS s = 0 := if_pos h
    have e2 : carC s c = 0 := if_pos h
    have e3 : carT s t = ⟨#[]⟩ := if_pos h
    rw [e1, e2, e3]
    clear e1 e2 e3
    have hq : s < 0 ∨ (¬ s < 0 ∧ 32 ≤ s) := by omega
    clear h
    rcases hq with h | ⟨h, h2⟩
    · have d1 : decide (s < 0) = true := by simp [h]
      go_enter Try.func16, Try.ntmps16
      go_wp2_with fail
      refine (Strip_any _ _ _ _ _ _ _).mono ?_
      rintro e w1 ⟨rfl, hb⟩
      have hblk := blk_second _ _ _ _ hb
      have hop := fun i => blk_frozen hblk i
      obtain ⟨hbox, hbox2, hsz0, hsz⟩ := box_two hb
      have HB := hidden (bthen (bthen (ballc w _) (ballc _ _)) hb)
      have HK := hidden hblk
      clear hb hblk
      go_wp2
      obtain ⟨r0, r1, r2, r3, r4, r5⟩ := read6T HK.out (.string vo) (.int .i64 ex) (.string ve) (.int .i64 0) (.int .i64 0) (.string ⟨#[]⟩)
      refine bodyPost_ret (v := .agg #[.string vo, .int .i64 ex, .string ve, .int .i64 0, .int .i64 0, .string ⟨#[]⟩]) (by simp [results, Try.results16, go_sem, r0, r1, r2, r3, r4, r5]) rfl ⟨rfl, ?_⟩
      exact below6T HB.out (by omega) _ _ _ _ _ _
    · have d1 : decide (s < 0) = false := by simp [h]
      have d2 : decide (32 ≤ s) = true := by simp [h2]
      go_enter Try.func16, Try.ntmps16
      go_wp2_with fail
      refine (Strip_any _ _ _ _ _ _ _).mono ?_
      rintro e w1 ⟨rfl, hb⟩
      have hblk := blk_second _ _ _ _ hb
      have hop := fun i => blk_frozen hblk i
      obtain ⟨hbox, hbox2, hsz0, hsz⟩ := box_two hb
      have HB := hidden (bthen (bthen (ballc w _) (ballc _ _)) hb)
      have HK := hidden hblk
      clear hb hblk
      go_wp2
      obtain ⟨r0, r1, r2, r3, r4, r5⟩ := read6T HK.out (.string vo) (.int .i64 ex) (.string ve) (.int .i64 0) (.int .i64 0) (.string ⟨#[]⟩)
      refine bodyPost_ret (v := .agg #[.string vo, .int .i64 ex, .string ve, .int .i64 0, .int .i64 0, .string ⟨#[]⟩]) (by simp [results, Try.results16, go_sem, r0, r1, r2, r3, r4, r5]) rfl ⟨rfl, ?_⟩
      exact below6T HB.out (by omega) _ _ _ _ _ _
  · have e1 : carS s = s + 1 := if_neg h
    have e2 : carC s c = c := if_neg h
    have e3 : carT s t = t := if_neg h
    rw [e1, e2, e3]
    clear e1 e2 e3
    have h1 : ¬ s < 0 := by omega
    have h2 : ¬ 32 ≤ s := by omega
    have d1 : decide (s < 0) = false := by simp [h1]
    have d2 : decide (32 ≤ s) = false := by simp; omega
    have t1 : IntKind.i64.wrap (s + 1) = s + 1 := IntWalk.i64_in _ (by omega)
    have t2 : wrap64 (s + 1) = s + 1 := IntWalk.wrap64_in _ (by omega)
    clear h
    go_enter Try.func16, Try.ntmps16
    go_wp2
    exact bodyPost_ret (v := .agg #[.string vo, .int .i64 ex, .string ve, .int .i64 (s + 1), .int .i64 c, .string t]) (by simp [results, Try.results16, go_sem]) rfl ⟨rfl, ((Below.refl _ w).alloc (Nat.le_refl _) _).alloc (by simp) _⟩
end Go.Proofs.Ytjkliandhcegeab
