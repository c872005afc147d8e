/- The call Blank of package packet, and that of the document's answer, return what plain functions give, and make at most new memory; conditions: the table lies where it says, and its length fits int. -/
import Derived.Test.YtjkliandhcegeabPacM
import Derived.Test.YtjkliandhcegeabSix
import Derived.Test.YtjkliandhcegeabRep
namespace Go.Proofs.Ytjkliandhcegeab
open Go.ChangeShapes Go.WideShapes Go.ChangeAt Go.RowKit Go.Shelf
set_option linter.unusedVariables false

theorem extraRep : Builder.Extra Try.prog Try.laysRepeat_ren where
  sizeBuilder := by kernel_rfl
  liesBuilder := by kernel_rfl
  t5 := Try.laysRepeat.t5
  a5 := Try.laysRepeat.a5
  z5 := Try.laysRepeat.z5
  v5 := Try.laysRepeat.v5
  infoByte := by kernel_rfl
  cellsByte := by kernel_rfl
  sizeByte := by kernel_rfl
  neB5 := by decide
theorem renRep : Try.laysRepeat_ren.f 105 = 25 := by kernel_rfl
theorem Repeat0_any (n : Nat) (w : World) (hn : n ≤ 1000) :
    Calls Try.prog 25 #[.string ⟨#[48]⟩, .int .i64 n] w fun e w' => e = .returned (.string (zerosB n)) ∧ Below w.heap.size w w' := by
  have h := Any.strings_Repeat Try.laysRepeat extraRep ⟨#[48]⟩ n w (by omega) (by show 1 * n ≤ _; omega)
  rw [renRep] at h
  refine h.mono fun e w' ⟨he, hw⟩ => ⟨?_, hw⟩
  rw [he]
  have e : Lib.repeatL (ByteArray.mk #[48]).data.toList n = List.replicate n (48 : UInt8) := by
    have := Lib.repeatL_replicate 48 1 n
    rw [Nat.mul_one] at this
    exact this
  rw [e]
  rfl
theorem zerosB_succ (k : Nat) : zerosB k ++ ⟨#[48]⟩ = zerosB (k + 1) := by
  unfold zerosB
  rw [List.replicate_succ']
  apply ByteArray.ext
  apply Array.ext'
  simp
theorem gate_nat (E f : Int) (h : E = 0 → 0 ≤ f ∧ f ≤ 4) : ∃ c : Nat, gate E (3 * (f + 1)) = (c : Int) ∧ c ≤ 15 := by
  by_cases e : E = 0
  · subst e
    have := h rfl
    rw [gate_ok]
    exact ⟨(3 * (f + 1)).toNat, by omega, by omega⟩
  · rw [gate_no e]
    exact ⟨0, rfl, by omega⟩
set_option maxHeartbeats 1000000 in
theorem Blank_any (n f d p r dr o sl md fr : Int) (ad : Option Addr) (cap : Nat) (zs : List Int) (w : World) (hl : zs.length ≤ 9223372036854775807) (hT : Tab w ad zs) :
    Calls Try.prog 14 #[.agg #[.int .i64 n, .int .i64 f, .int .i64 d, .int .i64 p, .int .i64 r, .int .i64 dr, .int .i64 o, .int .i64 sl, .int .i64 md, .int .i64 fr, .slice ad zs.length cap]] w fun e w' => e = .returned (.agg #[.string (zerosB (gate (plainE n f d p r dr o sl md fr zs) (3 * (f + 1))).toNat), .int .i64 0, .string ⟨#[]⟩, .int .i64 0, .int .i64 0, .string ⟨#[]⟩]) ∧ Below w.heap.size w w' := by
  obtain ⟨c, hc, hc15⟩ := gate_nat (plainE n f d p r dr o sl md fr zs) f (fun h => by obtain ⟨_, _, h1, h2, _⟩ := plainE_ok h; exact ⟨h1, h2⟩)
  have CR := fun V h => Rounds_any n f d p r dr o sl md fr ad cap zs V hl h
  rw [hc] at CR ⊢
  rw [Int.toNat_natCast]
  have HT := hidden (hT.below (bthen (ballc w (.cells #[.int .i64 n, .int .i64 f, .int .i64 d, .int .i64 p, .int .i64 r, .int .i64 dr, .int .i64 o, .int .i64 sl, .int .i64 md, .int .i64 fr, .slice ad zs.length cap] 24)) (ballc _ (.cells #[.string ⟨#[]⟩, .int .i64 0, .string ⟨#[]⟩, .int .i64 0, .int .i64 0, .string ⟨#[]⟩] 26))))
  clear hT hc
  go_enter Try.func14, Try.ntmps14
  go_wp2_with fail
  refine (CR _ HT.out).mono ?_
  rintro e w1 ⟨rfl, hb⟩
  have HB1 := hidden hb
  clear hb CR
  go_wp2_with fail
  refine (Repeat0_any c _ (by omega)).mono ?_
  rintro e w2 ⟨rfl, hb⟩
  have hb2 := bthen HB1.out hb
  have hblk := blk_second _ _ _ _ hb2
  have hop := fun i => blk_frozen hblk i
  obtain ⟨hbox, hbox2, hsz0, hsz⟩ := box_two hb2
  have HB := hidden (bthen (bthen (ballc w _) (ballc _ _)) hb2)
  have HK := hidden hblk
  clear hb hb2 hblk HB1
  go_wp2
  obtain ⟨r0, r1, r2, r3, r4, r5⟩ := read6T HK.out (.string (zerosB c)) (.int .i64 0) (.string ⟨#[]⟩) (.int .i64 0) (.int .i64 0) (.string ⟨#[]⟩)
  refine bodyPost_ret (v := .agg #[.string (zerosB c), .int .i64 0, .string ⟨#[]⟩, .int .i64 0, .int .i64 0, .string ⟨#[]⟩]) (by simp [results, Try.results14, go_sem, r0, r1, r2, r3, r4, r5]) rfl ⟨rfl, ?_⟩
  exact below6T HB.out (by omega) _ _ _ _ _ _
end Go.Proofs.Ytjkliandhcegeab
