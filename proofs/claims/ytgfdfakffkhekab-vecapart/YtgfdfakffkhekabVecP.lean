/- The call part of the statements on package vec returns the text of one place, and what a step makes of one place is what it makes of the whole there; conditions: lengths fit int. -/
import Derived.Test.YtgfdfakffkhekabVecC
namespace Go.Proofs.Ytgfdfakffkhekab
open Go.ChangeShapes Go.WideShapes Go.ChangeAt Go.RowKit
set_option linter.unusedVariables false

/-- The text of one place. -/
def prt (s : ByteArray) (k : Nat) : ByteArray := if k < s.size then s.extract k (k + 1) else noB
theorem prt_in {s : ByteArray} {k : Nat} (h : k < s.size) : prt s k = s.extract k (k + 1) := if_pos h
theorem prt_size (s : ByteArray) (k : Nat) : (prt s k).size ≤ 1 := by
  unfold prt
  split
  · rw [ByteArray.size_extract]; omega
  · decide
theorem prt_one {s : ByteArray} {k : Nat} (h : k < s.size) : (prt s k).size = 1 := by
  rw [prt_in h, ByteArray.size_extract]; omega
theorem vdg_prt (last : Int) (s : ByteArray) (k : Nat) : vdg last (prt s k) 0 = vdg last s k := by
  by_cases h : k < s.size
  · have h1 : 0 < (prt s k).size := by rw [prt_one h]; decide
    have e : (prt s k)[0]'h1 = s[k]'h := by
      have h2 : (prt s k)[0]'h1 = (s.extract k (k + 1))[0]'(by rw [← prt_in h]; exact h1) := by congr 1; exact prt_in h
      rw [h2, ByteArray.getElem_extract]
      rfl
    unfold vdg
    rw [dif_pos h1, dif_pos h, e]
  · have e : prt s k = noB := if_neg h
    rw [e, vdg_out (by decide), vdg_out (by omega)]
theorem dgB_extract {n : Nat} {g : Nat → Nat} {k : Nat} (hk : k < n) : (dgB n g).extract k (k + 1) = dgB 1 (fun _ => g k) := by
  apply ByteArray.ext
  rw [ByteArray.data_extract]
  simp only [dgB, ba, dgL]
  rw [List.extract_toArray]
  congr 1
  rw [List.extract_eq_take_drop]
  apply List.ext_getElem
  · simp; omega
  · intro i h1 h2
    simp at h1 h2 ⊢
    have : i = 0 := by omega
    subst this
    simp
theorem stp_prt (E n f x : Int) (codes told : ByteArray) (votes : List ByteArray) (k : Nat) : stpG E n f x (prt codes k) (prt told k) (votes.map fun t => prt t k) 0 = stpG E n f x codes told votes k := by
  unfold stpG stpB bitK
  rw [vdg_prt, vdg_prt, List.map_map]
  congr 4
  funext t
  exact vdg_prt 2 t k
theorem step_prt (E n f x : Int) (codes told : ByteArray) (votes : List ByteArray) {k : Nat} (hk : k < codes.size) : dgB (prt codes k).size (stpG E n f x (prt codes k) (prt told k) (votes.map fun t => prt t k)) = (dgB codes.size (stpG E n f x codes told votes)).extract k (k + 1) := by
  rw [dgB_extract hk, prt_one hk]
  refine dgB_congr fun j hj => ?_
  have : j = 0 := by omega
  subst this
  exact stp_prt E n f x codes told votes k
theorem part_any (s : ByteArray) (k : Nat) (w : World) (hs : s.size ≤ 9223372036854775807) :
    Calls Try.prog 7 #[.string s, .int .i64 (k : Int)] w fun e w' => e = .returned (.string (prt s k)) ∧ w = w' := by
  have d0 : decide ((k : Int) < 0) = false := decide_eq_false (by omega)
  by_cases h : k < s.size
  · have d1 : decide (s.size ≤ k) = false := decide_eq_false (by omega)
    have d2 : decide ((s.size : Int) ≤ (k : Int)) = false := decide_eq_false (by omega)
    have HP := hidden (prt_in h)
    have s1 : ∀ W : World, (Instr.slice 9 (.string s) (some (.int .i64 (k : Int))) (some (.int .i64 ((k : Int) + 1))) none).run Try.prog W = .ok (.string (s.extract k (k + 1))) W := fun W => by
      rw [run_slice_string_if W 9 s .i64 .i64 (k : Int) ((k : Int) + 1) Try.underlying9, if_pos ⟨by omega, by omega⟩, if_pos ⟨by omega, by omega⟩]; rfl
    go_enter Try.func7, Try.ntmps7
    go_wp2
    go_ret
    exact ⟨by rw [HP.out]; rfl, rfl⟩
  · have d1 : decide (s.size ≤ k) = true := decide_eq_true (by omega)
    have d2 : decide ((s.size : Int) ≤ (k : Int)) = true := decide_eq_true (by omega)
    have HP : Hid (prt s k = noB) := if_neg h
    go_enter Try.func7, Try.ntmps7
    go_wp2
    go_ret
    exact ⟨by rw [HP.out]; rfl, rfl⟩
end Go.Proofs.Ytgfdfakffkhekab
