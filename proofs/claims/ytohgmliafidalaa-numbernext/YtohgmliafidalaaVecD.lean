/- The call digitAt of package vec returns a plain function's number, and makes no memory; conditions: the text's length fits int. -/
import Derived.Test.YtohgmliafidalaaVecM
namespace Go.Proofs.Ytohgmliafidalaa
open Go.ChangeShapes Go.WideShapes Go.ChangeAt Go.RowKit
set_option linter.unusedVariables false
attribute [local go_sem] cell_rg

theorem vdigitAt_any (s : ByteArray) (k : Nat) (last : Int) (w : World) (hs : s.size ≤ 9223372036854775807) (hl : 0 ≤ last ∧ last ≤ 9) :
    Calls Try.prog 97 #[.string s, .int .i64 (k : Int), .int .i64 last] w fun e w' => e = .returned (.int .i64 (vdg last s k)) ∧ w = w' := by
  by_cases h2 : s.size ≤ k
  · have d3 : (s.size : Int) ≤ (k : Int) := by omega
    have e := hidden (vdg_out (last := last) h2)
    go_enter Try.func97, Try.ntmps97
    go_wp2
    go_ret
    exact ⟨ret_i e.out.symm, rfl⟩
  · have hj : k < s.size := by omega
    have d3 : ¬ (s.size : Int) ≤ (k : Int) := by omega
    have hb := (s[k]'hj).toNat_lt
    by_cases h3 : ((s[k]'hj).toNat : Int) < 48
    · have e := hidden (vdg_no (last := last) hj (.inl h3))
      have d4 : decide (((s[k]'hj).toNat : Int) - 48 < 0) = true := decide_eq_true (by omega)
      go_enter Try.func97, Try.ntmps97
      go_wp2
      go_ret
      exact ⟨ret_i e.out.symm, rfl⟩
    · have d4 : decide (((s[k]'hj).toNat : Int) - 48 < 0) = false := decide_eq_false (by omega)
      by_cases h4 : last + 48 < ((s[k]'hj).toNat : Int)
      · have e := hidden (vdg_no (last := last) hj (.inr h4))
        have d5 : decide (last < ((s[k]'hj).toNat : Int) - 48) = true := decide_eq_true (by omega)
        go_enter Try.func97, Try.ntmps97
        go_wp2
        go_ret
        exact ⟨ret_i e.out.symm, rfl⟩
      · have e := hidden (vdg_in (last := last) hj h3 h4)
        have d5 : decide (last < ((s[k]'hj).toNat : Int) - 48) = false := decide_eq_false (by omega)
        go_enter Try.func97, Try.ntmps97
        go_wp2
        go_ret
        exact ⟨ret_i e.out.symm, rfl⟩
end Go.Proofs.Ytohgmliafidalaa
