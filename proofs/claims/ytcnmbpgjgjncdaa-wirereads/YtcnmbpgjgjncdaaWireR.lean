/- The document's call unpack for wires returns what a plain function gives, and makes at most new memory; conditions: at most 1000 bytes and digits. -/
import Derived.Test.YtcnmbpgjgjncdaaWireP
import Derived.Test.YtcnmbpgjgjncdaaWireD
namespace Go.Proofs.Ytcnmbpgjgjncdaa
open Go.ChangeShapes Go.WideShapes Go.ChangeAt Go.RowKit
set_option linter.unusedVariables false

theorem nb_at (s : ByteArray) (k : Nat) (h : k < s.size) : (s[k].toNat : Int) = (nb (bl s) k : Int) := by
  unfold nb bl
  have h' : k < s.data.toList.length := by simpa using h
  rw [List.getD_eq_getElem?_getD, List.getElem?_eq_getElem h', Option.getD_some]
  rfl
theorem unL_succ (l : List UInt8) (a k : Nat) : unL l a k ++ [UInt8.ofNat (unN l a k)] = unL l a (k + 1) := by simp [unL, List.range_succ]
set_option maxHeartbeats 1000000 in
theorem runpack_any (s : ByteArray) (a n : Nat) (w : World) (hs : s.size ≤ 1000) (ha : a ≤ 1000) (hn : n ≤ 1000) :
    Calls Try.prog 63 #[.string s, .int .i64 (a : Int), .int .i64 (n : Int)] w fun e w' => e = .returned (.string (ba (unp (bl s) a n))) ∧ Below w.heap.size w w' := by
  have HU : Hid (unp (bl s) a n = if n = 0 ∨ a + (n - 1) / 4 < s.size then unL (bl s) a n else []) := by
    show _ = _
    unfold unp; rw [bl_length]
  generalize unp (bl s) a n = U at *
  go_enter Try.func63, Try.ntmps63
  go_wp2
  go_loopw [7, 8, 9, 10, 11] (fun v i _ _ _ wr => ∃ k : Nat, k ≤ n ∧ (k = 0 ∨ a + (k - 1) / 4 < s.size) ∧ i = .int .i64 (k : Int) ∧ v = .string (ba (unL (bl s) a k)) ∧ Below w.heap.size w wr) (fun _ i _ _ _ _ => n - (intV i).toNat)
  case atStart => exact ⟨0, Nat.zero_le _, .inl rfl, rfl, rfl, Below.refl _ _⟩
  case round =>
    obtain ⟨k, hk, hin, rfl, rfl, hB⟩ := hrel
    by_cases hlt : k < n
    · have i2 : (k : Int) < (n : Int) := by omega
      by_cases hpl : a + k / 4 < s.size
      · have HN : Hid (unN (bl s) a k = 48 + nb (bl s) (a + k / 4) / 4 ^ (k % 4) % 4) := rfl
        have HP1 : Hid (a + (k + 1 - 1) / 4 < s.size) := hpl
        obtain ⟨P, hP⟩ : ∃ P : Nat, P = a + k / 4 := ⟨_, rfl⟩
        rw [← hP] at hpl HN
        have e0 : (a : Int) + (k : Int) / 4 = (P : Int) := by omega
        have j1 : (P : Int) < (s.size : Int) := by omega
        have e1 := nb_at s P hpl
        have HL := hidden (unL_succ (bl s) a k)
        have hl0 : (ba (unL (bl s) a k)).size ≤ 1000 := by rw [ba_size, unL_length]; omega
        have hN := nb_lt (bl s) P
        have hone := one_size
        have HB := hidden hB
        clear hB hP hin
        generalize unL (bl s) a k = H at *
        generalize nb (bl s) P = Nb at *
        obtain ⟨r, hr⟩ : ∃ r : Nat, r = k % 4 := ⟨_, rfl⟩
        rw [← hr] at HN
        have e4 : (k : Int) % 4 = (r : Int) := by omega
        have hr4 : r < 4 := by omega
        clear hr
        go_wp2
        go_loop [10, 11] (fun x c => ∃ t : Nat, t ≤ r ∧ x = .int .i64 ((Nb / 4 ^ t : Nat) : Int) ∧ c = .int .i64 (t : Int)) (fun _ c => r - (intV c).toNat)
        case atStart => exact ⟨0, by omega, by simp, rfl⟩
        case round =>
          obtain ⟨t, ht, rfl, rfl⟩ := hrel
          have hdl : Nb / 4 ^ t ≤ 255 := Nat.le_trans (Nat.div_le_self _ _) (by omega)
          by_cases htl : t < r
          · have i5 : (t : Int) < (r : Int) := by omega
            have HD : Hid (Nb / 4 ^ t / 4 = Nb / 4 ^ (t + 1)) := by
              show _ = _
              rw [Nat.div_div_eq_div_mul, Nat.pow_succ]
            generalize Nb / 4 ^ t = D at *
            go_wp2
            go_round
            case rel => exact ⟨t + 1, by omega, by rw [← HD.out]; go_num, by go_num⟩
            case measure => simp [intV]; omega
          · obtain rfl : t = r := by omega
            generalize Nb / 4 ^ t = D at *
            have hbb : unN (bl s) a k < 256 := by rw [HN.out]; omega
            have C := fun W => rbyte_ba (48 + (D : Int) % 4) W (by omega) (by omega)
            have e6 : (48 + (D : Int) % 4).toNat = unN (bl s) a k := by rw [HN.out]; omega
            rw [e6] at C
            clear e6 hbb
            go_wp2_with fail
            refine (C _).mono ?_
            rintro e w1 ⟨rfl, hb⟩
            go_wp2
            go_roundw
            case rel => exact ⟨k + 1, by omega, .inr HP1.out, by go_num, by rw [ba_append, HL.out], bthen HB.out hb⟩
            case measure => simp [intV]; omega
      · have j1 : (s.size : Int) ≤ (a : Int) + (k : Int) / 4 := by omega
        have j2 : ¬ (a : Int) + (k : Int) / 4 < (s.size : Int) := by omega
        have e : U = [] := by
          rw [HU.out, if_neg]
          omega
        have HE := hidden e
        clear e
        go_wp2
        go_ret
        exact ⟨ret_s (by rw [HE.out]; rfl), hB⟩
    · obtain rfl : k = n := by omega
      have e : U = unL (bl s) a k := by rw [HU.out, if_pos hin]
      have HE := hidden e
      clear e
      go_wp2
      go_ret
      exact ⟨ret_s (by rw [HE.out]), hB⟩
end Go.Proofs.Ytcnmbpgjgjncdaa
