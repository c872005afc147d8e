/- The law CrcMixes returns true at every three texts, and makes at most new memory; condition: each text's length fits int. -/
import Derived.Test.YtjecogbhkmljkabMixM
import Derived.Test.YtjecogbhkmljkabCrcK
import Derived.Deep.RegionHeld3
import Derived.Deep.DrawnRows
namespace Go.Proofs.Ytjecogbhkmljkab.LawCrcMixes
open Go.ChangeShapes Go.WideShapes Go.ChangeAt Go.RowKit
set_option linter.unusedVariables false
attribute [local go_sem ↓] Go.wp_at_zero Go.wp_at_succ
theorem info5 : (Try.prog.info? 5).map (fun i => (i.zero, i.size, i.bytes)) = some (some (.int .u8 0), 1, 1) := by kernel_rfl

set_option maxRecDepth 100000 in
set_option maxHeartbeats 3200000 in
theorem walk (a b c : ByteArray) (w0 : a.size ≤ maxLen) (w1 : b.size ≤ maxLen) (w2 : c.size ≤ maxLen) (w : World) :
    Calls Try.prog 4 #[.string a, .string b, .string c] w fun e w' => e = .returned (.bool true) ∧ Below w.heap.size w w' := by
  unfold maxLen at w0 w1 w2
  obtain ⟨m, hma, hmb, hmc, hm6, hmin⟩ : ∃ m : Nat, m ≤ a.size ∧ m ≤ b.size ∧ m ≤ c.size ∧ m ≤ 60 ∧ (m = a.size ∨ m = b.size ∨ m = c.size ∨ m = 60) :=
    ⟨min (min (min a.size b.size) c.size) 60, by omega, by omega, by omega, by omega, by omega⟩
  have hmn := fun (W : World) ts t => min4 (P := Try.prog) W ts t .i64 a.size b.size c.size 60 m (by omega)
  clear hmin
  obtain ⟨i0, hi0, hz0, hz1, hz2⟩ := info_parts info5
  go_enter Try.func4, Try.ntmps4
  go_wp2
  go_loopw [8, 9] (fun v i wr => ∃ k : Nat, k ≤ m ∧ i = .int .i64 k ∧ wr.ownsRow w.heap.size 5 1 v k (byteVals (mixL a.data.toList b.data.toList c.data.toList k)) ∧ Below w.heap.size w wr) (fun _ i _ => m - (intOf i).toNat)
  case atStart => exact ⟨0, Nat.zero_le _, rfl, World.ownsRow_nil _ _ _ _, Below.refl _ _⟩
  case round =>
    obtain ⟨k, hk, rfl, hown, hbel⟩ := hrel
    by_cases hlt : k < m
    · have hka : k < a.size := by omega
      have hkb : k < b.size := by omega
      have hkc : k < c.size := by omega
      have j0 : (0 : Int) ≤ (k : Int) := by omega
      have ja : (k : Int) < (a.size : Int) := by omega
      have jb : (k : Int) < (b.size : Int) := by omega
      have jc : (k : Int) < (c.size : Int) := by omega
      obtain ⟨y, x1, hy⟩ : ∃ y : Nat, bits .xor .u8 (a[k].toNat : Int) (b[k].toNat : Int) = (y : Int) ∧ y = (a[k] ^^^ b[k]).toNat := ⟨_, u8_xor_bytes a[k] b[k], rfl⟩
      obtain ⟨z, x2, hz⟩ : ∃ z : Nat, bits .xor .u8 (y : Int) (c[k].toNat : Int) = (z : Int) ∧ z = (a[k] ^^^ b[k] ^^^ c[k]).toNat := ⟨_, by rw [hy]; exact u8_xor_bytes (a[k] ^^^ b[k]) c[k], rfl⟩
      have HZ : Hid (z = (a[k] ^^^ b[k] ^^^ c[k]).toNat) := hz
      clear hy hz
      have HM : Hid (mixL a.data.toList b.data.toList c.data.toList (k + 1) = mixL a.data.toList b.data.toList c.data.toList k ++ [a[k] ^^^ b[k] ^^^ c[k]]) := mixL_succ _ _ _ k (by simpa using hka) (by simpa using hkb) (by simpa using hkc)
      have hsz := hbel.size
      go_wp2_with fail
      go_region_held3 (fun _ => True) (trivial)
        ((refine step_append_lies _ (by rfl) _ _ _ (by rfl) w.heap.size 5 i0 _ 1 1 Try.underlying27 hi0 hz0 hz1 hz2 rfl (by omega) _ k _ (by rfl) ((hown.alloc _).drew) ⟨wr.heap.size, 0, none⟩ 1 1 [.int .u8 (z : Int)] (by rfl) (by rfl) (World.news_of_block (cs := #[.int .u8 (z : Int)]) (t := 5) (fr := (0, 0)) (heap_alloc_new wr _)) (by simp [Value.oneCell']) (by omega) (by unfold maxLen; omega) (by omega) (by simp; omega) (wr.heap.size + 1) (by simp) ?_; intro g cap w3 hown1 hgrow hat hlt1))
      all_goals
        have R1 : w3.ownsRow w.heap.size 5 1 (.slice (some ⟨g, 0, none⟩) (k + 1) cap) (k + 1) (byteVals (mixL a.data.toList b.data.toList c.data.toList (k + 1))) := by
          rw [HM.out, byteVals_snoc, ← HZ.out]; exact hown1
        have R2 : Below w.heap.size w w3 := ((hbel.alloc hsz _).drew).grown hgrow (by simp; omega) (fun q hq => (hown.lt q hq).1)
        clear hown1 hgrow hat hown hbel x1 x2 HZ HM
        go_wp2
        go_roundw
        case rel => exact ⟨k + 1, by omega, by go_num, R1, R2⟩
        case measure => simp [intOf]; omega
    · have hkm : k = m := by omega
      subst hkm
      have hlm := mixL_length a.data.toList b.data.toList c.data.toList k (by simpa using hma) (by simpa using hmb) (by simpa using hmc)
      have hsum := mixL_sum a.data.toList b.data.toList c.data.toList k (by simpa using hma) (by simpa using hmb) (by simpa using hmc)
      generalize mixL a.data.toList b.data.toList c.data.toList k = M at *
      have hS : MixS w.heap.size u8 M wr := by unfold MixS; rw [hlm]; exact hown
      clear hown
      have s1 : ∀ W : World, (Instr.slice 9 (.string a) none (some (.int .i64 (k : Int))) none).run Try.prog W = .ok (.string (a.extract 0 k)) W := fun W => by
        rw [run_slice_string_to_if W 9 a .i64 _ Try.underlying9, if_pos ⟨by omega, by omega⟩]; rfl
      have s2 : ∀ W : World, (Instr.slice 9 (.string b) none (some (.int .i64 (k : Int))) none).run Try.prog W = .ok (.string (b.extract 0 k)) W := fun W => by
        rw [run_slice_string_to_if W 9 b .i64 _ Try.underlying9, if_pos ⟨by omega, by omega⟩]; rfl
      have s3 : ∀ W : World, (Instr.slice 9 (.string c) none (some (.int .i64 (k : Int))) none).run Try.prog W = .ok (.string (c.extract 0 k)) W := fun W => by
        rw [run_slice_string_to_if W 9 c .i64 _ Try.underlying9, if_pos ⟨by omega, by omega⟩]; rfl
      have d1 : (a.extract 0 k).data.toList = a.data.toList.take k := by rw [Lib.extract_data]; simp
      have d2 : (b.extract 0 k).data.toList = b.data.toList.take k := by rw [Lib.extract_data]; simp
      have d3 : (c.extract 0 k).data.toList = c.data.toList.take k := by rw [Lib.extract_data]; simp
      rw [← d1, ← d2, ← d3] at hsum
      obtain ⟨A, e1, z1⟩ : ∃ A, a.extract 0 k = A ∧ A.size ≤ maxLen := ⟨_, rfl, by simp [ByteArray.size_extract, maxLen]; omega⟩
      obtain ⟨B, e2, z2⟩ : ∃ B, b.extract 0 k = B ∧ B.size ≤ maxLen := ⟨_, rfl, by simp [ByteArray.size_extract, maxLen]; omega⟩
      obtain ⟨C, e3, z3⟩ : ∃ C, c.extract 0 k = C ∧ C.size ≤ maxLen := ⟨_, rfl, by simp [ByteArray.size_extract, maxLen]; omega⟩
      rw [e1] at s1 hsum
      rw [e2] at s2 hsum
      rw [e3] at s3 hsum
      have z4 : (ByteArray.mk M.toArray).size ≤ maxLen := by simp [ByteArray.size, maxLen]; omega
      have q1 := crcOf_lt A.data.toList
      have q2 := crcOf_lt B.data.toList
      have q3 := crcOf_lt C.data.toList
      have c4 : ∀ W : World, Calls Try.prog 8 #[.string ⟨M.toArray⟩] W fun e w' => e = .returned (.int .u32 ((crcOf A.data.toList ^^^ crcOf B.data.toList ^^^ crcOf C.data.toList : Nat) : Int)) ∧ Below W.heap.size W w' := fun W => by
        have := sum_any ⟨M.toArray⟩ W z4
        rw [show (ByteArray.mk M.toArray).data.toList = M from rfl, hsum] at this
        exact this
      have c1 := fun W => sum_any A W z1
      have c2 := fun W => sum_any B W z2
      have c3 := fun W => sum_any C W z3
      generalize crcOf A.data.toList = ca at *
      generalize crcOf B.data.toList = cb at *
      generalize crcOf C.data.toList = cc at *
      have y1 := u32_xor_nat ca cb q1 q2
      have y2 := u32_xor_nat (ca ^^^ cb) cc (xor_lt32 q1 q2) q3
      clear d1 d2 d3 e1 e2 e3 hsum z1 z2 z3 z4 q1 q2 q3
      clear hk hlt hlm hma hmb hmc hm6 w0 w1 w2 hi0 hz0 hz1 hz2
      go_wp2_with fail
      go_region_held3 (fun w' => MixS w.heap.size u8 M w' ∧ (convert 27 9 u8).run Try.prog w' = .ok (.string ⟨M.toArray⟩) w')
        ((go_split_ands; refine MixS.conv ?_; first | assumption | exact MixS.drew (by assumption) | exact MixS.below (by assumption) (by assumption)))
        (first | (go_at_call_of 8 M; refine (c4 _).mono ?_; rintro e w4 ⟨rfl, hb4⟩) | (go_at_call_of 8 A; refine (c1 _).mono ?_; rintro e w5 ⟨rfl, hb5⟩) | (go_at_call_of 8 B; refine (c2 _).mono ?_; rintro e w6 ⟨rfl, hb6⟩) | (go_at_call_of 8 C; refine (c3 _).mono ?_; rintro e w7 ⟨rfl, hb7⟩) | (go_at_call 6; refine (cknown_any _).mono ?_; rintro e w8 ⟨rfl, hb8⟩))
      go_wp2
      go_ret
      have g4 := hbel.drew.trans (hb4.mono hbel.drew.size)
      have g5 := g4.trans (hb5.mono g4.size)
      have g6 := g5.trans (hb6.mono g5.size)
      have g7 := g6.trans (hb7.mono g6.size)
      exact ⟨rfl, g7.trans (hb8.mono g7.size)⟩
end Go.Proofs.Ytjecogbhkmljkab.LawCrcMixes
