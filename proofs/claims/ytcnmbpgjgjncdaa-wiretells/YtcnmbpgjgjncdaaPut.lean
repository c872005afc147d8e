/- num.Put of package num, at every number and every width, returns the document's bytes or its error, and makes at most new memory; conditions: the arguments fit int. -/
import Derived.Test.YtcnmbpgjgjncdaaNum
import Derived.WalkSpells
import Derived.Laws.BytesString
namespace Go.Proofs.Ytcnmbpgjgjncdaa
open Go.ChangeShapes Go.WideShapes Go.ChangeAt Go.RowKit
set_option linter.unusedVariables false

def numStr (zs : List Int) : ByteArray := ⟨(zs.map fun z => UInt8.ofNat z.toNat).toArray⟩
def leInts : Int → Nat → List Int
  | _, 0 => []
  | n, k + 1 => n % 256 :: leInts (n / 256) k

theorem cons2 {a b : Int} {l m : List Int} (h : a = b) (g : l = m) : a :: l = b :: m := by rw [h, g]

theorem foldl_push_nums : ∀ (zs : List Int) (r : ByteArray), zs.foldl (fun r n => r.push (UInt8.ofNat n.toNat)) r = ⟨r.data ++ (zs.map fun z => UInt8.ofNat z.toNat).toArray⟩
  | [], r => by simp
  | z :: zs, r => by
    simp only [List.foldl_cons]
    rw [foldl_push_nums zs]
    simp [ByteArray.push]

theorem conv_cells (w : World) (zs : List Int) (cap : Nat) :
    (convert 37 9 (.slice (some ⟨w.heap.size, 0, none⟩) zs.length cap)).run Try.prog (w.alloc (.cells (zs.map (Value.int .u8)).toArray 5)) = .ok (.string (numStr zs)) (w.alloc (.cells (zs.map (Value.int .u8)).toArray 5)) := by
  rw [run_convert_bytes_string _ 37 9 5 _ _ _ Try.underlying37 Try.underlying5 Try.underlying9]
  have hl := run_loadCells_list (P := Try.prog) (w.alloc (.cells (zs.map (Value.int .u8)).toArray 5)) ⟨w.heap.size, 0, none⟩ (zs.map (Value.int .u8)) (fun j v hj => by
    have ha : (Addr.mk w.heap.size 0 none).add j = ⟨w.heap.size, j, none⟩ := by
      by_cases h : j = 0
      · subst h; rfl
      · simp [Addr.add, h]
    rw [ha, World.cell?_alloc_at _ _ _ _ rfl]
    simpa using hj)
  simp only [List.length_map] at hl
  rw [run_bytesToString _ _ zs.length cap _ hl, foldl_push_nums]
  have he0 : ByteArray.empty.data = #[] := rfl
  rw [he0]
  simp [numStr]

theorem put_cells_1 (n : Int) (h0 : 0 ≤ n) (h1 : n < 256) : leInts n 1 = [n] := by
  simp only [leInts]
  repeat (first | rfl | refine cons2 (by omega) ?_)
set_option maxHeartbeats 400000 in
theorem put_1 (n : Int) (w : World) (h0 : 0 ≤ n) (h1 : n < 256) :
    Calls Try.prog 66 #[.int .i64 n, .int .i64 1] w fun e w' => e = .returned (.tuple #[.string (numStr (leInts n 1)), .int .i64 0]) ∧ Below w.heap.size w w' := by
  rw [put_cells_1 n h0 h1]
  have hmk : ∀ w, (Instr.makeSlice 37 (.int .i64 1) (.int .i64 1)).run Try.prog w = .ok (.slice (some ⟨w.heap.size, 0, none⟩) 1 1) (w.alloc (.cells #[.int .u8 0] 5)) := fun _ => by kernel_rfl
  have hcv := conv_cells w [n] 1
  simp only [List.map_cons, List.map_nil, List.length_cons, List.length_nil, Nat.zero_add] at hcv
  have hz : (n / 256 != 0) = false := by simp; omega
  have hz0 : decide (n < 0) = false := by simp; omega
  go_enter Try.func66, Try.ntmps66
  go_wp2_with (go_at_call 72; refine (isWidth_yes _ _ (by omega) (by omega)).mono ?_; rintro e w' ⟨rfl, rfl⟩)
  refine wp_loop_rounds 2 ?_
  rw [rounds_succ]
  go_wp2
  rw [rounds_succ]
  go_wp2
  go_ret2
  exact ⟨rfl, (Below.refl _ _).alloc (Nat.le_refl _) _⟩
set_option maxHeartbeats 400000 in
theorem put_long_1 (n : Int) (w : World) (h1 : 256 ≤ n) (h2 : n ≤ 9223372036854775807) :
    Calls Try.prog 66 #[.int .i64 n, .int .i64 1] w fun e w' => e = .returned (.tuple #[.string ⟨#[]⟩, .int .i64 6]) ∧ w = w' := by
  have hz : (n / 256 != 0) = true := by simp; omega
  have hz0 : decide (n < 0) = false := by simp; omega
  go_enter Try.func66, Try.ntmps66
  go_wp2_with (go_at_call 72; refine (isWidth_yes _ _ (by omega) (by omega)).mono ?_; rintro e w' ⟨rfl, rfl⟩)
  go_ret2
  exact ⟨rfl, rfl⟩

theorem put_cells_2 (n : Int) (h0 : 0 ≤ n) (h1 : n < 65536) : leInts n 2 = [n % 256, n / 256] := by
  simp only [leInts]
  repeat (first | rfl | refine cons2 (by omega) ?_)
set_option maxHeartbeats 400000 in
theorem put_2 (n : Int) (w : World) (h0 : 0 ≤ n) (h1 : n < 65536) :
    Calls Try.prog 66 #[.int .i64 n, .int .i64 2] w fun e w' => e = .returned (.tuple #[.string (numStr (leInts n 2)), .int .i64 0]) ∧ Below w.heap.size w w' := by
  rw [put_cells_2 n h0 h1]
  have hmk : ∀ w, (Instr.makeSlice 37 (.int .i64 2) (.int .i64 2)).run Try.prog w = .ok (.slice (some ⟨w.heap.size, 0, none⟩) 2 2) (w.alloc (.cells #[.int .u8 0, .int .u8 0] 5)) := fun _ => by kernel_rfl
  have hcv := conv_cells w [n % 256, n / 256] 2
  simp only [List.map_cons, List.map_nil, List.length_cons, List.length_nil, Nat.zero_add, Nat.reduceAdd] at hcv
  have hz : (n / 65536 != 0) = false := by simp; omega
  have hz0 : decide (n < 0) = false := by simp; omega
  go_enter Try.func66, Try.ntmps66
  go_wp2_with (go_at_call 72; refine (isWidth_yes _ _ (by omega) (by omega)).mono ?_; rintro e w' ⟨rfl, rfl⟩)
  refine wp_loop_rounds 3 ?_
  rw [rounds_succ]
  go_wp2
  rw [rounds_succ]
  go_wp2
  rw [rounds_succ]
  go_wp2
  go_ret2
  exact ⟨rfl, (Below.refl _ _).alloc (Nat.le_refl _) _⟩
set_option maxHeartbeats 400000 in
theorem put_long_2 (n : Int) (w : World) (h1 : 65536 ≤ n) (h2 : n ≤ 9223372036854775807) :
    Calls Try.prog 66 #[.int .i64 n, .int .i64 2] w fun e w' => e = .returned (.tuple #[.string ⟨#[]⟩, .int .i64 6]) ∧ w = w' := by
  have hz : (n / 65536 != 0) = true := by simp; omega
  have hz0 : decide (n < 0) = false := by simp; omega
  go_enter Try.func66, Try.ntmps66
  go_wp2_with (go_at_call 72; refine (isWidth_yes _ _ (by omega) (by omega)).mono ?_; rintro e w' ⟨rfl, rfl⟩)
  go_ret2
  exact ⟨rfl, rfl⟩

theorem put_cells_3 (n : Int) (h0 : 0 ≤ n) (h1 : n < 16777216) : leInts n 3 = [n % 256, (n / 256) % 256, n / 65536] := by
  simp only [leInts]
  repeat (first | rfl | refine cons2 (by omega) ?_)
set_option maxHeartbeats 400000 in
theorem put_3 (n : Int) (w : World) (h0 : 0 ≤ n) (h1 : n < 16777216) :
    Calls Try.prog 66 #[.int .i64 n, .int .i64 3] w fun e w' => e = .returned (.tuple #[.string (numStr (leInts n 3)), .int .i64 0]) ∧ Below w.heap.size w w' := by
  rw [put_cells_3 n h0 h1]
  have hmk : ∀ w, (Instr.makeSlice 37 (.int .i64 3) (.int .i64 3)).run Try.prog w = .ok (.slice (some ⟨w.heap.size, 0, none⟩) 3 3) (w.alloc (.cells #[.int .u8 0, .int .u8 0, .int .u8 0] 5)) := fun _ => by kernel_rfl
  have hcv := conv_cells w [n % 256, (n / 256) % 256, n / 65536] 3
  simp only [List.map_cons, List.map_nil, List.length_cons, List.length_nil, Nat.zero_add, Nat.reduceAdd] at hcv
  have hz : (n / 16777216 != 0) = false := by simp; omega
  have hz0 : decide (n < 0) = false := by simp; omega
  go_enter Try.func66, Try.ntmps66
  go_wp2_with (go_at_call 72; refine (isWidth_yes _ _ (by omega) (by omega)).mono ?_; rintro e w' ⟨rfl, rfl⟩)
  refine wp_loop_rounds 4 ?_
  rw [rounds_succ]
  go_wp2
  rw [rounds_succ]
  go_wp2
  rw [rounds_succ]
  go_wp2
  rw [rounds_succ]
  go_wp2
  go_ret2
  exact ⟨rfl, (Below.refl _ _).alloc (Nat.le_refl _) _⟩
set_option maxHeartbeats 400000 in
theorem put_long_3 (n : Int) (w : World) (h1 : 16777216 ≤ n) (h2 : n ≤ 9223372036854775807) :
    Calls Try.prog 66 #[.int .i64 n, .int .i64 3] w fun e w' => e = .returned (.tuple #[.string ⟨#[]⟩, .int .i64 6]) ∧ w = w' := by
  have hz : (n / 16777216 != 0) = true := by simp; omega
  have hz0 : decide (n < 0) = false := by simp; omega
  go_enter Try.func66, Try.ntmps66
  go_wp2_with (go_at_call 72; refine (isWidth_yes _ _ (by omega) (by omega)).mono ?_; rintro e w' ⟨rfl, rfl⟩)
  go_ret2
  exact ⟨rfl, rfl⟩

theorem put_cells_4 (n : Int) (h0 : 0 ≤ n) (h1 : n < 4294967296) : leInts n 4 = [n % 256, (n / 256) % 256, (n / 65536) % 256, n / 16777216] := by
  simp only [leInts]
  repeat (first | rfl | refine cons2 (by omega) ?_)
set_option maxHeartbeats 400000 in
theorem put_4 (n : Int) (w : World) (h0 : 0 ≤ n) (h1 : n < 4294967296) :
    Calls Try.prog 66 #[.int .i64 n, .int .i64 4] w fun e w' => e = .returned (.tuple #[.string (numStr (leInts n 4)), .int .i64 0]) ∧ Below w.heap.size w w' := by
  rw [put_cells_4 n h0 h1]
  have hmk : ∀ w, (Instr.makeSlice 37 (.int .i64 4) (.int .i64 4)).run Try.prog w = .ok (.slice (some ⟨w.heap.size, 0, none⟩) 4 4) (w.alloc (.cells #[.int .u8 0, .int .u8 0, .int .u8 0, .int .u8 0] 5)) := fun _ => by kernel_rfl
  have hcv := conv_cells w [n % 256, (n / 256) % 256, (n / 65536) % 256, n / 16777216] 4
  simp only [List.map_cons, List.map_nil, List.length_cons, List.length_nil, Nat.zero_add, Nat.reduceAdd] at hcv
  have hz : (n / 4294967296 != 0) = false := by simp; omega
  have hz0 : decide (n < 0) = false := by simp; omega
  go_enter Try.func66, Try.ntmps66
  go_wp2_with (go_at_call 72; refine (isWidth_yes _ _ (by omega) (by omega)).mono ?_; rintro e w' ⟨rfl, rfl⟩)
  refine wp_loop_rounds 5 ?_
  rw [rounds_succ]
  go_wp2
  rw [rounds_succ]
  go_wp2
  rw [rounds_succ]
  go_wp2
  rw [rounds_succ]
  go_wp2
  rw [rounds_succ]
  go_wp2
  go_ret2
  exact ⟨rfl, (Below.refl _ _).alloc (Nat.le_refl _) _⟩
set_option maxHeartbeats 400000 in
theorem put_long_4 (n : Int) (w : World) (h1 : 4294967296 ≤ n) (h2 : n ≤ 9223372036854775807) :
    Calls Try.prog 66 #[.int .i64 n, .int .i64 4] w fun e w' => e = .returned (.tuple #[.string ⟨#[]⟩, .int .i64 6]) ∧ w = w' := by
  have hz : (n / 4294967296 != 0) = true := by simp; omega
  have hz0 : decide (n < 0) = false := by simp; omega
  go_enter Try.func66, Try.ntmps66
  go_wp2_with (go_at_call 72; refine (isWidth_yes _ _ (by omega) (by omega)).mono ?_; rintro e w' ⟨rfl, rfl⟩)
  go_ret2
  exact ⟨rfl, rfl⟩

theorem put_below (n b : Int) (w : World) (h0 : n < 0) (h1 : 1 ≤ b) (h2 : b ≤ 4) :
    Calls Try.prog 66 #[.int .i64 n, .int .i64 b] w fun e w' => e = .returned (.tuple #[.string ⟨#[]⟩, .int .i64 6]) ∧ w = w' := by
  go_enter Try.func66, Try.ntmps66
  go_wp2_with (go_at_call 72; refine (isWidth_yes _ _ (by omega) (by omega)).mono ?_; rintro e w' ⟨rfl, rfl⟩)
  go_ret2
  exact ⟨rfl, rfl⟩
theorem put_arg (n b : Int) (w : World) (h : b < 1 ∨ 4 < b) :
    Calls Try.prog 66 #[.int .i64 n, .int .i64 b] w fun e w' => e = .returned (.tuple #[.string ⟨#[]⟩, .int .i64 2]) ∧ w = w' := by
  go_enter Try.func66, Try.ntmps66
  go_wp2_with (go_at_call 72; refine (isWidth_no _ _ h).mono ?_; rintro e w' ⟨rfl, rfl⟩)
  go_ret2
  exact ⟨rfl, rfl⟩

/-- What Put gives: the bytes and the error's number. -/
def putF (n b : Int) : ByteArray × Int :=
  if b < 1 ∨ 4 < b then (⟨#[]⟩, 2) else if n < 0 ∨ 256 ^ b.toNat ≤ n then (⟨#[]⟩, 6) else (numStr (leInts n b.toNat), 0)
theorem putF_arg (n b : Int) (h : b < 1 ∨ 4 < b) : putF n b = (⟨#[]⟩, 2) := by unfold putF; rw [if_pos h]
theorem putF_long (n b : Int) (h1 : 1 ≤ b) (h2 : b ≤ 4) (h : n < 0 ∨ 256 ^ b.toNat ≤ n) : putF n b = (⟨#[]⟩, 6) := by unfold putF; rw [if_neg (by omega), if_pos h]
theorem putF_ok (n b : Int) (h1 : 1 ≤ b) (h2 : b ≤ 4) (h3 : 0 ≤ n) (h : n < 256 ^ b.toNat) : putF n b = (numStr (leInts n b.toNat), 0) := by unfold putF; rw [if_neg (by omega), if_neg (by omega)]

theorem put_any (n b : Int) (w : World) (hn : (Lit.int .i64 n).wf = true) :
    Calls Try.prog 66 #[.int .i64 n, .int .i64 b] w fun e w' => e = .returned (.tuple #[.string (putF n b).1, .int .i64 (putF n b).2]) ∧ Below w.heap.size w w' := by
  have bn := bd64 hn
  by_cases hb : b < 1 ∨ 4 < b
  · rw [putF_arg n b hb]
    exact (put_arg n b w hb).mono fun e w' ⟨h, g⟩ => ⟨h, by subst g; exact Below.refl _ _⟩
  · by_cases h0 : n < 0
    · rw [putF_long n b (by omega) (by omega) (Or.inl h0)]
      exact (put_below n b w h0 (by omega) (by omega)).mono fun e w' ⟨h, g⟩ => ⟨h, by subst g; exact Below.refl _ _⟩
    · obtain rfl | rfl | rfl | rfl : b = 1 ∨ b = 2 ∨ b = 3 ∨ b = 4 := by omega
      · by_cases h1 : n < 256
        · rw [putF_ok n 1 (by omega) (by omega) (by omega) (by simpa using h1)]
          exact put_1 n w (by omega) h1
        · rw [putF_long n 1 (by omega) (by omega) (Or.inr (by simp; omega))]
          exact (put_long_1 n w (by omega) (by omega)).mono fun e w' ⟨h, g⟩ => ⟨h, by subst g; exact Below.refl _ _⟩
      · by_cases h1 : n < 65536
        · rw [putF_ok n 2 (by omega) (by omega) (by omega) (by simpa using h1)]
          exact put_2 n w (by omega) h1
        · rw [putF_long n 2 (by omega) (by omega) (Or.inr (by simp; omega))]
          exact (put_long_2 n w (by omega) (by omega)).mono fun e w' ⟨h, g⟩ => ⟨h, by subst g; exact Below.refl _ _⟩
      · by_cases h1 : n < 16777216
        · rw [putF_ok n 3 (by omega) (by omega) (by omega) (by simpa using h1)]
          exact put_3 n w (by omega) h1
        · rw [putF_long n 3 (by omega) (by omega) (Or.inr (by simp; omega))]
          exact (put_long_3 n w (by omega) (by omega)).mono fun e w' ⟨h, g⟩ => ⟨h, by subst g; exact Below.refl _ _⟩
      · by_cases h1 : n < 4294967296
        · rw [putF_ok n 4 (by omega) (by omega) (by omega) (by simpa using h1)]
          exact put_4 n w (by omega) h1
        · rw [putF_long n 4 (by omega) (by omega) (Or.inr (by simp; omega))]
          exact (put_long_4 n w (by omega) (by omega)).mono fun e w' ⟨h, g⟩ => ⟨h, by subst g; exact Below.refl _ _⟩
end Go.Proofs.Ytcnmbpgjgjncdaa
