/- The document's calls bit, code, digit, Of, Values, Vote, Step, Number and Bits of layer 16 return what plain functions give, and make at most new memory; conditions: rows lie where they say, lengths fit int. -/
import Derived.Test.YtohgmliafidalaaVecC
import Derived.Test.YtohgmliafidalaaKinR
import Derived.Test.YtohgmliafidalaaRefByte
namespace Go.Proofs.Ytohgmliafidalaa
open Go.ChangeShapes Go.WideShapes Go.ChangeAt Go.RowKit
set_option linter.unusedVariables false
attribute [local go_sem] cell_rg

def ubit (c : Int) : Int := if c = 49 then 1 else 0
theorem ubit_vdg {s : ByteArray} {k : Nat} (h : k < s.size) : ubit ((s[k]'h).toNat : Int) = if vdg 1 s k = 1 then 1 else 0 := by
  unfold ubit vdg
  rw [dif_pos h]
  generalize ((s[k]'h).toNat : Int) = c
  by_cases e : c = 49
  · subst e; decide
  · rw [if_neg e]
    symm
    apply if_neg
    split <;> omega
theorem start_ubit {s : ByteArray} {k : Nat} (h : k < s.size) : startF (ubit ((s[k]'h).toNat : Int)) = startF (vdg 1 s k) := by
  rw [ubit_vdg h]
  unfold startF
  by_cases e : vdg 1 s k = 1 <;> simp [e]
theorem rbit_any (c : Int) (w : World) :
    Calls Try.prog 70 #[.int .u8 c] w fun e w' => e = .returned (.int .i64 (ubit c)) ∧ w = w' := by
  by_cases h : c = 49
  · have e := hidden (show ubit c = 1 from if_pos h)
    have j : (c == 49) = true := by simp [h]
    go_enter Try.func70, Try.ntmps70
    go_wp2
    go_ret
    exact ⟨ret_i e.out.symm, rfl⟩
  · have e := hidden (show ubit c = 0 from if_neg h)
    have j : (c == 49) = false := by simp [h]
    go_enter Try.func70, Try.ntmps70
    go_wp2
    go_ret
    exact ⟨ret_i e.out.symm, rfl⟩
theorem rdigit_any (b : Int × Bool) (w : World) :
    Calls Try.prog 99 #[.agg #[.int .i64 b.1, .bool b.2]] w fun e w' => e = .returned (.string (ba [UInt8.ofNat (48 + (codeF b).toNat)])) ∧ Below w.heap.size w w' := by
  obtain ⟨v, s⟩ := b
  have C1 := hidden (fun V => rCode_any (v, s) V)
  have hb := codeF_bd (v, s)
  generalize codeF (v, s) = q at *
  have C2 := hidden (fun V => rbyte_any (48 + q) V)
  have HE : Hid (numStr [(48 + q) % 256] = ba [UInt8.ofNat (48 + q.toNat)]) := by
    show _ = _
    rw [numStr_one, show ((48 + q) % 256).toNat = 48 + q.toNat by omega]
  rw [HE.out] at C2
  dsimp only at C1
  generalize ba [UInt8.ofNat (48 + q.toNat)] = out at *
  go_enter Try.func99, Try.ntmps99
  go_wp2_with fail
  refine (C1.out _).mono ?_
  rintro e w2 ⟨rfl, hb⟩
  have HB2 := hidden (bthen (ballc w _) hb)
  clear hb
  go_wp2_with fail
  refine (C2.out _).mono ?_
  rintro e w3 ⟨rfl, hb⟩
  have HB3 := hidden (bthen HB2.out hb)
  clear hb
  go_wp2
  go_ret
  exact ⟨rfl, HB3.out⟩
theorem rcode_any (s : ByteArray) (k : Nat) (h : k < s.size) (w : World) :
    Calls Try.prog 90 #[.int .u8 ((s[k]'h).toNat : Int)] w fun e w' => e = .returned (agB (bitK s k)) ∧ Below w.heap.size w w' := by
  have HB : Hid (bitK s k = readK (vdg 5 s k)) := rfl
  have hno := fun q => vdg_no (last := 5) h q
  have hin := fun q r => vdg_in (last := 5) h q r
  have hlt := (s[k]'h).toNat_lt
  rw [HB.out]
  generalize vdg 5 s k = z at *
  generalize hc : ((s[k]'h).toNat : Int) = c at *
  have hc0 : 0 ≤ c ∧ c < 256 := by omega
  clear hc hlt HB
  by_cases h1 : c < 48
  · obtain rfl := hno (.inl h1)
    have d1 : decide (c < 48) = true := decide_eq_true h1
    have C1 := hidden (fun V => rRead_any (-1) V)
    generalize readK (-1) = b at *
    obtain ⟨bv, bs⟩ := b
    unfold agB at C1 ⊢
    dsimp only at C1 ⊢
    clear hno hin h1
    go_enter Try.func90, Try.ntmps90
    go_wp2_with fail
    refine (C1.out _).mono ?_
    rintro e w2 ⟨rfl, hb⟩
    have hk := blk_later (blk_nw w #[.int .i64 0, .bool false] 108) hb
    have c0 := fun i => blk_cell hk i
    have f0 := fun i => blk_frozen hk i
    have l0 := blk_lt hk
    have HB := hidden (bthen (ballc w _) hb)
    have HK := hidden hk
    clear hb hk
    go_wp2
    obtain ⟨r0, r1⟩ := read2T HK.out (.int .i64 bv) (.bool bs)
    exact bodyPost_ret (v := .agg #[.int .i64 bv, .bool bs]) (by simp [results, Try.results90, go_sem, r0, r1]) rfl ⟨rfl, below2T HB.out (Nat.le_refl _) _ _⟩
  · have d1 : decide (c < 48) = false := decide_eq_false h1
    by_cases h2 : 53 < c
    · obtain rfl := hno (.inr (by omega))
      have d2 : decide (53 < c) = true := decide_eq_true h2
      have C1 := hidden (fun V => rRead_any (-1) V)
      generalize readK (-1) = b at *
      obtain ⟨bv, bs⟩ := b
      unfold agB at C1 ⊢
      dsimp only at C1 ⊢
      clear hno hin h1 h2
      go_enter Try.func90, Try.ntmps90
      go_wp2_with fail
      refine (C1.out _).mono ?_
      rintro e w2 ⟨rfl, hb⟩
      have hk := blk_later (blk_nw w #[.int .i64 0, .bool false] 108) hb
      have c0 := fun i => blk_cell hk i
      have f0 := fun i => blk_frozen hk i
      have l0 := blk_lt hk
      have HB := hidden (bthen (ballc w _) hb)
      have HK := hidden hk
      clear hb hk
      go_wp2
      obtain ⟨r0, r1⟩ := read2T HK.out (.int .i64 bv) (.bool bs)
      exact bodyPost_ret (v := .agg #[.int .i64 bv, .bool bs]) (by simp [results, Try.results90, go_sem, r0, r1]) rfl ⟨rfl, below2T HB.out (Nat.le_refl _) _ _⟩
    · have d2 : decide (53 < c) = false := decide_eq_false h2
      have e := hin h1 (by omega)
      have C1 := hidden (fun V => rRead_any (c - 48) V)
      rw [e]
      generalize readK (c - 48) = b at *
      obtain ⟨bv, bs⟩ := b
      unfold agB at C1 ⊢
      dsimp only at C1 ⊢
      clear hno hin e
      go_enter Try.func90, Try.ntmps90
      go_wp2_with fail
      refine (C1.out _).mono ?_
      rintro e w2 ⟨rfl, hb⟩
      have hk := blk_later (blk_nw w #[.int .i64 0, .bool false] 108) hb
      have c0 := fun i => blk_cell hk i
      have f0 := fun i => blk_frozen hk i
      have l0 := blk_lt hk
      have HB := hidden (bthen (ballc w _) hb)
      have HK := hidden hk
      clear hb hk
      go_wp2
      obtain ⟨r0, r1⟩ := read2T HK.out (.int .i64 bv) (.bool bs)
      exact bodyPost_ret (v := .agg #[.int .i64 bv, .bool bs]) (by simp [results, Try.results90, go_sem, r0, r1]) rfl ⟨rfl, below2T HB.out (Nat.le_refl _) _ _⟩
theorem rVote_any (s : ByteArray) (k : Nat) (w : World) (hs : s.size ≤ 9223372036854775807) :
    Calls Try.prog 106 #[.string s, .int .i64 (k : Int)] w fun e w' => e = .returned (.int .i64 (vdg 2 s k)) ∧ w = w' := by
  have d0 : decide ((k : Int) < 0) = false := decide_eq_false (by omega)
  by_cases h2 : s.size ≤ k
  · have d3 : decide (s.size ≤ k) = true := decide_eq_true h2
    have d3' : (s.size : Int) ≤ (k : Int) := by omega
    have e := hidden (vdg_out (last := 2) h2)
    go_enter Try.func106, Try.ntmps106
    go_wp2
    go_ret
    exact ⟨ret_i e.out.symm, rfl⟩
  · have hj : k < s.size := by omega
    have d2 : decide (s.size ≤ k) = false := decide_eq_false h2
    have d3 : decide ((s.size : Int) ≤ (k : Int)) = false := decide_eq_false (by omega)
    have hb := (s[k]'hj).toNat_lt
    by_cases h3 : ((s[k]'hj).toNat : Int) < 48
    · have e := hidden (vdg_no (last := 2) hj (.inl h3))
      have d4 : decide (((s[k]'hj).toNat : Int) < 48) = true := decide_eq_true h3
      go_enter Try.func106, Try.ntmps106
      go_wp2
      go_ret
      exact ⟨ret_i e.out.symm, rfl⟩
    · have d4 : decide (((s[k]'hj).toNat : Int) < 48) = false := decide_eq_false h3
      by_cases h4 : (50 : Int) < ((s[k]'hj).toNat : Int)
      · have e := hidden (vdg_no (last := 2) hj (.inr h4))
        have d5 : decide ((50 : Int) < ((s[k]'hj).toNat : Int)) = true := decide_eq_true h4
        go_enter Try.func106, Try.ntmps106
        go_wp2
        go_ret
        exact ⟨ret_i e.out.symm, rfl⟩
      · have e := hidden (vdg_in (last := 2) hj h3 h4)
        have d5 : decide ((50 : Int) < ((s[k]'hj).toNat : Int)) = false := decide_eq_false h4
        go_enter Try.func106, Try.ntmps106
        go_wp2
        go_ret
        exact ⟨ret_i e.out.symm, rfl⟩
set_option maxHeartbeats 1000000 in
theorem rOf_any (s : ByteArray) (hs : s.size ≤ 100000) (w : World) :
    Calls Try.prog 56 #[.string s] w fun e w' => e = .returned (.string (dgB s.size (ofG s))) ∧ Below w.heap.size w w' := by
  go_enter Try.func56, Try.ntmps56
  go_wp2
  go_loopw [3, 4] (fun a i wr => ∃ k : Nat, k ≤ s.size ∧ i = .int .i64 k ∧ a = .string (dgB k (ofG s)) ∧ Below w.heap.size w wr) (fun _ i _ => s.size - (intV i).toNat)
  case atStart => exact ⟨0, Nat.zero_le _, rfl, rfl, Below.refl _ _⟩
  case round =>
    obtain ⟨k, hk, rfl, rfl, hB⟩ := hrel
    have HB := hidden hB
    clear hB
    by_cases hlt : k < s.size
    · have i2 : (k : Int) < (s.size : Int) := by omega
      have C1 := hidden (fun V => rbit_any ((s[k]'hlt).toNat : Int) V)
      have C2 := hidden (fun V => rStart_any (ubit ((s[k]'hlt).toNat : Int)) V)
      rw [start_ubit hlt] at C2
      have C3 := hidden (fun V => rdigit_any (startF (vdg 1 s k)) V)
      have z1 : (dgB k (ofG s)).size ≤ 100000 := by rw [dgB_size]; omega
      have z2 : ∀ c, (ba [c]).size = 1 := fun _ => rfl
      have HS : Hid (dgB (k + 1) (ofG s) = dgB k (ofG s) ++ ba [UInt8.ofNat (48 + (codeF (startF (vdg 1 s k))).toNat)]) := dgB_s k (ofG s)
      have z3 := z2 (UInt8.ofNat (48 + (codeF (startF (vdg 1 s k))).toNat))
      clear z2
      generalize ba [UInt8.ofNat (48 + (codeF (startF (vdg 1 s k))).toNat)] = dd at *
      generalize startF (vdg 1 s k) = b at *
      generalize ubit ((s[k]'hlt).toNat : Int) = ub at *
      obtain ⟨bv, bs⟩ := b
      unfold agB at C2
      dsimp only at C2 C3
      generalize dgB k (ofG s) = cur at *
      go_wp2_with fail
      refine (C1.out _).mono ?_
      rintro e w2 ⟨rfl, rfl⟩
      go_wp2_with fail
      refine (C2.out _).mono ?_
      rintro e w3 ⟨rfl, hb⟩
      have HB3 := hidden (bthen HB.out hb)
      clear hb
      go_wp2_with fail
      refine (C3.out _).mono ?_
      rintro e w4 ⟨rfl, hb⟩
      have HB4 := hidden (bthen HB3.out hb)
      clear hb
      go_wp2
      go_roundw
      case rel => exact ⟨k + 1, by omega, by go_num, by rw [HS.out], HB4.out⟩
      case measure => simp [intV]; omega
    · obtain rfl : k = s.size := by omega
      go_wp2
      go_ret
      exact ⟨rfl, HB.out⟩
set_option maxHeartbeats 1000000 in
theorem rValues_any (s : ByteArray) (hs : s.size ≤ 100000) (w : World) :
    Calls Try.prog 51 #[.string s] w fun e w' => e = .returned (.string (dgB s.size (valG s))) ∧ Below w.heap.size w w' := by
  go_enter Try.func51, Try.ntmps51
  go_wp2
  go_loopw [3, 4] (fun a i wr => ∃ k : Nat, k ≤ s.size ∧ i = .int .i64 k ∧ a = .string (dgB k (valG s)) ∧ Below w.heap.size w wr) (fun _ i _ => s.size - (intV i).toNat)
  case atStart => exact ⟨0, Nat.zero_le _, rfl, rfl, Below.refl _ _⟩
  case round =>
    obtain ⟨k, hk, rfl, rfl, hB⟩ := hrel
    have HB := hidden hB
    clear hB
    by_cases hlt : k < s.size
    · have i2 : (k : Int) < (s.size : Int) := by omega
      have C1 := hidden (fun V => rcode_any s k hlt V)
      have hv := valG_int s k
      have hbd := valG_bd s k
      have z1 : (dgB k (valG s)).size ≤ 100000 := by rw [dgB_size]; omega
      have z2 : ∀ c, (ba [c]).size = 1 := fun _ => rfl
      have HS : Hid (dgB (k + 1) (valG s) = dgB k (valG s) ++ ba [UInt8.ofNat (48 + valG s k)]) := dgB_s k (valG s)
      generalize bitK s k = b at *
      obtain ⟨bv, bs⟩ := b
      unfold agB at C1
      dsimp only at C1 hv
      have C3 := hidden (fun V => rbyte_any (48 + bv) V)
      have HE : Hid (numStr [(48 + bv) % 256] = ba [UInt8.ofNat (48 + valG s k)]) := by
        show _ = _
        rw [numStr_one, show ((48 + bv) % 256).toNat = 48 + valG s k by omega]
      rw [HE.out] at C3
      have hfd : ∀ V : World, (Instr.field 108 (.agg #[.int .i64 bv, .bool bs]) 0).run Try.prog V = .ok (.int .i64 bv) V := fun _ => by kernel_rfl
      clear HE
      have z3 := z2 (UInt8.ofNat (48 + valG s k))
      clear z2
      generalize ba [UInt8.ofNat (48 + valG s k)] = dd at *
      generalize dgB k (valG s) = cur at *
      have hbv : 0 ≤ bv ∧ bv ≤ 2 := by omega
      clear hv hbd
      go_wp2_with fail
      refine (C1.out _).mono ?_
      rintro e w2 ⟨rfl, hb⟩
      have HB3 := hidden (bthen HB.out hb)
      clear hb
      go_wp2_with fail
      refine (C3.out _).mono ?_
      rintro e w4 ⟨rfl, hb⟩
      have HB4 := hidden (bthen HB3.out hb)
      clear hb
      go_wp2
      go_roundw
      case rel => exact ⟨k + 1, by omega, by go_num, by rw [HS.out], HB4.out⟩
      case measure => simp [intV]; omega
    · obtain rfl : k = s.size := by omega
      go_wp2
      go_ret
      exact ⟨rfl, HB.out⟩
theorem numG_stay {s : ByteArray} : ∀ k j, s.size ≤ k → numG s (k + j) = numG s k
  | k, 0, h => rfl
  | k, j + 1, h => by
    rw [show k + (j + 1) = (k + j) + 1 by omega]
    show numG s (k + j) + (if vdg 1 s (k + j) = 1 then 2 ^ (k + j) else 0) = _
    rw [vdg_out (by omega), if_neg (by decide), Nat.add_zero, numG_stay k j h]
set_option maxHeartbeats 1000000 in
theorem rNumber_any (s : ByteArray) (hs : s.size ≤ 9223372036854775807) (w : World) :
    Calls Try.prog 24 #[.string s] w fun e w' => e = .returned (.int .i64 (numG s 8 : Int)) ∧ w = w' := by
  go_enter Try.func24, Try.ntmps24
  go_wp2
  go_loop [3, 4, 5] (fun a b i => ∃ k : Nat, k ≤ 8 ∧ k ≤ s.size ∧ i = .int .i64 k ∧ a = .int .i64 (numG s k : Int) ∧ b = .int .i64 ((2 ^ k : Nat) : Int)) (fun _ _ i => 8 - (intV i).toNat)
  case atStart => exact ⟨0, Nat.zero_le _, Nat.zero_le _, rfl, rfl, rfl⟩
  case round =>
    obtain ⟨k, hk, hk2, rfl, rfl, rfl⟩ := hrel
    by_cases hlt : k < 8
    · have d1 : decide ((k : Int) < 8) = true := decide_eq_true (by omega)
      by_cases hsz : k < s.size
      · have d2 : decide ((k : Int) < (s.size : Int)) = true := decide_eq_true (by omega)
        have i2 : (k : Int) < (s.size : Int) := by omega
        have hx := numG_lt s k
        have hp : 2 ^ k ≤ 128 := by
          have hk' : k = 0 ∨ k = 1 ∨ k = 2 ∨ k = 3 ∨ k = 4 ∨ k = 5 ∨ k = 6 ∨ k = 7 := by omega
          rcases hk' with rfl | rfl | rfl | rfl | rfl | rfl | rfl | rfl <;> decide
        have hp2 := hidden (Nat.pow_succ (n := 2) (m := k))
        have C1 := hidden (fun V => rbit_any ((s[k]'hsz).toNat : Int) V)
        have HU := ubit_vdg hsz
        have HN : Hid (numG s (k + 1) = numG s k + (if vdg 1 s k = 1 then 2 ^ k else 0)) := rfl
        generalize ubit ((s[k]'hsz).toNat : Int) = ub at *
        generalize 2 ^ k = P at *
        generalize numG s k = Q at *
        by_cases hz : vdg 1 s k = 1
        · rw [if_pos hz] at HN HU
          subst HU
          clear hz
          go_wp2_with fail
          refine (C1.out _).mono ?_
          rintro e w2 ⟨rfl, rfl⟩
          go_wp2
          go_round
          case rel => exact ⟨k + 1, by omega, by omega, by go_num, by rw [HN.out]; first | rfl | (congr 1; omega), by rw [hp2.out]; congr 1; omega⟩
          case measure => simp [intV]; omega
        · rw [if_neg hz] at HN HU
          subst HU
          clear hz
          go_wp2_with fail
          refine (C1.out _).mono ?_
          rintro e w2 ⟨rfl, rfl⟩
          go_wp2
          go_round
          case rel => exact ⟨k + 1, by omega, by omega, by go_num, by rw [HN.out]; first | rfl | (congr 1; omega), by rw [hp2.out]; congr 1; omega⟩
          case measure => simp [intV]; omega
      · obtain rfl : k = s.size := by omega
        have d2 : decide ((s.size : Int) < (s.size : Int)) = false := decide_eq_false (by omega)
        have hst := hidden (numG_stay (s := s) s.size (8 - s.size) (Nat.le_refl _))
        rw [show s.size + (8 - s.size) = 8 by omega] at hst
        have HQ : Hid (numG s 8 = numG s s.size) := hst.out
        generalize numG s s.size = Q at *
        go_wp2
        go_ret
        exact ⟨by rw [HQ.out]; rfl, rfl⟩
    · obtain rfl : k = 8 := by omega
      go_wp2
      go_ret
      exact ⟨rfl, rfl⟩
set_option maxHeartbeats 1000000 in
theorem rBits_any (n width : Int) (hn : n ≤ 9223372036854775807) (hw : -9223372036854775808 ≤ width ∧ width ≤ 9223372036854775807) (w : World) :
    Calls Try.prog 57 #[.int .i64 n, .int .i64 width] w fun e w' => e = .returned (.string (dgB (widF width) (bitG n.toNat))) ∧ Below w.heap.size w w' := by
  have hM : widF width ≤ 64 ∧ (∀ k : Nat, k < widF width ↔ (k : Int) < width ∧ k < 64) := ⟨widF_bd _, fun k => by unfold widF; omega⟩
  have CB := hidden (fun d V => rbyte_any (48 + d) V)
  obtain ⟨m, hm, hmb⟩ : ∃ m : Nat, n.toNat = m ∧ (m : Int) ≤ 9223372036854775807 := ⟨n.toNat, rfl, by omega⟩
  rw [hm]
  generalize widF width = M at *
  obtain ⟨hM64, hMk⟩ := hM
  have HMK := hidden hMk
  clear hMk
  by_cases h0 : n < 0
  · obtain rfl : m = 0 := by omega
    clear hm
    go_enter Try.func57, Try.ntmps57
    go_wp2
    go_loopw [0, 5, 6] (fun c a i wr => ∃ k : Nat, k ≤ M ∧ i = .int .i64 k ∧ a = .string (dgB k (bitG 0)) ∧ c = .int .i64 0 ∧ Below w.heap.size w wr) (fun _ _ i _ => M - (intV i).toNat)
    case atStart => exact ⟨0, Nat.zero_le _, rfl, rfl, rfl, Below.refl _ _⟩
    case round =>
      obtain ⟨k, hk, rfl, rfl, rfl, hB⟩ := hrel
      have HB := hidden hB
      clear hB
      by_cases hlt : k < M
      · have d1 : decide ((k : Int) < width) = true := decide_eq_true ((HMK.out k).1 hlt).1
        have d2 : decide ((k : Int) < 64) = true := decide_eq_true (by have := ((HMK.out k).1 hlt).2; omega)
        have z1 : (dgB k (bitG 0)).size ≤ 100000 := by rw [dgB_size]; omega
        have HS : Hid (dgB (k + 1) (bitG 0) = dgB k (bitG 0) ++ numStr [48]) := by
          show _ = _
          rw [dgB_s, show bitG 0 k = 0 by simp [bitG]]
          rfl
        have z3 : (numStr [48]).size = 1 := rfl
        have C1 := hidden (CB.out 0)
        rw [show ((48 : Int) + 0) % 256 = 48 by decide, show (48 : Int) + 0 = 48 by decide] at C1
        generalize numStr [48] = dd at *
        generalize dgB k (bitG 0) = cur at *
        go_wp2_with fail
        refine (C1.out _).mono ?_
        rintro e w2 ⟨rfl, hb⟩
        have HB2 := hidden (bthen HB.out hb)
        clear hb
        go_wp2
        go_roundw
        case rel => exact ⟨k + 1, by omega, by go_num, by rw [HS.out], rfl, HB2.out⟩
        case measure => simp [intV]; omega
      · obtain rfl : k = M := by omega
        have hno := fun q => hlt ((HMK.out k).2 q)
        by_cases hw1 : (k : Int) < width
        · have d1 : decide ((k : Int) < width) = true := decide_eq_true hw1
          have d2 : decide ((k : Int) < 64) = false := decide_eq_false (fun q => hno ⟨hw1, by omega⟩)
          clear hno
          go_wp2
          go_ret
          exact ⟨rfl, HB.out⟩
        · have d1 : decide ((k : Int) < width) = false := decide_eq_false hw1
          clear hno
          go_wp2
          go_ret
          exact ⟨rfl, HB.out⟩
  · obtain rfl : n = (m : Int) := by omega
    clear hm
    go_enter Try.func57, Try.ntmps57
    go_wp2
    go_loopw [0, 5, 6] (fun c a i wr => ∃ k : Nat, k ≤ M ∧ i = .int .i64 k ∧ a = .string (dgB k (bitG m)) ∧ c = .int .i64 ((m / 2 ^ k : Nat) : Int) ∧ Below w.heap.size w wr) (fun _ _ i _ => M - (intV i).toNat)
    case atStart => exact ⟨0, Nat.zero_le _, rfl, rfl, by simp, Below.refl _ _⟩
    case round =>
      obtain ⟨k, hk, rfl, rfl, rfl, hB⟩ := hrel
      have HB := hidden hB
      clear hB
      by_cases hlt : k < M
      · have d1 : decide ((k : Int) < width) = true := decide_eq_true ((HMK.out k).1 hlt).1
        have d2 : decide ((k : Int) < 64) = true := decide_eq_true (by have := ((HMK.out k).1 hlt).2; omega)
        have z1 : (dgB k (bitG m)).size ≤ 100000 := by rw [dgB_size]; omega
        have hbd := bitG_bd m k
        have hle : m / 2 ^ k ≤ m := Nat.div_le_self _ _
        have HN : Hid (m / 2 ^ (k + 1) = m / 2 ^ k / 2) := by show _ = _; rw [Nat.pow_succ, Nat.div_div_eq_div_mul]
        have HQ : Hid (bitG m k = m / 2 ^ k % 2) := rfl
        have HS : Hid (dgB (k + 1) (bitG m) = dgB k (bitG m) ++ ba [UInt8.ofNat (48 + bitG m k)]) := dgB_s k (bitG m)
        have z3 : (ba [UInt8.ofNat (48 + bitG m k)]).size = 1 := rfl
        have C1 := hidden (CB.out (bitG m k : Int))
        have HE : Hid (numStr [(48 + (bitG m k : Int)) % 256] = ba [UInt8.ofNat (48 + bitG m k)]) := by
          show _ = _
          rw [numStr_one, show ((48 + (bitG m k : Int)) % 256).toNat = 48 + bitG m k by omega]
        rw [HE.out] at C1
        clear HE
        generalize ba [UInt8.ofNat (48 + bitG m k)] = dd at *
        generalize dgB k (bitG m) = cur at *
        generalize m / 2 ^ k = q at *
        have t1 : (q : Int).tmod 2 = (bitG m k : Int) := by rw [Int.tmod_eq_emod_of_nonneg (by omega), HQ.out]; omega
        have t2 : (q : Int).tdiv 2 = ((q / 2 : Nat) : Int) := by rw [Int.tdiv_eq_ediv_of_nonneg (by omega)]; omega
        generalize bitG m k = z at *
        have h3 : q / 2 ≤ 4611686018427387903 := by omega
        generalize hq2 : q / 2 = q2 at *
        have HQ2 := hidden hq2
        clear hq2
        go_wp2_with fail
        refine (C1.out _).mono ?_
        rintro e w2 ⟨rfl, hb⟩
        have HB2 := hidden (bthen HB.out hb)
        clear hb
        go_wp2
        go_roundw
        case rel => exact ⟨k + 1, by omega, by go_num, by rw [HS.out], by rw [HN.out], HB2.out⟩
        case measure => simp [intV]; omega
      · obtain rfl : k = M := by omega
        have hno := fun q => hlt ((HMK.out k).2 q)
        generalize m / 2 ^ k = q at *
        by_cases hw1 : (k : Int) < width
        · have d1 : decide ((k : Int) < width) = true := decide_eq_true hw1
          have d2 : decide ((k : Int) < 64) = false := decide_eq_false (fun q => hno ⟨hw1, by omega⟩)
          clear hno
          go_wp2
          go_ret
          exact ⟨rfl, HB.out⟩
        · have d1 : decide ((k : Int) < width) = false := decide_eq_false hw1
          clear hno
          go_wp2
          go_ret
          exact ⟨rfl, HB.out⟩
set_option maxHeartbeats 4000000 in
theorem rVStep_any (n f d p r dr o sl md fr : Int) (ad : Option Addr) (cap : Nat) (zs : List Int) (x : Int) (codes told : ByteArray) (a2 : Option Addr) (c2 : Nat) (votes : List ByteArray) (w : World) (hl : zs.length ≤ 9223372036854775807) (hT : Tab w ad zs) (hx : (Lit.int .i64 x).wf = true)
    (hs1 : codes.size ≤ 100000) (hs2 : told.size ≤ 9223372036854775807) (hn : votes.length ≤ 100000) (hV : kStr.Lies w.heap.size w (.slice a2 votes.length c2) votes) (hz : ∀ t ∈ votes, t.size ≤ 9223372036854775807) :
    Calls Try.prog 67 #[.agg #[.int .i64 n, .int .i64 f, .int .i64 d, .int .i64 p, .int .i64 r, .int .i64 dr, .int .i64 o, .int .i64 sl, .int .i64 md, .int .i64 fr, .slice ad zs.length cap], .int .i64 x, .string codes, .string told, .slice a2 votes.length c2] w fun e w' => e = .returned (.string (dgB codes.size (stpG (plainE n f d p r dr o sl md fr zs) n f x codes told votes))) ∧ Below w.heap.size w w' := by
  have HT := hidden (hT.below (ballc w (.cells #[.int .i64 n, .int .i64 f, .int .i64 d, .int .i64 p, .int .i64 r, .int .i64 dr, .int .i64 o, .int .i64 sl, .int .i64 md, .int .i64 fr, .slice ad zs.length cap] 24)))
  have HV := hidden (hV.later (ballc w (.cells #[.int .i64 n, .int .i64 f, .int .i64 d, .int .i64 p, .int .i64 r, .int .i64 dr, .int .i64 o, .int .i64 sl, .int .i64 md, .int .i64 fr, .slice ad zs.length cap] 24)))
  have HK := hidden (blk_nw w #[.int .i64 n, .int .i64 f, .int .i64 d, .int .i64 p, .int .i64 r, .int .i64 dr, .int .i64 o, .int .i64 sl, .int .i64 md, .int .i64 fr, .slice ad zs.length cap] 24)
  have HB0 := hidden (ballc w (.cells #[.int .i64 n, .int .i64 f, .int .i64 d, .int .i64 p, .int .i64 r, .int .i64 dr, .int .i64 o, .int .i64 sl, .int .i64 md, .int .i64 fr, .slice ad zs.length cap] 24))
  have HZ := hidden hz
  obtain ⟨i0, hi, hz0, hz1, hz2⟩ := info_of infoInt
  clear hT hV hz
  go_enter Try.func67, Try.ntmps67
  go_wp2
  generalize w.alloc (.cells #[.int .i64 n, .int .i64 f, .int .i64 d, .int .i64 p, .int .i64 r, .int .i64 dr, .int .i64 o, .int .i64 sl, .int .i64 md, .int .i64 fr, .slice ad zs.length cap] 24) = wa at *
  go_loopw [11, 12] (fun a i wr => ∃ k : Nat, k ≤ codes.size ∧ i = .int .i64 k ∧ a = .string (dgB k (stpG (plainE n f d p r dr o sl md fr zs) n f x codes told votes)) ∧ Below wa.heap.size wa wr) (fun _ i _ => codes.size - (intV i).toNat)
  case atStart => exact ⟨0, Nat.zero_le _, rfl, rfl, Below.refl _ _⟩
  case round =>
    obtain ⟨k, hk, rfl, rfl, hB⟩ := hrel
    have HB := hidden hB
    clear hB
    by_cases hlt : k < codes.size
    · have i2 : (k : Int) < (codes.size : Int) := by omega
      have z1 : (dgB k (stpG (plainE n f d p r dr o sl md fr zs) n f x codes told votes)).size ≤ 100000 := by rw [dgB_size]; omega
      have HS : Hid (dgB (k + 1) (stpG (plainE n f d p r dr o sl md fr zs) n f x codes told votes) = dgB k (stpG (plainE n f d p r dr o sl md fr zs) n f x codes told votes) ++ ba [UInt8.ofNat (48 + stpG (plainE n f d p r dr o sl md fr zs) n f x codes told votes k)]) := dgB_s k _
      generalize hcur : dgB k (stpG (plainE n f d p r dr o sl md fr zs) n f x codes told votes) = cur at *
      have HCUR := hidden hcur
      clear hcur
      obtain ⟨wY, rfl⟩ : ∃ wY, wY = wr := ⟨_, rfl⟩
      go_wp2
      go_loopw [13, 14] (fun a i wr => ∃ j : Nat, j ≤ votes.length ∧ i = .int .i64 j ∧ wr.ownsRow wY.heap.size 3 1 a j (kInt.flat (votesP (votes.take j) k)) ∧ Below wY.heap.size wY wr) (fun _ i _ => votes.length - (intV i).toNat)
      case atStart => exact ⟨0, Nat.zero_le _, rfl, World.ownsRow_nil _ _ _ _, Below.refl _ _⟩
      case round =>
        obtain ⟨j, hj, rfl, hown, hB⟩ := hrel
        have HBj := hidden hB
        have HO := hidden hown
        have hBB := bthen HB.out hB
        by_cases hjl : j < votes.length
        · have j2 : (j : Int) < (votes.length : Int) := by omega
          obtain ⟨b, off, rfl, hbl, e0⟩ := kStr_at (HV.out.later hBB) j hjl
          have hm : votes.getD j noB ∈ votes := by rw [List.getD_eq_getElem?_getD, List.getElem?_eq_getElem hjl, Option.getD_some]; exact List.getElem_mem hjl
          have C1 := hidden (fun V => rVote_any (votes.getD j noB) k V (HZ.out _ hm))
          have HTK : Hid (votesP (votes.take (j + 1)) k = votesP (votes.take j) k ++ [vdg 2 (votes.getD j noB) k]) := by
            show _ = _
            unfold votesP
            rw [List.take_succ_eq_append_getElem hjl, List.map_append, List.getD_eq_getElem?_getD, List.getElem?_eq_getElem hjl, Option.getD_some]
            rfl
          clear hB hown hBB hm
          generalize vdg 2 (votes.getD j noB) k = z at *
          generalize votes.getD j noB = t at *
          go_wp2_with (first
            | (go_at_call 106; refine (C1.out _).mono ?_; rintro e w4 ⟨rfl, rfl⟩)
            | (at_builtin; refine kInt.wpList_append _ rfl (.tmp 27) (.tmp 34) 22 rfl wY.heap.size 3 i0 (.int .i64 0) 8 Try.underlying22 hi hz0 hz1 hz2 rfl u13 j _ rfl (HO.out.alloc _) (.slice (some ⟨wr.heap.size, 0, none⟩) 1 1) [z] rfl (Kind.Lies.of_block (K := kInt) (es := [z]) (heap_alloc_new wr _) (by simp [maxLen])) (by simp only [maxLen, List.length_singleton]; omega) (by simp only [List.length_singleton]; omega) (by have := HBj.out.size; simp; omega) ?_; intro v3 w3 hown3 hgrow3 _))
          have hB3 : Below wY.heap.size wY w3 := (HBj.out.alloc HBj.out.size _).grown hgrow3 (by have := HBj.out.size; simp; omega) (own_from HO.out)
          have hrow : w3.ownsRow wY.heap.size 3 1 v3 (j + 1) (kInt.flat (votesP (votes.take (j + 1)) k)) := by
            rw [HTK.out, Kind.flat_append]
            exact hown3
          go_roundw
          case rel => exact ⟨j + 1, by omega, by go_num, hrow, hB3⟩
          case measure => simp [intV]; omega
        · obtain rfl : j = votes.length := by omega
          rw [List.take_length] at hown
          obtain ⟨al, cl, rfl⟩ := own_slice hown
          have hli := hidden (Kind.Lies.of_own (K := kInt) (es := votesP votes k) (by rw [votesP_len]; exact hown))
          have HBB := hidden hBB
          have HKr := hidden (blk_later HK.out hBB)
          have c0 := fun i => blk_cell HKr.out i
          have l0 := blk_lt HKr.out
          have HTr := hidden (HT.out.below hBB)
          have i1 : (0 : Int) ≤ (k : Int) := by omega
          have C1 := hidden (fun V => rcode_any codes k hlt V)
          have C2 := hidden (fun V => rVote_any told k V hs2)
          have C3 := hidden (fun V h1 h2 => rKStep_any n f d p r dr o sl md fr ad cap zs x (bitK codes k) (vdg 2 told k) al votes.length cl (votesP votes k) V hl h1 hx (by rw [votesP_len]; omega) h2)
          have C4 := hidden (fun V => rdigit_any (stpB (plainE n f d p r dr o sl md fr zs) n f x codes told votes k) V)
          have HR : Hid (stpB (plainE n f d p r dr o sl md fr zs) n f x codes told votes k = stepF (plainE n f d p r dr o sl md fr zs) n f x (bitK codes k) (vdg 2 told k) (votesP votes k)) := rfl
          rw [← HR.out] at C3
          have HG : Hid (48 + stpG (plainE n f d p r dr o sl md fr zs) n f x codes told votes k = 48 + (codeF (stpB (plainE n f d p r dr o sl md fr zs) n f x codes told votes k)).toNat) := rfl
          rw [HG.out] at HS
          clear HR HG hown hB hBB HO
          have z3 : (ba [UInt8.ofNat (48 + (codeF (stpB (plainE n f d p r dr o sl md fr zs) n f x codes told votes k)).toNat)]).size = 1 := rfl
          generalize ba [UInt8.ofNat (48 + (codeF (stpB (plainE n f d p r dr o sl md fr zs) n f x codes told votes k)).toNat)] = dd at *
          generalize stpB (plainE n f d p r dr o sl md fr zs) n f x codes told votes k = q at *
          generalize hvp : votesP votes k = vp at *
          generalize bitK codes k = bk at *
          generalize vdg 2 told k = td at *
          obtain ⟨bv, bs⟩ := bk
          obtain ⟨qv, qs⟩ := q
          unfold agB at C1 C3
          dsimp only at C1 C3 C4
          have HBw := hidden (bthen HB0.out HBB.out)
          go_wp2
          refine wp_region_quiet_below (by kernel_rfl) (by kernel_rfl) ?_
          repeat (go_big_quiet_step (first
            | (go_at_call 90; exact Calls.regrown_of (C1.out _))
            | (go_at_call 106; exact Calls.regrown_of (Calls.to_below (C2.out _)))
            | (go_at_call 107; exact Calls.regrown_of (C3.out _ (HTr.out.below (below_regrown _ _ _)) (hli.out.later (below_regrown _ _ _))))
            | (go_at_call 99; exact Calls.regrown_of (C4.out _))))
          refine wpQuiet_nil ?_
          intro w6 hw6
          have HB6 := hidden (bthen HBB.out (rg_below hw6))
          clear hw6 c0 l0
          go_wp2
          go_roundw
          case rel => exact ⟨k + 1, by omega, by go_num, by rw [HS.out], HB6.out⟩
          case measure => simp [intV]; omega
    · obtain rfl : k = codes.size := by omega
      go_wp2
      go_ret
      exact ⟨rfl, bthen HB0.out HB.out⟩
end Go.Proofs.Ytohgmliafidalaa
