/- The call Held of package hold returns what a plain function gives, and makes at most new memory; conditions: the table and the row lie where they say, and their lengths fit int. -/
import Derived.Test.YtcnmbpgjgjncdaaHoldE
namespace Go.Proofs.Ytcnmbpgjgjncdaa
open Go.ChangeShapes Go.WideShapes Go.ChangeAt Go.RowKit
set_option linter.unusedVariables false

/-- How many are held of a node, as far as there is such a node and the list fits. -/
def heldF (E n d fm : Int) (hs : List ByteArray) : Int := if E = 0 ∧ (hs.length : Int) = n * d ∧ 0 ≤ fm ∧ fm < n then heldK d.toNat hs fm.toNat d.toNat else 0
theorem heldF_no {E n d fm : Int} {hs : List ByteArray} (h : ¬ (E = 0 ∧ (hs.length : Int) = n * d ∧ 0 ≤ fm ∧ fm < n)) : heldF E n d fm hs = 0 := if_neg h
theorem heldF_yes {N D i : Nat} {hs : List ByteArray} (hf : hs.length = N * D) (hi : i < N) : heldF 0 N D i hs = heldK D hs i D := by
  unfold heldF
  rw [if_pos ⟨rfl, by rw [hf]; rfl, by omega, by omega⟩]
  simp
theorem len_cast {len N D : Nat} : ((len : Int) = (N : Int) * (D : Int)) ↔ len = N * D := by
  rw [← Int.natCast_mul]; omega
set_option maxHeartbeats 2000000 in
theorem Held_no (n f d p r dr o sl md fr : Int) (ad : Option Addr) (cap : Nat) (zs : List Int) (a2 : Option Addr) (len c2 : Nat) (fm : Int) (w : World) (hl : zs.length ≤ 9223372036854775807) (hT : Tab w ad zs) (hE : ¬ plainE n f d p r dr o sl md fr zs = 0) :
    Calls Try.prog 42 #[.agg #[.int .i64 n, .int .i64 f, .int .i64 d, .int .i64 p, .int .i64 r, .int .i64 dr, .int .i64 o, .int .i64 sl, .int .i64 md, .int .i64 fr, .slice ad zs.length cap], .slice a2 len c2, .int .i64 fm] w fun e w' => e = .returned (.int .i64 0) ∧ Below w.heap.size w w' := by
  have C1 := fun V h => plain_any n f d p r dr o sl md fr ad cap zs V hl h
  generalize plainE n f d p r dr o sl md fr zs = E at *
  have hE' : (E != 0) = true := by simp [hE]
  have HT := hidden (hT.below (ballc w (.cells #[.int .i64 n, .int .i64 f, .int .i64 d, .int .i64 p, .int .i64 r, .int .i64 dr, .int .i64 o, .int .i64 sl, .int .i64 md, .int .i64 fr, .slice ad zs.length cap] 24)))
  clear hT hE
  go_enter Try.func42, Try.ntmps42
  go_wp2_with fail
  refine (C1 _ HT.out).mono ?_
  rintro e w1 ⟨rfl, hb⟩
  go_wp2
  go_ret
  exact ⟨rfl, bthen (ballc w _) hb⟩
set_option maxHeartbeats 2000000 in
theorem Held_out (N : Nat) (f : Int) (D : Nat) (p r dr o sl md fr : Int) (ad : Option Addr) (cap : Nat) (zs : List Int) (a2 : Option Addr) (len c2 : Nat) (fm : Int) (w : World) (hl : zs.length ≤ 9223372036854775807) (hT : Tab w ad zs) (hE : plainE (N : Int) f (D : Int) p r dr o sl md fr zs = 0) (hlen : len ≤ 9223372036854775807) (hf : ¬ len = N * D ∨ fm < 0 ∨ (N : Int) ≤ fm) :
    Calls Try.prog 42 #[.agg #[.int .i64 (N : Int), .int .i64 f, .int .i64 (D : Int), .int .i64 p, .int .i64 r, .int .i64 dr, .int .i64 o, .int .i64 sl, .int .i64 md, .int .i64 fr, .slice ad zs.length cap], .slice a2 len c2, .int .i64 fm] w fun e w' => e = .returned (.int .i64 0) ∧ Below w.heap.size w w' := by
  obtain ⟨n1, n2, d1, d2⟩ := ND_caps N f D p r dr o sl md fr ad cap zs hE
  have C1 := fun V h => plain_any (N : Int) f (D : Int) p r dr o sl md fr ad cap zs V hl h
  have C2 := fun V => fits_any N f D p r dr o sl md fr ad cap zs a2 len c2 V n2 d2 hlen
  rw [hE] at C1
  have HT := hidden (hT.below (ballc w (.cells #[.int .i64 (N : Int), .int .i64 f, .int .i64 (D : Int), .int .i64 p, .int .i64 r, .int .i64 dr, .int .i64 o, .int .i64 sl, .int .i64 md, .int .i64 fr, .slice ad zs.length cap] 24)))
  clear hT hE n1 n2 d1 d2
  by_cases h1 : len = N * D
  · rw [decide_eq_true h1] at C2
    by_cases h2 : fm < 0
    · have i1 : decide (fm < 0) = true := by simp [h2]
      clear hf h1
      go_enter Try.func42, Try.ntmps42
      go_wp2_with fail
      refine (C1 _ HT.out).mono ?_
      rintro e w1 ⟨rfl, hb⟩
      obtain ⟨hbox, hsz⟩ := box_at hb
      have HB1 := hidden hb
      clear hb C1
      go_wp2_with fail
      refine (C2 _).mono ?_
      rintro e w2 ⟨rfl, hb⟩
      go_wp2
      go_ret
      exact ⟨rfl, bthen (ballc w _) (bthen HB1.out hb)⟩
    · have i1 : decide (fm < 0) = false := by simp; omega
      have h3 : (N : Int) ≤ fm := by omega
      have i2 : decide ((N : Int) ≤ fm) = true := by simp [h3]
      clear hf h1
      go_enter Try.func42, Try.ntmps42
      go_wp2_with fail
      refine (C1 _ HT.out).mono ?_
      rintro e w1 ⟨rfl, hb⟩
      obtain ⟨hbox, hsz⟩ := box_at hb
      have HB1 := hidden hb
      clear hb C1
      go_wp2_with fail
      refine (C2 _).mono ?_
      rintro e w2 ⟨rfl, hb⟩
      have hb2 := bthen HB1.out hb
      have HB2 := hidden hb2
      clear hbox hsz
      obtain ⟨hbox, hsz⟩ := box_at hb2
      clear hb hb2
      go_wp2
      go_ret
      exact ⟨rfl, bthen (ballc w _) HB2.out⟩
  · rw [decide_eq_false h1] at C2
    clear hf h1
    go_enter Try.func42, Try.ntmps42
    go_wp2_with fail
    refine (C1 _ HT.out).mono ?_
    rintro e w1 ⟨rfl, hb⟩
    obtain ⟨hbox, hsz⟩ := box_at hb
    have HB1 := hidden hb
    clear hb C1
    go_wp2_with fail
    refine (C2 _).mono ?_
    rintro e w2 ⟨rfl, hb⟩
    go_wp2
    go_ret
    exact ⟨rfl, bthen (ballc w _) (bthen HB1.out hb)⟩
set_option maxHeartbeats 4000000 in
theorem Held_ok (N : Nat) (f : Int) (D : Nat) (p r dr o sl md fr : Int) (ad : Option Addr) (cap : Nat) (zs : List Int) (a2 : Option Addr) (len c2 : Nat) (hs : List ByteArray) (i : Nat) (w : World) (hl : zs.length ≤ 9223372036854775807) (hT : Tab w ad zs) (hE : plainE (N : Int) f (D : Int) p r dr o sl md fr zs = 0) (hf : hs.length = N * D) (hi : i < N) (hL : kStr.Lies w.heap.size w (.slice a2 len c2) hs) :
    Calls Try.prog 42 #[.agg #[.int .i64 (N : Int), .int .i64 f, .int .i64 (D : Int), .int .i64 p, .int .i64 r, .int .i64 dr, .int .i64 o, .int .i64 sl, .int .i64 md, .int .i64 fr, .slice ad zs.length cap], .slice a2 len c2, .int .i64 (i : Int)] w fun e w' => e = .returned (.int .i64 (heldK D hs i D : Int)) ∧ Below w.heap.size w w' := by
  obtain ⟨n1, n2, d1, d2⟩ := ND_caps N f D p r dr o sl md fr ad cap zs hE
  have hm := mul_cast n2 d2
  obtain rfl := hL.len
  have hpos : 0 < hs.length := by rw [hf]; exact Nat.mul_pos (by omega) (by omega)
  obtain ⟨hc1, hc2⟩ := kStr_caps hL
  obtain ⟨b, off, rfl, hbl, _⟩ := kStr_at hL 0 hpos
  have C1 := fun V h => plain_any (N : Int) f (D : Int) p r dr o sl md fr ad cap zs V hl h
  have C2 := fun V => fits_any N f D p r dr o sl md fr ad cap zs (some ⟨b, off, none⟩) hs.length c2 V n2 d2 (by omega)
  have C4 := fun V => ofNode_any N f D p r dr o sl md fr ad cap zs b off hs.length c2 i V n2 d2 d1 hi hf hc1 hc2
  rw [hE] at C1
  rw [decide_eq_true hf] at C2
  have HT := hidden (hT.below (ballc w (.cells #[.int .i64 (N : Int), .int .i64 f, .int .i64 (D : Int), .int .i64 p, .int .i64 r, .int .i64 dr, .int .i64 o, .int .i64 sl, .int .i64 md, .int .i64 fr, .slice ad zs.length cap] 24)))
  have HL := hidden hL
  have HF := hidden hf
  have i1 : decide ((i : Int) < 0) = false := by simp
  have i2 : decide ((N : Int) ≤ (i : Int)) = false := by simp; omega
  have i3 : ¬ (N : Int) ≤ (i : Int) := by omega
  clear hT hE hf hL
  go_enter Try.func42, Try.ntmps42
  go_wp2_with fail
  refine (C1 _ HT.out).mono ?_
  rintro e w1 ⟨rfl, hb⟩
  obtain ⟨hbox, hsz⟩ := box_at hb
  have HB1 := hidden hb
  clear hb C1
  go_wp2_with fail
  refine (C2 _).mono ?_
  rintro e w2 ⟨rfl, hb⟩
  have hb2 := bthen HB1.out hb
  have HB2 := hidden hb2
  clear hbox hsz
  obtain ⟨hbox, hsz⟩ := box_at hb2
  clear hb hb2 C2 HB1
  go_wp2_with fail
  refine (C4 _).mono ?_
  rintro e w3 ⟨rfl, hb⟩
  have HB3 := hidden (bthen (ballc w _) (bthen HB2.out hb))
  clear hb C4 HB2 hbox hsz
  go_wp2
  go_loop [7, 34] (fun v c => ∃ k : Nat, k ≤ D ∧ v = .int .i64 (heldK D hs i k : Int) ∧ c = .int .i64 (k : Int)) (fun _ c => D - (intV c).toNat)
  case atStart => exact ⟨0, Nat.zero_le _, rfl, rfl⟩
  case round =>
    obtain ⟨k, hk, rfl, rfl⟩ := hrel
    have hkl := heldK_le D hs i k
    by_cases hlt : k < D
    · have i4 : (k : Int) < (D : Int) := by omega
      have i5 : (0 : Int) ≤ (k : Int) := by omega
      obtain ⟨b', off', hbo, _, hx⟩ := kStr_at HL.out (i * D + k) (by rw [HF.out]; exact mul_lt_place hi hlt)
      obtain ⟨rfl, rfl⟩ : b = b' ∧ off = off' := by simpa using hbo
      have hx3 := (HB3.out.cell (p := ⟨b, off + (i * D + k), none⟩) hbl).trans hx
      rw [← Nat.add_assoc] at hx3
      have hst := heldK_succ D hs i k
      have HST := hidden hst
      clear hx hbo hst
      generalize hs.getD (i * D + k) noB = X at hx3 HST
      generalize heldK D hs i k = H at *
      cases hX : emt X
      · have e1 : X.toList.isEmpty = false := hX
        have HX := hidden hX
        clear hX
        go_wp2
        go_round
        case rel => exact ⟨k + 1, by omega, by rw [HST.out, HX.out]; go_num, by go_num⟩
        case measure => simp [intV]; omega
      · have e1 : X.toList.isEmpty = true := hX
        have HX := hidden hX
        clear hX
        go_wp2
        go_round
        case rel => exact ⟨k + 1, by omega, by rw [HST.out, HX.out]; rfl, by go_num⟩
        case measure => simp [intV]; omega
    · obtain rfl : k = D := by omega
      go_wp2
      go_ret
      exact ⟨rfl, HB3.out⟩
theorem Held_any (n f d p r dr o sl md fr : Int) (ad : Option Addr) (cap : Nat) (zs : List Int) (a2 : Option Addr) (len c2 : Nat) (hs : List ByteArray) (fm : Int) (w : World) (hl : zs.length ≤ 9223372036854775807) (hT : Tab w ad zs) (hlen : hs.length ≤ 9223372036854775807) (hL : kStr.Lies w.heap.size w (.slice a2 len c2) hs) :
    Calls Try.prog 42 #[.agg #[.int .i64 n, .int .i64 f, .int .i64 d, .int .i64 p, .int .i64 r, .int .i64 dr, .int .i64 o, .int .i64 sl, .int .i64 md, .int .i64 fr, .slice ad zs.length cap], .slice a2 len c2, .int .i64 fm] w fun e w' => e = .returned (.int .i64 (heldF (plainE n f d p r dr o sl md fr zs) n d fm hs)) ∧ Below w.heap.size w w' := by
  by_cases hE : plainE n f d p r dr o sl md fr zs = 0
  · have hk := plainE_ok hE
    obtain ⟨N, rfl⟩ : ∃ N : Nat, n = (N : Int) := ⟨n.toNat, by omega⟩
    obtain ⟨D, rfl⟩ : ∃ D : Nat, d = (D : Int) := ⟨d.toNat, by omega⟩
    obtain rfl := hL.len
    by_cases h : hs.length = N * D ∧ 0 ≤ fm ∧ fm < (N : Int)
    · obtain ⟨i, rfl⟩ : ∃ i : Nat, fm = (i : Int) := ⟨fm.toNat, by omega⟩
      rw [hE, heldF_yes h.1 (by omega)]
      exact Held_ok N f D p r dr o sl md fr ad cap zs a2 _ c2 hs i w hl hT hE h.1 (by omega) hL
    · rw [heldF_no (fun k => h ⟨len_cast.1 k.2.1, k.2.2.1, k.2.2.2⟩)]
      refine Held_out N f D p r dr o sl md fr ad cap zs a2 _ c2 fm w hl hT hE hlen ?_
      by_cases e : hs.length = N * D
      · right
        by_cases e2 : fm < 0
        · exact .inl e2
        · right
          exact Int.not_lt.1 fun k => h ⟨e, by omega, k⟩
      · exact .inl e
  · rw [heldF_no (fun k => hE k.1)]
    exact Held_no n f d p r dr o sl md fr ad cap zs a2 len c2 fm w hl hT hE
end Go.Proofs.Ytcnmbpgjgjncdaa
