/- The document's call Put for frames that wait returns what a plain function gives, in memory of its own, and makes at most new memory; conditions: the table and the row lie where they say, and their lengths fit int. -/
import Derived.Test.YtcnmbpgjgjncdaaHoldH
import Derived.Test.YtcnmbpgjgjncdaaHoldT
namespace Go.Proofs.Ytcnmbpgjgjncdaa
open Go.ChangeShapes Go.WideShapes Go.ChangeAt Go.RowKit
set_option linter.unusedVariables false

theorem kStr_head {n₀ : Nat} {W : World} {b o len cap : Nat} {hs : List ByteArray} (hL : kStr.Lies n₀ W (.slice (some ⟨b, o, none⟩) len cap) hs) (Q : Nat) (h2 : Q ≤ hs.length) :
    (∀ V : World, (Instr.slice 39 (.slice (some ⟨b, o, none⟩) len cap) none (some (.int .i64 (Q : Int))) none).run Try.prog V = .ok (.slice (some ⟨b, o, none⟩) Q cap) V) ∧ kStr.Lies n₀ W (.slice (some ⟨b, o, none⟩) Q cap) (hs.take Q) := by
  obtain ⟨hc1, hc2⟩ := kStr_caps hL
  obtain rfl := hL.len
  refine ⟨fun V => ?_, hL.take Q h2⟩
  have ht : Try.prog.underlying 39 = some (.slice (Try.prog.elem 39)) := by kernel_rfl
  rw [run_slice_h V 39 _ hs.length cap ht .i64 Q (by omega) (by omega)]
  have hz : (sizeOf (Try.prog.elem 39)).run Try.prog V = .ok 1 V := rfl
  rw [hz]
  simp only [Result.andThen, sliced, Int.toNat_natCast]
  simp [Addr.add]
theorem kStr_from {n₀ : Nat} {W : World} {b o len cap : Nat} {hs : List ByteArray} (hL : kStr.Lies n₀ W (.slice (some ⟨b, o, none⟩) len cap) hs) (L : Nat) (h2 : L ≤ hs.length) :
    ∃ sp, (∀ V : World, (Instr.slice 39 (.slice (some ⟨b, o, none⟩) len cap) (some (.int .i64 (L : Int))) none none).run Try.prog V = .ok (.slice sp (len - L) (cap - L)) V) ∧ kStr.Lies n₀ W (.slice sp (len - L) (cap - L)) (hs.drop L) := by
  obtain ⟨hc1, hc2⟩ := kStr_caps hL
  obtain rfl := hL.len
  refine ⟨if cap = L then some ⟨b, o, none⟩ else some ⟨b, o + L, none⟩, fun V => ?_, ?_⟩
  · have ht : Try.prog.underlying 39 = some (.slice (Try.prog.elem 39)) := by kernel_rfl
    rw [run_slice_l V 39 _ hs.length cap ht .i64 L (by omega) (by omega)]
    have hz : (sizeOf (Try.prog.elem 39)).run Try.prog V = .ok 1 V := rfl
    rw [hz]
    simp only [Result.andThen, sliced, Int.toNat_natCast]
    by_cases h : cap = L
    · simp [h]
    · have e : (⟨b, o, none⟩ : Addr).add L = ⟨b, o + L, none⟩ := add_plain _ _ _
      simp [h, e]
  · by_cases h : cap = L
    · have e1 : hs.length - L = 0 := by omega
      have e3 : hs.drop L = [] := List.drop_eq_nil_of_le (by omega)
      rw [if_pos h, e1, e3]
      refine ⟨_, _, rfl, Nat.zero_le _, by unfold maxLen; omega, fun h => (by cases h), fun hj => absurd hj (Nat.not_lt_zero _)⟩
    · rw [if_neg h]
      have hd := hL.drop L (by omega)
      have e2 : L * kStr.k = L := Nat.mul_one L
      rw [e2] at hd
      exact hd
theorem Hid3 {q : Prop} (h : Hid q) : q := h
set_option maxHeartbeats 2000000 in
theorem rput12_1 (N : Nat) (f : Int) (D : Nat) (p r dr o sl md fr : Int) (ad : Option Addr) (cap : Nat) (zs : List Int) (a2 : Option Addr) (len c2 : Nat) (fm ag : Int) (s : ByteArray) (w : World) (hl : zs.length ≤ 9223372036854775807) (hT : Tab w ad zs) (hE : plainE (N : Int) f (D : Int) p r dr o sl md fr zs = 0) (hlen : len ≤ 9223372036854775807) (hs : s.size ≤ 9223372036854775807) (hf : ¬ len = N * D) :
    Calls Try.prog 19 #[.agg #[.int .i64 (N : Int), .int .i64 f, .int .i64 (D : Int), .int .i64 p, .int .i64 r, .int .i64 dr, .int .i64 o, .int .i64 sl, .int .i64 md, .int .i64 fr, .slice ad zs.length cap], .slice a2 len c2, .int .i64 fm, .int .i64 ag, .string s] w fun e w' => e = .returned (.tuple #[.slice none 0 0, .int .i64 2]) ∧ Below w.heap.size w w' := by
  obtain ⟨n1, n2, d1, d2⟩ := ND_caps N f D p r dr o sl md fr ad cap zs hE
  have C1 := fun V h => refPlain_any (N : Int) f (D : Int) p r dr o sl md fr ad cap zs V hl h
  have C2 := fun V h => rFits_ok N f D p r dr o sl md fr ad cap zs a2 len c2 V hl h hE hlen
  rw [hE] at C1
  have HT := hidden (hT.below (ballc w (.cells #[.int .i64 (N : Int), .int .i64 f, .int .i64 (D : Int), .int .i64 p, .int .i64 r, .int .i64 dr, .int .i64 o, .int .i64 sl, .int .i64 md, .int .i64 fr, .slice ad zs.length cap] 24)))
  rw [decide_eq_false hf] at C2
  clear hf
  clear hT hE n1 n2 d1 d2
  go_enter Try.func19, Try.ntmps19
  go_wp2_with fail
  refine (C1 _ HT.out).mono ?_
  rintro e w1 ⟨rfl, hb⟩
  obtain ⟨hbox, hsz⟩ := box_at hb
  have HB1 := hidden hb
  have HT1 := hidden (HT.out.below hb)
  clear hb C1
  go_wp2_with fail
  refine (C2 _ HT1.out).mono ?_
  rintro e w2 ⟨rfl, hb⟩
  have hb2 := bthen HB1.out hb
  have HB2 := hidden hb2
  clear hbox hsz
  obtain ⟨hbox, hsz⟩ := box_at hb2
  clear hb hb2 C2 HB1 HT1
  go_wp2
  go_ret2
  exact ⟨rfl, bthen (ballc w _) HB2.out⟩
set_option maxHeartbeats 2000000 in
theorem rput12_2a (N : Nat) (f : Int) (D : Nat) (p r dr o sl md fr : Int) (ad : Option Addr) (cap : Nat) (zs : List Int) (a2 : Option Addr) (len c2 : Nat) (fm ag : Int) (s : ByteArray) (w : World) (hl : zs.length ≤ 9223372036854775807) (hT : Tab w ad zs) (hE : plainE (N : Int) f (D : Int) p r dr o sl md fr zs = 0) (hlen : len ≤ 9223372036854775807) (hs : s.size ≤ 9223372036854775807) (hf : len = N * D) (h2 : fm < 0) :
    Calls Try.prog 19 #[.agg #[.int .i64 (N : Int), .int .i64 f, .int .i64 (D : Int), .int .i64 p, .int .i64 r, .int .i64 dr, .int .i64 o, .int .i64 sl, .int .i64 md, .int .i64 fr, .slice ad zs.length cap], .slice a2 len c2, .int .i64 fm, .int .i64 ag, .string s] w fun e w' => e = .returned (.tuple #[.slice none 0 0, .int .i64 7]) ∧ Below w.heap.size w w' := by
  obtain ⟨n1, n2, d1, d2⟩ := ND_caps N f D p r dr o sl md fr ad cap zs hE
  have C1 := fun V h => refPlain_any (N : Int) f (D : Int) p r dr o sl md fr ad cap zs V hl h
  have C2 := fun V h => rFits_ok N f D p r dr o sl md fr ad cap zs a2 len c2 V hl h hE hlen
  rw [hE] at C1
  have HT := hidden (hT.below (ballc w (.cells #[.int .i64 (N : Int), .int .i64 f, .int .i64 (D : Int), .int .i64 p, .int .i64 r, .int .i64 dr, .int .i64 o, .int .i64 sl, .int .i64 md, .int .i64 fr, .slice ad zs.length cap] 24)))
  rw [decide_eq_true hf] at C2
  have HF := hidden hf
  clear hf
  have i1 : decide (fm < 0) = true := by simp [h2]
  clear hT hE n1 n2 d1 d2
  go_enter Try.func19, Try.ntmps19
  go_wp2_with fail
  refine (C1 _ HT.out).mono ?_
  rintro e w1 ⟨rfl, hb⟩
  obtain ⟨hbox, hsz⟩ := box_at hb
  have HB1 := hidden hb
  have HT1 := hidden (HT.out.below hb)
  clear hb C1
  go_wp2_with fail
  refine (C2 _ HT1.out).mono ?_
  rintro e w2 ⟨rfl, hb⟩
  have hb2 := bthen HB1.out hb
  have HB2 := hidden hb2
  clear hbox hsz
  obtain ⟨hbox, hsz⟩ := box_at hb2
  clear hb hb2 C2 HB1 HT1
  go_wp2
  go_ret2
  exact ⟨rfl, bthen (ballc w _) HB2.out⟩
set_option maxHeartbeats 2000000 in
theorem rput12_2b (N : Nat) (f : Int) (D : Nat) (p r dr o sl md fr : Int) (ad : Option Addr) (cap : Nat) (zs : List Int) (a2 : Option Addr) (len c2 : Nat) (fm ag : Int) (s : ByteArray) (w : World) (hl : zs.length ≤ 9223372036854775807) (hT : Tab w ad zs) (hE : plainE (N : Int) f (D : Int) p r dr o sl md fr zs = 0) (hlen : len ≤ 9223372036854775807) (hs : s.size ≤ 9223372036854775807) (hf : len = N * D) (h2 : ¬ fm < 0) (h3 : (N : Int) ≤ fm) :
    Calls Try.prog 19 #[.agg #[.int .i64 (N : Int), .int .i64 f, .int .i64 (D : Int), .int .i64 p, .int .i64 r, .int .i64 dr, .int .i64 o, .int .i64 sl, .int .i64 md, .int .i64 fr, .slice ad zs.length cap], .slice a2 len c2, .int .i64 fm, .int .i64 ag, .string s] w fun e w' => e = .returned (.tuple #[.slice none 0 0, .int .i64 7]) ∧ Below w.heap.size w w' := by
  obtain ⟨n1, n2, d1, d2⟩ := ND_caps N f D p r dr o sl md fr ad cap zs hE
  have C1 := fun V h => refPlain_any (N : Int) f (D : Int) p r dr o sl md fr ad cap zs V hl h
  have C2 := fun V h => rFits_ok N f D p r dr o sl md fr ad cap zs a2 len c2 V hl h hE hlen
  rw [hE] at C1
  have HT := hidden (hT.below (ballc w (.cells #[.int .i64 (N : Int), .int .i64 f, .int .i64 (D : Int), .int .i64 p, .int .i64 r, .int .i64 dr, .int .i64 o, .int .i64 sl, .int .i64 md, .int .i64 fr, .slice ad zs.length cap] 24)))
  rw [decide_eq_true hf] at C2
  have HF := hidden hf
  clear hf
  have i1 : decide (fm < 0) = false := by simp; omega
  have i2 : decide ((N : Int) ≤ fm) = true := by simp [h3]
  clear hT hE n1 n2 d1 d2
  go_enter Try.func19, Try.ntmps19
  go_wp2_with fail
  refine (C1 _ HT.out).mono ?_
  rintro e w1 ⟨rfl, hb⟩
  obtain ⟨hbox, hsz⟩ := box_at hb
  have HB1 := hidden hb
  have HT1 := hidden (HT.out.below hb)
  clear hb C1
  go_wp2_with fail
  refine (C2 _ HT1.out).mono ?_
  rintro e w2 ⟨rfl, hb⟩
  have hb2 := bthen HB1.out hb
  have HB2 := hidden hb2
  clear hbox hsz
  obtain ⟨hbox, hsz⟩ := box_at hb2
  clear hb hb2 C2 HB1 HT1
  go_wp2
  go_ret2
  exact ⟨rfl, bthen (ballc w _) HB2.out⟩
set_option maxHeartbeats 2000000 in
theorem rput12_3a (N : Nat) (f : Int) (D : Nat) (p r dr o sl md fr : Int) (ad : Option Addr) (cap : Nat) (zs : List Int) (a2 : Option Addr) (len c2 : Nat) (fm ag : Int) (s : ByteArray) (w : World) (hl : zs.length ≤ 9223372036854775807) (hT : Tab w ad zs) (hE : plainE (N : Int) f (D : Int) p r dr o sl md fr zs = 0) (hlen : len ≤ 9223372036854775807) (hs : s.size ≤ 9223372036854775807) (hf : len = N * D) (h2 : ¬ (fm < 0 ∨ (N : Int) ≤ fm)) (h3 : ag < 1) :
    Calls Try.prog 19 #[.agg #[.int .i64 (N : Int), .int .i64 f, .int .i64 (D : Int), .int .i64 p, .int .i64 r, .int .i64 dr, .int .i64 o, .int .i64 sl, .int .i64 md, .int .i64 fr, .slice ad zs.length cap], .slice a2 len c2, .int .i64 fm, .int .i64 ag, .string s] w fun e w' => e = .returned (.tuple #[.slice none 0 0, .int .i64 10]) ∧ Below w.heap.size w w' := by
  obtain ⟨n1, n2, d1, d2⟩ := ND_caps N f D p r dr o sl md fr ad cap zs hE
  have C1 := fun V h => refPlain_any (N : Int) f (D : Int) p r dr o sl md fr ad cap zs V hl h
  have C2 := fun V h => rFits_ok N f D p r dr o sl md fr ad cap zs a2 len c2 V hl h hE hlen
  rw [hE] at C1
  have HT := hidden (hT.below (ballc w (.cells #[.int .i64 (N : Int), .int .i64 f, .int .i64 (D : Int), .int .i64 p, .int .i64 r, .int .i64 dr, .int .i64 o, .int .i64 sl, .int .i64 md, .int .i64 fr, .slice ad zs.length cap] 24)))
  rw [decide_eq_true hf] at C2
  have HF := hidden hf
  clear hf
  have i1 : decide (fm < 0) = false := by simp; omega
  have i2 : decide ((N : Int) ≤ fm) = false := by simp; omega
  have k1 : ¬ fm < 0 := by omega
  have k2 : ¬ (N : Int) ≤ fm := by omega
  have i3 : decide (ag < 1) = true := by simp [h3]
  clear hT hE n1 n2 d1 d2
  go_enter Try.func19, Try.ntmps19
  go_wp2_with fail
  refine (C1 _ HT.out).mono ?_
  rintro e w1 ⟨rfl, hb⟩
  obtain ⟨hbox, hsz⟩ := box_at hb
  have HB1 := hidden hb
  have HT1 := hidden (HT.out.below hb)
  clear hb C1
  go_wp2_with fail
  refine (C2 _ HT1.out).mono ?_
  rintro e w2 ⟨rfl, hb⟩
  have hb2 := bthen HB1.out hb
  have HB2 := hidden hb2
  clear hbox hsz
  obtain ⟨hbox, hsz⟩ := box_at hb2
  clear hb hb2 C2 HB1 HT1
  go_wp2
  go_ret2
  exact ⟨rfl, bthen (ballc w _) HB2.out⟩
set_option maxHeartbeats 2000000 in
theorem rput12_3b (N : Nat) (f : Int) (D : Nat) (p r dr o sl md fr : Int) (ad : Option Addr) (cap : Nat) (zs : List Int) (a2 : Option Addr) (len c2 : Nat) (fm ag : Int) (s : ByteArray) (w : World) (hl : zs.length ≤ 9223372036854775807) (hT : Tab w ad zs) (hE : plainE (N : Int) f (D : Int) p r dr o sl md fr zs = 0) (hlen : len ≤ 9223372036854775807) (hs : s.size ≤ 9223372036854775807) (hf : len = N * D) (h2 : ¬ (fm < 0 ∨ (N : Int) ≤ fm)) (h3 : ¬ ag < 1) (h4 : (D : Int) < ag) :
    Calls Try.prog 19 #[.agg #[.int .i64 (N : Int), .int .i64 f, .int .i64 (D : Int), .int .i64 p, .int .i64 r, .int .i64 dr, .int .i64 o, .int .i64 sl, .int .i64 md, .int .i64 fr, .slice ad zs.length cap], .slice a2 len c2, .int .i64 fm, .int .i64 ag, .string s] w fun e w' => e = .returned (.tuple #[.slice none 0 0, .int .i64 10]) ∧ Below w.heap.size w w' := by
  obtain ⟨n1, n2, d1, d2⟩ := ND_caps N f D p r dr o sl md fr ad cap zs hE
  have C1 := fun V h => refPlain_any (N : Int) f (D : Int) p r dr o sl md fr ad cap zs V hl h
  have C2 := fun V h => rFits_ok N f D p r dr o sl md fr ad cap zs a2 len c2 V hl h hE hlen
  rw [hE] at C1
  have HT := hidden (hT.below (ballc w (.cells #[.int .i64 (N : Int), .int .i64 f, .int .i64 (D : Int), .int .i64 p, .int .i64 r, .int .i64 dr, .int .i64 o, .int .i64 sl, .int .i64 md, .int .i64 fr, .slice ad zs.length cap] 24)))
  rw [decide_eq_true hf] at C2
  have HF := hidden hf
  clear hf
  have i1 : decide (fm < 0) = false := by simp; omega
  have i2 : decide ((N : Int) ≤ fm) = false := by simp; omega
  have k1 : ¬ fm < 0 := by omega
  have k2 : ¬ (N : Int) ≤ fm := by omega
  have i3 : decide (ag < 1) = false := by simp; omega
  have i4 : decide ((D : Int) < ag) = true := by simp [h4]
  clear hT hE n1 n2 d1 d2
  go_enter Try.func19, Try.ntmps19
  go_wp2_with fail
  refine (C1 _ HT.out).mono ?_
  rintro e w1 ⟨rfl, hb⟩
  obtain ⟨hbox, hsz⟩ := box_at hb
  have HB1 := hidden hb
  have HT1 := hidden (HT.out.below hb)
  clear hb C1
  go_wp2_with fail
  refine (C2 _ HT1.out).mono ?_
  rintro e w2 ⟨rfl, hb⟩
  have hb2 := bthen HB1.out hb
  have HB2 := hidden hb2
  clear hbox hsz
  obtain ⟨hbox, hsz⟩ := box_at hb2
  clear hb hb2 C2 HB1 HT1
  go_wp2
  go_ret2
  exact ⟨rfl, bthen (ballc w _) HB2.out⟩
set_option maxHeartbeats 2000000 in
theorem rput12_4 (N : Nat) (f : Int) (D : Nat) (p r dr o sl md fr : Int) (ad : Option Addr) (cap : Nat) (zs : List Int) (a2 : Option Addr) (len c2 : Nat) (fm ag : Int) (s : ByteArray) (w : World) (hl : zs.length ≤ 9223372036854775807) (hT : Tab w ad zs) (hE : plainE (N : Int) f (D : Int) p r dr o sl md fr zs = 0) (hlen : len ≤ 9223372036854775807) (hs : s.size ≤ 9223372036854775807) (hf : len = N * D) (h2 : ¬ (fm < 0 ∨ (N : Int) ≤ fm)) (h3 : ¬ (ag < 1 ∨ (D : Int) < ag)) (h4 : emt s = true) :
    Calls Try.prog 19 #[.agg #[.int .i64 (N : Int), .int .i64 f, .int .i64 (D : Int), .int .i64 p, .int .i64 r, .int .i64 dr, .int .i64 o, .int .i64 sl, .int .i64 md, .int .i64 fr, .slice ad zs.length cap], .slice a2 len c2, .int .i64 fm, .int .i64 ag, .string s] w fun e w' => e = .returned (.tuple #[.slice none 0 0, .int .i64 5]) ∧ Below w.heap.size w w' := by
  obtain ⟨n1, n2, d1, d2⟩ := ND_caps N f D p r dr o sl md fr ad cap zs hE
  have C1 := fun V h => refPlain_any (N : Int) f (D : Int) p r dr o sl md fr ad cap zs V hl h
  have C2 := fun V h => rFits_ok N f D p r dr o sl md fr ad cap zs a2 len c2 V hl h hE hlen
  rw [hE] at C1
  have HT := hidden (hT.below (ballc w (.cells #[.int .i64 (N : Int), .int .i64 f, .int .i64 (D : Int), .int .i64 p, .int .i64 r, .int .i64 dr, .int .i64 o, .int .i64 sl, .int .i64 md, .int .i64 fr, .slice ad zs.length cap] 24)))
  rw [decide_eq_true hf] at C2
  have HF := hidden hf
  clear hf
  have i1 : decide (fm < 0) = false := by simp; omega
  have i2 : decide ((N : Int) ≤ fm) = false := by simp; omega
  have k1 : ¬ fm < 0 := by omega
  have k2 : ¬ (N : Int) ≤ fm := by omega
  have i3 : decide (ag < 1) = false := by simp; omega
  have i4 : decide ((D : Int) < ag) = false := by simp; omega
  have k3 : ¬ ag < 1 := by omega
  have k4 : ¬ (D : Int) < ag := by omega
  have e1 : s.toList.isEmpty = true := h4
  clear hT hE n1 n2 d1 d2
  go_enter Try.func19, Try.ntmps19
  go_wp2_with fail
  refine (C1 _ HT.out).mono ?_
  rintro e w1 ⟨rfl, hb⟩
  obtain ⟨hbox, hsz⟩ := box_at hb
  have HB1 := hidden hb
  have HT1 := hidden (HT.out.below hb)
  clear hb C1
  go_wp2_with fail
  refine (C2 _ HT1.out).mono ?_
  rintro e w2 ⟨rfl, hb⟩
  have hb2 := bthen HB1.out hb
  have HB2 := hidden hb2
  clear hbox hsz
  obtain ⟨hbox, hsz⟩ := box_at hb2
  clear hb hb2 C2 HB1 HT1
  go_wp2
  go_ret2
  exact ⟨rfl, bthen (ballc w _) HB2.out⟩
set_option maxHeartbeats 2000000 in
theorem rput12_5 (N : Nat) (f : Int) (D : Nat) (p r dr o sl md fr : Int) (ad : Option Addr) (cap : Nat) (zs : List Int) (a2 : Option Addr) (len c2 : Nat) (fm ag : Int) (s : ByteArray) (w : World) (hl : zs.length ≤ 9223372036854775807) (hT : Tab w ad zs) (hE : plainE (N : Int) f (D : Int) p r dr o sl md fr zs = 0) (hlen : len ≤ 9223372036854775807) (hs : s.size ≤ 9223372036854775807) (hf : len = N * D) (h2 : ¬ (fm < 0 ∨ (N : Int) ≤ fm)) (h3 : ¬ (ag < 1 ∨ (D : Int) < ag)) (h4 : emt s = false) (h5 : 40 < s.size) :
    Calls Try.prog 19 #[.agg #[.int .i64 (N : Int), .int .i64 f, .int .i64 (D : Int), .int .i64 p, .int .i64 r, .int .i64 dr, .int .i64 o, .int .i64 sl, .int .i64 md, .int .i64 fr, .slice ad zs.length cap], .slice a2 len c2, .int .i64 fm, .int .i64 ag, .string s] w fun e w' => e = .returned (.tuple #[.slice none 0 0, .int .i64 6]) ∧ Below w.heap.size w w' := by
  obtain ⟨n1, n2, d1, d2⟩ := ND_caps N f D p r dr o sl md fr ad cap zs hE
  have C1 := fun V h => refPlain_any (N : Int) f (D : Int) p r dr o sl md fr ad cap zs V hl h
  have C2 := fun V h => rFits_ok N f D p r dr o sl md fr ad cap zs a2 len c2 V hl h hE hlen
  rw [hE] at C1
  have HT := hidden (hT.below (ballc w (.cells #[.int .i64 (N : Int), .int .i64 f, .int .i64 (D : Int), .int .i64 p, .int .i64 r, .int .i64 dr, .int .i64 o, .int .i64 sl, .int .i64 md, .int .i64 fr, .slice ad zs.length cap] 24)))
  rw [decide_eq_true hf] at C2
  have HF := hidden hf
  clear hf
  have i1 : decide (fm < 0) = false := by simp; omega
  have i2 : decide ((N : Int) ≤ fm) = false := by simp; omega
  have k1 : ¬ fm < 0 := by omega
  have k2 : ¬ (N : Int) ≤ fm := by omega
  have i3 : decide (ag < 1) = false := by simp; omega
  have i4 : decide ((D : Int) < ag) = false := by simp; omega
  have k3 : ¬ ag < 1 := by omega
  have k4 : ¬ (D : Int) < ag := by omega
  have e1 : s.toList.isEmpty = false := h4
  have e2 : (40 : Int) < (s.size : Int) := by omega
  clear hT hE n1 n2 d1 d2
  go_enter Try.func19, Try.ntmps19
  go_wp2_with fail
  refine (C1 _ HT.out).mono ?_
  rintro e w1 ⟨rfl, hb⟩
  obtain ⟨hbox, hsz⟩ := box_at hb
  have HB1 := hidden hb
  have HT1 := hidden (HT.out.below hb)
  clear hb C1
  go_wp2_with fail
  refine (C2 _ HT1.out).mono ?_
  rintro e w2 ⟨rfl, hb⟩
  have hb2 := bthen HB1.out hb
  have HB2 := hidden hb2
  clear hbox hsz
  obtain ⟨hbox, hsz⟩ := box_at hb2
  clear hb hb2 C2 HB1 HT1
  go_wp2
  go_ret2
  exact ⟨rfl, bthen (ballc w _) HB2.out⟩
set_option maxHeartbeats 4000000 in
theorem rput12_6 (N : Nat) (f : Int) (D : Nat) (p r dr o sl md fr : Int) (ad : Option Addr) (cap : Nat) (zs : List Int) (a2 : Option Addr) (len c2 : Nat) (hs : List ByteArray) (i g : Nat) (s : ByteArray) (w : World) (hl : zs.length ≤ 9223372036854775807) (hT : Tab w ad zs) (hE : plainE (N : Int) f (D : Int) p r dr o sl md fr zs = 0) (hf : hs.length = N * D) (hi' : i < N) (hg1 : 1 ≤ g) (hg2 : g ≤ D) (h4 : emt s = false) (h5 : ¬ 40 < s.size) (hL : kStr.Lies w.heap.size w (.slice a2 len c2) hs) :
    Calls Try.prog 19 #[.agg #[.int .i64 (N : Int), .int .i64 f, .int .i64 (D : Int), .int .i64 p, .int .i64 r, .int .i64 dr, .int .i64 o, .int .i64 sl, .int .i64 md, .int .i64 fr, .slice ad zs.length cap], .slice a2 len c2, .int .i64 (i : Int), .int .i64 (g : Int), .string s] w fun e w' =>
      (emt (hs.getD (i * D + (D - g)) noB) = false → e = .returned (.tuple #[.slice none 0 0, .int .i64 13])) ∧
      (emt (hs.getD (i * D + (D - g)) noB) = true → ∃ a c, e = .returned (.tuple #[.slice a (N * D) c, .int .i64 0]) ∧ kStr.Lies w'.heap.size w' (.slice a (N * D) c) (hs.set (i * D + (D - g)) s)) ∧ Below w.heap.size w w' := by
  obtain ⟨n1, n2, d1, d2⟩ := ND_caps N f D p r dr o sl md fr ad cap zs hE
  have hm := mul_cast n2 d2
  obtain rfl := hL.len
  have hpos : 0 < hs.length := by rw [hf]; exact Nat.mul_pos (by omega) (by omega)
  obtain ⟨hc1, hc2⟩ := kStr_caps hL
  obtain ⟨b, off, rfl, hbl, _⟩ := kStr_at hL 0 hpos
  have C1 := fun V h => refPlain_any (N : Int) f (D : Int) p r dr o sl md fr ad cap zs V hl h
  have C2 := fun V h => rFits_ok N f D p r dr o sl md fr ad cap zs (some ⟨b, off, none⟩) hs.length c2 V hl h hE (by omega)
  rw [hE] at C1
  rw [decide_eq_true hf] at C2
  obtain ⟨i0, hi, hz0, hz1, hz2⟩ := strs_info
  have HT := hidden (hT.below (ballc w (.cells #[.int .i64 (N : Int), .int .i64 f, .int .i64 (D : Int), .int .i64 p, .int .i64 r, .int .i64 dr, .int .i64 o, .int .i64 sl, .int .i64 md, .int .i64 fr, .slice ad zs.length cap] 24)))
  have i1 : decide ((i : Int) < 0) = false := by simp
  have i2 : decide ((N : Int) ≤ (i : Int)) = false := by simp; omega
  have k2 : ¬ (N : Int) ≤ (i : Int) := by omega
  have i3 : decide ((g : Int) < 1) = false := by simp; omega
  have i4 : decide ((D : Int) < (g : Int)) = false := by simp; omega
  have k3 : ¬ (g : Int) < 1 := by omega
  have k4 : ¬ (D : Int) < (g : Int) := by omega
  have e4 : s.toList.isEmpty = false := h4
  have e5 : ¬ (40 : Int) < (s.size : Int) := by omega
  obtain ⟨P, hP⟩ : ∃ P, P = i * D := ⟨_, rfl⟩
  obtain ⟨A, hA⟩ : ∃ A, A = P + (D - g) := ⟨_, rfl⟩
  have hAl : A < hs.length := by rw [hA, hP, hf]; exact mul_lt_place hi' (by omega)
  have e1 : (i : Int) * (D : Int) = (P : Int) := by rw [hP]; rfl
  have e2 : (P : Int) + (D : Int) - (g : Int) = (A : Int) := by omega
  have hP1 : P ≤ 100 := by omega
  rw [← hP, ← hA]
  obtain ⟨b', off', hbo, _, hx⟩ := kStr_at hL A hAl
  obtain ⟨rfl, rfl⟩ : b = b' ∧ off = off' := by simpa using hbo
  obtain ⟨hsl1, hcut1⟩ := kStr_head hL A (by omega)
  obtain ⟨sp, hsl2, hcut2⟩ := kStr_from hL (A + 1) (by omega)
  have hsl2' : ∀ V : World, (Instr.slice 39 (.slice (some ⟨b, off, none⟩) hs.length c2) (some (.int .i64 ((A : Int) + 1))) none none).run Try.prog V = .ok (.slice sp (hs.length - (A + 1)) (c2 - (A + 1))) V := hsl2
  have HSET : Hid (hs.take A ++ [s] ++ hs.drop (A + 1) = hs.set A s) := by
    show _ = _
    rw [List.set_eq_take_append_cons_drop, if_pos hAl]
    simp
  have hln : hs.length ≤ 52 := by omega
  have HF := hidden hf
  have lt1 : (hs.take A).length = A := by rw [List.length_take]; omega
  have ld1 : (hs.drop (A + 1)).length = hs.length - (A + 1) := List.length_drop
  have HT1a := hidden lt1
  have HD1 := hidden ld1
  have HC1 := hidden hcut1
  have HC2 := hidden hcut2
  have j0 : (0 : Int) ≤ (A : Int) := by omega
  have j1 : (A : Int) < (hs.length : Int) := by omega
  have hBx := hx
  clear hT hE hf hL hP hA hsl2 hcut1 hcut2 hbo hx lt1 ld1 h4
  generalize hs.getD A noB = X at hBx ⊢
  generalize hs.take A = M1 at *
  generalize hs.drop (A + 1) = M2 at *
  generalize hs.set A s = MS at *
  go_enter Try.func19, Try.ntmps19
  go_wp2_with fail
  refine (C1 _ HT.out).mono ?_
  rintro e w1 ⟨rfl, hb⟩
  obtain ⟨hbox, hsz⟩ := box_at hb
  have HB1 := hidden hb
  have HT1 := hidden (HT.out.below hb)
  clear hb C1
  go_wp2_with fail
  refine (C2 _ HT1.out).mono ?_
  rintro e w2 ⟨rfl, hb⟩
  have hb2 := bthen HB1.out hb
  have HB2 := hidden hb2
  clear hbox hsz
  obtain ⟨hbox, hsz⟩ := box_at hb2
  clear hb hb2 C2 HB1 HT1
  have hx2 := ((bthen (ballc w _) HB2.out).cell (p := ⟨b, off + A, none⟩) hbl).trans hBx
  have HBW := hidden (bthen (ballc w _) HB2.out)
  cases hX : emt X
  · have e6 : X.toList.isEmpty = false := hX
    have HXX := hidden hX
    clear hX
    go_wp2
    go_ret2
    exact ⟨fun _ => rfl, fun h => by rw [HXX.out] at h; (cases h), HBW.out⟩
  · have e6 : X.toList.isEmpty = true := hX
    have HXX := hidden hX
    clear hX hBx
    go_wp2_with (at_builtin; refine kStr.wpList_append _ rfl (.tmp 58) (.tmp 61) 39 rfl w2.heap.size 9 i0 (.string noB) 16 Try.underlying39 hi hz0 hz1 hz2 rfl (.slice none 0 0) 0 [] rfl (World.ownsRow_nil _ _ _ _) (.slice (some ⟨b, off, none⟩) A c2) M1 rfl (HC1.out.below HBW.out) (by have := HT1a.out; simp only [maxLen]; omega) (by have := HT1a.out; omega) (Nat.le_refl _) ?_; intro v3 w3 hown3 hgrow3 hbl3; refine Hid3 ?_)
    have hB3 : Below w2.heap.size w2 w3 := (Below.refl _ _).grown hgrow3 (Nat.le_refl _) (fun k h => by cases h)
    refine hidden ?_
    go_wp2_with (at_builtin; refine kStr.wpList_append _ rfl (.tmp 63) (.tmp 65) 39 rfl w2.heap.size 9 i0 (.string noB) 16 Try.underlying39 hi hz0 hz1 hz2 rfl v3 (0 + M1.length) _ rfl (hown3.alloc _) (.slice (some ⟨w3.heap.size, 0, none⟩) 1 1) [s] rfl (Kind.Lies.of_block (K := kStr) (es := [s]) (heap_alloc_new w3 _) (by simp only [maxLen, List.length_singleton]; omega)) (by have := HT1a.out; simp only [maxLen, List.length_singleton]; omega) (by have := HT1a.out; simp only [List.length_singleton]; omega) (by have := hB3.size; simp; omega) ?_; intro v4 w4 hown4 hgrow4 hbl4; refine Hid3 ?_)
    have hB4 : Below w2.heap.size w2 w4 := (hB3.alloc hB3.size _).grown hgrow4 (by have := hB3.size; simp; omega) (own_from hown3)
    refine hidden ?_
    go_wp2_with (at_builtin; refine kStr.wpList_append _ rfl (.tmp 67) (.tmp 71) 39 rfl w2.heap.size 9 i0 (.string noB) 16 Try.underlying39 hi hz0 hz1 hz2 rfl v4 (0 + M1.length + [s].length) _ rfl hown4 (.slice sp (hs.length - (A + 1)) (c2 - (A + 1))) M2 rfl (HC2.out.below (bthen HBW.out hB4)) (by have := HT1a.out; have := HD1.out; simp only [maxLen, List.length_singleton]; omega) (by have := HT1a.out; have := HD1.out; simp only [List.length_singleton]; omega) hB4.size ?_; intro v5 w5 hown5 hgrow5 hbl5; refine Hid3 ?_)
    have hB5 : Below w2.heap.size w2 w5 := hB4.grown hgrow5 hB4.size (own_from hown4)
    have hn5 : 0 + M1.length + [s].length + M2.length = N * D := by have := HT1a.out; have := HD1.out; have := HF.out; simp only [List.length_singleton]; omega
    rw [hn5] at hown5
    have hfl : ([] : List Value) ++ kStr.flat M1 ++ kStr.flat [s] ++ kStr.flat M2 = kStr.flat MS := by rw [List.nil_append, ← Kind.flat_append, ← Kind.flat_append, HSET.out]
    rw [hfl] at hown5
    have hml : MS.length = N * D := by rw [← HSET.out, List.length_append, List.length_append]; omega
    have l5 := lies_own hown5 hml
    obtain ⟨a5, c5, rfl⟩ := own_slice hown5
    have HL5 := hidden l5
    clear hn5 hfl hml hown5 l5
    refine hidden ?_
    go_wp2
    go_ret2
    exact ⟨fun h => by rw [HXX.out] at h; (cases h), fun _ => ⟨a5, c5, rfl, HL5.out⟩, bthen HBW.out hB5⟩
theorem rPut_any (n f d p r dr o sl md fr : Int) (ad : Option Addr) (cap : Nat) (zs : List Int) (a2 : Option Addr) (c2 : Nat) (hs : List ByteArray) (fm ag : Int) (s : ByteArray) (w : World) (hl : zs.length ≤ 9223372036854775807) (hT : Tab w ad zs) (hlen : hs.length ≤ 9223372036854775807) (hsz : s.size ≤ 9223372036854775807) (hL : kStr.Lies w.heap.size w (.slice a2 hs.length c2) hs) :
    Calls Try.prog 19 #[.agg #[.int .i64 n, .int .i64 f, .int .i64 d, .int .i64 p, .int .i64 r, .int .i64 dr, .int .i64 o, .int .i64 sl, .int .i64 md, .int .i64 fr, .slice ad zs.length cap], .slice a2 hs.length c2, .int .i64 fm, .int .i64 ag, .string s] w fun e w' => ∃ a c, e = .returned (.tuple #[.slice a (putF (plainE n f d p r dr o sl md fr zs) n d fm ag s hs).1.length c, .int .i64 (putF (plainE n f d p r dr o sl md fr zs) n d fm ag s hs).2]) ∧ kStr.Lies w'.heap.size w' (.slice a (putF (plainE n f d p r dr o sl md fr zs) n d fm ag s hs).1.length c) (putF (plainE n f d p r dr o sl md fr zs) n d fm ag s hs).1 ∧ Below w.heap.size w w' := by
  have early : ∀ x : Int, ¬ x = 0 → wrE (plainE n f d p r dr o sl md fr zs) n d hs.length fm ag s = x → (Calls Try.prog 19 #[.agg #[.int .i64 n, .int .i64 f, .int .i64 d, .int .i64 p, .int .i64 r, .int .i64 dr, .int .i64 o, .int .i64 sl, .int .i64 md, .int .i64 fr, .slice ad zs.length cap], .slice a2 hs.length c2, .int .i64 fm, .int .i64 ag, .string s] w fun e w' => e = .returned (.tuple #[.slice none 0 0, .int .i64 x]) ∧ Below w.heap.size w w') → Calls Try.prog 19 #[.agg #[.int .i64 n, .int .i64 f, .int .i64 d, .int .i64 p, .int .i64 r, .int .i64 dr, .int .i64 o, .int .i64 sl, .int .i64 md, .int .i64 fr, .slice ad zs.length cap], .slice a2 hs.length c2, .int .i64 fm, .int .i64 ag, .string s] w fun e w' => ∃ a c, e = .returned (.tuple #[.slice a (putF (plainE n f d p r dr o sl md fr zs) n d fm ag s hs).1.length c, .int .i64 (putF (plainE n f d p r dr o sl md fr zs) n d fm ag s hs).2]) ∧ kStr.Lies w'.heap.size w' (.slice a (putF (plainE n f d p r dr o sl md fr zs) n d fm ag s hs).1.length c) (putF (plainE n f d p r dr o sl md fr zs) n d fm ag s hs).1 ∧ Below w.heap.size w w' := by
    intro x hx e hC
    subst e
    rw [putF_wrong hx]
    refine hC.mono ?_
    rintro e w' ⟨e1, hb⟩
    exact ⟨none, 0, e1, Kind.Lies.nil _ _, hb⟩
  by_cases hE : plainE n f d p r dr o sl md fr zs = 0
  · have hk := plainE_ok hE
    obtain ⟨N, rfl⟩ : ∃ N : Nat, n = (N : Int) := ⟨n.toNat, by omega⟩
    obtain ⟨D, rfl⟩ : ∃ D : Nat, d = (D : Int) := ⟨d.toNat, by omega⟩
    by_cases h1 : hs.length = N * D
    · by_cases h2 : fm < 0 ∨ (N : Int) ≤ fm
      · refine early 7 (by decide) (wr_2 hE (len_cast.2 h1) h2) ?_
        by_cases h2a : fm < 0
        · exact rput12_2a N f D p r dr o sl md fr ad cap zs a2 _ c2 fm ag s w hl hT hE hlen hsz h1 h2a
        · exact rput12_2b N f D p r dr o sl md fr ad cap zs a2 _ c2 fm ag s w hl hT hE hlen hsz h1 h2a (by omega)
      · by_cases h3 : ag < 1 ∨ (D : Int) < ag
        · refine early 10 (by decide) (wr_3 hE (len_cast.2 h1) h2 h3) ?_
          by_cases h3a : ag < 1
          · exact rput12_3a N f D p r dr o sl md fr ad cap zs a2 _ c2 fm ag s w hl hT hE hlen hsz h1 h2 h3a
          · exact rput12_3b N f D p r dr o sl md fr ad cap zs a2 _ c2 fm ag s w hl hT hE hlen hsz h1 h2 h3a (by omega)
        · by_cases h4 : emt s = true
          · exact early 5 (by decide) (wr_4 hE (len_cast.2 h1) h2 h3 h4) (rput12_4 N f D p r dr o sl md fr ad cap zs a2 _ c2 fm ag s w hl hT hE hlen hsz h1 h2 h3 h4)
          · by_cases h5 : 40 < s.size
            · exact early 6 (by decide) (wr_5 hE (len_cast.2 h1) h2 h3 h4 h5) (rput12_5 N f D p r dr o sl md fr ad cap zs a2 _ c2 fm ag s w hl hT hE hlen hsz h1 h2 h3 (by simpa using h4) h5)
            · have hwr := wr_6 hE (len_cast.2 h1) h2 h3 h4 h5
              clear early
              obtain ⟨i, rfl⟩ : ∃ i : Nat, fm = (i : Int) := ⟨fm.toNat, by omega⟩
              obtain ⟨g, rfl⟩ : ∃ g : Nat, ag = (g : Int) := ⟨ag.toNat, by omega⟩
              have hpa : putAt D i g = i * D + (D - g) := rfl
              refine (rput12_6 N f D p r dr o sl md fr ad cap zs a2 _ c2 hs i g s w hl hT hE h1 (by omega) (by omega) (by omega) (by simpa using h4) h5 hL).mono ?_
              rintro e w' ⟨k1, k2, hb⟩
              cases hX : emt (hs.getD (i * D + (D - g)) noB)
              · rw [putF_full hwr (by rw [hpa, hX]; decide)]
                exact ⟨none, 0, k1 hX, Kind.Lies.nil _ _, hb⟩
              · rw [putF_good hwr (by rw [hpa, hX])]
                obtain ⟨a, c, e1, e2⟩ := k2 hX
                have hln : (hs.set (putAt D i g) s).length = N * D := by rw [List.length_set, h1]
                refine ⟨a, c, ?_, ?_, hb⟩
                · dsimp only
                  rw [hln]; exact e1
                · dsimp only
                  rw [hln]
                  exact e2
    · exact early 2 (by decide) (wr_1 hE (fun k => h1 (len_cast.1 k))) (rput12_1 N f D p r dr o sl md fr ad cap zs a2 _ c2 fm ag s w hl hT hE hlen hsz h1)
  · refine early _ hE (wr_0 hE) ?_
    have C1 := fun V h => refPlain_any n f d p r dr o sl md fr ad cap zs V hl h
    clear early
    generalize plainE n f d p r dr o sl md fr zs = E at *
    have hE' : (E != 0) = true := by simp [hE]
    have HT := hidden (hT.below (ballc w (.cells #[.int .i64 n, .int .i64 f, .int .i64 d, .int .i64 p, .int .i64 r, .int .i64 dr, .int .i64 o, .int .i64 sl, .int .i64 md, .int .i64 fr, .slice ad zs.length cap] 24)))
    clear hT hE
    go_enter Try.func19, Try.ntmps19
    go_wp2_with fail
    refine (C1 _ HT.out).mono ?_
    rintro e w1 ⟨rfl, hb⟩
    obtain ⟨hbox, hsz1⟩ := box_at hb
    have HB1 := hidden hb
    have HT1 := hidden (HT.out.below hb)
    clear hb
    go_wp2_with fail
    refine (C1 _ HT1.out).mono ?_
    rintro e w2 ⟨rfl, hb⟩
    go_wp2
    go_ret2
    exact ⟨rfl, bthen (ballc w _) (bthen HB1.out hb)⟩
end Go.Proofs.Ytcnmbpgjgjncdaa
