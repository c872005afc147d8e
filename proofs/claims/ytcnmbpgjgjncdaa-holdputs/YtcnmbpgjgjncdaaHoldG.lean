/- The calls wrong and Put of package hold return what plain functions give, in memory of their own, and make at most new memory; conditions: the table and the row lie where they say, and their lengths fit int. -/
import Derived.Test.YtcnmbpgjgjncdaaHoldF
namespace Go.Proofs.Ytcnmbpgjgjncdaa
open Go.ChangeShapes Go.WideShapes Go.ChangeAt Go.RowKit
set_option linter.unusedVariables false

/-- Why a frame has no place at all. -/
def wrE (E n d len fm ag : Int) (s : ByteArray) : Int :=
  if ¬ E = 0 then E else if ¬ len = n * d then 2 else if fm < 0 ∨ n ≤ fm then 7 else if ag < 1 ∨ d < ag then 10 else if emt s = true then 5 else if 40 < s.size then 6 else 0
theorem wr_0 {E n d len fm ag : Int} {s : ByteArray} (h : ¬ E = 0) : wrE E n d len fm ag s = E := if_pos h
theorem wr_1 {E n d len fm ag : Int} {s : ByteArray} (h : E = 0) (h1 : ¬ len = n * d) : wrE E n d len fm ag s = 2 := (if_neg (not_not_intro h)).trans (if_pos h1)
theorem wr_2 {E n d len fm ag : Int} {s : ByteArray} (h : E = 0) (h1 : len = n * d) (h2 : fm < 0 ∨ n ≤ fm) : wrE E n d len fm ag s = 7 := (if_neg (not_not_intro h)).trans ((if_neg (not_not_intro h1)).trans (if_pos h2))
theorem wr_3 {E n d len fm ag : Int} {s : ByteArray} (h : E = 0) (h1 : len = n * d) (h2 : ¬ (fm < 0 ∨ n ≤ fm)) (h3 : ag < 1 ∨ d < ag) : wrE E n d len fm ag s = 10 := (if_neg (not_not_intro h)).trans ((if_neg (not_not_intro h1)).trans ((if_neg h2).trans (if_pos h3)))
theorem wr_4 {E n d len fm ag : Int} {s : ByteArray} (h : E = 0) (h1 : len = n * d) (h2 : ¬ (fm < 0 ∨ n ≤ fm)) (h3 : ¬ (ag < 1 ∨ d < ag)) (h4 : emt s = true) : wrE E n d len fm ag s = 5 := (if_neg (not_not_intro h)).trans ((if_neg (not_not_intro h1)).trans ((if_neg h2).trans ((if_neg h3).trans (if_pos h4))))
theorem wr_5 {E n d len fm ag : Int} {s : ByteArray} (h : E = 0) (h1 : len = n * d) (h2 : ¬ (fm < 0 ∨ n ≤ fm)) (h3 : ¬ (ag < 1 ∨ d < ag)) (h4 : ¬ emt s = true) (h5 : 40 < s.size) : wrE E n d len fm ag s = 6 := (if_neg (not_not_intro h)).trans ((if_neg (not_not_intro h1)).trans ((if_neg h2).trans ((if_neg h3).trans ((if_neg h4).trans (if_pos h5)))))
theorem wr_6 {E n d len fm ag : Int} {s : ByteArray} (h : E = 0) (h1 : len = n * d) (h2 : ¬ (fm < 0 ∨ n ≤ fm)) (h3 : ¬ (ag < 1 ∨ d < ag)) (h4 : ¬ emt s = true) (h5 : ¬ 40 < s.size) : wrE E n d len fm ag s = 0 := (if_neg (not_not_intro h)).trans ((if_neg (not_not_intro h1)).trans ((if_neg h2).trans ((if_neg h3).trans ((if_neg h4).trans (if_neg h5)))))
/-- What is held behind a frame that comes, or why it is not. -/
def putAt (d fm ag : Int) : Nat := fm.toNat * d.toNat + (d.toNat - ag.toNat)
def putF (E n d fm ag : Int) (s : ByteArray) (hs : List ByteArray) : List ByteArray × Int :=
  if wrE E n d hs.length fm ag s = 0 then (if emt (hs.getD (putAt d fm ag) noB) = true then (hs.set (putAt d fm ag) s, 0) else ([], 13)) else ([], wrE E n d hs.length fm ag s)
set_option maxHeartbeats 2000000 in
theorem wrong_1 (N : Nat) (f : Int) (D : Nat) (p r dr o sl md fr : Int) (ad : Option Addr) (cap : Nat) (zs : List Int) (a2 : Option Addr) (len c2 : Nat) (fm ag : Int) (s : ByteArray) (w : World) (hl : zs.length ≤ 9223372036854775807) (hT : Tab w ad zs) (hE : plainE (N : Int) f (D : Int) p r dr o sl md fr zs = 0) (hlen : len ≤ 9223372036854775807) (hs : s.size ≤ 9223372036854775807) (hf : ¬ len = N * D) :
    Calls Try.prog 43 #[.agg #[.int .i64 (N : Int), .int .i64 f, .int .i64 (D : Int), .int .i64 p, .int .i64 r, .int .i64 dr, .int .i64 o, .int .i64 sl, .int .i64 md, .int .i64 fr, .slice ad zs.length cap], .slice a2 len c2, .int .i64 fm, .int .i64 ag, .string s] w fun e w' => e = .returned (.int .i64 2) ∧ Below w.heap.size w w' := by
  obtain ⟨n1, n2, d1, d2⟩ := ND_caps N f D p r dr o sl md fr ad cap zs hE
  have C1 := fun V h => plain_any (N : Int) f (D : Int) p r dr o sl md fr ad cap zs V hl h
  have C2 := fun V => fits_any N f D p r dr o sl md fr ad cap zs a2 len c2 V n2 d2 hlen
  rw [hE] at C1
  have HT := hidden (hT.below (ballc w (.cells #[.int .i64 (N : Int), .int .i64 f, .int .i64 (D : Int), .int .i64 p, .int .i64 r, .int .i64 dr, .int .i64 o, .int .i64 sl, .int .i64 md, .int .i64 fr, .slice ad zs.length cap] 24)))
  rw [decide_eq_false hf] at C2
  clear hf
  clear hT hE n1 n2 d1 d2
  go_enter Try.func43, Try.ntmps43
  go_wp2_with fail
  refine (C1 _ HT.out).mono ?_
  rintro e w1 ⟨rfl, hb⟩
  obtain ⟨hbox, hsz⟩ := box_at hb
  have HB1 := hidden hb
  clear hb C1
  go_wp2_with fail
  refine (C2 _).mono ?_
  rintro e w2 ⟨rfl, hb⟩
  have hb2 := bthen HB1.out hb
  have HB2 := hidden hb2
  clear hbox hsz
  obtain ⟨hbox, hsz⟩ := box_at hb2
  clear hb hb2 C2 HB1
  go_wp2
  go_ret
  exact ⟨rfl, bthen (ballc w _) HB2.out⟩
set_option maxHeartbeats 2000000 in
theorem wrong_2a (N : Nat) (f : Int) (D : Nat) (p r dr o sl md fr : Int) (ad : Option Addr) (cap : Nat) (zs : List Int) (a2 : Option Addr) (len c2 : Nat) (fm ag : Int) (s : ByteArray) (w : World) (hl : zs.length ≤ 9223372036854775807) (hT : Tab w ad zs) (hE : plainE (N : Int) f (D : Int) p r dr o sl md fr zs = 0) (hlen : len ≤ 9223372036854775807) (hs : s.size ≤ 9223372036854775807) (hf : len = N * D) (h2 : fm < 0) :
    Calls Try.prog 43 #[.agg #[.int .i64 (N : Int), .int .i64 f, .int .i64 (D : Int), .int .i64 p, .int .i64 r, .int .i64 dr, .int .i64 o, .int .i64 sl, .int .i64 md, .int .i64 fr, .slice ad zs.length cap], .slice a2 len c2, .int .i64 fm, .int .i64 ag, .string s] w fun e w' => e = .returned (.int .i64 7) ∧ Below w.heap.size w w' := by
  obtain ⟨n1, n2, d1, d2⟩ := ND_caps N f D p r dr o sl md fr ad cap zs hE
  have C1 := fun V h => plain_any (N : Int) f (D : Int) p r dr o sl md fr ad cap zs V hl h
  have C2 := fun V => fits_any N f D p r dr o sl md fr ad cap zs a2 len c2 V n2 d2 hlen
  rw [hE] at C1
  have HT := hidden (hT.below (ballc w (.cells #[.int .i64 (N : Int), .int .i64 f, .int .i64 (D : Int), .int .i64 p, .int .i64 r, .int .i64 dr, .int .i64 o, .int .i64 sl, .int .i64 md, .int .i64 fr, .slice ad zs.length cap] 24)))
  rw [decide_eq_true hf] at C2
  have HF := hidden hf
  clear hf
  have i1 : decide (fm < 0) = true := by simp [h2]
  clear hT hE n1 n2 d1 d2
  go_enter Try.func43, Try.ntmps43
  go_wp2_with fail
  refine (C1 _ HT.out).mono ?_
  rintro e w1 ⟨rfl, hb⟩
  obtain ⟨hbox, hsz⟩ := box_at hb
  have HB1 := hidden hb
  clear hb C1
  go_wp2_with fail
  refine (C2 _).mono ?_
  rintro e w2 ⟨rfl, hb⟩
  have hb2 := bthen HB1.out hb
  have HB2 := hidden hb2
  clear hbox hsz
  obtain ⟨hbox, hsz⟩ := box_at hb2
  clear hb hb2 C2 HB1
  go_wp2
  go_ret
  exact ⟨rfl, bthen (ballc w _) HB2.out⟩
set_option maxHeartbeats 2000000 in
theorem wrong_2b (N : Nat) (f : Int) (D : Nat) (p r dr o sl md fr : Int) (ad : Option Addr) (cap : Nat) (zs : List Int) (a2 : Option Addr) (len c2 : Nat) (fm ag : Int) (s : ByteArray) (w : World) (hl : zs.length ≤ 9223372036854775807) (hT : Tab w ad zs) (hE : plainE (N : Int) f (D : Int) p r dr o sl md fr zs = 0) (hlen : len ≤ 9223372036854775807) (hs : s.size ≤ 9223372036854775807) (hf : len = N * D) (h2 : ¬ fm < 0) (h3 : (N : Int) ≤ fm) :
    Calls Try.prog 43 #[.agg #[.int .i64 (N : Int), .int .i64 f, .int .i64 (D : Int), .int .i64 p, .int .i64 r, .int .i64 dr, .int .i64 o, .int .i64 sl, .int .i64 md, .int .i64 fr, .slice ad zs.length cap], .slice a2 len c2, .int .i64 fm, .int .i64 ag, .string s] w fun e w' => e = .returned (.int .i64 7) ∧ Below w.heap.size w w' := by
  obtain ⟨n1, n2, d1, d2⟩ := ND_caps N f D p r dr o sl md fr ad cap zs hE
  have C1 := fun V h => plain_any (N : Int) f (D : Int) p r dr o sl md fr ad cap zs V hl h
  have C2 := fun V => fits_any N f D p r dr o sl md fr ad cap zs a2 len c2 V n2 d2 hlen
  rw [hE] at C1
  have HT := hidden (hT.below (ballc w (.cells #[.int .i64 (N : Int), .int .i64 f, .int .i64 (D : Int), .int .i64 p, .int .i64 r, .int .i64 dr, .int .i64 o, .int .i64 sl, .int .i64 md, .int .i64 fr, .slice ad zs.length cap] 24)))
  rw [decide_eq_true hf] at C2
  have HF := hidden hf
  clear hf
  have i1 : decide (fm < 0) = false := by simp; omega
  have i2 : decide ((N : Int) ≤ fm) = true := by simp [h3]
  clear hT hE n1 n2 d1 d2
  go_enter Try.func43, Try.ntmps43
  go_wp2_with fail
  refine (C1 _ HT.out).mono ?_
  rintro e w1 ⟨rfl, hb⟩
  obtain ⟨hbox, hsz⟩ := box_at hb
  have HB1 := hidden hb
  clear hb C1
  go_wp2_with fail
  refine (C2 _).mono ?_
  rintro e w2 ⟨rfl, hb⟩
  have hb2 := bthen HB1.out hb
  have HB2 := hidden hb2
  clear hbox hsz
  obtain ⟨hbox, hsz⟩ := box_at hb2
  clear hb hb2 C2 HB1
  go_wp2
  go_ret
  exact ⟨rfl, bthen (ballc w _) HB2.out⟩
set_option maxHeartbeats 2000000 in
theorem wrong_3a (N : Nat) (f : Int) (D : Nat) (p r dr o sl md fr : Int) (ad : Option Addr) (cap : Nat) (zs : List Int) (a2 : Option Addr) (len c2 : Nat) (fm ag : Int) (s : ByteArray) (w : World) (hl : zs.length ≤ 9223372036854775807) (hT : Tab w ad zs) (hE : plainE (N : Int) f (D : Int) p r dr o sl md fr zs = 0) (hlen : len ≤ 9223372036854775807) (hs : s.size ≤ 9223372036854775807) (hf : len = N * D) (h2 : ¬ (fm < 0 ∨ (N : Int) ≤ fm)) (h3 : ag < 1) :
    Calls Try.prog 43 #[.agg #[.int .i64 (N : Int), .int .i64 f, .int .i64 (D : Int), .int .i64 p, .int .i64 r, .int .i64 dr, .int .i64 o, .int .i64 sl, .int .i64 md, .int .i64 fr, .slice ad zs.length cap], .slice a2 len c2, .int .i64 fm, .int .i64 ag, .string s] w fun e w' => e = .returned (.int .i64 10) ∧ Below w.heap.size w w' := by
  obtain ⟨n1, n2, d1, d2⟩ := ND_caps N f D p r dr o sl md fr ad cap zs hE
  have C1 := fun V h => plain_any (N : Int) f (D : Int) p r dr o sl md fr ad cap zs V hl h
  have C2 := fun V => fits_any N f D p r dr o sl md fr ad cap zs a2 len c2 V n2 d2 hlen
  rw [hE] at C1
  have HT := hidden (hT.below (ballc w (.cells #[.int .i64 (N : Int), .int .i64 f, .int .i64 (D : Int), .int .i64 p, .int .i64 r, .int .i64 dr, .int .i64 o, .int .i64 sl, .int .i64 md, .int .i64 fr, .slice ad zs.length cap] 24)))
  rw [decide_eq_true hf] at C2
  have HF := hidden hf
  clear hf
  have i1 : decide (fm < 0) = false := by simp; omega
  have i2 : decide ((N : Int) ≤ fm) = false := by simp; omega
  have k1 : ¬ fm < 0 := by omega
  have k2 : ¬ (N : Int) ≤ fm := by omega
  have i3 : decide (ag < 1) = true := by simp [h3]
  clear hT hE n1 n2 d1 d2
  go_enter Try.func43, Try.ntmps43
  go_wp2_with fail
  refine (C1 _ HT.out).mono ?_
  rintro e w1 ⟨rfl, hb⟩
  obtain ⟨hbox, hsz⟩ := box_at hb
  have HB1 := hidden hb
  clear hb C1
  go_wp2_with fail
  refine (C2 _).mono ?_
  rintro e w2 ⟨rfl, hb⟩
  have hb2 := bthen HB1.out hb
  have HB2 := hidden hb2
  clear hbox hsz
  obtain ⟨hbox, hsz⟩ := box_at hb2
  clear hb hb2 C2 HB1
  go_wp2
  go_ret
  exact ⟨rfl, bthen (ballc w _) HB2.out⟩
set_option maxHeartbeats 2000000 in
theorem wrong_3b (N : Nat) (f : Int) (D : Nat) (p r dr o sl md fr : Int) (ad : Option Addr) (cap : Nat) (zs : List Int) (a2 : Option Addr) (len c2 : Nat) (fm ag : Int) (s : ByteArray) (w : World) (hl : zs.length ≤ 9223372036854775807) (hT : Tab w ad zs) (hE : plainE (N : Int) f (D : Int) p r dr o sl md fr zs = 0) (hlen : len ≤ 9223372036854775807) (hs : s.size ≤ 9223372036854775807) (hf : len = N * D) (h2 : ¬ (fm < 0 ∨ (N : Int) ≤ fm)) (h3 : ¬ ag < 1) (h4 : (D : Int) < ag) :
    Calls Try.prog 43 #[.agg #[.int .i64 (N : Int), .int .i64 f, .int .i64 (D : Int), .int .i64 p, .int .i64 r, .int .i64 dr, .int .i64 o, .int .i64 sl, .int .i64 md, .int .i64 fr, .slice ad zs.length cap], .slice a2 len c2, .int .i64 fm, .int .i64 ag, .string s] w fun e w' => e = .returned (.int .i64 10) ∧ Below w.heap.size w w' := by
  obtain ⟨n1, n2, d1, d2⟩ := ND_caps N f D p r dr o sl md fr ad cap zs hE
  have C1 := fun V h => plain_any (N : Int) f (D : Int) p r dr o sl md fr ad cap zs V hl h
  have C2 := fun V => fits_any N f D p r dr o sl md fr ad cap zs a2 len c2 V n2 d2 hlen
  rw [hE] at C1
  have HT := hidden (hT.below (ballc w (.cells #[.int .i64 (N : Int), .int .i64 f, .int .i64 (D : Int), .int .i64 p, .int .i64 r, .int .i64 dr, .int .i64 o, .int .i64 sl, .int .i64 md, .int .i64 fr, .slice ad zs.length cap] 24)))
  rw [decide_eq_true hf] at C2
  have HF := hidden hf
  clear hf
  have i1 : decide (fm < 0) = false := by simp; omega
  have i2 : decide ((N : Int) ≤ fm) = false := by simp; omega
  have k1 : ¬ fm < 0 := by omega
  have k2 : ¬ (N : Int) ≤ fm := by omega
  have i3 : decide (ag < 1) = false := by simp; omega
  have i4 : decide ((D : Int) < ag) = true := by simp [h4]
  clear hT hE n1 n2 d1 d2
  go_enter Try.func43, Try.ntmps43
  go_wp2_with fail
  refine (C1 _ HT.out).mono ?_
  rintro e w1 ⟨rfl, hb⟩
  obtain ⟨hbox, hsz⟩ := box_at hb
  have HB1 := hidden hb
  clear hb C1
  go_wp2_with fail
  refine (C2 _).mono ?_
  rintro e w2 ⟨rfl, hb⟩
  have hb2 := bthen HB1.out hb
  have HB2 := hidden hb2
  clear hbox hsz
  obtain ⟨hbox, hsz⟩ := box_at hb2
  clear hb hb2 C2 HB1
  go_wp2
  go_ret
  exact ⟨rfl, bthen (ballc w _) HB2.out⟩
set_option maxHeartbeats 2000000 in
theorem wrong_4 (N : Nat) (f : Int) (D : Nat) (p r dr o sl md fr : Int) (ad : Option Addr) (cap : Nat) (zs : List Int) (a2 : Option Addr) (len c2 : Nat) (fm ag : Int) (s : ByteArray) (w : World) (hl : zs.length ≤ 9223372036854775807) (hT : Tab w ad zs) (hE : plainE (N : Int) f (D : Int) p r dr o sl md fr zs = 0) (hlen : len ≤ 9223372036854775807) (hs : s.size ≤ 9223372036854775807) (hf : len = N * D) (h2 : ¬ (fm < 0 ∨ (N : Int) ≤ fm)) (h3 : ¬ (ag < 1 ∨ (D : Int) < ag)) (h4 : emt s = true) :
    Calls Try.prog 43 #[.agg #[.int .i64 (N : Int), .int .i64 f, .int .i64 (D : Int), .int .i64 p, .int .i64 r, .int .i64 dr, .int .i64 o, .int .i64 sl, .int .i64 md, .int .i64 fr, .slice ad zs.length cap], .slice a2 len c2, .int .i64 fm, .int .i64 ag, .string s] w fun e w' => e = .returned (.int .i64 5) ∧ Below w.heap.size w w' := by
  obtain ⟨n1, n2, d1, d2⟩ := ND_caps N f D p r dr o sl md fr ad cap zs hE
  have C1 := fun V h => plain_any (N : Int) f (D : Int) p r dr o sl md fr ad cap zs V hl h
  have C2 := fun V => fits_any N f D p r dr o sl md fr ad cap zs a2 len c2 V n2 d2 hlen
  rw [hE] at C1
  have HT := hidden (hT.below (ballc w (.cells #[.int .i64 (N : Int), .int .i64 f, .int .i64 (D : Int), .int .i64 p, .int .i64 r, .int .i64 dr, .int .i64 o, .int .i64 sl, .int .i64 md, .int .i64 fr, .slice ad zs.length cap] 24)))
  rw [decide_eq_true hf] at C2
  have HF := hidden hf
  clear hf
  have i1 : decide (fm < 0) = false := by simp; omega
  have i2 : decide ((N : Int) ≤ fm) = false := by simp; omega
  have k1 : ¬ fm < 0 := by omega
  have k2 : ¬ (N : Int) ≤ fm := by omega
  have i3 : decide (ag < 1) = false := by simp; omega
  have i4 : decide ((D : Int) < ag) = false := by simp; omega
  have k3 : ¬ ag < 1 := by omega
  have k4 : ¬ (D : Int) < ag := by omega
  have e1 : s.toList.isEmpty = true := h4
  clear hT hE n1 n2 d1 d2
  go_enter Try.func43, Try.ntmps43
  go_wp2_with fail
  refine (C1 _ HT.out).mono ?_
  rintro e w1 ⟨rfl, hb⟩
  obtain ⟨hbox, hsz⟩ := box_at hb
  have HB1 := hidden hb
  clear hb C1
  go_wp2_with fail
  refine (C2 _).mono ?_
  rintro e w2 ⟨rfl, hb⟩
  have hb2 := bthen HB1.out hb
  have HB2 := hidden hb2
  clear hbox hsz
  obtain ⟨hbox, hsz⟩ := box_at hb2
  clear hb hb2 C2 HB1
  go_wp2
  go_ret
  exact ⟨rfl, bthen (ballc w _) HB2.out⟩
set_option maxHeartbeats 2000000 in
theorem wrong_5 (N : Nat) (f : Int) (D : Nat) (p r dr o sl md fr : Int) (ad : Option Addr) (cap : Nat) (zs : List Int) (a2 : Option Addr) (len c2 : Nat) (fm ag : Int) (s : ByteArray) (w : World) (hl : zs.length ≤ 9223372036854775807) (hT : Tab w ad zs) (hE : plainE (N : Int) f (D : Int) p r dr o sl md fr zs = 0) (hlen : len ≤ 9223372036854775807) (hs : s.size ≤ 9223372036854775807) (hf : len = N * D) (h2 : ¬ (fm < 0 ∨ (N : Int) ≤ fm)) (h3 : ¬ (ag < 1 ∨ (D : Int) < ag)) (h4 : emt s = false) (h5 : 40 < s.size) :
    Calls Try.prog 43 #[.agg #[.int .i64 (N : Int), .int .i64 f, .int .i64 (D : Int), .int .i64 p, .int .i64 r, .int .i64 dr, .int .i64 o, .int .i64 sl, .int .i64 md, .int .i64 fr, .slice ad zs.length cap], .slice a2 len c2, .int .i64 fm, .int .i64 ag, .string s] w fun e w' => e = .returned (.int .i64 6) ∧ Below w.heap.size w w' := by
  obtain ⟨n1, n2, d1, d2⟩ := ND_caps N f D p r dr o sl md fr ad cap zs hE
  have C1 := fun V h => plain_any (N : Int) f (D : Int) p r dr o sl md fr ad cap zs V hl h
  have C2 := fun V => fits_any N f D p r dr o sl md fr ad cap zs a2 len c2 V n2 d2 hlen
  rw [hE] at C1
  have HT := hidden (hT.below (ballc w (.cells #[.int .i64 (N : Int), .int .i64 f, .int .i64 (D : Int), .int .i64 p, .int .i64 r, .int .i64 dr, .int .i64 o, .int .i64 sl, .int .i64 md, .int .i64 fr, .slice ad zs.length cap] 24)))
  rw [decide_eq_true hf] at C2
  have HF := hidden hf
  clear hf
  have i1 : decide (fm < 0) = false := by simp; omega
  have i2 : decide ((N : Int) ≤ fm) = false := by simp; omega
  have k1 : ¬ fm < 0 := by omega
  have k2 : ¬ (N : Int) ≤ fm := by omega
  have i3 : decide (ag < 1) = false := by simp; omega
  have i4 : decide ((D : Int) < ag) = false := by simp; omega
  have k3 : ¬ ag < 1 := by omega
  have k4 : ¬ (D : Int) < ag := by omega
  have e1 : s.toList.isEmpty = false := h4
  have e2 : (40 : Int) < (s.size : Int) := by omega
  clear hT hE n1 n2 d1 d2
  go_enter Try.func43, Try.ntmps43
  go_wp2_with fail
  refine (C1 _ HT.out).mono ?_
  rintro e w1 ⟨rfl, hb⟩
  obtain ⟨hbox, hsz⟩ := box_at hb
  have HB1 := hidden hb
  clear hb C1
  go_wp2_with fail
  refine (C2 _).mono ?_
  rintro e w2 ⟨rfl, hb⟩
  have hb2 := bthen HB1.out hb
  have HB2 := hidden hb2
  clear hbox hsz
  obtain ⟨hbox, hsz⟩ := box_at hb2
  clear hb hb2 C2 HB1
  go_wp2
  go_ret
  exact ⟨rfl, bthen (ballc w _) HB2.out⟩
set_option maxHeartbeats 2000000 in
theorem wrong_6 (N : Nat) (f : Int) (D : Nat) (p r dr o sl md fr : Int) (ad : Option Addr) (cap : Nat) (zs : List Int) (a2 : Option Addr) (len c2 : Nat) (fm ag : Int) (s : ByteArray) (w : World) (hl : zs.length ≤ 9223372036854775807) (hT : Tab w ad zs) (hE : plainE (N : Int) f (D : Int) p r dr o sl md fr zs = 0) (hlen : len ≤ 9223372036854775807) (hs : s.size ≤ 9223372036854775807) (hf : len = N * D) (h2 : ¬ (fm < 0 ∨ (N : Int) ≤ fm)) (h3 : ¬ (ag < 1 ∨ (D : Int) < ag)) (h4 : emt s = false) (h5 : ¬ 40 < s.size) :
    Calls Try.prog 43 #[.agg #[.int .i64 (N : Int), .int .i64 f, .int .i64 (D : Int), .int .i64 p, .int .i64 r, .int .i64 dr, .int .i64 o, .int .i64 sl, .int .i64 md, .int .i64 fr, .slice ad zs.length cap], .slice a2 len c2, .int .i64 fm, .int .i64 ag, .string s] w fun e w' => e = .returned (.int .i64 0) ∧ Below w.heap.size w w' := by
  obtain ⟨n1, n2, d1, d2⟩ := ND_caps N f D p r dr o sl md fr ad cap zs hE
  have C1 := fun V h => plain_any (N : Int) f (D : Int) p r dr o sl md fr ad cap zs V hl h
  have C2 := fun V => fits_any N f D p r dr o sl md fr ad cap zs a2 len c2 V n2 d2 hlen
  rw [hE] at C1
  have HT := hidden (hT.below (ballc w (.cells #[.int .i64 (N : Int), .int .i64 f, .int .i64 (D : Int), .int .i64 p, .int .i64 r, .int .i64 dr, .int .i64 o, .int .i64 sl, .int .i64 md, .int .i64 fr, .slice ad zs.length cap] 24)))
  rw [decide_eq_true hf] at C2
  have HF := hidden hf
  clear hf
  have i1 : decide (fm < 0) = false := by simp; omega
  have i2 : decide ((N : Int) ≤ fm) = false := by simp; omega
  have k1 : ¬ fm < 0 := by omega
  have k2 : ¬ (N : Int) ≤ fm := by omega
  have i3 : decide (ag < 1) = false := by simp; omega
  have i4 : decide ((D : Int) < ag) = false := by simp; omega
  have k3 : ¬ ag < 1 := by omega
  have k4 : ¬ (D : Int) < ag := by omega
  have e1 : s.toList.isEmpty = false := h4
  have e2 : ¬ (40 : Int) < (s.size : Int) := by omega
  clear hT hE n1 n2 d1 d2
  go_enter Try.func43, Try.ntmps43
  go_wp2_with fail
  refine (C1 _ HT.out).mono ?_
  rintro e w1 ⟨rfl, hb⟩
  obtain ⟨hbox, hsz⟩ := box_at hb
  have HB1 := hidden hb
  clear hb C1
  go_wp2_with fail
  refine (C2 _).mono ?_
  rintro e w2 ⟨rfl, hb⟩
  have hb2 := bthen HB1.out hb
  have HB2 := hidden hb2
  clear hbox hsz
  obtain ⟨hbox, hsz⟩ := box_at hb2
  clear hb hb2 C2 HB1
  go_wp2
  go_ret
  exact ⟨rfl, bthen (ballc w _) HB2.out⟩
theorem wrong_any (n f d p r dr o sl md fr : Int) (ad : Option Addr) (cap : Nat) (zs : List Int) (a2 : Option Addr) (len c2 : Nat) (fm ag : Int) (s : ByteArray) (w : World) (hl : zs.length ≤ 9223372036854775807) (hT : Tab w ad zs) (hlen : len ≤ 9223372036854775807) (hs : s.size ≤ 9223372036854775807) :
    Calls Try.prog 43 #[.agg #[.int .i64 n, .int .i64 f, .int .i64 d, .int .i64 p, .int .i64 r, .int .i64 dr, .int .i64 o, .int .i64 sl, .int .i64 md, .int .i64 fr, .slice ad zs.length cap], .slice a2 len c2, .int .i64 fm, .int .i64 ag, .string s] w fun e w' => e = .returned (.int .i64 (wrE (plainE n f d p r dr o sl md fr zs) n d len fm ag s)) ∧ Below w.heap.size w w' := by
  by_cases hE : plainE n f d p r dr o sl md fr zs = 0
  · have hk := plainE_ok hE
    obtain ⟨N, rfl⟩ : ∃ N : Nat, n = (N : Int) := ⟨n.toNat, by omega⟩
    obtain ⟨D, rfl⟩ : ∃ D : Nat, d = (D : Int) := ⟨d.toNat, by omega⟩
    by_cases h1 : len = N * D
    · by_cases h2 : fm < 0 ∨ (N : Int) ≤ fm
      · rw [wr_2 hE (len_cast.2 h1) h2]
        by_cases h2a : fm < 0
        · exact wrong_2a N f D p r dr o sl md fr ad cap zs a2 len c2 fm ag s w hl hT hE hlen hs h1 h2a
        · exact wrong_2b N f D p r dr o sl md fr ad cap zs a2 len c2 fm ag s w hl hT hE hlen hs h1 h2a (by omega)
      · by_cases h3 : ag < 1 ∨ (D : Int) < ag
        · rw [wr_3 hE (len_cast.2 h1) h2 h3]
          by_cases h3a : ag < 1
          · exact wrong_3a N f D p r dr o sl md fr ad cap zs a2 len c2 fm ag s w hl hT hE hlen hs h1 h2 h3a
          · exact wrong_3b N f D p r dr o sl md fr ad cap zs a2 len c2 fm ag s w hl hT hE hlen hs h1 h2 h3a (by omega)
        · by_cases h4 : emt s = true
          · rw [wr_4 hE (len_cast.2 h1) h2 h3 h4]
            exact wrong_4 N f D p r dr o sl md fr ad cap zs a2 len c2 fm ag s w hl hT hE hlen hs h1 h2 h3 h4
          · by_cases h5 : 40 < s.size
            · rw [wr_5 hE (len_cast.2 h1) h2 h3 h4 h5]
              exact wrong_5 N f D p r dr o sl md fr ad cap zs a2 len c2 fm ag s w hl hT hE hlen hs h1 h2 h3 (by simpa using h4) h5
            · rw [wr_6 hE (len_cast.2 h1) h2 h3 h4 h5]
              exact wrong_6 N f D p r dr o sl md fr ad cap zs a2 len c2 fm ag s w hl hT hE hlen hs h1 h2 h3 (by simpa using h4) h5
    · rw [wr_1 hE (fun k => h1 (len_cast.1 k))]
      exact wrong_1 N f D p r dr o sl md fr ad cap zs a2 len c2 fm ag s w hl hT hE hlen hs h1
  · rw [wr_0 hE]
    have C1 := fun V h => plain_any n f d p r dr o sl md fr ad cap zs V hl h
    generalize plainE n f d p r dr o sl md fr zs = E at *
    have hE' : (E != 0) = true := by simp [hE]
    have HT := hidden (hT.below (ballc w (.cells #[.int .i64 n, .int .i64 f, .int .i64 d, .int .i64 p, .int .i64 r, .int .i64 dr, .int .i64 o, .int .i64 sl, .int .i64 md, .int .i64 fr, .slice ad zs.length cap] 24)))
    clear hT hE
    go_enter Try.func43, Try.ntmps43
    go_wp2_with fail
    refine (C1 _ HT.out).mono ?_
    rintro e w1 ⟨rfl, hb⟩
    go_wp2
    go_ret
    exact ⟨rfl, bthen (ballc w _) hb⟩
end Go.Proofs.Ytcnmbpgjgjncdaa
