/- The walk of the statement HoldPuts: the call returns true, and makes at most new memory; conditions: the table and the row lie where they say, lengths fit int. -/
import Derived.Test.YtcnmbpgjgjncdaaHoldK
import Derived.Test.YtcnmbpgjgjncdaaHoldQ
import Derived.Test.YtcnmbpgjgjncdaaHoldR
import Derived.Test.YtcnmbpgjgjncdaaPacM
import Derived.Test.YtcnmbpgjgjncdaaChain
namespace Go.Proofs.Ytcnmbpgjgjncdaa.LawHoldPuts
open Go.ChangeShapes Go.WideShapes Go.ChangeAt Go.RowKit
set_option linter.unusedVariables false

/-- What a list in which nothing is held is. -/
def emF (E n d : Int) : List ByteArray := if E = 0 then List.replicate (n.toNat * d.toNat) noB else []
theorem emF_ok {E : Int} (h : E = 0) (N D : Nat) : emF E (N : Int) (D : Int) = List.replicate (N * D) noB := if_pos h
theorem emF_no {E : Int} (h : ¬ E = 0) (n d : Int) : emF E n d = [] := if_neg h
theorem Empty_any (n f d p r dr o sl md fr : Int) (ad : Option Addr) (cap : Nat) (zs : List Int) (w : World) (hl : zs.length ≤ 9223372036854775807) (hT : Tab w ad zs) :
    Calls Try.prog 21 #[.agg #[.int .i64 n, .int .i64 f, .int .i64 d, .int .i64 p, .int .i64 r, .int .i64 dr, .int .i64 o, .int .i64 sl, .int .i64 md, .int .i64 fr, .slice ad zs.length cap]] w fun e w' => ∃ a c, e = .returned (.slice a (emF (plainE n f d p r dr o sl md fr zs) n d).length c) ∧ kStr.Lies w'.heap.size w' (.slice a (emF (plainE n f d p r dr o sl md fr zs) n d).length c) (emF (plainE n f d p r dr o sl md fr zs) n d) ∧ Below w.heap.size w w' := by
  by_cases hE : plainE n f d p r dr o sl md fr zs = 0
  · have hk := plainE_ok hE
    obtain ⟨N, rfl⟩ : ∃ N : Nat, n = (N : Int) := ⟨n.toNat, by omega⟩
    obtain ⟨D, rfl⟩ : ∃ D : Nat, d = (D : Int) := ⟨d.toNat, by omega⟩
    obtain ⟨n1, n2, d1, d2⟩ := ND_caps N f D p r dr o sl md fr ad cap zs hE
    have hm := mul_cast n2 d2
    rw [emF_ok hE, List.length_replicate]
    refine (Empty_ok N f D p r dr o sl md fr ad cap zs w hl hT hE).mono ?_
    rintro e w' ⟨g, rfl, h, _, hb⟩
    exact ⟨_, _, rfl, lies_lit (List.length_replicate ..) h (by omega), hb⟩
  · rw [emF_no hE]
    refine (Empty_no n f d p r dr o sl md fr ad cap zs w hl hT hE).mono ?_
    rintro e w' ⟨rfl, hb⟩
    exact ⟨none, 0, rfl, Kind.Lies.nil _ _, hb⟩
theorem rEmpty_any (n f d p r dr o sl md fr : Int) (ad : Option Addr) (cap : Nat) (zs : List Int) (w : World) (hl : zs.length ≤ 9223372036854775807) (hT : Tab w ad zs) :
    Calls Try.prog 22 #[.agg #[.int .i64 n, .int .i64 f, .int .i64 d, .int .i64 p, .int .i64 r, .int .i64 dr, .int .i64 o, .int .i64 sl, .int .i64 md, .int .i64 fr, .slice ad zs.length cap]] w fun e w' => ∃ a c, e = .returned (.slice a (emF (plainE n f d p r dr o sl md fr zs) n d).length c) ∧ kStr.Lies w'.heap.size w' (.slice a (emF (plainE n f d p r dr o sl md fr zs) n d).length c) (emF (plainE n f d p r dr o sl md fr zs) n d) ∧ Below w.heap.size w w' := by
  by_cases hE : plainE n f d p r dr o sl md fr zs = 0
  · have hk := plainE_ok hE
    obtain ⟨N, rfl⟩ : ∃ N : Nat, n = (N : Int) := ⟨n.toNat, by omega⟩
    obtain ⟨D, rfl⟩ : ∃ D : Nat, d = (D : Int) := ⟨d.toNat, by omega⟩
    rw [emF_ok hE, List.length_replicate]
    refine (rEmpty_ok N f D p r dr o sl md fr ad cap zs w hl hT hE).mono ?_
    rintro e w' ⟨a, c, rfl, h, hb⟩
    exact ⟨_, _, rfl, h, hb⟩
  · rw [emF_no hE]
    refine (rEmpty_no n f d p r dr o sl md fr ad cap zs w hl hT hE).mono ?_
    rintro e w' ⟨rfl, hb⟩
    exact ⟨none, 0, rfl, Kind.Lies.nil _ _, hb⟩
theorem emF_le (n f d p r dr o sl md fr : Int) (ad : Option Addr) (cap : Nat) (zs : List Int) : (emF (plainE n f d p r dr o sl md fr zs) n d).length ≤ 1000000 := by
  by_cases hE : plainE n f d p r dr o sl md fr zs = 0
  · have hk := plainE_ok hE
    obtain ⟨N, rfl⟩ : ∃ N : Nat, n = (N : Int) := ⟨n.toNat, by omega⟩
    obtain ⟨D, rfl⟩ : ∃ D : Nat, d = (D : Int) := ⟨d.toNat, by omega⟩
    obtain ⟨n1, n2, d1, d2⟩ := ND_caps N f D p r dr o sl md fr ad cap zs hE
    have hm := mul_cast n2 d2
    rw [emF_ok hE, List.length_replicate]
    omega
  · rw [emF_no hE]
    exact Nat.zero_le _
theorem putF_le (E n d fm ag : Int) (s : ByteArray) (hs : List ByteArray) : (putF E n d fm ag s hs).1.length ≤ hs.length := by
  by_cases hwr : wrE E n d hs.length fm ag s = 0
  · by_cases hem : emt (hs.getD (putAt d fm ag) noB) = true
    · rw [putF_good hwr hem]
      exact Nat.le_of_eq (List.length_set ..)
    · rw [putF_full hwr hem]
      exact Nat.zero_le _
  · rw [putF_wrong hwr]
    exact Nat.zero_le _
set_option maxHeartbeats 2000000 in
theorem walk_far (n f d p r dr o sl md fr : Int) (ad : Option Addr) (cap : Nat) (zs : List Int) (a2 : Option Addr) (c2 : Nat) (hs : List ByteArray) (fm ag : Int) (s : ByteArray) (w : World) (hlen : hs.length ≤ 9223372036854775807) (h100 : 100 < hs.length) :
    Calls Try.prog 8 #[.agg #[.int .i64 n, .int .i64 f, .int .i64 d, .int .i64 p, .int .i64 r, .int .i64 dr, .int .i64 o, .int .i64 sl, .int .i64 md, .int .i64 fr, .slice ad zs.length cap], .slice a2 hs.length c2, .agg #[.int .i64 fm, .int .i64 ag, .string s]] w fun e w' => e = .returned (.bool true) ∧ Below w.heap.size w w' := by
  have HW0 := hidden (bthen (ballc w (.cells #[.int .i64 n, .int .i64 f, .int .i64 d, .int .i64 p, .int .i64 r, .int .i64 dr, .int .i64 o, .int .i64 sl, .int .i64 md, .int .i64 fr, .slice ad zs.length cap] 24)) (ballc _ (.cells #[.int .i64 fm, .int .i64 ag, .string s] 41)))
  have i1 : (100 : Int) < (hs.length : Int) := by omega
  go_enter Try.func8, Try.ntmps8
  go_wp2_with fail
  refine (known12_any _).mono ?_
  rintro e w1 ⟨rfl, hb⟩
  go_wp2
  go_ret
  exact ⟨rfl, bthen HW0.out hb⟩
set_option maxRecDepth 100000 in
set_option maxHeartbeats 4000000 in
theorem walk_near (n f d p r dr o sl md fr : Int) (ad : Option Addr) (cap : Nat) (zs : List Int) (a2 : Option Addr) (c2 : Nat) (hs : List ByteArray) (fm ag : Int) (s : ByteArray) (w : World) (hl : zs.length ≤ 9223372036854775807) (hT : Tab w ad zs) (h100 : ¬ 100 < hs.length) (hsz : s.size ≤ 9223372036854775807) (hL : kStr.Lies w.heap.size w (.slice a2 hs.length c2) hs) :
    Calls Try.prog 8 #[.agg #[.int .i64 n, .int .i64 f, .int .i64 d, .int .i64 p, .int .i64 r, .int .i64 dr, .int .i64 o, .int .i64 sl, .int .i64 md, .int .i64 fr, .slice ad zs.length cap], .slice a2 hs.length c2, .agg #[.int .i64 fm, .int .i64 ag, .string s]] w fun e w' => e = .returned (.bool true) ∧ Below w.heap.size w w' := by
  have C1 := fun V h h2 => Put_any n f d p r dr o sl md fr ad cap zs a2 hs.length c2 hs fm ag s V hl h (by omega) hsz h2
  have C2 := fun V h h2 => rPut_any n f d p r dr o sl md fr ad cap zs a2 c2 hs fm ag s V hl h (by omega) hsz h2
  have C3 := fun V h => Empty_any n f d p r dr o sl md fr ad cap zs V hl h
  have C4 := fun V h => rEmpty_any n f d p r dr o sl md fr ad cap zs V hl h
  have hX := putF_le (plainE n f d p r dr o sl md fr zs) n d fm ag s hs
  have HM := hidden (emF_le n f d p r dr o sl md fr ad cap zs)
  have HW0 := hidden (bthen (ballc w (.cells #[.int .i64 n, .int .i64 f, .int .i64 d, .int .i64 p, .int .i64 r, .int .i64 dr, .int .i64 o, .int .i64 sl, .int .i64 md, .int .i64 fr, .slice ad zs.length cap] 24)) (ballc _ (.cells #[.int .i64 fm, .int .i64 ag, .string s] 41)))
  have HT := hidden (hT.below HW0.out)
  have HL := hidden (hL.later HW0.out)
  generalize putF (plainE n f d p r dr o sl md fr zs) n d fm ag s hs = X at *
  generalize emF (plainE n f d p r dr o sl md fr zs) n d = M at *
  obtain ⟨X1, X2⟩ := X
  dsimp only at *
  have HX : Hid (X1.length ≤ 1000000) := hidden (by omega)
  have i1 : ¬ (100 : Int) < (hs.length : Int) := by omega
  have i2 : (X2 == X2) = true := by simp
  clear hT hL hX
  go_enter Try.func8, Try.ntmps8
  go_wp2_with fail
  refine (C1 _ HT.out HL.out).mono ?_
  rintro e w1 ⟨a3, c3, rfl, hA, hb⟩
  obtain ⟨hbox, hbox2, hsz0, hsz1⟩ := box_two hb
  have HB1 := hidden hb
  have HA := hidden hA
  clear hb hA C1
  go_wp2_with fail
  refine (C2 _ (HT.out.below HB1.out) (HL.out.later HB1.out)).mono ?_
  rintro e w2 ⟨a4, c4, rfl, hB, hb⟩
  have hb2 := bthen HB1.out hb
  have hbk1 : w2.heap[w.heap.size]? = some (.cells #[.int .i64 n, .int .i64 f, .int .i64 d, .int .i64 p, .int .i64 r, .int .i64 dr, .int .i64 o, .int .i64 sl, .int .i64 md, .int .i64 fr, .slice ad zs.length cap] 24 (0, 0)) := (hb2.block _ (by simp; omega)).trans (((ballc (w.alloc (.cells #[.int .i64 n, .int .i64 f, .int .i64 d, .int .i64 p, .int .i64 r, .int .i64 dr, .int .i64 o, .int .i64 sl, .int .i64 md, .int .i64 fr, .slice ad zs.length cap] 24)) (.cells #[.int .i64 fm, .int .i64 ag, .string s] 41)).block _ (by simp)).trans (heap_alloc_new w _))
  have hs1 := (Array.getElem?_eq_some_iff.1 hbk1).1
  have hS : ∀ V, Chn w2.heap.size w2 V → V.cell? ⟨w.heap.size, 0, none⟩ = some (.int .i64 n) ∧ V.cell? ⟨w.heap.size, 1, none⟩ = some (.int .i64 f) ∧ V.cell? ⟨w.heap.size, 2, none⟩ = some (.int .i64 d) ∧ V.cell? ⟨w.heap.size, 3, none⟩ = some (.int .i64 p) ∧ V.cell? ⟨w.heap.size, 4, none⟩ = some (.int .i64 r) ∧ V.cell? ⟨w.heap.size, 5, none⟩ = some (.int .i64 dr) ∧ V.cell? ⟨w.heap.size, 6, none⟩ = some (.int .i64 o) ∧ V.cell? ⟨w.heap.size, 7, none⟩ = some (.int .i64 sl) ∧ V.cell? ⟨w.heap.size, 8, none⟩ = some (.int .i64 md) ∧ V.cell? ⟨w.heap.size, 9, none⟩ = some (.int .i64 fr) ∧ V.cell? ⟨w.heap.size, 10, none⟩ = some (.slice ad zs.length cap) := by
    intro V hV
    have l := blk_cell ((hV.1.block _ hs1).trans hbk1)
    exact ⟨l 0, l 1, l 2, l 3, l 4, l 5, l 6, l 7, l 8, l 9, l 10⟩
  have HT2 := hidden (HT.out.below hb2)
  have HA2 := hidden (HA.out.later hb)
  have HB := hidden hB
  have HB2 := hidden (bthen HW0.out hb2)
  clear hb hb2 hB C2 HB1 hbox hbox2 hsz0 hsz1 HT HA HL hbk1 hs1
  have hC0 : Chn w2.heap.size w2 w2 := Chn.refl (Nat.le_refl _)
  have cS1 := fun V (h : Chn w2.heap.size w2 V) => Same_eq a3 a4 _ _ c3 c4 X1 V HX.out (HA2.out.later h.1) (HB.out.later h.1)
  have cS2 := fun a c a' c' V h1 h2 => Same_eq a a' M.length M.length c c' M V HM.out h1 h2
  have cE := fun V (h : Chn w2.heap.size w2 V) => C3 V (HT2.out.below h.1)
  have cR := fun V (h : Chn w2.heap.size w2 V) => C4 V (HT2.out.below h.1)
  clear C3 C4
  go_wp2
  go_region_held3 (fun w' => w'.cell? ⟨w.heap.size, 0, none⟩ = some (.int .i64 n) ∧ w'.cell? ⟨w.heap.size, 1, none⟩ = some (.int .i64 f) ∧ w'.cell? ⟨w.heap.size, 2, none⟩ = some (.int .i64 d) ∧ w'.cell? ⟨w.heap.size, 3, none⟩ = some (.int .i64 p) ∧ w'.cell? ⟨w.heap.size, 4, none⟩ = some (.int .i64 r) ∧ w'.cell? ⟨w.heap.size, 5, none⟩ = some (.int .i64 dr) ∧ w'.cell? ⟨w.heap.size, 6, none⟩ = some (.int .i64 o) ∧ w'.cell? ⟨w.heap.size, 7, none⟩ = some (.int .i64 sl) ∧ w'.cell? ⟨w.heap.size, 8, none⟩ = some (.int .i64 md) ∧ w'.cell? ⟨w.heap.size, 9, none⟩ = some (.int .i64 fr) ∧ w'.cell? ⟨w.heap.size, 10, none⟩ = some (.slice ad zs.length cap)) (first | exact hS _ (by repeat (first | with_reducible assumption | with_reducible refine Chn.drew ?_)))
    (first
      | (go_at_call 20; refine (cS1 _ (by repeat (first | with_reducible assumption | with_reducible refine Chn.drew ?_))).mono ?_; rintro e w3 ⟨rfl, hb3⟩; clear cS1; have hC3 := Chn.below (show Chn w2.heap.size w2 _ from (by repeat (first | with_reducible assumption | with_reducible refine Chn.drew ?_))) hb3; clear hb3)
      | (go_at_call 21; refine (cE _ (by repeat (first | with_reducible assumption | with_reducible refine Chn.drew ?_))).mono ?_; rintro e w4 ⟨a5, c5, rfl, hE5, hb4⟩; clear cE; have hC4 := Chn.below (show Chn w2.heap.size w2 _ from (by repeat (first | with_reducible assumption | with_reducible refine Chn.drew ?_))) hb4; clear hb4)
      | (go_at_call 22; refine (cR _ (by repeat (first | with_reducible assumption | with_reducible refine Chn.drew ?_))).mono ?_; rintro e w5 ⟨a6, c6, rfl, hE6, hb5⟩; clear cR; have hE7 := hE5.later (bthen (show Below w4.heap.size w4 _ from (by repeat (first | with_reducible exact Below.refl _ _ | with_reducible refine Below.drew ?_))) hb5); have hC5 := Chn.below (show Chn w2.heap.size w2 _ from (by repeat (first | with_reducible assumption | with_reducible refine Chn.drew ?_))) hb5; clear hb5)
      | (go_at_call 20; refine (cS2 _ _ _ _ _ (hE7.later (show Below w5.heap.size w5 _ from (by repeat (first | with_reducible exact Below.refl _ _ | with_reducible refine Below.drew ?_)))) (hE6.later (show Below w5.heap.size w5 _ from (by repeat (first | with_reducible exact Below.refl _ _ | with_reducible refine Below.drew ?_))))).mono ?_; rintro e w6 ⟨rfl, hb6⟩; clear cS2; have hC6 := Chn.below (show Chn w2.heap.size w2 _ from (by repeat (first | with_reducible assumption | with_reducible refine Chn.drew ?_))) hb6; clear hb6)
      | (go_at_call 17; refine (known12_any _).mono ?_; rintro e w7 ⟨rfl, hb7⟩; have hC7 := Chn.below (show Chn w2.heap.size w2 _ from (by repeat (first | with_reducible assumption | with_reducible refine Chn.drew ?_))) hb7; clear hb7))
  all_goals
    go_wp2
    go_ret
    first | exact ⟨rfl, bthen HB2.out hC7.1⟩ | exact ⟨rfl, bthen HB2.out hC7.1.drew⟩
theorem walk (n f d p r dr o sl md fr : Int) (ad : Option Addr) (cap : Nat) (zs : List Int) (a2 : Option Addr) (c2 : Nat) (hs : List ByteArray) (fm ag : Int) (s : ByteArray) (w : World) (hl : zs.length ≤ 9223372036854775807) (hT : Tab w ad zs) (hlen : hs.length ≤ 9223372036854775807) (hL : kStr.Lies w.heap.size w (.slice a2 hs.length c2) hs) (k1 : (Lit.int .i64 fm).wf = true) (k2 : (Lit.int .i64 ag).wf = true) (hsz : s.size ≤ 9223372036854775807) :
    Calls Try.prog 8 #[.agg #[.int .i64 n, .int .i64 f, .int .i64 d, .int .i64 p, .int .i64 r, .int .i64 dr, .int .i64 o, .int .i64 sl, .int .i64 md, .int .i64 fr, .slice ad zs.length cap], .slice a2 hs.length c2, .agg #[.int .i64 fm, .int .i64 ag, .string s]] w fun e w' => e = .returned (.bool true) ∧ Below w.heap.size w w' := by
  by_cases h : 100 < hs.length
  · exact walk_far n f d p r dr o sl md fr ad cap zs a2 c2 hs fm ag s w hlen h
  · exact walk_near n f d p r dr o sl md fr ad cap zs a2 c2 hs fm ag s w hl hT h hsz hL
end Go.Proofs.Ytcnmbpgjgjncdaa.LawHoldPuts
