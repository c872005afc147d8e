/- The calls Take and Room of package rate and of the document's answer return what plain functions give; for rows of notes that lie in memory, at most a million, and integers that fit int. -/
import Derived.Test.YtjmeeklaclidbaaLogR
import Derived.Test.YtjmeeklaclidbaaRowG
namespace Go.Proofs.Ytjmeeklaclidbaa
open Go.ChangeShapes Go.WideShapes Go.ChangeAt Go.RowKit Go.Shelf
set_option linter.unusedVariables false

theorem wf64' {n : Int} (h : -9223372036854775808 ≤ n ∧ n ≤ 9223372036854775807) : (Lit.int .i64 n).wf = true := by
  have := wrap64_wf n
  rwa [IntWalk.wrap64_in n h] at this
/-- A note of a node, at a clock's number. -/
def noteOf (x now : Int) : Note := if h : (Lit.int .i64 x).wf = true then ⟨(x, now % 65536), h, wf64' (by omega)⟩ else note0
theorem noteOf_val {x now : Int} (h : (Lit.int .i64 x).wf = true) : (noteOf x now).1 = (x, now % 65536) := by unfold noteOf; rw [dif_pos h]
theorem live_live (now width : Int) (es : List Note) : live now width (live now width es) = live now width es := by simp [live]
/-- What Take answers. -/
def takeL (now width limit : Int) (es : List Note) (x : Int) : List Note × Int :=
  if limit ≤ (cntN x (live now width es) : Int) then (live now width es, 17)
  else (addL (live now width es) (noteOf x now), if 64 ≤ (live now width es).length then 9 else 0)
theorem takeL_no {now width limit : Int} {es : List Note} {x : Int} (h : limit ≤ (cntN x (live now width es) : Int)) : takeL now width limit es x = (live now width es, 17) := by unfold takeL; rw [if_pos h]
theorem takeL_full {now width limit : Int} {es : List Note} {x : Int} (h : ¬ limit ≤ (cntN x (live now width es) : Int)) (h2 : 64 ≤ (live now width es).length) : takeL now width limit es x = (addL (live now width es) (noteOf x now), 9) := by unfold takeL; rw [if_neg h, if_pos h2]
theorem takeL_yes {now width limit : Int} {es : List Note} {x : Int} (h : ¬ limit ≤ (cntN x (live now width es) : Int)) (h2 : ¬ 64 ≤ (live now width es).length) : takeL now width limit es x = (addL (live now width es) (noteOf x now), 0) := by unfold takeL; rw [if_neg h, if_neg h2]
theorem takeL_len (now width limit : Int) (es : List Note) (x : Int) : (takeL now width limit es x).1.length ≤ max es.length 64 := by
  unfold takeL
  have := live_le now width es
  split
  · simp; omega
  · simp [addL_length]; omega

theorem Purge_own (ad : Option Addr) (len cap : Nat) (now width : Int) (es : List Note) (hlen : es.length ≤ 1000000) (w : World) (hE : Ents w.heap.size w (.slice ad len cap) es) :
    Calls Try.prog 28 #[.slice ad len cap, .int .i64 now, .int .i64 width] w fun e w' => ∃ v, e = .returned v ∧ w'.ownsRow w.heap.size 54 2 v (live now width es).length (cells2 (live now width es)) ∧ Below w.heap.size w w' :=
  (callsIn_wide (n := 3)).1 (Purge_in 3 (Nat.le_refl _) ad len cap now width es hlen w hE)
theorem LAdd_own (ad : Option Addr) (len cap : Nat) (es : List Note) (e : Note) (hl : es.length ≤ 1000000) (w : World) (hE : Ents w.heap.size w (.slice ad len cap) es) :
    Calls Try.prog 30 #[.slice ad len cap, agg2 e] w fun r w' => ∃ v, r = .returned (.tuple #[v, .bool (decide (64 ≤ es.length))]) ∧ w'.ownsRow w.heap.size 54 2 v (addL es e).length (cells2 (addL es e)) ∧ Below w.heap.size w w' := by
  by_cases h : 64 ≤ es.length
  · refine (Add_many ad len cap es e h hl w hE).mono fun r w' ⟨v, hr, ho, hb⟩ => ?_
    rw [addL_many e h]
    exact ⟨v, by rw [hr, decide_eq_true h], ho, hb⟩
  · refine (Add_few ad len cap es e (by omega) w hE).mono fun r w' ⟨v, hr, ho, hb⟩ => ?_
    rw [addL_few e (by omega)]
    exact ⟨v, by rw [hr, decide_eq_false h], ho, hb⟩

set_option maxHeartbeats 1000000 in
theorem Take_own (ad : Option Addr) (len cap : Nat) (x now width limit : Int) (es : List Note) (hx : (Lit.int .i64 x).wf = true) (hlen : es.length ≤ 1000000) (w : World) (hE : Ents w.heap.size w (.slice ad len cap) es) :
    Calls Try.prog 10 #[.slice ad len cap, .int .i64 x, .int .i64 now, .int .i64 width, .int .i64 limit] w fun r w' => ∃ v, r = .returned (.tuple #[v, .int .i64 (takeL now width limit es x).2]) ∧ w'.ownsRow w.heap.size 54 2 v (takeL now width limit es x).1.length (cells2 (takeL now width limit es x).1) ∧ Below w.heap.size w w' := by
  have hll := live_le now width es
  have CP := Purge_own ad len cap now width es hlen w hE
  have CO := fun a l c W h => Of_any a l c x now width (live now width es) hx (by omega) W h
  have CA := fun a l c W h => LAdd_own a l c (live now width es) (noteOf x now) (by omega) W h
  rw [live_live] at CO
  simp only [agg2, noteOf_val hx] at CA
  by_cases h1 : limit ≤ (cntN x (live now width es) : Int)
  · rw [takeL_no h1]
    dsimp only
    generalize live now width es = ls at *
    generalize cntN x ls = cn at *
    clear CA
    go_enter Try.func10, Try.ntmps10
    go_wp2_with fail
    refine CP.mono ?_
    rintro r w1 ⟨v, rfl, ho, hb⟩
    obtain ⟨a1, c1, rfl⟩ := own_slice ho
    go_wp2_with fail
    refine (CO _ _ _ _ (Ents.of_own ho)).mono ?_
    rintro r w2 ⟨rfl, hb2⟩
    go_wp2
    go_ret2
    exact ⟨_, rfl, own_below ho hb2, bthen hb hb2⟩
  · have fin : ∀ en : Int, ((decide (64 ≤ (live now width es).length) = true ∧ en = 9) ∨ (decide (64 ≤ (live now width es).length) = false ∧ en = 0)) →
      Calls Try.prog 10 #[.slice ad len cap, .int .i64 x, .int .i64 now, .int .i64 width, .int .i64 limit] w fun r w' => ∃ v, r = .returned (.tuple #[v, .int .i64 en]) ∧ w'.ownsRow w.heap.size 54 2 v (addL (live now width es) (noteOf x now)).length (cells2 (addL (live now width es) (noteOf x now))) ∧ Below w.heap.size w w' := by
      intro en hen
      generalize live now width es = ls at *
      generalize cntN x ls = cn at *
      generalize hal : addL ls (noteOf x now) = al at *
      generalize decide (64 ≤ ls.length) = db at *
      have hgo : ∀ (db' : Bool) (en' : Int), db = db' → en = en' → (db' = true ∧ en' = 9 ∨ db' = false ∧ en' = 0) → Calls Try.prog 10 #[.slice ad len cap, .int .i64 x, .int .i64 now, .int .i64 width, .int .i64 limit] w fun r w' => ∃ v, r = .returned (.tuple #[v, .int .i64 en]) ∧ w'.ownsRow w.heap.size 54 2 v al.length (cells2 al) ∧ Below w.heap.size w w' := by
        rintro db' en' rfl rfl (⟨rfl, rfl⟩ | ⟨rfl, rfl⟩)
        all_goals
          go_enter Try.func10, Try.ntmps10
          go_wp2_with fail
          refine CP.mono ?_
          rintro r w1 ⟨v, rfl, ho, hb⟩
          obtain ⟨a1, c1, rfl⟩ := own_slice ho
          go_wp2_with fail
          refine (CO _ _ _ _ (Ents.of_own ho)).mono ?_
          rintro r w2 ⟨rfl, hb2⟩
          have ho2 := own_below ho hb2
          have hB2 := bthen hb hb2
          clear hb hb2 ho
          go_wp2_with (first
            | (go_at_call 31; refine (Put_any _ _).mono ?_; rintro e w' ⟨rfl, rfl⟩)
            | (go_at_call 30; refine (CA _ _ _ _ (Ents.of_own ho2)).mono ?_; rintro r w3 ⟨v3, rfl, ho3, hb3⟩))
          go_ret2
          exact ⟨_, rfl, own_low ho3 hB2.size, bthen hB2 hb3⟩
      exact hgo db en rfl rfl hen
    by_cases h2 : 64 ≤ (live now width es).length
    · rw [takeL_full h1 h2]
      exact fin 9 (.inl ⟨by simpa using h2, rfl⟩)
    · rw [takeL_yes h1 h2]
      exact fin 0 (.inr ⟨by simpa using h2, rfl⟩)
set_option maxHeartbeats 1000000 in
theorem rTake_any (ad : Option Addr) (len cap : Nat) (x now width limit : Int) (es : List Note) (hx : (Lit.int .i64 x).wf = true) (hlen : es.length ≤ 1000000) (w : World) (hE : Ents w.heap.size w (.slice ad len cap) es) :
    Calls Try.prog 11 #[.slice ad len cap, .int .i64 x, .int .i64 now, .int .i64 width, .int .i64 limit] w fun r w' => ∃ a c, r = .returned (.tuple #[.slice a (takeL now width limit es x).1.length c, .int .i64 (takeL now width limit es x).2]) ∧ Ents w'.heap.size w' (.slice a (takeL now width limit es x).1.length c) (takeL now width limit es x).1 ∧ Below w.heap.size w w' ∧ Anew w.heap.size a := by
  have hll := live_le now width es
  have CP := rPurge_anew ad len cap now width es hlen w hE
  have CO := fun a l c W h => rOf_any a l c x now width (live now width es) (by omega) W h
  have CA := fun a l c W h => rLAdd_anew a l c (live now width es) (noteOf x now) (by omega) W h
  rw [live_live] at CO
  simp only [agg2, noteOf_val hx] at CA
  by_cases h1 : limit ≤ (cntN x (live now width es) : Int)
  · rw [takeL_no h1]
    dsimp only
    generalize live now width es = ls at *
    generalize cntN x ls = cn at *
    clear CA
    go_enter Try.func11, Try.ntmps11
    go_wp2_with fail
    refine CP.mono ?_
    rintro r w1 ⟨a1, c1, rfl, ho, hb, hn1⟩
    go_wp2_with fail
    refine (CO _ _ _ _ ho).mono ?_
    rintro r w2 ⟨rfl, hb2⟩
    go_wp2
    go_ret2
    exact ⟨_, _, rfl, ho.later hb2, bthen hb hb2, hn1⟩
  · have fin : ∀ en : Int, ((decide (64 ≤ (live now width es).length) = true ∧ en = 9) ∨ (decide (64 ≤ (live now width es).length) = false ∧ en = 0)) →
      Calls Try.prog 11 #[.slice ad len cap, .int .i64 x, .int .i64 now, .int .i64 width, .int .i64 limit] w fun r w' => ∃ a c, r = .returned (.tuple #[.slice a (addL (live now width es) (noteOf x now)).length c, .int .i64 en]) ∧ Ents w'.heap.size w' (.slice a (addL (live now width es) (noteOf x now)).length c) (addL (live now width es) (noteOf x now)) ∧ Below w.heap.size w w' ∧ Anew w.heap.size a := by
      intro en hen
      generalize live now width es = ls at *
      generalize cntN x ls = cn at *
      generalize hal : addL ls (noteOf x now) = al at *
      generalize decide (64 ≤ ls.length) = db at *
      have hgo : ∀ (db' : Bool) (en' : Int), db = db' → en = en' → (db' = true ∧ en' = 9 ∨ db' = false ∧ en' = 0) → Calls Try.prog 11 #[.slice ad len cap, .int .i64 x, .int .i64 now, .int .i64 width, .int .i64 limit] w fun r w' => ∃ a c, r = .returned (.tuple #[.slice a al.length c, .int .i64 en]) ∧ Ents w'.heap.size w' (.slice a al.length c) al ∧ Below w.heap.size w w' ∧ Anew w.heap.size a := by
        rintro db' en' rfl rfl (⟨rfl, rfl⟩ | ⟨rfl, rfl⟩)
        all_goals
          go_enter Try.func11, Try.ntmps11
          go_wp2_with fail
          refine CP.mono ?_
          rintro r w1 ⟨a1, c1, rfl, ho, hb, hn1⟩
          go_wp2_with fail
          refine (CO _ _ _ _ ho).mono ?_
          rintro r w2 ⟨rfl, hb2⟩
          have ho2 := ho.later hb2
          have hB2 := bthen hb hb2
          clear hb hb2 ho
          go_wp2_with (first
            | (go_at_call 33; refine (rPut_any _ _).mono ?_; rintro e w' ⟨rfl, rfl⟩)
            | (go_at_call 32; refine (CA _ _ _ _ ho2).mono ?_; rintro r w3 ⟨a3, c3, rfl, ho3, hb3, hn3⟩))
          go_ret2
          exact ⟨_, _, rfl, ho3, bthen hB2 hb3, fun a h => Nat.le_trans hB2.size (hn3 a h)⟩
      exact hgo db en rfl rfl hen
    by_cases h2 : 64 ≤ (live now width es).length
    · rw [takeL_full h1 h2]
      exact fin 9 (.inl ⟨by simpa using h2, rfl⟩)
    · rw [takeL_yes h1 h2]
      exact fin 0 (.inr ⟨by simpa using h2, rfl⟩)
/-- What Room answers. -/
def roomF (limit : Int) (n : Nat) : Int := if limit ≤ (n : Int) then 0 else limit - n
theorem Room_any (ad : Option Addr) (len cap : Nat) (x now width limit : Int) (es : List Note) (hx : (Lit.int .i64 x).wf = true) (hlim : -9223372036854775808 ≤ limit ∧ limit ≤ 9223372036854775807) (hlen : es.length ≤ 1000000) (w : World) (hE : Ents w.heap.size w (.slice ad len cap) es) :
    Calls Try.prog 13 #[.slice ad len cap, .int .i64 x, .int .i64 now, .int .i64 width, .int .i64 limit] w fun r w' => r = .returned (.int .i64 (roomF limit (cntN x (live now width es)))) ∧ Below w.heap.size w w' := by
  have hll := live_le now width es
  have hcl := cntN_le x (live now width es)
  have CO := Of_any ad len cap x now width es hx hlen w hE
  generalize cntN x (live now width es) = cn at *
  have t1 : IntKind.i64.wrap (max 0 limit - (cn : Int)) = max 0 limit - (cn : Int) := IntWalk.i64_in _ (by omega)
  go_enter Try.func13, Try.ntmps13
  go_wp2_with (go_at_call 29; refine CO.mono ?_; rintro r w1 ⟨rfl, hb⟩)
  all_goals (go_ret; exact ⟨ret_i (by unfold roomF; split <;> omega), hb⟩)
theorem rRoom_any (ad : Option Addr) (len cap : Nat) (x now width limit : Int) (es : List Note) (hlim : -9223372036854775808 ≤ limit ∧ limit ≤ 9223372036854775807) (hlen : es.length ≤ 1000000) (w : World) (hE : Ents w.heap.size w (.slice ad len cap) es) :
    Calls Try.prog 14 #[.slice ad len cap, .int .i64 x, .int .i64 now, .int .i64 width, .int .i64 limit] w fun r w' => r = .returned (.int .i64 (roomF limit (cntN x (live now width es)))) ∧ Below w.heap.size w w' := by
  have hll := live_le now width es
  have hcl := cntN_le x (live now width es)
  have CO := rOf_any ad len cap x now width es hlen w hE
  generalize cntN x (live now width es) = cn at *
  by_cases h : limit ≤ (cn : Int)
  · have e1 : roomF limit cn = 0 := by unfold roomF; rw [if_pos h]
    rw [e1]
    go_enter Try.func14, Try.ntmps14
    go_wp2_with (go_at_call 19; refine CO.mono ?_; rintro r w1 ⟨rfl, hb⟩)
    go_ret
    exact ⟨rfl, hb⟩
  · have e1 : roomF limit cn = limit - cn := by unfold roomF; rw [if_neg h]
    have t1 : IntKind.i64.wrap (limit - (cn : Int)) = limit - (cn : Int) := IntWalk.i64_in _ (by omega)
    rw [e1]
    go_enter Try.func14, Try.ntmps14
    go_wp2_with (go_at_call 19; refine CO.mono ?_; rintro r w1 ⟨rfl, hb⟩)
    go_ret
    exact ⟨rfl, hb⟩
end Go.Proofs.Ytjmeeklaclidbaa
