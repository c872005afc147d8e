/- The walk of LogWider: for rows of notes that lie in memory and integers that fit int it returns true and makes at most new memory. -/
import Derived.Test.YtnllidjbehonkabLogN
namespace Go.Proofs.Ytnllidjbehonkab.LawLogWider
open Go.ChangeShapes Go.WideShapes Go.ChangeAt Go.RowKit Go.Shelf
set_option linter.unusedVariables false

theorem wf64 {n : Int} (h : -9223372036854775808 ≤ n ∧ n ≤ 9223372036854775807) : (Lit.int .i64 n).wf = true := by
  have := wrap64_wf n
  rwa [IntWalk.wrap64_in n h] at this
theorem live_wider (now width wider : Int) (h : width ≤ wider) (es : List Note) : live now width (live now wider es) = live now width es := by
  unfold live
  rw [List.filter_filter]
  refine List.filter_congr fun e _ => ?_
  unfold aliveB
  by_cases h1 : signedF now e.1.2 < width
  · have h2 : signedF now e.1.2 < wider := by omega
    simp [h1, h2]
  · simp [h1]
theorem len_le (A : List Int) : ∀ B : List Int, A.Nodup → (∀ x ∈ A, x ∈ B) → A.length ≤ B.length := by
  induction A with
  | nil => intro B _ _; simp
  | cons a A ih =>
    intro B hn hs
    obtain ⟨h1, h2⟩ := List.nodup_cons.1 hn
    have ha : a ∈ B := hs a (by simp)
    have := ih (B.erase a) h2 (fun x hx => (List.mem_erase_of_ne (show x ≠ a from fun e => h1 (by rw [← e]; exact hx))).2 (hs x (by simp [hx])))
    rw [List.length_erase_of_mem ha] at this
    have : 0 < B.length := List.length_pos_of_mem ha
    simp; omega
theorem nodes_wider (now width wider : Int) (h : width ≤ wider) (es : List Note) : (nodesOf (live now width es)).length ≤ (nodesOf (live now wider es)).length := by
  refine len_le _ _ ((nodes_of _).1.imp (fun h => by omega)) fun x hx => ?_
  rw [(nodes_of _).2] at hx ⊢
  obtain ⟨e, he, hex⟩ := hx
  refine ⟨e, ?_, hex⟩
  rw [← live_wider now width wider h] at he
  exact (List.mem_filter.1 he).1
/-- The notes of some nodes together. -/
def sumN (zs : List Int) (ls : List Note) : Nat := (zs.map fun x => cntN x ls).sum
theorem sum_one (e : Int) : ∀ zs : List Int, zs.Nodup → (zs.map fun x => if e = x then 1 else 0).sum = if e ∈ zs then 1 else 0
  | [], _ => by simp
  | z :: zs, h => by
    obtain ⟨h1, h2⟩ := List.nodup_cons.1 h
    rw [List.map_cons, List.sum_cons, sum_one e zs h2]
    by_cases hz : e = z
    · subst hz; simp [h1]
    · simp [hz]
theorem sum_add (zs : List Int) (f g : Int → Nat) : (zs.map fun x => f x + g x).sum = (zs.map f).sum + (zs.map g).sum := by
  induction zs with
  | nil => rfl
  | cons z zs ih => simp [ih]; omega
theorem sumN_all (zs : List Int) (hn : zs.Nodup) : ∀ ls : List Note, (∀ e ∈ ls, e.1.1 ∈ zs) → sumN zs ls = ls.length := by
  intro ls
  induction ls with
  | nil =>
    intro _
    unfold sumN
    induction zs with
    | nil => rfl
    | cons z zs ih => rw [List.map_cons, List.sum_cons, ih (List.nodup_cons.1 hn).2 (by simp)]; rfl
  | cons e l ih =>
    intro h
    have e1 : ∀ x, cntN x (e :: l) = (if e.1.1 = x then 1 else 0) + cntN x l := by
      intro x; unfold cntN; rw [List.filter_cons]; by_cases hx : e.1.1 = x <;> simp [hx]; omega
    unfold sumN
    rw [List.map_congr_left (fun x _ => e1 x), sum_add, sum_one _ _ hn, if_pos (h e (by simp))]
    have := ih (fun d hd => h d (by simp [hd]))
    unfold sumN at this
    rw [this]; simp; omega
theorem sumN_snoc (zs : List Int) (ls : List Note) {k : Nat} (hk : k < zs.length) : sumN (zs.take (k + 1)) ls = sumN (zs.take k) ls + cntN (zs.getD k 0) ls := by
  have : zs.take (k + 1) = zs.take k ++ [zs.getD k 0] := by rw [List.take_add_one]; simp [hk]
  rw [this]; simp [sumN]
theorem sumN_le (ls : List Note) : ∀ zs : List Int, sumN zs ls ≤ zs.length * ls.length
  | [] => by simp [sumN]
  | z :: zs => by
    have h1 := sumN_le ls zs
    have h2 := cntN_le z ls
    have e1 : sumN (z :: zs) ls = cntN z ls + sumN zs ls := by simp [sumN]
    rw [e1, List.length_cons, Nat.add_mul]; omega

set_option maxHeartbeats 2000000 in
theorem walk (ad : Option Addr) (cap : Nat) (es : List Note) (now width wider : Int) (W : World) (hl : es.length ≤ 9223372036854775807) (hE : Ents W.heap.size W (.slice ad es.length cap) es)
    (hnow : -9223372036854775808 ≤ now ∧ now ≤ 9223372036854775807) (hwd : -9223372036854775808 ≤ width ∧ width ≤ 9223372036854775807) (hwr : -9223372036854775808 ≤ wider ∧ wider ≤ 9223372036854775807) :
    Calls Try.prog 4 #[.slice ad es.length cap, .int .i64 now, .int .i64 width, .int .i64 wider] W fun e w' => e = .returned (.bool true) ∧ Below W.heap.size W w' := by
  by_cases h100 : 100 < es.length
  · go_enter Try.func4, Try.ntmps4
    go_wp2_with (go_at_call 5; refine (known6_any _).mono ?_; rintro e w1 ⟨rfl, hb⟩)
    go_ret
    exact ⟨rfl, hb⟩
  have q0 : decide (100 < (es.length : Int)) = false := by simp; omega
  by_cases hww : wider < width
  · go_enter Try.func4, Try.ntmps4
    go_wp2_with (go_at_call 5; refine (known6_any _).mono ?_; rintro e w1 ⟨rfl, hb⟩)
    go_ret
    exact ⟨rfl, hb⟩
  have qw : decide (wider < width) = false := by simp; omega
  have n1 := nodes_wider now width wider (by omega) es
  have n2 : (live now width es).length ≤ es.length := live_le _ _ _
  have n3 := nodesOf_length (live now width es)
  have n4 : (live now wider es).length ≤ es.length := live_le _ _ _
  have lw := live_wider now width wider (by omega) es
  have hall := sumN_all (nodesOf (live now width es)) ((nodes_of _).1.imp (fun h => by omega)) (live now width es) (fun e he => ((nodes_of _).2 _).2 ⟨e, he, rfl⟩)
  go_enter Try.func4, Try.ntmps4
  go_wp2_with fail
  refine (Purge_any _ _ _ _ _ es (by omega) _ hE).mono ?_
  rintro e w1 ⟨ad1, cap1, rfl, hP, hb1⟩
  go_wp2_with fail
  refine (Purge_any _ _ _ _ _ es (by omega) _ (hE.later hb1)).mono ?_
  rintro e w2 ⟨ad2, cap2, rfl, hQ, hb2⟩
  go_wp2_with fail
  refine (Purge_any _ _ _ _ _ (live now wider es) (by omega) _ hQ).mono ?_
  rintro e w3 ⟨ad3, cap3, rfl, hR, hb3⟩
  rw [lw] at hR ⊢
  go_wp2_with fail
  refine (Same_any _ _ _ _ _ _ (live now width es) _ (by omega) hR (hP.later (bthen hb2 hb3))).mono ?_
  rintro e w4 ⟨rfl, hb4⟩
  have hb14 := bthen hb1 (bthen hb2 (bthen hb3 hb4))
  go_wp2_with fail
  refine (Count_any _ _ _ _ _ es (by omega) _ (hE.later hb14)).mono ?_
  rintro e w5 ⟨rfl, hb5⟩
  have hb15 := bthen hb14 hb5
  go_wp2_with fail
  refine (Count_any _ _ _ _ _ es (by omega) _ (hE.later hb15)).mono ?_
  rintro e w6 ⟨rfl, hb6⟩
  have hb16 := bthen hb15 hb6
  have q1 : decide (((nodesOf (live now wider es)).length : Int) < ((nodesOf (live now width es)).length : Int)) = false := by simp; omega
  go_wp2_with fail
  refine (Who_any _ _ _ _ _ es (by omega) _ (hE.later hb16)).mono ?_
  rintro e w7 ⟨ad7, cap7, rfl, hZ, hb7⟩
  have hb17 := bthen hb16 hb7
  have hE7 := hE.later hb17
  have HB := hidden hb17
  clear hb1 hb2 hb3 hb4 hb5 hb6 hb7 hb14 hb15 hb16 hb17 hP hQ hR hE n1 n4 lw q1
  have OF : ∀ (x : Int) (V : World), (Lit.int .i64 x).wf = true → Below w7.heap.size w7 V → Calls Try.prog 11 #[.slice ad es.length cap, .int .i64 x, .int .i64 now, .int .i64 width] V fun e w' => e = .returned (.int .i64 (cntN x (live now width es) : Int)) ∧ Below V.heap.size V w' := fun x V hx hV =>
    Of_any _ _ _ x now width es hx (by omega) V (hE7.later hV)
  have hwfz : ∀ k, k < (nodesOf (live now width es)).length → (Lit.int .i64 ((nodesOf (live now width es)).getD k 0)).wf = true := fun k hk => by
    have hm : (nodesOf (live now width es)).getD k 0 ∈ nodesOf (live now width es) := by simp [hk]
    obtain ⟨e, _, he⟩ := ((nodes_of _).2 _).1 hm
    rw [← he]; exact e.2.1
  generalize live now width es = ls at hall n2 n3 hZ OF hwfz ⊢
  generalize nodesOf ls = zs at hall n3 hZ hwfz ⊢
  obtain ⟨_, _, hv, _, _, hc⟩ := hZ
  obtain ⟨rfl, rfl⟩ : ad7 = _ ∧ cap7 = _ := by simpa using hv
  clear hv
  go_wp2
  go_loopw [11, 13] (fun n i wr => ∃ k : Nat, k ≤ zs.length ∧ n = .int .i64 (sumN (zs.take k) ls : Int) ∧ i = .int .i64 (k : Int) ∧ Below w7.heap.size w7 wr) (fun _ i _ => zs.length - (intOf i).toNat)
  case atStart => exact ⟨0, Nat.zero_le _, rfl, rfl, Below.refl _ _⟩
  case round =>
    obtain ⟨k, hk, rfl, rfl, hB⟩ := hrel
    by_cases hlt : k < zs.length
    · obtain ⟨b, off, rfl, hbl, e0⟩ := hc k hlt
      have f0 := (hB.cell (p := ⟨b, off + k, none⟩) hbl).trans e0
      have hs := sumN_snoc zs ls hlt
      have hwx := hwfz k hlt
      have b1 := sumN_le ls (zs.take k)
      have b2 : (zs.take k).length * ls.length ≤ 100 * 100 := Nat.mul_le_mul (by rw [List.length_take]; omega) (by omega)
      have b3 := cntN_le (zs.getD k 0) ls
      clear e0 hc hwfz
      generalize zs.getD k 0 = x at f0 hs hwx b3
      have OFx := fun V hV => OF x V hwx hV
      clear OF
      generalize cntN x ls = cx at hs b3 OFx
      generalize sumN (zs.take k) ls = sx at hs b1
      have t1 : IntKind.i64.wrap ((sx : Int) + (cx : Int)) = (sx : Int) + (cx : Int) := IntWalk.i64_in _ (by omega)
      have i1 : (0 : Int) ≤ (k : Int) := by omega
      have i2 : (k : Int) < (zs.length : Int) := by omega
      go_wp2_with (go_at_call 11; refine (OFx _ hB).mono ?_; rintro e w8 ⟨rfl, hb8⟩)
      go_roundw
      case rel => exact ⟨k + 1, by omega, by rw [hs]; simp, by simp, bthen hB hb8⟩
      case measure => simp [intOf]; omega
    · obtain rfl : k = zs.length := by omega
      rw [List.take_length, hall]
      go_wp2_with (go_at_call 5; refine (known6_any _).mono ?_; rintro e w9 ⟨rfl, hb9⟩)
      go_ret
      exact ⟨rfl, bthen HB.out (bthen hB hb9)⟩
end Go.Proofs.Ytnllidjbehonkab.LawLogWider
