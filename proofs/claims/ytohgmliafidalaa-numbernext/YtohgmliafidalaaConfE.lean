/- The call eachOwns of package conf tells whether each owner is a node and each node owns a slot; conditions: 4 to 13 nodes. -/
import Derived.Test.YtohgmliafidalaaConfO
namespace Go.Proofs.Ytohgmliafidalaa
open Go.ChangeShapes Go.WideShapes Go.ChangeAt Go.RowKit
set_option linter.unusedVariables false

theorem hold_yes (a b x : Int) (w : World) (h1 : a ≤ x) (h2 : x ≤ b) :
    Calls Try.prog 92 #[.agg #[.int .i64 a, .int .i64 b], .int .i64 x] w fun e w' => e = .returned (.bool true) ∧ Below w.heap.size w w' :=
  (hold_any a b x w).mono fun e w' ⟨he, hb⟩ => ⟨by rw [he]; exact ret_b (decide_eq_true ⟨h1, h2⟩), hb⟩
theorem hold_no (a b x : Int) (w : World) (h : ¬ (a ≤ x ∧ x ≤ b)) :
    Calls Try.prog 92 #[.agg #[.int .i64 a, .int .i64 b], .int .i64 x] w fun e w' => e = .returned (.bool false) ∧ Below w.heap.size w w' :=
  (hold_any a b x w).mono fun e w' ⟨he, hb⟩ => ⟨by rw [he]; exact ret_b (decide_eq_false h), hb⟩

/-- The marks of a count of owners, in a block of the call's own. -/
structure Marks (w0 wl : World) (g N : Nat) (h : Nat → Bool) : Prop where
  c0 : wl.cell? ⟨g, 0, none⟩ = some (.int .i64 0)
  c1 : wl.cell? ⟨g, 1, none⟩ = some (.int .i64 ((N : Int) - 1))
  m : ∀ j, j < 13 → wl.cell? ⟨g, 2 + j, none⟩ = some (.bool (h j))
  fz : ∀ i, wl.frozen? ⟨g, i, none⟩ = false
  lt : g < wl.heap.size
  bel : Below g w0 wl
theorem Marks.start (w0 : World) (N : Nat) (t : TypeId) (h : Nat → Bool) (h0 : ∀ j, h j = false) : Marks w0 (w0.alloc (.cells #[.int .i64 0, .int .i64 ((N : Int) - 1), .bool false, .bool false, .bool false, .bool false, .bool false, .bool false, .bool false, .bool false, .bool false, .bool false, .bool false, .bool false, .bool false] t)) w0.heap.size N h where
  c0 := by rw [World.cell?_alloc_mark]; rfl
  c1 := by rw [World.cell?_alloc_mark]; rfl
  m := by
    intro j hj
    rw [World.cell?_alloc_mark, h0]
    have hj' : j = 0 ∨ j = 1 ∨ j = 2 ∨ j = 3 ∨ j = 4 ∨ j = 5 ∨ j = 6 ∨ j = 7 ∨ j = 8 ∨ j = 9 ∨ j = 10 ∨ j = 11 ∨ j = 12 := by omega
    rcases hj' with rfl | rfl | rfl | rfl | rfl | rfl | rfl | rfl | rfl | rfl | rfl | rfl | rfl <;> rfl
  fz := fun i => Joins.unfrozen_of_block (heap_alloc_new w0 _) i
  lt := by simp
  bel := ballc _ _
theorem Marks.grow {w0 wl w2 : World} {g N : Nat} {h : Nat → Bool} (k : Marks w0 wl g N h) (hb : Below wl.heap.size wl w2) : Marks w0 w2 g N h where
  c0 := by rw [hb.cell k.lt]; exact k.c0
  c1 := by rw [hb.cell k.lt]; exact k.c1
  m := fun j hj => by rw [hb.cell k.lt]; exact k.m j hj
  fz := fun i => by rw [hb.frozen k.lt]; exact k.fz i
  lt := Nat.lt_of_lt_of_le k.lt hb.size
  bel := k.bel.trans (hb.mono (Nat.le_of_lt k.lt))
theorem Marks.set {w0 wl : World} {g N : Nat} {h h' : Nat → Bool} (k : Marks w0 wl g N h) (t : Nat) (ht : t < 13) (hh : ∀ j, h' j = (h j || decide ((t : Int) = (j : Int)))) : Marks w0 (wl.setCell ⟨g, 2 + t, none⟩ (.bool true)) g N h' where
  c0 := by rw [World.cell?_setCell_other _ _ _ _ (by simp <;> omega)]; exact k.c0
  c1 := by rw [World.cell?_setCell_other _ _ _ _ (by simp <;> omega)]; exact k.c1
  m := fun j hj => by
    rw [hh]
    by_cases e : t = j
    · subst e
      rw [World.cell?_setCell_same _ _ _ (k.m t ht)]
      simp
    · rw [World.cell?_setCell_other _ _ _ _ (by simp <;> omega), k.m j hj]
      have : ¬ (t : Int) = (j : Int) := by omega
      simp [this]
  fz := fun i => by rw [World.frozen?_setCell]; exact k.fz i
  lt := by have := k.lt; simpa using this
  bel := k.bel.setCell (Nat.le_refl _) _

theorem Marks.below0 {w wl : World} {ob : Obj} {N : Nat} {h : Nat → Bool} (k : Marks (w.alloc ob) wl (w.heap.size + 1) N h) : Below (w.alloc ob).heap.size (w.alloc ob) wl := by
  have e : (w.alloc ob).heap.size = w.heap.size + 1 := by simp
  rw [e]; exact k.bel
set_option maxHeartbeats 1000000 in
theorem eachOwns_any (n f d p r dr o sl md fr : Int) (ad : Option Addr) (cap : Nat) (zs : List Int) (w : World) (hn1 : 4 ≤ n) (hn2 : n ≤ 13) (hl : zs.length ≤ 9223372036854775807) (hT : Tab w ad zs) :
    Calls Try.prog 93 #[.agg #[.int .i64 n, .int .i64 f, .int .i64 d, .int .i64 p, .int .i64 r, .int .i64 dr, .int .i64 o, .int .i64 sl, .int .i64 md, .int .i64 fr, .slice ad zs.length cap]] w fun e w' => e = .returned (.bool (ownsB n zs)) ∧ Below w.heap.size w w' := by
  obtain ⟨N, rfl⟩ : ∃ N : Nat, n = (N : Int) := ⟨n.toNat, by omega⟩
  have HT : Hid (Tab (w.alloc (.cells #[.int .i64 (N : Int), .int .i64 f, .int .i64 d, .int .i64 p, .int .i64 r, .int .i64 dr, .int .i64 o, .int .i64 sl, .int .i64 md, .int .i64 fr, .slice ad zs.length cap] 24)) ad zs) := hT.below (ballc _ _)
  clear hT
  have hM0 := Marks.start (w.alloc (.cells #[.int .i64 (N : Int), .int .i64 f, .int .i64 d, .int .i64 p, .int .i64 r, .int .i64 dr, .int .i64 o, .int .i64 sl, .int .i64 md, .int .i64 fr, .slice ad zs.length cap] 24)) N 135 (hasTo zs 0) (hasTo_zero zs)
  have hg : (w.alloc (.cells #[.int .i64 (N : Int), .int .i64 f, .int .i64 d, .int .i64 p, .int .i64 r, .int .i64 dr, .int .i64 o, .int .i64 sl, .int .i64 md, .int .i64 fr, .slice ad zs.length cap] 24)).heap.size = w.heap.size + 1 := by simp
  rw [hg] at hM0
  have HM0 : Hid _ := hM0
  clear hM0
  go_enter Try.func93, Try.ntmps93
  go_wp2
  go_loopw [16] (fun i wl => ∃ k : Nat, k ≤ zs.length ∧ i = .int .i64 k ∧ (∀ z ∈ zs.take k, 0 ≤ z ∧ z ≤ (N : Int) - 1) ∧ Marks (w.alloc (.cells #[.int .i64 (N : Int), .int .i64 f, .int .i64 d, .int .i64 p, .int .i64 r, .int .i64 dr, .int .i64 o, .int .i64 sl, .int .i64 md, .int .i64 fr, .slice ad zs.length cap] 24)) wl (w.heap.size + 1) N (hasTo zs k)) (fun i _ => zs.length - (intOf i).toNat)
  case atStart => exact ⟨0, Nat.zero_le _, rfl, by simp, HM0.out⟩
  case round =>
    obtain ⟨k, hk, rfl, hall, hM⟩ := hrel
    clear HM0
    have HA : Hid (∀ z ∈ zs.take k, 0 ≤ z ∧ z ≤ (N : Int) - 1) := hall
    have HM : Hid (Marks (w.alloc (.cells #[.int .i64 (N : Int), .int .i64 f, .int .i64 d, .int .i64 p, .int .i64 r, .int .i64 dr, .int .i64 o, .int .i64 sl, .int .i64 md, .int .i64 fr, .slice ad zs.length cap] 24)) wr (w.heap.size + 1) N (hasTo zs k)) := hM
    have hc0 := hM.c0
    have hc1 := hM.c1
    have hfz := hM.fz
    have hlt := hM.lt
    have hbox : ∀ i, wr.cell? ⟨w.heap.size, i, none⟩ = #[.int .i64 (N : Int), .int .i64 f, .int .i64 d, .int .i64 p, .int .i64 r, .int .i64 dr, .int .i64 o, .int .i64 sl, .int .i64 md, .int .i64 fr, .slice ad zs.length cap][i]? := fun i => by
      rw [hM.bel.cell (by simp)]; exact World.cell?_alloc_mark _ _ _ _ i
    have HTr : Hid (Tab wr ad zs) := HT.out.below (by rw [hg]; exact hM.bel)
    clear hall hM hg
    by_cases hlt : k < zs.length
    · obtain ⟨a, rfl, hc, ha⟩ := HTr.out.lies k hlt
      generalize hzz : zs.getD k 0 = z at hc
      have HZ : Hid (zs.getD k 0 = z) := hzz
      clear hzz
      by_cases hz : 0 ≤ z ∧ z ≤ (N : Int) - 1
      · have HN : Hid (0 ≤ z ∧ z ≤ (N : Int) - 1) := hz
        obtain ⟨t, rfl⟩ : ∃ t : Nat, z = (t : Int) := ⟨z.toNat, by omega⟩
        have ht : t < 13 := by omega
        have hq := fun v => hold_yes 0 ((N : Int) - 1) t v hz.1 hz.2
        clear hz
        go_wp2_with fail
        refine (hq _).mono ?_
        rintro e w2 ⟨rfl, hb2⟩
        have HM2 : Hid (Marks _ w2 (w.heap.size + 1) N (hasTo zs k)) := HM.out.grow hb2
        have hcm := HM2.out.m t ht
        have hfm := HM2.out.fz (2 + t)
        clear hb2
        go_wp2
        go_roundw
        case rel => exact ⟨k + 1, by omega, by go_num, all_succ k hlt HA.out (by rw [HZ.out]; exact HN.out.1) (by rw [HZ.out]; exact HN.out.2), HM2.out.set (h' := hasTo zs (k + 1)) t ht (fun j => by rw [hasTo_succ k hlt j, HZ.out])⟩
        case measure => simp [intOf]; omega
      · have hq := fun v => hold_no 0 ((N : Int) - 1) z v hz
        have HN : Hid (¬ (0 ≤ z ∧ z ≤ (N : Int) - 1)) := hz
        clear hz
        go_wp2_with (go_at_call 92; refine (hq _).mono ?_; rintro e w2 ⟨rfl, hb2⟩; have HB2 : Hid (Below wr.heap.size wr w2) := hb2; clear hb2)
        go_ret
        exact ⟨ret_b (by rw [ownsB_bad k hlt (by rw [HZ.out]; exact HN.out)]), bthen (bthen (ballc w _) (HM.out.below0)) HB2.out⟩
    · have hk' : k = zs.length := by omega
      subst hk'
      have hcm := HM.out.m
      go_wp2
      go_loop [34] (fun i => ∃ j : Nat, j ≤ N ∧ i = .int .i64 j ∧ (∀ t : Nat, t < j → (t : Int) ∈ zs)) (fun i => N - (intOf i).toNat)
      case atStart => exact ⟨0, by omega, rfl, by simp⟩
      case round =>
        obtain ⟨j, hj, rfl, hown⟩ := hrel
        have HO : Hid (∀ t : Nat, t < j → (t : Int) ∈ zs) := hown
        clear hown
        by_cases hjn : j < N
        · have hcj := hcm j (by omega)
          clear hcm
          by_cases hh : hasTo zs zs.length j = true
          · have HJ : Hid ((j : Int) ∈ zs) := hasTo_all.1 hh
            rw [hh] at hcj
            clear hh
            go_wp2
            go_round
            case rel => exact ⟨j + 1, by omega, by go_num, fun t ht => by
              by_cases e : t = j
              · subst e; exact HJ.out
              · exact HO.out t (by omega)⟩
            case measure => simp [intOf]; omega
          · have HJ : Hid (¬ (j : Int) ∈ zs) := fun h => hh (hasTo_all.2 h)
            have hh' : hasTo zs zs.length j = false := by simpa using hh
            rw [hh'] at hcj
            clear hh hh'
            go_wp2
            go_ret
            exact ⟨ret_b (by rw [ownsB_miss j (by omega) HJ.out]), bthen (ballc w _) (HM.out.below0)⟩
        · clear hcm
          go_wp2
          go_ret
          exact ⟨ret_b (by rw [ownsB_yes (by simpa using HA.out) (fun t ht => HO.out t (by omega))]), bthen (ballc w _) (HM.out.below0)⟩
end Go.Proofs.Ytohgmliafidalaa
