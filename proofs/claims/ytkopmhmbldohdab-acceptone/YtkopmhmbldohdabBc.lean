/- Several texts of one's own in one: what each proves, and its conditions, is said ahead of it. -/
import Derived.Test.YtkopmhmbldohdabBa
import Derived.Test.YtkopmhmbldohdabBb
import Derived.Laws.RangeString
import Derived.Laws.RangeAny

/- The calls eachOwns of package conf and owned of the document's answer tell whether each owner is a node and each node owns a slot; conditions: 4 to 13 nodes. -/
namespace Go.Proofs.Ytkopmhmbldohdab
open Go.ChangeShapes Go.WideShapes Go.ChangeAt Go.RowKit
set_option linter.unusedVariables false
attribute [local go_sem] cell_rg

def ownsB (n : Int) (zs : List Int) : Bool := zs.all (fun z => decide (0 ≤ z ∧ z ≤ n - 1)) && (List.range n.toNat).all (fun j => decide ((j : Int) ∈ zs))
theorem ownsB_iff {n : Int} {zs : List Int} : ownsB n zs = true ↔ (∀ z ∈ zs, 0 ≤ z ∧ z ≤ n - 1) ∧ ∀ j : Nat, (j : Int) < n → (j : Int) ∈ zs := by
  unfold ownsB
  simp only [Bool.and_eq_true, List.all_eq_true, decide_eq_true_eq, List.mem_range]
  constructor
  · rintro ⟨h1, h2⟩
    exact ⟨h1, fun j hj => h2 j (by omega)⟩
  · rintro ⟨h1, h2⟩
    exact ⟨h1, fun j hj => h2 j (by omega)⟩
theorem ownsB_bad {n : Int} {zs : List Int} (k : Nat) (hk : k < zs.length) (h : ¬ (0 ≤ zs.getD k 0 ∧ zs.getD k 0 ≤ n - 1)) : ownsB n zs = false := by
  rw [← Bool.not_eq_true, ownsB_iff]
  rintro ⟨h1, _⟩
  refine h (h1 _ ?_)
  rw [List.getD_eq_getElem?_getD, List.getElem?_eq_getElem hk]
  exact List.getElem_mem hk
theorem ownsB_miss {n : Int} {zs : List Int} (j : Nat) (hj : (j : Int) < n) (h : ¬ (j : Int) ∈ zs) : ownsB n zs = false := by
  rw [← Bool.not_eq_true, ownsB_iff]
  rintro ⟨_, h2⟩
  exact h (h2 j hj)
theorem ownsB_yes {n : Int} {zs : List Int} (h1 : ∀ z ∈ zs, 0 ≤ z ∧ z ≤ n - 1) (h2 : ∀ j : Nat, (j : Int) < n → (j : Int) ∈ zs) : ownsB n zs = true := ownsB_iff.2 ⟨h1, h2⟩
theorem take_succ_getD {zs : List Int} (k : Nat) (hk : k < zs.length) : zs.take (k + 1) = zs.take k ++ [zs.getD k 0] := by
  rw [List.take_succ_eq_append_getElem hk, List.getD_eq_getElem?_getD, List.getElem?_eq_getElem hk]; rfl

theorem within_yes (x a b : Int) (w : World) (h1 : a ≤ x) (h2 : x ≤ b) :
    Calls Try.prog 30 #[.int .i64 x, .int .i64 a, .int .i64 b] w fun e w' => e = .returned (.bool true) ∧ w' = w := by
  go_enter Try.func30, Try.ntmps30
  go_wp2
  go_ret
  exact ⟨rfl, rfl⟩
theorem within_no (x a b : Int) (w : World) (h : ¬ (a ≤ x ∧ x ≤ b)) :
    Calls Try.prog 30 #[.int .i64 x, .int .i64 a, .int .i64 b] w fun e w' => e = .returned (.bool false) ∧ w' = w := by
  by_cases h1 : a ≤ x
  · have h2 : ¬ x ≤ b := fun h2 => h ⟨h1, h2⟩
    clear h
    have h2' : decide (x ≤ b) = false := by simp [h2]
    go_enter Try.func30, Try.ntmps30
    go_wp2
    go_ret
    exact ⟨rfl, rfl⟩
  · clear h
    have h1' : decide (a ≤ x) = false := by simp [h1]
    go_enter Try.func30, Try.ntmps30
    go_wp2
    go_ret
    exact ⟨rfl, rfl⟩

/-- The owners up to k hold node j. -/
def hasTo (zs : List Int) (k : Nat) (j : Nat) : Bool := decide ((j : Int) ∈ zs.take k)
theorem hasTo_zero (zs : List Int) (j : Nat) : hasTo zs 0 j = false := by simp [hasTo]
theorem hasTo_succ {zs : List Int} (k : Nat) (hk : k < zs.length) (j : Nat) : hasTo zs (k + 1) j = (hasTo zs k j || decide (zs.getD k 0 = (j : Int))) := by
  unfold hasTo
  rw [take_succ_getD k hk]
  by_cases h : (j : Int) ∈ zs.take k <;> simp only [List.mem_append, List.mem_singleton, h, decide_true, decide_false, Bool.true_or, Bool.false_or, true_or, false_or]
  exact decide_eq_decide.2 ⟨fun h => h.symm, fun h => h.symm⟩
theorem hasTo_all {zs : List Int} {j : Nat} : hasTo zs zs.length j = true ↔ (j : Int) ∈ zs := by simp [hasTo]

theorem all_succ {zs : List Int} {n : Int} (k : Nat) (hk : k < zs.length) (h : ∀ z ∈ zs.take k, 0 ≤ z ∧ z ≤ n - 1) (h1 : 0 ≤ zs.getD k 0) (h2 : zs.getD k 0 ≤ n - 1) : ∀ z ∈ zs.take (k + 1), 0 ≤ z ∧ z ≤ n - 1 := by
  intro z hz
  rw [take_succ_getD k hk, List.mem_append, List.mem_singleton] at hz
  rcases hz with hz | rfl
  · exact h z hz
  · exact ⟨h1, h2⟩
theorem bdrew {w W : World} (h : Below w.heap.size w W) (m : Nat) : Below w.heap.size w (W.drewN m) := bthen h (Joins.below_draws _ _ _)

set_option maxHeartbeats 1000000 in
theorem owned_any (n f d p r dr o sl md fr : Int) (ad : Option Addr) (cap : Nat) (zs : List Int) (w : World) (hn1 : 4 ≤ n) (hn2 : n ≤ 13) (hl : zs.length ≤ 9223372036854775807) (hT : Tab w ad zs) :
    Calls Try.prog 31 #[.agg #[.int .i64 n, .int .i64 f, .int .i64 d, .int .i64 p, .int .i64 r, .int .i64 dr, .int .i64 o, .int .i64 sl, .int .i64 md, .int .i64 fr, .slice ad zs.length cap]] w fun e w' => e = .returned (.bool (ownsB n zs)) ∧ Below w.heap.size w w' := by
  have hw1 : IntKind.i64.wrap (n - 1) = n - 1 := IntWalk.i64_in (n - 1) (by omega)
  have HT : Hid (Tab (w.alloc (.cells #[.int .i64 n, .int .i64 f, .int .i64 d, .int .i64 p, .int .i64 r, .int .i64 dr, .int .i64 o, .int .i64 sl, .int .i64 md, .int .i64 fr, .slice ad zs.length cap] 24)) ad zs) := hT.below (ballc _ _)
  clear hT
  go_enter Try.func31, Try.ntmps31
  go_wp2
  go_loopw [3] (fun i wl => ∃ k : Nat, k ≤ zs.length ∧ i = .int .i64 k ∧ (∀ z ∈ zs.take k, 0 ≤ z ∧ z ≤ n - 1) ∧ Below (w.alloc (.cells #[.int .i64 n, .int .i64 f, .int .i64 d, .int .i64 p, .int .i64 r, .int .i64 dr, .int .i64 o, .int .i64 sl, .int .i64 md, .int .i64 fr, .slice ad zs.length cap] 24)).heap.size (w.alloc (.cells #[.int .i64 n, .int .i64 f, .int .i64 d, .int .i64 p, .int .i64 r, .int .i64 dr, .int .i64 o, .int .i64 sl, .int .i64 md, .int .i64 fr, .slice ad zs.length cap] 24)) wl) (fun i _ => zs.length - (intOf i).toNat)
  case atStart => exact ⟨0, Nat.zero_le _, rfl, by simp, Below.refl _ _⟩
  case round =>
    obtain ⟨k, hk, rfl, hall, hb⟩ := hrel
    have HA : Hid (∀ z ∈ zs.take k, 0 ≤ z ∧ z ≤ n - 1) := hall
    have HB : Hid (Below (w.alloc (.cells #[.int .i64 n, .int .i64 f, .int .i64 d, .int .i64 p, .int .i64 r, .int .i64 dr, .int .i64 o, .int .i64 sl, .int .i64 md, .int .i64 fr, .slice ad zs.length cap] 24)).heap.size (w.alloc (.cells #[.int .i64 n, .int .i64 f, .int .i64 d, .int .i64 p, .int .i64 r, .int .i64 dr, .int .i64 o, .int .i64 sl, .int .i64 md, .int .i64 fr, .slice ad zs.length cap] 24)) wr) := hb
    obtain ⟨hbox, hsz⟩ := box_at hb
    clear hall hb
    by_cases hlt : k < zs.length
    · obtain ⟨a, rfl, hc, ha⟩ := (HT.out.below HB.out).lies k hlt
      generalize hzz : zs.getD k 0 = z at hc
      have HZ : Hid (zs.getD k 0 = z) := hzz
      clear hzz
      by_cases hz : 0 ≤ z ∧ z ≤ n - 1
      · have hq := fun v => Calls.to_belowR (within_yes z 0 (n - 1) v hz.1 hz.2)
        have HN : Hid (0 ≤ z ∧ z ≤ n - 1) := hz
        clear hz
        go_wp2
        refine wp_region_quiet_below (by kernel_rfl) (by kernel_rfl) ?_
        repeat (go_big_quiet_step (exact Calls.regrown_of (hq _)))
        refine wpQuiet_nil ?_
        intro w2 hw2
        have HB2 : Hid (Below wr.heap.size wr w2) := rg_below hw2
        clear hw2
        go_wp2
        go_roundw
        case rel => exact ⟨k + 1, by omega, by go_num, all_succ k hlt HA.out (by rw [HZ.out]; exact HN.out.1) (by rw [HZ.out]; exact HN.out.2), bthen HB.out HB2.out⟩
        case measure => simp [intOf]; omega
      · have hq := fun v => Calls.to_belowR (within_no z 0 (n - 1) v hz)
        have HN : Hid (¬ (0 ≤ z ∧ z ≤ n - 1)) := hz
        clear hz
        go_wp2
        refine wp_region_quiet_below (by kernel_rfl) (by kernel_rfl) ?_
        repeat (go_big_quiet_step (exact Calls.regrown_of (hq _)))
        refine wpQuiet_nil ?_
        intro w2 hw2
        have HB2 : Hid (Below wr.heap.size wr w2) := rg_below hw2
        clear hw2
        go_wp2
        go_ret
        exact ⟨ret_b (by rw [ownsB_bad k hlt (by rw [HZ.out]; exact HN.out)]), bthen (bthen (ballc _ _) HB.out) HB2.out⟩
    · have hk' : k = zs.length := by omega
      subst hk'
      clear hk hw1
      go_wp2
      go_loop [4] (fun i => ∃ j : Nat, (j : Int) ≤ n ∧ i = .int .i64 j ∧ (∀ t : Nat, t < j → (t : Int) ∈ zs)) (fun i => (n - intOf i).toNat)
      case atStart => exact ⟨0, by omega, rfl, by simp⟩
      case round =>
        obtain ⟨j, hj, rfl, hown⟩ := hrel
        have HO : Hid (∀ t : Nat, t < j → (t : Int) ∈ zs) := hown
        clear hown
        by_cases hjn : (j : Int) < n
        · go_wp2
          go_loop [5, 6] (fun h i => ∃ k : Nat, k ≤ zs.length ∧ i = .int .i64 k ∧ h = .bool (hasTo zs k j)) (fun _ i => zs.length - (intOf i).toNat)
          case atStart => exact ⟨0, Nat.zero_le _, rfl, by rw [hasTo_zero]⟩
          case round =>
            obtain ⟨k, hk, rfl, rfl⟩ := hrel
            by_cases hlt2 : k < zs.length
            · obtain ⟨a, rfl, hc, ha⟩ := (HT.out.below HB.out).lies k hlt2
              have HS := hasTo_succ k hlt2 j
              generalize hzz : zs.getD k 0 = z at hc HS
              clear hzz
              generalize hg : hasTo zs k j = hs at HS
              have HG : Hid (hasTo zs k j = hs) := hg
              clear hg
              have HS' : Hid (hasTo zs (k + 1) j = (hs || decide (z = (j : Int)))) := HS
              clear HS
              cases hs with
              | true =>
                go_wp2
                go_round
                case rel => exact ⟨k + 1, by omega, by go_num, by rw [HS'.out]; rfl⟩
                case measure => simp [intOf]; omega
              | false =>
                by_cases hzj : z = (j : Int)
                all_goals
                  go_wp2
                  go_round
                  case rel => exact ⟨k + 1, by omega, by go_num, by rw [HS'.out]; simp [hzj]⟩
                  case measure => simp [intOf]; omega
            · have hk' : k = zs.length := by omega
              subst hk'
              by_cases hh : hasTo zs zs.length j = true
              · have HJ : Hid ((j : Int) ∈ zs) := hasTo_all.1 hh
                go_wp2
                go_round
                case rel => exact ⟨j + 1, by omega, by go_num, fun t ht => by
                  by_cases e : t = j
                  · subst e; exact HJ.out
                  · exact HO.out t (by omega)⟩
                case measure => simp [intOf]; omega
              · have HJ : Hid (¬ (j : Int) ∈ zs) := fun h => hh (hasTo_all.2 h)
                have hh' : hasTo zs zs.length j = false := by simpa using hh
                clear hh
                go_wp2
                go_ret
                exact ⟨ret_b (by rw [ownsB_miss j hjn HJ.out]), bthen (ballc _ _) HB.out⟩
        · go_wp2
          go_ret
          exact ⟨ret_b (by rw [ownsB_yes (by simpa using HA.out) (fun t ht => HO.out t (by omega))]), bthen (ballc _ _) HB.out⟩
end Go.Proofs.Ytkopmhmbldohdab

/- The call eachOwns of package conf tells whether each owner is a node and each node owns a slot; conditions: 4 to 13 nodes. -/
namespace Go.Proofs.Ytkopmhmbldohdab
open Go.ChangeShapes Go.WideShapes Go.ChangeAt Go.RowKit
set_option linter.unusedVariables false

theorem hold_yes (a b x : Int) (w : World) (h1 : a ≤ x) (h2 : x ≤ b) :
    Calls Try.prog 33 #[.agg #[.int .i64 a, .int .i64 b], .int .i64 x] w fun e w' => e = .returned (.bool true) ∧ Below w.heap.size w w' :=
  (hold_any a b x w).mono fun e w' ⟨he, hb⟩ => ⟨by rw [he]; exact ret_b (decide_eq_true ⟨h1, h2⟩), hb⟩
theorem hold_no (a b x : Int) (w : World) (h : ¬ (a ≤ x ∧ x ≤ b)) :
    Calls Try.prog 33 #[.agg #[.int .i64 a, .int .i64 b], .int .i64 x] w fun e w' => e = .returned (.bool false) ∧ Below w.heap.size w w' :=
  (hold_any a b x w).mono fun e w' ⟨he, hb⟩ => ⟨by rw [he]; exact ret_b (decide_eq_false h), hb⟩

/-- The marks of a count of owners, in a block of the call's own. -/
structure Marks (w0 wl : World) (g N : Nat) (h : Nat → Bool) : Prop where
  c0 : wl.cell? ⟨g, 0, none⟩ = some (.int .i64 0)
  c1 : wl.cell? ⟨g, 1, none⟩ = some (.int .i64 ((N : Int) - 1))
  m : ∀ j, j < 13 → wl.cell? ⟨g, 2 + j, none⟩ = some (.bool (h j))
  fz : ∀ i, wl.frozen? ⟨g, i, none⟩ = false
  lt : g < wl.heap.size
  bel : Below g w0 wl
theorem Marks.start (w0 : World) (N : Nat) (t : TypeId) (h : Nat → Bool) (h0 : ∀ j, h j = false) : Marks w0 (w0.alloc (.cells #[.int .i64 0, .int .i64 ((N : Int) - 1), .bool false, .bool false, .bool false, .bool false, .bool false, .bool false, .bool false, .bool false, .bool false, .bool false, .bool false, .bool false, .bool false] t)) w0.heap.size N h where
  c0 := by rw [World.cell?_alloc_mark]; rfl
  c1 := by rw [World.cell?_alloc_mark]; rfl
  m := by
    intro j hj
    rw [World.cell?_alloc_mark, h0]
    have hj' : j = 0 ∨ j = 1 ∨ j = 2 ∨ j = 3 ∨ j = 4 ∨ j = 5 ∨ j = 6 ∨ j = 7 ∨ j = 8 ∨ j = 9 ∨ j = 10 ∨ j = 11 ∨ j = 12 := by omega
    rcases hj' with rfl | rfl | rfl | rfl | rfl | rfl | rfl | rfl | rfl | rfl | rfl | rfl | rfl <;> rfl
  fz := fun i => Joins.unfrozen_of_block (heap_alloc_new w0 _) i
  lt := by simp
  bel := ballc _ _
theorem Marks.grow {w0 wl w2 : World} {g N : Nat} {h : Nat → Bool} (k : Marks w0 wl g N h) (hb : Below wl.heap.size wl w2) : Marks w0 w2 g N h where
  c0 := by rw [hb.cell k.lt]; exact k.c0
  c1 := by rw [hb.cell k.lt]; exact k.c1
  m := fun j hj => by rw [hb.cell k.lt]; exact k.m j hj
  fz := fun i => by rw [hb.frozen k.lt]; exact k.fz i
  lt := Nat.lt_of_lt_of_le k.lt hb.size
  bel := k.bel.trans (hb.mono (Nat.le_of_lt k.lt))
theorem Marks.set {w0 wl : World} {g N : Nat} {h h' : Nat → Bool} (k : Marks w0 wl g N h) (t : Nat) (ht : t < 13) (hh : ∀ j, h' j = (h j || decide ((t : Int) = (j : Int)))) : Marks w0 (wl.setCell ⟨g, 2 + t, none⟩ (.bool true)) g N h' where
  c0 := by rw [World.cell?_setCell_other _ _ _ _ (by simp <;> omega)]; exact k.c0
  c1 := by rw [World.cell?_setCell_other _ _ _ _ (by simp <;> omega)]; exact k.c1
  m := fun j hj => by
    rw [hh]
    by_cases e : t = j
    · subst e
      rw [World.cell?_setCell_same _ _ _ (k.m t ht)]
      simp
    · rw [World.cell?_setCell_other _ _ _ _ (by simp <;> omega), k.m j hj]
      have : ¬ (t : Int) = (j : Int) := by omega
      simp [this]
  fz := fun i => by rw [World.frozen?_setCell]; exact k.fz i
  lt := by have := k.lt; simpa using this
  bel := k.bel.setCell (Nat.le_refl _) _

theorem Marks.below0 {w wl : World} {ob : Obj} {N : Nat} {h : Nat → Bool} (k : Marks (w.alloc ob) wl (w.heap.size + 1) N h) : Below (w.alloc ob).heap.size (w.alloc ob) wl := by
  have e : (w.alloc ob).heap.size = w.heap.size + 1 := by simp
  rw [e]; exact k.bel
set_option maxHeartbeats 1000000 in
theorem eachOwns_any (n f d p r dr o sl md fr : Int) (ad : Option Addr) (cap : Nat) (zs : List Int) (w : World) (hn1 : 4 ≤ n) (hn2 : n ≤ 13) (hl : zs.length ≤ 9223372036854775807) (hT : Tab w ad zs) :
    Calls Try.prog 34 #[.agg #[.int .i64 n, .int .i64 f, .int .i64 d, .int .i64 p, .int .i64 r, .int .i64 dr, .int .i64 o, .int .i64 sl, .int .i64 md, .int .i64 fr, .slice ad zs.length cap]] w fun e w' => e = .returned (.bool (ownsB n zs)) ∧ Below w.heap.size w w' := by
  obtain ⟨N, rfl⟩ : ∃ N : Nat, n = (N : Int) := ⟨n.toNat, by omega⟩
  have HT : Hid (Tab (w.alloc (.cells #[.int .i64 (N : Int), .int .i64 f, .int .i64 d, .int .i64 p, .int .i64 r, .int .i64 dr, .int .i64 o, .int .i64 sl, .int .i64 md, .int .i64 fr, .slice ad zs.length cap] 24)) ad zs) := hT.below (ballc _ _)
  clear hT
  have hM0 := Marks.start (w.alloc (.cells #[.int .i64 (N : Int), .int .i64 f, .int .i64 d, .int .i64 p, .int .i64 r, .int .i64 dr, .int .i64 o, .int .i64 sl, .int .i64 md, .int .i64 fr, .slice ad zs.length cap] 24)) N 73 (hasTo zs 0) (hasTo_zero zs)
  have hg : (w.alloc (.cells #[.int .i64 (N : Int), .int .i64 f, .int .i64 d, .int .i64 p, .int .i64 r, .int .i64 dr, .int .i64 o, .int .i64 sl, .int .i64 md, .int .i64 fr, .slice ad zs.length cap] 24)).heap.size = w.heap.size + 1 := by simp
  rw [hg] at hM0
  have HM0 : Hid _ := hM0
  clear hM0
  go_enter Try.func34, Try.ntmps34
  go_wp2
  go_loopw [16] (fun i wl => ∃ k : Nat, k ≤ zs.length ∧ i = .int .i64 k ∧ (∀ z ∈ zs.take k, 0 ≤ z ∧ z ≤ (N : Int) - 1) ∧ Marks (w.alloc (.cells #[.int .i64 (N : Int), .int .i64 f, .int .i64 d, .int .i64 p, .int .i64 r, .int .i64 dr, .int .i64 o, .int .i64 sl, .int .i64 md, .int .i64 fr, .slice ad zs.length cap] 24)) wl (w.heap.size + 1) N (hasTo zs k)) (fun i _ => zs.length - (intOf i).toNat)
  case atStart => exact ⟨0, Nat.zero_le _, rfl, by simp, HM0.out⟩
  case round =>
    obtain ⟨k, hk, rfl, hall, hM⟩ := hrel
    clear HM0
    have HA : Hid (∀ z ∈ zs.take k, 0 ≤ z ∧ z ≤ (N : Int) - 1) := hall
    have HM : Hid (Marks (w.alloc (.cells #[.int .i64 (N : Int), .int .i64 f, .int .i64 d, .int .i64 p, .int .i64 r, .int .i64 dr, .int .i64 o, .int .i64 sl, .int .i64 md, .int .i64 fr, .slice ad zs.length cap] 24)) wr (w.heap.size + 1) N (hasTo zs k)) := hM
    have hc0 := hM.c0
    have hc1 := hM.c1
    have hfz := hM.fz
    have hlt := hM.lt
    have hbox : ∀ i, wr.cell? ⟨w.heap.size, i, none⟩ = #[.int .i64 (N : Int), .int .i64 f, .int .i64 d, .int .i64 p, .int .i64 r, .int .i64 dr, .int .i64 o, .int .i64 sl, .int .i64 md, .int .i64 fr, .slice ad zs.length cap][i]? := fun i => by
      rw [hM.bel.cell (by simp)]; exact World.cell?_alloc_mark _ _ _ _ i
    have HTr : Hid (Tab wr ad zs) := HT.out.below (by rw [hg]; exact hM.bel)
    clear hall hM hg
    by_cases hlt : k < zs.length
    · obtain ⟨a, rfl, hc, ha⟩ := HTr.out.lies k hlt
      generalize hzz : zs.getD k 0 = z at hc
      have HZ : Hid (zs.getD k 0 = z) := hzz
      clear hzz
      by_cases hz : 0 ≤ z ∧ z ≤ (N : Int) - 1
      · have HN : Hid (0 ≤ z ∧ z ≤ (N : Int) - 1) := hz
        obtain ⟨t, rfl⟩ : ∃ t : Nat, z = (t : Int) := ⟨z.toNat, by omega⟩
        have ht : t < 13 := by omega
        have hq := fun v => hold_yes 0 ((N : Int) - 1) t v hz.1 hz.2
        clear hz
        go_wp2_with fail
        refine (hq _).mono ?_
        rintro e w2 ⟨rfl, hb2⟩
        have HM2 : Hid (Marks _ w2 (w.heap.size + 1) N (hasTo zs k)) := HM.out.grow hb2
        have hcm := HM2.out.m t ht
        have hfm := HM2.out.fz (2 + t)
        clear hb2
        go_wp2
        go_roundw
        case rel => exact ⟨k + 1, by omega, by go_num, all_succ k hlt HA.out (by rw [HZ.out]; exact HN.out.1) (by rw [HZ.out]; exact HN.out.2), HM2.out.set (h' := hasTo zs (k + 1)) t ht (fun j => by rw [hasTo_succ k hlt j, HZ.out])⟩
        case measure => simp [intOf]; omega
      · have hq := fun v => hold_no 0 ((N : Int) - 1) z v hz
        have HN : Hid (¬ (0 ≤ z ∧ z ≤ (N : Int) - 1)) := hz
        clear hz
        go_wp2_with (go_at_call 33; refine (hq _).mono ?_; rintro e w2 ⟨rfl, hb2⟩; have HB2 : Hid (Below wr.heap.size wr w2) := hb2; clear hb2)
        go_ret
        exact ⟨ret_b (by rw [ownsB_bad k hlt (by rw [HZ.out]; exact HN.out)]), bthen (bthen (ballc w _) (HM.out.below0)) HB2.out⟩
    · have hk' : k = zs.length := by omega
      subst hk'
      have hcm := HM.out.m
      go_wp2
      go_loop [34] (fun i => ∃ j : Nat, j ≤ N ∧ i = .int .i64 j ∧ (∀ t : Nat, t < j → (t : Int) ∈ zs)) (fun i => N - (intOf i).toNat)
      case atStart => exact ⟨0, by omega, rfl, by simp⟩
      case round =>
        obtain ⟨j, hj, rfl, hown⟩ := hrel
        have HO : Hid (∀ t : Nat, t < j → (t : Int) ∈ zs) := hown
        clear hown
        by_cases hjn : j < N
        · have hcj := hcm j (by omega)
          clear hcm
          by_cases hh : hasTo zs zs.length j = true
          · have HJ : Hid ((j : Int) ∈ zs) := hasTo_all.1 hh
            rw [hh] at hcj
            clear hh
            go_wp2
            go_round
            case rel => exact ⟨j + 1, by omega, by go_num, fun t ht => by
              by_cases e : t = j
              · subst e; exact HJ.out
              · exact HO.out t (by omega)⟩
            case measure => simp [intOf]; omega
          · have HJ : Hid (¬ (j : Int) ∈ zs) := fun h => hh (hasTo_all.2 h)
            have hh' : hasTo zs zs.length j = false := by simpa using hh
            rw [hh'] at hcj
            clear hh hh'
            go_wp2
            go_ret
            exact ⟨ret_b (by rw [ownsB_miss j (by omega) HJ.out]), bthen (ballc w _) (HM.out.below0)⟩
        · clear hcm
          go_wp2
          go_ret
          exact ⟨ret_b (by rw [ownsB_yes (by simpa using HA.out) (fun t ht => HO.out t (by omega))]), bthen (ballc w _) (HM.out.below0)⟩
end Go.Proofs.Ytkopmhmbldohdab

/- The call Plain of package conf returns the number of the first rule that a configuration breaks, else 0; conditions: the table's length fits int. -/
namespace Go.Proofs.Ytkopmhmbldohdab
open Go.ChangeShapes Go.WideShapes Go.ChangeAt Go.RowKit
set_option linter.unusedVariables false

def plainE (n f d p r dr o sl md fr : Int) (zs : List Int) : Int :=
  if ¬ (4 ≤ n ∧ n ≤ 13) then 7 else if ¬ (0 ≤ f ∧ f ≤ 4) then 7 else if ¬ (3 * f + 1 ≤ n) then 7 else if ¬ (1 ≤ d ∧ d ≤ 4) then 10 else
  if ¬ (6 * ((f + 1) * d) + 1 ≤ p ∧ p ≤ 400) then 8 else if ¬ (1 ≤ r ∧ r ≤ 64) then 8 else if ¬ (0 ≤ dr ∧ dr ≤ r - 1) then 8 else if ¬ (0 ≤ o ∧ o ≤ 30000) then 8 else
  if ¬ (1 ≤ sl ∧ sl ≤ 30000) then 8 else if ¬ (2 ≤ md ∧ md ≤ 250) then 8 else if ¬ (1 ≤ fr ∧ fr ≤ 100) then 8 else if ¬ (1 ≤ (zs.length : Int) ∧ (zs.length : Int) ≤ 32) then 11 else
  if ownsB n zs = true then 0 else 11

theorem pl_0 {n f d p r dr o sl md fr : Int} {zs : List Int}  (c0 : ¬ (4 ≤ n ∧ n ≤ 13)) : plainE n f d p r dr o sl md fr zs = 7 := by
  unfold plainE
  exact if_pos c0
theorem pl_1 {n f d p r dr o sl md fr : Int} {zs : List Int} (c0 : 4 ≤ n ∧ n ≤ 13) (c1 : ¬ (0 ≤ f ∧ f ≤ 4)) : plainE n f d p r dr o sl md fr zs = 7 := by
  unfold plainE
  exact (if_neg (not_not_intro c0)).trans (if_pos c1)
theorem pl_2 {n f d p r dr o sl md fr : Int} {zs : List Int} (c0 : 4 ≤ n ∧ n ≤ 13) (c1 : 0 ≤ f ∧ f ≤ 4) (c2 : ¬ (3 * f + 1 ≤ n)) : plainE n f d p r dr o sl md fr zs = 7 := by
  unfold plainE
  exact (if_neg (not_not_intro c0)).trans ((if_neg (not_not_intro c1)).trans (if_pos c2))
theorem pl_3 {n f d p r dr o sl md fr : Int} {zs : List Int} (c0 : 4 ≤ n ∧ n ≤ 13) (c1 : 0 ≤ f ∧ f ≤ 4) (c2 : 3 * f + 1 ≤ n) (c3 : ¬ (1 ≤ d ∧ d ≤ 4)) : plainE n f d p r dr o sl md fr zs = 10 := by
  unfold plainE
  exact (if_neg (not_not_intro c0)).trans ((if_neg (not_not_intro c1)).trans ((if_neg (not_not_intro c2)).trans (if_pos c3)))
theorem pl_4 {n f d p r dr o sl md fr : Int} {zs : List Int} (c0 : 4 ≤ n ∧ n ≤ 13) (c1 : 0 ≤ f ∧ f ≤ 4) (c2 : 3 * f + 1 ≤ n) (c3 : 1 ≤ d ∧ d ≤ 4) (c4 : ¬ (6 * ((f + 1) * d) + 1 ≤ p ∧ p ≤ 400)) : plainE n f d p r dr o sl md fr zs = 8 := by
  unfold plainE
  exact (if_neg (not_not_intro c0)).trans ((if_neg (not_not_intro c1)).trans ((if_neg (not_not_intro c2)).trans ((if_neg (not_not_intro c3)).trans (if_pos c4))))
theorem pl_5 {n f d p r dr o sl md fr : Int} {zs : List Int} (c0 : 4 ≤ n ∧ n ≤ 13) (c1 : 0 ≤ f ∧ f ≤ 4) (c2 : 3 * f + 1 ≤ n) (c3 : 1 ≤ d ∧ d ≤ 4) (c4 : 6 * ((f + 1) * d) + 1 ≤ p ∧ p ≤ 400) (c5 : ¬ (1 ≤ r ∧ r ≤ 64)) : plainE n f d p r dr o sl md fr zs = 8 := by
  unfold plainE
  exact (if_neg (not_not_intro c0)).trans ((if_neg (not_not_intro c1)).trans ((if_neg (not_not_intro c2)).trans ((if_neg (not_not_intro c3)).trans ((if_neg (not_not_intro c4)).trans (if_pos c5)))))
theorem pl_6 {n f d p r dr o sl md fr : Int} {zs : List Int} (c0 : 4 ≤ n ∧ n ≤ 13) (c1 : 0 ≤ f ∧ f ≤ 4) (c2 : 3 * f + 1 ≤ n) (c3 : 1 ≤ d ∧ d ≤ 4) (c4 : 6 * ((f + 1) * d) + 1 ≤ p ∧ p ≤ 400) (c5 : 1 ≤ r ∧ r ≤ 64) (c6 : ¬ (0 ≤ dr ∧ dr ≤ r - 1)) : plainE n f d p r dr o sl md fr zs = 8 := by
  unfold plainE
  exact (if_neg (not_not_intro c0)).trans ((if_neg (not_not_intro c1)).trans ((if_neg (not_not_intro c2)).trans ((if_neg (not_not_intro c3)).trans ((if_neg (not_not_intro c4)).trans ((if_neg (not_not_intro c5)).trans (if_pos c6))))))
theorem pl_7 {n f d p r dr o sl md fr : Int} {zs : List Int} (c0 : 4 ≤ n ∧ n ≤ 13) (c1 : 0 ≤ f ∧ f ≤ 4) (c2 : 3 * f + 1 ≤ n) (c3 : 1 ≤ d ∧ d ≤ 4) (c4 : 6 * ((f + 1) * d) + 1 ≤ p ∧ p ≤ 400) (c5 : 1 ≤ r ∧ r ≤ 64) (c6 : 0 ≤ dr ∧ dr ≤ r - 1) (c7 : ¬ (0 ≤ o ∧ o ≤ 30000)) : plainE n f d p r dr o sl md fr zs = 8 := by
  unfold plainE
  exact (if_neg (not_not_intro c0)).trans ((if_neg (not_not_intro c1)).trans ((if_neg (not_not_intro c2)).trans ((if_neg (not_not_intro c3)).trans ((if_neg (not_not_intro c4)).trans ((if_neg (not_not_intro c5)).trans ((if_neg (not_not_intro c6)).trans (if_pos c7)))))))
theorem pl_8 {n f d p r dr o sl md fr : Int} {zs : List Int} (c0 : 4 ≤ n ∧ n ≤ 13) (c1 : 0 ≤ f ∧ f ≤ 4) (c2 : 3 * f + 1 ≤ n) (c3 : 1 ≤ d ∧ d ≤ 4) (c4 : 6 * ((f + 1) * d) + 1 ≤ p ∧ p ≤ 400) (c5 : 1 ≤ r ∧ r ≤ 64) (c6 : 0 ≤ dr ∧ dr ≤ r - 1) (c7 : 0 ≤ o ∧ o ≤ 30000) (c8 : ¬ (1 ≤ sl ∧ sl ≤ 30000)) : plainE n f d p r dr o sl md fr zs = 8 := by
  unfold plainE
  exact (if_neg (not_not_intro c0)).trans ((if_neg (not_not_intro c1)).trans ((if_neg (not_not_intro c2)).trans ((if_neg (not_not_intro c3)).trans ((if_neg (not_not_intro c4)).trans ((if_neg (not_not_intro c5)).trans ((if_neg (not_not_intro c6)).trans ((if_neg (not_not_intro c7)).trans (if_pos c8))))))))
theorem pl_9 {n f d p r dr o sl md fr : Int} {zs : List Int} (c0 : 4 ≤ n ∧ n ≤ 13) (c1 : 0 ≤ f ∧ f ≤ 4) (c2 : 3 * f + 1 ≤ n) (c3 : 1 ≤ d ∧ d ≤ 4) (c4 : 6 * ((f + 1) * d) + 1 ≤ p ∧ p ≤ 400) (c5 : 1 ≤ r ∧ r ≤ 64) (c6 : 0 ≤ dr ∧ dr ≤ r - 1) (c7 : 0 ≤ o ∧ o ≤ 30000) (c8 : 1 ≤ sl ∧ sl ≤ 30000) (c9 : ¬ (2 ≤ md ∧ md ≤ 250)) : plainE n f d p r dr o sl md fr zs = 8 := by
  unfold plainE
  exact (if_neg (not_not_intro c0)).trans ((if_neg (not_not_intro c1)).trans ((if_neg (not_not_intro c2)).trans ((if_neg (not_not_intro c3)).trans ((if_neg (not_not_intro c4)).trans ((if_neg (not_not_intro c5)).trans ((if_neg (not_not_intro c6)).trans ((if_neg (not_not_intro c7)).trans ((if_neg (not_not_intro c8)).trans (if_pos c9)))))))))
theorem pl_10 {n f d p r dr o sl md fr : Int} {zs : List Int} (c0 : 4 ≤ n ∧ n ≤ 13) (c1 : 0 ≤ f ∧ f ≤ 4) (c2 : 3 * f + 1 ≤ n) (c3 : 1 ≤ d ∧ d ≤ 4) (c4 : 6 * ((f + 1) * d) + 1 ≤ p ∧ p ≤ 400) (c5 : 1 ≤ r ∧ r ≤ 64) (c6 : 0 ≤ dr ∧ dr ≤ r - 1) (c7 : 0 ≤ o ∧ o ≤ 30000) (c8 : 1 ≤ sl ∧ sl ≤ 30000) (c9 : 2 ≤ md ∧ md ≤ 250) (c10 : ¬ (1 ≤ fr ∧ fr ≤ 100)) : plainE n f d p r dr o sl md fr zs = 8 := by
  unfold plainE
  exact (if_neg (not_not_intro c0)).trans ((if_neg (not_not_intro c1)).trans ((if_neg (not_not_intro c2)).trans ((if_neg (not_not_intro c3)).trans ((if_neg (not_not_intro c4)).trans ((if_neg (not_not_intro c5)).trans ((if_neg (not_not_intro c6)).trans ((if_neg (not_not_intro c7)).trans ((if_neg (not_not_intro c8)).trans ((if_neg (not_not_intro c9)).trans (if_pos c10))))))))))
theorem pl_11 {n f d p r dr o sl md fr : Int} {zs : List Int} (c0 : 4 ≤ n ∧ n ≤ 13) (c1 : 0 ≤ f ∧ f ≤ 4) (c2 : 3 * f + 1 ≤ n) (c3 : 1 ≤ d ∧ d ≤ 4) (c4 : 6 * ((f + 1) * d) + 1 ≤ p ∧ p ≤ 400) (c5 : 1 ≤ r ∧ r ≤ 64) (c6 : 0 ≤ dr ∧ dr ≤ r - 1) (c7 : 0 ≤ o ∧ o ≤ 30000) (c8 : 1 ≤ sl ∧ sl ≤ 30000) (c9 : 2 ≤ md ∧ md ≤ 250) (c10 : 1 ≤ fr ∧ fr ≤ 100) (c11 : ¬ (1 ≤ (zs.length : Int) ∧ (zs.length : Int) ≤ 32)) : plainE n f d p r dr o sl md fr zs = 11 := by
  unfold plainE
  exact (if_neg (not_not_intro c0)).trans ((if_neg (not_not_intro c1)).trans ((if_neg (not_not_intro c2)).trans ((if_neg (not_not_intro c3)).trans ((if_neg (not_not_intro c4)).trans ((if_neg (not_not_intro c5)).trans ((if_neg (not_not_intro c6)).trans ((if_neg (not_not_intro c7)).trans ((if_neg (not_not_intro c8)).trans ((if_neg (not_not_intro c9)).trans ((if_neg (not_not_intro c10)).trans (if_pos c11)))))))))))
theorem pl_12 {n f d p r dr o sl md fr : Int} {zs : List Int} (c0 : 4 ≤ n ∧ n ≤ 13) (c1 : 0 ≤ f ∧ f ≤ 4) (c2 : 3 * f + 1 ≤ n) (c3 : 1 ≤ d ∧ d ≤ 4) (c4 : 6 * ((f + 1) * d) + 1 ≤ p ∧ p ≤ 400) (c5 : 1 ≤ r ∧ r ≤ 64) (c6 : 0 ≤ dr ∧ dr ≤ r - 1) (c7 : 0 ≤ o ∧ o ≤ 30000) (c8 : 1 ≤ sl ∧ sl ≤ 30000) (c9 : 2 ≤ md ∧ md ≤ 250) (c10 : 1 ≤ fr ∧ fr ≤ 100) (c11 : 1 ≤ (zs.length : Int) ∧ (zs.length : Int) ≤ 32) : plainE n f d p r dr o sl md fr zs = if ownsB n zs = true then 0 else 11 := by
  unfold plainE
  exact (if_neg (not_not_intro c0)).trans ((if_neg (not_not_intro c1)).trans ((if_neg (not_not_intro c2)).trans ((if_neg (not_not_intro c3)).trans ((if_neg (not_not_intro c4)).trans ((if_neg (not_not_intro c5)).trans ((if_neg (not_not_intro c6)).trans ((if_neg (not_not_intro c7)).trans ((if_neg (not_not_intro c8)).trans ((if_neg (not_not_intro c9)).trans ((if_neg (not_not_intro c10)).trans ((if_neg (not_not_intro c11)).trans (rfl))))))))))))

/-- Rule k holds. -/
def okR (n f d p r dr o sl md fr ln : Int) (k : Nat) : Prop := ruA f d k ≤ ruC n f d p r dr o sl md fr ln k ∧ ruC n f d p r dr o sl md fr ln k ≤ ruB r k

theorem okR_2 {n f d p r dr o sl md fr ln : Int} (h1 : 0 ≤ f) (h2 : f ≤ 4) : okR n f d p r dr o sl md fr ln 2 ↔ 3 * f + 1 ≤ n ∧ n ≤ 13 := by
  unfold okR
  simp only [ruA, ruB, ruC]
  rw [IntWalk.i64_in (3 * f) (by omega), IntWalk.i64_in (3 * f + 1) (by omega)]
theorem okR_4 {n f d p r dr o sl md fr ln : Int} (h1 : 0 ≤ f) (h2 : f ≤ 4) (h3 : 1 ≤ d) (h4 : d ≤ 4) : okR n f d p r dr o sl md fr ln 4 ↔ 6 * ((f + 1) * d) + 1 ≤ p ∧ p ≤ 400 := by
  have hq0 : 0 ≤ (f + 1) * d := Int.mul_nonneg (by omega) (by omega)
  have hq1 : (f + 1) * d ≤ 5 * 4 := Int.mul_le_mul (by omega) h4 (by omega) (by omega)
  have e : lengthW f d = 3 * ((f + 1) * d) := by rw [lengthW_eq h1 h2 h3 h4, Int.mul_assoc]
  unfold okR
  simp only [ruA, ruB, ruC]
  rw [e, IntWalk.i64_in (2 * (3 * ((f + 1) * d))) (by omega), IntWalk.i64_in (2 * (3 * ((f + 1) * d)) + 1) (by omega)]
  constructor <;> intro h <;> omega
theorem okR_6 {n f d p r dr o sl md fr ln : Int} (h1 : 1 ≤ r) (h2 : r ≤ 64) : okR n f d p r dr o sl md fr ln 6 ↔ 0 ≤ dr ∧ dr ≤ r - 1 := by
  unfold okR
  simp only [ruA, ruB, ruC]
  rw [IntWalk.i64_in (r - 1) (by omega)]

/-- What the first k rules say. -/
theorem okR_all {n f d p r dr o sl md fr ln : Int} (k : Nat) (h : ∀ j, j < k → okR n f d p r dr o sl md fr ln j) :
    (0 < k → 4 ≤ n ∧ n ≤ 13) ∧ (1 < k → 0 ≤ f ∧ f ≤ 4) ∧ (2 < k → 3 * f + 1 ≤ n) ∧ (3 < k → 1 ≤ d ∧ d ≤ 4) ∧ (4 < k → 6 * ((f + 1) * d) + 1 ≤ p ∧ p ≤ 400) ∧ (5 < k → 1 ≤ r ∧ r ≤ 64) ∧ (6 < k → 0 ≤ dr ∧ dr ≤ r - 1) ∧
    (7 < k → 0 ≤ o ∧ o ≤ 30000) ∧ (8 < k → 1 ≤ sl ∧ sl ≤ 30000) ∧ (9 < k → 2 ≤ md ∧ md ≤ 250) ∧ (10 < k → 1 ≤ fr ∧ fr ≤ 100) ∧ (11 < k → 1 ≤ ln ∧ ln ≤ 32) := by
  have h1 : 1 < k → 0 ≤ f ∧ f ≤ 4 := fun hk => h 1 hk
  have h3 : 3 < k → 1 ≤ d ∧ d ≤ 4 := fun hk => h 3 hk
  have h5 : 5 < k → 1 ≤ r ∧ r ≤ 64 := fun hk => h 5 hk
  refine ⟨fun hk => h 0 hk, h1, fun hk => ((okR_2 (h1 (by omega)).1 (h1 (by omega)).2).1 (h 2 hk)).1, h3, fun hk => (okR_4 (h1 (by omega)).1 (h1 (by omega)).2 (h3 (by omega)).1 (h3 (by omega)).2).1 (h 4 hk), h5,
    fun hk => (okR_6 (h5 (by omega)).1 (h5 (by omega)).2).1 (h 6 hk), fun hk => h 7 hk, fun hk => h 8 hk, fun hk => h 9 hk, fun hk => h 10 hk, fun hk => h 11 hk⟩

theorem plain_fail {n f d p r dr o sl md fr : Int} {zs : List Int} (k : Nat) (hk : k < 12) (h : ∀ j, j < k → okR n f d p r dr o sl md fr zs.length j) (hn : ¬ okR n f d p r dr o sl md fr zs.length k) :
    plainE n f d p r dr o sl md fr zs = ruE k := by
  obtain ⟨g0, g1, g2, g3, g4, g5, g6, g7, g8, g9, g10, g11⟩ := okR_all k h
  clear h
  have hk' : k = 0 ∨ k = 1 ∨ k = 2 ∨ k = 3 ∨ k = 4 ∨ k = 5 ∨ k = 6 ∨ k = 7 ∨ k = 8 ∨ k = 9 ∨ k = 10 ∨ k = 11 := by clear hn g0 g1 g2 g3 g4 g5 g6 g7 g8 g9 g10 g11; omega
  unfold plainE
  rcases hk' with rfl | rfl | rfl | rfl | rfl | rfl | rfl | rfl | rfl | rfl | rfl | rfl
  · exact if_pos (hn)
  · exact (if_neg (not_not_intro (g0 (by decide)))).trans (if_pos (hn))
  · exact (if_neg (not_not_intro (g0 (by decide)))).trans ((if_neg (not_not_intro (g1 (by decide)))).trans (if_pos (fun c => hn ((okR_2 (g1 (by decide)).1 (g1 (by decide)).2).2 ⟨c, (g0 (by decide)).2⟩))))
  · exact (if_neg (not_not_intro (g0 (by decide)))).trans ((if_neg (not_not_intro (g1 (by decide)))).trans ((if_neg (not_not_intro (g2 (by decide)))).trans (if_pos (hn))))
  · exact (if_neg (not_not_intro (g0 (by decide)))).trans ((if_neg (not_not_intro (g1 (by decide)))).trans ((if_neg (not_not_intro (g2 (by decide)))).trans ((if_neg (not_not_intro (g3 (by decide)))).trans (if_pos (fun c => hn ((okR_4 (g1 (by decide)).1 (g1 (by decide)).2 (g3 (by decide)).1 (g3 (by decide)).2).2 c))))))
  · exact (if_neg (not_not_intro (g0 (by decide)))).trans ((if_neg (not_not_intro (g1 (by decide)))).trans ((if_neg (not_not_intro (g2 (by decide)))).trans ((if_neg (not_not_intro (g3 (by decide)))).trans ((if_neg (not_not_intro (g4 (by decide)))).trans (if_pos (hn))))))
  · exact (if_neg (not_not_intro (g0 (by decide)))).trans ((if_neg (not_not_intro (g1 (by decide)))).trans ((if_neg (not_not_intro (g2 (by decide)))).trans ((if_neg (not_not_intro (g3 (by decide)))).trans ((if_neg (not_not_intro (g4 (by decide)))).trans ((if_neg (not_not_intro (g5 (by decide)))).trans (if_pos (fun c => hn ((okR_6 (g5 (by decide)).1 (g5 (by decide)).2).2 c))))))))
  · exact (if_neg (not_not_intro (g0 (by decide)))).trans ((if_neg (not_not_intro (g1 (by decide)))).trans ((if_neg (not_not_intro (g2 (by decide)))).trans ((if_neg (not_not_intro (g3 (by decide)))).trans ((if_neg (not_not_intro (g4 (by decide)))).trans ((if_neg (not_not_intro (g5 (by decide)))).trans ((if_neg (not_not_intro (g6 (by decide)))).trans (if_pos (hn))))))))
  · exact (if_neg (not_not_intro (g0 (by decide)))).trans ((if_neg (not_not_intro (g1 (by decide)))).trans ((if_neg (not_not_intro (g2 (by decide)))).trans ((if_neg (not_not_intro (g3 (by decide)))).trans ((if_neg (not_not_intro (g4 (by decide)))).trans ((if_neg (not_not_intro (g5 (by decide)))).trans ((if_neg (not_not_intro (g6 (by decide)))).trans ((if_neg (not_not_intro (g7 (by decide)))).trans (if_pos (hn)))))))))
  · exact (if_neg (not_not_intro (g0 (by decide)))).trans ((if_neg (not_not_intro (g1 (by decide)))).trans ((if_neg (not_not_intro (g2 (by decide)))).trans ((if_neg (not_not_intro (g3 (by decide)))).trans ((if_neg (not_not_intro (g4 (by decide)))).trans ((if_neg (not_not_intro (g5 (by decide)))).trans ((if_neg (not_not_intro (g6 (by decide)))).trans ((if_neg (not_not_intro (g7 (by decide)))).trans ((if_neg (not_not_intro (g8 (by decide)))).trans (if_pos (hn))))))))))
  · exact (if_neg (not_not_intro (g0 (by decide)))).trans ((if_neg (not_not_intro (g1 (by decide)))).trans ((if_neg (not_not_intro (g2 (by decide)))).trans ((if_neg (not_not_intro (g3 (by decide)))).trans ((if_neg (not_not_intro (g4 (by decide)))).trans ((if_neg (not_not_intro (g5 (by decide)))).trans ((if_neg (not_not_intro (g6 (by decide)))).trans ((if_neg (not_not_intro (g7 (by decide)))).trans ((if_neg (not_not_intro (g8 (by decide)))).trans ((if_neg (not_not_intro (g9 (by decide)))).trans (if_pos (hn)))))))))))
  · exact (if_neg (not_not_intro (g0 (by decide)))).trans ((if_neg (not_not_intro (g1 (by decide)))).trans ((if_neg (not_not_intro (g2 (by decide)))).trans ((if_neg (not_not_intro (g3 (by decide)))).trans ((if_neg (not_not_intro (g4 (by decide)))).trans ((if_neg (not_not_intro (g5 (by decide)))).trans ((if_neg (not_not_intro (g6 (by decide)))).trans ((if_neg (not_not_intro (g7 (by decide)))).trans ((if_neg (not_not_intro (g8 (by decide)))).trans ((if_neg (not_not_intro (g9 (by decide)))).trans ((if_neg (not_not_intro (g10 (by decide)))).trans (if_pos (hn))))))))))))
theorem plain_end {n f d p r dr o sl md fr : Int} {zs : List Int} (h : ∀ j, j < 12 → okR n f d p r dr o sl md fr zs.length j) :
    plainE n f d p r dr o sl md fr zs = if ownsB n zs = true then 0 else 11 := by
  obtain ⟨g0, g1, g2, g3, g4, g5, g6, g7, g8, g9, g10, g11⟩ := okR_all 12 h
  unfold plainE
  exact (if_neg (not_not_intro (g0 (by decide)))).trans ((if_neg (not_not_intro (g1 (by decide)))).trans ((if_neg (not_not_intro (g2 (by decide)))).trans ((if_neg (not_not_intro (g3 (by decide)))).trans ((if_neg (not_not_intro (g4 (by decide)))).trans ((if_neg (not_not_intro (g5 (by decide)))).trans ((if_neg (not_not_intro (g6 (by decide)))).trans ((if_neg (not_not_intro (g7 (by decide)))).trans ((if_neg (not_not_intro (g8 (by decide)))).trans ((if_neg (not_not_intro (g9 (by decide)))).trans ((if_neg (not_not_intro (g10 (by decide)))).trans ((if_neg (not_not_intro (g11 (by decide)))).trans (rfl))))))))))))
/-- What is plain, number by number. -/
theorem plainE_ok {n f d p r dr o sl md fr : Int} {zs : List Int} (h : plainE n f d p r dr o sl md fr zs = 0) :
    4 ≤ n ∧ n ≤ 13 ∧ 0 ≤ f ∧ f ≤ 4 ∧ 3 * f + 1 ≤ n ∧ 1 ≤ d ∧ d ≤ 4 ∧ 6 * ((f + 1) * d) + 1 ≤ p ∧ p ≤ 400 ∧ 1 ≤ r ∧ r ≤ 64 ∧ 0 ≤ dr ∧ dr ≤ r - 1 ∧ 0 ≤ o ∧ o ≤ 30000 ∧ 1 ≤ sl ∧ sl ≤ 30000 ∧ 2 ≤ md ∧ md ≤ 250 ∧ 1 ≤ fr ∧ fr ≤ 100 ∧ 1 ≤ zs.length ∧ zs.length ≤ 32 ∧ ownsB n zs = true := by
  unfold plainE at h
  by_cases c0 : 4 ≤ n ∧ n ≤ 13
  case neg => rw [if_pos c0] at h; exact absurd h (by decide)
  rw [if_neg (not_not_intro c0)] at h
  by_cases c1 : 0 ≤ f ∧ f ≤ 4
  case neg => rw [if_pos c1] at h; exact absurd h (by decide)
  rw [if_neg (not_not_intro c1)] at h
  by_cases c2 : 3 * f + 1 ≤ n
  case neg => rw [if_pos c2] at h; exact absurd h (by decide)
  rw [if_neg (not_not_intro c2)] at h
  by_cases c3 : 1 ≤ d ∧ d ≤ 4
  case neg => rw [if_pos c3] at h; exact absurd h (by decide)
  rw [if_neg (not_not_intro c3)] at h
  by_cases c4 : 6 * ((f + 1) * d) + 1 ≤ p ∧ p ≤ 400
  case neg => rw [if_pos c4] at h; exact absurd h (by decide)
  rw [if_neg (not_not_intro c4)] at h
  by_cases c5 : 1 ≤ r ∧ r ≤ 64
  case neg => rw [if_pos c5] at h; exact absurd h (by decide)
  rw [if_neg (not_not_intro c5)] at h
  by_cases c6 : 0 ≤ dr ∧ dr ≤ r - 1
  case neg => rw [if_pos c6] at h; exact absurd h (by decide)
  rw [if_neg (not_not_intro c6)] at h
  by_cases c7 : 0 ≤ o ∧ o ≤ 30000
  case neg => rw [if_pos c7] at h; exact absurd h (by decide)
  rw [if_neg (not_not_intro c7)] at h
  by_cases c8 : 1 ≤ sl ∧ sl ≤ 30000
  case neg => rw [if_pos c8] at h; exact absurd h (by decide)
  rw [if_neg (not_not_intro c8)] at h
  by_cases c9 : 2 ≤ md ∧ md ≤ 250
  case neg => rw [if_pos c9] at h; exact absurd h (by decide)
  rw [if_neg (not_not_intro c9)] at h
  by_cases c10 : 1 ≤ fr ∧ fr ≤ 100
  case neg => rw [if_pos c10] at h; exact absurd h (by decide)
  rw [if_neg (not_not_intro c10)] at h
  by_cases c11 : 1 ≤ (zs.length : Int) ∧ (zs.length : Int) ≤ 32
  case neg => rw [if_pos c11] at h; exact absurd h (by decide)
  rw [if_neg (not_not_intro c11)] at h
  by_cases c12 : ownsB n zs = true
  case neg => rw [if_neg c12] at h; exact absurd h (by decide)
  exact ⟨c0.1, c0.2, c1.1, c1.2, c2, c3.1, c3.2, c4.1, c4.2, c5.1, c5.2, c6.1, c6.2, c7.1, c7.2, c8.1, c8.2, c9.1, c9.2, c10.1, c10.2, by omega, by omega, c12⟩
end Go.Proofs.Ytkopmhmbldohdab

/- The call Plain of package conf returns the number of the first rule that a configuration breaks, else 0, and makes at most new memory; conditions: the table lies where it says, and its length fits int. -/
namespace Go.Proofs.Ytkopmhmbldohdab
open Go.ChangeShapes Go.WideShapes Go.ChangeAt Go.RowKit
set_option linter.unusedVariables false

set_option maxHeartbeats 1000000 in
theorem plain_any (n f d p r dr o sl md fr : Int) (ad : Option Addr) (cap : Nat) (zs : List Int) (w : World) (hl : zs.length ≤ 9223372036854775807) (hT : Tab w ad zs) :
    Calls Try.prog 22 #[.agg #[.int .i64 n, .int .i64 f, .int .i64 d, .int .i64 p, .int .i64 r, .int .i64 dr, .int .i64 o, .int .i64 sl, .int .i64 md, .int .i64 fr, .slice ad zs.length cap]] w fun e w' => e = .returned (.int .i64 (plainE n f d p r dr o sl md fr zs)) ∧ Below w.heap.size w w' := by
  have HT : Hid (Tab (w.alloc (.cells #[.int .i64 n, .int .i64 f, .int .i64 d, .int .i64 p, .int .i64 r, .int .i64 dr, .int .i64 o, .int .i64 sl, .int .i64 md, .int .i64 fr, .slice ad zs.length cap] 24)) ad zs) := hT.below (ballc _ _)
  clear hT
  go_enter Try.func22, Try.ntmps22
  go_wp2_with fail
  refine (rules_any n f d p r dr o sl md fr ad cap zs _).mono ?_
  rintro e w1 ⟨g, rfl, hg1, hg2, hcells, hb1⟩
  have HB1 : Hid (Below (w.alloc (.cells #[.int .i64 n, .int .i64 f, .int .i64 d, .int .i64 p, .int .i64 r, .int .i64 dr, .int .i64 o, .int .i64 sl, .int .i64 md, .int .i64 fr, .slice ad zs.length cap] 24)).heap.size (w.alloc (.cells #[.int .i64 n, .int .i64 f, .int .i64 d, .int .i64 p, .int .i64 r, .int .i64 dr, .int .i64 o, .int .i64 sl, .int .i64 md, .int .i64 fr, .slice ad zs.length cap] 24)) w1) := hb1
  have HC : Hid (∀ k, k < 12 → w1.cell? ⟨g, k * 4, none⟩ = some (.int .i64 (ruA f d k)) ∧ w1.cell? ⟨g, k * 4 + 1, none⟩ = some (.int .i64 (ruB r k)) ∧ w1.cell? ⟨g, k * 4 + 2, none⟩ = some (.int .i64 (ruC n f d p r dr o sl md fr zs.length k)) ∧ w1.cell? ⟨g, k * 4 + 3, none⟩ = some (.int .i64 (ruE k))) := hcells
  have HG2 : Hid (g < w1.heap.size) := hg2
  clear hb1 hcells hg1 hg2
  go_wp2
  go_loopw [8] (fun i wl => ∃ k : Nat, k ≤ 12 ∧ i = .int .i64 k ∧ (∀ j, j < k → okR n f d p r dr o sl md fr zs.length j) ∧ Below w1.heap.size w1 wl) (fun i _ => 12 - (intOf i).toNat)
  case atStart => exact ⟨0, Nat.zero_le _, rfl, fun j hj => absurd hj (Nat.not_lt_zero _), Below.refl _ _⟩
  case round =>
    obtain ⟨k, hk, rfl, hok, hb⟩ := hrel
    have HO : Hid (∀ j, j < k → okR n f d p r dr o sl md fr zs.length j) := hok
    have HB : Hid (Below w1.heap.size w1 wr) := hb
    clear hok hb
    by_cases hlt : k < 12
    · obtain ⟨e0, e1, e2, e3⟩ := HC.out k hlt
      rw [← HB.out.cell HG2.out] at e0 e1 e2 e3
      have hgr : g < wr.heap.size := Nat.lt_of_lt_of_le HG2.out HB.out.size
      have hgn : ¬ g = wr.heap.size := by omega
      by_cases ho : okR n f d p r dr o sl md fr zs.length k
      · have hq := fun v => hold_yes (ruA f d k) (ruB r k) (ruC n f d p r dr o sl md fr zs.length k) v ho.1 ho.2
        have HK : Hid (okR n f d p r dr o sl md fr zs.length k) := ho
        clear ho
        generalize ruA f d k = A at *
        generalize ruB r k = B at *
        generalize ruC n f d p r dr o sl md fr zs.length k = C at *
        go_wp2_with fail
        refine (hq _).mono ?_
        rintro e w2 ⟨rfl, hb2⟩
        have HB2 : Hid (Below wr.heap.size wr w2) := bthen (ballc _ _) hb2
        clear hb2 e0 e1 e2 e3
        go_wp2
        go_roundw
        case rel => exact ⟨k + 1, by omega, by go_num, fun j hj => by
          by_cases e : j = k
          · subst e; exact HK.out
          · exact HO.out j (by omega), bthen HB.out HB2.out⟩
        case measure => simp [intOf]; omega
      · have hq := fun v => hold_no (ruA f d k) (ruB r k) (ruC n f d p r dr o sl md fr zs.length k) v ho
        have HK : Hid (¬ okR n f d p r dr o sl md fr zs.length k) := ho
        clear ho
        generalize ruA f d k = A at *
        generalize ruB r k = B at *
        generalize ruC n f d p r dr o sl md fr zs.length k = C at *
        generalize hE : ruE k = E at *
        have HE : Hid (ruE k = E) := hE
        clear hE
        go_wp2_with fail
        refine (hq _).mono ?_
        rintro e w2 ⟨rfl, hb2⟩
        have HB2 : Hid (Below wr.heap.size wr w2) := bthen (ballc _ _) hb2
        obtain ⟨hbox2, hs2⟩ := box_at hb2
        clear hb2 e0 e1 e2 e3
        go_wp2
        go_ret
        exact ⟨ret_i (by rw [plain_fail k hlt HO.out HK.out]; exact HE.out.symm), bthen (bthen (ballc w _) HB1.out) (bthen HB.out HB2.out)⟩
    · have hk' : k = 12 := by omega
      subst hk'
      obtain ⟨hbox, hsz⟩ := box_at (bthen HB1.out HB.out)
      have hall := okR_all 12 HO.out
      have hq := fun v hT => eachOwns_any n f d p r dr o sl md fr ad cap zs v (hall.1 (by decide)).1 (hall.1 (by decide)).2 hl hT
      have HQ : Hid (Calls Try.prog 34 #[.agg #[.int .i64 n, .int .i64 f, .int .i64 d, .int .i64 p, .int .i64 r, .int .i64 dr, .int .i64 o, .int .i64 sl, .int .i64 md, .int .i64 fr, .slice ad zs.length cap]] wr fun e w' => e = .returned (.bool (ownsB n zs)) ∧ Below wr.heap.size wr w') := hq wr (HT.out.below (bthen HB1.out HB.out))
      clear hq hall
      have HP := plain_end HO.out
      generalize hob : ownsB n zs = ob at HP HQ
      clear hob
      cases ob
      all_goals
        have HP' : Hid (plainE n f d p r dr o sl md fr zs = _) := HP
        clear HP
        go_wp2_with fail
        refine HQ.out.mono ?_
        rintro e w2 ⟨rfl, hb2⟩
        have HB2 : Hid (Below wr.heap.size wr w2) := hb2
        clear hb2
        go_wp2
        go_ret
        exact ⟨ret_i (by rw [HP'.out]; rfl), bthen (bthen (ballc w _) HB1.out) (bthen HB.out HB2.out)⟩
end Go.Proofs.Ytkopmhmbldohdab

/- The calls Rounds, Length and Bits of package conf return what the document says, of what is plain, else 0, and make at most new memory; conditions: the table lies where it says, and its length fits int. -/
namespace Go.Proofs.Ytkopmhmbldohdab
open Go.ChangeShapes Go.WideShapes Go.ChangeAt Go.RowKit
set_option linter.unusedVariables false
attribute [local go_sem] cell_rg

/-- x, if E is no error, else 0. -/
def gate (E x : Int) : Int := if E = 0 then x else 0
/-- Hides a fact from the walk. -/
theorem gate_ok (x : Int) : gate 0 x = x := if_pos rfl
theorem gate_no {E : Int} (h : ¬ E = 0) (x : Int) : gate E x = 0 := if_neg h
theorem gate_congr {E x y : Int} (h : E = 0 → x = y) : gate E x = gate E y := by
  unfold gate
  by_cases e : E = 0
  · rw [if_pos e, if_pos e, h e]
  · rw [if_neg e, if_neg e]

end Go.Proofs.Ytkopmhmbldohdab

/- Plain words: bounds of a product; a plain configuration's period is no less than one; no conditions. -/
namespace Go.Proofs.Ytkopmhmbldohdab
open Go.ChangeShapes Go.WideShapes Go.ChangeAt Go.RowKit
set_option linter.unusedVariables false

theorem mul_bd {a b A B : Int} (h1 : 0 ≤ a) (h2 : a ≤ A) (h3 : 0 ≤ b) (h4 : b ≤ B) : 0 ≤ a * b ∧ a * b ≤ A * B :=
  ⟨Int.mul_nonneg h1 h3, Int.mul_le_mul h2 h4 h3 (Int.le_trans h1 h2)⟩
theorem plainE_p {n f d p r dr o sl md fr : Int} {zs : List Int} (h : plainE n f d p r dr o sl md fr zs = 0) : 1 ≤ p := by
  obtain ⟨_, _, f1, f2, _, d1, d2, p1, _⟩ := plainE_ok h
  have := Int.mul_nonneg (show 0 ≤ f + 1 by omega) (show 0 ≤ d by omega)
  omega
end Go.Proofs.Ytkopmhmbldohdab

/- The small calls of package bound (begin, middle, lastMiddle, slowest, hasSlot) return what they say, and make at most new memory; conditions: the numbers are within the limits of what is plain. -/
namespace Go.Proofs.Ytkopmhmbldohdab
open Go.ChangeShapes Go.WideShapes Go.ChangeAt Go.RowKit
set_option linter.unusedVariables false
attribute [local go_sem] cell_rg


theorem slowest_any (n f d p r dr o sl md fr : Int) (ad : Option Addr) (cap : Nat) (zs : List Int) (w : World) (r1 : 1 ≤ r) (r2 : r ≤ 64) (dr1 : 0 ≤ dr) (dr2 : dr ≤ r - 1) :
    Calls Try.prog 50 #[.agg #[.int .i64 n, .int .i64 f, .int .i64 d, .int .i64 p, .int .i64 r, .int .i64 dr, .int .i64 o, .int .i64 sl, .int .i64 md, .int .i64 fr, .slice ad zs.length cap]] w fun e w' => e = .returned (.int .i64 (r - dr)) ∧ Below w.heap.size w w' := by
  go_enter Try.func50, Try.ntmps50
  go_wp2
  go_ret
  exact ⟨rfl, ballc _ _⟩

theorem begin_any (n f d p r dr o sl md fr : Int) (ad : Option Addr) (cap : Nat) (zs : List Int) (s : Int) (w : World) (s1 : 0 ≤ s) (s2 : s ≤ 31) (o1 : 0 ≤ o) (o2 : o ≤ 30000) (sl1 : 1 ≤ sl) (sl2 : sl ≤ 30000) :
    Calls Try.prog 48 #[.agg #[.int .i64 n, .int .i64 f, .int .i64 d, .int .i64 p, .int .i64 r, .int .i64 dr, .int .i64 o, .int .i64 sl, .int .i64 md, .int .i64 fr, .slice ad zs.length cap], .int .i64 s] w fun e w' => e = .returned (.int .i64 (o + s * sl)) ∧ Below w.heap.size w w' := by
  obtain ⟨m0, m1⟩ := mul_bd s1 s2 (show 0 ≤ sl by omega) sl2
  go_enter Try.func48, Try.ntmps48
  go_wp2
  go_ret
  exact ⟨rfl, ballc _ _⟩

/-- A slot's middle. -/
def midE (o sl s : Int) : Int := o + s * sl + sl / 2
theorem midE_bd {o sl s : Int} (s1 : 0 ≤ s) (s2 : s ≤ 31) (o1 : 0 ≤ o) (o2 : o ≤ 30000) (sl1 : 1 ≤ sl) (sl2 : sl ≤ 30000) : 0 ≤ midE o sl s ∧ midE o sl s ≤ 975000 := by
  obtain ⟨m0, m1⟩ := mul_bd s1 s2 (show 0 ≤ sl by omega) sl2
  unfold midE; omega

theorem middle_any (n f d p r dr o sl md fr : Int) (ad : Option Addr) (cap : Nat) (zs : List Int) (s : Int) (w : World) (s1 : 0 ≤ s) (s2 : s ≤ 31) (o1 : 0 ≤ o) (o2 : o ≤ 30000) (sl1 : 1 ≤ sl) (sl2 : sl ≤ 30000) :
    Calls Try.prog 44 #[.agg #[.int .i64 n, .int .i64 f, .int .i64 d, .int .i64 p, .int .i64 r, .int .i64 dr, .int .i64 o, .int .i64 sl, .int .i64 md, .int .i64 fr, .slice ad zs.length cap], .int .i64 s] w fun e w' => e = .returned (.int .i64 (midE o sl s)) ∧ Below w.heap.size w w' := by
  have HB := hidden (fun v => begin_any n f d p r dr o sl md fr ad cap zs s v s1 s2 o1 o2 sl1 sl2)
  obtain ⟨m0, m1⟩ := mul_bd s1 s2 (show 0 ≤ sl by omega) sl2
  have t1 : IntKind.i64.wrap (sl.tdiv 2) = sl / 2 := IntWalk.i64_quo sl 2 ⟨by omega, by omega, by omega⟩
  have t2 : IntKind.i64.wrap (o + s * sl + sl / 2) = midE o sl s := by unfold midE; exact IntWalk.i64_in _ (by omega)
  go_enter Try.func44, Try.ntmps44
  go_wp2
  refine wp_region_quiet_below (by kernel_rfl) (by kernel_rfl) ?_
  repeat (go_big_quiet_step ((go_at_call 48; exact Calls.regrown_of (HB.out _))))
  refine wpQuiet_nil ?_
  intro w2 hw2
  have HB2 := hidden (bthen (ballc w _) (rg_below hw2))
  clear hw2
  go_wp2
  go_ret
  exact ⟨rfl, HB2.out⟩

theorem lastMiddle_any (n f d p r dr o sl md fr : Int) (ad : Option Addr) (cap : Nat) (zs : List Int) (w : World) (z1 : 1 ≤ zs.length) (z2 : zs.length ≤ 32) (o1 : 0 ≤ o) (o2 : o ≤ 30000) (sl1 : 1 ≤ sl) (sl2 : sl ≤ 30000) :
    Calls Try.prog 49 #[.agg #[.int .i64 n, .int .i64 f, .int .i64 d, .int .i64 p, .int .i64 r, .int .i64 dr, .int .i64 o, .int .i64 sl, .int .i64 md, .int .i64 fr, .slice ad zs.length cap]] w fun e w' => e = .returned (.int .i64 (midE o sl ((zs.length : Int) - 1))) ∧ Below w.heap.size w w' := by
  have HB := hidden (fun v => middle_any n f d p r dr o sl md fr ad cap zs ((zs.length : Int) - 1) v (by omega) (by omega) o1 o2 sl1 sl2)
  go_enter Try.func49, Try.ntmps49
  go_wp2_with fail
  refine (HB.out _).mono ?_
  rintro e w2 ⟨rfl, hb⟩
  have HB2 := hidden (bthen (ballc w _) hb)
  clear hb
  go_wp2
  go_ret
  exact ⟨rfl, HB2.out⟩

/-- There is such a slot. -/
def slotB (s : Int) (m : Nat) : Bool := decide (0 ≤ s ∧ s < (m : Int))
theorem slotB_yes {s : Int} {m : Nat} (h1 : 0 ≤ s) (h2 : s < (m : Int)) : slotB s m = true := decide_eq_true ⟨h1, h2⟩
theorem slotB_no {s : Int} {m : Nat} (h : ¬ (0 ≤ s ∧ s < (m : Int))) : slotB s m = false := decide_eq_false h
theorem slotB_of {s : Int} {m : Nat} (h : slotB s m = true) : 0 ≤ s ∧ s < (m : Int) := of_decide_eq_true h
theorem slotB_not {s : Int} {m : Nat} (h : slotB s m = false) : ¬ (0 ≤ s ∧ s < (m : Int)) := of_decide_eq_false h
theorem hasSlot_any (n f d p r dr o sl md fr : Int) (ad : Option Addr) (cap : Nat) (zs : List Int) (s : Int) (w : World) :
    Calls Try.prog 43 #[.agg #[.int .i64 n, .int .i64 f, .int .i64 d, .int .i64 p, .int .i64 r, .int .i64 dr, .int .i64 o, .int .i64 sl, .int .i64 md, .int .i64 fr, .slice ad zs.length cap], .int .i64 s] w fun e w' => e = .returned (.bool (slotB s zs.length)) ∧ Below w.heap.size w w' := by
  by_cases h1 : 0 ≤ s
  · by_cases h2 : s < (zs.length : Int)
    · have HS := hidden (slotB_yes h1 h2)
      go_enter Try.func43, Try.ntmps43
      go_wp2
      go_ret
      exact ⟨ret_b (by rw [HS.out]), ballc _ _⟩
    · have HS := hidden (slotB_no (s := s) (m := zs.length) fun h => h2 h.2)
      have h2' : decide (s < (zs.length : Int)) = false := by simpa using h2
      go_enter Try.func43, Try.ntmps43
      go_wp2
      go_ret
      exact ⟨ret_b (by rw [HS.out]), ballc _ _⟩
  · have HS := hidden (slotB_no (s := s) (m := zs.length) fun h => h1 h.1)
    have h1' : decide (0 ≤ s) = false := by simpa using h1
    go_enter Try.func43, Try.ntmps43
    go_wp2
    go_ret
    exact ⟨ret_b (by rw [HS.out]), ballc _ _⟩

theorem cPlain_any (n f d p r dr o sl md fr : Int) (ad : Option Addr) (cap : Nat) (zs : List Int) (w : World) (hl : zs.length ≤ 9223372036854775807) (hT : Tab w ad zs) :
    Calls Try.prog 42 #[.agg #[.int .i64 n, .int .i64 f, .int .i64 d, .int .i64 p, .int .i64 r, .int .i64 dr, .int .i64 o, .int .i64 sl, .int .i64 md, .int .i64 fr, .slice ad zs.length cap]] w fun e w' => e = .returned (.bool (decide (plainE n f d p r dr o sl md fr zs = 0))) ∧ Below w.heap.size w w' := by
  have HQ := hidden (plain_any n f d p r dr o sl md fr ad cap zs (w.alloc (.cells #[.int .i64 n, .int .i64 f, .int .i64 d, .int .i64 p, .int .i64 r, .int .i64 dr, .int .i64 o, .int .i64 sl, .int .i64 md, .int .i64 fr, .slice ad zs.length cap] 80)) hl (hT.below (ballc _ _)))
  clear hT
  generalize plainE n f d p r dr o sl md fr zs = E at HQ
  by_cases hE : E = 0
  all_goals
    go_enter Try.func42, Try.ntmps42
    go_wp2_with fail
    refine HQ.out.mono ?_
    rintro e w2 ⟨rfl, hb2⟩
    have HB2 := hidden (bthen (ballc w _) hb2)
    clear hb2 HQ
    go_wp2
    go_ret
    exact ⟨ret_b (by simp [hE]), HB2.out⟩
end Go.Proofs.Ytkopmhmbldohdab

/- Plain words on package bound: the guard, rounded up, and what makes a configuration right; no conditions but the limits that are named. -/
namespace Go.Proofs.Ytkopmhmbldohdab
open Go.ChangeShapes Go.WideShapes Go.ChangeAt Go.RowKit
set_option linter.unusedVariables false

theorem ceil_zero {a b : Int} (hb : 1 ≤ b) (h : a % b = 0) : (a + b - 1) / b = a / b := by
  have e : a + b - 1 = (b - 1) + b * (a / b) := by
    have := Int.mul_ediv_add_emod a b
    omega
  rw [e, Int.add_mul_ediv_left _ _ (by omega : b ≠ 0), Int.ediv_eq_zero_of_lt (by omega) (by omega)]
  omega
theorem ceil_more {a b : Int} (hb : 1 ≤ b) (h : 0 < a % b) : (a + b - 1) / b = a / b + 1 := by
  have h2 := Int.emod_lt_of_pos a (show 0 < b by omega)
  have e : a + b - 1 = (a % b - 1) + b * (a / b + 1) := by
    have := Int.mul_ediv_add_emod a b
    rw [Int.mul_add, Int.mul_one]
    omega
  rw [e, Int.add_mul_ediv_left _ _ (by omega : b ≠ 0), Int.ediv_eq_zero_of_lt (by omega) (by omega)]
  omega
/-- The guard of a configuration whose last middle is M. -/
def guardF (d r dr M : Int) : Int := (2 * dr * M + (r - dr) - 1) / (r - dr) + r + (d + 1) * dr
theorem guardF_bd {d r dr M : Int} (d1 : 1 ≤ d) (d2 : d ≤ 4) (r1 : 1 ≤ r) (r2 : r ≤ 64) (dr1 : 0 ≤ dr) (dr2 : dr ≤ r - 1) (M1 : 0 ≤ M) (M2 : M ≤ 975000) :
    0 ≤ 2 * dr * M ∧ 2 * dr * M ≤ 122850000 ∧ 0 ≤ (2 * dr * M + (r - dr) - 1) / (r - dr) ∧ (2 * dr * M + (r - dr) - 1) / (r - dr) ≤ 122850063 ∧ 0 ≤ (d + 1) * dr ∧ (d + 1) * dr ≤ 315 := by
  obtain ⟨a0, a1⟩ := mul_bd (show 0 ≤ 2 * dr by omega) (show 2 * dr ≤ 126 by omega) M1 M2
  obtain ⟨b0, b1⟩ := mul_bd (show 0 ≤ d + 1 by omega) (show d + 1 ≤ 5 by omega) dr1 (show dr ≤ 63 by omega)
  have c0 : 0 ≤ (2 * dr * M + (r - dr) - 1) / (r - dr) := Int.ediv_nonneg (by omega) (by omega)
  have c1 : (2 * dr * M + (r - dr) - 1) / (r - dr) ≤ 2 * dr * M + (r - dr) - 1 := Int.ediv_le_self _ (by omega)
  omega
theorem guardF_in {d r dr M : Int} (d1 : 1 ≤ d) (d2 : d ≤ 4) (r1 : 1 ≤ r) (r2 : r ≤ 64) (dr1 : 0 ≤ dr) (dr2 : dr ≤ r - 1) (M1 : 0 ≤ M) (M2 : M ≤ 975000) : 0 ≤ guardF d r dr M ∧ guardF d r dr M ≤ 123000000 := by
  have := guardF_bd d1 d2 r1 r2 dr1 dr2 M1 M2
  unfold guardF; omega
/-- What Right answers, of what is plain. -/
def rightF (d p r dr sl M : Int) : Int :=
  if sl ≤ 2 * guardF d r dr M then 8 else if (p - 1) * (r - dr) < M + d * r + guardF d r dr M then 8 else if 32768 ≤ p * (r + dr) then 8 else 0
theorem rightF_ok {d p r dr sl M : Int} (h : rightF d p r dr sl M = 0) : 2 * guardF d r dr M < sl ∧ M + d * r + guardF d r dr M ≤ (p - 1) * (r - dr) ∧ p * (r + dr) < 32768 := by
  unfold rightF at h
  by_cases c0 : sl ≤ 2 * guardF d r dr M
  · rw [if_pos c0] at h; exact absurd h (by decide)
  rw [if_neg c0] at h
  by_cases c1 : (p - 1) * (r - dr) < M + d * r + guardF d r dr M
  · rw [if_pos c1] at h; exact absurd h (by decide)
  rw [if_neg c1] at h
  by_cases c2 : 32768 ≤ p * (r + dr)
  · rw [if_pos c2] at h; exact absurd h (by decide)
  omega
/-- The last slot's middle. -/
def lastE (o sl : Int) (zs : List Int) : Int := midE o sl ((zs.length : Int) - 1)
/-- What Right answers. -/
def rightE (n f d p r dr o sl md fr : Int) (zs : List Int) : Int := if plainE n f d p r dr o sl md fr zs = 0 then rightF d p r dr sl (lastE o sl zs) else plainE n f d p r dr o sl md fr zs
theorem rightE_plain {n f d p r dr o sl md fr : Int} {zs : List Int} (h : plainE n f d p r dr o sl md fr zs = 0) : rightE n f d p r dr o sl md fr zs = rightF d p r dr sl (lastE o sl zs) := if_pos h
theorem rightE_not {n f d p r dr o sl md fr : Int} {zs : List Int} (h : ¬ plainE n f d p r dr o sl md fr zs = 0) : rightE n f d p r dr o sl md fr zs = plainE n f d p r dr o sl md fr zs := if_neg h
theorem rightE_ok {n f d p r dr o sl md fr : Int} {zs : List Int} (h : rightE n f d p r dr o sl md fr zs = 0) : plainE n f d p r dr o sl md fr zs = 0 ∧ rightF d p r dr sl (lastE o sl zs) = 0 := by
  by_cases c : plainE n f d p r dr o sl md fr zs = 0
  · rw [rightE_plain c] at h; exact ⟨c, h⟩
  · rw [rightE_not c] at h; exact absurd h c
theorem lastE_bd {n f d p r dr o sl md fr : Int} {zs : List Int} (h : plainE n f d p r dr o sl md fr zs = 0) : 0 ≤ lastE o sl zs ∧ lastE o sl zs ≤ 975000 := by
  obtain ⟨_, _, _, _, _, _, _, _, _, _, _, _, _, o1, o2, sl1, sl2, _, _, _, _, z1, z2, _⟩ := plainE_ok h
  exact midE_bd (by omega) (by omega) o1 o2 sl1 sl2
end Go.Proofs.Ytkopmhmbldohdab

/- The calls guard, slotsAreNarrow, periodIsShort, clocksGoRound and settle of package bound return what they say of a configuration that is plain, and make at most new memory; conditions: it is plain, its table lies where it says. -/
namespace Go.Proofs.Ytkopmhmbldohdab
open Go.ChangeShapes Go.WideShapes Go.ChangeAt Go.RowKit
set_option linter.unusedVariables false
attribute [local go_sem] cell_rg

theorem lastM_any (n f d p r dr o sl md fr : Int) (ad : Option Addr) (cap : Nat) (zs : List Int) (w : World) (z1 : 1 ≤ zs.length) (z2 : zs.length ≤ 32) (o1 : 0 ≤ o) (o2 : o ≤ 30000) (sl1 : 1 ≤ sl) (sl2 : sl ≤ 30000) :
    Calls Try.prog 49 #[.agg #[.int .i64 n, .int .i64 f, .int .i64 d, .int .i64 p, .int .i64 r, .int .i64 dr, .int .i64 o, .int .i64 sl, .int .i64 md, .int .i64 fr, .slice ad zs.length cap]] w fun e w' => e = .returned (.int .i64 (lastE o sl zs)) ∧ Below w.heap.size w w' :=
  lastMiddle_any n f d p r dr o sl md fr ad cap zs w z1 z2 o1 o2 sl1 sl2

set_option maxHeartbeats 1000000 in
theorem guard_any (n f d p r dr o sl md fr : Int) (ad : Option Addr) (cap : Nat) (zs : List Int) (w : World) (hP : plainE n f d p r dr o sl md fr zs = 0) :
    Calls Try.prog 45 #[.agg #[.int .i64 n, .int .i64 f, .int .i64 d, .int .i64 p, .int .i64 r, .int .i64 dr, .int .i64 o, .int .i64 sl, .int .i64 md, .int .i64 fr, .slice ad zs.length cap]] w fun e w' => e = .returned (.int .i64 (guardF d r dr (lastE o sl zs))) ∧ Below w.heap.size w w' := by
  obtain ⟨M1, M2⟩ := lastE_bd hP
  obtain ⟨_, _, _, _, _, d1, d2, _, _, r1, r2, dr1, dr2, o1, o2, sl1, sl2, _, _, _, _, z1, z2, _⟩ := plainE_ok hP
  have HL := hidden (fun v => lastM_any n f d p r dr o sl md fr ad cap zs v z1 z2 o1 o2 sl1 sl2)
  have HS := hidden (fun v => slowest_any n f d p r dr o sl md fr ad cap zs v r1 r2 dr1 dr2)
  clear hP
  generalize lastE o sl zs = M at HL M1 M2
  obtain ⟨a0, a1, c0, c1, b0, b1⟩ := guardF_bd d1 d2 r1 r2 dr1 dr2 M1 M2
  have t1 : IntKind.i64.wrap (2 * dr) = 2 * dr := IntWalk.i64_in _ (by omega)
  have t2 : IntKind.i64.wrap (2 * dr * M) = 2 * dr * M := IntWalk.i64_in _ (by omega)
  have t3 : IntKind.i64.wrap (2 * dr * M + (r - dr)) = 2 * dr * M + (r - dr) := IntWalk.i64_in _ (by omega)
  have t4 : IntKind.i64.wrap (2 * dr * M + (r - dr) - 1) = 2 * dr * M + (r - dr) - 1 := IntWalk.i64_in _ (by omega)
  have t5 : IntKind.i64.wrap ((2 * dr * M + (r - dr) - 1).tdiv (r - dr)) = (2 * dr * M + (r - dr) - 1) / (r - dr) := IntWalk.i64_quo _ _ ⟨by omega, by omega, by omega⟩
  have t6 : ¬ r - dr = 0 := by omega
  go_enter Try.func45, Try.ntmps45
  go_wp2
  refine wp_region_quiet_below (by kernel_rfl) (by kernel_rfl) ?_
  repeat (go_big_quiet_step ((go_at_call 49; exact Calls.regrown_of (HL.out _))))
  refine wpQuiet_nil ?_
  intro w2 hw2
  have HB2 := hidden (rg_below hw2)
  clear hw2
  obtain ⟨hbox, hsz⟩ := box_at HB2.out
  go_wp2
  refine wp_region_quiet_below (by kernel_rfl) (by kernel_rfl) ?_
  repeat (go_big_quiet_step ((go_at_call 50; exact Calls.regrown_of (HS.out _))))
  refine wpQuiet_nil ?_
  intro w3 hw3
  have HB3 := hidden (bthen HB2.out (rg_below hw3))
  clear hw3 hbox hsz
  obtain ⟨hbox, hsz⟩ := box_at HB3.out
  generalize hq : (2 * dr * M + (r - dr) - 1) / (r - dr) = Q at *
  have HQ := hidden hq
  clear hq t1 t2 t3 t4 t5 t6
  go_wp2
  go_ret
  exact ⟨ret_i (by unfold guardF; rw [HQ.out]), bthen (ballc w _) HB3.out⟩




end Go.Proofs.Ytkopmhmbldohdab

/- The calls Begin, Middle, Guard, Settle, All and Right of package bound return what the document says, and make at most new memory; conditions: the table lies where it says, and its length fits int. -/
namespace Go.Proofs.Ytkopmhmbldohdab
open Go.ChangeShapes Go.WideShapes Go.ChangeAt Go.RowKit
set_option linter.unusedVariables false
attribute [local go_sem] cell_rg

/-- Two boxes of the call's own, in a later world. -/
theorem box_at2 {w wl : World} {C C' : Array Value} {t t' : TypeId} (hb : Below ((w.alloc (.cells C t)).alloc (.cells C' t')).heap.size ((w.alloc (.cells C t)).alloc (.cells C' t')) wl) :
    (∀ i, wl.cell? ⟨w.heap.size, i, none⟩ = C[i]?) ∧ (∀ i, wl.cell? ⟨w.heap.size + 1, i, none⟩ = C'[i]?) ∧ w.heap.size + 1 < wl.heap.size := by
  have h1 := box_at (bthen (ballc (w.alloc (.cells C t)) (.cells C' t')) hb)
  have h2 := box_at hb
  have e : (w.alloc (.cells C t)).heap.size = w.heap.size + 1 := by simp
  rw [e] at h2
  exact ⟨h1.1, h2.1, h2.2⟩
/-- x, if E is no error and b, else 0. -/
def placeE (E : Int) (b : Bool) (x : Int) : Int := if E = 0 ∧ b = true then x else 0
theorem placeE_yes (x : Int) : placeE 0 true x = x := if_pos ⟨rfl, rfl⟩
theorem placeE_err {E : Int} (h : ¬ E = 0) (b : Bool) (x : Int) : placeE E b x = 0 := if_neg fun c => h c.1
theorem placeE_no (E : Int) (x : Int) : placeE E false x = 0 := if_neg fun c => by cases c.2
set_option maxHeartbeats 1000000 in
theorem BMiddle_any (n f d p r dr o sl md fr : Int) (ad : Option Addr) (cap : Nat) (zs : List Int) (s : Int) (w : World) (hl : zs.length ≤ 9223372036854775807) (hT : Tab w ad zs) :
    Calls Try.prog 36 #[.agg #[.int .i64 n, .int .i64 f, .int .i64 d, .int .i64 p, .int .i64 r, .int .i64 dr, .int .i64 o, .int .i64 sl, .int .i64 md, .int .i64 fr, .slice ad zs.length cap], .int .i64 s] w fun e w' => e = .returned (.int .i64 (placeE (plainE n f d p r dr o sl md fr zs) (slotB s zs.length) (midE o sl s))) ∧ Below w.heap.size w w' := by
  have HP := hidden (cPlain_any n f d p r dr o sl md fr ad cap zs ((w.alloc (.cells #[.int .i64 n, .int .i64 f, .int .i64 d, .int .i64 p, .int .i64 r, .int .i64 dr, .int .i64 o, .int .i64 sl, .int .i64 md, .int .i64 fr, .slice ad zs.length cap] 24)).alloc (.cells #[.int .i64 n, .int .i64 f, .int .i64 d, .int .i64 p, .int .i64 r, .int .i64 dr, .int .i64 o, .int .i64 sl, .int .i64 md, .int .i64 fr, .slice ad zs.length cap] 80)) hl (hT.below (Joins.below_alloc2 _ _ _)))
  have HS := hidden (fun v => hasSlot_any n f d p r dr o sl md fr ad cap zs s v)
  have HK := hidden (fun h => plainE_ok (n := n) (f := f) (d := d) (p := p) (r := r) (dr := dr) (o := o) (sl := sl) (md := md) (fr := fr) (zs := zs) h)
  clear hT
  generalize plainE n f d p r dr o sl md fr zs = E at HP HK
  by_cases hE : E = 0
  · subst hE
    obtain ⟨_, _, _, _, _, _, _, _, _, _, _, _, _, o1, o2, sl1, sl2, _, _, _, _, z1, z2, _⟩ := HK.out rfl
    simp only [decide_true] at HP
    generalize hb : slotB s zs.length = b at HS
    cases b
    · go_enter Try.func36, Try.ntmps36
      go_wp2_with fail
      refine HP.out.mono ?_
      rintro e w2 ⟨rfl, hb2⟩
      have HB2 := hidden hb2
      clear hb2
      obtain ⟨hbox, hbox1, hsz⟩ := box_at2 HB2.out
      go_wp2_with fail
      refine (HS.out _).mono ?_
      rintro e w3 ⟨rfl, hb3⟩
      have HB3 := hidden (bthen HB2.out hb3)
      clear hb3 hbox hbox1 hsz
      go_wp2
      go_ret
      exact ⟨ret_i (placeE_no _ _).symm, bthen (Joins.below_alloc2 _ _ _) HB3.out⟩
    · obtain ⟨s1, s2⟩ := slotB_of hb
      have HI := hidden (fun v => middle_any n f d p r dr o sl md fr ad cap zs s v s1 (by omega) o1 o2 sl1 sl2)
      clear hb s1 s2 o1 o2 sl1 sl2
      go_enter Try.func36, Try.ntmps36
      go_wp2_with fail
      refine HP.out.mono ?_
      rintro e w2 ⟨rfl, hb2⟩
      have HB2 := hidden hb2
      clear hb2
      obtain ⟨hbox, hbox1, hsz⟩ := box_at2 HB2.out
      go_wp2_with fail
      refine (HS.out _).mono ?_
      rintro e w3 ⟨rfl, hb3⟩
      have HB3 := hidden (bthen HB2.out hb3)
      clear hb3 hbox hbox1 hsz
      obtain ⟨hbox, hbox1, hsz⟩ := box_at2 HB3.out
      go_wp2_with fail
      refine (HI.out _).mono ?_
      rintro e w4 ⟨rfl, hb4⟩
      have HB4 := hidden (bthen HB3.out hb4)
      clear hb4 hbox hbox1 hsz
      go_wp2
      go_ret
      exact ⟨ret_i (placeE_yes _).symm, bthen (Joins.below_alloc2 _ _ _) HB4.out⟩
  · have hd : decide (E = 0) = false := decide_eq_false hE
    rw [hd] at HP
    clear hd HK
    go_enter Try.func36, Try.ntmps36
    go_wp2_with fail
    refine HP.out.mono ?_
    rintro e w2 ⟨rfl, hb2⟩
    have HB2 := hidden hb2
    clear hb2
    go_wp2
    go_ret
    exact ⟨ret_i (placeE_err hE _ _).symm, bthen (Joins.below_alloc2 _ _ _) HB2.out⟩
end Go.Proofs.Ytkopmhmbldohdab

/- Plain words on slots: to which one units belong, whose one is, which ones a node owns, and which one is due; no conditions. -/
namespace Go.Proofs.Ytkopmhmbldohdab
open Go.ChangeShapes Go.WideShapes Go.ChangeAt Go.RowKit
set_option linter.unusedVariables false

/-- The slot to which e units belong. -/
def slotF (E o sl : Int) (m : Nat) (e : Int) : Int := if E = 0 ∧ o ≤ e ∧ (e - o) / sl < (m : Int) then (e - o) / sl else -1
theorem slotF_err {E o sl : Int} {m : Nat} {e : Int} (h : ¬ E = 0) : slotF E o sl m e = -1 := if_neg fun c => h c.1
theorem slotF_lo {E o sl : Int} {m : Nat} {e : Int} (h : e < o) : slotF E o sl m e = -1 := if_neg fun c => by omega
theorem slotF_hi {E o sl : Int} {m : Nat} {e : Int} (h : (m : Int) ≤ (e - o) / sl) : slotF E o sl m e = -1 := if_neg fun c => by omega
theorem slotF_in {o sl : Int} {m : Nat} {e : Int} (h1 : o ≤ e) (h2 : (e - o) / sl < (m : Int)) : slotF 0 o sl m e = (e - o) / sl := if_pos ⟨rfl, h1, h2⟩
/-- What belongs to slot k lies from its beginning on, a slot long. -/
theorem div_is {a b k : Int} (hb : 1 ≤ b) (h1 : k * b ≤ a) (h2 : a < k * b + b) : a / b = k := by
  have e1 : k ≤ a / b := by rw [Int.le_ediv_iff_mul_le (by omega)]; exact h1
  have e2 : a / b < k + 1 := by rw [Int.ediv_lt_iff_lt_mul (by omega), Int.add_mul]; omega
  omega
theorem div_of {a b k : Int} (hb : 1 ≤ b) (h : a / b = k) : k * b ≤ a ∧ a < k * b + b := by
  have e1 : k ≤ a / b := by omega
  have e2 : a / b < k + 1 := by omega
  rw [Int.le_ediv_iff_mul_le (by omega)] at e1
  rw [Int.ediv_lt_iff_lt_mul (by omega), Int.add_mul] at e2
  omega
theorem slotF_is {o sl : Int} {m k : Nat} {e : Int} (hsl : 1 ≤ sl) (ho : 0 ≤ o) (hk : k < m) (h1 : o + (k : Int) * sl ≤ e) (h2 : e < o + (k : Int) * sl + sl) : slotF 0 o sl m e = (k : Int) := by
  have hq : (e - o) / sl = (k : Int) := div_is hsl (by omega) (by omega)
  have h0 : 0 ≤ (k : Int) * sl := Int.mul_nonneg (by omega) (by omega)
  rw [slotF_in (by omega) (by omega), hq]
theorem slotF_not {o sl : Int} {m : Nat} {e : Int} (hsl : 1 ≤ sl) (h : ∀ k : Nat, k < m → ¬ (o + (k : Int) * sl ≤ e ∧ e < o + (k : Int) * sl + sl)) : slotF 0 o sl m e = -1 := by
  by_cases h1 : o ≤ e
  · by_cases h2 : (e - o) / sl < (m : Int)
    · exfalso
      have h0 : 0 ≤ (e - o) / sl := Int.ediv_nonneg (by omega) (by omega)
      obtain ⟨k, hk⟩ := Int.eq_ofNat_of_zero_le h0
      have hd := div_of (b := sl) (k := (k : Int)) (by omega) hk
      exact h k (by omega) (by omega)
    · exact slotF_hi (by omega)
  · exact slotF_lo (by omega)

/-- Whose a slot is. -/
def ownF (E : Int) (zs : List Int) (s : Int) : Int := if E = 0 ∧ 0 ≤ s ∧ s < (zs.length : Int) then zs.getD s.toNat 0 else -1
theorem ownF_err {E : Int} {zs : List Int} {s : Int} (h : ¬ E = 0) : ownF E zs s = -1 := if_neg fun c => h c.1
theorem ownF_no {E : Int} {zs : List Int} {s : Int} (h : ¬ (0 ≤ s ∧ s < (zs.length : Int))) : ownF E zs s = -1 := if_neg fun c => h c.2
theorem ownF_in {zs : List Int} {k : Nat} (h : k < zs.length) : ownF 0 zs (k : Int) = zs.getD k 0 := if_pos ⟨rfl, by omega, by omega⟩

/-- Which of the first k slots a node owns. -/
def ownL (zs : List Int) (node : Int) (k : Nat) : List Nat := (List.range k).filter fun j => zs.getD j 0 == node
theorem ownL_zero (zs : List Int) (node : Int) : ownL zs node 0 = [] := rfl
theorem ownL_yes {zs : List Int} {node : Int} {k : Nat} (h : (zs.getD k 0 == node) = true) : ownL zs node (k + 1) = ownL zs node k ++ [k] := by
  unfold ownL
  rw [List.range_succ, List.filter_append, List.filter_cons_of_pos (p := fun j => zs.getD j 0 == node) h, List.filter_nil]
theorem ownL_no {zs : List Int} {node : Int} {k : Nat} (h : (zs.getD k 0 == node) = false) : ownL zs node (k + 1) = ownL zs node k := by
  unfold ownL
  rw [List.range_succ, List.filter_append, List.filter_cons_of_neg (p := fun j => zs.getD j 0 == node) (by rw [h]; decide), List.filter_nil, List.append_nil]
theorem ownL_len (zs : List Int) (node : Int) (k : Nat) : (ownL zs node k).length ≤ k := by
  have := List.length_filter_le (fun j => zs.getD j 0 == node) (List.range k)
  simpa [ownL] using this
theorem ownL_pre (zs : List Int) (node : Int) {k m : Nat} (h : k ≤ m) : ownL zs node k <+: ownL zs node m := by
  obtain ⟨i, rfl⟩ := Nat.exists_eq_add_of_le h
  clear h
  induction i with
  | zero => exact List.prefix_refl _
  | succ i ih =>
    rw [← Nat.add_assoc]
    cases hb : zs.getD (k + i) 0 == node with
    | true => rw [ownL_yes hb]; exact ih.trans (List.prefix_append _ _)
    | false => rw [ownL_no hb]; exact ih
theorem ownL_mem {zs : List Int} {node : Int} {k j : Nat} : j ∈ ownL zs node k ↔ j < k ∧ zs.getD j 0 = node := by
  simp [ownL]
theorem ownL_sorted (zs : List Int) (node : Int) (k : Nat) : (ownL zs node k).Pairwise (· < ·) := List.Pairwise.filter _ List.pairwise_lt_range
/-- A node's slots. -/
def ownedF (E : Int) (zs : List Int) (node : Int) : List Nat := if E = 0 then ownL zs node zs.length else []
theorem ownedF_ok (zs : List Int) (node : Int) : ownedF 0 zs node = ownL zs node zs.length := if_pos rfl
theorem ownedF_err {E : Int} {zs : List Int} {node : Int} (h : ¬ E = 0) : ownedF E zs node = [] := if_neg h
theorem ownedF_len (E : Int) (zs : List Int) (node : Int) : (ownedF E zs node).length ≤ zs.length := by
  by_cases h : E = 0
  · subst h; rw [ownedF_ok]; exact ownL_len _ _ _
  · rw [ownedF_err h]; exact Nat.zero_le _

/-- Is there a 1 at that place? -/
def sentB (s : ByteArray) (k : Nat) : Bool := decide (k < s.size) && (s.data.toList.getD k 0 == 49)
/-- Is it time for slot k? -/
def timeB (o sl r dr e : Int) (k : Nat) : Bool := decide (midE o sl k ≤ e) && decide (e < midE o sl k + r + dr)
def dueB (o sl r dr e : Int) (s : ByteArray) (k : Nat) : Bool := !sentB s k && timeB o sl r dr e k
def firstF (p : Nat → Bool) (l : List Nat) : Int := match l.find? p with | some k => (k : Int) | none => -1
theorem firstF_nil (p : Nat → Bool) : firstF p [] = -1 := rfl
theorem firstF_hit {p : Nat → Bool} {l0 l : List Nat} {k : Nat} (hp : p k = true) (h0 : ∀ j ∈ l0, p j = false) (hl : l0 ++ [k] <+: l) : firstF p l = (k : Int) := by
  obtain ⟨l1, rfl⟩ := hl
  have hn : l0.find? p = none := by
    rw [List.find?_eq_none]
    intro x hx; rw [h0 x hx]; decide
  unfold firstF
  rw [List.append_assoc, List.find?_append, hn]
  simp [hp]
theorem firstF_none {p : Nat → Bool} {l : List Nat} (h : ∀ j ∈ l, p j = false) : firstF p l = -1 := by
  have hn : l.find? p = none := by
    rw [List.find?_eq_none]
    intro x hx; rw [h x hx]; decide
  unfold firstF
  rw [hn]
theorem firstF_bd (p : Nat → Bool) (l : List Nat) : firstF p l = -1 ∧ (∀ j ∈ l, p j = false) ∨ ∃ k ∈ l, firstF p l = (k : Int) ∧ p k = true := by
  unfold firstF
  cases h : l.find? p with
  | none => exact .inl ⟨rfl, fun j hj => by have := List.find?_eq_none.1 h j hj; simpa using this⟩
  | some k => exact .inr ⟨k, List.mem_of_find?_eq_some h, rfl, List.find?_some h⟩
/-- The slot that is due. -/
def dueF (E o sl r dr : Int) (zs : List Int) (node e : Int) (s : ByteArray) : Int := firstF (dueB o sl r dr e s) (ownedF E zs node)
end Go.Proofs.Ytkopmhmbldohdab

/- Plain words on packets: digits, what is told at a place, what is right, without and with a message; two that are alike compare as equal; no conditions. -/
namespace Go.Proofs.Ytkopmhmbldohdab
open Go.ChangeShapes Go.WideShapes Go.ChangeAt Go.RowKit
set_option linter.unusedVariables false

/-- What a byte or a rune tells. -/
def digV (c : Int) : Int := if 48 ≤ c ∧ c ≤ 50 then c - 48 else -1
theorem digV_no {c : Int} (h : ¬ (48 ≤ c ∧ c ≤ 50)) : digV c = -1 := if_neg h
theorem digV_yes {c : Int} (h : 48 ≤ c ∧ c ≤ 50) : digV c = c - 48 := if_pos h
/-- The digit at a place. -/
def dgAt (s : ByteArray) (k : Int) : Int := if h : 0 ≤ k ∧ k < s.size then digV ((s[k.toNat]'(by omega)).toNat) else -1
/-- All bytes are digits. -/
def Digs (s : ByteArray) : Prop := ∀ i, (h : i < s.size) → 48 ≤ (s[i]'h).toNat ∧ (s[i]'h).toNat ≤ 50
def digsDec (s : ByteArray) : Decidable (Digs s) := inferInstanceAs (Decidable (∀ i, (h : i < s.size) → 48 ≤ (s[i]'h).toNat ∧ (s[i]'h).toNat ≤ 50))
def areD (s : ByteArray) (n : Int) : Bool := @decide ((s.size : Int) = n ∧ Digs s) (@instDecidableAnd _ _ _ (digsDec s))
theorem areD_size {s : ByteArray} {n : Int} (h : ¬ (s.size : Int) = n) : areD s n = false := @decide_eq_false _ (_) fun k => h k.1
theorem areD_bad {s : ByteArray} {n : Int} {i : Nat} (hi : i < s.size) (h : ¬ (48 ≤ (s[i]'hi).toNat ∧ (s[i]'hi).toNat ≤ 50)) : areD s n = false := @decide_eq_false _ (_) fun k => h (k.2 i hi)
theorem areD_good {s : ByteArray} {n : Int} (h : (s.size : Int) = n) (k : Digs s) : areD s n = true := @decide_eq_true _ (_) ⟨h, k⟩
theorem areD_of {s : ByteArray} {n : Int} (h : areD s n = true) : (s.size : Int) = n ∧ Digs s := @of_decide_eq_true _ (_) h
/-- A text without a byte. -/
def emp (s : ByteArray) : Bool := s.toList.isEmpty
theorem emp_no : emp ⟨#[]⟩ = true := by simp [emp, go_sem]
/-- Why a packet is not right, of a configuration with so many exchanges, bits, slots and numbers. -/
def pRight (E R B L M : Int) (vo : ByteArray) (ex : Int) (ve : ByteArray) (ps cy : Int) (te : ByteArray) : Int :=
  if ¬ E = 0 then E else if areD vo R = false then 3 else if ex < 0 ∨ R < ex ∨ (ex = 0 ∧ emp ve = false) ∨ (¬ ex = 0 ∧ areD ve B = false) then 16 else
  if ps < 0 ∨ L < ps then 11 else if cy < 0 ∨ M ≤ cy ∨ (ps = 0 ∧ (¬ cy = 0 ∨ emp te = false)) then 2 else if 16 < te.size then 15 else 0
def bitF (ex : Int) (ve : ByteArray) (x k : Int) : Int := if x < 0 ∨ 65535 < x ∨ ¬ ex = x + 1 then -1 else dgAt ve k
/-- A packet with a message in the place of its own. -/
def carS (s : Int) : Int := if s < 0 ∨ 32 ≤ s then 0 else s + 1
def carC (s c : Int) : Int := if s < 0 ∨ 32 ≤ s then 0 else c
def carT (s : Int) (t : ByteArray) : ByteArray := if s < 0 ∨ 32 ≤ s then ⟨#[]⟩ else t
/-- So many zeros. -/
def zerosB (n : Nat) : ByteArray := ⟨(List.replicate n (48 : UInt8)).toArray⟩

theorem eqs (d : Nat) (w : World) (a : ByteArray) : (Op.equalIn (d + 1) 9 (.string a) (.string a)).run Try.prog w = .ok true w := by
  unfold Op.equalIn
  simp [run_underlying Try.underlying9]
  show (a.data == a.data) = true
  simp
theorem eqi' (d : Nat) (w : World) (a : Int) : (Op.equalIn (d + 1) 3 (.int .i64 a) (.int .i64 a)).run Try.prog w = .ok true w := by
  rw [run_equalIn_int w d 3 .i64 .i64 a a Try.underlying3]; simp
/-- Two boxes of a call's own, in a later world. -/
theorem box_two {w wl : World} {C D : Array Value} {t u : TypeId} (hb : Below ((w.alloc (.cells C t)).alloc (.cells D u)).heap.size ((w.alloc (.cells C t)).alloc (.cells D u)) wl) :
    (∀ i, wl.cell? ⟨w.heap.size, i, none⟩ = C[i]?) ∧ (∀ i, wl.cell? ⟨w.heap.size + 1, i, none⟩ = D[i]?) ∧ w.heap.size < wl.heap.size ∧ w.heap.size + 1 < wl.heap.size := by
  have hs := hb.size
  simp at hs
  refine ⟨fun i => ?_, fun i => ?_, by omega, by omega⟩
  · rw [hb.cell (p := ⟨w.heap.size, i, none⟩) (by simp; omega)]
    rw [(ballc (w.alloc (.cells C t)) (.cells D u)).cell (p := ⟨w.heap.size, i, none⟩) (by simp)]
    exact World.cell?_alloc_mark w C t _ i
  · rw [hb.cell (p := ⟨w.heap.size + 1, i, none⟩) (by simp)]
    have := World.cell?_alloc_mark (w.alloc (.cells C t)) D u (0, 0) i
    rw [World.size_alloc] at this
    exact this
end Go.Proofs.Ytkopmhmbldohdab

/- Texts as lists of bytes, and back; no conditions. -/
namespace Go.Proofs.Ytkopmhmbldohdab
set_option linter.unusedVariables false

/-- A text as a list, and back. -/
def bl (s : ByteArray) : List UInt8 := s.data.toList
def ba (l : List UInt8) : ByteArray := ⟨l.toArray⟩
theorem ba_bl (s : ByteArray) : ba (bl s) = s := by simp [ba, bl]
theorem bl_ba (l : List UInt8) : bl (ba l) = l := by simp [ba, bl]
theorem bl_length (s : ByteArray) : (bl s).length = s.size := by simp [bl]
theorem bl_inj {s t : ByteArray} (h : bl s = bl t) : s = t := by rw [← ba_bl s, ← ba_bl t, h]
theorem ba_size (l : List UInt8) : (ba l).size = l.length := by simp [ba, ByteArray.size]
theorem ba_append (a b : List UInt8) : ba a ++ ba b = ba (a ++ b) := by
  apply ByteArray.ext
  simp [ba, ByteArray.data_append]
theorem bl_append (a b : ByteArray) : bl (a ++ b) = bl a ++ bl b := by simp [bl, ByteArray.data_append]
theorem ba_nil : ba [] = ⟨#[]⟩ := rfl

end Go.Proofs.Ytkopmhmbldohdab

/- A row that is filled up to a place; no conditions. -/
namespace Go.Proofs.Ytkopmhmbldohdab
set_option linter.unusedVariables false

/-- A row that is filled up to k. -/
def fillL {α : Type} (z : α) (N : Nat) (g : Nat → α) (k : Nat) : List α := (List.range N).map fun j => if j < k then g j else z
theorem fillL_len {α : Type} (z : α) (N : Nat) (g : Nat → α) (k : Nat) : (fillL z N g k).length = N := by simp [fillL]
theorem fillL_0 {α : Type} (z : α) (N : Nat) (g : Nat → α) : fillL z N g 0 = List.replicate N z := by
  apply List.ext_getElem <;> simp [fillL]
theorem fillL_all {α : Type} (z : α) (N : Nat) (g : Nat → α) : fillL z N g N = (List.range N).map g := by
  apply List.ext_getElem
  · simp [fillL]
  · intro i h1 h2
    simp [fillL] at h1 ⊢
    intro h; omega
theorem fillL_set {α : Type} (z : α) (N : Nat) (g : Nat → α) (k : Nat) (hk : k < N) : (fillL z N g k).set k (g k) = fillL z N g (k + 1) := by
  apply List.ext_getElem
  · simp [fillL]
  · intro i h1 h2
    rw [List.getElem_set]
    simp only [fillL, List.getElem_map, List.getElem_range]
    by_cases e : k = i
    · subst e; rw [if_pos rfl, if_pos (by omega)]
    · rw [if_neg e]
      by_cases h : i < k
      · rw [if_pos h, if_pos (by omega)]
      · rw [if_neg h, if_neg (by omega)]
end Go.Proofs.Ytkopmhmbldohdab

/- The integer calls of package num (Clamp, Mod, Sat, isWidth) and of the document's answer (Clamp, Mod, Sat) return what plain functions on integers give, and leave the world as it was; for integers that fit int. -/
namespace Go.Proofs.Ytkopmhmbldohdab
open Go.ChangeShapes Go.WideShapes Go.ChangeAt Go.RowKit
open Go.ChangeMaps (open_string shut_string)
set_option linter.unusedVariables false

def clampF (n lo hi : Int) : Int := if n < lo ∨ hi < lo then lo else if n ≤ hi then n else hi
def modF (n by_ : Int) : Int := if by_ < 1 then 0 else if n.tmod by_ < 0 then n.tmod by_ + by_ else n.tmod by_
def satF (n most : Int) : Int := if n < 0 ∨ most < 0 then 0 else if most ≤ n then most else n + 1


theorem clamp_any (n lo hi : Int) (w : World) :
    Calls Try.prog 28 #[.int .i64 n, .int .i64 lo, .int .i64 hi] w fun e w' => e = .returned (.int .i64 (clampF n lo hi)) ∧ w = w' := by
  by_cases h1 : n < lo
  · have e : clampF n lo hi = lo := by unfold clampF; rw [if_pos (Or.inl h1)]
    rw [e]; clear e
    go_enter Try.func28, Try.ntmps28
    go_wp2
    go_ret
    exact ⟨rfl, rfl⟩
  · by_cases h2 : hi < lo
    · have e : clampF n lo hi = lo := by unfold clampF; rw [if_pos (Or.inr h2)]
      rw [e]; clear e
      go_enter Try.func28, Try.ntmps28
      go_wp2
      go_ret
      exact ⟨rfl, rfl⟩
    · by_cases h3 : n ≤ hi
      · have e : clampF n lo hi = n := by unfold clampF; rw [if_neg (by omega), if_pos h3]
        rw [e]; clear e
        go_enter Try.func28, Try.ntmps28
        go_wp2
        go_ret
        exact ⟨rfl, rfl⟩
      · have e : clampF n lo hi = hi := by unfold clampF; rw [if_neg (by omega), if_neg h3]
        rw [e]; clear e
        go_enter Try.func28, Try.ntmps28
        go_wp2
        go_ret
        exact ⟨rfl, rfl⟩
theorem mod_any (n b : Int) (w : World) (hn : (Lit.int .i64 n).wf = true) (hb : (Lit.int .i64 b).wf = true) :
    Calls Try.prog 51 #[.int .i64 n, .int .i64 b] w fun e w' => e = .returned (.int .i64 (modF n b)) ∧ w = w' := by
  have bn := bd64 hn
  have bb := bd64 hb
  by_cases h1 : b < 1
  · have e : modF n b = 0 := by unfold modF; rw [if_pos h1]
    rw [e]; clear e
    go_enter Try.func51, Try.ntmps51
    go_wp2
    go_ret
    exact ⟨rfl, rfl⟩
  · by_cases h2 : n.tmod b < 0
    · have e : modF n b = n.tmod b + b := by unfold modF; rw [if_neg h1, if_pos h2]
      rw [e]; clear e
      have hr : -b < n.tmod b := by have := Int.lt_tmod_of_pos n (show 0 < b by omega); omega
      go_enter Try.func51, Try.ntmps51
      go_wp2
      go_ret
      exact ⟨rfl, rfl⟩
    · have e : modF n b = n.tmod b := by unfold modF; rw [if_neg h1, if_neg h2]
      rw [e]; clear e
      go_enter Try.func51, Try.ntmps51
      go_wp2
      go_ret
      exact ⟨rfl, rfl⟩
end Go.Proofs.Ytkopmhmbldohdab

/- Plain words on the gate: a row of marks with more of them, the slot that is open, what the guard lets through, what is sent; no conditions. -/
namespace Go.Proofs.Ytkopmhmbldohdab
open Go.ChangeShapes Go.WideShapes Go.ChangeAt Go.RowKit
set_option linter.unusedVariables false

theorem sentB_bl (s : ByteArray) (j : Nat) : sentB s j = ((bl s)[j]? == some 49) := by
  unfold sentB
  by_cases h : j < s.size
  · have h' : j < s.data.toList.length := by simpa using h
    rw [decide_eq_true h, Bool.true_and, List.getD_eq_getElem?_getD]
    unfold bl
    rw [List.getElem?_eq_getElem h']
    rfl
  · have h' : (bl s)[j]? = none := List.getElem?_eq_none (by rw [bl_length]; omega)
    rw [h', decide_eq_false h]
    rfl
/-- So many marks. -/
def mkN (n : Int) : Nat := (clampF n 0 64).toNat
theorem mkN_int (n : Int) : clampF n 0 64 = (mkN n : Int) := by unfold mkN clampF; split <;> (try split) <;> omega
theorem mkN_le (n : Int) : mkN n ≤ 64 := by unfold mkN clampF; split <;> (try split) <;> omega
theorem mkN_of {n : Nat} (h : n ≤ 64) : mkN (n : Int) = n := by unfold mkN clampF; rw [if_neg (by omega), if_pos (by omega)]; rfl
/-- Is there a mark at a place, or is it one of a row's? -/
def markP (s : ByteArray) (at_ : List Int) (i : Nat) : Bool := sentB s i || decide ((i : Int) ∈ at_)
def markU (s : ByteArray) (at_ : List Int) (i : Nat) : UInt8 := if markP s at_ i = true then 49 else 48
def markL (s : ByteArray) (n : Nat) (at_ : List Int) : List UInt8 := (List.range n).map (markU s at_)
def markB (s : ByteArray) (n : Int) (at_ : List Int) : ByteArray := ba (markL s (mkN n) at_)
theorem markL_len (s : ByteArray) (n : Nat) (at_ : List Int) : (markL s n at_).length = n := by simp [markL]
theorem markB_size (s : ByteArray) (n : Int) (at_ : List Int) : (markB s n at_).size = mkN n := by unfold markB; rw [ba_size, markL_len]
theorem sentB_markB (s : ByteArray) (n : Int) (at_ : List Int) (j : Nat) : sentB (markB s n at_) j = (decide (j < mkN n) && markP s at_ j) := by
  rw [sentB_bl]
  unfold markB markL
  rw [bl_ba]
  by_cases h : j < mkN n
  · rw [decide_eq_true h, Bool.true_and, List.getElem?_map, List.getElem?_range h]
    show (some (markU s at_ j) == some 49) = _
    unfold markU
    cases markP s at_ j <;> rfl
  · rw [decide_eq_false h, Bool.false_and, List.getElem?_eq_none (by simp; omega)]
    rfl
/-- The first marks: those of a text. -/
theorem markL_none (s : ByteArray) (n : Nat) : markL s n [] = fillL 0 n (markU s []) n := (fillL_all _ _ _).symm
theorem markU_yes {s : ByteArray} {k : Nat} (h : k < s.size) (e : ((s[k]'h).toNat : Int) = 49) : markU s [] k = UInt8.ofNat 49 := by
  have h1 : s[k]'h = 49 := by
    apply UInt8.toNat_inj.1
    show _ = 49
    omega
  have : markP s [] k = true := by
    unfold markP
    rw [sentB_bl]
    have h' : k < s.data.toList.length := by simpa using h
    unfold bl
    rw [List.getElem?_eq_getElem h']
    have e2 : s.data.toList[k]'h' = s[k]'h := by simp [ByteArray.getElem_eq_getElem_data]
    rw [e2, h1]
    rfl
  unfold markU
  rw [if_pos this]
  rfl
theorem markU_no {s : ByteArray} {k : Nat} (h : k < s.size) (e : ¬ ((s[k]'h).toNat : Int) = 49) : markU s [] k = UInt8.ofNat 48 := by
  have : ¬ markP s [] k = true := by
    unfold markP
    rw [sentB_bl]
    have h' : k < s.data.toList.length := by simpa using h
    unfold bl
    rw [List.getElem?_eq_getElem h']
    have e2 : s.data.toList[k]'h' = s[k]'h := by simp [ByteArray.getElem_eq_getElem_data]
    rw [e2]
    intro c
    simp at c
    apply e
    rw [c]
    rfl
  unfold markU
  rw [if_neg this]
  rfl
theorem markU_out {s : ByteArray} {k : Nat} (h : ¬ k < s.size) : markU s [] k = UInt8.ofNat 48 := by
  have : ¬ markP s [] k = true := by
    unfold markP
    rw [sentB_bl, List.getElem?_eq_none (by rw [bl_length]; omega)]
    intro c
    simp at c
  unfold markU
  rw [if_neg this]
  rfl
/-- One place more. -/
theorem markL_in (s : ByteArray) (n : Nat) (zs : List Int) (k : Nat) : (markL s n zs).set k (UInt8.ofNat 49) = markL s n (zs ++ [(k : Int)]) := by
  apply List.ext_getElem
  · simp [markL]
  · intro i h1 h2
    rw [List.getElem_set]
    simp only [markL, List.getElem_map, List.getElem_range]
    unfold markU markP
    by_cases e : k = i
    · subst e
      rw [if_pos rfl]
      simp
    · rw [if_neg e]
      have : ((i : Int) ∈ zs ++ [(k : Int)]) ↔ ((i : Int) ∈ zs) := by simp; omega
      simp only [this]
theorem markL_out (s : ByteArray) (n : Nat) (zs : List Int) (z : Int) (h : ¬ (0 ≤ z ∧ z < (n : Int))) : markL s n (zs ++ [z]) = markL s n zs := by
  apply List.ext_getElem
  · simp [markL]
  · intro i h1 h2
    simp only [markL, List.getElem_map, List.getElem_range]
    unfold markU markP
    have hi : i < n := by simpa [markL] using h1
    have : ((i : Int) ∈ zs ++ [z]) ↔ ((i : Int) ∈ zs) := by simp; omega
    simp only [this]
/-- A text that grows by digits. -/
theorem markB_grow (s : ByteArray) (zs : List Int) (k : Nat) : ba (markL s (k + 1) zs) = ba (markL s k zs) ++ ba [markU s zs k] := by
  rw [ba_append]
  unfold markL
  rw [List.range_succ, List.map_append]
  rfl
/-- The slot that is open. -/
def openF (E o sl r dr : Int) (zs : List Int) (mr el : Int) (s : ByteArray) (node : Int) : Int := if 2 ≤ mr then dueF E o sl r dr zs node el s else -1
theorem openF_no {E o sl r dr : Int} {zs : List Int} {mr el : Int} {s : ByteArray} {node : Int} (h : ¬ 2 ≤ mr) : openF E o sl r dr zs mr el s node = -1 := if_neg h
theorem openF_yes {E o sl r dr : Int} {zs : List Int} {mr el : Int} {s : ByteArray} {node : Int} (h : 2 ≤ mr) : openF E o sl r dr zs mr el s node = dueF E o sl r dr zs node el s := if_pos h
theorem dueF_err {E o sl r dr : Int} {zs : List Int} {node el : Int} {s : ByteArray} (h : ¬ E = 0) : dueF E o sl r dr zs node el s = -1 := by unfold dueF; rw [ownedF_err h]; rfl
/-- What an open slot is: none, or one of the node's own that was not sent in. -/
theorem openF_bd (E o sl r dr : Int) (zs : List Int) (mr el : Int) (s : ByteArray) (node : Int) : openF E o sl r dr zs mr el s node = -1 ∨ ∃ k : Nat, E = 0 ∧ 2 ≤ mr ∧ k < zs.length ∧ zs.getD k 0 = node ∧ sentB s k = false ∧ openF E o sl r dr zs mr el s node = (k : Int) := by
  by_cases h : 2 ≤ mr
  · rw [openF_yes h]
    by_cases hE : E = 0
    · subst hE
      unfold dueF
      rw [ownedF_ok]
      rcases firstF_bd (dueB o sl r dr el s) (ownL zs node zs.length) with ⟨h1, _⟩ | ⟨k, h1, h2, h3⟩
      · exact .inl h1
      · obtain ⟨h4, h5⟩ := ownL_mem.1 h1
        refine .inr ⟨k, rfl, h, h4, h5, ?_, h2⟩
        unfold dueB at h3
        simp only [Bool.and_eq_true, Bool.not_eq_true'] at h3
        exact h3.1
    · exact .inl (dueF_err hE)
  · exact .inl (openF_no h)
theorem open_32 {E o sl r dr : Int} {zs : List Int} {mr el : Int} {s : ByteArray} {node : Int} (h : E = 0 → (zs.length : Int) ≤ 32) : openF E o sl r dr zs mr el s node = -1 ∨ (0 ≤ openF E o sl r dr zs mr el s node ∧ openF E o sl r dr zs mr el s node < 32) := by
  rcases openF_bd E o sl r dr zs mr el s node with h1 | ⟨k, hE, _, hk, _, _, h1⟩
  · exact .inl h1
  · have := h hE
    exact .inr (by omega)
/-- Does the guard let a packet through? -/
def passB (k : Int) (ps cy : Int) (te : ByteArray) (mn : Int) (ml : ByteArray) : Bool := decide (ps = 0 ∨ (0 ≤ k ∧ ps = k + 1 ∧ cy = mn ∧ te = ml))
/-- The message of what the guard gives back. -/
def gdS (b : Bool) (ps : Int) : Int := if b = true then ps else 0
def gdT (b : Bool) (te : ByteArray) : ByteArray := if b = true then te else ⟨#[]⟩
theorem carS_no : carS (-1) = 0 := rfl
theorem carC_no (c : Int) : carC (-1) c = 0 := rfl
theorem carT_no (t : ByteArray) : carT (-1) t = ⟨#[]⟩ := rfl
theorem car_yes {k : Int} (h : 0 ≤ k ∧ k < 32) (c : Int) (t : ByteArray) : carS k = k + 1 ∧ carC k c = c ∧ carT k t = t := ⟨if_neg (by omega), if_neg (by omega), if_neg (by omega)⟩
theorem pass_car {k ps cy mn : Int} {te ml : ByteArray} (hk : k = -1 ∨ (0 ≤ k ∧ k < 32)) (h0 : ¬ ps = 0) : passB k ps cy te mn ml = decide (ps = carS k ∧ cy = carC k mn ∧ te = carT k ml) := by
  unfold passB
  rcases hk with rfl | hk
  · rw [carS_no]
    rw [decide_eq_false (by omega), decide_eq_false (fun c => h0 c.1)]
  · obtain ⟨e1, e2, e3⟩ := car_yes hk mn ml
    rw [e1, e2, e3]
    simp [h0, hk.1]
theorem pass_none {k ps cy mn : Int} {te ml : ByteArray} (h0 : ps = 0) : passB k ps cy te mn ml = true := decide_eq_true (.inl h0)
/-- What was sent in, behind a message in the open slot. -/
def sndM (k : Int) (s : ByteArray) (m : Nat) : ByteArray := if k = -1 then s else markB s m [k]
end Go.Proofs.Ytkopmhmbldohdab

/- Plain words on which slot is now: clear ticks, windows, and whose window has a number of units; no conditions. -/
namespace Go.Proofs.Ytkopmhmbldohdab
open Go.ChangeShapes Go.WideShapes Go.ChangeAt Go.RowKit
set_option linter.unusedVariables false

/-- The slot so many ticks behind a pulse. -/
def nomF (E r o sl : Int) (m : Nat) (t : Int) : Int := if 0 ≤ t ∧ t ≤ 2000 then slotF E o sl m (wrap64 (t * r)) else -1
theorem nomF_in {E r o sl : Int} {m : Nat} {t : Int} (h : 0 ≤ t ∧ t ≤ 2000) : nomF E r o sl m t = slotF E o sl m (wrap64 (t * r)) := if_pos h
theorem nomF_no {E r o sl : Int} {m : Nat} {t : Int} (h : ¬ (0 ≤ t ∧ t ≤ 2000)) : nomF E r o sl m t = -1 := if_neg h
/-- Is a border further than drift? -/
def farB (r dr t u : Int) : Bool := decide (t * dr < t * r - u) || decide (t * dr < -(t * r - u))
theorem farB_iff {r dr t u : Int} : farB r dr t u = true ↔ t * dr < t * r - u ∨ t * dr < -(t * r - u) := by simp [farB]
theorem farB_not {r dr t u : Int} : farB r dr t u = false ↔ ¬ (t * dr < t * r - u ∨ t * dr < -(t * r - u)) := by simp [farB]
/-- Is one of a slot's ends near? -/
def edgeB (r dr t o sl : Int) (k : Nat) : Bool := !farB r dr t (o + (k : Int) * sl) || !farB r dr t (o + (k : Int) * sl + sl)
/-- Is that tick clear? -/
def clearB (E r dr o sl : Int) (m : Nat) (t : Int) : Bool := decide (E = 0) && decide (0 ≤ t ∧ t ≤ 2000) && (List.range (m + 1)).all fun k => farB r dr t (o + (k : Int) * sl)
theorem clearB_no {E r dr o sl : Int} {m : Nat} {t : Int} (h : ¬ (E = 0 ∧ 0 ≤ t ∧ t ≤ 2000)) : clearB E r dr o sl m t = false := by
  unfold clearB
  by_cases hE : E = 0
  · rw [decide_eq_false (fun c => h ⟨hE, c⟩ : ¬ (0 ≤ t ∧ t ≤ 2000)), Bool.and_false, Bool.false_and]
  · rw [decide_eq_false hE, Bool.false_and, Bool.false_and]
theorem clearB_in {r dr o sl : Int} {m : Nat} {t : Int} (h : 0 ≤ t ∧ t ≤ 2000) : clearB 0 r dr o sl m t = (List.range (m + 1)).all fun k => farB r dr t (o + (k : Int) * sl) := by
  unfold clearB
  rw [decide_eq_true rfl, decide_eq_true h, Bool.true_and, Bool.true_and]
theorem next_begin (o sl : Int) (k : Nat) : o + (k : Int) * sl + sl = o + ((k + 1 : Nat) : Int) * sl := by
  rw [Int.natCast_add, Int.add_mul]; simp; omega
theorem range_pre {k m : Nat} (h : k < m) : List.range k ++ [k] <+: List.range m := by
  rw [← List.range_succ]
  obtain ⟨i, rfl⟩ := Nat.exists_eq_add_of_le (show k + 1 ≤ m from h)
  rw [List.range_add]
  exact List.prefix_append _ _
theorem firstF_range_hit {p : Nat → Bool} {k m : Nat} (h : k < m) (hp : p k = true) (h0 : ∀ j, j < k → p j = false) : firstF p (List.range m) = (k : Int) :=
  firstF_hit hp (fun j hj => h0 j (List.mem_range.1 hj)) (range_pre h)
theorem firstF_range_none {p : Nat → Bool} {m : Nat} (h0 : ∀ j, j < m → p j = false) : firstF p (List.range m) = -1 := firstF_none fun j hj => h0 j (List.mem_range.1 hj)
theorem firstF_range_bd (p : Nat → Bool) (m : Nat) : firstF p (List.range m) = -1 ∧ (∀ j, j < m → p j = false) ∨ ∃ k, k < m ∧ firstF p (List.range m) = (k : Int) ∧ p k = true := by
  rcases firstF_bd p (List.range m) with ⟨h1, h2⟩ | ⟨k, h1, h2, h3⟩
  · exact .inl ⟨h1, fun j hj => h2 j (List.mem_range.2 hj)⟩
  · exact .inr ⟨k, List.mem_range.1 h1, h2, h3⟩
/-- A tick is clear if no slot's end is near. -/
theorem clear_edges {r dr o sl : Int} {m : Nat} {t : Int} (hm : 1 ≤ m) (h : 0 ≤ t ∧ t ≤ 2000) : (firstF (edgeB r dr t o sl) (List.range m) == -1) = clearB 0 r dr o sl m t := by
  rw [clearB_in h]
  rcases firstF_range_bd (edgeB r dr t o sl) m with ⟨h1, h2⟩ | ⟨k, h1, h2, h3⟩
  · rw [h1]
    have : (List.range (m + 1)).all (fun k => farB r dr t (o + (k : Int) * sl)) = true := by
      rw [List.all_eq_true]
      intro k hk
      have hk := List.mem_range.1 hk
      by_cases hlt : k < m
      · have := h2 k hlt
        unfold edgeB at this
        simp only [Bool.or_eq_false_iff, Bool.not_eq_false'] at this
        exact this.1
      · obtain ⟨j, rfl⟩ : ∃ j, m = j + 1 := ⟨m - 1, by omega⟩
        obtain rfl : k = j + 1 := by omega
        have := h2 j (by omega)
        unfold edgeB at this
        simp only [Bool.or_eq_false_iff, Bool.not_eq_false'] at this
        rw [← next_begin]
        exact this.2
    rw [this]; rfl
  · rw [h2]
    have hne : (((k : Int)) == -1) = false := by rw [beq_eq_false_iff_ne]; omega
    have : (List.range (m + 1)).all (fun k => farB r dr t (o + (k : Int) * sl)) = false := by
      rw [← Bool.not_eq_true, List.all_eq_true]
      intro c
      have c1 := c k (List.mem_range.2 (by omega))
      have c2 := c (k + 1) (List.mem_range.2 (by omega))
      unfold edgeB at h3
      rw [c1, next_begin, c2] at h3
      cases h3
    rw [this, hne]
/-- A slot's window. -/
def winLo (d r G o sl : Int) (k : Nat) : Int := midE o sl (k : Int) + d * r - G
def winHi (d r G o sl : Int) (k : Nat) : Int := midE o sl (k : Int) + d * r + G
def win1 (E d r G o sl : Int) (m : Nat) (s : Int) : Int := if E = 0 ∧ 0 ≤ s ∧ s < (m : Int) then midE o sl s + d * r - G else 0
def win2 (E d r G o sl : Int) (m : Nat) (s : Int) : Int := if E = 0 ∧ 0 ≤ s ∧ s < (m : Int) then midE o sl s + d * r + G else 0
theorem win1_in {d r G o sl : Int} {m k : Nat} (h : k < m) : win1 0 d r G o sl m (k : Int) = winLo d r G o sl k := if_pos ⟨rfl, by omega, by omega⟩
theorem win2_in {d r G o sl : Int} {m k : Nat} (h : k < m) : win2 0 d r G o sl m (k : Int) = winHi d r G o sl k := if_pos ⟨rfl, by omega, by omega⟩
theorem win1_no {E d r G o sl : Int} {m : Nat} {s : Int} (h : ¬ (E = 0 ∧ 0 ≤ s ∧ s < (m : Int))) : win1 E d r G o sl m s = 0 := if_neg h
theorem win2_no {E d r G o sl : Int} {m : Nat} {s : Int} (h : ¬ (E = 0 ∧ 0 ≤ s ∧ s < (m : Int))) : win2 E d r G o sl m s = 0 := if_neg h
def inWin (d r G o sl e : Int) (k : Nat) : Bool := decide (winLo d r G o sl k ≤ e) && decide (e ≤ winHi d r G o sl k)
/-- Whose window has that number of units. -/
def hitF (E d r G o sl : Int) (m : Nat) (e : Int) : Int := if E = 0 then firstF (inWin d r G o sl e) (List.range m) else -1
theorem hitF_ok (d r G o sl : Int) (m : Nat) (e : Int) : hitF 0 d r G o sl m e = firstF (inWin d r G o sl e) (List.range m) := if_pos rfl
theorem hitF_err {E d r G o sl : Int} {m : Nat} {e : Int} (h : ¬ E = 0) : hitF E d r G o sl m e = -1 := if_neg h
end Go.Proofs.Ytkopmhmbldohdab

/- A packet as a plain record, and rows of packets; no conditions. -/
namespace Go.Proofs.Ytkopmhmbldohdab
open Go.ChangeShapes Go.WideShapes Go.ChangeAt Go.RowKit
set_option linter.unusedVariables false

/-- A packet; rows of them. -/
structure Pkt where
  vo : ByteArray
  ex : Int
  ve : ByteArray
  ps : Int
  cy : Int
  te : ByteArray
def pktC (q : Pkt) : List Value := [.string q.vo, .int .i64 q.ex, .string q.ve, .int .i64 q.ps, .int .i64 q.cy, .string q.te]
def kPkt : Kind Pkt := ⟨6, pktC, fun _ => rfl, by intro a u hu; simp [pktC] at hu; rcases hu with rfl | rfl | rfl | rfl | rfl | rfl <;> rfl, by decide⟩
end Go.Proofs.Ytkopmhmbldohdab

/- Plain words on which messages are taken: why one may not be, what becomes of one, and of many, one after another; no conditions. -/
namespace Go.Proofs.Ytkopmhmbldohdab
open Go.ChangeShapes Go.WideShapes Go.ChangeAt Go.RowKit
set_option linter.unusedVariables false

/-- Is there a mark at a place that may be none? -/
def hasI (s : ByteArray) (z : Int) : Bool := decide (0 ≤ z) && sentB s z.toNat
theorem hasI_nat (s : ByteArray) (k : Nat) : hasI s (k : Int) = sentB s k := by unfold hasI; rw [decide_eq_true (by omega)]; simp
theorem hasI_neg {s : ByteArray} {z : Int} (h : ¬ 0 ≤ z) : hasI s z = false := by unfold hasI; rw [decide_eq_false h]; rfl
/-- Why a message may not be taken. -/
def chkF (E : Int) (m : Nat) (ps mr own fm el w1 w2 cy mn : Int) (te mh : ByteArray) : Int :=
  if ¬ E = 0 then E else if ps < 1 ∨ (m : Int) < ps then 11 else if ¬ 2 ≤ mr then 14 else if ¬ own = fm then 12 else
  if el < w1 ∨ w2 < el then 10 else if ¬ cy = mn then 16 else if 16 < te.size then 15 else if hasI mh (ps - 1) = true then 13 else 0
section
variable {E : Int} {m : Nat} {ps mr own fm el w1 w2 cy mn : Int} {te mh : ByteArray}
theorem chk_E (h : ¬ E = 0) : chkF E m ps mr own fm el w1 w2 cy mn te mh = E := if_pos h
theorem chk_A (h : E = 0) (a : ps < 1 ∨ (m : Int) < ps) : chkF E m ps mr own fm el w1 w2 cy mn te mh = 11 := (if_neg (not_not_intro h)).trans (if_pos a)
theorem chk_B (h : E = 0) (a : ¬ (ps < 1 ∨ (m : Int) < ps)) (b : ¬ 2 ≤ mr) : chkF E m ps mr own fm el w1 w2 cy mn te mh = 14 := (if_neg (not_not_intro h)).trans ((if_neg a).trans (if_pos b))
theorem chk_C (h : E = 0) (a : ¬ (ps < 1 ∨ (m : Int) < ps)) (b : 2 ≤ mr) (c : ¬ own = fm) : chkF E m ps mr own fm el w1 w2 cy mn te mh = 12 := (if_neg (not_not_intro h)).trans ((if_neg a).trans ((if_neg (not_not_intro b)).trans (if_pos c)))
theorem chk_D (h : E = 0) (a : ¬ (ps < 1 ∨ (m : Int) < ps)) (b : 2 ≤ mr) (c : own = fm) (d : el < w1 ∨ w2 < el) : chkF E m ps mr own fm el w1 w2 cy mn te mh = 10 := (if_neg (not_not_intro h)).trans ((if_neg a).trans ((if_neg (not_not_intro b)).trans ((if_neg (not_not_intro c)).trans (if_pos d))))
theorem chk_F (h : E = 0) (a : ¬ (ps < 1 ∨ (m : Int) < ps)) (b : 2 ≤ mr) (c : own = fm) (d : ¬ (el < w1 ∨ w2 < el)) (f : ¬ cy = mn) : chkF E m ps mr own fm el w1 w2 cy mn te mh = 16 := (if_neg (not_not_intro h)).trans ((if_neg a).trans ((if_neg (not_not_intro b)).trans ((if_neg (not_not_intro c)).trans ((if_neg d).trans (if_pos f)))))
theorem chk_G (h : E = 0) (a : ¬ (ps < 1 ∨ (m : Int) < ps)) (b : 2 ≤ mr) (c : own = fm) (d : ¬ (el < w1 ∨ w2 < el)) (f : cy = mn) (g : 16 < te.size) : chkF E m ps mr own fm el w1 w2 cy mn te mh = 15 := (if_neg (not_not_intro h)).trans ((if_neg a).trans ((if_neg (not_not_intro b)).trans ((if_neg (not_not_intro c)).trans ((if_neg d).trans ((if_neg (not_not_intro f)).trans (if_pos g))))))
theorem chk_H (h : E = 0) (a : ¬ (ps < 1 ∨ (m : Int) < ps)) (b : 2 ≤ mr) (c : own = fm) (d : ¬ (el < w1 ∨ w2 < el)) (f : cy = mn) (g : ¬ 16 < te.size) : chkF E m ps mr own fm el w1 w2 cy mn te mh = if hasI mh (ps - 1) = true then 13 else 0 := (if_neg (not_not_intro h)).trans ((if_neg a).trans ((if_neg (not_not_intro b)).trans ((if_neg (not_not_intro c)).trans ((if_neg d).trans ((if_neg (not_not_intro f)).trans (if_neg g))))))
theorem chk_ok (h : chkF E m ps mr own fm el w1 w2 cy mn te mh = 0) : E = 0 ∧ ¬ (ps < 1 ∨ (m : Int) < ps) ∧ 2 ≤ mr ∧ own = fm ∧ ¬ (el < w1 ∨ w2 < el) ∧ cy = mn ∧ ¬ 16 < te.size ∧ hasI mh (ps - 1) = false := by
  by_cases e : E = 0
  · by_cases a : ps < 1 ∨ (m : Int) < ps
    · rw [chk_A e a] at h; omega
    by_cases b : 2 ≤ mr
    · by_cases c : own = fm
      · by_cases d : el < w1 ∨ w2 < el
        · rw [chk_D e a b c d] at h; omega
        by_cases f : cy = mn
        · by_cases g : 16 < te.size
          · rw [chk_G e a b c d f g] at h; omega
          rw [chk_H e a b c d f g] at h
          refine ⟨e, a, b, c, d, f, g, ?_⟩
          cases hh : hasI mh (ps - 1)
          · rfl
          · rw [hh, if_pos rfl] at h; omega
        · rw [chk_F e a b c d f] at h; omega
      · rw [chk_C e a b c] at h; omega
    · rw [chk_B e a b] at h; omega
  · rw [chk_E e] at h; exact absurd h e
/-- A message that was taken is not taken again. -/
theorem chk_again {mh' : ByteArray} (h : chkF E m ps mr own fm el w1 w2 cy mn te mh = 0) (k : hasI mh' (ps - 1) = true) : chkF E m ps mr own fm el w1 w2 cy mn te mh' = 13 := by
  obtain ⟨e, a, b, c, d, f, g, _⟩ := chk_ok h
  rw [chk_H e a b c d f g, k, if_pos rfl]
end
/-- Why a message may not be taken, of a configuration and a memory. -/
def chkC (n f d p r dr o sl md fr : Int) (zs : List Int) (mc ma mn mr fm ps cy : Int) (te mh : ByteArray) : Int :=
  chkF (plainE n f d p r dr o sl md fr zs) zs.length ps mr (ownF (plainE n f d p r dr o sl md fr zs) zs (ps - 1)) fm ((mc - ma) % 65536) (win1 (plainE n f d p r dr o sl md fr zs) d r (guardF d r dr (lastE o sl zs)) o sl zs.length (ps - 1)) (win2 (plainE n f d p r dr o sl md fr zs) d r (guardF d r dr (lastE o sl zs)) o sl zs.length (ps - 1)) cy mn te mh
/-- What becomes of marks, and what is delivered, of a message. -/
def tkM (e : Int) (s : ByteArray) (m z : Int) : ByteArray := if e = 0 then markB s m [z] else ⟨#[]⟩
def tkI (e : Int) (z : Int) : Int := if e = 0 then z else 0
def tkT (e : Int) (t : ByteArray) : ByteArray := if e = 0 then t else ⟨#[]⟩
/-- What was delivered; rows of it. -/
structure Dlv where
  fm : Int
  sl : Int
  cy : Int
  te : ByteArray
def dlvC (q : Dlv) : List Value := [.int .i64 q.fm, .int .i64 q.sl, .int .i64 q.cy, .string q.te]
def kDlv : Kind Dlv := ⟨4, dlvC, fun _ => rfl, by intro a u hu; simp [dlvC] at hu; rcases hu with rfl | rfl | rfl | rfl <;> rfl, by decide⟩
def noQ : Pkt := ⟨⟨#[]⟩, 0, ⟨#[]⟩, 0, 0, ⟨#[]⟩⟩
/-- Many, one after another: marks, who was heard, what was delivered, how many were refused. -/
structure StT where
  hd : ByteArray
  sn : ByteArray
  got : List Dlv
  no : Nat
def allT (chk : Int → Pkt → ByteArray → Int) (m n : Int) (mh mz : ByteArray) (qs : List Pkt) : Nat → StT
  | 0 => ⟨mh, mz, [], 0⟩
  | k + 1 =>
    let st := allT chk m n mh mz qs k
    let q := qs.getD k noQ
    if q.ps = 0 then st else if chk (k : Int) q st.hd = 0 then ⟨markB st.hd m [q.ps - 1], markB st.sn n [(k : Int)], st.got ++ [⟨(k : Int), q.ps - 1, q.cy, q.te⟩], st.no⟩ else ⟨st.hd, st.sn, st.got, st.no + 1⟩
section
variable {chk : Int → Pkt → ByteArray → Int} {m n : Int} {mh mz : ByteArray} {qs : List Pkt} {k : Nat}
theorem all_skip (h : (qs.getD k noQ).ps = 0) : allT chk m n mh mz qs (k + 1) = allT chk m n mh mz qs k := if_pos h
theorem all_take (h : ¬ (qs.getD k noQ).ps = 0) (e : chk (k : Int) (qs.getD k noQ) (allT chk m n mh mz qs k).hd = 0) : allT chk m n mh mz qs (k + 1) = ⟨markB (allT chk m n mh mz qs k).hd m [(qs.getD k noQ).ps - 1], markB (allT chk m n mh mz qs k).sn n [(k : Int)], (allT chk m n mh mz qs k).got ++ [⟨(k : Int), (qs.getD k noQ).ps - 1, (qs.getD k noQ).cy, (qs.getD k noQ).te⟩], (allT chk m n mh mz qs k).no⟩ := (if_neg h).trans (if_pos e)
theorem all_no (h : ¬ (qs.getD k noQ).ps = 0) (e : ¬ chk (k : Int) (qs.getD k noQ) (allT chk m n mh mz qs k).hd = 0) : allT chk m n mh mz qs (k + 1) = ⟨(allT chk m n mh mz qs k).hd, (allT chk m n mh mz qs k).sn, (allT chk m n mh mz qs k).got, (allT chk m n mh mz qs k).no + 1⟩ := (if_neg h).trans (if_neg e)
theorem all_bd (chk : Int → Pkt → ByteArray → Int) (m n : Int) (mh mz : ByteArray) (qs : List Pkt) (k : Nat) : (allT chk m n mh mz qs k).got.length + (allT chk m n mh mz qs k).no ≤ k := by
  induction k with
  | zero => exact Nat.le_refl _
  | succ k ih =>
    by_cases h : (qs.getD k noQ).ps = 0
    · rw [all_skip h]; omega
    · by_cases e : chk (k : Int) (qs.getD k noQ) (allT chk m n mh mz qs k).hd = 0
      · rw [all_take h e]; simp; omega
      · rw [all_no h e]; simp; omega
end
end Go.Proofs.Ytkopmhmbldohdab

/- Plain mathematics of votes: how many there are of each, what both exchanges make of them; no conditions. -/
namespace Go.Proofs.Ytkopmhmbldohdab
open Go.ChangeShapes Go.WideShapes Go.ChangeAt Go.RowKit
set_option linter.unusedVariables false

/-- How many of a row are v. -/
def cntL (v : Int) (zs : List Int) : Nat := zs.countP (fun z => decide (z = v))
/-- How many votes are v. -/
def cntF (v : Int) (zs : List Int) : Int := if 0 ≤ v ∧ v < 3 then (cntL v zs : Int) else 0
theorem cntF_in {v : Int} (h1 : 0 ≤ v) (h2 : v < 3) (zs : List Int) : cntF v zs = (cntL v zs : Int) := if_pos ⟨h1, h2⟩
theorem cntF_out {v : Int} (h : ¬ (0 ≤ v ∧ v < 3)) (zs : List Int) : cntF v zs = 0 := if_neg h
theorem cntL_nil (v : Int) : cntL v [] = 0 := rfl
theorem cntL_snoc (v : Int) (zs : List Int) (z : Int) : cntL v (zs ++ [z]) = cntL v zs + if z = v then 1 else 0 := by
  unfold cntL
  rw [List.countP_append, List.countP_singleton]
  by_cases h : z = v
  · rw [if_pos h, if_pos (decide_eq_true h)]
  · rw [if_neg h, if_neg (by simp [h])]
theorem cntL_le (v : Int) (zs : List Int) : cntL v zs ≤ zs.length := List.countP_le_length
theorem cntF_bd (v : Int) (zs : List Int) : 0 ≤ cntF v zs ∧ cntF v zs ≤ (zs.length : Int) := by
  have h := cntL_le v zs
  unfold cntF
  split <;> omega
theorem take_snocV (zs : List Int) {k : Nat} (hk : k < zs.length) : zs.take (k + 1) = zs.take k ++ [zs[k]] := by rw [List.take_add_one]; simp [hk]
/-- Whether there are a quorum. -/
def enoughB (E n f v : Int) (zs : List Int) : Bool := decide (E = 0 ∧ n - f ≤ cntF v zs)
theorem enoughB_no {E : Int} (h : ¬ E = 0) (n f v : Int) (zs : List Int) : enoughB E n f v zs = false := decide_eq_false fun k => h k.1
theorem enoughB_ok {E : Int} (h : E = 0) (n f v : Int) (zs : List Int) : enoughB E n f v zs = decide (n - f ≤ cntF v zs) := by
  unfold enoughB
  simp [h]
/-- What the first exchange makes of votes. -/
def mostF (E n f : Int) (zs : List Int) : Int := if E = 0 then (if n - f ≤ (cntL 1 zs : Int) then 1 else if n - f ≤ (cntL 0 zs : Int) then 0 else 2) else 2
/-- What the second exchange makes of them. -/
def leastF (E f now : Int) (zs : List Int) : Int := if E = 0 then (if f + 1 ≤ (cntL 0 zs : Int) then 0 else if f + 1 ≤ (cntL 1 zs : Int) then 1 else if f + 1 ≤ (cntL 2 zs : Int) then 2 else now) else now
theorem mostF_no {E : Int} (h : ¬ E = 0) (n f : Int) (zs : List Int) : mostF E n f zs = 2 := if_neg h
theorem mostF_1 {E : Int} (h : E = 0) {n f : Int} {zs : List Int} (h1 : n - f ≤ (cntL 1 zs : Int)) : mostF E n f zs = 1 := (if_pos h).trans (if_pos h1)
theorem mostF_0 {E : Int} (h : E = 0) {n f : Int} {zs : List Int} (h1 : ¬ n - f ≤ (cntL 1 zs : Int)) (h2 : n - f ≤ (cntL 0 zs : Int)) : mostF E n f zs = 0 := (if_pos h).trans ((if_neg h1).trans (if_pos h2))
theorem mostF_2 {E : Int} (h : E = 0) {n f : Int} {zs : List Int} (h1 : ¬ n - f ≤ (cntL 1 zs : Int)) (h2 : ¬ n - f ≤ (cntL 0 zs : Int)) : mostF E n f zs = 2 := (if_pos h).trans ((if_neg h1).trans (if_neg h2))
theorem leastF_no {E : Int} (h : ¬ E = 0) (f now : Int) (zs : List Int) : leastF E f now zs = now := if_neg h
theorem leastF_0 {E : Int} (h : E = 0) {f now : Int} {zs : List Int} (h0 : f + 1 ≤ (cntL 0 zs : Int)) : leastF E f now zs = 0 := (if_pos h).trans (if_pos h0)
theorem leastF_1 {E : Int} (h : E = 0) {f now : Int} {zs : List Int} (h0 : ¬ f + 1 ≤ (cntL 0 zs : Int)) (h1 : f + 1 ≤ (cntL 1 zs : Int)) : leastF E f now zs = 1 := (if_pos h).trans ((if_neg h0).trans (if_pos h1))
theorem leastF_2 {E : Int} (h : E = 0) {f now : Int} {zs : List Int} (h0 : ¬ f + 1 ≤ (cntL 0 zs : Int)) (h1 : ¬ f + 1 ≤ (cntL 1 zs : Int)) (h2 : f + 1 ≤ (cntL 2 zs : Int)) : leastF E f now zs = 2 := (if_pos h).trans ((if_neg h0).trans ((if_neg h1).trans (if_pos h2)))
theorem leastF_n {E : Int} (h : E = 0) {f now : Int} {zs : List Int} (h0 : ¬ f + 1 ≤ (cntL 0 zs : Int)) (h1 : ¬ f + 1 ≤ (cntL 1 zs : Int)) (h2 : ¬ f + 1 ≤ (cntL 2 zs : Int)) : leastF E f now zs = now := (if_pos h).trans ((if_neg h0).trans ((if_neg h1).trans (if_neg h2)))
/-- A vote. -/
def voteB (v : Int) : Bool := decide (0 ≤ v ∧ v < 3)
theorem voteB_yes {v : Int} (h1 : 0 ≤ v) (h2 : v < 3) : voteB v = true := decide_eq_true ⟨h1, h2⟩
theorem voteB_no {v : Int} (h : ¬ (0 ≤ v ∧ v < 3)) : voteB v = false := decide_eq_false h
end Go.Proofs.Ytkopmhmbldohdab
