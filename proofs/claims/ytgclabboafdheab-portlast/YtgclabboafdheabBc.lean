/- Several texts of one's own in one: what each proves, and its conditions, is said ahead of it. -/
import Derived.Test.YtgclabboafdheabBa
import Derived.Test.YtgclabboafdheabBb
import Derived.Laws.AppendOwn
import Derived.Deep.RegionHeld3
import Derived.BigRegion
import Derived.Laws.CopyOwn
import Derived.Deep.DeepCutAuto
import Derived.Laws.Strings
import Derived.Laws.StructEq

/- The calls eachOwns of package conf and owned of the document's answer tell whether each owner is a node and each node owns a slot; conditions: 4 to 13 nodes. -/
namespace Go.Proofs.Ytgclabboafdheab
open Go.ChangeShapes Go.WideShapes Go.ChangeAt Go.RowKit
set_option linter.unusedVariables false
attribute [local go_sem] cell_rg

def ownsB (n : Int) (zs : List Int) : Bool := zs.all (fun z => decide (0 ≤ z ∧ z ≤ n - 1)) && (List.range n.toNat).all (fun j => decide ((j : Int) ∈ zs))
theorem ownsB_iff {n : Int} {zs : List Int} : ownsB n zs = true ↔ (∀ z ∈ zs, 0 ≤ z ∧ z ≤ n - 1) ∧ ∀ j : Nat, (j : Int) < n → (j : Int) ∈ zs := by
  unfold ownsB
  simp only [Bool.and_eq_true, List.all_eq_true, decide_eq_true_eq, List.mem_range]
  constructor
  · rintro ⟨h1, h2⟩
    exact ⟨h1, fun j hj => h2 j (by omega)⟩
  · rintro ⟨h1, h2⟩
    exact ⟨h1, fun j hj => h2 j (by omega)⟩
theorem ownsB_bad {n : Int} {zs : List Int} (k : Nat) (hk : k < zs.length) (h : ¬ (0 ≤ zs.getD k 0 ∧ zs.getD k 0 ≤ n - 1)) : ownsB n zs = false := by
  rw [← Bool.not_eq_true, ownsB_iff]
  rintro ⟨h1, _⟩
  refine h (h1 _ ?_)
  rw [List.getD_eq_getElem?_getD, List.getElem?_eq_getElem hk]
  exact List.getElem_mem hk
theorem ownsB_miss {n : Int} {zs : List Int} (j : Nat) (hj : (j : Int) < n) (h : ¬ (j : Int) ∈ zs) : ownsB n zs = false := by
  rw [← Bool.not_eq_true, ownsB_iff]
  rintro ⟨_, h2⟩
  exact h (h2 j hj)
theorem ownsB_yes {n : Int} {zs : List Int} (h1 : ∀ z ∈ zs, 0 ≤ z ∧ z ≤ n - 1) (h2 : ∀ j : Nat, (j : Int) < n → (j : Int) ∈ zs) : ownsB n zs = true := ownsB_iff.2 ⟨h1, h2⟩
theorem take_succ_getD {zs : List Int} (k : Nat) (hk : k < zs.length) : zs.take (k + 1) = zs.take k ++ [zs.getD k 0] := by
  rw [List.take_succ_eq_append_getElem hk, List.getD_eq_getElem?_getD, List.getElem?_eq_getElem hk]; rfl

theorem within_yes (x a b : Int) (w : World) (h1 : a ≤ x) (h2 : x ≤ b) :
    Calls Try.prog 11 #[.int .i64 x, .int .i64 a, .int .i64 b] w fun e w' => e = .returned (.bool true) ∧ w' = w := by
  go_enter Try.func11, Try.ntmps11
  go_wp2
  go_ret
  exact ⟨rfl, rfl⟩
theorem within_no (x a b : Int) (w : World) (h : ¬ (a ≤ x ∧ x ≤ b)) :
    Calls Try.prog 11 #[.int .i64 x, .int .i64 a, .int .i64 b] w fun e w' => e = .returned (.bool false) ∧ w' = w := by
  by_cases h1 : a ≤ x
  · have h2 : ¬ x ≤ b := fun h2 => h ⟨h1, h2⟩
    clear h
    have h2' : decide (x ≤ b) = false := by simp [h2]
    go_enter Try.func11, Try.ntmps11
    go_wp2
    go_ret
    exact ⟨rfl, rfl⟩
  · clear h
    have h1' : decide (a ≤ x) = false := by simp [h1]
    go_enter Try.func11, Try.ntmps11
    go_wp2
    go_ret
    exact ⟨rfl, rfl⟩

/-- The owners up to k hold node j. -/
def hasTo (zs : List Int) (k : Nat) (j : Nat) : Bool := decide ((j : Int) ∈ zs.take k)
theorem hasTo_zero (zs : List Int) (j : Nat) : hasTo zs 0 j = false := by simp [hasTo]
theorem hasTo_succ {zs : List Int} (k : Nat) (hk : k < zs.length) (j : Nat) : hasTo zs (k + 1) j = (hasTo zs k j || decide (zs.getD k 0 = (j : Int))) := by
  unfold hasTo
  rw [take_succ_getD k hk]
  by_cases h : (j : Int) ∈ zs.take k <;> simp only [List.mem_append, List.mem_singleton, h, decide_true, decide_false, Bool.true_or, Bool.false_or, true_or, false_or]
  exact decide_eq_decide.2 ⟨fun h => h.symm, fun h => h.symm⟩
theorem hasTo_all {zs : List Int} {j : Nat} : hasTo zs zs.length j = true ↔ (j : Int) ∈ zs := by simp [hasTo]

theorem all_succ {zs : List Int} {n : Int} (k : Nat) (hk : k < zs.length) (h : ∀ z ∈ zs.take k, 0 ≤ z ∧ z ≤ n - 1) (h1 : 0 ≤ zs.getD k 0) (h2 : zs.getD k 0 ≤ n - 1) : ∀ z ∈ zs.take (k + 1), 0 ≤ z ∧ z ≤ n - 1 := by
  intro z hz
  rw [take_succ_getD k hk, List.mem_append, List.mem_singleton] at hz
  rcases hz with hz | rfl
  · exact h z hz
  · exact ⟨h1, h2⟩
theorem bdrew {w W : World} (h : Below w.heap.size w W) (m : Nat) : Below w.heap.size w (W.drewN m) := bthen h (Joins.below_draws _ _ _)

set_option maxHeartbeats 1000000 in
theorem owned_any (n f d p r dr o sl md fr : Int) (ad : Option Addr) (cap : Nat) (zs : List Int) (w : World) (hn1 : 4 ≤ n) (hn2 : n ≤ 13) (hl : zs.length ≤ 9223372036854775807) (hT : Tab w ad zs) :
    Calls Try.prog 12 #[.agg #[.int .i64 n, .int .i64 f, .int .i64 d, .int .i64 p, .int .i64 r, .int .i64 dr, .int .i64 o, .int .i64 sl, .int .i64 md, .int .i64 fr, .slice ad zs.length cap]] w fun e w' => e = .returned (.bool (ownsB n zs)) ∧ Below w.heap.size w w' := by
  have hw1 : IntKind.i64.wrap (n - 1) = n - 1 := IntWalk.i64_in (n - 1) (by omega)
  have HT : Hid (Tab (w.alloc (.cells #[.int .i64 n, .int .i64 f, .int .i64 d, .int .i64 p, .int .i64 r, .int .i64 dr, .int .i64 o, .int .i64 sl, .int .i64 md, .int .i64 fr, .slice ad zs.length cap] 24)) ad zs) := hT.below (ballc _ _)
  clear hT
  go_enter Try.func12, Try.ntmps12
  go_wp2
  go_loopw [3] (fun i wl => ∃ k : Nat, k ≤ zs.length ∧ i = .int .i64 k ∧ (∀ z ∈ zs.take k, 0 ≤ z ∧ z ≤ n - 1) ∧ Below (w.alloc (.cells #[.int .i64 n, .int .i64 f, .int .i64 d, .int .i64 p, .int .i64 r, .int .i64 dr, .int .i64 o, .int .i64 sl, .int .i64 md, .int .i64 fr, .slice ad zs.length cap] 24)).heap.size (w.alloc (.cells #[.int .i64 n, .int .i64 f, .int .i64 d, .int .i64 p, .int .i64 r, .int .i64 dr, .int .i64 o, .int .i64 sl, .int .i64 md, .int .i64 fr, .slice ad zs.length cap] 24)) wl) (fun i _ => zs.length - (intOf i).toNat)
  case atStart => exact ⟨0, Nat.zero_le _, rfl, by simp, Below.refl _ _⟩
  case round =>
    obtain ⟨k, hk, rfl, hall, hb⟩ := hrel
    have HA : Hid (∀ z ∈ zs.take k, 0 ≤ z ∧ z ≤ n - 1) := hall
    have HB : Hid (Below (w.alloc (.cells #[.int .i64 n, .int .i64 f, .int .i64 d, .int .i64 p, .int .i64 r, .int .i64 dr, .int .i64 o, .int .i64 sl, .int .i64 md, .int .i64 fr, .slice ad zs.length cap] 24)).heap.size (w.alloc (.cells #[.int .i64 n, .int .i64 f, .int .i64 d, .int .i64 p, .int .i64 r, .int .i64 dr, .int .i64 o, .int .i64 sl, .int .i64 md, .int .i64 fr, .slice ad zs.length cap] 24)) wr) := hb
    obtain ⟨hbox, hsz⟩ := box_at hb
    clear hall hb
    by_cases hlt : k < zs.length
    · obtain ⟨a, rfl, hc, ha⟩ := (HT.out.below HB.out).lies k hlt
      generalize hzz : zs.getD k 0 = z at hc
      have HZ : Hid (zs.getD k 0 = z) := hzz
      clear hzz
      by_cases hz : 0 ≤ z ∧ z ≤ n - 1
      · have hq := fun v => Calls.to_belowR (within_yes z 0 (n - 1) v hz.1 hz.2)
        have HN : Hid (0 ≤ z ∧ z ≤ n - 1) := hz
        clear hz
        go_wp2
        refine wp_region_quiet_below (by kernel_rfl) (by kernel_rfl) ?_
        repeat (go_big_quiet_step (exact Calls.regrown_of (hq _)))
        refine wpQuiet_nil ?_
        intro w2 hw2
        have HB2 : Hid (Below wr.heap.size wr w2) := rg_below hw2
        clear hw2
        go_wp2
        go_roundw
        case rel => exact ⟨k + 1, by omega, by go_num, all_succ k hlt HA.out (by rw [HZ.out]; exact HN.out.1) (by rw [HZ.out]; exact HN.out.2), bthen HB.out HB2.out⟩
        case measure => simp [intOf]; omega
      · have hq := fun v => Calls.to_belowR (within_no z 0 (n - 1) v hz)
        have HN : Hid (¬ (0 ≤ z ∧ z ≤ n - 1)) := hz
        clear hz
        go_wp2
        refine wp_region_quiet_below (by kernel_rfl) (by kernel_rfl) ?_
        repeat (go_big_quiet_step (exact Calls.regrown_of (hq _)))
        refine wpQuiet_nil ?_
        intro w2 hw2
        have HB2 : Hid (Below wr.heap.size wr w2) := rg_below hw2
        clear hw2
        go_wp2
        go_ret
        exact ⟨ret_b (by rw [ownsB_bad k hlt (by rw [HZ.out]; exact HN.out)]), bthen (bthen (ballc _ _) HB.out) HB2.out⟩
    · have hk' : k = zs.length := by omega
      subst hk'
      clear hk hw1
      go_wp2
      go_loop [4] (fun i => ∃ j : Nat, (j : Int) ≤ n ∧ i = .int .i64 j ∧ (∀ t : Nat, t < j → (t : Int) ∈ zs)) (fun i => (n - intOf i).toNat)
      case atStart => exact ⟨0, by omega, rfl, by simp⟩
      case round =>
        obtain ⟨j, hj, rfl, hown⟩ := hrel
        have HO : Hid (∀ t : Nat, t < j → (t : Int) ∈ zs) := hown
        clear hown
        by_cases hjn : (j : Int) < n
        · go_wp2
          go_loop [5, 6] (fun h i => ∃ k : Nat, k ≤ zs.length ∧ i = .int .i64 k ∧ h = .bool (hasTo zs k j)) (fun _ i => zs.length - (intOf i).toNat)
          case atStart => exact ⟨0, Nat.zero_le _, rfl, by rw [hasTo_zero]⟩
          case round =>
            obtain ⟨k, hk, rfl, rfl⟩ := hrel
            by_cases hlt2 : k < zs.length
            · obtain ⟨a, rfl, hc, ha⟩ := (HT.out.below HB.out).lies k hlt2
              have HS := hasTo_succ k hlt2 j
              generalize hzz : zs.getD k 0 = z at hc HS
              clear hzz
              generalize hg : hasTo zs k j = hs at HS
              have HG : Hid (hasTo zs k j = hs) := hg
              clear hg
              have HS' : Hid (hasTo zs (k + 1) j = (hs || decide (z = (j : Int)))) := HS
              clear HS
              cases hs with
              | true =>
                go_wp2
                go_round
                case rel => exact ⟨k + 1, by omega, by go_num, by rw [HS'.out]; rfl⟩
                case measure => simp [intOf]; omega
              | false =>
                by_cases hzj : z = (j : Int)
                all_goals
                  go_wp2
                  go_round
                  case rel => exact ⟨k + 1, by omega, by go_num, by rw [HS'.out]; simp [hzj]⟩
                  case measure => simp [intOf]; omega
            · have hk' : k = zs.length := by omega
              subst hk'
              by_cases hh : hasTo zs zs.length j = true
              · have HJ : Hid ((j : Int) ∈ zs) := hasTo_all.1 hh
                go_wp2
                go_round
                case rel => exact ⟨j + 1, by omega, by go_num, fun t ht => by
                  by_cases e : t = j
                  · subst e; exact HJ.out
                  · exact HO.out t (by omega)⟩
                case measure => simp [intOf]; omega
              · have HJ : Hid (¬ (j : Int) ∈ zs) := fun h => hh (hasTo_all.2 h)
                have hh' : hasTo zs zs.length j = false := by simpa using hh
                clear hh
                go_wp2
                go_ret
                exact ⟨ret_b (by rw [ownsB_miss j hjn HJ.out]), bthen (ballc _ _) HB.out⟩
        · go_wp2
          go_ret
          exact ⟨ret_b (by rw [ownsB_yes (by simpa using HA.out) (fun t ht => HO.out t (by omega))]), bthen (ballc _ _) HB.out⟩
end Go.Proofs.Ytgclabboafdheab

/- The call eachOwns of package conf tells whether each owner is a node and each node owns a slot; conditions: 4 to 13 nodes. -/
namespace Go.Proofs.Ytgclabboafdheab
open Go.ChangeShapes Go.WideShapes Go.ChangeAt Go.RowKit
set_option linter.unusedVariables false

theorem hold_yes (a b x : Int) (w : World) (h1 : a ≤ x) (h2 : x ≤ b) :
    Calls Try.prog 24 #[.agg #[.int .i64 a, .int .i64 b], .int .i64 x] w fun e w' => e = .returned (.bool true) ∧ Below w.heap.size w w' :=
  (hold_any a b x w).mono fun e w' ⟨he, hb⟩ => ⟨by rw [he]; exact ret_b (decide_eq_true ⟨h1, h2⟩), hb⟩
theorem hold_no (a b x : Int) (w : World) (h : ¬ (a ≤ x ∧ x ≤ b)) :
    Calls Try.prog 24 #[.agg #[.int .i64 a, .int .i64 b], .int .i64 x] w fun e w' => e = .returned (.bool false) ∧ Below w.heap.size w w' :=
  (hold_any a b x w).mono fun e w' ⟨he, hb⟩ => ⟨by rw [he]; exact ret_b (decide_eq_false h), hb⟩

/-- The marks of a count of owners, in a block of the call's own. -/
structure Marks (w0 wl : World) (g N : Nat) (h : Nat → Bool) : Prop where
  c0 : wl.cell? ⟨g, 0, none⟩ = some (.int .i64 0)
  c1 : wl.cell? ⟨g, 1, none⟩ = some (.int .i64 ((N : Int) - 1))
  m : ∀ j, j < 13 → wl.cell? ⟨g, 2 + j, none⟩ = some (.bool (h j))
  fz : ∀ i, wl.frozen? ⟨g, i, none⟩ = false
  lt : g < wl.heap.size
  bel : Below g w0 wl
theorem Marks.start (w0 : World) (N : Nat) (t : TypeId) (h : Nat → Bool) (h0 : ∀ j, h j = false) : Marks w0 (w0.alloc (.cells #[.int .i64 0, .int .i64 ((N : Int) - 1), .bool false, .bool false, .bool false, .bool false, .bool false, .bool false, .bool false, .bool false, .bool false, .bool false, .bool false, .bool false, .bool false] t)) w0.heap.size N h where
  c0 := by rw [World.cell?_alloc_mark]; rfl
  c1 := by rw [World.cell?_alloc_mark]; rfl
  m := by
    intro j hj
    rw [World.cell?_alloc_mark, h0]
    have hj' : j = 0 ∨ j = 1 ∨ j = 2 ∨ j = 3 ∨ j = 4 ∨ j = 5 ∨ j = 6 ∨ j = 7 ∨ j = 8 ∨ j = 9 ∨ j = 10 ∨ j = 11 ∨ j = 12 := by omega
    rcases hj' with rfl | rfl | rfl | rfl | rfl | rfl | rfl | rfl | rfl | rfl | rfl | rfl | rfl <;> rfl
  fz := fun i => Joins.unfrozen_of_block (heap_alloc_new w0 _) i
  lt := by simp
  bel := ballc _ _
theorem Marks.grow {w0 wl w2 : World} {g N : Nat} {h : Nat → Bool} (k : Marks w0 wl g N h) (hb : Below wl.heap.size wl w2) : Marks w0 w2 g N h where
  c0 := by rw [hb.cell k.lt]; exact k.c0
  c1 := by rw [hb.cell k.lt]; exact k.c1
  m := fun j hj => by rw [hb.cell k.lt]; exact k.m j hj
  fz := fun i => by rw [hb.frozen k.lt]; exact k.fz i
  lt := Nat.lt_of_lt_of_le k.lt hb.size
  bel := k.bel.trans (hb.mono (Nat.le_of_lt k.lt))
theorem Marks.set {w0 wl : World} {g N : Nat} {h h' : Nat → Bool} (k : Marks w0 wl g N h) (t : Nat) (ht : t < 13) (hh : ∀ j, h' j = (h j || decide ((t : Int) = (j : Int)))) : Marks w0 (wl.setCell ⟨g, 2 + t, none⟩ (.bool true)) g N h' where
  c0 := by rw [World.cell?_setCell_other _ _ _ _ (by simp <;> omega)]; exact k.c0
  c1 := by rw [World.cell?_setCell_other _ _ _ _ (by simp <;> omega)]; exact k.c1
  m := fun j hj => by
    rw [hh]
    by_cases e : t = j
    · subst e
      rw [World.cell?_setCell_same _ _ _ (k.m t ht)]
      simp
    · rw [World.cell?_setCell_other _ _ _ _ (by simp <;> omega), k.m j hj]
      have : ¬ (t : Int) = (j : Int) := by omega
      simp [this]
  fz := fun i => by rw [World.frozen?_setCell]; exact k.fz i
  lt := by have := k.lt; simpa using this
  bel := k.bel.setCell (Nat.le_refl _) _

theorem Marks.below0 {w wl : World} {ob : Obj} {N : Nat} {h : Nat → Bool} (k : Marks (w.alloc ob) wl (w.heap.size + 1) N h) : Below (w.alloc ob).heap.size (w.alloc ob) wl := by
  have e : (w.alloc ob).heap.size = w.heap.size + 1 := by simp
  rw [e]; exact k.bel
set_option maxHeartbeats 1000000 in
theorem eachOwns_any (n f d p r dr o sl md fr : Int) (ad : Option Addr) (cap : Nat) (zs : List Int) (w : World) (hn1 : 4 ≤ n) (hn2 : n ≤ 13) (hl : zs.length ≤ 9223372036854775807) (hT : Tab w ad zs) :
    Calls Try.prog 25 #[.agg #[.int .i64 n, .int .i64 f, .int .i64 d, .int .i64 p, .int .i64 r, .int .i64 dr, .int .i64 o, .int .i64 sl, .int .i64 md, .int .i64 fr, .slice ad zs.length cap]] w fun e w' => e = .returned (.bool (ownsB n zs)) ∧ Below w.heap.size w w' := by
  obtain ⟨N, rfl⟩ : ∃ N : Nat, n = (N : Int) := ⟨n.toNat, by omega⟩
  have HT : Hid (Tab (w.alloc (.cells #[.int .i64 (N : Int), .int .i64 f, .int .i64 d, .int .i64 p, .int .i64 r, .int .i64 dr, .int .i64 o, .int .i64 sl, .int .i64 md, .int .i64 fr, .slice ad zs.length cap] 24)) ad zs) := hT.below (ballc _ _)
  clear hT
  have hM0 := Marks.start (w.alloc (.cells #[.int .i64 (N : Int), .int .i64 f, .int .i64 d, .int .i64 p, .int .i64 r, .int .i64 dr, .int .i64 o, .int .i64 sl, .int .i64 md, .int .i64 fr, .slice ad zs.length cap] 24)) N 64 (hasTo zs 0) (hasTo_zero zs)
  have hg : (w.alloc (.cells #[.int .i64 (N : Int), .int .i64 f, .int .i64 d, .int .i64 p, .int .i64 r, .int .i64 dr, .int .i64 o, .int .i64 sl, .int .i64 md, .int .i64 fr, .slice ad zs.length cap] 24)).heap.size = w.heap.size + 1 := by simp
  rw [hg] at hM0
  have HM0 : Hid _ := hM0
  clear hM0
  go_enter Try.func25, Try.ntmps25
  go_wp2
  go_loopw [16] (fun i wl => ∃ k : Nat, k ≤ zs.length ∧ i = .int .i64 k ∧ (∀ z ∈ zs.take k, 0 ≤ z ∧ z ≤ (N : Int) - 1) ∧ Marks (w.alloc (.cells #[.int .i64 (N : Int), .int .i64 f, .int .i64 d, .int .i64 p, .int .i64 r, .int .i64 dr, .int .i64 o, .int .i64 sl, .int .i64 md, .int .i64 fr, .slice ad zs.length cap] 24)) wl (w.heap.size + 1) N (hasTo zs k)) (fun i _ => zs.length - (intOf i).toNat)
  case atStart => exact ⟨0, Nat.zero_le _, rfl, by simp, HM0.out⟩
  case round =>
    obtain ⟨k, hk, rfl, hall, hM⟩ := hrel
    clear HM0
    have HA : Hid (∀ z ∈ zs.take k, 0 ≤ z ∧ z ≤ (N : Int) - 1) := hall
    have HM : Hid (Marks (w.alloc (.cells #[.int .i64 (N : Int), .int .i64 f, .int .i64 d, .int .i64 p, .int .i64 r, .int .i64 dr, .int .i64 o, .int .i64 sl, .int .i64 md, .int .i64 fr, .slice ad zs.length cap] 24)) wr (w.heap.size + 1) N (hasTo zs k)) := hM
    have hc0 := hM.c0
    have hc1 := hM.c1
    have hfz := hM.fz
    have hlt := hM.lt
    have hbox : ∀ i, wr.cell? ⟨w.heap.size, i, none⟩ = #[.int .i64 (N : Int), .int .i64 f, .int .i64 d, .int .i64 p, .int .i64 r, .int .i64 dr, .int .i64 o, .int .i64 sl, .int .i64 md, .int .i64 fr, .slice ad zs.length cap][i]? := fun i => by
      rw [hM.bel.cell (by simp)]; exact World.cell?_alloc_mark _ _ _ _ i
    have HTr : Hid (Tab wr ad zs) := HT.out.below (by rw [hg]; exact hM.bel)
    clear hall hM hg
    by_cases hlt : k < zs.length
    · obtain ⟨a, rfl, hc, ha⟩ := HTr.out.lies k hlt
      generalize hzz : zs.getD k 0 = z at hc
      have HZ : Hid (zs.getD k 0 = z) := hzz
      clear hzz
      by_cases hz : 0 ≤ z ∧ z ≤ (N : Int) - 1
      · have HN : Hid (0 ≤ z ∧ z ≤ (N : Int) - 1) := hz
        obtain ⟨t, rfl⟩ : ∃ t : Nat, z = (t : Int) := ⟨z.toNat, by omega⟩
        have ht : t < 13 := by omega
        have hq := fun v => hold_yes 0 ((N : Int) - 1) t v hz.1 hz.2
        clear hz
        go_wp2_with fail
        refine (hq _).mono ?_
        rintro e w2 ⟨rfl, hb2⟩
        have HM2 : Hid (Marks _ w2 (w.heap.size + 1) N (hasTo zs k)) := HM.out.grow hb2
        have hcm := HM2.out.m t ht
        have hfm := HM2.out.fz (2 + t)
        clear hb2
        go_wp2
        go_roundw
        case rel => exact ⟨k + 1, by omega, by go_num, all_succ k hlt HA.out (by rw [HZ.out]; exact HN.out.1) (by rw [HZ.out]; exact HN.out.2), HM2.out.set (h' := hasTo zs (k + 1)) t ht (fun j => by rw [hasTo_succ k hlt j, HZ.out])⟩
        case measure => simp [intOf]; omega
      · have hq := fun v => hold_no 0 ((N : Int) - 1) z v hz
        have HN : Hid (¬ (0 ≤ z ∧ z ≤ (N : Int) - 1)) := hz
        clear hz
        go_wp2_with (go_at_call 24; refine (hq _).mono ?_; rintro e w2 ⟨rfl, hb2⟩; have HB2 : Hid (Below wr.heap.size wr w2) := hb2; clear hb2)
        go_ret
        exact ⟨ret_b (by rw [ownsB_bad k hlt (by rw [HZ.out]; exact HN.out)]), bthen (bthen (ballc w _) (HM.out.below0)) HB2.out⟩
    · have hk' : k = zs.length := by omega
      subst hk'
      have hcm := HM.out.m
      go_wp2
      go_loop [34] (fun i => ∃ j : Nat, j ≤ N ∧ i = .int .i64 j ∧ (∀ t : Nat, t < j → (t : Int) ∈ zs)) (fun i => N - (intOf i).toNat)
      case atStart => exact ⟨0, by omega, rfl, by simp⟩
      case round =>
        obtain ⟨j, hj, rfl, hown⟩ := hrel
        have HO : Hid (∀ t : Nat, t < j → (t : Int) ∈ zs) := hown
        clear hown
        by_cases hjn : j < N
        · have hcj := hcm j (by omega)
          clear hcm
          by_cases hh : hasTo zs zs.length j = true
          · have HJ : Hid ((j : Int) ∈ zs) := hasTo_all.1 hh
            rw [hh] at hcj
            clear hh
            go_wp2
            go_round
            case rel => exact ⟨j + 1, by omega, by go_num, fun t ht => by
              by_cases e : t = j
              · subst e; exact HJ.out
              · exact HO.out t (by omega)⟩
            case measure => simp [intOf]; omega
          · have HJ : Hid (¬ (j : Int) ∈ zs) := fun h => hh (hasTo_all.2 h)
            have hh' : hasTo zs zs.length j = false := by simpa using hh
            rw [hh'] at hcj
            clear hh hh'
            go_wp2
            go_ret
            exact ⟨ret_b (by rw [ownsB_miss j (by omega) HJ.out]), bthen (ballc w _) (HM.out.below0)⟩
        · clear hcm
          go_wp2
          go_ret
          exact ⟨ret_b (by rw [ownsB_yes (by simpa using HA.out) (fun t ht => HO.out t (by omega))]), bthen (ballc w _) (HM.out.below0)⟩
end Go.Proofs.Ytgclabboafdheab

/- The call Plain of package conf returns the number of the first rule that a configuration breaks, else 0; conditions: the table's length fits int. -/
namespace Go.Proofs.Ytgclabboafdheab
open Go.ChangeShapes Go.WideShapes Go.ChangeAt Go.RowKit
set_option linter.unusedVariables false

def plainE (n f d p r dr o sl md fr : Int) (zs : List Int) : Int :=
  if ¬ (4 ≤ n ∧ n ≤ 13) then 7 else if ¬ (0 ≤ f ∧ f ≤ 4) then 7 else if ¬ (3 * f + 1 ≤ n) then 7 else if ¬ (1 ≤ d ∧ d ≤ 4) then 10 else
  if ¬ (6 * ((f + 1) * d) + 1 ≤ p ∧ p ≤ 400) then 8 else if ¬ (1 ≤ r ∧ r ≤ 64) then 8 else if ¬ (0 ≤ dr ∧ dr ≤ r - 1) then 8 else if ¬ (0 ≤ o ∧ o ≤ 30000) then 8 else
  if ¬ (1 ≤ sl ∧ sl ≤ 30000) then 8 else if ¬ (2 ≤ md ∧ md ≤ 250) then 8 else if ¬ (1 ≤ fr ∧ fr ≤ 100) then 8 else if ¬ (1 ≤ (zs.length : Int) ∧ (zs.length : Int) ≤ 32) then 11 else
  if ownsB n zs = true then 0 else 11

theorem pl_0 {n f d p r dr o sl md fr : Int} {zs : List Int}  (c0 : ¬ (4 ≤ n ∧ n ≤ 13)) : plainE n f d p r dr o sl md fr zs = 7 := by
  unfold plainE
  exact if_pos c0
theorem pl_1 {n f d p r dr o sl md fr : Int} {zs : List Int} (c0 : 4 ≤ n ∧ n ≤ 13) (c1 : ¬ (0 ≤ f ∧ f ≤ 4)) : plainE n f d p r dr o sl md fr zs = 7 := by
  unfold plainE
  exact (if_neg (not_not_intro c0)).trans (if_pos c1)
theorem pl_2 {n f d p r dr o sl md fr : Int} {zs : List Int} (c0 : 4 ≤ n ∧ n ≤ 13) (c1 : 0 ≤ f ∧ f ≤ 4) (c2 : ¬ (3 * f + 1 ≤ n)) : plainE n f d p r dr o sl md fr zs = 7 := by
  unfold plainE
  exact (if_neg (not_not_intro c0)).trans ((if_neg (not_not_intro c1)).trans (if_pos c2))
theorem pl_3 {n f d p r dr o sl md fr : Int} {zs : List Int} (c0 : 4 ≤ n ∧ n ≤ 13) (c1 : 0 ≤ f ∧ f ≤ 4) (c2 : 3 * f + 1 ≤ n) (c3 : ¬ (1 ≤ d ∧ d ≤ 4)) : plainE n f d p r dr o sl md fr zs = 10 := by
  unfold plainE
  exact (if_neg (not_not_intro c0)).trans ((if_neg (not_not_intro c1)).trans ((if_neg (not_not_intro c2)).trans (if_pos c3)))
theorem pl_4 {n f d p r dr o sl md fr : Int} {zs : List Int} (c0 : 4 ≤ n ∧ n ≤ 13) (c1 : 0 ≤ f ∧ f ≤ 4) (c2 : 3 * f + 1 ≤ n) (c3 : 1 ≤ d ∧ d ≤ 4) (c4 : ¬ (6 * ((f + 1) * d) + 1 ≤ p ∧ p ≤ 400)) : plainE n f d p r dr o sl md fr zs = 8 := by
  unfold plainE
  exact (if_neg (not_not_intro c0)).trans ((if_neg (not_not_intro c1)).trans ((if_neg (not_not_intro c2)).trans ((if_neg (not_not_intro c3)).trans (if_pos c4))))
theorem pl_5 {n f d p r dr o sl md fr : Int} {zs : List Int} (c0 : 4 ≤ n ∧ n ≤ 13) (c1 : 0 ≤ f ∧ f ≤ 4) (c2 : 3 * f + 1 ≤ n) (c3 : 1 ≤ d ∧ d ≤ 4) (c4 : 6 * ((f + 1) * d) + 1 ≤ p ∧ p ≤ 400) (c5 : ¬ (1 ≤ r ∧ r ≤ 64)) : plainE n f d p r dr o sl md fr zs = 8 := by
  unfold plainE
  exact (if_neg (not_not_intro c0)).trans ((if_neg (not_not_intro c1)).trans ((if_neg (not_not_intro c2)).trans ((if_neg (not_not_intro c3)).trans ((if_neg (not_not_intro c4)).trans (if_pos c5)))))
theorem pl_6 {n f d p r dr o sl md fr : Int} {zs : List Int} (c0 : 4 ≤ n ∧ n ≤ 13) (c1 : 0 ≤ f ∧ f ≤ 4) (c2 : 3 * f + 1 ≤ n) (c3 : 1 ≤ d ∧ d ≤ 4) (c4 : 6 * ((f + 1) * d) + 1 ≤ p ∧ p ≤ 400) (c5 : 1 ≤ r ∧ r ≤ 64) (c6 : ¬ (0 ≤ dr ∧ dr ≤ r - 1)) : plainE n f d p r dr o sl md fr zs = 8 := by
  unfold plainE
  exact (if_neg (not_not_intro c0)).trans ((if_neg (not_not_intro c1)).trans ((if_neg (not_not_intro c2)).trans ((if_neg (not_not_intro c3)).trans ((if_neg (not_not_intro c4)).trans ((if_neg (not_not_intro c5)).trans (if_pos c6))))))
theorem pl_7 {n f d p r dr o sl md fr : Int} {zs : List Int} (c0 : 4 ≤ n ∧ n ≤ 13) (c1 : 0 ≤ f ∧ f ≤ 4) (c2 : 3 * f + 1 ≤ n) (c3 : 1 ≤ d ∧ d ≤ 4) (c4 : 6 * ((f + 1) * d) + 1 ≤ p ∧ p ≤ 400) (c5 : 1 ≤ r ∧ r ≤ 64) (c6 : 0 ≤ dr ∧ dr ≤ r - 1) (c7 : ¬ (0 ≤ o ∧ o ≤ 30000)) : plainE n f d p r dr o sl md fr zs = 8 := by
  unfold plainE
  exact (if_neg (not_not_intro c0)).trans ((if_neg (not_not_intro c1)).trans ((if_neg (not_not_intro c2)).trans ((if_neg (not_not_intro c3)).trans ((if_neg (not_not_intro c4)).trans ((if_neg (not_not_intro c5)).trans ((if_neg (not_not_intro c6)).trans (if_pos c7)))))))
theorem pl_8 {n f d p r dr o sl md fr : Int} {zs : List Int} (c0 : 4 ≤ n ∧ n ≤ 13) (c1 : 0 ≤ f ∧ f ≤ 4) (c2 : 3 * f + 1 ≤ n) (c3 : 1 ≤ d ∧ d ≤ 4) (c4 : 6 * ((f + 1) * d) + 1 ≤ p ∧ p ≤ 400) (c5 : 1 ≤ r ∧ r ≤ 64) (c6 : 0 ≤ dr ∧ dr ≤ r - 1) (c7 : 0 ≤ o ∧ o ≤ 30000) (c8 : ¬ (1 ≤ sl ∧ sl ≤ 30000)) : plainE n f d p r dr o sl md fr zs = 8 := by
  unfold plainE
  exact (if_neg (not_not_intro c0)).trans ((if_neg (not_not_intro c1)).trans ((if_neg (not_not_intro c2)).trans ((if_neg (not_not_intro c3)).trans ((if_neg (not_not_intro c4)).trans ((if_neg (not_not_intro c5)).trans ((if_neg (not_not_intro c6)).trans ((if_neg (not_not_intro c7)).trans (if_pos c8))))))))
theorem pl_9 {n f d p r dr o sl md fr : Int} {zs : List Int} (c0 : 4 ≤ n ∧ n ≤ 13) (c1 : 0 ≤ f ∧ f ≤ 4) (c2 : 3 * f + 1 ≤ n) (c3 : 1 ≤ d ∧ d ≤ 4) (c4 : 6 * ((f + 1) * d) + 1 ≤ p ∧ p ≤ 400) (c5 : 1 ≤ r ∧ r ≤ 64) (c6 : 0 ≤ dr ∧ dr ≤ r - 1) (c7 : 0 ≤ o ∧ o ≤ 30000) (c8 : 1 ≤ sl ∧ sl ≤ 30000) (c9 : ¬ (2 ≤ md ∧ md ≤ 250)) : plainE n f d p r dr o sl md fr zs = 8 := by
  unfold plainE
  exact (if_neg (not_not_intro c0)).trans ((if_neg (not_not_intro c1)).trans ((if_neg (not_not_intro c2)).trans ((if_neg (not_not_intro c3)).trans ((if_neg (not_not_intro c4)).trans ((if_neg (not_not_intro c5)).trans ((if_neg (not_not_intro c6)).trans ((if_neg (not_not_intro c7)).trans ((if_neg (not_not_intro c8)).trans (if_pos c9)))))))))
theorem pl_10 {n f d p r dr o sl md fr : Int} {zs : List Int} (c0 : 4 ≤ n ∧ n ≤ 13) (c1 : 0 ≤ f ∧ f ≤ 4) (c2 : 3 * f + 1 ≤ n) (c3 : 1 ≤ d ∧ d ≤ 4) (c4 : 6 * ((f + 1) * d) + 1 ≤ p ∧ p ≤ 400) (c5 : 1 ≤ r ∧ r ≤ 64) (c6 : 0 ≤ dr ∧ dr ≤ r - 1) (c7 : 0 ≤ o ∧ o ≤ 30000) (c8 : 1 ≤ sl ∧ sl ≤ 30000) (c9 : 2 ≤ md ∧ md ≤ 250) (c10 : ¬ (1 ≤ fr ∧ fr ≤ 100)) : plainE n f d p r dr o sl md fr zs = 8 := by
  unfold plainE
  exact (if_neg (not_not_intro c0)).trans ((if_neg (not_not_intro c1)).trans ((if_neg (not_not_intro c2)).trans ((if_neg (not_not_intro c3)).trans ((if_neg (not_not_intro c4)).trans ((if_neg (not_not_intro c5)).trans ((if_neg (not_not_intro c6)).trans ((if_neg (not_not_intro c7)).trans ((if_neg (not_not_intro c8)).trans ((if_neg (not_not_intro c9)).trans (if_pos c10))))))))))
theorem pl_11 {n f d p r dr o sl md fr : Int} {zs : List Int} (c0 : 4 ≤ n ∧ n ≤ 13) (c1 : 0 ≤ f ∧ f ≤ 4) (c2 : 3 * f + 1 ≤ n) (c3 : 1 ≤ d ∧ d ≤ 4) (c4 : 6 * ((f + 1) * d) + 1 ≤ p ∧ p ≤ 400) (c5 : 1 ≤ r ∧ r ≤ 64) (c6 : 0 ≤ dr ∧ dr ≤ r - 1) (c7 : 0 ≤ o ∧ o ≤ 30000) (c8 : 1 ≤ sl ∧ sl ≤ 30000) (c9 : 2 ≤ md ∧ md ≤ 250) (c10 : 1 ≤ fr ∧ fr ≤ 100) (c11 : ¬ (1 ≤ (zs.length : Int) ∧ (zs.length : Int) ≤ 32)) : plainE n f d p r dr o sl md fr zs = 11 := by
  unfold plainE
  exact (if_neg (not_not_intro c0)).trans ((if_neg (not_not_intro c1)).trans ((if_neg (not_not_intro c2)).trans ((if_neg (not_not_intro c3)).trans ((if_neg (not_not_intro c4)).trans ((if_neg (not_not_intro c5)).trans ((if_neg (not_not_intro c6)).trans ((if_neg (not_not_intro c7)).trans ((if_neg (not_not_intro c8)).trans ((if_neg (not_not_intro c9)).trans ((if_neg (not_not_intro c10)).trans (if_pos c11)))))))))))
theorem pl_12 {n f d p r dr o sl md fr : Int} {zs : List Int} (c0 : 4 ≤ n ∧ n ≤ 13) (c1 : 0 ≤ f ∧ f ≤ 4) (c2 : 3 * f + 1 ≤ n) (c3 : 1 ≤ d ∧ d ≤ 4) (c4 : 6 * ((f + 1) * d) + 1 ≤ p ∧ p ≤ 400) (c5 : 1 ≤ r ∧ r ≤ 64) (c6 : 0 ≤ dr ∧ dr ≤ r - 1) (c7 : 0 ≤ o ∧ o ≤ 30000) (c8 : 1 ≤ sl ∧ sl ≤ 30000) (c9 : 2 ≤ md ∧ md ≤ 250) (c10 : 1 ≤ fr ∧ fr ≤ 100) (c11 : 1 ≤ (zs.length : Int) ∧ (zs.length : Int) ≤ 32) : plainE n f d p r dr o sl md fr zs = if ownsB n zs = true then 0 else 11 := by
  unfold plainE
  exact (if_neg (not_not_intro c0)).trans ((if_neg (not_not_intro c1)).trans ((if_neg (not_not_intro c2)).trans ((if_neg (not_not_intro c3)).trans ((if_neg (not_not_intro c4)).trans ((if_neg (not_not_intro c5)).trans ((if_neg (not_not_intro c6)).trans ((if_neg (not_not_intro c7)).trans ((if_neg (not_not_intro c8)).trans ((if_neg (not_not_intro c9)).trans ((if_neg (not_not_intro c10)).trans ((if_neg (not_not_intro c11)).trans (rfl))))))))))))

/-- Rule k holds. -/
def okR (n f d p r dr o sl md fr ln : Int) (k : Nat) : Prop := ruA f d k ≤ ruC n f d p r dr o sl md fr ln k ∧ ruC n f d p r dr o sl md fr ln k ≤ ruB r k

theorem okR_2 {n f d p r dr o sl md fr ln : Int} (h1 : 0 ≤ f) (h2 : f ≤ 4) : okR n f d p r dr o sl md fr ln 2 ↔ 3 * f + 1 ≤ n ∧ n ≤ 13 := by
  unfold okR
  simp only [ruA, ruB, ruC]
  rw [IntWalk.i64_in (3 * f) (by omega), IntWalk.i64_in (3 * f + 1) (by omega)]
theorem okR_4 {n f d p r dr o sl md fr ln : Int} (h1 : 0 ≤ f) (h2 : f ≤ 4) (h3 : 1 ≤ d) (h4 : d ≤ 4) : okR n f d p r dr o sl md fr ln 4 ↔ 6 * ((f + 1) * d) + 1 ≤ p ∧ p ≤ 400 := by
  have hq0 : 0 ≤ (f + 1) * d := Int.mul_nonneg (by omega) (by omega)
  have hq1 : (f + 1) * d ≤ 5 * 4 := Int.mul_le_mul (by omega) h4 (by omega) (by omega)
  have e : lengthW f d = 3 * ((f + 1) * d) := by rw [lengthW_eq h1 h2 h3 h4, Int.mul_assoc]
  unfold okR
  simp only [ruA, ruB, ruC]
  rw [e, IntWalk.i64_in (2 * (3 * ((f + 1) * d))) (by omega), IntWalk.i64_in (2 * (3 * ((f + 1) * d)) + 1) (by omega)]
  constructor <;> intro h <;> omega
theorem okR_6 {n f d p r dr o sl md fr ln : Int} (h1 : 1 ≤ r) (h2 : r ≤ 64) : okR n f d p r dr o sl md fr ln 6 ↔ 0 ≤ dr ∧ dr ≤ r - 1 := by
  unfold okR
  simp only [ruA, ruB, ruC]
  rw [IntWalk.i64_in (r - 1) (by omega)]

/-- What the first k rules say. -/
theorem okR_all {n f d p r dr o sl md fr ln : Int} (k : Nat) (h : ∀ j, j < k → okR n f d p r dr o sl md fr ln j) :
    (0 < k → 4 ≤ n ∧ n ≤ 13) ∧ (1 < k → 0 ≤ f ∧ f ≤ 4) ∧ (2 < k → 3 * f + 1 ≤ n) ∧ (3 < k → 1 ≤ d ∧ d ≤ 4) ∧ (4 < k → 6 * ((f + 1) * d) + 1 ≤ p ∧ p ≤ 400) ∧ (5 < k → 1 ≤ r ∧ r ≤ 64) ∧ (6 < k → 0 ≤ dr ∧ dr ≤ r - 1) ∧
    (7 < k → 0 ≤ o ∧ o ≤ 30000) ∧ (8 < k → 1 ≤ sl ∧ sl ≤ 30000) ∧ (9 < k → 2 ≤ md ∧ md ≤ 250) ∧ (10 < k → 1 ≤ fr ∧ fr ≤ 100) ∧ (11 < k → 1 ≤ ln ∧ ln ≤ 32) := by
  have h1 : 1 < k → 0 ≤ f ∧ f ≤ 4 := fun hk => h 1 hk
  have h3 : 3 < k → 1 ≤ d ∧ d ≤ 4 := fun hk => h 3 hk
  have h5 : 5 < k → 1 ≤ r ∧ r ≤ 64 := fun hk => h 5 hk
  refine ⟨fun hk => h 0 hk, h1, fun hk => ((okR_2 (h1 (by omega)).1 (h1 (by omega)).2).1 (h 2 hk)).1, h3, fun hk => (okR_4 (h1 (by omega)).1 (h1 (by omega)).2 (h3 (by omega)).1 (h3 (by omega)).2).1 (h 4 hk), h5,
    fun hk => (okR_6 (h5 (by omega)).1 (h5 (by omega)).2).1 (h 6 hk), fun hk => h 7 hk, fun hk => h 8 hk, fun hk => h 9 hk, fun hk => h 10 hk, fun hk => h 11 hk⟩

theorem plain_fail {n f d p r dr o sl md fr : Int} {zs : List Int} (k : Nat) (hk : k < 12) (h : ∀ j, j < k → okR n f d p r dr o sl md fr zs.length j) (hn : ¬ okR n f d p r dr o sl md fr zs.length k) :
    plainE n f d p r dr o sl md fr zs = ruE k := by
  obtain ⟨g0, g1, g2, g3, g4, g5, g6, g7, g8, g9, g10, g11⟩ := okR_all k h
  clear h
  have hk' : k = 0 ∨ k = 1 ∨ k = 2 ∨ k = 3 ∨ k = 4 ∨ k = 5 ∨ k = 6 ∨ k = 7 ∨ k = 8 ∨ k = 9 ∨ k = 10 ∨ k = 11 := by clear hn g0 g1 g2 g3 g4 g5 g6 g7 g8 g9 g10 g11; omega
  unfold plainE
  rcases hk' with rfl | rfl | rfl | rfl | rfl | rfl | rfl | rfl | rfl | rfl | rfl | rfl
  · exact if_pos (hn)
  · exact (if_neg (not_not_intro (g0 (by decide)))).trans (if_pos (hn))
  · exact (if_neg (not_not_intro (g0 (by decide)))).trans ((if_neg (not_not_intro (g1 (by decide)))).trans (if_pos (fun c => hn ((okR_2 (g1 (by decide)).1 (g1 (by decide)).2).2 ⟨c, (g0 (by decide)).2⟩))))
  · exact (if_neg (not_not_intro (g0 (by decide)))).trans ((if_neg (not_not_intro (g1 (by decide)))).trans ((if_neg (not_not_intro (g2 (by decide)))).trans (if_pos (hn))))
  · exact (if_neg (not_not_intro (g0 (by decide)))).trans ((if_neg (not_not_intro (g1 (by decide)))).trans ((if_neg (not_not_intro (g2 (by decide)))).trans ((if_neg (not_not_intro (g3 (by decide)))).trans (if_pos (fun c => hn ((okR_4 (g1 (by decide)).1 (g1 (by decide)).2 (g3 (by decide)).1 (g3 (by decide)).2).2 c))))))
  · exact (if_neg (not_not_intro (g0 (by decide)))).trans ((if_neg (not_not_intro (g1 (by decide)))).trans ((if_neg (not_not_intro (g2 (by decide)))).trans ((if_neg (not_not_intro (g3 (by decide)))).trans ((if_neg (not_not_intro (g4 (by decide)))).trans (if_pos (hn))))))
  · exact (if_neg (not_not_intro (g0 (by decide)))).trans ((if_neg (not_not_intro (g1 (by decide)))).trans ((if_neg (not_not_intro (g2 (by decide)))).trans ((if_neg (not_not_intro (g3 (by decide)))).trans ((if_neg (not_not_intro (g4 (by decide)))).trans ((if_neg (not_not_intro (g5 (by decide)))).trans (if_pos (fun c => hn ((okR_6 (g5 (by decide)).1 (g5 (by decide)).2).2 c))))))))
  · exact (if_neg (not_not_intro (g0 (by decide)))).trans ((if_neg (not_not_intro (g1 (by decide)))).trans ((if_neg (not_not_intro (g2 (by decide)))).trans ((if_neg (not_not_intro (g3 (by decide)))).trans ((if_neg (not_not_intro (g4 (by decide)))).trans ((if_neg (not_not_intro (g5 (by decide)))).trans ((if_neg (not_not_intro (g6 (by decide)))).trans (if_pos (hn))))))))
  · exact (if_neg (not_not_intro (g0 (by decide)))).trans ((if_neg (not_not_intro (g1 (by decide)))).trans ((if_neg (not_not_intro (g2 (by decide)))).trans ((if_neg (not_not_intro (g3 (by decide)))).trans ((if_neg (not_not_intro (g4 (by decide)))).trans ((if_neg (not_not_intro (g5 (by decide)))).trans ((if_neg (not_not_intro (g6 (by decide)))).trans ((if_neg (not_not_intro (g7 (by decide)))).trans (if_pos (hn)))))))))
  · exact (if_neg (not_not_intro (g0 (by decide)))).trans ((if_neg (not_not_intro (g1 (by decide)))).trans ((if_neg (not_not_intro (g2 (by decide)))).trans ((if_neg (not_not_intro (g3 (by decide)))).trans ((if_neg (not_not_intro (g4 (by decide)))).trans ((if_neg (not_not_intro (g5 (by decide)))).trans ((if_neg (not_not_intro (g6 (by decide)))).trans ((if_neg (not_not_intro (g7 (by decide)))).trans ((if_neg (not_not_intro (g8 (by decide)))).trans (if_pos (hn))))))))))
  · exact (if_neg (not_not_intro (g0 (by decide)))).trans ((if_neg (not_not_intro (g1 (by decide)))).trans ((if_neg (not_not_intro (g2 (by decide)))).trans ((if_neg (not_not_intro (g3 (by decide)))).trans ((if_neg (not_not_intro (g4 (by decide)))).trans ((if_neg (not_not_intro (g5 (by decide)))).trans ((if_neg (not_not_intro (g6 (by decide)))).trans ((if_neg (not_not_intro (g7 (by decide)))).trans ((if_neg (not_not_intro (g8 (by decide)))).trans ((if_neg (not_not_intro (g9 (by decide)))).trans (if_pos (hn)))))))))))
  · exact (if_neg (not_not_intro (g0 (by decide)))).trans ((if_neg (not_not_intro (g1 (by decide)))).trans ((if_neg (not_not_intro (g2 (by decide)))).trans ((if_neg (not_not_intro (g3 (by decide)))).trans ((if_neg (not_not_intro (g4 (by decide)))).trans ((if_neg (not_not_intro (g5 (by decide)))).trans ((if_neg (not_not_intro (g6 (by decide)))).trans ((if_neg (not_not_intro (g7 (by decide)))).trans ((if_neg (not_not_intro (g8 (by decide)))).trans ((if_neg (not_not_intro (g9 (by decide)))).trans ((if_neg (not_not_intro (g10 (by decide)))).trans (if_pos (hn))))))))))))
theorem plain_end {n f d p r dr o sl md fr : Int} {zs : List Int} (h : ∀ j, j < 12 → okR n f d p r dr o sl md fr zs.length j) :
    plainE n f d p r dr o sl md fr zs = if ownsB n zs = true then 0 else 11 := by
  obtain ⟨g0, g1, g2, g3, g4, g5, g6, g7, g8, g9, g10, g11⟩ := okR_all 12 h
  unfold plainE
  exact (if_neg (not_not_intro (g0 (by decide)))).trans ((if_neg (not_not_intro (g1 (by decide)))).trans ((if_neg (not_not_intro (g2 (by decide)))).trans ((if_neg (not_not_intro (g3 (by decide)))).trans ((if_neg (not_not_intro (g4 (by decide)))).trans ((if_neg (not_not_intro (g5 (by decide)))).trans ((if_neg (not_not_intro (g6 (by decide)))).trans ((if_neg (not_not_intro (g7 (by decide)))).trans ((if_neg (not_not_intro (g8 (by decide)))).trans ((if_neg (not_not_intro (g9 (by decide)))).trans ((if_neg (not_not_intro (g10 (by decide)))).trans ((if_neg (not_not_intro (g11 (by decide)))).trans (rfl))))))))))))
/-- What is plain, number by number. -/
theorem plainE_ok {n f d p r dr o sl md fr : Int} {zs : List Int} (h : plainE n f d p r dr o sl md fr zs = 0) :
    4 ≤ n ∧ n ≤ 13 ∧ 0 ≤ f ∧ f ≤ 4 ∧ 3 * f + 1 ≤ n ∧ 1 ≤ d ∧ d ≤ 4 ∧ 6 * ((f + 1) * d) + 1 ≤ p ∧ p ≤ 400 ∧ 1 ≤ r ∧ r ≤ 64 ∧ 0 ≤ dr ∧ dr ≤ r - 1 ∧ 0 ≤ o ∧ o ≤ 30000 ∧ 1 ≤ sl ∧ sl ≤ 30000 ∧ 2 ≤ md ∧ md ≤ 250 ∧ 1 ≤ fr ∧ fr ≤ 100 ∧ 1 ≤ zs.length ∧ zs.length ≤ 32 ∧ ownsB n zs = true := by
  unfold plainE at h
  by_cases c0 : 4 ≤ n ∧ n ≤ 13
  case neg => rw [if_pos c0] at h; exact absurd h (by decide)
  rw [if_neg (not_not_intro c0)] at h
  by_cases c1 : 0 ≤ f ∧ f ≤ 4
  case neg => rw [if_pos c1] at h; exact absurd h (by decide)
  rw [if_neg (not_not_intro c1)] at h
  by_cases c2 : 3 * f + 1 ≤ n
  case neg => rw [if_pos c2] at h; exact absurd h (by decide)
  rw [if_neg (not_not_intro c2)] at h
  by_cases c3 : 1 ≤ d ∧ d ≤ 4
  case neg => rw [if_pos c3] at h; exact absurd h (by decide)
  rw [if_neg (not_not_intro c3)] at h
  by_cases c4 : 6 * ((f + 1) * d) + 1 ≤ p ∧ p ≤ 400
  case neg => rw [if_pos c4] at h; exact absurd h (by decide)
  rw [if_neg (not_not_intro c4)] at h
  by_cases c5 : 1 ≤ r ∧ r ≤ 64
  case neg => rw [if_pos c5] at h; exact absurd h (by decide)
  rw [if_neg (not_not_intro c5)] at h
  by_cases c6 : 0 ≤ dr ∧ dr ≤ r - 1
  case neg => rw [if_pos c6] at h; exact absurd h (by decide)
  rw [if_neg (not_not_intro c6)] at h
  by_cases c7 : 0 ≤ o ∧ o ≤ 30000
  case neg => rw [if_pos c7] at h; exact absurd h (by decide)
  rw [if_neg (not_not_intro c7)] at h
  by_cases c8 : 1 ≤ sl ∧ sl ≤ 30000
  case neg => rw [if_pos c8] at h; exact absurd h (by decide)
  rw [if_neg (not_not_intro c8)] at h
  by_cases c9 : 2 ≤ md ∧ md ≤ 250
  case neg => rw [if_pos c9] at h; exact absurd h (by decide)
  rw [if_neg (not_not_intro c9)] at h
  by_cases c10 : 1 ≤ fr ∧ fr ≤ 100
  case neg => rw [if_pos c10] at h; exact absurd h (by decide)
  rw [if_neg (not_not_intro c10)] at h
  by_cases c11 : 1 ≤ (zs.length : Int) ∧ (zs.length : Int) ≤ 32
  case neg => rw [if_pos c11] at h; exact absurd h (by decide)
  rw [if_neg (not_not_intro c11)] at h
  by_cases c12 : ownsB n zs = true
  case neg => rw [if_neg c12] at h; exact absurd h (by decide)
  exact ⟨c0.1, c0.2, c1.1, c1.2, c2, c3.1, c3.2, c4.1, c4.2, c5.1, c5.2, c6.1, c6.2, c7.1, c7.2, c8.1, c8.2, c9.1, c9.2, c10.1, c10.2, by omega, by omega, c12⟩
end Go.Proofs.Ytgclabboafdheab

/- The call Plain of package conf returns the number of the first rule that a configuration breaks, else 0, and makes at most new memory; conditions: the table lies where it says, and its length fits int. -/
namespace Go.Proofs.Ytgclabboafdheab
open Go.ChangeShapes Go.WideShapes Go.ChangeAt Go.RowKit
set_option linter.unusedVariables false

set_option maxHeartbeats 1000000 in
theorem plain_any (n f d p r dr o sl md fr : Int) (ad : Option Addr) (cap : Nat) (zs : List Int) (w : World) (hl : zs.length ≤ 9223372036854775807) (hT : Tab w ad zs) :
    Calls Try.prog 20 #[.agg #[.int .i64 n, .int .i64 f, .int .i64 d, .int .i64 p, .int .i64 r, .int .i64 dr, .int .i64 o, .int .i64 sl, .int .i64 md, .int .i64 fr, .slice ad zs.length cap]] w fun e w' => e = .returned (.int .i64 (plainE n f d p r dr o sl md fr zs)) ∧ Below w.heap.size w w' := by
  have HT : Hid (Tab (w.alloc (.cells #[.int .i64 n, .int .i64 f, .int .i64 d, .int .i64 p, .int .i64 r, .int .i64 dr, .int .i64 o, .int .i64 sl, .int .i64 md, .int .i64 fr, .slice ad zs.length cap] 24)) ad zs) := hT.below (ballc _ _)
  clear hT
  go_enter Try.func20, Try.ntmps20
  go_wp2_with fail
  refine (rules_any n f d p r dr o sl md fr ad cap zs _).mono ?_
  rintro e w1 ⟨g, rfl, hg1, hg2, hcells, hb1⟩
  have HB1 : Hid (Below (w.alloc (.cells #[.int .i64 n, .int .i64 f, .int .i64 d, .int .i64 p, .int .i64 r, .int .i64 dr, .int .i64 o, .int .i64 sl, .int .i64 md, .int .i64 fr, .slice ad zs.length cap] 24)).heap.size (w.alloc (.cells #[.int .i64 n, .int .i64 f, .int .i64 d, .int .i64 p, .int .i64 r, .int .i64 dr, .int .i64 o, .int .i64 sl, .int .i64 md, .int .i64 fr, .slice ad zs.length cap] 24)) w1) := hb1
  have HC : Hid (∀ k, k < 12 → w1.cell? ⟨g, k * 4, none⟩ = some (.int .i64 (ruA f d k)) ∧ w1.cell? ⟨g, k * 4 + 1, none⟩ = some (.int .i64 (ruB r k)) ∧ w1.cell? ⟨g, k * 4 + 2, none⟩ = some (.int .i64 (ruC n f d p r dr o sl md fr zs.length k)) ∧ w1.cell? ⟨g, k * 4 + 3, none⟩ = some (.int .i64 (ruE k))) := hcells
  have HG2 : Hid (g < w1.heap.size) := hg2
  clear hb1 hcells hg1 hg2
  go_wp2
  go_loopw [8] (fun i wl => ∃ k : Nat, k ≤ 12 ∧ i = .int .i64 k ∧ (∀ j, j < k → okR n f d p r dr o sl md fr zs.length j) ∧ Below w1.heap.size w1 wl) (fun i _ => 12 - (intOf i).toNat)
  case atStart => exact ⟨0, Nat.zero_le _, rfl, fun j hj => absurd hj (Nat.not_lt_zero _), Below.refl _ _⟩
  case round =>
    obtain ⟨k, hk, rfl, hok, hb⟩ := hrel
    have HO : Hid (∀ j, j < k → okR n f d p r dr o sl md fr zs.length j) := hok
    have HB : Hid (Below w1.heap.size w1 wr) := hb
    clear hok hb
    by_cases hlt : k < 12
    · obtain ⟨e0, e1, e2, e3⟩ := HC.out k hlt
      rw [← HB.out.cell HG2.out] at e0 e1 e2 e3
      have hgr : g < wr.heap.size := Nat.lt_of_lt_of_le HG2.out HB.out.size
      have hgn : ¬ g = wr.heap.size := by omega
      by_cases ho : okR n f d p r dr o sl md fr zs.length k
      · have hq := fun v => hold_yes (ruA f d k) (ruB r k) (ruC n f d p r dr o sl md fr zs.length k) v ho.1 ho.2
        have HK : Hid (okR n f d p r dr o sl md fr zs.length k) := ho
        clear ho
        generalize ruA f d k = A at *
        generalize ruB r k = B at *
        generalize ruC n f d p r dr o sl md fr zs.length k = C at *
        go_wp2_with fail
        refine (hq _).mono ?_
        rintro e w2 ⟨rfl, hb2⟩
        have HB2 : Hid (Below wr.heap.size wr w2) := bthen (ballc _ _) hb2
        clear hb2 e0 e1 e2 e3
        go_wp2
        go_roundw
        case rel => exact ⟨k + 1, by omega, by go_num, fun j hj => by
          by_cases e : j = k
          · subst e; exact HK.out
          · exact HO.out j (by omega), bthen HB.out HB2.out⟩
        case measure => simp [intOf]; omega
      · have hq := fun v => hold_no (ruA f d k) (ruB r k) (ruC n f d p r dr o sl md fr zs.length k) v ho
        have HK : Hid (¬ okR n f d p r dr o sl md fr zs.length k) := ho
        clear ho
        generalize ruA f d k = A at *
        generalize ruB r k = B at *
        generalize ruC n f d p r dr o sl md fr zs.length k = C at *
        generalize hE : ruE k = E at *
        have HE : Hid (ruE k = E) := hE
        clear hE
        go_wp2_with fail
        refine (hq _).mono ?_
        rintro e w2 ⟨rfl, hb2⟩
        have HB2 : Hid (Below wr.heap.size wr w2) := bthen (ballc _ _) hb2
        obtain ⟨hbox2, hs2⟩ := box_at hb2
        clear hb2 e0 e1 e2 e3
        go_wp2
        go_ret
        exact ⟨ret_i (by rw [plain_fail k hlt HO.out HK.out]; exact HE.out.symm), bthen (bthen (ballc w _) HB1.out) (bthen HB.out HB2.out)⟩
    · have hk' : k = 12 := by omega
      subst hk'
      obtain ⟨hbox, hsz⟩ := box_at (bthen HB1.out HB.out)
      have hall := okR_all 12 HO.out
      have hq := fun v hT => eachOwns_any n f d p r dr o sl md fr ad cap zs v (hall.1 (by decide)).1 (hall.1 (by decide)).2 hl hT
      have HQ : Hid (Calls Try.prog 25 #[.agg #[.int .i64 n, .int .i64 f, .int .i64 d, .int .i64 p, .int .i64 r, .int .i64 dr, .int .i64 o, .int .i64 sl, .int .i64 md, .int .i64 fr, .slice ad zs.length cap]] wr fun e w' => e = .returned (.bool (ownsB n zs)) ∧ Below wr.heap.size wr w') := hq wr (HT.out.below (bthen HB1.out HB.out))
      clear hq hall
      have HP := plain_end HO.out
      generalize hob : ownsB n zs = ob at HP HQ
      clear hob
      cases ob
      all_goals
        have HP' : Hid (plainE n f d p r dr o sl md fr zs = _) := HP
        clear HP
        go_wp2_with fail
        refine HQ.out.mono ?_
        rintro e w2 ⟨rfl, hb2⟩
        have HB2 : Hid (Below wr.heap.size wr w2) := hb2
        clear hb2
        go_wp2
        go_ret
        exact ⟨ret_i (by rw [HP'.out]; rfl), bthen (bthen (ballc w _) HB1.out) (bthen HB.out HB2.out)⟩
end Go.Proofs.Ytgclabboafdheab

/- Plain words on worlds that are made of another one by laying new blocks: what lay there stays, and new blocks are where they were laid; no conditions. -/
namespace Go.Proofs.Ytgclabboafdheab
open Go.ChangeShapes Go.WideShapes Go.ChangeAt Go.RowKit
set_option linter.unusedVariables false

/-- A world that is another one with new blocks at its end. -/
def Chn (n : Nat) (w w' : World) : Prop := Below n w w' ∧ n ≤ w'.heap.size
theorem Chn.refl {n : Nat} {w : World} (h : n ≤ w.heap.size) : Chn n w w := ⟨Below.refl _ _, h⟩
theorem Chn.alloc {n : Nat} {w w' : World} (h : Chn n w w') (o : Obj) : Chn n w (w'.alloc o) := ⟨h.1.alloc h.2 o, by rw [World.size_alloc]; exact Nat.le_succ_of_le h.2⟩
theorem Chn.drew {n : Nat} {w w' : World} (h : Chn n w w') : Chn n w w'.drew := ⟨h.1.drew, h.2⟩
theorem Chn.below {n : Nat} {w w' w'' : World} (h : Chn n w w') (k : Below w'.heap.size w' w'') : Chn n w w'' := ⟨h.1.trans (k.mono h.2), Nat.le_trans h.2 k.size⟩
theorem Chn.out {w w' : World} (h : Chn w.heap.size w w') : Below w.heap.size w w' := h.1
theorem Chn.set {n : Nat} {w w' : World} (h : Chn n w w') (g i : Nat) (hg : n ≤ g) (v : Value) : Chn n w (w'.setCell ⟨g, i, none⟩ v) := ⟨h.1.setCell (p := ⟨g, i, none⟩) hg v, by simpa using h.2⟩
theorem Chn.le {n : Nat} {w w' : World} (h : Chn n w w') : n ≤ w'.heap.size := h.2
theorem Chn.grown {n g : Nat} {w w' w'' : World} (h : Chn n w w') (k : w'.grownBy w'' (some g)) (hg : n ≤ g) : Chn n w w'' := ⟨h.1.trans ⟨k.os, k.tape, k.output, k.size, fun i hi => k.block i (Nat.lt_of_lt_of_le hi h.2) (by simp; omega)⟩, Nat.le_trans h.2 k.size⟩
end Go.Proofs.Ytgclabboafdheab

/- The call listOf of package port: a list of these ports, of blank ones, or of none, in new memory; conditions: the table and the row lie where they say, lengths fit int. -/
namespace Go.Proofs.Ytgclabboafdheab
open Go.ChangeShapes Go.WideShapes Go.ChangeAt Go.RowKit
set_option linter.unusedVariables false
attribute [local go_sem] cell_rg

theorem listOf_no (n f d p r dr o sl md fr : Int) (ad : Option Addr) (cap : Nat) (zs : List Int) (a2 : Option Addr) (m c2 : Nat) (w : World) (hl : zs.length ≤ 9223372036854775807) (hT : Tab w ad zs) (hE : ¬ plainE n f d p r dr o sl md fr zs = 0) :
    Calls Try.prog 15 #[.agg #[.int .i64 n, .int .i64 f, .int .i64 d, .int .i64 p, .int .i64 r, .int .i64 dr, .int .i64 o, .int .i64 sl, .int .i64 md, .int .i64 fr, .slice ad zs.length cap], .slice a2 m c2] w fun e w' => e = .returned (.agg #[.int .i64 0, .slice none 0 0]) ∧ Below w.heap.size w w' := by
  have hb0 := bthen (ballc w (.cells #[.int .i64 n, .int .i64 f, .int .i64 d, .int .i64 p, .int .i64 r, .int .i64 dr, .int .i64 o, .int .i64 sl, .int .i64 md, .int .i64 fr, .slice ad zs.length cap] 24)) (ballc _ (.cells #[.int .i64 0, .slice none 0 0] 47))
  have HB0 := hidden hb0
  have HK := hidden (blk_newAt (w.alloc (.cells #[.int .i64 n, .int .i64 f, .int .i64 d, .int .i64 p, .int .i64 r, .int .i64 dr, .int .i64 o, .int .i64 sl, .int .i64 md, .int .i64 fr, .slice ad zs.length cap] 24)) #[.int .i64 0, .slice none 0 0] 47 (b := w.heap.size + 1) (by simp))
  have CP := hidden (plain_any n f d p r dr o sl md fr ad cap zs ((w.alloc (.cells #[.int .i64 n, .int .i64 f, .int .i64 d, .int .i64 p, .int .i64 r, .int .i64 dr, .int .i64 o, .int .i64 sl, .int .i64 md, .int .i64 fr, .slice ad zs.length cap] 24)).alloc (.cells #[.int .i64 0, .slice none 0 0] 47)) hl (hT.below hb0))
  have e0 : (plainE n f d p r dr o sl md fr zs != 0) = true := bne_iff_ne.2 hE
  generalize plainE n f d p r dr o sl md fr zs = E at *
  clear hE hT hb0
  go_enter Try.func15, Try.ntmps15
  go_wp2_with fail
  refine CP.out.mono ?_
  rintro e w1 ⟨rfl, hb1⟩
  have k1 := blk_later HK.out hb1
  have HB1 := hidden (bthen HB0.out hb1)
  have H2 := hidden (heap_setCell_same _ (w.heap.size + 1) 1 _ _ (.slice none 0 0) (heap_setCell_same _ (w.heap.size + 1) 0 _ _ (.int .i64 0) k1))
  have HB2 := hidden ((HB1.out.setCell (p := ⟨w.heap.size + 1, 0, none⟩) (show w.heap.size ≤ w.heap.size + 1 by omega) (.int .i64 0)).setCell (p := ⟨w.heap.size + 1, 1, none⟩) (show w.heap.size ≤ w.heap.size + 1 by omega) (.slice none 0 0))
  have b1 := blk_cell k1
  have f1 := blk_frozen k1
  have l1 := blk_lt k1
  clear hb1 k1
  go_wp2
  have h2 := blk_cell H2.out
  refine bodyPost_ret (v := .agg #[.int .i64 0, .slice none 0 0]) (by simp [results, Try.results15, go_sem, h2]) rfl ⟨rfl, HB2.out⟩
set_option maxRecDepth 100000 in
set_option maxHeartbeats 4000000 in
theorem listOf_ok (n f d p r dr o sl md fr : Int) (ad : Option Addr) (cap : Nat) (zs : List Int) (N : Nat) (hN : n = (N : Int)) (a2 : Option Addr) (c2 : Nat) (ps : List Prt) (w : World) (hl : zs.length ≤ 9223372036854775807) (hT : Tab w ad zs) (hE : plainE n f d p r dr o sl md fr zs = 0) (hN1 : 0 < N) (hN2 : N ≤ 64) (hpl : ps.length ≤ 9223372036854775807) (hP : kPrt.Lies w.heap.size w (.slice a2 ps.length c2) ps) :
    Calls Try.prog 15 #[.agg #[.int .i64 n, .int .i64 f, .int .i64 d, .int .i64 p, .int .i64 r, .int .i64 dr, .int .i64 o, .int .i64 sl, .int .i64 md, .int .i64 fr, .slice ad zs.length cap], .slice a2 ps.length c2] w fun e w' => ∃ g, e = .returned (.agg #[.int .i64 fr, .slice (some ⟨g, 0, none⟩) N N]) ∧ w.heap.size ≤ g ∧ PBlk w' g (lstP 0 N fr ps) ∧ Below w.heap.size w w' := by
  subst hN
  have hb0 := bthen (ballc w (.cells #[.int .i64 (N : Int), .int .i64 f, .int .i64 d, .int .i64 p, .int .i64 r, .int .i64 dr, .int .i64 o, .int .i64 sl, .int .i64 md, .int .i64 fr, .slice ad zs.length cap] 24)) (ballc _ (.cells #[.int .i64 0, .slice none 0 0] 47))
  have HB0 := hidden hb0
  have HK0 := hidden (blk_later (blk_nw w #[.int .i64 (N : Int), .int .i64 f, .int .i64 d, .int .i64 p, .int .i64 r, .int .i64 dr, .int .i64 o, .int .i64 sl, .int .i64 md, .int .i64 fr, .slice ad zs.length cap] 24) (ballc _ (.cells #[.int .i64 0, .slice none 0 0] 47)))
  have HK := hidden (blk_newAt (w.alloc (.cells #[.int .i64 (N : Int), .int .i64 f, .int .i64 d, .int .i64 p, .int .i64 r, .int .i64 dr, .int .i64 o, .int .i64 sl, .int .i64 md, .int .i64 fr, .slice ad zs.length cap] 24)) #[.int .i64 0, .slice none 0 0] 47 (b := w.heap.size + 1) (by simp))
  have HP0 := hidden hP
  have CP := hidden (plain_any (N : Int) f d p r dr o sl md fr ad cap zs ((w.alloc (.cells #[.int .i64 (N : Int), .int .i64 f, .int .i64 d, .int .i64 p, .int .i64 r, .int .i64 dr, .int .i64 o, .int .i64 sl, .int .i64 md, .int .i64 fr, .slice ad zs.length cap] 24)).alloc (.cells #[.int .i64 0, .slice none 0 0] 47)) hl (hT.below hb0))
  rw [hE] at CP
  have CB := hidden (fun V => lBlank_any fr V)
  have hmk := make_prts N (by omega)
  have e0 : ((0 : Int) != 0) = false := rfl
  clear hE hT hb0 hP
  go_enter Try.func15, Try.ntmps15
  go_wp2_with fail
  refine CP.out.mono ?_
  rintro e w1 ⟨rfl, hb1⟩
  have k0 := blk_later HK0.out hb1
  have k1 := blk_later HK.out hb1
  have HB1 := hidden (bthen HB0.out hb1)
  have HK1 := hidden k1
  have HKc := hidden k0
  have b0 := blk_cell k0
  have l0 := blk_lt k0
  clear hb1 k0 k1 CP
  go_wp2
  go_cut [5] (fun pt wx => ∃ go gr : Nat, pt = .pointer (some ⟨go, 0, none⟩) ∧ wx.heap[go]? = some (.cells #[.int .i64 fr, .slice (some ⟨gr, 0, none⟩) N N] 47 (0, 0)) ∧ PBlk wx gr (filP N fr 0) ∧ go ≠ gr ∧ w1.heap.size ≤ go ∧ w1.heap.size ≤ gr ∧ Below w1.heap.size w1 wx)
  case first =>
    go_region
    all_goals
      go_wp2_with fail
      go_meet
      case rel =>
        have a1 := blk_newAt (w1.alloc (.cells (kPrt.flat (List.replicate N (noP 0))).toArray 38)) #[.int .i64 fr, .slice (some ⟨w1.heap.size, 0, none⟩) N N] 47 (b := w1.heap.size + 1) (by simp)
        have a2 := blk_later (blk_nw w1 (kPrt.flat (List.replicate N (noP 0))).toArray 38) (ballc (w1.alloc (.cells (kPrt.flat (List.replicate N (noP 0))).toArray 38)) (.cells #[.int .i64 fr, .slice (some ⟨w1.heap.size, 0, none⟩) N N] 47))
        have a3 := Below.drew (bthen (ballc w1 (.cells (kPrt.flat (List.replicate N (noP 0))).toArray 38)) (ballc (w1.alloc (.cells (kPrt.flat (List.replicate N (noP 0))).toArray 38)) (.cells #[.int .i64 fr, .slice (some ⟨w1.heap.size, 0, none⟩) N N] 47)))
        have a4 := blk_later (blk_nw w1 #[.int .i64 fr, .slice (some ⟨w1.heap.size + 1, 0, none⟩) N N] 47) (ballc (w1.alloc (.cells #[.int .i64 fr, .slice (some ⟨w1.heap.size + 1, 0, none⟩) N N] 47)) (.cells (kPrt.flat (List.replicate N (noP 0))).toArray 38))
        have a5 := blk_newAt (w1.alloc (.cells #[.int .i64 fr, .slice (some ⟨w1.heap.size + 1, 0, none⟩) N N] 47)) (kPrt.flat (List.replicate N (noP 0))).toArray 38 (b := w1.heap.size + 1) (by simp)
        have a6 := Below.drew (bthen (ballc w1 (.cells #[.int .i64 fr, .slice (some ⟨w1.heap.size + 1, 0, none⟩) N N] 47)) (ballc (w1.alloc (.cells #[.int .i64 fr, .slice (some ⟨w1.heap.size + 1, 0, none⟩) N N] 47)) (.cells (kPrt.flat (List.replicate N (noP 0))).toArray 38)))
        rw [filP_0]
        first
        | exact ⟨w1.heap.size + 1, w1.heap.size, rfl, a1, a2, by omega, by omega, Nat.le_refl _, a3⟩
        | exact ⟨w1.heap.size, w1.heap.size + 1, rfl, a4, a5, by omega, Nat.le_refl _, by omega, a6⟩
  case rest =>
    clear hmk b0 l0
    obtain ⟨go, gr, rfl, ko, kr, hne, hgo, hgr, hbx⟩ := hcut
    have HBx := hidden hbx
    have HKo := hidden ko
    have HKr := hidden kr
    have bo := blk_cell ko
    have lo := blk_lt ko
    clear hbx ko kr
    go_wp2
    clear bo lo
    go_loopw [21] (fun i wr => ∃ k : Nat, k ≤ N ∧ i = .int .i64 k ∧ PBlk wr gr (filP N fr k) ∧ wr.heap[go]? = some (.cells #[.int .i64 fr, .slice (some ⟨gr, 0, none⟩) N N] 47 (0, 0)) ∧ Below w1.heap.size w1 wr) (fun i _ => N - (intV i).toNat)
    case atStart => exact ⟨0, Nat.zero_le _, rfl, HKr.out, HKo.out, HBx.out⟩
    case round =>
      clear HKo HKr HBx
      obtain ⟨k, hk, rfl, hR, hO, hB⟩ := hrel
      have HB := hidden hB
      have HR := hidden hR
      have HO := hidden hO
      have bo := blk_cell hO
      have lo := blk_lt hO
      clear hB hR hO
      by_cases hlt : k < N
      · have i1 : (0 : Int) ≤ (k : Int) := by omega
        have i2 : (k : Int) < (N : Int) := by omega
        have hS : ∀ V, Chn wr.heap.size wr V → V.cell? ⟨go, 0, none⟩ = some (.int .i64 fr) ∧ V.cell? ⟨go, 1, none⟩ = some (.slice (some ⟨gr, 0, none⟩) N N) := by
          intro V hC
          have l1 := blk_cell (blk_later HO.out hC.out)
          exact ⟨l1 0, l1 1⟩
        have hS2 : ∀ V : World, V.heap[go]? = some (.cells #[.int .i64 fr, .slice (some ⟨gr, 0, none⟩) N N] 47 (0, 0)) → V.cell? ⟨go, 0, none⟩ = some (.int .i64 fr) ∧ V.cell? ⟨go, 1, none⟩ = some (.slice (some ⟨gr, 0, none⟩) N N) := by
          intro V hC
          have l1 := blk_cell hC
          exact ⟨l1 0, l1 1⟩
        go_wp2_with fail
        have hC0 : Chn wr.heap.size wr wr := Chn.refl (Nat.le_refl _)
        go_region_held3 (fun V => V.cell? ⟨go, 0, none⟩ = some (.int .i64 fr) ∧ V.cell? ⟨go, 1, none⟩ = some (.slice (some ⟨gr, 0, none⟩) N N)) (first | exact hS2 _ hO4 | exact hS _ (by repeat (first | with_reducible assumption | with_reducible refine Chn.drew ?_)))
          (first
          | (go_at_call 21; refine (CB.out _).mono ?_; rintro e w3 ⟨rfl, hb3⟩; have hC3 := Chn.below (show Chn wr.heap.size wr _ from (by repeat (first | with_reducible assumption | with_reducible refine Chn.drew ?_))) hb3; clear hb3; have hR3 := HR.out.later hC3.out; obtain ⟨q0, q1, q2⟩ := hR3.cells k (by rw [filP_len]; exact hlt); have q3 := hR3.open; have q4 := hR3.lt; have hO4 := other3P (b := gr) (i := k * 3) (blk_later HO.out hC3.out) hne (.string ⟨#[]⟩) (.int .i64 0) (.int .i64 fr)))
        have hR4 := hR3.set k (noP fr)
        rw [filP_set N fr k hlt] at hR4
        have HR4 := hidden hR4
        have HO4 := hidden hO4
        have HB4 := hidden (below3P (bthen HB.out hC3.out) hgr (k * 3) (.string ⟨#[]⟩) (.int .i64 0) (.int .i64 fr))
        clear hR4 hO4 hC3 hR3 q0 q1 q2 q3 q4 hS hS2 hC0 bo lo
        go_wp2
        go_roundw
        case rel => exact ⟨k + 1, by omega, by go_num, HR4.out, HO4.out, HB4.out⟩
        case measure => simp [intV]; omega
      · obtain rfl : k = N := by omega
        have i2 : ¬ (k : Int) < (k : Int) := by omega
        have hB0 := bthen HB1.out HB.out
        have kc := blk_later HKc.out HB.out
        have bc := blk_cell kc
        have lc := blk_lt kc
        clear kc
        have hw1 := HK1.out
        have HKw := hidden (blk_later hw1 HB.out)
        have hws := blk_lt hw1
        have HRN := HR
        rw [filP_all] at HRN
        have ho' : w.heap.size + 1 ≠ gr := by omega
        have ho2 : w.heap.size + 1 ≠ go := by omega
        by_cases hps : ps.length = k
        · have e1 : ((ps.length : Int) == (k : Int)) = true := by rw [hps]; simp
          have HQ := hidden (lstP_ok (E := 0) rfl fr hps)
          have hcp := (copy_prts wr 3 gr k c2 a2 hN1 _ ps HR.out (filP_len _ _ _) hps (by have := HP0.out.below hB0; rwa [hps] at this))
          have HRw := hidden (HR.out.row ps)
          have KO := hidden ((setRow_other wr gr go (kPrt.flat ps).toArray hne).trans HO.out)
          have KW := hidden ((setRow_other wr gr (w.heap.size + 1) (kPrt.flat ps).toArray ho').trans HKw.out)
          have HBr := hidden (below_setRow hB0 (show w.heap.size ≤ gr by omega) (kPrt.flat ps).toArray)
          have HSZ := hidden (size_setRow wr gr (kPrt.flat ps).toArray)
          have HGR := hidden (show w.heap.size ≤ gr by omega)
          rw [hps]
          clear hB0 hw1 HR HRN
          generalize wr.setRow gr (kPrt.flat ps).toArray = W5 at *
          have bo := blk_cell KO.out
          have lo := blk_lt KO.out
          have q := blk_cell KW.out
          have qf := blk_frozen KW.out
          have ql := blk_lt KW.out
          have H2 := hidden (heap_setCell_same _ (w.heap.size + 1) 1 _ _ (.slice (some ⟨gr, 0, none⟩) k k) (heap_setCell_same _ (w.heap.size + 1) 0 _ _ (.int .i64 fr) KW.out))
          have H3 := hidden ((heap_setCell_other (W5.setCell ⟨w.heap.size + 1, 0, none⟩ (.int .i64 fr)) ⟨w.heap.size + 1, 1, none⟩ gr (.slice (some ⟨gr, 0, none⟩) k k) (Ne.symm ho')).trans ((heap_setCell_other W5 ⟨w.heap.size + 1, 0, none⟩ gr (.int .i64 fr) (Ne.symm ho')).trans HRw.out))
          have HB5 := hidden ((HBr.out.setCell (p := ⟨w.heap.size + 1, 0, none⟩) (show w.heap.size ≤ w.heap.size + 1 by omega) (.int .i64 fr)).setCell (p := ⟨w.heap.size + 1, 1, none⟩) (show w.heap.size ≤ w.heap.size + 1 by omega) (.slice (some ⟨gr, 0, none⟩) k k))
          go_wp2
          have h2 := blk_cell H2.out
          refine bodyPost_ret (v := .agg #[.int .i64 fr, .slice (some ⟨gr, 0, none⟩) k k]) (by simp [results, Try.results15, go_sem, h2]) rfl ⟨gr, rfl, HGR.out, (by rw [HQ.out]; exact H3.out), HB5.out⟩
        · have e1 : ((ps.length : Int) == (k : Int)) = false := beq_eq_false_iff_ne.2 (by omega)
          have HQ := hidden (lstP_no (E := 0) rfl fr hps)
          have q := blk_cell HKw.out
          have qf := blk_frozen HKw.out
          have ql := blk_lt HKw.out
          have H2 := hidden (heap_setCell_same _ (w.heap.size + 1) 1 _ _ (.slice (some ⟨gr, 0, none⟩) k k) (heap_setCell_same _ (w.heap.size + 1) 0 _ _ (.int .i64 fr) HKw.out))
          have H3 := hidden ((heap_setCell_other (wr.setCell ⟨w.heap.size + 1, 0, none⟩ (.int .i64 fr)) ⟨w.heap.size + 1, 1, none⟩ gr (.slice (some ⟨gr, 0, none⟩) k k) (Ne.symm ho')).trans ((heap_setCell_other wr ⟨w.heap.size + 1, 0, none⟩ gr (.int .i64 fr) (Ne.symm ho')).trans HRN.out))
          have HB5 := hidden ((hB0.setCell (p := ⟨w.heap.size + 1, 0, none⟩) (show w.heap.size ≤ w.heap.size + 1 by omega) (.int .i64 fr)).setCell (p := ⟨w.heap.size + 1, 1, none⟩) (show w.heap.size ≤ w.heap.size + 1 by omega) (.slice (some ⟨gr, 0, none⟩) k k))
          have HGR := hidden (show w.heap.size ≤ gr by omega)
          clear hB0 hw1
          go_wp2
          have h2 := blk_cell H2.out
          refine bodyPost_ret (v := .agg #[.int .i64 fr, .slice (some ⟨gr, 0, none⟩) k k]) (by simp [results, Try.results15, go_sem, h2]) rfl ⟨gr, rfl, HGR.out, (by rw [HQ.out]; exact H3.out), HB5.out⟩
end Go.Proofs.Ytgclabboafdheab

/- The calls Blank and Put of package port return what plain functions give, and make at most new memory; conditions: the table and rows lie where they say, lengths fit int. -/
namespace Go.Proofs.Ytgclabboafdheab
open Go.ChangeShapes Go.WideShapes Go.ChangeAt Go.RowKit
set_option linter.unusedVariables false
attribute [local go_sem] cell_rg

/-- A row of ports that a call made, or none. -/
def PRow (B : Nat) (W : World) (a : Option Addr) (L : List Prt) : Prop := (L = [] ∧ a = none) ∨ ∃ g, a = some ⟨g, 0, none⟩ ∧ B ≤ g ∧ PBlk W g L
theorem PRow.later {B : Nat} {W W' : World} {a : Option Addr} {L : List Prt} (h : PRow B W a L) (hb : Below W.heap.size W W') : PRow B W' a L := by
  rcases h with h | ⟨g, h1, h2, h3⟩
  · exact .inl h
  · exact .inr ⟨g, h1, h2, h3.later hb⟩
theorem PRow.lies {B : Nat} {W : World} {a : Option Addr} {L : List Prt} (h : PRow B W a L) (hl : L.length ≤ maxLen) : kPrt.Lies W.heap.size W (.slice a L.length L.length) L := by
  rcases h with ⟨rfl, rfl⟩ | ⟨g, rfl, _, h3⟩
  · exact Kind.Lies.nil _ _
  · exact h3.lies hl
theorem PRow.blk {B : Nat} {W : World} {a : Option Addr} {L : List Prt} (h : PRow B W a L) (hl : 0 < L.length) : ∃ g, a = some ⟨g, 0, none⟩ ∧ B ≤ g ∧ PBlk W g L := by
  rcases h with ⟨rfl, rfl⟩ | h
  · exact absurd hl (Nat.not_lt_zero _)
  · exact h
theorem PRow.low {B C : Nat} {W : World} {a : Option Addr} {L : List Prt} (h : PRow B W a L) (hc : C ≤ B) : PRow C W a L := by
  rcases h with h | ⟨g, h1, h2, h3⟩
  · exact .inl h
  · exact .inr ⟨g, h1, Nat.le_trans hc h2, h3⟩
theorem lstP_64 (n f d p r dr o sl md fr : Int) (ad : Option Addr) (cap : Nat) (zs : List Int) (ps : List Prt) : (lstP (plainE n f d p r dr o sl md fr zs) n.toNat fr ps).length ≤ 64 := by
  by_cases hE : plainE n f d p r dr o sl md fr zs = 0
  · have h := plainE_ok hE
    rw [lstP_len hE]
    omega
  · rw [lstP_err hE]; simp
theorem listOf_any (n f d p r dr o sl md fr : Int) (ad : Option Addr) (cap : Nat) (zs : List Int) (a2 : Option Addr) (c2 : Nat) (ps : List Prt) (w : World) (hl : zs.length ≤ 9223372036854775807) (hT : Tab w ad zs) (hpl : ps.length ≤ 9223372036854775807) (hP : kPrt.Lies w.heap.size w (.slice a2 ps.length c2) ps) :
    Calls Try.prog 15 #[.agg #[.int .i64 n, .int .i64 f, .int .i64 d, .int .i64 p, .int .i64 r, .int .i64 dr, .int .i64 o, .int .i64 sl, .int .i64 md, .int .i64 fr, .slice ad zs.length cap], .slice a2 ps.length c2] w fun e w' => ∃ F a, e = .returned (.agg #[.int .i64 F, .slice a (lstP (plainE n f d p r dr o sl md fr zs) n.toNat fr ps).length (lstP (plainE n f d p r dr o sl md fr zs) n.toNat fr ps).length]) ∧ (0 < (lstP (plainE n f d p r dr o sl md fr zs) n.toNat fr ps).length → F = fr) ∧ PRow w.heap.size w' a (lstP (plainE n f d p r dr o sl md fr zs) n.toNat fr ps) ∧ Below w.heap.size w w' := by
  by_cases hE : plainE n f d p r dr o sl md fr zs = 0
  · have h := plainE_ok hE
    refine (listOf_ok n f d p r dr o sl md fr ad cap zs n.toNat (by omega) a2 c2 ps w hl hT hE (by omega) (by omega) hpl hP).mono ?_
    rintro e w' ⟨g, rfl, hg, hb, hw⟩
    rw [lstP_len hE, hE]
    exact ⟨fr, _, rfl, fun _ => rfl, .inr ⟨g, rfl, hg, hb⟩, hw⟩
  · refine (listOf_no n f d p r dr o sl md fr ad cap zs a2 ps.length c2 w hl hT hE).mono ?_
    rintro e w' ⟨rfl, hw⟩
    rw [lstP_err hE]
    exact ⟨0, none, rfl, fun h => absurd h (Nat.not_lt_zero _), .inl ⟨rfl, rfl⟩, hw⟩
-- PUT
set_option maxRecDepth 100000 in
set_option maxHeartbeats 8000000 in
theorem PPut_any (n f d p r dr o sl md fr : Int) (ad : Option Addr) (cap : Nat) (zs : List Int) (a2 : Option Addr) (c2 : Nat) (ps : List Prt) (a3 : Option Addr) (c3 : Nat) (ds : List Dlv) (w : World) (hl : zs.length ≤ 9223372036854775807) (hT : Tab w ad zs) (hpl : ps.length ≤ 9223372036854775807) (hP : kPrt.Lies w.heap.size w (.slice a2 ps.length c2) ps) (hdl : ds.length ≤ 9223372036854775807) (hD : kDlv.Lies w.heap.size w (.slice a3 ds.length c3) ds) :
    Calls Try.prog 7 #[.agg #[.int .i64 n, .int .i64 f, .int .i64 d, .int .i64 p, .int .i64 r, .int .i64 dr, .int .i64 o, .int .i64 sl, .int .i64 md, .int .i64 fr, .slice ad zs.length cap], .slice a2 ps.length c2, .slice a3 ds.length c3] w fun e w' => ∃ a, e = .returned (.slice a (lstP (plainE n f d p r dr o sl md fr zs) n.toNat fr ps).length (lstP (plainE n f d p r dr o sl md fr zs) n.toNat fr ps).length) ∧ PRow w.heap.size w' a (putP (lstP (plainE n f d p r dr o sl md fr zs) n.toNat fr ps) ds) ∧ Below w.heap.size w w' := by
  have HB0 := hidden (ballc w (.cells #[.int .i64 n, .int .i64 f, .int .i64 d, .int .i64 p, .int .i64 r, .int .i64 dr, .int .i64 o, .int .i64 sl, .int .i64 md, .int .i64 fr, .slice ad zs.length cap] 24))
  have CL := hidden (listOf_any n f d p r dr o sl md fr ad cap zs a2 c2 ps (w.alloc (.cells #[.int .i64 n, .int .i64 f, .int .i64 d, .int .i64 p, .int .i64 r, .int .i64 dr, .int .i64 o, .int .i64 sl, .int .i64 md, .int .i64 fr, .slice ad zs.length cap] 24)) hl (hT.below HB0.out) hpl (hP.later HB0.out))
  have h64 := lstP_64 n f d p r dr o sl md fr ad cap zs ps
  have HD := hidden hD
  generalize lstP (plainE n f d p r dr o sl md fr zs) n.toNat fr ps = L at *
  have CP := hidden (fun F V (q : Dlv) => lPut_any F q.fm q.sl q.cy q.te V)
  have CH := hidden (fun F a V z => lHas_any F a L.length L.length z V)
  clear hT hP hD
  go_enter Try.func7, Try.ntmps7
  go_wp2_with fail
  refine CL.out.mono ?_
  rintro e w1 ⟨F, a, rfl, _, hr, hb⟩
  have HB1 := hidden (bthen HB0.out hb)
  have HR1 := hidden ((hr.low HB0.out.size).later (ballc w1 (.cells #[.int .i64 F, .slice a L.length L.length] 47)))
  have HO1 := hidden (blk_nw w1 #[.int .i64 F, .slice a L.length L.length] 47)
  have HB2 := hidden (bthen HB1.out (ballc w1 (.cells #[.int .i64 F, .slice a L.length L.length] 47)))
  have HGL : Hid (∀ g, a = some ⟨g, 0, none⟩ → 0 < L.length → g < w1.heap.size) := by
    intro g hg h0
    obtain ⟨g', e1, _, e3⟩ := hr.blk h0
    rw [hg] at e1
    obtain rfl : g = g' := by simpa using e1
    exact e3.lt
  have HW1 := hidden HB1.out.size
  clear hr hb CL
  go_wp2
  generalize w1.heap.size = go at *
  go_loopw [15] (fun i wr => ∃ k : Nat, k ≤ ds.length ∧ i = .int .i64 k ∧ PRow w.heap.size wr a (putP L (ds.take k)) ∧ wr.heap[go]? = some (.cells #[.int .i64 F, .slice a L.length L.length] 47 (0, 0)) ∧ Below w.heap.size w wr) (fun i _ => ds.length - (intV i).toNat)
  case atStart => exact ⟨0, Nat.zero_le _, rfl, HR1.out, HO1.out, HB2.out⟩
  case round =>
    clear HR1 HO1 HB2
    obtain ⟨k, hk, rfl, hR, hO, hB⟩ := hrel
    have HB := hidden hB
    have HR := hidden hR
    have HO := hidden hO
    clear hR hO
    by_cases hlt : k < ds.length
    · obtain ⟨b, off, rfl, hbl, e0, e1, e2, e3⟩ := kDlv_four (HD.out.below hB) k hlt
      have i1 : (0 : Int) ≤ (k : Int) := by omega
      have i2 : (k : Int) < (ds.length : Int) := by omega
      have HS := hidden (putP_snoc L (ds.take k) ds[k])
      rw [← List.take_succ_eq_append_getElem hlt] at HS
      have hlen := putP_len L (ds.take k)
      generalize putP L (ds.take k) = M at *
      generalize ds[k] = q at *
      obtain ⟨fm, sl', cy, te⟩ := q
      dsimp only at e0 e1 e2 e3
      have hA := ballc wr (.cells #[.int .i64 fm, .int .i64 sl', .int .i64 cy, .string te] 27)
      have KM := hidden (blk_nw wr #[.int .i64 fm, .int .i64 sl', .int .i64 cy, .string te] 27)
      have KO := hidden (blk_later HO.out hA)
      have KR := hidden (HR.out.later hA)
      have KB := hidden (bthen HB.out hA)
      have bo := blk_cell KO.out
      have lo := blk_lt KO.out
      have bm := blk_cell KM.out
      have lm := blk_lt KM.out
      have CHk := hidden (fun V => CH.out F a V fm)
      clear hB hA
      by_cases hz : 0 ≤ fm ∧ fm < (L.length : Int)
      · have hd : (decide (0 ≤ fm) && decide (fm < (L.length : Int))) = true := by rw [decide_eq_true hz.1, decide_eq_true hz.2]; rfl
        rw [hd] at CHk
        obtain ⟨z, rfl⟩ := Int.eq_ofNat_of_zero_le hz.1
        have hzl : z < M.length := by omega
        have HM := hidden (HS.out.trans (put1_in (d := ⟨(z : Int), sl', cy, te⟩) rfl hzl))
        obtain ⟨g, ha, hgw, hG⟩ := KR.out.blk (by omega)
        subst ha
        have hgo : g < go := HGL.out g rfl (by omega)
        have HG := hidden hG
        have i3 : (0 : Int) ≤ (z : Int) := hz.1
        have i4 : (z : Int) < (L.length : Int) := hz.2
        clear hz hd hG HS KR HR HGL
        go_wp2_with fail
        refine (CHk.out _).mono ?_
        rintro e w2 ⟨rfl, hb2⟩
        have KO2 := hidden (blk_later KO.out hb2)
        have KM2 := hidden (blk_later KM.out hb2)
        have KG2 := hidden (HG.out.later hb2)
        have KB2 := hidden (bthen KB.out hb2)
        have hgm : g ≠ wr.heap.size := by have := blk_lt HO.out; omega
        have hgo2 : g ≠ go := by omega
        have bo := blk_cell KO2.out
        have lo := blk_lt KO2.out
        have bm := blk_cell KM2.out
        have lm := blk_lt KM2.out
        clear hb2 KO KM HG KB
        go_wp2_with fail
        generalize wr.heap.size = gm at *
        have hC0 : Chn w2.heap.size w2 w2 := Chn.refl (Nat.le_refl _)
        have hS2 : ∀ V : World, V.heap[go]? = some (.cells #[.int .i64 F, .slice (some ⟨g, 0, none⟩) L.length L.length] 47 (0, 0)) → V.heap[gm]? = some (.cells #[.int .i64 (z : Int), .int .i64 sl', .int .i64 cy, .string te] 27 (0, 0)) → V.cell? ⟨go, 0, none⟩ = some (.int .i64 F) ∧ V.cell? ⟨go, 1, none⟩ = some (.slice (some ⟨g, 0, none⟩) L.length L.length) ∧ V.cell? ⟨gm, 0, none⟩ = some (.int .i64 (z : Int)) ∧ V.cell? ⟨gm, 1, none⟩ = some (.int .i64 sl') ∧ V.cell? ⟨gm, 2, none⟩ = some (.int .i64 cy) ∧ V.cell? ⟨gm, 3, none⟩ = some (.string te) := by
          intro V hV hV2
          have l1 := blk_cell hV
          have l2 := blk_cell hV2
          exact ⟨l1 0, l1 1, l2 0, l2 1, l2 2, l2 3⟩
        have hS : ∀ V, Chn w2.heap.size w2 V → V.cell? ⟨go, 0, none⟩ = some (.int .i64 F) ∧ V.cell? ⟨go, 1, none⟩ = some (.slice (some ⟨g, 0, none⟩) L.length L.length) ∧ V.cell? ⟨gm, 0, none⟩ = some (.int .i64 (z : Int)) ∧ V.cell? ⟨gm, 1, none⟩ = some (.int .i64 sl') ∧ V.cell? ⟨gm, 2, none⟩ = some (.int .i64 cy) ∧ V.cell? ⟨gm, 3, none⟩ = some (.string te) := by
          intro V hC
          exact hS2 V (blk_later KO2.out hC.out) (blk_later KM2.out hC.out)
        go_region_held3 (fun V => V.cell? ⟨go, 0, none⟩ = some (.int .i64 F) ∧ V.cell? ⟨go, 1, none⟩ = some (.slice (some ⟨g, 0, none⟩) L.length L.length) ∧ V.cell? ⟨gm, 0, none⟩ = some (.int .i64 (z : Int)) ∧ V.cell? ⟨gm, 1, none⟩ = some (.int .i64 sl') ∧ V.cell? ⟨gm, 2, none⟩ = some (.int .i64 cy) ∧ V.cell? ⟨gm, 3, none⟩ = some (.string te)) (first | exact hS2 _ hO4 hM4 | exact hS _ (by repeat (first | with_reducible assumption | with_reducible refine Chn.drew ?_)))
          (first
          | (go_at_call 17; refine (CP.out F _ ⟨(z : Int), sl', cy, te⟩).mono ?_; rintro e w3 ⟨rfl, hb3⟩; have hC3 := Chn.below (show Chn w2.heap.size w2 _ from (by repeat (first | with_reducible assumption | with_reducible refine Chn.drew ?_))) hb3; clear hb3; have hR3 := KG2.out.later hC3.out; obtain ⟨q0, q1, q2⟩ := hR3.cells z hzl; have q3 := hR3.open; have q4 := hR3.lt; have hO4 := other3P (b := g) (i := z * 3) (blk_later KO2.out hC3.out) (Ne.symm hgo2) (.string te) (.int .i64 cy) (.int .i64 0); have hM4 := other3P (b := g) (i := z * 3) (blk_later KM2.out hC3.out) (Ne.symm hgm) (.string te) (.int .i64 cy) (.int .i64 0)))
        have hR4 := hR3.set z ⟨te, cy, 0⟩
        rw [← HM.out] at hR4
        have HR4 := hidden hR4
        have HO4 := hidden hO4
        have HB4 := hidden (below3P (bthen KB2.out hC3.out) hgw (z * 3) (.string te) (.int .i64 cy) (.int .i64 0))
        clear hR4 hO4 hM4 hC3 hR3 q0 q1 q2 q3 q4 hS hS2 hC0 bo lo bm lm
        go_wp2
        go_roundw
        case rel => exact ⟨k + 1, by omega, by go_num, .inr ⟨g, rfl, hgw, HR4.out⟩, HO4.out, HB4.out⟩
        case measure => simp [intV]; omega
      · have hd : (decide (0 ≤ fm) && decide (fm < (L.length : Int))) = false := by
          by_cases h0 : 0 ≤ fm
          · rw [decide_eq_false (show ¬ fm < (L.length : Int) by omega), Bool.and_false]
          · rw [decide_eq_false h0, Bool.false_and]
        rw [hd] at CHk
        have HM := hidden (HS.out.trans (put1_out (d := ⟨fm, sl', cy, te⟩) (by rw [hlen]; exact hz)))
        clear hz hd HS
        go_wp2_with fail
        refine (CHk.out _).mono ?_
        rintro e w2 ⟨rfl, hb2⟩
        have KO2 := hidden (blk_later KO.out hb2)
        have KR2 := hidden (KR.out.later hb2)
        have KB2 := hidden (bthen KB.out hb2)
        clear hb2 bo lo bm lm
        go_wp2
        go_roundw
        case rel => exact ⟨k + 1, by omega, by go_num, by rw [HM.out]; exact KR2.out, KO2.out, KB2.out⟩
        case measure => simp [intV]; omega
    · obtain rfl : k = ds.length := by omega
      have i2 : ¬ (ds.length : Int) < (ds.length : Int) := by omega
      rw [List.take_length] at HR
      have bo := blk_cell HO.out
      have lo := blk_lt HO.out
      clear hB
      go_wp2
      go_ret
      exact ⟨_, rfl, HR.out, HB.out⟩
end Go.Proofs.Ytgclabboafdheab

/- The calls Older and Read of package port return what plain functions give, and make at most new memory; conditions: the table and the row lie where they say, lengths and ages fit int. -/
namespace Go.Proofs.Ytgclabboafdheab
open Go.ChangeShapes Go.WideShapes Go.ChangeAt Go.RowKit
set_option linter.unusedVariables false
attribute [local go_sem] cell_rg

theorem lst_ages (n f d p r dr o sl md fr : Int) (ad : Option Addr) (cap : Nat) (zs : List Int) {ps : List Prt} (h : agesIn ps) : agesIn (lstP (plainE n f d p r dr o sl md fr zs) n.toNat fr ps) := by
  by_cases hE : plainE n f d p r dr o sl md fr zs = 0
  · by_cases hl : ps.length = n.toNat
    · rw [lstP_ok hE fr hl]; exact h
    · rw [lstP_no hE fr hl]
      have hb := plainE_ok hE
      intro p hp
      obtain ⟨_, rfl⟩ := List.mem_replicate.1 hp
      show (Lit.int .i64 fr).wf = true
      simp [Lit.wf, IntKind.min, IntKind.max, IntKind.signed, IntKind.bits]
      omega
  · rw [lstP_err hE]
    intro p hp
    cases hp
theorem lst_fr (n f d p r dr o sl md fr : Int) (ad : Option Addr) (cap : Nat) (zs : List Int) {ps : List Prt} (h : 0 < (lstP (plainE n f d p r dr o sl md fr zs) n.toNat fr ps).length) : (Lit.int .i64 fr).wf = true := by
  by_cases hE : plainE n f d p r dr o sl md fr zs = 0
  · have hb := plainE_ok hE
    simp [Lit.wf, IntKind.min, IntKind.max, IntKind.signed, IntKind.bits]
    omega
  · rw [lstP_err hE] at h
    exact absurd h (Nat.not_lt_zero _)
set_option maxRecDepth 100000 in
set_option maxHeartbeats 8000000 in
theorem POlder_any (n f d p r dr o sl md fr : Int) (ad : Option Addr) (cap : Nat) (zs : List Int) (a2 : Option Addr) (c2 : Nat) (ps : List Prt) (w : World) (hl : zs.length ≤ 9223372036854775807) (hT : Tab w ad zs) (hpl : ps.length ≤ 9223372036854775807) (hP : kPrt.Lies w.heap.size w (.slice a2 ps.length c2) ps) (hag : agesIn ps) :
    Calls Try.prog 9 #[.agg #[.int .i64 n, .int .i64 f, .int .i64 d, .int .i64 p, .int .i64 r, .int .i64 dr, .int .i64 o, .int .i64 sl, .int .i64 md, .int .i64 fr, .slice ad zs.length cap], .slice a2 ps.length c2] w fun e w' => ∃ a, e = .returned (.slice a (lstP (plainE n f d p r dr o sl md fr zs) n.toNat fr ps).length (lstP (plainE n f d p r dr o sl md fr zs) n.toNat fr ps).length) ∧ PRow w.heap.size w' a (oldP fr (lstP (plainE n f d p r dr o sl md fr zs) n.toNat fr ps)) ∧ Below w.heap.size w w' := by
  have HB0 := hidden (ballc w (.cells #[.int .i64 n, .int .i64 f, .int .i64 d, .int .i64 p, .int .i64 r, .int .i64 dr, .int .i64 o, .int .i64 sl, .int .i64 md, .int .i64 fr, .slice ad zs.length cap] 24))
  have CL := hidden (listOf_any n f d p r dr o sl md fr ad cap zs a2 c2 ps (w.alloc (.cells #[.int .i64 n, .int .i64 f, .int .i64 d, .int .i64 p, .int .i64 r, .int .i64 dr, .int .i64 o, .int .i64 sl, .int .i64 md, .int .i64 fr, .slice ad zs.length cap] 24)) hl (hT.below HB0.out) hpl (hP.later HB0.out))
  have h64 := lstP_64 n f d p r dr o sl md fr ad cap zs ps
  have HAG := hidden (lst_ages n f d p r dr o sl md fr ad cap zs hag)
  have HFR := hidden (fun h => lst_fr n f d p r dr o sl md fr ad cap zs (ps := ps) h)
  generalize lstP (plainE n f d p r dr o sl md fr zs) n.toNat fr ps = L at *
  clear hT hP hag
  go_enter Try.func9, Try.ntmps9
  go_wp2_with fail
  refine CL.out.mono ?_
  rintro e w1 ⟨F, a, rfl, hF, hr, hb⟩
  have HF := hidden hF
  have HB1 := hidden (bthen HB0.out hb)
  have HR1 := hidden ((hr.low HB0.out.size).later (ballc w1 (.cells #[.int .i64 F, .slice a L.length L.length] 47)))
  have ko := blk_nw w1 #[.int .i64 F, .slice a L.length L.length] 47
  have HO1 := hidden ko
  have HB2 := hidden (bthen HB1.out (ballc w1 (.cells #[.int .i64 F, .slice a L.length L.length] 47)))
  have HGL : Hid (∀ g, a = some ⟨g, 0, none⟩ → 0 < L.length → g < w1.heap.size) := by
    intro g hg h0
    obtain ⟨g', e1, _, e3⟩ := hr.blk h0
    rw [hg] at e1
    obtain rfl : g = g' := by simpa using e1
    exact e3.lt
  have HW1 := hidden HB1.out.size
  clear hr hb CL hF
  have bo := blk_cell ko
  have lo := blk_lt ko
  clear ko
  go_wp2
  clear bo lo
  generalize w1.heap.size = go at *
  rw [← oldK_0 fr L] at HR1
  go_loopw [14] (fun i wr => ∃ k : Nat, k ≤ L.length ∧ i = .int .i64 k ∧ PRow w.heap.size wr a (oldK fr L k) ∧ wr.heap[go]? = some (.cells #[.int .i64 F, .slice a L.length L.length] 47 (0, 0)) ∧ Below w.heap.size w wr) (fun i _ => L.length - (intV i).toNat)
  case atStart => exact ⟨0, Nat.zero_le _, rfl, HR1.out, HO1.out, HB2.out⟩
  case round =>
    clear HR1 HO1 HB2
    obtain ⟨k, hk, rfl, hR, hO, hB⟩ := hrel
    have HB := hidden hB
    have HR := hidden hR
    have HO := hidden hO
    clear hR hO hB
    by_cases hlt : k < L.length
    · have i1 : (0 : Int) ≤ (k : Int) := by omega
      have i2 : (k : Int) < (L.length : Int) := by omega
      have hlK := oldK_len fr L k
      obtain ⟨g, ha, hgw, hG⟩ := HR.out.blk (by omega)
      subst ha
      have hgo : g < go := HGL.out g rfl (by omega)
      obtain rfl : F = fr := HF.out (by omega)
      have hfw := HFR.out (by omega)
      have haw := HAG.out L[k] (List.getElem_mem hlt)
      have hx := hG.cells k (by omega)
      rw [oldK_get F L k hlt] at hx
      obtain ⟨x0, x1, x2⟩ := hx
      have HS := hidden (oldK_set F L k hlt)
      have lg := hG.lt
      have HG := hidden hG
      generalize hq : L[k] = q at *
      have HQ := hidden hq
      clear hq hG
      obtain ⟨te, cy, ag⟩ := q
      dsimp only at x0 x1 x2 haw
      have CO := hidden (fun V => lOlder_any F te cy ag V hfw haw)
      have hA := ballc wr (.cells #[.string te, .int .i64 cy, .int .i64 ag] 38)
      have KM2 := hidden (blk_nw wr #[.string te, .int .i64 cy, .int .i64 ag] 38)
      have KO2 := hidden (blk_later HO.out hA)
      have KG2 := hidden (HG.out.later hA)
      have KB2 := hidden (bthen HB.out hA)
      have hgm : g ≠ wr.heap.size := by omega
      have hgo2 : g ≠ go := by omega
      clear hA hfw haw
      go_wp2
      generalize hW2 : wr.alloc (.cells #[.string te, .int .i64 cy, .int .i64 ag] 38) = w2 at *
      clear hW2
      clear x0 x1 x2 lg
      generalize wr.heap.size = gm at *
      have bo := blk_cell KO2.out
      have lo := blk_lt KO2.out
      have bm := blk_cell KM2.out
      have lm := blk_lt KM2.out
      have hC0 : Chn w2.heap.size w2 w2 := Chn.refl (Nat.le_refl _)
      have hS2 : ∀ V : World, V.heap[go]? = some (.cells #[.int .i64 F, .slice (some ⟨g, 0, none⟩) L.length L.length] 47 (0, 0)) → V.heap[gm]? = some (.cells #[.string te, .int .i64 cy, .int .i64 ag] 38 (0, 0)) → V.cell? ⟨go, 0, none⟩ = some (.int .i64 F) ∧ V.cell? ⟨go, 1, none⟩ = some (.slice (some ⟨g, 0, none⟩) L.length L.length) ∧ V.cell? ⟨gm, 0, none⟩ = some (.string te) ∧ V.cell? ⟨gm, 1, none⟩ = some (.int .i64 cy) ∧ V.cell? ⟨gm, 2, none⟩ = some (.int .i64 ag) := by
        intro V hV hV2
        have l1 := blk_cell hV
        have l2 := blk_cell hV2
        exact ⟨l1 0, l1 1, l2 0, l2 1, l2 2⟩
      have hS : ∀ V, Chn w2.heap.size w2 V → V.cell? ⟨go, 0, none⟩ = some (.int .i64 F) ∧ V.cell? ⟨go, 1, none⟩ = some (.slice (some ⟨g, 0, none⟩) L.length L.length) ∧ V.cell? ⟨gm, 0, none⟩ = some (.string te) ∧ V.cell? ⟨gm, 1, none⟩ = some (.int .i64 cy) ∧ V.cell? ⟨gm, 2, none⟩ = some (.int .i64 ag) := by
        intro V hC
        exact hS2 V (blk_later KO2.out hC.out) (blk_later KM2.out hC.out)
      go_region_held3 (fun V => V.cell? ⟨go, 0, none⟩ = some (.int .i64 F) ∧ V.cell? ⟨go, 1, none⟩ = some (.slice (some ⟨g, 0, none⟩) L.length L.length) ∧ V.cell? ⟨gm, 0, none⟩ = some (.string te) ∧ V.cell? ⟨gm, 1, none⟩ = some (.int .i64 cy) ∧ V.cell? ⟨gm, 2, none⟩ = some (.int .i64 ag)) (first | exact hS2 _ hO4 hM4 | exact hS _ (by repeat (first | with_reducible assumption | with_reducible refine Chn.drew ?_)))
        (first
        | (go_at_call 19; refine (CO.out _).mono ?_; rintro e w3 ⟨rfl, hb3⟩; have hC3 := Chn.below (show Chn w2.heap.size w2 _ from (by repeat (first | with_reducible assumption | with_reducible refine Chn.drew ?_))) hb3; clear hb3; have hR3 := KG2.out.later hC3.out; obtain ⟨q0, q1, q2⟩ := hR3.cells k (by omega); have q3 := hR3.open; have q4 := hR3.lt; have hO4 := other3P (b := g) (i := k * 3) (blk_later KO2.out hC3.out) (Ne.symm hgo2) (.string te) (.int .i64 cy) (.int .i64 (satF ag F)); have hM4 := other3P (b := g) (i := k * 3) (blk_later KM2.out hC3.out) (Ne.symm hgm) (.string te) (.int .i64 cy) (.int .i64 (satF ag F))))
      have hR4 := hR3.set k ⟨te, cy, satF ag F⟩
      have hS9 : (oldK F L k).set k ⟨te, cy, satF ag F⟩ = oldK F L (k + 1) := HS.out
      rw [hS9] at hR4
      have HR4 := hidden hR4
      have HO4 := hidden hO4
      have HB4 := hidden (below3P (bthen KB2.out hC3.out) hgw (k * 3) (.string te) (.int .i64 cy) (.int .i64 (satF ag F)))
      clear hR4 hO4 hM4 hC3 hR3 q0 q1 q2 q3 q4 hS hS2 hC0 bo lo bm lm hS9
      go_wp2
      go_roundw
      case rel => exact ⟨k + 1, by omega, by go_num, .inr ⟨g, rfl, hgw, HR4.out⟩, HO4.out, HB4.out⟩
      case measure => simp [intV]; omega
    · obtain rfl : k = L.length := by omega
      have i2 : ¬ (L.length : Int) < (L.length : Int) := by omega
      rw [oldK_all] at HR
      have bo := blk_cell HO.out
      have lo := blk_lt HO.out
      go_wp2
      go_ret
      exact ⟨_, rfl, HR.out, HB.out⟩
set_option maxRecDepth 100000 in
set_option maxHeartbeats 8000000 in
theorem PRead_any (n f d p r dr o sl md fr : Int) (ad : Option Addr) (cap : Nat) (zs : List Int) (a2 : Option Addr) (c2 : Nat) (ps : List Prt) (z : Int) (w : World) (hl : zs.length ≤ 9223372036854775807) (hT : Tab w ad zs) (hpl : ps.length ≤ 9223372036854775807) (hP : kPrt.Lies w.heap.size w (.slice a2 ps.length c2) ps) :
    Calls Try.prog 8 #[.agg #[.int .i64 n, .int .i64 f, .int .i64 d, .int .i64 p, .int .i64 r, .int .i64 dr, .int .i64 o, .int .i64 sl, .int .i64 md, .int .i64 fr, .slice ad zs.length cap], .slice a2 ps.length c2, .int .i64 z] w fun e w' => e = .returned (.tuple #[.string (rdT fr (lstP (plainE n f d p r dr o sl md fr zs) n.toNat fr ps) z), .int .i64 (rdC fr (lstP (plainE n f d p r dr o sl md fr zs) n.toNat fr ps) z), .bool (rdB fr (lstP (plainE n f d p r dr o sl md fr zs) n.toNat fr ps) z)]) ∧ Below w.heap.size w w' := by
  have HB0 := hidden (ballc w (.cells #[.int .i64 n, .int .i64 f, .int .i64 d, .int .i64 p, .int .i64 r, .int .i64 dr, .int .i64 o, .int .i64 sl, .int .i64 md, .int .i64 fr, .slice ad zs.length cap] 24))
  have CL := hidden (listOf_any n f d p r dr o sl md fr ad cap zs a2 c2 ps (w.alloc (.cells #[.int .i64 n, .int .i64 f, .int .i64 d, .int .i64 p, .int .i64 r, .int .i64 dr, .int .i64 o, .int .i64 sl, .int .i64 md, .int .i64 fr, .slice ad zs.length cap] 24)) hl (hT.below HB0.out) hpl (hP.later HB0.out))
  have h64 := lstP_64 n f d p r dr o sl md fr ad cap zs ps
  generalize lstP (plainE n f d p r dr o sl md fr zs) n.toNat fr ps = L at *
  have CH := hidden (fun F a V => lHas_any F a L.length L.length z V)
  clear hT hP
  go_enter Try.func8, Try.ntmps8
  go_wp2_with fail
  refine CL.out.mono ?_
  rintro e w1 ⟨F, a, rfl, hF, hr, hb⟩
  have hA := ballc w1 (.cells #[.int .i64 F, .slice a L.length L.length] 47)
  have HB2 := hidden (bthen (bthen HB0.out hb) hA)
  have ko := blk_nw w1 #[.int .i64 F, .slice a L.length L.length] 47
  have HO := hidden ko
  have bo := blk_cell ko
  have lo := blk_lt ko
  have hr2 := hr.later hA
  have CHk := hidden (fun V => CH.out F a V)
  clear hr hb CL hA ko CH
  by_cases hz : 0 ≤ z ∧ z < (L.length : Int)
  case neg =>
    have hd : (decide (0 ≤ z) && decide (z < (L.length : Int))) = false := by
      by_cases h0 : 0 ≤ z
      · rw [decide_eq_false (show ¬ z < (L.length : Int) by omega), Bool.and_false]
      · rw [decide_eq_false h0, Bool.false_and]
    rw [hd] at CHk
    have hrd := rdB_out (fr := fr) (l := L) hz
    obtain ⟨hr1, hr3⟩ := rd_no hrd
    have HV : Hid (Ending.returned (.tuple #[.string ⟨#[]⟩, .int .i64 0, .bool false]) = .returned (.tuple #[.string (rdT fr L z), .int .i64 (rdC fr L z), .bool (rdB fr L z)])) := by
      show _ = _
      rw [hr1, hr3, hrd]
    clear hz hd hr1 hr3 hrd hF hr2
    go_wp2
    generalize w1.alloc (.cells #[.int .i64 F, .slice a L.length L.length] 47) = W2 at *
    refine wp_region_quiet_below (by kernel_rfl) (by kernel_rfl) ?_
    repeat (go_big_quiet_step (first | (go_at_call 16; exact Calls.regrown_of (CHk.out _))))
    refine wpQuiet_nil ?_
    intro w3 hw3
    have HB3 := hidden (bthen HB2.out (rg_below hw3))
    clear hw3 bo lo
    go_wp2
    exact bodyPost_ret (v := .tuple #[.string ⟨#[]⟩, .int .i64 0, .bool false]) (by simp [results, Try.results8, go_sem]) rfl ⟨HV.out, HB3.out⟩
  have hd : (decide (0 ≤ z) && decide (z < (L.length : Int))) = true := by rw [decide_eq_true hz.1, decide_eq_true hz.2]; rfl
  rw [hd] at CHk
  obtain ⟨k, rfl⟩ := Int.eq_ofNat_of_zero_le hz.1
  have hkl : k < L.length := by omega
  obtain ⟨g, ha, hgw, hG⟩ := hr2.blk (by omega)
  subst ha
  obtain rfl : F = fr := hF (by omega)
  have hx := hG.cells k hkl
  have HG := hidden hG
  have lg := hG.lt
  have hrd := rdB_in (fr := F) hkl
  have hge : L.getD k (noP 0) = L[k] := by simp [hkl]
  have i1 : (0 : Int) ≤ (k : Int) := hz.1
  have i2 : (k : Int) < (L.length : Int) := hz.2
  generalize hq : L[k] = q at *
  have HQ := hidden hq
  clear hq hz hd hF hr2 hG
  obtain ⟨te, cy, ag⟩ := q
  obtain ⟨x0, x1, x2⟩ := hx
  dsimp only at x0 x1 x2
  have CO := hidden (fun V => lHolds_any F te cy ag V)
  cases hfb : frsB F ⟨te, cy, ag⟩ with
  | false =>
    rw [hfb] at CO hrd
    obtain ⟨hr1, hr3⟩ := rd_no hrd
    have HV : Hid (Ending.returned (.tuple #[.string ⟨#[]⟩, .int .i64 0, .bool false]) = .returned (.tuple #[.string (rdT F L (k : Int)), .int .i64 (rdC F L (k : Int)), .bool (rdB F L (k : Int))])) := by
      show _ = _
      rw [hr1, hr3, hrd]
    clear hr1 hr3 hrd hfb hge
    go_wp2
    generalize w1.alloc (.cells #[.int .i64 F, .slice (some ⟨g, 0, none⟩) L.length L.length] 47) = W2 at *
    refine wp_region_quiet_below (by kernel_rfl) (by kernel_rfl) ?_
    repeat (go_big_quiet_step (first | (go_at_call 16; exact Calls.regrown_of (CHk.out _)) | (go_at_call 18; exact Calls.regrown_of (CO.out _))))
    refine wpQuiet_nil ?_
    intro w3 hw3
    have HB3 := hidden (bthen HB2.out (rg_below hw3))
    clear hw3 bo lo x0 x1 x2 lg
    go_wp2
    exact bodyPost_ret (v := .tuple #[.string ⟨#[]⟩, .int .i64 0, .bool false]) (by simp [results, Try.results8, go_sem]) rfl ⟨HV.out, HB3.out⟩
  | true =>
    rw [hfb] at CO hrd
    obtain ⟨hr1, hr3⟩ := rd_yes hrd
    rw [Int.toNat_natCast, hge] at hr1 hr3
    have HV : Hid (Ending.returned (.tuple #[.string te, .int .i64 cy, .bool true]) = .returned (.tuple #[.string (rdT F L (k : Int)), .int .i64 (rdC F L (k : Int)), .bool (rdB F L (k : Int))])) := by
      show _ = _
      rw [hr1, hr3, hrd]
    clear hr1 hr3 hrd hfb hge
    go_wp2
    generalize hgo : w1.heap.size = go at *
    generalize w1.alloc (.cells #[.int .i64 F, .slice (some ⟨g, 0, none⟩) L.length L.length] 47) = W2 at *
    refine wp_region_quiet_below (by kernel_rfl) (by kernel_rfl) ?_
    repeat (go_big_quiet_step (first | (go_at_call 16; exact Calls.regrown_of (CHk.out _)) | (go_at_call 18; exact Calls.regrown_of (CO.out _))))
    refine wpQuiet_nil ?_
    intro w3 hw3
    have hb3 := rg_below hw3
    have HB3 := hidden (bthen HB2.out hb3)
    have ko := blk_later HO.out hb3
    have hG3 := HG.out.later hb3
    clear hw3 bo lo x0 x1 x2 lg hb3
    have hx := hG3.cells k hkl
    rw [HQ.out] at hx
    obtain ⟨x0, x1, x2⟩ := hx
    dsimp only at x0 x1 x2
    have lg := hG3.lt
    have bo := blk_cell ko
    have lo := blk_lt ko
    have HB4 := hidden (bthen HB3.out (ballc w3 (.cells #[.string te, .int .i64 cy, .int .i64 ag] 38)))
    have km := blk_nw w3 #[.string te, .int .i64 cy, .int .i64 ag] 38
    have bm := blk_cell km
    have lm := blk_lt km
    clear ko hG3 km
    go_wp2
    clear x0 x1 x2 lg bo lo
    generalize w3.alloc (.cells #[.string te, .int .i64 cy, .int .i64 ag] 38) = W4 at *
    refine wp_region_quiet_below (by kernel_rfl) (by kernel_rfl) ?_
    repeat (go_big_quiet_step (fail))
    refine wpQuiet_nil ?_
    intro w5 hw5
    have HB5 := hidden (bthen HB4.out (rg_below hw5))
    clear hw5 bm lm
    go_wp2
    exact bodyPost_ret (v := .tuple #[.string te, .int .i64 cy, .bool true]) (by simp [results, Try.results8, go_sem]) rfl ⟨HV.out, HB5.out⟩
end Go.Proofs.Ytgclabboafdheab

/- The calls Put, Older and Read of package port, where there is a plain cluster and the rows have its length; conditions: the table and rows lie where they say, lengths and ages fit int. -/
namespace Go.Proofs.Ytgclabboafdheab
open Go.ChangeShapes Go.WideShapes Go.ChangeAt Go.RowKit
set_option linter.unusedVariables false

theorem one_dlv {V : World} {g : Nat} {q : Dlv} {t : TypeId} (h : V.heap[g]? = some (.cells #[.int .i64 q.fm, .int .i64 q.sl, .int .i64 q.cy, .string q.te] t (0, 0))) : kDlv.Lies V.heap.size V (.slice (some ⟨g, 0, none⟩) 1 1) [q] :=
  Kind.Lies.of_block (K := kDlv) (t := t) (g := g) (es := [q]) h (by simp [maxLen])
theorem PPut0_any (N : Nat) (f d p r dr o sl md fr : Int) (ad : Option Addr) (cap : Nat) (zs : List Int) (hE : plainE (N : Int) f d p r dr o sl md fr zs = 0) (hl : zs.length ≤ 9223372036854775807) (a : Option Addr) (c m : Nat) (ps : List Prt) (hm : m = ps.length) (L : List Prt) (hL : lstP 0 N fr ps = L) (a3 : Option Addr) (c3 : Nat) (ds : List Dlv) (hpl : ps.length ≤ 9223372036854775807) (hdl : ds.length ≤ 9223372036854775807) (V : World) (hT : Tab V ad zs) (hP : kPrt.Lies V.heap.size V (.slice a m c) ps) (hD : kDlv.Lies V.heap.size V (.slice a3 ds.length c3) ds) :
    Calls Try.prog 7 #[.agg #[.int .i64 (N : Int), .int .i64 f, .int .i64 d, .int .i64 p, .int .i64 r, .int .i64 dr, .int .i64 o, .int .i64 sl, .int .i64 md, .int .i64 fr, .slice ad zs.length cap], .slice a m c, .slice a3 ds.length c3] V fun e w' => ∃ a', e = .returned (.slice a' N N) ∧ kPrt.Lies w'.heap.size w' (.slice a' N N) (putP L ds) ∧ Below V.heap.size V w' := by
  subst hm hL
  have hN : (lstP 0 N fr ps).length = N := lstP_len rfl _ _ _
  have z := PPut_any (N : Int) f d p r dr o sl md fr ad cap zs a c ps a3 c3 ds V hl hT hpl hP hdl hD
  rw [hE, Int.toNat_natCast] at z
  refine z.mono ?_
  rintro e w' ⟨a', rfl, hr, hb⟩
  have hbd := plainE_ok hE
  have h2 := hr.lies (by rw [putP_len, hN]; unfold maxLen; omega)
  rw [putP_len, hN] at h2
  rw [hN]
  exact ⟨a', rfl, h2, hb⟩
theorem POld0_any (N : Nat) (f d p r dr o sl md fr : Int) (ad : Option Addr) (cap : Nat) (zs : List Int) (hE : plainE (N : Int) f d p r dr o sl md fr zs = 0) (hl : zs.length ≤ 9223372036854775807) (a : Option Addr) (c : Nat) (M : List Prt) (hM : M.length = N) (hag : agesIn M) (V : World) (hT : Tab V ad zs) (hP : kPrt.Lies V.heap.size V (.slice a N c) M) :
    Calls Try.prog 9 #[.agg #[.int .i64 (N : Int), .int .i64 f, .int .i64 d, .int .i64 p, .int .i64 r, .int .i64 dr, .int .i64 o, .int .i64 sl, .int .i64 md, .int .i64 fr, .slice ad zs.length cap], .slice a N c] V fun e w' => ∃ a', e = .returned (.slice a' N N) ∧ kPrt.Lies w'.heap.size w' (.slice a' N N) (oldP fr M) ∧ Below V.heap.size V w' := by
  subst hM
  have hbd := plainE_ok hE
  have hL : lstP 0 M.length fr M = M := lstP_ok rfl fr rfl
  have z := POlder_any (M.length : Int) f d p r dr o sl md fr ad cap zs a c M V hl hT (by omega) hP hag
  rw [hE, Int.toNat_natCast, hL] at z
  refine z.mono ?_
  rintro e w' ⟨a', rfl, hr, hb⟩
  have h2 := hr.lies (by rw [oldP_len]; unfold maxLen; omega)
  rw [oldP_len] at h2
  exact ⟨a', rfl, h2, hb⟩
theorem PRead0_any (N : Nat) (f d p r dr o sl md fr : Int) (ad : Option Addr) (cap : Nat) (zs : List Int) (hE : plainE (N : Int) f d p r dr o sl md fr zs = 0) (hl : zs.length ≤ 9223372036854775807) (a : Option Addr) (c : Nat) (M : List Prt) (hM : M.length = N) (z : Int) (V : World) (hT : Tab V ad zs) (hP : kPrt.Lies V.heap.size V (.slice a N c) M) :
    Calls Try.prog 8 #[.agg #[.int .i64 (N : Int), .int .i64 f, .int .i64 d, .int .i64 p, .int .i64 r, .int .i64 dr, .int .i64 o, .int .i64 sl, .int .i64 md, .int .i64 fr, .slice ad zs.length cap], .slice a N c, .int .i64 z] V fun e w' => e = .returned (.tuple #[.string (rdT fr M z), .int .i64 (rdC fr M z), .bool (rdB fr M z)]) ∧ Below V.heap.size V w' := by
  subst hM
  have hbd := plainE_ok hE
  have hL : lstP 0 M.length fr M = M := lstP_ok rfl fr rfl
  have q := PRead_any (M.length : Int) f d p r dr o sl md fr ad cap zs a c M z V hl hT (by omega) hP
  rw [hE, Int.toNat_natCast, hL] at q
  exact q
end Go.Proofs.Ytgclabboafdheab

/- Texts compare as bytes; no conditions. -/
namespace Go.Proofs.Ytgclabboafdheab
set_option linter.unusedVariables false

theorem bq (a b : ByteArray) : (a.toList == b.toList) = decide (a = b) := by
  rw [Bool.eq_iff_iff, beq_iff_eq, decide_eq_true_iff, ByteArray.toList_eq, ByteArray.toList_eq]
  constructor
  · intro h
    apply ByteArray.ext
    exact Array.toList_inj.1 h
  · rintro rfl; rfl
end Go.Proofs.Ytgclabboafdheab

/- The document's call Same of layer 26 tells that two rows that are alike are, and makes at most new memory; conditions: the rows lie where they say, lengths fit int. -/
namespace Go.Proofs.Ytgclabboafdheab
open Go.ChangeShapes Go.WideShapes Go.ChangeAt Go.RowKit
set_option linter.unusedVariables false
attribute [local go_sem] cell_rg

/-- Are two ports alike? -/
def ptQ (t : ByteArray) (b c : Int) (t' : ByteArray) (b' c' : Int) : Bool := decide (t = t' ∧ b = b' ∧ c = c')
theorem ptQ_same (t : ByteArray) (b c : Int) : ptQ t b c t b c = true := by simp [ptQ]
theorem eqIn_pt (w : World) (t : ByteArray) (b c : Int) (t' : ByteArray) (b' c' : Int) :
    (Op.equalIn 10000 38 (.agg #[.string t, .int .i64 b, .int .i64 c]) (.agg #[.string t', .int .i64 b', .int .i64 c'])).run Try.prog w = .ok (ptQ t b c t' b' c') w := by
  rw [show (10000 : Nat) = 9999 + 1 from rfl, run_equalIn_agg w 9999 38 _ _ (by kernel_rfl) (by kernel_rfl)]
  unfold Program.fieldsOf
  rw [Try.underlying38]
  unfold ptQ
  by_cases h1 : t = t'
  · subst h1
    by_cases h2 : b = b'
    · subst h2
      by_cases h3 : c = c' <;> simp [go_sem, h3]
    · simp [go_sem, h2]
  · simp [go_sem, bq, h1]
theorem guard_pt (w : World) (op : BinOp) (x y : Operand) (xs ys : Array Value) : (eqGuard op 38 x y (.agg xs) (.agg ys)).run Try.prog w = .ok () w := run_eqGuard_agg w op _ x y xs ys (by kernel_rfl)
section
attribute [local go_sem ↓] eqIn_pt
attribute [local go_sem] guard_pt ptQ_same
set_option maxHeartbeats 4000000 in
theorem r26Same_any (v1 v2 : Value) (es : List Prt) (hlen : es.length ≤ 1000000) (w : World) (h1 : kPrt.Lies w.heap.size w v1 es) (h2 : kPrt.Lies w.heap.size w v2 es) :
    Calls Try.prog 10 #[v1, v2] w fun e w' => e = .returned (.bool true) ∧ Below w.heap.size w w' := by
  obtain ⟨a1, c1, rfl, _⟩ := id h1
  obtain ⟨a2, c2, rfl, _⟩ := id h2
  have H1 := hidden h1
  have H2 := hidden h2
  clear h1 h2
  go_enter Try.func10, Try.ntmps10
  go_wp2
  go_loopw [5] (fun i wr => ∃ k : Nat, k ≤ es.length ∧ i = .int .i64 k ∧ Below w.heap.size w wr) (fun i _ => es.length - (intV i).toNat)
  case atStart => exact ⟨0, Nat.zero_le _, rfl, Below.refl _ _⟩
  case round =>
    obtain ⟨k, hk, rfl, hB⟩ := hrel
    by_cases hlt : k < es.length
    · obtain ⟨b, off, rfl, hb1, e0, e1, e2⟩ := kPrt_three (H1.out.below hB) k hlt
      obtain ⟨b', off', rfl, hb2, f0, f1, f2⟩ := kPrt_three (H2.out.below hB) k hlt
      have i1 : (0 : Int) ≤ (k : Int) := by omega
      have i2 : (k : Int) < (es.length : Int) := by omega
      have hbw : b < wr.heap.size := by have := hB.size; omega
      have hbw' : b' < wr.heap.size := by have := hB.size; omega
      have HB := hidden hB
      clear hB
      generalize es[k] = q at *
      obtain ⟨x0, x1, x2⟩ := q
      dsimp only at e0 e1 e2 f0 f1 f2
      go_wp2
      refine wp_region_quiet_below (by kernel_rfl) (by kernel_rfl) ?_
      repeat (go_big_quiet_step (fail))
      refine wpQuiet_nil ?_
      intro w3 hw3
      have HB3 := hidden (bthen HB.out (rg_below hw3))
      clear hw3 e0 e1 e2 f0 f1 f2
      go_wp2
      go_roundw
      case rel => exact ⟨k + 1, by omega, by go_num, HB3.out⟩
      case measure => simp [intV]; omega
    · obtain rfl : k = es.length := by omega
      have i2 : ¬ (es.length : Int) < (es.length : Int) := by omega
      have HB := hidden hB
      clear hB
      go_wp2
      go_ret
      exact ⟨rfl, HB.out⟩
end
end Go.Proofs.Ytgclabboafdheab

/- The calls Rounds, Length and Bits of package conf return what the document says, of what is plain, else 0, and make at most new memory; conditions: the table lies where it says, and its length fits int. -/
namespace Go.Proofs.Ytgclabboafdheab
open Go.ChangeShapes Go.WideShapes Go.ChangeAt Go.RowKit
set_option linter.unusedVariables false
attribute [local go_sem] cell_rg

/-- x, if E is no error, else 0. -/
def gate (E x : Int) : Int := if E = 0 then x else 0
/-- Hides a fact from the walk. -/
theorem gate_ok (x : Int) : gate 0 x = x := if_pos rfl
theorem gate_no {E : Int} (h : ¬ E = 0) (x : Int) : gate E x = 0 := if_neg h
theorem gate_congr {E x y : Int} (h : E = 0 → x = y) : gate E x = gate E y := by
  unfold gate
  by_cases e : E = 0
  · rw [if_pos e, if_pos e, h e]
  · rw [if_neg e, if_neg e]

end Go.Proofs.Ytgclabboafdheab

/- The fixed configuration of the statements, and what is plain of it; no conditions. -/
namespace Go.Proofs.Ytgclabboafdheab
open Go.ChangeShapes Go.WideShapes Go.ChangeAt Go.RowKit
set_option linter.unusedVariables false

theorem Tab.four (w : World) (t : TypeId) (g : Nat) (hg : g = w.heap.size) : Tab (w.alloc (.cells #[.int .i64 0, .int .i64 1, .int .i64 2, .int .i64 3] t)) (some ⟨g, 0, none⟩) [0, 1, 2, 3] := by
  subst hg
  intro i hi
  refine ⟨_, rfl, ?_⟩
  have hi' : i = 0 ∨ i = 1 ∨ i = 2 ∨ i = 3 := by simp at hi; omega
  rcases hi' with rfl | rfl | rfl | rfl <;> exact World.cell?_alloc_mark w _ t _ _
theorem Tab.none (w : World) : Tab w none [] := fun i hi => absurd hi (Nat.not_lt_zero _)
theorem plainE_small : plainE 4 1 1 20 64 1 64 190 10 3 [0, 1, 2, 3] = 0 := by decide
theorem plainE_zero : plainE 0 0 0 0 0 0 0 0 0 0 [] = 7 := by decide
/-- The same call, where the answer is spelt otherwise. -/
theorem Calls.ret_to {P : Program} {F : FuncId} {args : Array Value} {w : World} {v u : Value} (h : Calls P F args w fun e w' => e = .returned v ∧ Below w.heap.size w w') (e : v = u) : Calls P F args w fun e w' => e = .returned u ∧ Below w.heap.size w w' := by
  rw [← e]; exact h
theorem val_i {a b : Int} (h : a = b) : Value.int .i64 a = .int .i64 b := by rw [h]
end Go.Proofs.Ytgclabboafdheab

/- The fixed calls of the statements on package port come out as they must, and make at most new memory; no conditions. -/
namespace Go.Proofs.Ytgclabboafdheab
open Go.ChangeShapes Go.WideShapes Go.ChangeAt Go.RowKit
set_option linter.unusedVariables false
attribute [local go_sem] cell_rg

theorem small26_any (w : World) :
    Calls Try.prog 13 #[] w fun e w' => ∃ g, e = .returned (.agg #[.int .i64 4, .int .i64 1, .int .i64 1, .int .i64 20, .int .i64 64, .int .i64 1, .int .i64 64, .int .i64 190, .int .i64 10, .int .i64 3, .slice (some ⟨g, 0, none⟩) 4 4]) ∧ Tab w' (some ⟨g, 0, none⟩) [0, 1, 2, 3] ∧ Below w.heap.size w w' := by
  go_enter Try.func13, Try.ntmps13
  go_wp2
  refine bodyPost_ret (v := .agg #[.int .i64 4, .int .i64 1, .int .i64 1, .int .i64 20, .int .i64 64, .int .i64 1, .int .i64 64, .int .i64 190, .int .i64 10, .int .i64 3, .slice (some ⟨w.heap.size + 1, 0, none⟩) 4 4]) (by simp [results, Try.results13, go_sem]) rfl ⟨_, rfl, Tab.four _ _ _ (by simp), Joins.below_alloc2 _ _ _⟩
def rowK : List Prt := [noP 3, ⟨⟨#[97]⟩, 7, 0⟩, noP 3, noP 3]
def dlvK : List Dlv := [⟨1, 0, 7, ⟨#[97]⟩⟩, ⟨9, 0, 0, ⟨#[]⟩⟩]
theorem lstK (ps : List Prt) : lstP (plainE 4 1 1 20 64 1 64 190 10 3 [0, 1, 2, 3]) (4 : Int).toNat 3 ps = lstP 0 4 3 ps := by rw [plainE_small]; rfl
theorem k26_a : putP (lstP 0 4 3 []) dlvK = rowK := by rfl
theorem k26_b : rdT 3 (lstP 0 4 3 rowK) 1 = ⟨#[97]⟩ := by rfl
theorem k26_c : rdC 3 (lstP 0 4 3 rowK) 1 = 7 := by rfl
theorem k26_d : rdB 3 (lstP 0 4 3 rowK) 1 = true := by rfl
theorem k26_e : rdB 3 (lstP 0 4 3 rowK) 0 = false := by rfl
theorem k26_f : oldP 3 (lstP 0 4 3 rowK) = [noP 3, ⟨⟨#[97]⟩, 7, 1⟩, noP 3, noP 3] := by rfl
theorem k26_g : (lstP 0 4 3 rowK).length = 4 := by rfl
theorem k26_h : (lstP 0 4 3 []).length = 4 := by rfl
theorem rowK_ages : agesIn rowK := by intro p hp; simp [rowK, noP] at hp; rcases hp with rfl | rfl | rfl | rfl <;> rfl
theorem cut_K (g : Nat) : ∀ V : World, (Instr.slice 25 (.slice (some ⟨g, 0, none⟩) 4 4) (some (.int .i64 1)) (some (.int .i64 2)) none).run Try.prog V = .ok (.slice (some ⟨g, 3, none⟩) 1 3) V := fun V => by kernel_rfl
set_option maxRecDepth 100000 in
set_option maxHeartbeats 8000000 in
theorem known26_any (w : World) :
    Calls Try.prog 14 #[] w fun e w' => e = .returned (.bool true) ∧ Below w.heap.size w w' := by
  go_enter Try.func14, Try.ntmps14
  go_wp2_with fail
  refine (small26_any _).mono ?_
  rintro e w1 ⟨g, rfl, hT, hb⟩
  have hA := ballc w1 (.cells #[.int .i64 4, .int .i64 1, .int .i64 1, .int .i64 20, .int .i64 64, .int .i64 1, .int .i64 64, .int .i64 190, .int .i64 10, .int .i64 3, .slice (some ⟨g, 0, none⟩) 4 4] 24)
  have HB1 := hidden (bthen hb hA)
  have HK1 := hidden (blk_nw w1 #[.int .i64 4, .int .i64 1, .int .i64 1, .int .i64 20, .int .i64 64, .int .i64 1, .int .i64 64, .int .i64 190, .int .i64 10, .int .i64 3, .slice (some ⟨g, 0, none⟩) 4 4] 24)
  have HT1 := hidden (hT.below hA)
  have C1 := hidden (fun V c3 h h2 => by have z := PPut_any 4 1 1 20 64 1 64 190 10 3 (some ⟨g, 0, none⟩) 4 [0, 1, 2, 3] none 0 [] (some ⟨c3, 0, none⟩) 2 dlvK V (by decide) h (by decide) (Kind.Lies.nil _ _) (by decide) h2; rwa [lstK, k26_a, k26_h] at z)
  have C2 := hidden (fun V a h h2 => by have z := PRead_any 4 1 1 20 64 1 64 190 10 3 (some ⟨g, 0, none⟩) 4 [0, 1, 2, 3] a 4 rowK 1 V (by decide) h (by decide) h2; rwa [lstK, k26_b, k26_c, k26_d] at z)
  have C3 := hidden (fun V a h h2 => by have z := PRead_any 4 1 1 20 64 1 64 190 10 3 (some ⟨g, 0, none⟩) 4 [0, 1, 2, 3] a 4 rowK 0 V (by decide) h (by decide) h2; rwa [lstK, k26_e] at z)
  have C4 := hidden (fun V a h h2 => by have z := POlder_any 4 1 1 20 64 1 64 190 10 3 (some ⟨g, 0, none⟩) 4 [0, 1, 2, 3] a 4 rowK V (by decide) h (by decide) h2 rowK_ages; rwa [lstK, k26_f, k26_g] at z)
  clear hT hb hA
  have HSZ : Hid (w1.heap.size + 1 = (w1.alloc (.cells #[.int .i64 4, .int .i64 1, .int .i64 1, .int .i64 20, .int .i64 64, .int .i64 1, .int .i64 64, .int .i64 190, .int .i64 10, .int .i64 3, .slice (some ⟨g, 0, none⟩) 4 4] 24)).heap.size) := by show _ = _; simp
  go_wp2_with fail
  generalize w1.alloc (.cells #[.int .i64 4, .int .i64 1, .int .i64 1, .int .i64 20, .int .i64 64, .int .i64 1, .int .i64 64, .int .i64 190, .int .i64 10, .int .i64 3, .slice (some ⟨g, 0, none⟩) 4 4] 24) = W1 at *
  have hD : kDlv.Lies (W1.alloc (.cells #[.int .i64 1, .int .i64 0, .int .i64 7, .string ⟨#[97]⟩, .int .i64 9, .int .i64 0, .int .i64 0, .string ⟨#[]⟩] 27)).heap.size (W1.alloc (.cells #[.int .i64 1, .int .i64 0, .int .i64 7, .string ⟨#[97]⟩, .int .i64 9, .int .i64 0, .int .i64 0, .string ⟨#[]⟩] 27)) (.slice (some ⟨w1.heap.size + 1, 0, none⟩) 2 2) dlvK := Kind.Lies.of_block (K := kDlv) (t := 27) (g := w1.heap.size + 1) (es := dlvK) (blk_newAt W1 _ _ HSZ.out) (by decide)
  refine (C1.out _ _ (HT1.out.below (ballc W1 _)) hD).mono ?_
  rintro e w2 ⟨a, rfl, hr, hb⟩
  have hb2 := bthen (ballc W1 (.cells #[.int .i64 1, .int .i64 0, .int .i64 7, .string ⟨#[97]⟩, .int .i64 9, .int .i64 0, .int .i64 0, .string ⟨#[]⟩] 27)) hb
  have HB2 := hidden (bthen HB1.out hb2)
  have k0 := blk_later HK1.out hb2
  have HT2 := hidden (HT1.out.below hb2)
  have HL2 := hidden (hr.lies (by decide))
  have HK2 := hidden k0
  have b0 := blk_cell k0
  have l0 := blk_lt k0
  clear hb hb2 hr hD k0 HK1 HT1 HB1
  go_wp2_with fail
  refine (C2.out _ _ HT2.out HL2.out).mono ?_
  rintro e w3 ⟨rfl, hb⟩
  have HB3 := hidden (bthen HB2.out hb)
  have k0 := blk_later HK2.out hb
  have HT3 := hidden (HT2.out.below hb)
  have HL3 := hidden (HL2.out.later hb)
  have HK3 := hidden k0
  clear b0 l0
  have b0 := blk_cell k0
  have l0 := blk_lt k0
  clear hb k0 HK2 HT2 HB2 HL2
  go_wp2_with fail
  refine (C3.out _ _ HT3.out HL3.out).mono ?_
  rintro e w4 ⟨rfl, hb⟩
  have HB4 := hidden (bthen HB3.out hb)
  have HK4 := hidden (blk_later HK3.out hb)
  have HT4 := hidden (HT3.out.below hb)
  have HL4 := hidden (HL3.out.later hb)
  clear hb HK3 HT3 HB3 HL3 b0 l0
  generalize rdT 3 (lstP 0 4 3 rowK) 0 = x0 at *
  generalize rdC 3 (lstP 0 4 3 rowK) 0 = x1 at *
  go_wp2_with fail
  have hS : kPrt.Lies (w4.alloc (.cells #[.string ⟨#[]⟩, .int .i64 0, .int .i64 3, .string ⟨#[97]⟩, .int .i64 7, .int .i64 0, .string ⟨#[]⟩, .int .i64 0, .int .i64 3, .string ⟨#[]⟩, .int .i64 0, .int .i64 3] 38)).heap.size (w4.alloc (.cells #[.string ⟨#[]⟩, .int .i64 0, .int .i64 3, .string ⟨#[97]⟩, .int .i64 7, .int .i64 0, .string ⟨#[]⟩, .int .i64 0, .int .i64 3, .string ⟨#[]⟩, .int .i64 0, .int .i64 3] 38)) (.slice (some ⟨w4.heap.size, 0, none⟩) 4 4) rowK := Kind.Lies.of_block (K := kPrt) (t := 38) (g := w4.heap.size) (es := rowK) (heap_alloc_new w4 _) (by decide)
  refine (r26Same_any (.slice a 4 4) (.slice (some ⟨w4.heap.size, 0, none⟩) 4 4) rowK (by decide) _ (HL4.out.later (ballc w4 _)) hS).mono ?_
  rintro e w5 ⟨rfl, hb⟩
  have hb5 := bthen (ballc w4 (.cells #[.string ⟨#[]⟩, .int .i64 0, .int .i64 3, .string ⟨#[97]⟩, .int .i64 7, .int .i64 0, .string ⟨#[]⟩, .int .i64 0, .int .i64 3, .string ⟨#[]⟩, .int .i64 0, .int .i64 3] 38)) hb
  have HB5 := hidden (bthen HB4.out hb5)
  have k0 := blk_later HK4.out hb5
  have HT5 := hidden (HT4.out.below hb5)
  have HL5 := hidden (HL4.out.later hb5)
  have b0 := blk_cell k0
  have l0 := blk_lt k0
  clear hb hb5 hS k0 HK4 HT4 HB4 HL4
  go_wp2_with fail
  refine (C4.out _ _ HT5.out HL5.out).mono ?_
  rintro e w6 ⟨a6, rfl, hr, hb⟩
  obtain ⟨g6, rfl, _, hG⟩ := hr.blk (by decide)
  have HL6 := hidden (((hr.lies (by decide)).drop 1 (by decide)).take 1 (by decide))
  have HB6 := hidden (bthen HB5.out hb)
  have hcut := cut_K g6
  clear hb hr hG HT5 HB5 HL5 b0 l0
  go_wp2_with fail
  have hS : kPrt.Lies (w6.alloc (.cells #[.string ⟨#[97]⟩, .int .i64 7, .int .i64 1] 38)).heap.size (w6.alloc (.cells #[.string ⟨#[97]⟩, .int .i64 7, .int .i64 1] 38)) (.slice (some ⟨w6.heap.size, 0, none⟩) 1 1) [⟨⟨#[97]⟩, 7, 1⟩] := Kind.Lies.of_block (K := kPrt) (t := 38) (g := w6.heap.size) (es := [⟨⟨#[97]⟩, 7, 1⟩]) (heap_alloc_new w6 _) (by decide)
  refine (r26Same_any (.slice (some ⟨g6, 3, none⟩) 1 3) (.slice (some ⟨w6.heap.size, 0, none⟩) 1 1) [⟨⟨#[97]⟩, 7, 1⟩] (by decide) _ (HL6.out.later (ballc w6 _)) hS).mono ?_
  rintro e w7 ⟨rfl, hb⟩
  have HB7 := hidden (bthen HB6.out (bthen (ballc w6 (.cells #[.string ⟨#[97]⟩, .int .i64 7, .int .i64 1] 38)) hb))
  clear hb hS
  go_wp2
  go_ret
  exact ⟨rfl, HB7.out⟩
theorem alive_any (w : World) :
    Calls Try.prog 6 #[] w fun e w' => e = .returned (.bool true) ∧ Below w.heap.size w w' := by
  have KN := hidden (fun V => known26_any V)
  go_enter Try.func6, Try.ntmps6
  go_wp2_with fail
  refine (small26_any _).mono ?_
  rintro e w1 ⟨g, rfl, hT, hb⟩
  have HB1 := hidden hb
  have hc : Calls Try.prog 9 #[.agg #[.int .i64 4, .int .i64 1, .int .i64 1, .int .i64 20, .int .i64 64, .int .i64 1, .int .i64 64, .int .i64 190, .int .i64 10, .int .i64 3, .slice (some ⟨g, 0, none⟩) 4 4], .slice none 0 0] w1 fun e w' => ∃ a, e = .returned (.slice a 4 4) ∧ Below w1.heap.size w1 w' := by
    have z := POlder_any 4 1 1 20 64 1 64 190 10 3 (some ⟨g, 0, none⟩) 4 [0, 1, 2, 3] none 0 [] w1 (by decide) hT (by decide) (Kind.Lies.nil _ _) (fun p hp => by cases hp)
    rw [lstK, k26_h] at z
    exact z.mono (fun e w' ⟨a, h1, _, h2⟩ => ⟨a, h1, h2⟩)
  clear hb
  go_wp2_with fail
  refine hc.mono ?_
  rintro e w2 ⟨a, rfl, hb2⟩
  have HB2 := hidden (bthen HB1.out hb2)
  clear hb2 hc hT
  go_wp2_with fail
  refine (KN.out _).mono ?_
  rintro e w3 ⟨rfl, hb3⟩
  have HB3 := hidden (bthen HB2.out hb3)
  clear hb3
  go_wp2
  go_ret
  exact ⟨rfl, HB3.out⟩
end Go.Proofs.Ytgclabboafdheab
