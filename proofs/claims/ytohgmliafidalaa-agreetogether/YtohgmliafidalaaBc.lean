/- Several texts of one's own in one: what each proves, and its conditions, is said ahead of it. -/
import Derived.Test.YtohgmliafidalaaBa
import Derived.Test.YtohgmliafidalaaBb
import Derived.Laws.OwnMore
import Derived.Laws.AppendOwnNone
import Derived.Maps.AppendAt
import Derived.OwnWalkIn
import Derived.Deep.Slices
import Derived.ChangeSame
import Derived.WalkSpells
import Derived.Laws.BytesString
import Derived.Deep.OwnRows
import Derived.Laws.IdiomStrings

/- The calls eachOwns of package conf and owned of the document's answer tell whether each owner is a node and each node owns a slot; conditions: 4 to 13 nodes. -/
namespace Go.Proofs.Ytohgmliafidalaa
open Go.ChangeShapes Go.WideShapes Go.ChangeAt Go.RowKit
set_option linter.unusedVariables false
attribute [local go_sem] cell_rg

def ownsB (n : Int) (zs : List Int) : Bool := zs.all (fun z => decide (0 ≤ z ∧ z ≤ n - 1)) && (List.range n.toNat).all (fun j => decide ((j : Int) ∈ zs))
theorem ownsB_iff {n : Int} {zs : List Int} : ownsB n zs = true ↔ (∀ z ∈ zs, 0 ≤ z ∧ z ≤ n - 1) ∧ ∀ j : Nat, (j : Int) < n → (j : Int) ∈ zs := by
  unfold ownsB
  simp only [Bool.and_eq_true, List.all_eq_true, decide_eq_true_eq, List.mem_range]
  constructor
  · rintro ⟨h1, h2⟩
    exact ⟨h1, fun j hj => h2 j (by omega)⟩
  · rintro ⟨h1, h2⟩
    exact ⟨h1, fun j hj => h2 j (by omega)⟩
theorem ownsB_bad {n : Int} {zs : List Int} (k : Nat) (hk : k < zs.length) (h : ¬ (0 ≤ zs.getD k 0 ∧ zs.getD k 0 ≤ n - 1)) : ownsB n zs = false := by
  rw [← Bool.not_eq_true, ownsB_iff]
  rintro ⟨h1, _⟩
  refine h (h1 _ ?_)
  rw [List.getD_eq_getElem?_getD, List.getElem?_eq_getElem hk]
  exact List.getElem_mem hk
theorem ownsB_miss {n : Int} {zs : List Int} (j : Nat) (hj : (j : Int) < n) (h : ¬ (j : Int) ∈ zs) : ownsB n zs = false := by
  rw [← Bool.not_eq_true, ownsB_iff]
  rintro ⟨_, h2⟩
  exact h (h2 j hj)
theorem ownsB_yes {n : Int} {zs : List Int} (h1 : ∀ z ∈ zs, 0 ≤ z ∧ z ≤ n - 1) (h2 : ∀ j : Nat, (j : Int) < n → (j : Int) ∈ zs) : ownsB n zs = true := ownsB_iff.2 ⟨h1, h2⟩
theorem take_succ_getD {zs : List Int} (k : Nat) (hk : k < zs.length) : zs.take (k + 1) = zs.take k ++ [zs.getD k 0] := by
  rw [List.take_succ_eq_append_getElem hk, List.getD_eq_getElem?_getD, List.getElem?_eq_getElem hk]; rfl

theorem within_yes (x a b : Int) (w : World) (h1 : a ≤ x) (h2 : x ≤ b) :
    Calls Try.prog 36 #[.int .i64 x, .int .i64 a, .int .i64 b] w fun e w' => e = .returned (.bool true) ∧ w' = w := by
  go_enter Try.func36, Try.ntmps36
  go_wp2
  go_ret
  exact ⟨rfl, rfl⟩
theorem within_no (x a b : Int) (w : World) (h : ¬ (a ≤ x ∧ x ≤ b)) :
    Calls Try.prog 36 #[.int .i64 x, .int .i64 a, .int .i64 b] w fun e w' => e = .returned (.bool false) ∧ w' = w := by
  by_cases h1 : a ≤ x
  · have h2 : ¬ x ≤ b := fun h2 => h ⟨h1, h2⟩
    clear h
    have h2' : decide (x ≤ b) = false := by simp [h2]
    go_enter Try.func36, Try.ntmps36
    go_wp2
    go_ret
    exact ⟨rfl, rfl⟩
  · clear h
    have h1' : decide (a ≤ x) = false := by simp [h1]
    go_enter Try.func36, Try.ntmps36
    go_wp2
    go_ret
    exact ⟨rfl, rfl⟩

/-- The owners up to k hold node j. -/
def hasTo (zs : List Int) (k : Nat) (j : Nat) : Bool := decide ((j : Int) ∈ zs.take k)
theorem hasTo_zero (zs : List Int) (j : Nat) : hasTo zs 0 j = false := by simp [hasTo]
theorem hasTo_succ {zs : List Int} (k : Nat) (hk : k < zs.length) (j : Nat) : hasTo zs (k + 1) j = (hasTo zs k j || decide (zs.getD k 0 = (j : Int))) := by
  unfold hasTo
  rw [take_succ_getD k hk]
  by_cases h : (j : Int) ∈ zs.take k <;> simp only [List.mem_append, List.mem_singleton, h, decide_true, decide_false, Bool.true_or, Bool.false_or, true_or, false_or]
  exact decide_eq_decide.2 ⟨fun h => h.symm, fun h => h.symm⟩
theorem hasTo_all {zs : List Int} {j : Nat} : hasTo zs zs.length j = true ↔ (j : Int) ∈ zs := by simp [hasTo]

theorem all_succ {zs : List Int} {n : Int} (k : Nat) (hk : k < zs.length) (h : ∀ z ∈ zs.take k, 0 ≤ z ∧ z ≤ n - 1) (h1 : 0 ≤ zs.getD k 0) (h2 : zs.getD k 0 ≤ n - 1) : ∀ z ∈ zs.take (k + 1), 0 ≤ z ∧ z ≤ n - 1 := by
  intro z hz
  rw [take_succ_getD k hk, List.mem_append, List.mem_singleton] at hz
  rcases hz with hz | rfl
  · exact h z hz
  · exact ⟨h1, h2⟩
theorem bdrew {w W : World} (h : Below w.heap.size w W) (m : Nat) : Below w.heap.size w (W.drewN m) := bthen h (Joins.below_draws _ _ _)

set_option maxHeartbeats 1000000 in
theorem owned_any (n f d p r dr o sl md fr : Int) (ad : Option Addr) (cap : Nat) (zs : List Int) (w : World) (hn1 : 4 ≤ n) (hn2 : n ≤ 13) (hl : zs.length ≤ 9223372036854775807) (hT : Tab w ad zs) :
    Calls Try.prog 37 #[.agg #[.int .i64 n, .int .i64 f, .int .i64 d, .int .i64 p, .int .i64 r, .int .i64 dr, .int .i64 o, .int .i64 sl, .int .i64 md, .int .i64 fr, .slice ad zs.length cap]] w fun e w' => e = .returned (.bool (ownsB n zs)) ∧ Below w.heap.size w w' := by
  have hw1 : IntKind.i64.wrap (n - 1) = n - 1 := IntWalk.i64_in (n - 1) (by omega)
  have HT : Hid (Tab (w.alloc (.cells #[.int .i64 n, .int .i64 f, .int .i64 d, .int .i64 p, .int .i64 r, .int .i64 dr, .int .i64 o, .int .i64 sl, .int .i64 md, .int .i64 fr, .slice ad zs.length cap] 24)) ad zs) := hT.below (ballc _ _)
  clear hT
  go_enter Try.func37, Try.ntmps37
  go_wp2
  go_loopw [3] (fun i wl => ∃ k : Nat, k ≤ zs.length ∧ i = .int .i64 k ∧ (∀ z ∈ zs.take k, 0 ≤ z ∧ z ≤ n - 1) ∧ Below (w.alloc (.cells #[.int .i64 n, .int .i64 f, .int .i64 d, .int .i64 p, .int .i64 r, .int .i64 dr, .int .i64 o, .int .i64 sl, .int .i64 md, .int .i64 fr, .slice ad zs.length cap] 24)).heap.size (w.alloc (.cells #[.int .i64 n, .int .i64 f, .int .i64 d, .int .i64 p, .int .i64 r, .int .i64 dr, .int .i64 o, .int .i64 sl, .int .i64 md, .int .i64 fr, .slice ad zs.length cap] 24)) wl) (fun i _ => zs.length - (intOf i).toNat)
  case atStart => exact ⟨0, Nat.zero_le _, rfl, by simp, Below.refl _ _⟩
  case round =>
    obtain ⟨k, hk, rfl, hall, hb⟩ := hrel
    have HA : Hid (∀ z ∈ zs.take k, 0 ≤ z ∧ z ≤ n - 1) := hall
    have HB : Hid (Below (w.alloc (.cells #[.int .i64 n, .int .i64 f, .int .i64 d, .int .i64 p, .int .i64 r, .int .i64 dr, .int .i64 o, .int .i64 sl, .int .i64 md, .int .i64 fr, .slice ad zs.length cap] 24)).heap.size (w.alloc (.cells #[.int .i64 n, .int .i64 f, .int .i64 d, .int .i64 p, .int .i64 r, .int .i64 dr, .int .i64 o, .int .i64 sl, .int .i64 md, .int .i64 fr, .slice ad zs.length cap] 24)) wr) := hb
    obtain ⟨hbox, hsz⟩ := box_at hb
    clear hall hb
    by_cases hlt : k < zs.length
    · obtain ⟨a, rfl, hc, ha⟩ := (HT.out.below HB.out).lies k hlt
      generalize hzz : zs.getD k 0 = z at hc
      have HZ : Hid (zs.getD k 0 = z) := hzz
      clear hzz
      by_cases hz : 0 ≤ z ∧ z ≤ n - 1
      · have hq := fun v => Calls.to_belowR (within_yes z 0 (n - 1) v hz.1 hz.2)
        have HN : Hid (0 ≤ z ∧ z ≤ n - 1) := hz
        clear hz
        go_wp2
        refine wp_region_quiet_below (by kernel_rfl) (by kernel_rfl) ?_
        repeat (go_big_quiet_step (exact Calls.regrown_of (hq _)))
        refine wpQuiet_nil ?_
        intro w2 hw2
        have HB2 : Hid (Below wr.heap.size wr w2) := rg_below hw2
        clear hw2
        go_wp2
        go_roundw
        case rel => exact ⟨k + 1, by omega, by go_num, all_succ k hlt HA.out (by rw [HZ.out]; exact HN.out.1) (by rw [HZ.out]; exact HN.out.2), bthen HB.out HB2.out⟩
        case measure => simp [intOf]; omega
      · have hq := fun v => Calls.to_belowR (within_no z 0 (n - 1) v hz)
        have HN : Hid (¬ (0 ≤ z ∧ z ≤ n - 1)) := hz
        clear hz
        go_wp2
        refine wp_region_quiet_below (by kernel_rfl) (by kernel_rfl) ?_
        repeat (go_big_quiet_step (exact Calls.regrown_of (hq _)))
        refine wpQuiet_nil ?_
        intro w2 hw2
        have HB2 : Hid (Below wr.heap.size wr w2) := rg_below hw2
        clear hw2
        go_wp2
        go_ret
        exact ⟨ret_b (by rw [ownsB_bad k hlt (by rw [HZ.out]; exact HN.out)]), bthen (bthen (ballc _ _) HB.out) HB2.out⟩
    · have hk' : k = zs.length := by omega
      subst hk'
      clear hk hw1
      go_wp2
      go_loop [4] (fun i => ∃ j : Nat, (j : Int) ≤ n ∧ i = .int .i64 j ∧ (∀ t : Nat, t < j → (t : Int) ∈ zs)) (fun i => (n - intOf i).toNat)
      case atStart => exact ⟨0, by omega, rfl, by simp⟩
      case round =>
        obtain ⟨j, hj, rfl, hown⟩ := hrel
        have HO : Hid (∀ t : Nat, t < j → (t : Int) ∈ zs) := hown
        clear hown
        by_cases hjn : (j : Int) < n
        · go_wp2
          go_loop [5, 6] (fun h i => ∃ k : Nat, k ≤ zs.length ∧ i = .int .i64 k ∧ h = .bool (hasTo zs k j)) (fun _ i => zs.length - (intOf i).toNat)
          case atStart => exact ⟨0, Nat.zero_le _, rfl, by rw [hasTo_zero]⟩
          case round =>
            obtain ⟨k, hk, rfl, rfl⟩ := hrel
            by_cases hlt2 : k < zs.length
            · obtain ⟨a, rfl, hc, ha⟩ := (HT.out.below HB.out).lies k hlt2
              have HS := hasTo_succ k hlt2 j
              generalize hzz : zs.getD k 0 = z at hc HS
              clear hzz
              generalize hg : hasTo zs k j = hs at HS
              have HG : Hid (hasTo zs k j = hs) := hg
              clear hg
              have HS' : Hid (hasTo zs (k + 1) j = (hs || decide (z = (j : Int)))) := HS
              clear HS
              cases hs with
              | true =>
                go_wp2
                go_round
                case rel => exact ⟨k + 1, by omega, by go_num, by rw [HS'.out]; rfl⟩
                case measure => simp [intOf]; omega
              | false =>
                by_cases hzj : z = (j : Int)
                all_goals
                  go_wp2
                  go_round
                  case rel => exact ⟨k + 1, by omega, by go_num, by rw [HS'.out]; simp [hzj]⟩
                  case measure => simp [intOf]; omega
            · have hk' : k = zs.length := by omega
              subst hk'
              by_cases hh : hasTo zs zs.length j = true
              · have HJ : Hid ((j : Int) ∈ zs) := hasTo_all.1 hh
                go_wp2
                go_round
                case rel => exact ⟨j + 1, by omega, by go_num, fun t ht => by
                  by_cases e : t = j
                  · subst e; exact HJ.out
                  · exact HO.out t (by omega)⟩
                case measure => simp [intOf]; omega
              · have HJ : Hid (¬ (j : Int) ∈ zs) := fun h => hh (hasTo_all.2 h)
                have hh' : hasTo zs zs.length j = false := by simpa using hh
                clear hh
                go_wp2
                go_ret
                exact ⟨ret_b (by rw [ownsB_miss j hjn HJ.out]), bthen (ballc _ _) HB.out⟩
        · go_wp2
          go_ret
          exact ⟨ret_b (by rw [ownsB_yes (by simpa using HA.out) (fun t ht => HO.out t (by omega))]), bthen (ballc _ _) HB.out⟩
end Go.Proofs.Ytohgmliafidalaa

/- The call eachOwns of package conf tells whether each owner is a node and each node owns a slot; conditions: 4 to 13 nodes. -/
namespace Go.Proofs.Ytohgmliafidalaa
open Go.ChangeShapes Go.WideShapes Go.ChangeAt Go.RowKit
set_option linter.unusedVariables false

theorem hold_yes (a b x : Int) (w : World) (h1 : a ≤ x) (h2 : x ≤ b) :
    Calls Try.prog 92 #[.agg #[.int .i64 a, .int .i64 b], .int .i64 x] w fun e w' => e = .returned (.bool true) ∧ Below w.heap.size w w' :=
  (hold_any a b x w).mono fun e w' ⟨he, hb⟩ => ⟨by rw [he]; exact ret_b (decide_eq_true ⟨h1, h2⟩), hb⟩
theorem hold_no (a b x : Int) (w : World) (h : ¬ (a ≤ x ∧ x ≤ b)) :
    Calls Try.prog 92 #[.agg #[.int .i64 a, .int .i64 b], .int .i64 x] w fun e w' => e = .returned (.bool false) ∧ Below w.heap.size w w' :=
  (hold_any a b x w).mono fun e w' ⟨he, hb⟩ => ⟨by rw [he]; exact ret_b (decide_eq_false h), hb⟩

/-- The marks of a count of owners, in a block of the call's own. -/
structure Marks (w0 wl : World) (g N : Nat) (h : Nat → Bool) : Prop where
  c0 : wl.cell? ⟨g, 0, none⟩ = some (.int .i64 0)
  c1 : wl.cell? ⟨g, 1, none⟩ = some (.int .i64 ((N : Int) - 1))
  m : ∀ j, j < 13 → wl.cell? ⟨g, 2 + j, none⟩ = some (.bool (h j))
  fz : ∀ i, wl.frozen? ⟨g, i, none⟩ = false
  lt : g < wl.heap.size
  bel : Below g w0 wl
theorem Marks.start (w0 : World) (N : Nat) (t : TypeId) (h : Nat → Bool) (h0 : ∀ j, h j = false) : Marks w0 (w0.alloc (.cells #[.int .i64 0, .int .i64 ((N : Int) - 1), .bool false, .bool false, .bool false, .bool false, .bool false, .bool false, .bool false, .bool false, .bool false, .bool false, .bool false, .bool false, .bool false] t)) w0.heap.size N h where
  c0 := by rw [World.cell?_alloc_mark]; rfl
  c1 := by rw [World.cell?_alloc_mark]; rfl
  m := by
    intro j hj
    rw [World.cell?_alloc_mark, h0]
    have hj' : j = 0 ∨ j = 1 ∨ j = 2 ∨ j = 3 ∨ j = 4 ∨ j = 5 ∨ j = 6 ∨ j = 7 ∨ j = 8 ∨ j = 9 ∨ j = 10 ∨ j = 11 ∨ j = 12 := by omega
    rcases hj' with rfl | rfl | rfl | rfl | rfl | rfl | rfl | rfl | rfl | rfl | rfl | rfl | rfl <;> rfl
  fz := fun i => Joins.unfrozen_of_block (heap_alloc_new w0 _) i
  lt := by simp
  bel := ballc _ _
theorem Marks.grow {w0 wl w2 : World} {g N : Nat} {h : Nat → Bool} (k : Marks w0 wl g N h) (hb : Below wl.heap.size wl w2) : Marks w0 w2 g N h where
  c0 := by rw [hb.cell k.lt]; exact k.c0
  c1 := by rw [hb.cell k.lt]; exact k.c1
  m := fun j hj => by rw [hb.cell k.lt]; exact k.m j hj
  fz := fun i => by rw [hb.frozen k.lt]; exact k.fz i
  lt := Nat.lt_of_lt_of_le k.lt hb.size
  bel := k.bel.trans (hb.mono (Nat.le_of_lt k.lt))
theorem Marks.set {w0 wl : World} {g N : Nat} {h h' : Nat → Bool} (k : Marks w0 wl g N h) (t : Nat) (ht : t < 13) (hh : ∀ j, h' j = (h j || decide ((t : Int) = (j : Int)))) : Marks w0 (wl.setCell ⟨g, 2 + t, none⟩ (.bool true)) g N h' where
  c0 := by rw [World.cell?_setCell_other _ _ _ _ (by simp <;> omega)]; exact k.c0
  c1 := by rw [World.cell?_setCell_other _ _ _ _ (by simp <;> omega)]; exact k.c1
  m := fun j hj => by
    rw [hh]
    by_cases e : t = j
    · subst e
      rw [World.cell?_setCell_same _ _ _ (k.m t ht)]
      simp
    · rw [World.cell?_setCell_other _ _ _ _ (by simp <;> omega), k.m j hj]
      have : ¬ (t : Int) = (j : Int) := by omega
      simp [this]
  fz := fun i => by rw [World.frozen?_setCell]; exact k.fz i
  lt := by have := k.lt; simpa using this
  bel := k.bel.setCell (Nat.le_refl _) _

theorem Marks.below0 {w wl : World} {ob : Obj} {N : Nat} {h : Nat → Bool} (k : Marks (w.alloc ob) wl (w.heap.size + 1) N h) : Below (w.alloc ob).heap.size (w.alloc ob) wl := by
  have e : (w.alloc ob).heap.size = w.heap.size + 1 := by simp
  rw [e]; exact k.bel
set_option maxHeartbeats 1000000 in
theorem eachOwns_any (n f d p r dr o sl md fr : Int) (ad : Option Addr) (cap : Nat) (zs : List Int) (w : World) (hn1 : 4 ≤ n) (hn2 : n ≤ 13) (hl : zs.length ≤ 9223372036854775807) (hT : Tab w ad zs) :
    Calls Try.prog 93 #[.agg #[.int .i64 n, .int .i64 f, .int .i64 d, .int .i64 p, .int .i64 r, .int .i64 dr, .int .i64 o, .int .i64 sl, .int .i64 md, .int .i64 fr, .slice ad zs.length cap]] w fun e w' => e = .returned (.bool (ownsB n zs)) ∧ Below w.heap.size w w' := by
  obtain ⟨N, rfl⟩ : ∃ N : Nat, n = (N : Int) := ⟨n.toNat, by omega⟩
  have HT : Hid (Tab (w.alloc (.cells #[.int .i64 (N : Int), .int .i64 f, .int .i64 d, .int .i64 p, .int .i64 r, .int .i64 dr, .int .i64 o, .int .i64 sl, .int .i64 md, .int .i64 fr, .slice ad zs.length cap] 24)) ad zs) := hT.below (ballc _ _)
  clear hT
  have hM0 := Marks.start (w.alloc (.cells #[.int .i64 (N : Int), .int .i64 f, .int .i64 d, .int .i64 p, .int .i64 r, .int .i64 dr, .int .i64 o, .int .i64 sl, .int .i64 md, .int .i64 fr, .slice ad zs.length cap] 24)) N 135 (hasTo zs 0) (hasTo_zero zs)
  have hg : (w.alloc (.cells #[.int .i64 (N : Int), .int .i64 f, .int .i64 d, .int .i64 p, .int .i64 r, .int .i64 dr, .int .i64 o, .int .i64 sl, .int .i64 md, .int .i64 fr, .slice ad zs.length cap] 24)).heap.size = w.heap.size + 1 := by simp
  rw [hg] at hM0
  have HM0 : Hid _ := hM0
  clear hM0
  go_enter Try.func93, Try.ntmps93
  go_wp2
  go_loopw [16] (fun i wl => ∃ k : Nat, k ≤ zs.length ∧ i = .int .i64 k ∧ (∀ z ∈ zs.take k, 0 ≤ z ∧ z ≤ (N : Int) - 1) ∧ Marks (w.alloc (.cells #[.int .i64 (N : Int), .int .i64 f, .int .i64 d, .int .i64 p, .int .i64 r, .int .i64 dr, .int .i64 o, .int .i64 sl, .int .i64 md, .int .i64 fr, .slice ad zs.length cap] 24)) wl (w.heap.size + 1) N (hasTo zs k)) (fun i _ => zs.length - (intOf i).toNat)
  case atStart => exact ⟨0, Nat.zero_le _, rfl, by simp, HM0.out⟩
  case round =>
    obtain ⟨k, hk, rfl, hall, hM⟩ := hrel
    clear HM0
    have HA : Hid (∀ z ∈ zs.take k, 0 ≤ z ∧ z ≤ (N : Int) - 1) := hall
    have HM : Hid (Marks (w.alloc (.cells #[.int .i64 (N : Int), .int .i64 f, .int .i64 d, .int .i64 p, .int .i64 r, .int .i64 dr, .int .i64 o, .int .i64 sl, .int .i64 md, .int .i64 fr, .slice ad zs.length cap] 24)) wr (w.heap.size + 1) N (hasTo zs k)) := hM
    have hc0 := hM.c0
    have hc1 := hM.c1
    have hfz := hM.fz
    have hlt := hM.lt
    have hbox : ∀ i, wr.cell? ⟨w.heap.size, i, none⟩ = #[.int .i64 (N : Int), .int .i64 f, .int .i64 d, .int .i64 p, .int .i64 r, .int .i64 dr, .int .i64 o, .int .i64 sl, .int .i64 md, .int .i64 fr, .slice ad zs.length cap][i]? := fun i => by
      rw [hM.bel.cell (by simp)]; exact World.cell?_alloc_mark _ _ _ _ i
    have HTr : Hid (Tab wr ad zs) := HT.out.below (by rw [hg]; exact hM.bel)
    clear hall hM hg
    by_cases hlt : k < zs.length
    · obtain ⟨a, rfl, hc, ha⟩ := HTr.out.lies k hlt
      generalize hzz : zs.getD k 0 = z at hc
      have HZ : Hid (zs.getD k 0 = z) := hzz
      clear hzz
      by_cases hz : 0 ≤ z ∧ z ≤ (N : Int) - 1
      · have HN : Hid (0 ≤ z ∧ z ≤ (N : Int) - 1) := hz
        obtain ⟨t, rfl⟩ : ∃ t : Nat, z = (t : Int) := ⟨z.toNat, by omega⟩
        have ht : t < 13 := by omega
        have hq := fun v => hold_yes 0 ((N : Int) - 1) t v hz.1 hz.2
        clear hz
        go_wp2_with fail
        refine (hq _).mono ?_
        rintro e w2 ⟨rfl, hb2⟩
        have HM2 : Hid (Marks _ w2 (w.heap.size + 1) N (hasTo zs k)) := HM.out.grow hb2
        have hcm := HM2.out.m t ht
        have hfm := HM2.out.fz (2 + t)
        clear hb2
        go_wp2
        go_roundw
        case rel => exact ⟨k + 1, by omega, by go_num, all_succ k hlt HA.out (by rw [HZ.out]; exact HN.out.1) (by rw [HZ.out]; exact HN.out.2), HM2.out.set (h' := hasTo zs (k + 1)) t ht (fun j => by rw [hasTo_succ k hlt j, HZ.out])⟩
        case measure => simp [intOf]; omega
      · have hq := fun v => hold_no 0 ((N : Int) - 1) z v hz
        have HN : Hid (¬ (0 ≤ z ∧ z ≤ (N : Int) - 1)) := hz
        clear hz
        go_wp2_with (go_at_call 92; refine (hq _).mono ?_; rintro e w2 ⟨rfl, hb2⟩; have HB2 : Hid (Below wr.heap.size wr w2) := hb2; clear hb2)
        go_ret
        exact ⟨ret_b (by rw [ownsB_bad k hlt (by rw [HZ.out]; exact HN.out)]), bthen (bthen (ballc w _) (HM.out.below0)) HB2.out⟩
    · have hk' : k = zs.length := by omega
      subst hk'
      have hcm := HM.out.m
      go_wp2
      go_loop [34] (fun i => ∃ j : Nat, j ≤ N ∧ i = .int .i64 j ∧ (∀ t : Nat, t < j → (t : Int) ∈ zs)) (fun i => N - (intOf i).toNat)
      case atStart => exact ⟨0, by omega, rfl, by simp⟩
      case round =>
        obtain ⟨j, hj, rfl, hown⟩ := hrel
        have HO : Hid (∀ t : Nat, t < j → (t : Int) ∈ zs) := hown
        clear hown
        by_cases hjn : j < N
        · have hcj := hcm j (by omega)
          clear hcm
          by_cases hh : hasTo zs zs.length j = true
          · have HJ : Hid ((j : Int) ∈ zs) := hasTo_all.1 hh
            rw [hh] at hcj
            clear hh
            go_wp2
            go_round
            case rel => exact ⟨j + 1, by omega, by go_num, fun t ht => by
              by_cases e : t = j
              · subst e; exact HJ.out
              · exact HO.out t (by omega)⟩
            case measure => simp [intOf]; omega
          · have HJ : Hid (¬ (j : Int) ∈ zs) := fun h => hh (hasTo_all.2 h)
            have hh' : hasTo zs zs.length j = false := by simpa using hh
            rw [hh'] at hcj
            clear hh hh'
            go_wp2
            go_ret
            exact ⟨ret_b (by rw [ownsB_miss j (by omega) HJ.out]), bthen (ballc w _) (HM.out.below0)⟩
        · clear hcm
          go_wp2
          go_ret
          exact ⟨ret_b (by rw [ownsB_yes (by simpa using HA.out) (fun t ht => HO.out t (by omega))]), bthen (ballc w _) (HM.out.below0)⟩
end Go.Proofs.Ytohgmliafidalaa

/- The call Plain of package conf returns the number of the first rule that a configuration breaks, else 0; conditions: the table's length fits int. -/
namespace Go.Proofs.Ytohgmliafidalaa
open Go.ChangeShapes Go.WideShapes Go.ChangeAt Go.RowKit
set_option linter.unusedVariables false

def plainE (n f d p r dr o sl md fr : Int) (zs : List Int) : Int :=
  if ¬ (4 ≤ n ∧ n ≤ 13) then 7 else if ¬ (0 ≤ f ∧ f ≤ 4) then 7 else if ¬ (3 * f + 1 ≤ n) then 7 else if ¬ (1 ≤ d ∧ d ≤ 4) then 10 else
  if ¬ (6 * ((f + 1) * d) + 1 ≤ p ∧ p ≤ 400) then 8 else if ¬ (1 ≤ r ∧ r ≤ 64) then 8 else if ¬ (0 ≤ dr ∧ dr ≤ r - 1) then 8 else if ¬ (0 ≤ o ∧ o ≤ 30000) then 8 else
  if ¬ (1 ≤ sl ∧ sl ≤ 30000) then 8 else if ¬ (2 ≤ md ∧ md ≤ 250) then 8 else if ¬ (1 ≤ fr ∧ fr ≤ 100) then 8 else if ¬ (1 ≤ (zs.length : Int) ∧ (zs.length : Int) ≤ 32) then 11 else
  if ownsB n zs = true then 0 else 11

theorem pl_0 {n f d p r dr o sl md fr : Int} {zs : List Int}  (c0 : ¬ (4 ≤ n ∧ n ≤ 13)) : plainE n f d p r dr o sl md fr zs = 7 := by
  unfold plainE
  exact if_pos c0
theorem pl_1 {n f d p r dr o sl md fr : Int} {zs : List Int} (c0 : 4 ≤ n ∧ n ≤ 13) (c1 : ¬ (0 ≤ f ∧ f ≤ 4)) : plainE n f d p r dr o sl md fr zs = 7 := by
  unfold plainE
  exact (if_neg (not_not_intro c0)).trans (if_pos c1)
theorem pl_2 {n f d p r dr o sl md fr : Int} {zs : List Int} (c0 : 4 ≤ n ∧ n ≤ 13) (c1 : 0 ≤ f ∧ f ≤ 4) (c2 : ¬ (3 * f + 1 ≤ n)) : plainE n f d p r dr o sl md fr zs = 7 := by
  unfold plainE
  exact (if_neg (not_not_intro c0)).trans ((if_neg (not_not_intro c1)).trans (if_pos c2))
theorem pl_3 {n f d p r dr o sl md fr : Int} {zs : List Int} (c0 : 4 ≤ n ∧ n ≤ 13) (c1 : 0 ≤ f ∧ f ≤ 4) (c2 : 3 * f + 1 ≤ n) (c3 : ¬ (1 ≤ d ∧ d ≤ 4)) : plainE n f d p r dr o sl md fr zs = 10 := by
  unfold plainE
  exact (if_neg (not_not_intro c0)).trans ((if_neg (not_not_intro c1)).trans ((if_neg (not_not_intro c2)).trans (if_pos c3)))
theorem pl_4 {n f d p r dr o sl md fr : Int} {zs : List Int} (c0 : 4 ≤ n ∧ n ≤ 13) (c1 : 0 ≤ f ∧ f ≤ 4) (c2 : 3 * f + 1 ≤ n) (c3 : 1 ≤ d ∧ d ≤ 4) (c4 : ¬ (6 * ((f + 1) * d) + 1 ≤ p ∧ p ≤ 400)) : plainE n f d p r dr o sl md fr zs = 8 := by
  unfold plainE
  exact (if_neg (not_not_intro c0)).trans ((if_neg (not_not_intro c1)).trans ((if_neg (not_not_intro c2)).trans ((if_neg (not_not_intro c3)).trans (if_pos c4))))
theorem pl_5 {n f d p r dr o sl md fr : Int} {zs : List Int} (c0 : 4 ≤ n ∧ n ≤ 13) (c1 : 0 ≤ f ∧ f ≤ 4) (c2 : 3 * f + 1 ≤ n) (c3 : 1 ≤ d ∧ d ≤ 4) (c4 : 6 * ((f + 1) * d) + 1 ≤ p ∧ p ≤ 400) (c5 : ¬ (1 ≤ r ∧ r ≤ 64)) : plainE n f d p r dr o sl md fr zs = 8 := by
  unfold plainE
  exact (if_neg (not_not_intro c0)).trans ((if_neg (not_not_intro c1)).trans ((if_neg (not_not_intro c2)).trans ((if_neg (not_not_intro c3)).trans ((if_neg (not_not_intro c4)).trans (if_pos c5)))))
theorem pl_6 {n f d p r dr o sl md fr : Int} {zs : List Int} (c0 : 4 ≤ n ∧ n ≤ 13) (c1 : 0 ≤ f ∧ f ≤ 4) (c2 : 3 * f + 1 ≤ n) (c3 : 1 ≤ d ∧ d ≤ 4) (c4 : 6 * ((f + 1) * d) + 1 ≤ p ∧ p ≤ 400) (c5 : 1 ≤ r ∧ r ≤ 64) (c6 : ¬ (0 ≤ dr ∧ dr ≤ r - 1)) : plainE n f d p r dr o sl md fr zs = 8 := by
  unfold plainE
  exact (if_neg (not_not_intro c0)).trans ((if_neg (not_not_intro c1)).trans ((if_neg (not_not_intro c2)).trans ((if_neg (not_not_intro c3)).trans ((if_neg (not_not_intro c4)).trans ((if_neg (not_not_intro c5)).trans (if_pos c6))))))
theorem pl_7 {n f d p r dr o sl md fr : Int} {zs : List Int} (c0 : 4 ≤ n ∧ n ≤ 13) (c1 : 0 ≤ f ∧ f ≤ 4) (c2 : 3 * f + 1 ≤ n) (c3 : 1 ≤ d ∧ d ≤ 4) (c4 : 6 * ((f + 1) * d) + 1 ≤ p ∧ p ≤ 400) (c5 : 1 ≤ r ∧ r ≤ 64) (c6 : 0 ≤ dr ∧ dr ≤ r - 1) (c7 : ¬ (0 ≤ o ∧ o ≤ 30000)) : plainE n f d p r dr o sl md fr zs = 8 := by
  unfold plainE
  exact (if_neg (not_not_intro c0)).trans ((if_neg (not_not_intro c1)).trans ((if_neg (not_not_intro c2)).trans ((if_neg (not_not_intro c3)).trans ((if_neg (not_not_intro c4)).trans ((if_neg (not_not_intro c5)).trans ((if_neg (not_not_intro c6)).trans (if_pos c7)))))))
theorem pl_8 {n f d p r dr o sl md fr : Int} {zs : List Int} (c0 : 4 ≤ n ∧ n ≤ 13) (c1 : 0 ≤ f ∧ f ≤ 4) (c2 : 3 * f + 1 ≤ n) (c3 : 1 ≤ d ∧ d ≤ 4) (c4 : 6 * ((f + 1) * d) + 1 ≤ p ∧ p ≤ 400) (c5 : 1 ≤ r ∧ r ≤ 64) (c6 : 0 ≤ dr ∧ dr ≤ r - 1) (c7 : 0 ≤ o ∧ o ≤ 30000) (c8 : ¬ (1 ≤ sl ∧ sl ≤ 30000)) : plainE n f d p r dr o sl md fr zs = 8 := by
  unfold plainE
  exact (if_neg (not_not_intro c0)).trans ((if_neg (not_not_intro c1)).trans ((if_neg (not_not_intro c2)).trans ((if_neg (not_not_intro c3)).trans ((if_neg (not_not_intro c4)).trans ((if_neg (not_not_intro c5)).trans ((if_neg (not_not_intro c6)).trans ((if_neg (not_not_intro c7)).trans (if_pos c8))))))))
theorem pl_9 {n f d p r dr o sl md fr : Int} {zs : List Int} (c0 : 4 ≤ n ∧ n ≤ 13) (c1 : 0 ≤ f ∧ f ≤ 4) (c2 : 3 * f + 1 ≤ n) (c3 : 1 ≤ d ∧ d ≤ 4) (c4 : 6 * ((f + 1) * d) + 1 ≤ p ∧ p ≤ 400) (c5 : 1 ≤ r ∧ r ≤ 64) (c6 : 0 ≤ dr ∧ dr ≤ r - 1) (c7 : 0 ≤ o ∧ o ≤ 30000) (c8 : 1 ≤ sl ∧ sl ≤ 30000) (c9 : ¬ (2 ≤ md ∧ md ≤ 250)) : plainE n f d p r dr o sl md fr zs = 8 := by
  unfold plainE
  exact (if_neg (not_not_intro c0)).trans ((if_neg (not_not_intro c1)).trans ((if_neg (not_not_intro c2)).trans ((if_neg (not_not_intro c3)).trans ((if_neg (not_not_intro c4)).trans ((if_neg (not_not_intro c5)).trans ((if_neg (not_not_intro c6)).trans ((if_neg (not_not_intro c7)).trans ((if_neg (not_not_intro c8)).trans (if_pos c9)))))))))
theorem pl_10 {n f d p r dr o sl md fr : Int} {zs : List Int} (c0 : 4 ≤ n ∧ n ≤ 13) (c1 : 0 ≤ f ∧ f ≤ 4) (c2 : 3 * f + 1 ≤ n) (c3 : 1 ≤ d ∧ d ≤ 4) (c4 : 6 * ((f + 1) * d) + 1 ≤ p ∧ p ≤ 400) (c5 : 1 ≤ r ∧ r ≤ 64) (c6 : 0 ≤ dr ∧ dr ≤ r - 1) (c7 : 0 ≤ o ∧ o ≤ 30000) (c8 : 1 ≤ sl ∧ sl ≤ 30000) (c9 : 2 ≤ md ∧ md ≤ 250) (c10 : ¬ (1 ≤ fr ∧ fr ≤ 100)) : plainE n f d p r dr o sl md fr zs = 8 := by
  unfold plainE
  exact (if_neg (not_not_intro c0)).trans ((if_neg (not_not_intro c1)).trans ((if_neg (not_not_intro c2)).trans ((if_neg (not_not_intro c3)).trans ((if_neg (not_not_intro c4)).trans ((if_neg (not_not_intro c5)).trans ((if_neg (not_not_intro c6)).trans ((if_neg (not_not_intro c7)).trans ((if_neg (not_not_intro c8)).trans ((if_neg (not_not_intro c9)).trans (if_pos c10))))))))))
theorem pl_11 {n f d p r dr o sl md fr : Int} {zs : List Int} (c0 : 4 ≤ n ∧ n ≤ 13) (c1 : 0 ≤ f ∧ f ≤ 4) (c2 : 3 * f + 1 ≤ n) (c3 : 1 ≤ d ∧ d ≤ 4) (c4 : 6 * ((f + 1) * d) + 1 ≤ p ∧ p ≤ 400) (c5 : 1 ≤ r ∧ r ≤ 64) (c6 : 0 ≤ dr ∧ dr ≤ r - 1) (c7 : 0 ≤ o ∧ o ≤ 30000) (c8 : 1 ≤ sl ∧ sl ≤ 30000) (c9 : 2 ≤ md ∧ md ≤ 250) (c10 : 1 ≤ fr ∧ fr ≤ 100) (c11 : ¬ (1 ≤ (zs.length : Int) ∧ (zs.length : Int) ≤ 32)) : plainE n f d p r dr o sl md fr zs = 11 := by
  unfold plainE
  exact (if_neg (not_not_intro c0)).trans ((if_neg (not_not_intro c1)).trans ((if_neg (not_not_intro c2)).trans ((if_neg (not_not_intro c3)).trans ((if_neg (not_not_intro c4)).trans ((if_neg (not_not_intro c5)).trans ((if_neg (not_not_intro c6)).trans ((if_neg (not_not_intro c7)).trans ((if_neg (not_not_intro c8)).trans ((if_neg (not_not_intro c9)).trans ((if_neg (not_not_intro c10)).trans (if_pos c11)))))))))))
theorem pl_12 {n f d p r dr o sl md fr : Int} {zs : List Int} (c0 : 4 ≤ n ∧ n ≤ 13) (c1 : 0 ≤ f ∧ f ≤ 4) (c2 : 3 * f + 1 ≤ n) (c3 : 1 ≤ d ∧ d ≤ 4) (c4 : 6 * ((f + 1) * d) + 1 ≤ p ∧ p ≤ 400) (c5 : 1 ≤ r ∧ r ≤ 64) (c6 : 0 ≤ dr ∧ dr ≤ r - 1) (c7 : 0 ≤ o ∧ o ≤ 30000) (c8 : 1 ≤ sl ∧ sl ≤ 30000) (c9 : 2 ≤ md ∧ md ≤ 250) (c10 : 1 ≤ fr ∧ fr ≤ 100) (c11 : 1 ≤ (zs.length : Int) ∧ (zs.length : Int) ≤ 32) : plainE n f d p r dr o sl md fr zs = if ownsB n zs = true then 0 else 11 := by
  unfold plainE
  exact (if_neg (not_not_intro c0)).trans ((if_neg (not_not_intro c1)).trans ((if_neg (not_not_intro c2)).trans ((if_neg (not_not_intro c3)).trans ((if_neg (not_not_intro c4)).trans ((if_neg (not_not_intro c5)).trans ((if_neg (not_not_intro c6)).trans ((if_neg (not_not_intro c7)).trans ((if_neg (not_not_intro c8)).trans ((if_neg (not_not_intro c9)).trans ((if_neg (not_not_intro c10)).trans ((if_neg (not_not_intro c11)).trans (rfl))))))))))))

/-- Rule k holds. -/
def okR (n f d p r dr o sl md fr ln : Int) (k : Nat) : Prop := ruA f d k ≤ ruC n f d p r dr o sl md fr ln k ∧ ruC n f d p r dr o sl md fr ln k ≤ ruB r k

theorem okR_2 {n f d p r dr o sl md fr ln : Int} (h1 : 0 ≤ f) (h2 : f ≤ 4) : okR n f d p r dr o sl md fr ln 2 ↔ 3 * f + 1 ≤ n ∧ n ≤ 13 := by
  unfold okR
  simp only [ruA, ruB, ruC]
  rw [IntWalk.i64_in (3 * f) (by omega), IntWalk.i64_in (3 * f + 1) (by omega)]
theorem okR_4 {n f d p r dr o sl md fr ln : Int} (h1 : 0 ≤ f) (h2 : f ≤ 4) (h3 : 1 ≤ d) (h4 : d ≤ 4) : okR n f d p r dr o sl md fr ln 4 ↔ 6 * ((f + 1) * d) + 1 ≤ p ∧ p ≤ 400 := by
  have hq0 : 0 ≤ (f + 1) * d := Int.mul_nonneg (by omega) (by omega)
  have hq1 : (f + 1) * d ≤ 5 * 4 := Int.mul_le_mul (by omega) h4 (by omega) (by omega)
  have e : lengthW f d = 3 * ((f + 1) * d) := by rw [lengthW_eq h1 h2 h3 h4, Int.mul_assoc]
  unfold okR
  simp only [ruA, ruB, ruC]
  rw [e, IntWalk.i64_in (2 * (3 * ((f + 1) * d))) (by omega), IntWalk.i64_in (2 * (3 * ((f + 1) * d)) + 1) (by omega)]
  constructor <;> intro h <;> omega
theorem okR_6 {n f d p r dr o sl md fr ln : Int} (h1 : 1 ≤ r) (h2 : r ≤ 64) : okR n f d p r dr o sl md fr ln 6 ↔ 0 ≤ dr ∧ dr ≤ r - 1 := by
  unfold okR
  simp only [ruA, ruB, ruC]
  rw [IntWalk.i64_in (r - 1) (by omega)]

/-- What the first k rules say. -/
theorem okR_all {n f d p r dr o sl md fr ln : Int} (k : Nat) (h : ∀ j, j < k → okR n f d p r dr o sl md fr ln j) :
    (0 < k → 4 ≤ n ∧ n ≤ 13) ∧ (1 < k → 0 ≤ f ∧ f ≤ 4) ∧ (2 < k → 3 * f + 1 ≤ n) ∧ (3 < k → 1 ≤ d ∧ d ≤ 4) ∧ (4 < k → 6 * ((f + 1) * d) + 1 ≤ p ∧ p ≤ 400) ∧ (5 < k → 1 ≤ r ∧ r ≤ 64) ∧ (6 < k → 0 ≤ dr ∧ dr ≤ r - 1) ∧
    (7 < k → 0 ≤ o ∧ o ≤ 30000) ∧ (8 < k → 1 ≤ sl ∧ sl ≤ 30000) ∧ (9 < k → 2 ≤ md ∧ md ≤ 250) ∧ (10 < k → 1 ≤ fr ∧ fr ≤ 100) ∧ (11 < k → 1 ≤ ln ∧ ln ≤ 32) := by
  have h1 : 1 < k → 0 ≤ f ∧ f ≤ 4 := fun hk => h 1 hk
  have h3 : 3 < k → 1 ≤ d ∧ d ≤ 4 := fun hk => h 3 hk
  have h5 : 5 < k → 1 ≤ r ∧ r ≤ 64 := fun hk => h 5 hk
  refine ⟨fun hk => h 0 hk, h1, fun hk => ((okR_2 (h1 (by omega)).1 (h1 (by omega)).2).1 (h 2 hk)).1, h3, fun hk => (okR_4 (h1 (by omega)).1 (h1 (by omega)).2 (h3 (by omega)).1 (h3 (by omega)).2).1 (h 4 hk), h5,
    fun hk => (okR_6 (h5 (by omega)).1 (h5 (by omega)).2).1 (h 6 hk), fun hk => h 7 hk, fun hk => h 8 hk, fun hk => h 9 hk, fun hk => h 10 hk, fun hk => h 11 hk⟩

theorem plain_fail {n f d p r dr o sl md fr : Int} {zs : List Int} (k : Nat) (hk : k < 12) (h : ∀ j, j < k → okR n f d p r dr o sl md fr zs.length j) (hn : ¬ okR n f d p r dr o sl md fr zs.length k) :
    plainE n f d p r dr o sl md fr zs = ruE k := by
  obtain ⟨g0, g1, g2, g3, g4, g5, g6, g7, g8, g9, g10, g11⟩ := okR_all k h
  clear h
  have hk' : k = 0 ∨ k = 1 ∨ k = 2 ∨ k = 3 ∨ k = 4 ∨ k = 5 ∨ k = 6 ∨ k = 7 ∨ k = 8 ∨ k = 9 ∨ k = 10 ∨ k = 11 := by clear hn g0 g1 g2 g3 g4 g5 g6 g7 g8 g9 g10 g11; omega
  unfold plainE
  rcases hk' with rfl | rfl | rfl | rfl | rfl | rfl | rfl | rfl | rfl | rfl | rfl | rfl
  · exact if_pos (hn)
  · exact (if_neg (not_not_intro (g0 (by decide)))).trans (if_pos (hn))
  · exact (if_neg (not_not_intro (g0 (by decide)))).trans ((if_neg (not_not_intro (g1 (by decide)))).trans (if_pos (fun c => hn ((okR_2 (g1 (by decide)).1 (g1 (by decide)).2).2 ⟨c, (g0 (by decide)).2⟩))))
  · exact (if_neg (not_not_intro (g0 (by decide)))).trans ((if_neg (not_not_intro (g1 (by decide)))).trans ((if_neg (not_not_intro (g2 (by decide)))).trans (if_pos (hn))))
  · exact (if_neg (not_not_intro (g0 (by decide)))).trans ((if_neg (not_not_intro (g1 (by decide)))).trans ((if_neg (not_not_intro (g2 (by decide)))).trans ((if_neg (not_not_intro (g3 (by decide)))).trans (if_pos (fun c => hn ((okR_4 (g1 (by decide)).1 (g1 (by decide)).2 (g3 (by decide)).1 (g3 (by decide)).2).2 c))))))
  · exact (if_neg (not_not_intro (g0 (by decide)))).trans ((if_neg (not_not_intro (g1 (by decide)))).trans ((if_neg (not_not_intro (g2 (by decide)))).trans ((if_neg (not_not_intro (g3 (by decide)))).trans ((if_neg (not_not_intro (g4 (by decide)))).trans (if_pos (hn))))))
  · exact (if_neg (not_not_intro (g0 (by decide)))).trans ((if_neg (not_not_intro (g1 (by decide)))).trans ((if_neg (not_not_intro (g2 (by decide)))).trans ((if_neg (not_not_intro (g3 (by decide)))).trans ((if_neg (not_not_intro (g4 (by decide)))).trans ((if_neg (not_not_intro (g5 (by decide)))).trans (if_pos (fun c => hn ((okR_6 (g5 (by decide)).1 (g5 (by decide)).2).2 c))))))))
  · exact (if_neg (not_not_intro (g0 (by decide)))).trans ((if_neg (not_not_intro (g1 (by decide)))).trans ((if_neg (not_not_intro (g2 (by decide)))).trans ((if_neg (not_not_intro (g3 (by decide)))).trans ((if_neg (not_not_intro (g4 (by decide)))).trans ((if_neg (not_not_intro (g5 (by decide)))).trans ((if_neg (not_not_intro (g6 (by decide)))).trans (if_pos (hn))))))))
  · exact (if_neg (not_not_intro (g0 (by decide)))).trans ((if_neg (not_not_intro (g1 (by decide)))).trans ((if_neg (not_not_intro (g2 (by decide)))).trans ((if_neg (not_not_intro (g3 (by decide)))).trans ((if_neg (not_not_intro (g4 (by decide)))).trans ((if_neg (not_not_intro (g5 (by decide)))).trans ((if_neg (not_not_intro (g6 (by decide)))).trans ((if_neg (not_not_intro (g7 (by decide)))).trans (if_pos (hn)))))))))
  · exact (if_neg (not_not_intro (g0 (by decide)))).trans ((if_neg (not_not_intro (g1 (by decide)))).trans ((if_neg (not_not_intro (g2 (by decide)))).trans ((if_neg (not_not_intro (g3 (by decide)))).trans ((if_neg (not_not_intro (g4 (by decide)))).trans ((if_neg (not_not_intro (g5 (by decide)))).trans ((if_neg (not_not_intro (g6 (by decide)))).trans ((if_neg (not_not_intro (g7 (by decide)))).trans ((if_neg (not_not_intro (g8 (by decide)))).trans (if_pos (hn))))))))))
  · exact (if_neg (not_not_intro (g0 (by decide)))).trans ((if_neg (not_not_intro (g1 (by decide)))).trans ((if_neg (not_not_intro (g2 (by decide)))).trans ((if_neg (not_not_intro (g3 (by decide)))).trans ((if_neg (not_not_intro (g4 (by decide)))).trans ((if_neg (not_not_intro (g5 (by decide)))).trans ((if_neg (not_not_intro (g6 (by decide)))).trans ((if_neg (not_not_intro (g7 (by decide)))).trans ((if_neg (not_not_intro (g8 (by decide)))).trans ((if_neg (not_not_intro (g9 (by decide)))).trans (if_pos (hn)))))))))))
  · exact (if_neg (not_not_intro (g0 (by decide)))).trans ((if_neg (not_not_intro (g1 (by decide)))).trans ((if_neg (not_not_intro (g2 (by decide)))).trans ((if_neg (not_not_intro (g3 (by decide)))).trans ((if_neg (not_not_intro (g4 (by decide)))).trans ((if_neg (not_not_intro (g5 (by decide)))).trans ((if_neg (not_not_intro (g6 (by decide)))).trans ((if_neg (not_not_intro (g7 (by decide)))).trans ((if_neg (not_not_intro (g8 (by decide)))).trans ((if_neg (not_not_intro (g9 (by decide)))).trans ((if_neg (not_not_intro (g10 (by decide)))).trans (if_pos (hn))))))))))))
theorem plain_end {n f d p r dr o sl md fr : Int} {zs : List Int} (h : ∀ j, j < 12 → okR n f d p r dr o sl md fr zs.length j) :
    plainE n f d p r dr o sl md fr zs = if ownsB n zs = true then 0 else 11 := by
  obtain ⟨g0, g1, g2, g3, g4, g5, g6, g7, g8, g9, g10, g11⟩ := okR_all 12 h
  unfold plainE
  exact (if_neg (not_not_intro (g0 (by decide)))).trans ((if_neg (not_not_intro (g1 (by decide)))).trans ((if_neg (not_not_intro (g2 (by decide)))).trans ((if_neg (not_not_intro (g3 (by decide)))).trans ((if_neg (not_not_intro (g4 (by decide)))).trans ((if_neg (not_not_intro (g5 (by decide)))).trans ((if_neg (not_not_intro (g6 (by decide)))).trans ((if_neg (not_not_intro (g7 (by decide)))).trans ((if_neg (not_not_intro (g8 (by decide)))).trans ((if_neg (not_not_intro (g9 (by decide)))).trans ((if_neg (not_not_intro (g10 (by decide)))).trans ((if_neg (not_not_intro (g11 (by decide)))).trans (rfl))))))))))))
/-- What is plain, number by number. -/
theorem plainE_ok {n f d p r dr o sl md fr : Int} {zs : List Int} (h : plainE n f d p r dr o sl md fr zs = 0) :
    4 ≤ n ∧ n ≤ 13 ∧ 0 ≤ f ∧ f ≤ 4 ∧ 3 * f + 1 ≤ n ∧ 1 ≤ d ∧ d ≤ 4 ∧ 6 * ((f + 1) * d) + 1 ≤ p ∧ p ≤ 400 ∧ 1 ≤ r ∧ r ≤ 64 ∧ 0 ≤ dr ∧ dr ≤ r - 1 ∧ 0 ≤ o ∧ o ≤ 30000 ∧ 1 ≤ sl ∧ sl ≤ 30000 ∧ 2 ≤ md ∧ md ≤ 250 ∧ 1 ≤ fr ∧ fr ≤ 100 ∧ 1 ≤ zs.length ∧ zs.length ≤ 32 ∧ ownsB n zs = true := by
  unfold plainE at h
  by_cases c0 : 4 ≤ n ∧ n ≤ 13
  case neg => rw [if_pos c0] at h; exact absurd h (by decide)
  rw [if_neg (not_not_intro c0)] at h
  by_cases c1 : 0 ≤ f ∧ f ≤ 4
  case neg => rw [if_pos c1] at h; exact absurd h (by decide)
  rw [if_neg (not_not_intro c1)] at h
  by_cases c2 : 3 * f + 1 ≤ n
  case neg => rw [if_pos c2] at h; exact absurd h (by decide)
  rw [if_neg (not_not_intro c2)] at h
  by_cases c3 : 1 ≤ d ∧ d ≤ 4
  case neg => rw [if_pos c3] at h; exact absurd h (by decide)
  rw [if_neg (not_not_intro c3)] at h
  by_cases c4 : 6 * ((f + 1) * d) + 1 ≤ p ∧ p ≤ 400
  case neg => rw [if_pos c4] at h; exact absurd h (by decide)
  rw [if_neg (not_not_intro c4)] at h
  by_cases c5 : 1 ≤ r ∧ r ≤ 64
  case neg => rw [if_pos c5] at h; exact absurd h (by decide)
  rw [if_neg (not_not_intro c5)] at h
  by_cases c6 : 0 ≤ dr ∧ dr ≤ r - 1
  case neg => rw [if_pos c6] at h; exact absurd h (by decide)
  rw [if_neg (not_not_intro c6)] at h
  by_cases c7 : 0 ≤ o ∧ o ≤ 30000
  case neg => rw [if_pos c7] at h; exact absurd h (by decide)
  rw [if_neg (not_not_intro c7)] at h
  by_cases c8 : 1 ≤ sl ∧ sl ≤ 30000
  case neg => rw [if_pos c8] at h; exact absurd h (by decide)
  rw [if_neg (not_not_intro c8)] at h
  by_cases c9 : 2 ≤ md ∧ md ≤ 250
  case neg => rw [if_pos c9] at h; exact absurd h (by decide)
  rw [if_neg (not_not_intro c9)] at h
  by_cases c10 : 1 ≤ fr ∧ fr ≤ 100
  case neg => rw [if_pos c10] at h; exact absurd h (by decide)
  rw [if_neg (not_not_intro c10)] at h
  by_cases c11 : 1 ≤ (zs.length : Int) ∧ (zs.length : Int) ≤ 32
  case neg => rw [if_pos c11] at h; exact absurd h (by decide)
  rw [if_neg (not_not_intro c11)] at h
  by_cases c12 : ownsB n zs = true
  case neg => rw [if_neg c12] at h; exact absurd h (by decide)
  exact ⟨c0.1, c0.2, c1.1, c1.2, c2, c3.1, c3.2, c4.1, c4.2, c5.1, c5.2, c6.1, c6.2, c7.1, c7.2, c8.1, c8.2, c9.1, c9.2, c10.1, c10.2, by omega, by omega, c12⟩
end Go.Proofs.Ytohgmliafidalaa

/- The call Plain of package conf returns the number of the first rule that a configuration breaks, else 0, and makes at most new memory; conditions: the table lies where it says, and its length fits int. -/
namespace Go.Proofs.Ytohgmliafidalaa
open Go.ChangeShapes Go.WideShapes Go.ChangeAt Go.RowKit
set_option linter.unusedVariables false

set_option maxHeartbeats 1000000 in
theorem plain_any (n f d p r dr o sl md fr : Int) (ad : Option Addr) (cap : Nat) (zs : List Int) (w : World) (hl : zs.length ≤ 9223372036854775807) (hT : Tab w ad zs) :
    Calls Try.prog 52 #[.agg #[.int .i64 n, .int .i64 f, .int .i64 d, .int .i64 p, .int .i64 r, .int .i64 dr, .int .i64 o, .int .i64 sl, .int .i64 md, .int .i64 fr, .slice ad zs.length cap]] w fun e w' => e = .returned (.int .i64 (plainE n f d p r dr o sl md fr zs)) ∧ Below w.heap.size w w' := by
  have HT : Hid (Tab (w.alloc (.cells #[.int .i64 n, .int .i64 f, .int .i64 d, .int .i64 p, .int .i64 r, .int .i64 dr, .int .i64 o, .int .i64 sl, .int .i64 md, .int .i64 fr, .slice ad zs.length cap] 24)) ad zs) := hT.below (ballc _ _)
  clear hT
  go_enter Try.func52, Try.ntmps52
  go_wp2_with fail
  refine (rules_any n f d p r dr o sl md fr ad cap zs _).mono ?_
  rintro e w1 ⟨g, rfl, hg1, hg2, hcells, hb1⟩
  have HB1 : Hid (Below (w.alloc (.cells #[.int .i64 n, .int .i64 f, .int .i64 d, .int .i64 p, .int .i64 r, .int .i64 dr, .int .i64 o, .int .i64 sl, .int .i64 md, .int .i64 fr, .slice ad zs.length cap] 24)).heap.size (w.alloc (.cells #[.int .i64 n, .int .i64 f, .int .i64 d, .int .i64 p, .int .i64 r, .int .i64 dr, .int .i64 o, .int .i64 sl, .int .i64 md, .int .i64 fr, .slice ad zs.length cap] 24)) w1) := hb1
  have HC : Hid (∀ k, k < 12 → w1.cell? ⟨g, k * 4, none⟩ = some (.int .i64 (ruA f d k)) ∧ w1.cell? ⟨g, k * 4 + 1, none⟩ = some (.int .i64 (ruB r k)) ∧ w1.cell? ⟨g, k * 4 + 2, none⟩ = some (.int .i64 (ruC n f d p r dr o sl md fr zs.length k)) ∧ w1.cell? ⟨g, k * 4 + 3, none⟩ = some (.int .i64 (ruE k))) := hcells
  have HG2 : Hid (g < w1.heap.size) := hg2
  clear hb1 hcells hg1 hg2
  go_wp2
  go_loopw [8] (fun i wl => ∃ k : Nat, k ≤ 12 ∧ i = .int .i64 k ∧ (∀ j, j < k → okR n f d p r dr o sl md fr zs.length j) ∧ Below w1.heap.size w1 wl) (fun i _ => 12 - (intOf i).toNat)
  case atStart => exact ⟨0, Nat.zero_le _, rfl, fun j hj => absurd hj (Nat.not_lt_zero _), Below.refl _ _⟩
  case round =>
    obtain ⟨k, hk, rfl, hok, hb⟩ := hrel
    have HO : Hid (∀ j, j < k → okR n f d p r dr o sl md fr zs.length j) := hok
    have HB : Hid (Below w1.heap.size w1 wr) := hb
    clear hok hb
    by_cases hlt : k < 12
    · obtain ⟨e0, e1, e2, e3⟩ := HC.out k hlt
      rw [← HB.out.cell HG2.out] at e0 e1 e2 e3
      have hgr : g < wr.heap.size := Nat.lt_of_lt_of_le HG2.out HB.out.size
      have hgn : ¬ g = wr.heap.size := by omega
      by_cases ho : okR n f d p r dr o sl md fr zs.length k
      · have hq := fun v => hold_yes (ruA f d k) (ruB r k) (ruC n f d p r dr o sl md fr zs.length k) v ho.1 ho.2
        have HK : Hid (okR n f d p r dr o sl md fr zs.length k) := ho
        clear ho
        generalize ruA f d k = A at *
        generalize ruB r k = B at *
        generalize ruC n f d p r dr o sl md fr zs.length k = C at *
        go_wp2_with fail
        refine (hq _).mono ?_
        rintro e w2 ⟨rfl, hb2⟩
        have HB2 : Hid (Below wr.heap.size wr w2) := bthen (ballc _ _) hb2
        clear hb2 e0 e1 e2 e3
        go_wp2
        go_roundw
        case rel => exact ⟨k + 1, by omega, by go_num, fun j hj => by
          by_cases e : j = k
          · subst e; exact HK.out
          · exact HO.out j (by omega), bthen HB.out HB2.out⟩
        case measure => simp [intOf]; omega
      · have hq := fun v => hold_no (ruA f d k) (ruB r k) (ruC n f d p r dr o sl md fr zs.length k) v ho
        have HK : Hid (¬ okR n f d p r dr o sl md fr zs.length k) := ho
        clear ho
        generalize ruA f d k = A at *
        generalize ruB r k = B at *
        generalize ruC n f d p r dr o sl md fr zs.length k = C at *
        generalize hE : ruE k = E at *
        have HE : Hid (ruE k = E) := hE
        clear hE
        go_wp2_with fail
        refine (hq _).mono ?_
        rintro e w2 ⟨rfl, hb2⟩
        have HB2 : Hid (Below wr.heap.size wr w2) := bthen (ballc _ _) hb2
        obtain ⟨hbox2, hs2⟩ := box_at hb2
        clear hb2 e0 e1 e2 e3
        go_wp2
        go_ret
        exact ⟨ret_i (by rw [plain_fail k hlt HO.out HK.out]; exact HE.out.symm), bthen (bthen (ballc w _) HB1.out) (bthen HB.out HB2.out)⟩
    · have hk' : k = 12 := by omega
      subst hk'
      obtain ⟨hbox, hsz⟩ := box_at (bthen HB1.out HB.out)
      have hall := okR_all 12 HO.out
      have hq := fun v hT => eachOwns_any n f d p r dr o sl md fr ad cap zs v (hall.1 (by decide)).1 (hall.1 (by decide)).2 hl hT
      have HQ : Hid (Calls Try.prog 93 #[.agg #[.int .i64 n, .int .i64 f, .int .i64 d, .int .i64 p, .int .i64 r, .int .i64 dr, .int .i64 o, .int .i64 sl, .int .i64 md, .int .i64 fr, .slice ad zs.length cap]] wr fun e w' => e = .returned (.bool (ownsB n zs)) ∧ Below wr.heap.size wr w') := hq wr (HT.out.below (bthen HB1.out HB.out))
      clear hq hall
      have HP := plain_end HO.out
      generalize hob : ownsB n zs = ob at HP HQ
      clear hob
      cases ob
      all_goals
        have HP' : Hid (plainE n f d p r dr o sl md fr zs = _) := HP
        clear HP
        go_wp2_with fail
        refine HQ.out.mono ?_
        rintro e w2 ⟨rfl, hb2⟩
        have HB2 : Hid (Below wr.heap.size wr w2) := hb2
        clear hb2
        go_wp2
        go_ret
        exact ⟨ret_i (by rw [HP'.out]; rfl), bthen (bthen (ballc w _) HB1.out) (bthen HB.out HB2.out)⟩
end Go.Proofs.Ytohgmliafidalaa

/- The calls Rounds, Length and Bits of package conf return what the document says, of what is plain, else 0, and make at most new memory; conditions: the table lies where it says, and its length fits int. -/
namespace Go.Proofs.Ytohgmliafidalaa
open Go.ChangeShapes Go.WideShapes Go.ChangeAt Go.RowKit
set_option linter.unusedVariables false
attribute [local go_sem] cell_rg

/-- x, if E is no error, else 0. -/
def gate (E x : Int) : Int := if E = 0 then x else 0
/-- Hides a fact from the walk. -/
theorem gate_ok (x : Int) : gate 0 x = x := if_pos rfl
theorem gate_no {E : Int} (h : ¬ E = 0) (x : Int) : gate E x = 0 := if_neg h
theorem gate_congr {E x y : Int} (h : E = 0 → x = y) : gate E x = gate E y := by
  unfold gate
  by_cases e : E = 0
  · rw [if_pos e, if_pos e, h e]
  · rw [if_neg e, if_neg e]

theorem ofPlain_any (n f d p r dr o sl md fr : Int) (ad : Option Addr) (cap : Nat) (zs : List Int) (x : Int) (w : World) (hl : zs.length ≤ 9223372036854775807) (hT : Tab w ad zs) :
    Calls Try.prog 101 #[.agg #[.int .i64 n, .int .i64 f, .int .i64 d, .int .i64 p, .int .i64 r, .int .i64 dr, .int .i64 o, .int .i64 sl, .int .i64 md, .int .i64 fr, .slice ad zs.length cap], .int .i64 x] w fun e w' => e = .returned (.int .i64 (gate (plainE n f d p r dr o sl md fr zs) x)) ∧ Below w.heap.size w w' := by
  have HQ := hidden (plain_any n f d p r dr o sl md fr ad cap zs (w.alloc (.cells #[.int .i64 n, .int .i64 f, .int .i64 d, .int .i64 p, .int .i64 r, .int .i64 dr, .int .i64 o, .int .i64 sl, .int .i64 md, .int .i64 fr, .slice ad zs.length cap] 24)) hl (hT.below (ballc _ _)))
  clear hT
  generalize plainE n f d p r dr o sl md fr zs = E at HQ
  by_cases hE : E = 0
  · subst hE
    go_enter Try.func101, Try.ntmps101
    go_wp2_with fail
    refine HQ.out.mono ?_
    rintro e w2 ⟨rfl, hb2⟩
    have HB2 : Hid (Below w.heap.size w w2) := bthen (ballc w _) hb2
    clear hb2 HQ
    go_wp2
    go_ret
    exact ⟨ret_i (gate_ok x).symm, HB2.out⟩
  · go_enter Try.func101, Try.ntmps101
    go_wp2_with fail
    refine HQ.out.mono ?_
    rintro e w2 ⟨rfl, hb2⟩
    have HB2 : Hid (Below w.heap.size w w2) := bthen (ballc w _) hb2
    clear hb2 HQ
    go_wp2
    go_ret
    exact ⟨ret_i (gate_no hE x).symm, HB2.out⟩

theorem Rounds_any (n f d p r dr o sl md fr : Int) (ad : Option Addr) (cap : Nat) (zs : List Int) (w : World) (hl : zs.length ≤ 9223372036854775807) (hT : Tab w ad zs) :
    Calls Try.prog 116 #[.agg #[.int .i64 n, .int .i64 f, .int .i64 d, .int .i64 p, .int .i64 r, .int .i64 dr, .int .i64 o, .int .i64 sl, .int .i64 md, .int .i64 fr, .slice ad zs.length cap]] w fun e w' => e = .returned (.int .i64 (gate (plainE n f d p r dr o sl md fr zs) (3 * (f + 1)))) ∧ Below w.heap.size w w' := by
  have HT : Hid (Tab (w.alloc (.cells #[.int .i64 n, .int .i64 f, .int .i64 d, .int .i64 p, .int .i64 r, .int .i64 dr, .int .i64 o, .int .i64 sl, .int .i64 md, .int .i64 fr, .slice ad zs.length cap] 24)) ad zs) := hT.below (ballc _ _)
  have HG : Hid (gate (plainE n f d p r dr o sl md fr zs) (3 * (f + 1)) = gate (plainE n f d p r dr o sl md fr zs) (roundsW f)) := gate_congr fun h => by
    obtain ⟨_, _, h1, h2, _⟩ := plainE_ok h
    exact (roundsW_eq h1 h2).symm
  clear hT
  go_enter Try.func116, Try.ntmps116
  go_wp2
  refine wp_region_quiet_below (by kernel_rfl) (by kernel_rfl) ?_
  repeat (go_big_quiet_step (first | (go_at_call 122; exact Calls.regrown_of (cRounds_any _ _ _ _ _ _ _ _ _ _ _ _ _ _)) | (go_at_call 101; exact Calls.regrown_of (ofPlain_any _ _ _ _ _ _ _ _ _ _ _ _ _ _ _ hl (HT.out.below (below_regrown _ _ _))))))
  refine wpQuiet_nil ?_
  intro w2 hw2
  have HB2 : Hid (Below w.heap.size w w2) := bthen (ballc w _) (rg_below hw2)
  clear hw2
  go_wp2
  go_ret
  exact ⟨ret_i HG.out.symm, HB2.out⟩

theorem Length_any (n f d p r dr o sl md fr : Int) (ad : Option Addr) (cap : Nat) (zs : List Int) (w : World) (hl : zs.length ≤ 9223372036854775807) (hT : Tab w ad zs) :
    Calls Try.prog 59 #[.agg #[.int .i64 n, .int .i64 f, .int .i64 d, .int .i64 p, .int .i64 r, .int .i64 dr, .int .i64 o, .int .i64 sl, .int .i64 md, .int .i64 fr, .slice ad zs.length cap]] w fun e w' => e = .returned (.int .i64 (gate (plainE n f d p r dr o sl md fr zs) (3 * (f + 1) * d))) ∧ Below w.heap.size w w' := by
  have HT : Hid (Tab (w.alloc (.cells #[.int .i64 n, .int .i64 f, .int .i64 d, .int .i64 p, .int .i64 r, .int .i64 dr, .int .i64 o, .int .i64 sl, .int .i64 md, .int .i64 fr, .slice ad zs.length cap] 24)) ad zs) := hT.below (ballc _ _)
  have HG : Hid (gate (plainE n f d p r dr o sl md fr zs) (3 * (f + 1) * d) = gate (plainE n f d p r dr o sl md fr zs) (lengthW f d)) := gate_congr fun h => by
    obtain ⟨_, _, h1, h2, _, h3, h4, _⟩ := plainE_ok h
    exact (lengthW_eq h1 h2 h3 h4).symm
  clear hT
  go_enter Try.func59, Try.ntmps59
  go_wp2
  refine wp_region_quiet_below (by kernel_rfl) (by kernel_rfl) ?_
  repeat (go_big_quiet_step (first | (go_at_call 102; exact Calls.regrown_of (cLength_any _ _ _ _ _ _ _ _ _ _ _ _ _ _)) | (go_at_call 101; exact Calls.regrown_of (ofPlain_any _ _ _ _ _ _ _ _ _ _ _ _ _ _ _ hl (HT.out.below (below_regrown _ _ _))))))
  refine wpQuiet_nil ?_
  intro w2 hw2
  have HB2 : Hid (Below w.heap.size w w2) := bthen (ballc w _) (rg_below hw2)
  clear hw2
  go_wp2
  go_ret
  exact ⟨ret_i HG.out.symm, HB2.out⟩
end Go.Proofs.Ytohgmliafidalaa

/- The fixed configuration of the statements, and what is plain of it; no conditions. -/
namespace Go.Proofs.Ytohgmliafidalaa
open Go.ChangeShapes Go.WideShapes Go.ChangeAt Go.RowKit
set_option linter.unusedVariables false

theorem Tab.four (w : World) (t : TypeId) (g : Nat) (hg : g = w.heap.size) : Tab (w.alloc (.cells #[.int .i64 0, .int .i64 1, .int .i64 2, .int .i64 3] t)) (some ⟨g, 0, none⟩) [0, 1, 2, 3] := by
  subst hg
  intro i hi
  refine ⟨_, rfl, ?_⟩
  have hi' : i = 0 ∨ i = 1 ∨ i = 2 ∨ i = 3 := by simp at hi; omega
  rcases hi' with rfl | rfl | rfl | rfl <;> exact World.cell?_alloc_mark w _ t _ _
theorem Tab.none (w : World) : Tab w none [] := fun i hi => absurd hi (Nat.not_lt_zero _)
theorem plainE_small : plainE 4 1 1 20 64 1 64 190 10 3 [0, 1, 2, 3] = 0 := by decide
theorem plainE_zero : plainE 0 0 0 0 0 0 0 0 0 0 [] = 7 := by decide
/-- The same call, where the answer is spelt otherwise. -/
theorem Calls.ret_to {P : Program} {F : FuncId} {args : Array Value} {w : World} {v u : Value} (h : Calls P F args w fun e w' => e = .returned v ∧ Below w.heap.size w w') (e : v = u) : Calls P F args w fun e w' => e = .returned u ∧ Below w.heap.size w w' := by
  rw [← e]; exact h
theorem val_i {a b : Int} (h : a = b) : Value.int .i64 a = .int .i64 b := by rw [h]
end Go.Proofs.Ytohgmliafidalaa

/- Plain words on rows in memory, whatever their elements are: where they lie, their cells, what is cut off, what is appended; no conditions. -/
namespace Go.Proofs.Ytohgmliafidalaa
open Go.ChangeShapes Go.WideShapes Go.ChangeAt Go.RowKit
set_option linter.unusedVariables false

/-- A kind of elements: how many cells one has, and which. -/
structure Kind (α : Type) where
  k : Nat
  enc : α → List Value
  len : ∀ a, (enc a).length = k
  one : ∀ a, ∀ u ∈ enc a, u.oneCell' = true
  pos : 0 < k
namespace Kind
variable {α : Type} (K : Kind α)
def flat (es : List α) : List Value := es.flatMap K.enc
theorem flat_length (es : List α) : (K.flat es).length = es.length * K.k := by
  induction es with
  | nil => simp [flat]
  | cons a l ih => simp only [flat, List.flatMap_cons, List.length_append, K.len, List.length_cons] at ih ⊢; rw [ih, Nat.add_mul]; omega
theorem flat_append (es fs : List α) : K.flat (es ++ fs) = K.flat es ++ K.flat fs := by simp [flat]
theorem flat_one (es : List α) : ∀ u ∈ K.flat es, u.oneCell' = true := by
  intro u hu
  simp only [flat, List.mem_flatMap] at hu
  obtain ⟨e, _, hu⟩ := hu
  exact K.one e u hu
theorem flat_drop (es : List α) (n : Nat) (hn : n ≤ es.length) : K.flat (es.drop n) = (K.flat es).drop (n * K.k) := by
  have h : K.flat es = K.flat (es.take n) ++ K.flat (es.drop n) := by rw [← flat_append, List.take_append_drop]
  have hl : (K.flat (es.take n)).length = n * K.k := by rw [flat_length, List.length_take, Nat.min_eq_left hn]
  rw [h, ← hl, List.drop_left]
theorem flat_take (es : List α) (n : Nat) (hn : n ≤ es.length) : K.flat (es.take n) = (K.flat es).take (n * K.k) := by
  have h : K.flat es = K.flat (es.take n) ++ K.flat (es.drop n) := by rw [← flat_append, List.take_append_drop]
  have hl : (K.flat (es.take n)).length = n * K.k := by rw [flat_length, List.length_take, Nat.min_eq_left hn]
  rw [h, ← hl, List.take_left]
theorem flat_get (es : List α) (j : Nat) (hj : j < es.length) (i : Nat) (hi : i < K.k) : (K.flat es)[j * K.k + i]? = (K.enc es[j])[i]? := by
  have h1 := K.flat_drop es j (by omega)
  have h2 : (K.flat (es.drop j))[i]? = (K.enc es[j])[i]? := by
    rw [List.drop_eq_getElem_cons hj]
    simp only [flat, List.flatMap_cons]
    rw [List.getElem?_append_left (by rw [K.len]; exact hi)]
  rw [← h2, h1, List.getElem?_drop]

/-- A row lies in memory, below a bound. -/
def Lies (n₀ : Nat) (W : World) (sv : Value) (es : List α) : Prop :=
  ∃ (ad : Option Addr) (cap : Nat), sv = .slice ad es.length cap ∧ es.length ≤ cap ∧ cap ≤ maxLen ∧ (ad = none → cap = 0) ∧
    (0 < es.length → ∃ b off : Nat, ad = some ⟨b, off, none⟩ ∧ b < n₀ ∧ ∀ j u, (K.flat es)[j]? = some u → W.cell? ⟨b, off + j, none⟩ = some u)
variable {K}
theorem Lies.below {n₀ : Nat} {A B : World} {sv : Value} {es : List α} (h : K.Lies n₀ A sv es) (hb : Below n₀ A B) : K.Lies n₀ B sv es := by
  obtain ⟨ad, cap, e, h1, h2, h3, hc⟩ := h
  refine ⟨ad, cap, e, h1, h2, h3, fun hj => ?_⟩
  obtain ⟨b, off, ea, hbl, c⟩ := hc hj
  exact ⟨b, off, ea, hbl, fun j u hu => (hb.cell (p := ⟨b, off + j, none⟩) hbl).trans (c j u hu)⟩
theorem Lies.mono {n₀ n₁ : Nat} {W : World} {sv : Value} {es : List α} (h : K.Lies n₀ W sv es) (hn : n₀ ≤ n₁) : K.Lies n₁ W sv es := by
  obtain ⟨ad, cap, e, h1, h2, h3, hc⟩ := h
  refine ⟨ad, cap, e, h1, h2, h3, fun hj => ?_⟩
  obtain ⟨b, off, ea, hbl, c⟩ := hc hj
  exact ⟨b, off, ea, by omega, c⟩
theorem Lies.later {A B : World} {sv : Value} {es : List α} (h : K.Lies A.heap.size A sv es) (hb : Below A.heap.size A B) : K.Lies B.heap.size B sv es := (h.below hb).mono hb.size
theorem Lies.nil (n₀ : Nat) (W : World) : K.Lies n₀ W (.slice none 0 0) [] := ⟨none, 0, rfl, Nat.le_refl _, Nat.zero_le _, fun _ => rfl, fun hj => absurd hj (Nat.not_lt_zero _)⟩
theorem Lies.of_own {W : World} {base : Nat} {e : TypeId} {v : Value} {es : List α} (h : W.ownsRow base e K.k v es.length (K.flat es)) : K.Lies W.heap.size W v es := by
  obtain ⟨_, ⟨rfl, h0⟩ | ⟨g, cap, cur, rfl, hb, hg, h1, h2, h3, h4⟩⟩ := h
  · have : es = [] := List.length_eq_zero_iff.1 h0
    subst this
    exact Lies.nil _ _
  · refine ⟨_, cap, rfl, h1, h2, fun h => (by cases h), fun hj => ?_⟩
    have hlt : g < W.heap.size := (Array.getElem?_eq_some_iff.1 hg).1
    refine ⟨g, 0, rfl, hlt, fun j u hu => ?_⟩
    rw [← h4, List.getElem?_take] at hu
    split at hu
    · simpa [World.cell?, hg] using hu
    · cases hu
theorem Lies.drop {n₀ : Nat} {W : World} {b off len cap : Nat} {es : List α} (h : K.Lies n₀ W (.slice (some ⟨b, off, none⟩) len cap) es) (n : Nat) (hn : n ≤ es.length) : K.Lies n₀ W (.slice (some ⟨b, off + n * K.k, none⟩) (len - n) (cap - n)) (es.drop n) := by
  obtain ⟨ad, c, hv, h1, h2, h3, hc⟩ := h
  obtain ⟨rfl, rfl, rfl⟩ : some _ = ad ∧ len = _ ∧ cap = _ := by simpa using hv
  refine ⟨some ⟨b, off + n * K.k, none⟩, cap - n, by rw [List.length_drop], by rw [List.length_drop]; omega, by omega, fun h => (by cases h), fun hj => ?_⟩
  obtain ⟨b', off', he, hb, c⟩ := hc (by simp at hj; omega)
  cases he
  refine ⟨_, _, rfl, hb, fun j u hu => ?_⟩
  rw [K.flat_drop es n hn, List.getElem?_drop] at hu
  rw [Nat.add_assoc]
  exact c _ _ hu
theorem Lies.take {n₀ : Nat} {W : World} {ad : Option Addr} {len cap : Nat} {es : List α} (h : K.Lies n₀ W (.slice ad len cap) es) (n : Nat) (hn : n ≤ es.length) : K.Lies n₀ W (.slice ad n cap) (es.take n) := by
  obtain ⟨ad', c, hv, h1, h2, h3, hc⟩ := h
  obtain ⟨rfl, rfl, rfl⟩ : ad = ad' ∧ len = _ ∧ cap = _ := by simpa using hv
  have el : (es.take n).length = n := by rw [List.length_take]; omega
  refine ⟨ad, cap, by rw [el], by omega, h2, h3, fun hj => ?_⟩
  obtain ⟨b', off', he, hb, c⟩ := hc (by omega)
  refine ⟨b', off', he, hb, fun j u hu => ?_⟩
  rw [K.flat_take es n hn, List.getElem?_take] at hu
  split at hu
  · exact c _ _ hu
  · cases hu
theorem Lies.of_block {W : World} {g : Nat} {es : List α} {t : TypeId} (h : W.heap[g]? = some (.cells (K.flat es).toArray t (0, 0))) (hl : es.length ≤ maxLen) : K.Lies W.heap.size W (.slice (some ⟨g, 0, none⟩) es.length es.length) es := by
  refine ⟨_, _, rfl, Nat.le_refl _, hl, fun h => (by cases h), fun hj => ?_⟩
  refine ⟨g, 0, rfl, (Array.getElem?_eq_some_iff.1 h).1, fun j u hu => ?_⟩
  simpa [World.cell?, h] using hu
/-- What is read of a row is its cells. -/
theorem Lies.cells {n₀ : Nat} {W : World} {b off len cap : Nat} {es : List α} (h : K.Lies n₀ W (.slice (some ⟨b, off, none⟩) len cap) es) : ∀ j u, (K.flat es)[j]? = some u → W.cell? ((⟨b, off, none⟩ : Addr).add j) = some u := by
  obtain ⟨ad, c, hv, h1, h2, h3, hc⟩ := h
  obtain ⟨rfl, rfl, rfl⟩ : some _ = ad ∧ len = _ ∧ cap = _ := by simpa using hv
  intro j u hu
  by_cases h0 : 0 < es.length
  · obtain ⟨b', off', he, hb, c⟩ := hc h0
    cases he
    rw [add_plain]
    exact c j u hu
  · have : es = [] := List.length_eq_zero_iff.1 (by omega)
    subst this
    simp [flat] at hu
/-- The cells of one element of a row. -/
theorem Lies.at {n₀ : Nat} {W : World} {ad : Option Addr} {len cap : Nat} {es : List α} (h : K.Lies n₀ W (.slice ad len cap) es) (j : Nat) (hj : j < es.length) : ∃ b off : Nat, ad = some ⟨b, off, none⟩ ∧ b < n₀ ∧ ∀ i, i < K.k → W.cell? ⟨b, off + j * K.k + i, none⟩ = (K.enc es[j])[i]? := by
  obtain ⟨ad', c, hv, h1, h2, h3, hc⟩ := h
  obtain ⟨rfl, rfl, rfl⟩ : ad = ad' ∧ len = _ ∧ cap = _ := by simpa using hv
  obtain ⟨b, off, he, hb, c⟩ := hc (by omega)
  refine ⟨b, off, he, hb, fun i hi => ?_⟩
  have h1 := K.flat_get es j hj i hi
  have hlt : i < (K.enc es[j]).length := by rw [K.len]; exact hi
  obtain ⟨u, hu⟩ : ∃ u, (K.enc es[j])[i]? = some u := ⟨_, List.getElem?_eq_getElem hlt⟩
  rw [hu] at h1
  rw [hu, Nat.add_assoc]
  exact c _ _ h1
theorem Lies.len {n₀ : Nat} {W : World} {ad : Option Addr} {len cap : Nat} {es : List α} (h : K.Lies n₀ W (.slice ad len cap) es) : len = es.length := by
  obtain ⟨_, _, hv, _⟩ := h
  simp at hv
  exact hv.2.1
variable (K)
/-- A row is appended to a row of one's own. -/
theorem run_append {P : Program} (w : World) (base : Nat) (t ty e : TypeId) (i : TypeInfo) (z : Value) (bytes : Nat) (ht : P.underlying t = some (.slice e)) (hi : P.info? e = some i) (hz : i.zero = some z)
    (hsize : i.size = K.k) (hby : i.bytes = bytes) (hzs : z.cells.size = K.k) (v : Value) (n : Nat) (xs : List Value) (hown : w.ownsRow base e K.k v n xs) {n₀ : Nat} (sv : Value) (es : List α) (hE : K.Lies n₀ w sv es)
    (h63 : n + es.length ≤ maxLen) (hbytes : (n + es.length) * bytes ≤ 140737488355328) (hbase : base ≤ w.heap.size) :
    ∃ v' w', (Builtin.append_ #[t, t] ty #[v, sv]).run P w = .ok v' w' ∧ w'.ownsRow base e K.k v' (n + es.length) (xs ++ K.flat es) ∧ w.grownBy w' v.ownBlock ∧ (v'.ownBlock = v.ownBlock ∨ v'.ownBlock = some w.heap.size) := by
  obtain ⟨ad, c, rfl, h1, h2, h3, hc⟩ := id hE
  by_cases h0 : es.length = 0
  · have : es = [] := List.length_eq_zero_iff.1 h0
    subst this
    cases ad with
    | none =>
      obtain rfl := h3 rfl
      exact ⟨v, w, run_append_owned_none w base t ty e i K.k ht hi v n xs hown, by simpa [flat] using hown, ⟨rfl, rfl, rfl, Nat.le_refl _, fun _ _ _ => rfl⟩, .inl rfl⟩
    | some a =>
      obtain ⟨v', w', r1, r2, r3, _, r5⟩ := run_append_own_at (P := P) w base t ty e i z K.k bytes ht hi hz hsize hby hzs K.pos v n xs hown a 0 c [] (by simp) (by simp) (by simp) h63 hbytes hbase
      exact ⟨v', w', r1, by simpa [flat] using r2, r3, r5⟩
  · obtain ⟨b, off, rfl, _⟩ := hc (by omega)
    obtain ⟨v', w', r1, r2, r3, _, r5⟩ := run_append_own_at (P := P) w base t ty e i z K.k bytes ht hi hz hsize hby hzs K.pos v n xs hown ⟨b, off, none⟩ es.length c (K.flat es) (K.flat_length es) hE.cells (K.flat_one es) h63 hbytes hbase
    exact ⟨v', w', r1, r2, r3, r5⟩
theorem wpList_append {P : Program} (w : World) {ops : Array Oper} {rest : List Oper} {o : Oper} {a : Act} {Q : Exit → Act → World → Prop} (hgd : o.guard = none) (s x : Operand) (t : TypeId)
    (ho : o.op = .call { callee := .builtin .append, args := #[s, x], argTypes := #[t, t] })
    (base : Nat) (e : TypeId) (i : TypeInfo) (z : Value) (bytes : Nat) (ht : P.underlying t = some (.slice e)) (hi : P.info? e = some i) (hz : i.zero = some z)
    (hsize : i.size = K.k) (hby : i.bytes = bytes) (hzs : z.cells.size = K.k) (v : Value) (n : Nat) (xs : List Value) (hs : a.eval s = v) (hown : w.ownsRow base e K.k v n xs) {n₀ : Nat} (sv : Value) (es : List α) (hx : a.eval x = sv) (hE : K.Lies n₀ w sv es)
    (h63 : n + es.length ≤ maxLen) (hbytes : (n + es.length) * bytes ≤ 140737488355328) (hbase : base ≤ w.heap.size)
    (hK : ∀ v' w', w'.ownsRow base e K.k v' (n + es.length) (xs ++ K.flat es) → w.grownBy w' v.ownBlock → (v'.ownBlock = v.ownBlock ∨ v'.ownBlock = some w.heap.size) → wpList P ops Q rest (a.put o.dst v') w') : wpList P ops Q (o :: rest) a w := by
  obtain ⟨v', w', hrun, r1, r2, r3⟩ := K.run_append (P := P) w base t o.type e i z bytes ht hi hz hsize hby hzs v n xs hown sv es hE h63 hbytes hbase
  refine wpList_plain hgd fun K hK' => ?_
  unfold Oper.wp
  simp [execOp, ho, resolve, invoke, builtin, hs, hx, hrun, Result.andThen]
  exact hK' _ _ (hK v' w' r1 r2 r3)
end Kind

theorem own_below {A B : World} {base : Nat} {e : TypeId} {size : Nat} {v : Value} {n : Nat} {xs : List Value} (h : A.ownsRow base e size v n xs) (hb : Below A.heap.size A B) : B.ownsRow base e size v n xs := by
  refine ⟨h.1, ?_⟩
  rcases h.2 with h | ⟨g, cap, cur, hv, h1, h2, h3⟩
  · exact .inl h
  · exact .inr ⟨g, cap, cur, hv, h1, (hb.block g (Array.getElem?_eq_some_iff.1 h2).1).trans h2, h3⟩
theorem own_low {W : World} {base b2 : Nat} {e : TypeId} {size : Nat} {v : Value} {n : Nat} {xs : List Value} (h : W.ownsRow base e size v n xs) (hb : b2 ≤ base) : W.ownsRow b2 e size v n xs := by
  refine ⟨h.1, ?_⟩
  rcases h.2 with h | ⟨g, cap, cur, hv, h1, h2, h3⟩
  · exact .inl h
  · exact .inr ⟨g, cap, cur, hv, Nat.le_trans hb h1, h2, h3⟩
theorem own_from {W : World} {base : Nat} {e : TypeId} {size : Nat} {v : Value} {n : Nat} {xs : List Value} (h : W.ownsRow base e size v n xs) : ∀ k, v.ownBlock = some k → base ≤ k := fun k hk => (h.lt k hk).1
theorem own_slice {W : World} {base : Nat} {e : TypeId} {size : Nat} {v : Value} {n : Nat} {xs : List Value} (h : W.ownsRow base e size v n xs) : ∃ ad cap, v = .slice ad n cap := by
  rcases h.2 with ⟨rfl, rfl⟩ | ⟨g, cap, cur, rfl, _⟩
  · exact ⟨_, _, rfl⟩
  · exact ⟨_, _, rfl⟩
end Go.Proofs.Ytohgmliafidalaa

/- Rows that came in as arguments, whatever their elements are, opened: where their cells lie; no conditions. -/
namespace Go.Proofs.Ytohgmliafidalaa
open Go.ChangeShapes Go.WideShapes Go.ChangeAt Go.RowKit
set_option linter.unusedVariables false

section
variable {H : Type} {enc : TypeId × Value → H} {w : World} {base : Nat} {spare : Nat → Bool} {held : Bool}
theorem Kind.open_rows {α : Type} (K : Kind α) {t e : TypeId} {fuel : Nat} {c : Value} {x : DataW H × List MemPlace} (ht : Try.prog.underlying t = some (.slice e)) (hk : Try.prog.cellsOf e = K.k)
    (dec : ∀ n cs y, cs.length = K.k → DataW.trod enc Try.prog w base spare held n e cs = some y → ∃ a, cs = K.enc a) (h : DataW.trod enc Try.prog w base spare held fuel t [c] = some x) :
    ∃ (ad : Option Addr) (cap : Nat) (es : List α), c = .slice ad es.length cap ∧ es.length ≤ 9223372036854775807 ∧ K.Lies w.heap.size w (.slice ad es.length cap) es := by
  rcases Deep.open_slice ht h with ⟨h0, _⟩ | ⟨a, len, cap, m, n, D, Pl, hcs, hb, hl, hm, hmm, _, hx⟩
  · exact ⟨none, 0, [], by simpa using h0, by simp, Kind.Lies.nil _ _⟩
  have hlm : len ≤ m := by rw [hmm]; split <;> omega
  rw [hk] at hx
  have each : ∀ i, i < len → ∃ q : α, ∀ j, j < K.k → w.cell? (a.add (i * K.k + j)) = (K.enc q)[j]? := by
    intro i hi
    obtain ⟨cs', h1, h2⟩ := hx i (by omega)
    obtain ⟨_, hlen, hcell⟩ := World.cells?_some h1
    obtain ⟨q, rfl⟩ := dec _ _ _ hlen h2
    exact ⟨q, fun j hj => by rw [← Deep.add_add]; exact hcell j hj⟩
  have hall : ∀ m', m' ≤ len → ∃ es : List α, es.length = m' ∧ ∀ i, ∀ hi : i < es.length, ∀ j, j < K.k → w.cell? (a.add (i * K.k + j)) = (K.enc es[i])[j]? := by
    intro m' hm'
    induction m' with
    | zero => exact ⟨[], rfl, fun i hi => absurd hi (Nat.not_lt_zero _)⟩
    | succ m' ih =>
      obtain ⟨es, hes, hcell⟩ := ih (by omega)
      obtain ⟨q, hq⟩ := each m' (by omega)
      refine ⟨es ++ [q], by simp [hes], fun i hi j hj => ?_⟩
      simp at hi
      by_cases hlt : i < es.length
      · rw [List.getElem_append_left hlt]; exact hcell i hlt j hj
      · obtain rfl : i = es.length := by omega
        rw [List.getElem_append_right (Nat.le_refl _)]
        simp only [Nat.sub_self, List.getElem_cons_zero]
        rw [hes]
        exact hq j hj
  obtain ⟨es, hes, hcell⟩ := hall len (Nat.le_refl _)
  have hc' : c = .slice (some a) len cap := by simpa using hcs
  refine ⟨some a, cap, es, by rw [hes]; exact hc', by rw [hes]; unfold maxLen at hm; omega, some a, cap, rfl, by omega, hm, fun h => (by cases h), fun h0 => ?_⟩
  have hsp : a.spot = none := by
    have d0 := hcell 0 h0 0 K.pos
    have hl0 : 0 < (K.enc es[0]).length := by rw [K.len]; exact K.pos
    rw [List.getElem?_eq_getElem hl0] at d0
    have d0' : w.cell? a = some (K.enc es[0])[0] := by simpa [Addr.add] using d0
    cases hs : a.spot with
    | none => rfl
    | some q =>
      simp only [World.cell?] at d0'
      split at d0' <;> simp_all
  obtain ⟨b, off, sp⟩ := a
  simp only at hsp
  subst hsp
  have hlt : b < w.heap.size := by
    have d0 := hcell 0 h0 0 K.pos
    have hl0 : 0 < (K.enc es[0]).length := by rw [K.len]; exact K.pos
    rw [List.getElem?_eq_getElem hl0, add_plain] at d0
    exact block_lt_of_cell d0
  refine ⟨b, off, rfl, hlt, fun j u hu => ?_⟩
  have hj : j < (K.flat es).length := (List.getElem?_eq_some_iff.1 hu).1
  rw [K.flat_length] at hj
  have hdm : j / K.k * K.k + j % K.k = j := by rw [Nat.mul_comm]; exact Nat.div_add_mod j K.k
  have h1 : j / K.k < es.length := Nat.div_lt_of_lt_mul (by rw [Nat.mul_comm]; exact hj)
  have h2 := hcell (j / K.k) h1 (j % K.k) (Nat.mod_lt _ K.pos)
  have h3 := K.flat_get es (j / K.k) h1 (j % K.k) (Nat.mod_lt _ K.pos)
  rw [hdm] at h2 h3
  rw [add_plain] at h2
  rw [h2, ← h3, hu]
set_option maxRecDepth 100000 in
theorem Kind.open_arg {α : Type} (K : Kind α) {t e : TypeId} {r : Reach} {b0 : Nat} {v : Value} {dt : DataW H} {ps : List MemPlace} (ht : Try.prog.underlying t = some (.slice e)) (hk : Try.prog.cellsOf e = K.k)
    (dec : ∀ n cs y, cs.length = K.k → DataW.trod enc Try.prog w base spare held n e cs = some y → ∃ a, cs = K.enc a) (hv : Value.okWide Try.prog w r b0 t v) (h : DataW.Trod enc Try.prog w base spare held t v dt ps) :
    ∃ (ad : Option Addr) (cap : Nat) (es : List α), v = .slice ad es.length cap ∧ es.length ≤ 9223372036854775807 ∧ K.Lies w.heap.size w (.slice ad es.length cap) es := by
  obtain ⟨x, y, c, rfl⟩ := okWide_slice ht hv
  obtain ⟨fu, hf⟩ := h
  exact K.open_rows ht hk dec (by simpa [Value.cells] using hf)
end
end Go.Proofs.Ytohgmliafidalaa

/- Rows of int that lie in memory: their cells, and such a row that came in as an argument; no conditions. -/
namespace Go.Proofs.Ytohgmliafidalaa
open Go.ChangeShapes Go.WideShapes Go.ChangeAt Go.RowKit
set_option linter.unusedVariables false

/-- Rows of int. -/
def kInt : Kind Int := ⟨1, fun z => [.int .i64 z], fun _ => rfl, by intro a u hu; simp at hu; subst hu; rfl, by decide⟩
theorem kInt_flat (zs : List Int) : kInt.flat zs = zs.map (Value.int .i64) := by
  induction zs with
  | nil => rfl
  | cons a l ih => simp only [Kind.flat, List.flatMap_cons, List.map_cons] at ih ⊢; rw [ih]; rfl
theorem infoInt : (Try.prog.info? 3).map (fun i => (i.zero, i.size, i.bytes)) = some (some (.int .i64 0), 1, 8) := by kernel_rfl
theorem info_of {T : TypeId} {z : Value} {m b : Nat} (h : (Try.prog.info? T).map (fun i => (i.zero, i.size, i.bytes)) = some (some z, m, b)) : ∃ i, Try.prog.info? T = some i ∧ i.zero = some z ∧ i.size = m ∧ i.bytes = b := by
  cases hi : Try.prog.info? T with
  | none => rw [hi] at h; cases h
  | some i =>
    rw [hi] at h
    simp only [Option.map_some, Option.some.injEq, Prod.mk.injEq] at h
    exact ⟨i, rfl, h.1, h.2.1, h.2.2⟩
theorem kInt_at {n₀ : Nat} {W : World} {ad : Option Addr} {len cap : Nat} {zs : List Int} (h : kInt.Lies n₀ W (.slice ad len cap) zs) (j : Nat) (hj : j < zs.length) : ∃ b off : Nat, ad = some ⟨b, off, none⟩ ∧ b < n₀ ∧ W.cell? ⟨b, off + j, none⟩ = some (.int .i64 zs[j]) := by
  obtain ⟨b, off, he, hb, hc⟩ := h.at j hj
  refine ⟨b, off, he, hb, ?_⟩
  have := hc 0 (by decide)
  simpa [kInt] using this
section
variable {H : Type} {enc : TypeId × Value → H} {w : World} {base : Nat} {spare : Nat → Bool} {held : Bool}
theorem dec_int (n : Nat) (cs : List Value) (y : DataW H × List MemPlace) (hl : cs.length = kInt.k) (h : DataW.trod enc Try.prog w base spare held n 3 cs = some y) : ∃ a, cs = kInt.enc a := by
  obtain ⟨c0, rfl⟩ : ∃ c0, cs = [c0] := by
    have h2 : cs.length = 1 := hl
    match cs, h2 with
    | [c0], _ => exact ⟨c0, rfl⟩
  obtain ⟨x0, h0, _, w0⟩ := DataW.trod_int Try.underlying3 h
  exact ⟨x0, h0⟩
set_option maxRecDepth 100000 in
theorem open_kints {r : Reach} {b0 : Nat} {v : Value} {dt : DataW H} {ps : List MemPlace} (hv : Value.okWide Try.prog w r b0 22 v) (h : DataW.Trod enc Try.prog w base spare held 22 v dt ps) :
    ∃ (ad : Option Addr) (cap : Nat) (es : List Int), v = .slice ad es.length cap ∧ es.length ≤ 9223372036854775807 ∧ kInt.Lies w.heap.size w (.slice ad es.length cap) es :=
  kInt.open_arg Try.underlying22 (by kernel_rfl) dec_int hv h
end
end Go.Proofs.Ytohgmliafidalaa

/- Plain mathematics of votes: how many there are of each, what both exchanges make of them; no conditions. -/
namespace Go.Proofs.Ytohgmliafidalaa
open Go.ChangeShapes Go.WideShapes Go.ChangeAt Go.RowKit
set_option linter.unusedVariables false

/-- How many of a row are v. -/
def cntL (v : Int) (zs : List Int) : Nat := zs.countP (fun z => decide (z = v))
/-- How many votes are v. -/
def cntF (v : Int) (zs : List Int) : Int := if 0 ≤ v ∧ v < 3 then (cntL v zs : Int) else 0
theorem cntF_in {v : Int} (h1 : 0 ≤ v) (h2 : v < 3) (zs : List Int) : cntF v zs = (cntL v zs : Int) := if_pos ⟨h1, h2⟩
theorem cntF_out {v : Int} (h : ¬ (0 ≤ v ∧ v < 3)) (zs : List Int) : cntF v zs = 0 := if_neg h
theorem cntL_nil (v : Int) : cntL v [] = 0 := rfl
theorem cntL_snoc (v : Int) (zs : List Int) (z : Int) : cntL v (zs ++ [z]) = cntL v zs + if z = v then 1 else 0 := by
  unfold cntL
  rw [List.countP_append, List.countP_singleton]
  by_cases h : z = v
  · rw [if_pos h, if_pos (decide_eq_true h)]
  · rw [if_neg h, if_neg (by simp [h])]
theorem cntL_le (v : Int) (zs : List Int) : cntL v zs ≤ zs.length := List.countP_le_length
theorem cntF_bd (v : Int) (zs : List Int) : 0 ≤ cntF v zs ∧ cntF v zs ≤ (zs.length : Int) := by
  have h := cntL_le v zs
  unfold cntF
  split <;> omega
theorem take_snocV (zs : List Int) {k : Nat} (hk : k < zs.length) : zs.take (k + 1) = zs.take k ++ [zs[k]] := by rw [List.take_add_one]; simp [hk]
/-- Whether there are a quorum. -/
def enoughB (E n f v : Int) (zs : List Int) : Bool := decide (E = 0 ∧ n - f ≤ cntF v zs)
theorem enoughB_no {E : Int} (h : ¬ E = 0) (n f v : Int) (zs : List Int) : enoughB E n f v zs = false := decide_eq_false fun k => h k.1
theorem enoughB_ok {E : Int} (h : E = 0) (n f v : Int) (zs : List Int) : enoughB E n f v zs = decide (n - f ≤ cntF v zs) := by
  unfold enoughB
  simp [h]
/-- What the first exchange makes of votes. -/
def mostF (E n f : Int) (zs : List Int) : Int := if E = 0 then (if n - f ≤ (cntL 1 zs : Int) then 1 else if n - f ≤ (cntL 0 zs : Int) then 0 else 2) else 2
/-- What the second exchange makes of them. -/
def leastF (E f now : Int) (zs : List Int) : Int := if E = 0 then (if f + 1 ≤ (cntL 0 zs : Int) then 0 else if f + 1 ≤ (cntL 1 zs : Int) then 1 else if f + 1 ≤ (cntL 2 zs : Int) then 2 else now) else now
theorem mostF_no {E : Int} (h : ¬ E = 0) (n f : Int) (zs : List Int) : mostF E n f zs = 2 := if_neg h
theorem mostF_1 {E : Int} (h : E = 0) {n f : Int} {zs : List Int} (h1 : n - f ≤ (cntL 1 zs : Int)) : mostF E n f zs = 1 := (if_pos h).trans (if_pos h1)
theorem mostF_0 {E : Int} (h : E = 0) {n f : Int} {zs : List Int} (h1 : ¬ n - f ≤ (cntL 1 zs : Int)) (h2 : n - f ≤ (cntL 0 zs : Int)) : mostF E n f zs = 0 := (if_pos h).trans ((if_neg h1).trans (if_pos h2))
theorem mostF_2 {E : Int} (h : E = 0) {n f : Int} {zs : List Int} (h1 : ¬ n - f ≤ (cntL 1 zs : Int)) (h2 : ¬ n - f ≤ (cntL 0 zs : Int)) : mostF E n f zs = 2 := (if_pos h).trans ((if_neg h1).trans (if_neg h2))
theorem leastF_no {E : Int} (h : ¬ E = 0) (f now : Int) (zs : List Int) : leastF E f now zs = now := if_neg h
theorem leastF_0 {E : Int} (h : E = 0) {f now : Int} {zs : List Int} (h0 : f + 1 ≤ (cntL 0 zs : Int)) : leastF E f now zs = 0 := (if_pos h).trans (if_pos h0)
theorem leastF_1 {E : Int} (h : E = 0) {f now : Int} {zs : List Int} (h0 : ¬ f + 1 ≤ (cntL 0 zs : Int)) (h1 : f + 1 ≤ (cntL 1 zs : Int)) : leastF E f now zs = 1 := (if_pos h).trans ((if_neg h0).trans (if_pos h1))
theorem leastF_2 {E : Int} (h : E = 0) {f now : Int} {zs : List Int} (h0 : ¬ f + 1 ≤ (cntL 0 zs : Int)) (h1 : ¬ f + 1 ≤ (cntL 1 zs : Int)) (h2 : f + 1 ≤ (cntL 2 zs : Int)) : leastF E f now zs = 2 := (if_pos h).trans ((if_neg h0).trans ((if_neg h1).trans (if_pos h2)))
theorem leastF_n {E : Int} (h : E = 0) {f now : Int} {zs : List Int} (h0 : ¬ f + 1 ≤ (cntL 0 zs : Int)) (h1 : ¬ f + 1 ≤ (cntL 1 zs : Int)) (h2 : ¬ f + 1 ≤ (cntL 2 zs : Int)) : leastF E f now zs = now := (if_pos h).trans ((if_neg h0).trans ((if_neg h1).trans (if_neg h2)))
/-- A vote. -/
def voteB (v : Int) : Bool := decide (0 ≤ v ∧ v < 3)
theorem voteB_yes {v : Int} (h1 : 0 ≤ v) (h2 : v < 3) : voteB v = true := decide_eq_true ⟨h1, h2⟩
theorem voteB_no {v : Int} (h : ¬ (0 ≤ v ∧ v < 3)) : voteB v = false := decide_eq_false h
end Go.Proofs.Ytohgmliafidalaa

/- The integer calls of package num (Clamp, Mod, Sat, isWidth) and of the document's answer (Clamp, Mod, Sat) return what plain functions on integers give, and leave the world as it was; for integers that fit int. -/
namespace Go.Proofs.Ytohgmliafidalaa
open Go.ChangeShapes Go.WideShapes Go.ChangeAt Go.RowKit
open Go.ChangeMaps (open_string shut_string)
set_option linter.unusedVariables false

def clampF (n lo hi : Int) : Int := if n < lo ∨ hi < lo then lo else if n ≤ hi then n else hi
def modF (n by_ : Int) : Int := if by_ < 1 then 0 else if n.tmod by_ < 0 then n.tmod by_ + by_ else n.tmod by_
def satF (n most : Int) : Int := if n < 0 ∨ most < 0 then 0 else if most ≤ n then most else n + 1


theorem clamp_any (n lo hi : Int) (w : World) :
    Calls Try.prog 76 #[.int .i64 n, .int .i64 lo, .int .i64 hi] w fun e w' => e = .returned (.int .i64 (clampF n lo hi)) ∧ w = w' := by
  by_cases h1 : n < lo
  · have e : clampF n lo hi = lo := by unfold clampF; rw [if_pos (Or.inl h1)]
    rw [e]; clear e
    go_enter Try.func76, Try.ntmps76
    go_wp2
    go_ret
    exact ⟨rfl, rfl⟩
  · by_cases h2 : hi < lo
    · have e : clampF n lo hi = lo := by unfold clampF; rw [if_pos (Or.inr h2)]
      rw [e]; clear e
      go_enter Try.func76, Try.ntmps76
      go_wp2
      go_ret
      exact ⟨rfl, rfl⟩
    · by_cases h3 : n ≤ hi
      · have e : clampF n lo hi = n := by unfold clampF; rw [if_neg (by omega), if_pos h3]
        rw [e]; clear e
        go_enter Try.func76, Try.ntmps76
        go_wp2
        go_ret
        exact ⟨rfl, rfl⟩
      · have e : clampF n lo hi = hi := by unfold clampF; rw [if_neg (by omega), if_neg h3]
        rw [e]; clear e
        go_enter Try.func76, Try.ntmps76
        go_wp2
        go_ret
        exact ⟨rfl, rfl⟩
theorem mod_any (n b : Int) (w : World) (hn : (Lit.int .i64 n).wf = true) (hb : (Lit.int .i64 b).wf = true) :
    Calls Try.prog 75 #[.int .i64 n, .int .i64 b] w fun e w' => e = .returned (.int .i64 (modF n b)) ∧ w = w' := by
  have bn := bd64 hn
  have bb := bd64 hb
  by_cases h1 : b < 1
  · have e : modF n b = 0 := by unfold modF; rw [if_pos h1]
    rw [e]; clear e
    go_enter Try.func75, Try.ntmps75
    go_wp2
    go_ret
    exact ⟨rfl, rfl⟩
  · by_cases h2 : n.tmod b < 0
    · have e : modF n b = n.tmod b + b := by unfold modF; rw [if_neg h1, if_pos h2]
      rw [e]; clear e
      have hr : -b < n.tmod b := by have := Int.lt_tmod_of_pos n (show 0 < b by omega); omega
      go_enter Try.func75, Try.ntmps75
      go_wp2
      go_ret
      exact ⟨rfl, rfl⟩
    · have e : modF n b = n.tmod b := by unfold modF; rw [if_neg h1, if_neg h2]
      rw [e]; clear e
      go_enter Try.func75, Try.ntmps75
      go_wp2
      go_ret
      exact ⟨rfl, rfl⟩
theorem sat_any (n m : Int) (w : World) (hn : (Lit.int .i64 n).wf = true) (hm : (Lit.int .i64 m).wf = true) :
    Calls Try.prog 60 #[.int .i64 n, .int .i64 m] w fun e w' => e = .returned (.int .i64 (satF n m)) ∧ w = w' := by
  have bn := bd64 hn
  have bb := bd64 hm
  by_cases h1 : n < 0
  · have e : satF n m = 0 := by unfold satF; rw [if_pos (Or.inl h1)]
    rw [e]; clear e
    go_enter Try.func60, Try.ntmps60
    go_wp2
    go_ret
    exact ⟨rfl, rfl⟩
  · by_cases h2 : m < 0
    · have e : satF n m = 0 := by unfold satF; rw [if_pos (Or.inr h2)]
      rw [e]; clear e
      go_enter Try.func60, Try.ntmps60
      go_wp2
      go_ret
      exact ⟨rfl, rfl⟩
    · by_cases h3 : m ≤ n
      · have e : satF n m = m := by unfold satF; rw [if_neg (by omega), if_pos h3]
        rw [e]; clear e
        go_enter Try.func60, Try.ntmps60
        go_wp2
        go_ret
        exact ⟨rfl, rfl⟩
      · have e : satF n m = n + 1 := by unfold satF; rw [if_neg (by omega), if_neg h3]
        rw [e]; clear e
        go_enter Try.func60, Try.ntmps60
        go_wp2
        go_ret
        exact ⟨rfl, rfl⟩
end Go.Proofs.Ytohgmliafidalaa

/- Plain mathematics of bits that are agreed on by kings: a bit at first, behind an exchange, its number; a whole instance; no conditions. -/
namespace Go.Proofs.Ytohgmliafidalaa
open Go.ChangeShapes Go.WideShapes Go.ChangeAt Go.RowKit
set_option linter.unusedVariables false

/-- A row of bits: two cells each. -/
def kBit : Kind (Int × Bool) := ⟨2, fun b => [.int .i64 b.1, .bool b.2], fun _ => rfl, by intro a u hu; simp at hu; rcases hu with rfl | rfl <;> rfl, by decide⟩
/-- A bit as a value. -/
def agB (b : Int × Bool) : Value := .agg #[.int .i64 b.1, .bool b.2]
def startF (b : Int) : Int × Bool := if b = 1 then (1, false) else (0, false)
def valF (b : Int × Bool) : Int := if b.1 < 0 then 2 else if 3 ≤ b.1 then 2 else b.1
def obeyF (b : Int × Bool) (k : Int) : Int × Bool := if valF b ≠ 2 ∧ b.2 = true then (valF b, false) else if k = 1 ∨ k = 2 then (1, false) else (0, false)
def stepF (E n f x : Int) (b : Int × Bool) (k : Int) (vs : List Int) : Int × Bool :=
  if modF x 3 = 0 then (mostF E n f vs, false) else if modF x 3 = 1 then (leastF E f (valF b) vs, enoughB E n f (leastF E f (valF b) vs) vs) else obeyF b k
def codeF (b : Int × Bool) : Int := if b.2 = true then 3 + valF b else valF b
def readK (c : Int) : Int × Bool := if c < 0 ∨ 6 ≤ c then (2, false) else (c.tmod 3, decide (3 ≤ c))
theorem valF_bd (b : Int × Bool) : 0 ≤ valF b ∧ valF b ≤ 2 := by unfold valF; repeat' split <;> omega
theorem valF_same {b : Int × Bool} (h : 0 ≤ b.1 ∧ b.1 ≤ 2) : valF b = b.1 := by unfold valF; rw [if_neg (by omega), if_neg (by omega)]
theorem valF_lo {b : Int × Bool} (h : b.1 < 0) : valF b = 2 := if_pos h
theorem valF_hi {b : Int × Bool} (h : ¬ b.1 < 0) (h2 : 3 ≤ b.1) : valF b = 2 := (if_neg h).trans (if_pos h2)
theorem valF_in {b : Int × Bool} (h : ¬ b.1 < 0) (h2 : ¬ 3 ≤ b.1) : valF b = b.1 := (if_neg h).trans (if_neg h2)
theorem modF3 (x : Int) : 0 ≤ modF x 3 ∧ modF x 3 ≤ 2 := by
  unfold modF
  rw [if_neg (by decide)]
  have h1 := Int.tmod_lt_of_pos x (b := 3) (by decide)
  have h2 := Int.lt_tmod_of_pos x (b := 3) (by decide)
  split <;> omega
theorem modF3_nat (x : Nat) : modF (x : Int) 3 = ((x % 3 : Nat) : Int) := by
  unfold modF
  have e : ((x : Int)).tmod 3 = ((x % 3 : Nat) : Int) := by rw [Int.tmod_eq_emod_of_nonneg (by omega)]; omega
  rw [if_neg (by decide), e, if_neg (by omega)]
theorem stepF_0 {E n f x : Int} {b : Int × Bool} {k : Int} {vs : List Int} (h : modF x 3 = 0) : stepF E n f x b k vs = (mostF E n f vs, false) := if_pos h
theorem stepF_1 {E n f x : Int} {b : Int × Bool} {k : Int} {vs : List Int} (h : modF x 3 = 1) : stepF E n f x b k vs = (leastF E f (valF b) vs, enoughB E n f (leastF E f (valF b) vs) vs) := (if_neg (by omega)).trans (if_pos h)
theorem stepF_2 {E n f x : Int} {b : Int × Bool} {k : Int} {vs : List Int} (h : modF x 3 = 2) : stepF E n f x b k vs = obeyF b k := (if_neg (by omega)).trans (if_neg (by omega))
theorem obeyF_s {b : Int × Bool} {k : Int} (h : valF b ≠ 2) (h2 : b.2 = true) : obeyF b k = (valF b, false) := if_pos ⟨h, h2⟩
theorem obeyF_1 {b : Int × Bool} {k : Int} (h : ¬ (valF b ≠ 2 ∧ b.2 = true)) (h2 : k = 1 ∨ k = 2) : obeyF b k = (1, false) := (if_neg h).trans (if_pos h2)
theorem obeyF_0 {b : Int × Bool} {k : Int} (h : ¬ (valF b ≠ 2 ∧ b.2 = true)) (h2 : ¬ (k = 1 ∨ k = 2)) : obeyF b k = (0, false) := (if_neg h).trans (if_neg h2)
/-- What a lie is: those of one place after another, round and round. -/
def lieF (lies : List Int) (N x a t : Nat) : Int := if lies.length = 0 then -1 else lies.getD (((x * N + a) * N + t) % lies.length) 0
/-- What a node tells another one. -/
def sayF (fa : Nat → Bool) (lies : List Int) (N x t : Nat) (bs : List (Int × Bool)) (a : Nat) : Int := if fa a = true then lieF lies N x a t else valF (bs.getD a (0, false))
def votesL (fa : Nat → Bool) (lies : List Int) (N x t : Nat) (bs : List (Int × Bool)) : List Int := (List.range N).map (sayF fa lies N x t bs)
def stepN (fa : Nat → Bool) (lies : List Int) (N : Nat) (f : Int) (x : Nat) (bs : List (Int × Bool)) (t : Nat) : Int × Bool := stepF 0 N f x (bs.getD t (0, false)) ((votesL fa lies N x t bs).getD (x / 3) 0) (votesL fa lies N x t bs)
def exchL (fa : Nat → Bool) (lies : List Int) (N : Nat) (f : Int) (x : Nat) (bs : List (Int × Bool)) : List (Int × Bool) := (List.range N).map (stepN fa lies N f x bs)
def startL (N : Nat) (bits : List Int) : List (Int × Bool) := (List.range N).map fun i => startF (bits.getD i 0)
def playL (fa : Nat → Bool) (lies : List Int) (N : Nat) (f : Int) (bits : List Int) : Nat → List (Int × Bool)
  | 0 => startL N bits
  | x + 1 => exchL fa lies N f x (playL fa lies N f bits x)
def endN (fa : Nat → Bool) (bs : List (Int × Bool)) (i : Nat) : Int := if fa i = true then -1 else valF (bs.getD i (0, false))
def endsL (fa : Nat → Bool) (N : Nat) (bs : List (Int × Bool)) : List Int := (List.range N).map (endN fa bs)
/-- A row that is filled up to k. -/
def fillL {α : Type} (z : α) (N : Nat) (g : Nat → α) (k : Nat) : List α := (List.range N).map fun j => if j < k then g j else z
theorem fillL_len {α : Type} (z : α) (N : Nat) (g : Nat → α) (k : Nat) : (fillL z N g k).length = N := by simp [fillL]
theorem fillL_0 {α : Type} (z : α) (N : Nat) (g : Nat → α) : fillL z N g 0 = List.replicate N z := by
  apply List.ext_getElem <;> simp [fillL]
theorem fillL_all {α : Type} (z : α) (N : Nat) (g : Nat → α) : fillL z N g N = (List.range N).map g := by
  apply List.ext_getElem
  · simp [fillL]
  · intro i h1 h2
    simp [fillL] at h1 ⊢
    intro h; omega
theorem fillL_set {α : Type} (z : α) (N : Nat) (g : Nat → α) (k : Nat) (hk : k < N) : (fillL z N g k).set k (g k) = fillL z N g (k + 1) := by
  apply List.ext_getElem
  · simp [fillL]
  · intro i h1 h2
    rw [List.getElem_set]
    simp only [fillL, List.getElem_map, List.getElem_range]
    by_cases e : k = i
    · subst e; rw [if_pos rfl, if_pos (by omega)]
    · rw [if_neg e]
      by_cases h : i < k
      · rw [if_pos h, if_pos (by omega)]
      · rw [if_neg h, if_neg (by omega)]
theorem votesL_len (fa : Nat → Bool) (lies : List Int) (N x t : Nat) (bs : List (Int × Bool)) : (votesL fa lies N x t bs).length = N := by simp [votesL]
theorem exchL_len (fa : Nat → Bool) (lies : List Int) (N : Nat) (f : Int) (x : Nat) (bs : List (Int × Bool)) : (exchL fa lies N f x bs).length = N := by simp [exchL]
theorem playL_len (fa : Nat → Bool) (lies : List Int) (N : Nat) (f : Int) (bits : List Int) (x : Nat) : (playL fa lies N f bits x).length = N := by
  cases x <;> simp [playL, startL, exchL]
theorem range_getD {α : Type} (z : α) (N : Nat) (g : Nat → α) (i : Nat) (hi : i < N) : ((List.range N).map g).getD i z = g i := by simp [hi]
end Go.Proofs.Ytohgmliafidalaa

/- Texts as lists of bytes, and back; no conditions. -/
namespace Go.Proofs.Ytohgmliafidalaa
set_option linter.unusedVariables false

/-- A text as a list, and back. -/
def bl (s : ByteArray) : List UInt8 := s.data.toList
def ba (l : List UInt8) : ByteArray := ⟨l.toArray⟩
theorem ba_bl (s : ByteArray) : ba (bl s) = s := by simp [ba, bl]
theorem bl_ba (l : List UInt8) : bl (ba l) = l := by simp [ba, bl]
theorem bl_length (s : ByteArray) : (bl s).length = s.size := by simp [bl]
theorem bl_inj {s t : ByteArray} (h : bl s = bl t) : s = t := by rw [← ba_bl s, ← ba_bl t, h]
theorem ba_size (l : List UInt8) : (ba l).size = l.length := by simp [ba, ByteArray.size]
theorem ba_append (a b : List UInt8) : ba a ++ ba b = ba (a ++ b) := by
  apply ByteArray.ext
  simp [ba, ByteArray.data_append]
theorem bl_append (a b : ByteArray) : bl (a ++ b) = bl a ++ bl b := by simp [bl, ByteArray.data_append]
theorem ba_nil : ba [] = ⟨#[]⟩ := rfl

end Go.Proofs.Ytohgmliafidalaa

/- Plain words on a block of six cells that is written anew: what is read of it then; no conditions. -/
namespace Go.Proofs.Ytohgmliafidalaa
open Go.ChangeShapes Go.WideShapes Go.ChangeAt Go.RowKit
set_option linter.unusedVariables false

theorem blk_frozen {w : World} {b : Nat} {C : Array Value} {t : TypeId} (h : w.heap[b]? = some (.cells C t (0, 0))) (i : Nat) : w.frozen? ⟨b, i, none⟩ = false := by
  simp [World.frozen?, h]
theorem blk_cell {w : World} {b : Nat} {C : Array Value} {t : TypeId} (h : w.heap[b]? = some (.cells C t (0, 0))) (i : Nat) : w.cell? ⟨b, i, none⟩ = C[i]? := by
  simp [World.cell?, h]
theorem blk_second (w : World) (o : Obj) (C : Array Value) (t : TypeId) {w' : World} (hb : Below ((w.alloc o).alloc (.cells C t)).heap.size ((w.alloc o).alloc (.cells C t)) w') : w'.heap[w.heap.size + 1]? = some (.cells C t (0, 0)) := by
  refine (hb.block (w.heap.size + 1) (by simp)).trans ?_
  have := heap_alloc_new (w.alloc o) (.cells C t)
  rw [World.size_alloc] at this
  exact this
theorem set6T {w : World} {b : Nat} {z0 z1 z2 z3 z4 z5 : Value} {t : TypeId} (h : w.heap[b]? = some (.cells #[z0, z1, z2, z3, z4, z5] t (0, 0))) (v0 v1 v2 v3 v4 v5 : Value) :
    ((((((w.setCell ⟨b, 0, none⟩ v0).setCell ⟨b, 1, none⟩ v1).setCell ⟨b, 2, none⟩ v2).setCell ⟨b, 3, none⟩ v3).setCell ⟨b, 4, none⟩ v4).setCell ⟨b, 5, none⟩ v5).heap[b]? = some (.cells #[v0, v1, v2, v3, v4, v5] t (0, 0)) := by
  have h1 := heap_setCell_same _ b 0 _ _ v0 h
  have h2 := heap_setCell_same _ b 1 _ _ v1 h1
  have h3 := heap_setCell_same _ b 2 _ _ v2 h2
  have h4 := heap_setCell_same _ b 3 _ _ v3 h3
  have h5 := heap_setCell_same _ b 4 _ _ v4 h4
  have h6 := heap_setCell_same _ b 5 _ _ v5 h5
  simpa using h6
theorem read6T {w : World} {b : Nat} {z0 z1 z2 z3 z4 z5 : Value} {t : TypeId} (h : w.heap[b]? = some (.cells #[z0, z1, z2, z3, z4, z5] t (0, 0))) (v0 v1 v2 v3 v4 v5 : Value) :
    ((((((w.setCell ⟨b, 0, none⟩ v0).setCell ⟨b, 1, none⟩ v1).setCell ⟨b, 2, none⟩ v2).setCell ⟨b, 3, none⟩ v3).setCell ⟨b, 4, none⟩ v4).setCell ⟨b, 5, none⟩ v5).cell? ⟨b, 0, none⟩ = some v0 ∧ ((((((w.setCell ⟨b, 0, none⟩ v0).setCell ⟨b, 1, none⟩ v1).setCell ⟨b, 2, none⟩ v2).setCell ⟨b, 3, none⟩ v3).setCell ⟨b, 4, none⟩ v4).setCell ⟨b, 5, none⟩ v5).cell? ⟨b, 1, none⟩ = some v1 ∧ ((((((w.setCell ⟨b, 0, none⟩ v0).setCell ⟨b, 1, none⟩ v1).setCell ⟨b, 2, none⟩ v2).setCell ⟨b, 3, none⟩ v3).setCell ⟨b, 4, none⟩ v4).setCell ⟨b, 5, none⟩ v5).cell? ⟨b, 2, none⟩ = some v2 ∧ ((((((w.setCell ⟨b, 0, none⟩ v0).setCell ⟨b, 1, none⟩ v1).setCell ⟨b, 2, none⟩ v2).setCell ⟨b, 3, none⟩ v3).setCell ⟨b, 4, none⟩ v4).setCell ⟨b, 5, none⟩ v5).cell? ⟨b, 3, none⟩ = some v3 ∧ ((((((w.setCell ⟨b, 0, none⟩ v0).setCell ⟨b, 1, none⟩ v1).setCell ⟨b, 2, none⟩ v2).setCell ⟨b, 3, none⟩ v3).setCell ⟨b, 4, none⟩ v4).setCell ⟨b, 5, none⟩ v5).cell? ⟨b, 4, none⟩ = some v4 ∧ ((((((w.setCell ⟨b, 0, none⟩ v0).setCell ⟨b, 1, none⟩ v1).setCell ⟨b, 2, none⟩ v2).setCell ⟨b, 3, none⟩ v3).setCell ⟨b, 4, none⟩ v4).setCell ⟨b, 5, none⟩ v5).cell? ⟨b, 5, none⟩ = some v5 := by
  have h6 := set6T h v0 v1 v2 v3 v4 v5
  refine ⟨?_, ?_, ?_, ?_, ?_, ?_⟩ <;> simp only [World.cell?, h6] <;> rfl
theorem below6T {B : Nat} {a w : World} {b : Nat} (h : Below B a w) (hp : B ≤ b) (v0 v1 v2 v3 v4 v5 : Value) : Below B a ((((((w.setCell ⟨b, 0, none⟩ v0).setCell ⟨b, 1, none⟩ v1).setCell ⟨b, 2, none⟩ v2).setCell ⟨b, 3, none⟩ v3).setCell ⟨b, 4, none⟩ v4).setCell ⟨b, 5, none⟩ v5) :=
  (((((h.setCell (p := ⟨b, 0, none⟩) hp _).setCell (p := ⟨b, 1, none⟩) hp _).setCell (p := ⟨b, 2, none⟩) hp _).setCell (p := ⟨b, 3, none⟩) hp _).setCell (p := ⟨b, 4, none⟩) hp _).setCell (p := ⟨b, 5, none⟩) hp _
theorem read6A {w : World} {b : Nat} {z0 z1 z2 z3 z4 z5 : Value} {t : TypeId} (h : w.heap[b]? = some (.cells #[z0, z1, z2, z3, z4, z5] t (0, 0))) (o : Obj) (v0 v1 v2 v3 v4 v5 : Value) :
    (((((((w.setCell ⟨b, 0, none⟩ v0).setCell ⟨b, 1, none⟩ v1).setCell ⟨b, 2, none⟩ v2).setCell ⟨b, 3, none⟩ v3).setCell ⟨b, 4, none⟩ v4).setCell ⟨b, 5, none⟩ v5).alloc o).cell? ⟨b, 0, none⟩ = some v0 ∧ (((((((w.setCell ⟨b, 0, none⟩ v0).setCell ⟨b, 1, none⟩ v1).setCell ⟨b, 2, none⟩ v2).setCell ⟨b, 3, none⟩ v3).setCell ⟨b, 4, none⟩ v4).setCell ⟨b, 5, none⟩ v5).alloc o).cell? ⟨b, 1, none⟩ = some v1 ∧ (((((((w.setCell ⟨b, 0, none⟩ v0).setCell ⟨b, 1, none⟩ v1).setCell ⟨b, 2, none⟩ v2).setCell ⟨b, 3, none⟩ v3).setCell ⟨b, 4, none⟩ v4).setCell ⟨b, 5, none⟩ v5).alloc o).cell? ⟨b, 2, none⟩ = some v2 ∧ (((((((w.setCell ⟨b, 0, none⟩ v0).setCell ⟨b, 1, none⟩ v1).setCell ⟨b, 2, none⟩ v2).setCell ⟨b, 3, none⟩ v3).setCell ⟨b, 4, none⟩ v4).setCell ⟨b, 5, none⟩ v5).alloc o).cell? ⟨b, 3, none⟩ = some v3 ∧ (((((((w.setCell ⟨b, 0, none⟩ v0).setCell ⟨b, 1, none⟩ v1).setCell ⟨b, 2, none⟩ v2).setCell ⟨b, 3, none⟩ v3).setCell ⟨b, 4, none⟩ v4).setCell ⟨b, 5, none⟩ v5).alloc o).cell? ⟨b, 4, none⟩ = some v4 ∧ (((((((w.setCell ⟨b, 0, none⟩ v0).setCell ⟨b, 1, none⟩ v1).setCell ⟨b, 2, none⟩ v2).setCell ⟨b, 3, none⟩ v3).setCell ⟨b, 4, none⟩ v4).setCell ⟨b, 5, none⟩ v5).alloc o).cell? ⟨b, 5, none⟩ = some v5 := by
  have h6 := set6T h v0 v1 v2 v3 v4 v5
  have h7 := ((ballc _ o).block b (Array.getElem?_eq_some_iff.1 h6).1).trans h6
  refine ⟨?_, ?_, ?_, ?_, ?_, ?_⟩ <;> simp only [World.cell?, h7] <;> rfl
theorem below6A {a w : World} {b : Nat} (h : Below a.heap.size a w) (hp : a.heap.size ≤ b) (o : Obj) (v0 v1 v2 v3 v4 v5 : Value) : Below a.heap.size a (((((((w.setCell ⟨b, 0, none⟩ v0).setCell ⟨b, 1, none⟩ v1).setCell ⟨b, 2, none⟩ v2).setCell ⟨b, 3, none⟩ v3).setCell ⟨b, 4, none⟩ v4).setCell ⟨b, 5, none⟩ v5).alloc o) :=
  (below6T h hp v0 v1 v2 v3 v4 v5).alloc (below6T h hp v0 v1 v2 v3 v4 v5).size o
theorem blk_lt {w : World} {b : Nat} {o : Obj} (h : w.heap[b]? = some o) : b < w.heap.size := (Array.getElem?_eq_some_iff.1 h).1
theorem blk_later {w w' : World} {b : Nat} {o : Obj} (h : w.heap[b]? = some o) (hb : Below w.heap.size w w') : w'.heap[b]? = some o := (hb.block b (blk_lt h)).trans h
theorem blk_nw (w : World) (C : Array Value) (t : TypeId) : (w.alloc (.cells C t)).heap[w.heap.size]? = some (.cells C t (0, 0)) := heap_alloc_new w _
theorem blk_newAt (w : World) (C : Array Value) (t : TypeId) {b : Nat} (hb : b = w.heap.size) : (w.alloc (.cells C t)).heap[b]? = some (.cells C t (0, 0)) := by subst hb; exact heap_alloc_new w _
end Go.Proofs.Ytohgmliafidalaa

/- Texts as lists of numbers: what a row of bytes is as a text; no conditions. -/
namespace Go.Proofs.Ytohgmliafidalaa
open Go.ChangeShapes Go.WideShapes Go.ChangeAt Go.RowKit
set_option linter.unusedVariables false

def numStr (zs : List Int) : ByteArray := ⟨(zs.map fun z => UInt8.ofNat z.toNat).toArray⟩
def leInts : Int → Nat → List Int
  | _, 0 => []
  | n, k + 1 => n % 256 :: leInts (n / 256) k

theorem cons2 {a b : Int} {l m : List Int} (h : a = b) (g : l = m) : a :: l = b :: m := by rw [h, g]

theorem foldl_push_nums : ∀ (zs : List Int) (r : ByteArray), zs.foldl (fun r n => r.push (UInt8.ofNat n.toNat)) r = ⟨r.data ++ (zs.map fun z => UInt8.ofNat z.toNat).toArray⟩
  | [], r => by simp
  | z :: zs, r => by
    simp only [List.foldl_cons]
    rw [foldl_push_nums zs]
    simp [ByteArray.push]

theorem conv_cells (w : World) (zs : List Int) (cap : Nat) :
    (convert 88 9 (.slice (some ⟨w.heap.size, 0, none⟩) zs.length cap)).run Try.prog (w.alloc (.cells (zs.map (Value.int .u8)).toArray 5)) = .ok (.string (numStr zs)) (w.alloc (.cells (zs.map (Value.int .u8)).toArray 5)) := by
  rw [run_convert_bytes_string _ 88 9 5 _ _ _ Try.underlying88 Try.underlying5 Try.underlying9]
  have hl := run_loadCells_list (P := Try.prog) (w.alloc (.cells (zs.map (Value.int .u8)).toArray 5)) ⟨w.heap.size, 0, none⟩ (zs.map (Value.int .u8)) (fun j v hj => by
    have ha : (Addr.mk w.heap.size 0 none).add j = ⟨w.heap.size, j, none⟩ := by
      by_cases h : j = 0
      · subst h; rfl
      · simp [Addr.add, h]
    rw [ha, World.cell?_alloc_at _ _ _ _ rfl]
    simpa using hj)
  simp only [List.length_map] at hl
  rw [run_bytesToString _ _ zs.length cap _ hl, foldl_push_nums]
  have he0 : ByteArray.empty.data = #[] := rfl
  rw [he0]
  simp [numStr]

end Go.Proofs.Ytohgmliafidalaa

/- Plain words on rows of bytes that a call has made: their cells, one byte set, the text that they are; no conditions. -/
namespace Go.Proofs.Ytohgmliafidalaa
open Go.ChangeShapes Go.WideShapes Go.ChangeAt Go.RowKit
set_option linter.unusedVariables false

/-- The cells of a row of bytes. -/
def bvals (l : List UInt8) : Array Value := (l.map fun x => Value.int .u8 (x.toNat : Int)).toArray
theorem bvals_size (l : List UInt8) : (bvals l).size = l.length := by simp [bvals]
theorem bvals_at (l : List UInt8) (i : Nat) (h : i < l.length) : (bvals l)[i]? = some (.int .u8 (l[i].toNat : Int)) := by simp [bvals, h]
theorem bvals_set (l : List UInt8) (i : Nat) (x : Nat) (hx : x < 256) : (bvals l).setIfInBounds i (.int .u8 (x : Int)) = bvals (l.set i (UInt8.ofNat x)) := by
  apply Array.ext'
  simp only [bvals, Array.toList_setIfInBounds, List.map_set]
  rw [UInt8.toNat_ofNat_of_lt' hx]
theorem bvals_made (n : Nat) : madeCells #[Value.int .u8 0] n = bvals (List.replicate n 0) := by
  have h := toList_madeCells_one (Value.int .u8 0) n
  apply Array.ext'
  rw [h]
  simp [bvals]
theorem infoByte : (Try.prog.info? 5).map (fun i => (i.zero, i.size, i.bytes)) = some (some (.int .u8 0), 1, 1) := by kernel_rfl
/-- make of so many bytes. -/
theorem make_bytes (n : Nat) (hn : n ≤ 100000) (w : World) : (Instr.makeSlice 88 (.int .i64 (n : Int)) (.int .i64 (n : Int))).run Try.prog w = .ok (.slice (some ⟨w.heap.size, 0, none⟩) n n) (w.alloc (.cells (bvals (List.replicate n 0)) 5)) := by
  rw [← bvals_made]
  exact run_make_row' 88 5 (.int .u8 0) 1 Try.underlying88 infoByte rfl .i64 .i64 n (by omega) (by omega) w
theorem conv_blk {W : World} {g : Nat} {l : List UInt8} {t : TypeId} (h : W.heap[g]? = some (.cells (bvals l) t (0, 0))) :
    (convert 88 9 (.slice (some ⟨g, 0, none⟩) l.length l.length)).run Try.prog W = .ok (.string (ba l)) W := by
  refine run_convert_bytes_back W 88 9 5 _ _ l Try.underlying88 Try.underlying5 Try.underlying9 ?_
  intro j hj
  rw [add_plain, Nat.zero_add, blk_cell h j, bvals_at l j hj]
theorem numStr_one (n : Int) : numStr [n] = ba [UInt8.ofNat n.toNat] := rfl
end Go.Proofs.Ytohgmliafidalaa

/- Rows of numbers as blocks of memory: how they are made, read and written; no conditions. -/
namespace Go.Proofs.Ytohgmliafidalaa
open Go.ChangeShapes Go.WideShapes Go.ChangeAt Go.RowKit
set_option linter.unusedVariables false

theorem kInt_set (l : List Int) (i : Nat) (v : Int) : (kInt.flat l).set i (.int .i64 v) = kInt.flat (l.set i v) := by
  rw [kInt_flat, kInt_flat, List.map_set]
theorem kInt_get (l : List Int) (i : Nat) (hi : i < l.length) : (kInt.flat l)[i]? = some (.int .i64 (l.getD i 0)) := by
  rw [kInt_flat]; simp [hi]
/-- A row of numbers that is a block of its own. -/
def IBlk (W : World) (g : Nat) (l : List Int) : Prop := W.heap[g]? = some (.cells (kInt.flat l).toArray 3 (0, 0))
theorem IBlk.lt {W : World} {g : Nat} {l : List Int} (h : IBlk W g l) : g < W.heap.size := blk_lt h
theorem IBlk.later {W W' : World} {g : Nat} {l : List Int} (h : IBlk W g l) (hb : Below W.heap.size W W') : IBlk W' g l := blk_later h hb
theorem IBlk.open {W : World} {g : Nat} {l : List Int} (h : IBlk W g l) (i : Nat) : W.frozen? ⟨g, i, none⟩ = false := blk_frozen h i
theorem IBlk.cell {W : World} {g : Nat} {l : List Int} (h : IBlk W g l) (i : Nat) (hi : i < l.length) : W.cell? ⟨g, i, none⟩ = some (.int .i64 (l.getD i 0)) := by
  rw [blk_cell h i, List.getElem?_toArray, kInt_get l i hi]
theorem IBlk.set {W : World} {g : Nat} {l : List Int} (h : IBlk W g l) (i : Nat) (v : Int) : IBlk (W.setCell ⟨g, i, none⟩ (.int .i64 v)) g (l.set i v) := by
  have := heap_setCell_same W g i _ _ (.int .i64 v) h
  rw [List.setIfInBounds_toArray, kInt_set] at this
  exact this
theorem blk_other {W : World} {g : Nat} {o : Obj} (h : W.heap[g]? = some o) (a : Addr) (v : Value) (ha : g ≠ a.block) : (W.setCell a v).heap[g]? = some o := (heap_setCell_other W a g v ha).trans h
theorem IBlk.lies {W : World} {g : Nat} {l : List Int} (h : IBlk W g l) (hl : l.length ≤ maxLen) : kInt.Lies W.heap.size W (.slice (some ⟨g, 0, none⟩) l.length l.length) l := Kind.Lies.of_block h hl
theorem made_ints (n : Nat) : madeCells #[.int .i64 0] n = (kInt.flat (List.replicate n 0)).toArray := by
  apply Array.ext'
  rw [toList_madeCells_one, kInt_flat]
  simp
theorem make_ints {n : Int} (N : Nat) (e : n = (N : Int)) (hn : N ≤ 100000) (w : World) : (Instr.makeSlice 22 (.int .i64 n) (.int .i64 n)).run Try.prog w = .ok (.slice (some ⟨w.heap.size, 0, none⟩) N N) (w.alloc (.cells (kInt.flat (List.replicate N 0)).toArray 3)) := by
  subst e
  rw [← made_ints]
  exact run_make_row' 22 3 (.int .i64 0) 8 Try.underlying22 infoInt rfl .i64 .i64 N (by omega) (by omega) w
end Go.Proofs.Ytohgmliafidalaa

/- Plain mathematics of frames that wait: what is held behind a frame that comes, what is for this tick and what is left, how many are held; no Go text in sight. -/
namespace Go.Proofs.Ytohgmliafidalaa
set_option linter.unusedVariables false

/-- A text without a byte. -/
def noB : ByteArray := ⟨#[]⟩
def emt (s : ByteArray) : Bool := s.toList.isEmpty
theorem emt_noB : emt noB = true := by
  unfold emt
  rw [ByteArray.toList_eq]
  rfl
theorem emt_eq {s : ByteArray} (h : emt s = true) : s = noB := by
  unfold emt at h
  rw [ByteArray.toList_eq] at h
  have h2 : s.data.toList = [] := List.isEmpty_iff.1 h
  apply ByteArray.ext
  apply Array.toList_inj.1
  exact h2
/-- What is for this tick, and what is left. -/
def takeN (N D : Nat) (hs : List ByteArray) : List ByteArray := (List.range N).map fun i => hs.getD (i * D) noB
def takeR (n D : Nat) (hs : List ByteArray) : List ByteArray := (List.range n).map fun j => if (j + 1) % D = 0 then noB else hs.getD (j + 1) noB
/-- How many of a node's first places have something. -/
def heldK (D : Nat) (hs : List ByteArray) (i k : Nat) : Nat := ((List.range k).filter fun k => !emt (hs.getD (i * D + k) noB)).length
theorem takeN_length (N D : Nat) (hs : List ByteArray) : (takeN N D hs).length = N := by simp [takeN]
theorem takeR_length (n D : Nat) (hs : List ByteArray) : (takeR n D hs).length = n := by simp [takeR]
theorem takeN_at (N D : Nat) (hs : List ByteArray) (i : Nat) (hi : i < N) : (takeN N D hs).getD i noB = hs.getD (i * D) noB := by
  rw [List.getD_eq_getElem?_getD, takeN, List.getElem?_map, List.getElem?_range hi]; rfl
theorem takeR_at (n D : Nat) (hs : List ByteArray) (j : Nat) (hj : j < n) : (takeR n D hs).getD j noB = if (j + 1) % D = 0 then noB else hs.getD (j + 1) noB := by
  rw [List.getD_eq_getElem?_getD, takeR, List.getElem?_map, List.getElem?_range hj]; rfl
theorem getD_set (hs : List ByteArray) (p j : Nat) (b : ByteArray) (hp : p < hs.length) : (hs.set p b).getD j noB = if j = p then b else hs.getD j noB := by
  rw [List.getD_eq_getElem?_getD, List.getD_eq_getElem?_getD, List.getElem?_set]
  by_cases h : p = j
  · rw [if_pos h, if_pos hp, if_pos h.symm]; rfl
  · rw [if_neg h, if_neg (fun k => h k.symm)]
theorem list_ext (a b : List ByteArray) (hl : a.length = b.length) (h : ∀ j, j < a.length → a.getD j noB = b.getD j noB) : a = b := by
  apply List.ext_getElem hl
  intro i h1 h2
  have := h i h1
  rwa [List.getD_eq_getElem?_getD, List.getD_eq_getElem?_getD, List.getElem?_eq_getElem h1, List.getElem?_eq_getElem h2] at this
theorem mul_lt_place {N D f k : Nat} (hf : f < N) (hk : k < D) : f * D + k < N * D := by
  have h1 : (f + 1) * D ≤ N * D := Nat.mul_le_mul_right D hf
  rw [Nat.add_mul] at h1
  omega
theorem place_mod (D f k : Nat) (hk : k < D) : (f * D + k) % D = k := by rw [Nat.add_comm, Nat.add_mul_mod_self_right, Nat.mod_eq_of_lt hk]
/-- A frame that is set behind a node's first place is not taken now. -/
theorem takeN_set {N D f k : Nat} (hs : List ByteArray) (b : ByteArray) (hl : hs.length = N * D) (hf : f < N) (hk : k < D) (i : Nat) (hi : i < N) :
    (takeN N D (hs.set (f * D + k) b)).getD i noB = if i = f ∧ k = 0 then b else (takeN N D hs).getD i noB := by
  have hp : f * D + k < hs.length := by rw [hl]; exact mul_lt_place hf hk
  rw [takeN_at _ _ _ _ hi, takeN_at _ _ _ _ hi, getD_set _ _ _ _ hp]
  by_cases h : i * D = f * D + k
  · have h1 : (i * D) % D = 0 := Nat.mul_mod_left i D
    rw [h, place_mod D f k hk] at h1
    have h2 : i = f := by
      rw [h1, Nat.add_zero] at h
      exact Nat.eq_of_mul_eq_mul_right (by omega) h
    rw [if_pos h, if_pos ⟨h2, h1⟩]
  · rw [if_neg h, if_neg]
    rintro ⟨rfl, rfl⟩
    exact h (Nat.add_zero _).symm
theorem takeR_set {N D f k : Nat} (hs : List ByteArray) (b : ByteArray) (hl : hs.length = N * D) (hf : f < N) (hk : k < D) :
    takeR (N * D) D (hs.set (f * D + k) b) = if k = 0 then takeR (N * D) D hs else (takeR (N * D) D hs).set (f * D + (k - 1)) b := by
  have hp : f * D + k < hs.length := by rw [hl]; exact mul_lt_place hf hk
  by_cases h0 : k = 0
  · rw [if_pos h0]
    apply list_ext
    · rw [takeR_length, takeR_length]
    · intro j hj
      rw [takeR_length] at hj
      rw [takeR_at _ _ _ _ hj, takeR_at _ _ _ _ hj, getD_set _ _ _ _ hp]
      by_cases hm : (j + 1) % D = 0
      · rw [if_pos hm, if_pos hm]
      · rw [if_neg hm, if_neg hm, if_neg]
        intro e
        rw [e, place_mod D f k hk] at hm
        exact hm h0
  · rw [if_neg h0]
    have hq : f * D + (k - 1) < (takeR (N * D) D hs).length := by rw [takeR_length]; exact mul_lt_place hf (by omega)
    apply list_ext
    · rw [List.length_set, takeR_length, takeR_length]
    · intro j hj
      rw [takeR_length] at hj
      rw [getD_set _ _ _ _ hq, takeR_at _ _ _ _ hj, takeR_at _ _ _ _ hj, getD_set _ _ _ _ hp]
      by_cases e : j = f * D + (k - 1)
      · have e2 : j + 1 = f * D + k := by omega
        have e3 : ¬ (j + 1) % D = 0 := by rw [e2, place_mod D f k hk]; exact h0
        rw [if_neg e3, if_pos e2, if_pos e]
      · rw [if_neg e, if_neg (show ¬ j + 1 = f * D + k by omega)]
/-- What lies one place nearer. -/
theorem takeR_near {N D f k : Nat} (hs : List ByteArray) (hf : f < N) (hk : k < D) (h0 : ¬ k = 0) : (takeR (N * D) D hs).getD (f * D + (k - 1)) noB = hs.getD (f * D + k) noB := by
  rw [takeR_at _ _ _ _ (mul_lt_place hf (by omega))]
  have e2 : f * D + (k - 1) + 1 = f * D + k := by omega
  rw [e2, place_mod D f k hk, if_neg h0]
theorem heldK_zero (D : Nat) (hs : List ByteArray) (i : Nat) : heldK D hs i 0 = 0 := rfl
theorem heldK_succ (D : Nat) (hs : List ByteArray) (i k : Nat) : heldK D hs i (k + 1) = heldK D hs i k + if emt (hs.getD (i * D + k) noB) = true then 0 else 1 := by
  unfold heldK
  rw [List.range_succ, List.filter_append, List.length_append]
  simp only [List.filter_cons, List.filter_nil]
  cases h : emt (hs.getD (i * D + k) noB) <;> rfl
theorem heldK_le (D : Nat) (hs : List ByteArray) (i k : Nat) : heldK D hs i k ≤ k := by
  unfold heldK
  have := List.length_filter_le (fun k => !emt (hs.getD (i * D + k) noB)) (List.range k)
  rw [List.length_range] at this
  exact this
/-- What is taken is held no more. -/
theorem held_step {N D f : Nat} (hs : List ByteArray) (hf : f < N) : ∀ k, k < D → heldK D (takeR (N * D) D hs) f k + (if emt (hs.getD (f * D) noB) = true then 0 else 1) = heldK D hs f (k + 1) := by
  intro k
  induction k with
  | zero => intro _; rw [heldK_zero, heldK_succ, heldK_zero, Nat.add_zero]
  | succ k ih =>
    intro hk
    have := ih (by omega)
    rw [heldK_succ D hs f (k + 1), ← this, heldK_succ]
    have e := takeR_near hs hf hk (by omega)
    rw [Nat.add_sub_cancel] at e
    rw [e]
    omega
theorem held_take {N D f : Nat} (hs : List ByteArray) (hf : f < N) (hD : 0 < D) : heldK D (takeR (N * D) D hs) f D + (if emt (hs.getD (f * D) noB) = true then 0 else 1) = heldK D hs f D := by
  obtain ⟨k, rfl⟩ : ∃ k, D = k + 1 := ⟨D - 1, by omega⟩
  rw [heldK_succ]
  have h := held_step hs hf k (Nat.lt_succ_self k)
  have e : (takeR (N * (k + 1)) (k + 1) hs).getD (f * (k + 1) + k) noB = noB := by
    rw [takeR_at _ _ _ _ (mul_lt_place hf (Nat.lt_succ_self k)), if_pos]
    have e2 : f * (k + 1) + k + 1 = (f + 1) * (k + 1) := by rw [Nat.add_mul]; omega
    rw [e2, Nat.mul_mod_left]
  rw [e, emt_noB, if_pos rfl, Nat.add_zero]
  exact h
/-- So many ticks later the last places are empty. -/
def Gone (D i : Nat) (hs : List ByteArray) : Prop := ∀ j, j < hs.length → D ≤ j % D + i → hs.getD j noB = noB
theorem Gone.zero (D : Nat) (hD : 0 < D) (hs : List ByteArray) : Gone D 0 hs := fun j hj h => by
  have := Nat.mod_lt j hD
  omega
theorem Gone.succ {N D i : Nat} {hs : List ByteArray} (hD : 0 < D) (hl : hs.length = N * D) (h : Gone D i hs) : Gone D (i + 1) (takeR (N * D) D hs) := by
  intro j hj hm
  rw [takeR_length] at hj
  rw [takeR_at _ _ _ _ hj]
  by_cases h0 : (j + 1) % D = 0
  · rw [if_pos h0]
  · rw [if_neg h0]
    have hj1 : j + 1 < N * D := by
      by_cases e : j + 1 = N * D
      · rw [e, Nat.mul_mod_left] at h0; exact absurd rfl h0
      · omega
    have e3 : (j + 1) % D = j % D + 1 := by
      have h1 := Nat.mod_lt j hD
      by_cases e : j % D + 1 = D
      · exfalso
        apply h0
        rw [Nat.add_mod, show (1 : Nat) % D = if D = 1 then 0 else 1 by split <;> rename_i k; (rw [k]); exact Nat.mod_eq_of_lt (by omega)]
        split
        · rename_i k; rw [k]; exact Nat.mod_one _
        · rw [e]; exact Nat.mod_self D
      · rw [Nat.add_mod]
        have h2 : 1 < D := by omega
        rw [Nat.mod_eq_of_lt h2, Nat.mod_eq_of_lt (by omega)]
    refine h (j + 1) (by omega) ?_
    omega
theorem Gone.all {N D : Nat} {hs : List ByteArray} (hl : hs.length = N * D) (h : Gone D D hs) : hs = List.replicate (N * D) noB := by
  apply list_ext
  · rw [hl, List.length_replicate]
  · intro j hj
    rw [h j hj (by omega)]
    rw [List.getD_eq_getElem?_getD, List.getElem?_replicate]
    split <;> rfl
theorem held_none (N D f : Nat) : ∀ k, heldK D (List.replicate (N * D) noB) f k = 0 := by
  intro k
  induction k with
  | zero => rfl
  | succ k ih =>
    rw [heldK_succ, ih]
    have e : (List.replicate (N * D) noB).getD (f * D + k) noB = noB := by
      rw [List.getD_eq_getElem?_getD, List.getElem?_replicate]
      split <;> rfl
    rw [e, emt_noB]
    rfl
end Go.Proofs.Ytohgmliafidalaa

/- Plain mathematics of texts of digits: the digit at a place, the text of so many digits, codes and what is told of them, a step of each; no conditions. -/
namespace Go.Proofs.Ytohgmliafidalaa
open Go.ChangeShapes Go.WideShapes Go.ChangeAt Go.RowKit
set_option linter.unusedVariables false

/-- The digit at a place of a text, up to the last one; else -1. -/
def vdg (last : Int) (s : ByteArray) (k : Nat) : Int := if h : k < s.size then (if ((s[k]'h).toNat : Int) < 48 ∨ last + 48 < ((s[k]'h).toNat : Int) then -1 else ((s[k]'h).toNat : Int) - 48) else -1
theorem vdg_out {last : Int} {s : ByteArray} {k : Nat} (h : s.size ≤ k) : vdg last s k = -1 := dif_neg (by omega)
theorem vdg_no {last : Int} {s : ByteArray} {k : Nat} (h : k < s.size) (h2 : ((s[k]'h).toNat : Int) < 48 ∨ last + 48 < ((s[k]'h).toNat : Int)) : vdg last s k = -1 := (dif_pos h).trans (if_pos h2)
theorem vdg_in {last : Int} {s : ByteArray} {k : Nat} (h : k < s.size) (h1 : ¬ ((s[k]'h).toNat : Int) < 48) (h2 : ¬ last + 48 < ((s[k]'h).toNat : Int)) : vdg last s k = ((s[k]'h).toNat : Int) - 48 := (dif_pos h).trans (if_neg (by omega))
theorem vdg_bd {last : Int} (hl : 0 ≤ last) (s : ByteArray) (k : Nat) : -1 ≤ vdg last s k ∧ vdg last s k ≤ last := by
  unfold vdg
  split
  · split <;> omega
  · omega
/-- A text of so many digits. -/
def dgL (n : Nat) (g : Nat → Nat) : List UInt8 := (List.range n).map fun k => UInt8.ofNat (48 + g k)
def dgB (n : Nat) (g : Nat → Nat) : ByteArray := ba (dgL n g)
theorem dgL_len (n : Nat) (g : Nat → Nat) : (dgL n g).length = n := by simp [dgL]
theorem dgB_size (n : Nat) (g : Nat → Nat) : (dgB n g).size = n := by rw [dgB, ba_size, dgL_len]
theorem dgB_0 (g : Nat → Nat) : dgB 0 g = noB := rfl
theorem dgB_s (n : Nat) (g : Nat → Nat) : dgB (n + 1) g = dgB n g ++ ba [UInt8.ofNat (48 + g n)] := by
  unfold dgB
  rw [ba_append]
  simp [dgL, List.range_succ]
theorem dgB_byte (n : Nat) (g : Nat → Nat) (k : Nat) (hk : k < n) (hg : g k ≤ 9) (h : k < (dgB n g).size) : ((dgB n g)[k]'h).toNat = 48 + g k := by
  have e : (dgB n g)[k]'h = UInt8.ofNat (48 + g k) := by
    show (dgL n g).toArray[k]'_ = _
    simp [dgL]
  rw [e, UInt8.toNat_ofNat_of_lt' (by simp [UInt8.size]; omega)]
theorem vdg_dgB {last : Int} {n : Nat} {g : Nat → Nat} {k : Nat} (hk : k < n) (hg : g k ≤ 9) (hl : (g k : Int) ≤ last) : vdg last (dgB n g) k = g k := by
  have hs : k < (dgB n g).size := by rw [dgB_size]; exact hk
  have e := dgB_byte n g k hk hg hs
  rw [vdg_in hs (by omega) (by omega), e]
  omega
theorem dgB_congr {n : Nat} {g h : Nat → Nat} (e : ∀ k, k < n → g k = h k) : dgB n g = dgB n h := by
  unfold dgB dgL
  congr 1
  apply List.map_congr_left
  intro k hk
  rw [e k (List.mem_range.1 hk)]
theorem codeF_bd (b : Int × Bool) : 0 ≤ codeF b ∧ codeF b ≤ 5 := by
  have := valF_bd b
  unfold codeF
  split <;> omega
theorem readK_bd (c : Int) : 0 ≤ (readK c).1 ∧ (readK c).1 ≤ 2 := by
  unfold readK
  split
  · exact ⟨by decide, by decide⟩
  · have h1 := Int.tmod_lt_of_pos c (b := 3) (by decide)
    have h2 := Int.tmod_nonneg (a := c) 3 (by omega)
    exact ⟨h2, by simp only; omega⟩
/-- What a bit is read of the code at a place; what is told of it; what code a bit has at first; behind a step. -/
def bitK (s : ByteArray) (k : Nat) : Int × Bool := readK (vdg 5 s k)
def valG (s : ByteArray) (k : Nat) : Nat := (bitK s k).1.toNat
def ofG (s : ByteArray) (k : Nat) : Nat := (codeF (startF (vdg 1 s k))).toNat
def stpB (E n f x : Int) (codes told : ByteArray) (votes : List ByteArray) (k : Nat) : Int × Bool := stepF E n f x (bitK codes k) (vdg 2 told k) (votes.map fun t => vdg 2 t k)
def stpG (E n f x : Int) (codes told : ByteArray) (votes : List ByteArray) (k : Nat) : Nat := (codeF (stpB E n f x codes told votes k)).toNat
theorem valG_bd (s : ByteArray) (k : Nat) : valG s k ≤ 2 := by have := readK_bd (vdg 5 s k); unfold valG bitK; omega
theorem valG_int (s : ByteArray) (k : Nat) : (valG s k : Int) = (bitK s k).1 := by have := readK_bd (vdg 5 s k); unfold valG bitK; omega
theorem ofG_bd (s : ByteArray) (k : Nat) : ofG s k ≤ 5 := by have := codeF_bd (startF (vdg 1 s k)); unfold ofG; omega
theorem ofG_int (s : ByteArray) (k : Nat) : (ofG s k : Int) = codeF (startF (vdg 1 s k)) := by have := codeF_bd (startF (vdg 1 s k)); unfold ofG; omega
theorem stpG_bd (E n f x : Int) (codes told : ByteArray) (votes : List ByteArray) (k : Nat) : stpG E n f x codes told votes k ≤ 5 := by have := codeF_bd (stpB E n f x codes told votes k); unfold stpG; omega
theorem stpG_int (E n f x : Int) (codes told : ByteArray) (votes : List ByteArray) (k : Nat) : (stpG E n f x codes told votes k : Int) = codeF (stpB E n f x codes told votes k) := by have := codeF_bd (stpB E n f x codes told votes k); unfold stpG; omega
end Go.Proofs.Ytohgmliafidalaa

/- The call digitAt of package vec returns a plain function's number, and makes no memory; conditions: the text's length fits int. -/
namespace Go.Proofs.Ytohgmliafidalaa
open Go.ChangeShapes Go.WideShapes Go.ChangeAt Go.RowKit
set_option linter.unusedVariables false
attribute [local go_sem] cell_rg

theorem vdigitAt_any (s : ByteArray) (k : Nat) (last : Int) (w : World) (hs : s.size ≤ 9223372036854775807) (hl : 0 ≤ last ∧ last ≤ 9) :
    Calls Try.prog 97 #[.string s, .int .i64 (k : Int), .int .i64 last] w fun e w' => e = .returned (.int .i64 (vdg last s k)) ∧ w = w' := by
  by_cases h2 : s.size ≤ k
  · have d3 : (s.size : Int) ≤ (k : Int) := by omega
    have e := hidden (vdg_out (last := last) h2)
    go_enter Try.func97, Try.ntmps97
    go_wp2
    go_ret
    exact ⟨ret_i e.out.symm, rfl⟩
  · have hj : k < s.size := by omega
    have d3 : ¬ (s.size : Int) ≤ (k : Int) := by omega
    have hb := (s[k]'hj).toNat_lt
    by_cases h3 : ((s[k]'hj).toNat : Int) < 48
    · have e := hidden (vdg_no (last := last) hj (.inl h3))
      have d4 : decide (((s[k]'hj).toNat : Int) - 48 < 0) = true := decide_eq_true (by omega)
      go_enter Try.func97, Try.ntmps97
      go_wp2
      go_ret
      exact ⟨ret_i e.out.symm, rfl⟩
    · have d4 : decide (((s[k]'hj).toNat : Int) - 48 < 0) = false := decide_eq_false (by omega)
      by_cases h4 : last + 48 < ((s[k]'hj).toNat : Int)
      · have e := hidden (vdg_no (last := last) hj (.inr h4))
        have d5 : decide (last < ((s[k]'hj).toNat : Int) - 48) = true := decide_eq_true (by omega)
        go_enter Try.func97, Try.ntmps97
        go_wp2
        go_ret
        exact ⟨ret_i e.out.symm, rfl⟩
      · have e := hidden (vdg_in (last := last) hj h3 h4)
        have d5 : decide (last < ((s[k]'hj).toNat : Int) - 48) = false := decide_eq_false (by omega)
        go_enter Try.func97, Try.ntmps97
        go_wp2
        go_ret
        exact ⟨ret_i e.out.symm, rfl⟩
end Go.Proofs.Ytohgmliafidalaa
