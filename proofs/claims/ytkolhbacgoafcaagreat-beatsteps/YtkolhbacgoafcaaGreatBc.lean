/- Several texts of one's own in one: what each proves, and its conditions, is said ahead of it. -/
import Derived.Test.YtkolhbacgoafcaaGreatBa
import Derived.Test.YtkolhbacgoafcaaGreatBb
import Derived.WalkSpells
import Derived.Laws.BytesString
import Derived.Deep.OwnRows
import Derived.Laws.IdiomStrings
import Derived.Laws.AppendOwn
import Derived.Lib.LazyBuf
import Derived.Lib.BufferMore
import Derived.Laws.IdiomCopy

/- The calls eachOwns of package conf and owned of the document's answer tell whether each owner is a node and each node owns a slot; conditions: 4 to 13 nodes. -/
namespace Go.Proofs.YtkolhbacgoafcaaGreat
open Go.ChangeShapes Go.WideShapes Go.ChangeAt Go.RowKit
set_option linter.unusedVariables false
attribute [local go_sem] cell_rg

def ownsB (n : Int) (zs : List Int) : Bool := zs.all (fun z => decide (0 ≤ z ∧ z ≤ n - 1)) && (List.range n.toNat).all (fun j => decide ((j : Int) ∈ zs))
theorem ownsB_iff {n : Int} {zs : List Int} : ownsB n zs = true ↔ (∀ z ∈ zs, 0 ≤ z ∧ z ≤ n - 1) ∧ ∀ j : Nat, (j : Int) < n → (j : Int) ∈ zs := by
  unfold ownsB
  simp only [Bool.and_eq_true, List.all_eq_true, decide_eq_true_eq, List.mem_range]
  constructor
  · rintro ⟨h1, h2⟩
    exact ⟨h1, fun j hj => h2 j (by omega)⟩
  · rintro ⟨h1, h2⟩
    exact ⟨h1, fun j hj => h2 j (by omega)⟩
theorem ownsB_bad {n : Int} {zs : List Int} (k : Nat) (hk : k < zs.length) (h : ¬ (0 ≤ zs.getD k 0 ∧ zs.getD k 0 ≤ n - 1)) : ownsB n zs = false := by
  rw [← Bool.not_eq_true, ownsB_iff]
  rintro ⟨h1, _⟩
  refine h (h1 _ ?_)
  rw [List.getD_eq_getElem?_getD, List.getElem?_eq_getElem hk]
  exact List.getElem_mem hk
theorem ownsB_miss {n : Int} {zs : List Int} (j : Nat) (hj : (j : Int) < n) (h : ¬ (j : Int) ∈ zs) : ownsB n zs = false := by
  rw [← Bool.not_eq_true, ownsB_iff]
  rintro ⟨_, h2⟩
  exact h (h2 j hj)
theorem ownsB_yes {n : Int} {zs : List Int} (h1 : ∀ z ∈ zs, 0 ≤ z ∧ z ≤ n - 1) (h2 : ∀ j : Nat, (j : Int) < n → (j : Int) ∈ zs) : ownsB n zs = true := ownsB_iff.2 ⟨h1, h2⟩
theorem take_succ_getD {zs : List Int} (k : Nat) (hk : k < zs.length) : zs.take (k + 1) = zs.take k ++ [zs.getD k 0] := by
  rw [List.take_succ_eq_append_getElem hk, List.getD_eq_getElem?_getD, List.getElem?_eq_getElem hk]; rfl

theorem within_yes (x a b : Int) (w : World) (h1 : a ≤ x) (h2 : x ≤ b) :
    Calls Tryz.prog 56 #[.int .i64 x, .int .i64 a, .int .i64 b] w fun e w' => e = .returned (.bool true) ∧ w' = w := by
  go_enter Tryz.func56, Tryz.ntmps56
  go_wp2
  go_ret
  exact ⟨rfl, rfl⟩
theorem within_no (x a b : Int) (w : World) (h : ¬ (a ≤ x ∧ x ≤ b)) :
    Calls Tryz.prog 56 #[.int .i64 x, .int .i64 a, .int .i64 b] w fun e w' => e = .returned (.bool false) ∧ w' = w := by
  by_cases h1 : a ≤ x
  · have h2 : ¬ x ≤ b := fun h2 => h ⟨h1, h2⟩
    clear h
    have h2' : decide (x ≤ b) = false := by simp [h2]
    go_enter Tryz.func56, Tryz.ntmps56
    go_wp2
    go_ret
    exact ⟨rfl, rfl⟩
  · clear h
    have h1' : decide (a ≤ x) = false := by simp [h1]
    go_enter Tryz.func56, Tryz.ntmps56
    go_wp2
    go_ret
    exact ⟨rfl, rfl⟩

/-- The owners up to k hold node j. -/
def hasTo (zs : List Int) (k : Nat) (j : Nat) : Bool := decide ((j : Int) ∈ zs.take k)
theorem hasTo_zero (zs : List Int) (j : Nat) : hasTo zs 0 j = false := by simp [hasTo]
theorem hasTo_succ {zs : List Int} (k : Nat) (hk : k < zs.length) (j : Nat) : hasTo zs (k + 1) j = (hasTo zs k j || decide (zs.getD k 0 = (j : Int))) := by
  unfold hasTo
  rw [take_succ_getD k hk]
  by_cases h : (j : Int) ∈ zs.take k <;> simp only [List.mem_append, List.mem_singleton, h, decide_true, decide_false, Bool.true_or, Bool.false_or, true_or, false_or]
  exact decide_eq_decide.2 ⟨fun h => h.symm, fun h => h.symm⟩
theorem hasTo_all {zs : List Int} {j : Nat} : hasTo zs zs.length j = true ↔ (j : Int) ∈ zs := by simp [hasTo]

theorem all_succ {zs : List Int} {n : Int} (k : Nat) (hk : k < zs.length) (h : ∀ z ∈ zs.take k, 0 ≤ z ∧ z ≤ n - 1) (h1 : 0 ≤ zs.getD k 0) (h2 : zs.getD k 0 ≤ n - 1) : ∀ z ∈ zs.take (k + 1), 0 ≤ z ∧ z ≤ n - 1 := by
  intro z hz
  rw [take_succ_getD k hk, List.mem_append, List.mem_singleton] at hz
  rcases hz with hz | rfl
  · exact h z hz
  · exact ⟨h1, h2⟩
theorem bdrew {w W : World} (h : Below w.heap.size w W) (m : Nat) : Below w.heap.size w (W.drewN m) := bthen h (Joins.below_draws _ _ _)

set_option maxHeartbeats 1000000 in
theorem owned_any (n f d p r dr o sl md fr : Int) (ad : Option Addr) (cap : Nat) (zs : List Int) (w : World) (hn1 : 4 ≤ n) (hn2 : n ≤ 13) (hl : zs.length ≤ 9223372036854775807) (hT : Tab w ad zs) :
    Calls Tryz.prog 57 #[.agg #[.int .i64 n, .int .i64 f, .int .i64 d, .int .i64 p, .int .i64 r, .int .i64 dr, .int .i64 o, .int .i64 sl, .int .i64 md, .int .i64 fr, .slice ad zs.length cap]] w fun e w' => e = .returned (.bool (ownsB n zs)) ∧ Below w.heap.size w w' := by
  have hw1 : IntKind.i64.wrap (n - 1) = n - 1 := IntWalk.i64_in (n - 1) (by omega)
  have HT : Hid (Tab (w.alloc (.cells #[.int .i64 n, .int .i64 f, .int .i64 d, .int .i64 p, .int .i64 r, .int .i64 dr, .int .i64 o, .int .i64 sl, .int .i64 md, .int .i64 fr, .slice ad zs.length cap] 24)) ad zs) := hT.below (ballc _ _)
  clear hT
  go_enter Tryz.func57, Tryz.ntmps57
  go_wp2
  go_loopw [3] (fun i wl => ∃ k : Nat, k ≤ zs.length ∧ i = .int .i64 k ∧ (∀ z ∈ zs.take k, 0 ≤ z ∧ z ≤ n - 1) ∧ Below (w.alloc (.cells #[.int .i64 n, .int .i64 f, .int .i64 d, .int .i64 p, .int .i64 r, .int .i64 dr, .int .i64 o, .int .i64 sl, .int .i64 md, .int .i64 fr, .slice ad zs.length cap] 24)).heap.size (w.alloc (.cells #[.int .i64 n, .int .i64 f, .int .i64 d, .int .i64 p, .int .i64 r, .int .i64 dr, .int .i64 o, .int .i64 sl, .int .i64 md, .int .i64 fr, .slice ad zs.length cap] 24)) wl) (fun i _ => zs.length - (intOf i).toNat)
  case atStart => exact ⟨0, Nat.zero_le _, rfl, by simp, Below.refl _ _⟩
  case round =>
    obtain ⟨k, hk, rfl, hall, hb⟩ := hrel
    have HA : Hid (∀ z ∈ zs.take k, 0 ≤ z ∧ z ≤ n - 1) := hall
    have HB : Hid (Below (w.alloc (.cells #[.int .i64 n, .int .i64 f, .int .i64 d, .int .i64 p, .int .i64 r, .int .i64 dr, .int .i64 o, .int .i64 sl, .int .i64 md, .int .i64 fr, .slice ad zs.length cap] 24)).heap.size (w.alloc (.cells #[.int .i64 n, .int .i64 f, .int .i64 d, .int .i64 p, .int .i64 r, .int .i64 dr, .int .i64 o, .int .i64 sl, .int .i64 md, .int .i64 fr, .slice ad zs.length cap] 24)) wr) := hb
    obtain ⟨hbox, hsz⟩ := box_at hb
    clear hall hb
    by_cases hlt : k < zs.length
    · obtain ⟨a, rfl, hc, ha⟩ := (HT.out.below HB.out).lies k hlt
      generalize hzz : zs.getD k 0 = z at hc
      have HZ : Hid (zs.getD k 0 = z) := hzz
      clear hzz
      by_cases hz : 0 ≤ z ∧ z ≤ n - 1
      · have hq := fun v => Calls.to_belowR (within_yes z 0 (n - 1) v hz.1 hz.2)
        have HN : Hid (0 ≤ z ∧ z ≤ n - 1) := hz
        clear hz
        go_wp2
        refine wp_region_quiet_below (by kernel_rfl) (by kernel_rfl) ?_
        repeat (go_big_quiet_step (exact Calls.regrown_of (hq _)))
        refine wpQuiet_nil ?_
        intro w2 hw2
        have HB2 : Hid (Below wr.heap.size wr w2) := rg_below hw2
        clear hw2
        go_wp2
        go_roundw
        case rel => exact ⟨k + 1, by omega, by go_num, all_succ k hlt HA.out (by rw [HZ.out]; exact HN.out.1) (by rw [HZ.out]; exact HN.out.2), bthen HB.out HB2.out⟩
        case measure => simp [intOf]; omega
      · have hq := fun v => Calls.to_belowR (within_no z 0 (n - 1) v hz)
        have HN : Hid (¬ (0 ≤ z ∧ z ≤ n - 1)) := hz
        clear hz
        go_wp2
        refine wp_region_quiet_below (by kernel_rfl) (by kernel_rfl) ?_
        repeat (go_big_quiet_step (exact Calls.regrown_of (hq _)))
        refine wpQuiet_nil ?_
        intro w2 hw2
        have HB2 : Hid (Below wr.heap.size wr w2) := rg_below hw2
        clear hw2
        go_wp2
        go_ret
        exact ⟨ret_b (by rw [ownsB_bad k hlt (by rw [HZ.out]; exact HN.out)]), bthen (bthen (ballc _ _) HB.out) HB2.out⟩
    · have hk' : k = zs.length := by omega
      subst hk'
      clear hk hw1
      go_wp2
      go_loop [4] (fun i => ∃ j : Nat, (j : Int) ≤ n ∧ i = .int .i64 j ∧ (∀ t : Nat, t < j → (t : Int) ∈ zs)) (fun i => (n - intOf i).toNat)
      case atStart => exact ⟨0, by omega, rfl, by simp⟩
      case round =>
        obtain ⟨j, hj, rfl, hown⟩ := hrel
        have HO : Hid (∀ t : Nat, t < j → (t : Int) ∈ zs) := hown
        clear hown
        by_cases hjn : (j : Int) < n
        · go_wp2
          go_loop [5, 6] (fun h i => ∃ k : Nat, k ≤ zs.length ∧ i = .int .i64 k ∧ h = .bool (hasTo zs k j)) (fun _ i => zs.length - (intOf i).toNat)
          case atStart => exact ⟨0, Nat.zero_le _, rfl, by rw [hasTo_zero]⟩
          case round =>
            obtain ⟨k, hk, rfl, rfl⟩ := hrel
            by_cases hlt2 : k < zs.length
            · obtain ⟨a, rfl, hc, ha⟩ := (HT.out.below HB.out).lies k hlt2
              have HS := hasTo_succ k hlt2 j
              generalize hzz : zs.getD k 0 = z at hc HS
              clear hzz
              generalize hg : hasTo zs k j = hs at HS
              have HG : Hid (hasTo zs k j = hs) := hg
              clear hg
              have HS' : Hid (hasTo zs (k + 1) j = (hs || decide (z = (j : Int)))) := HS
              clear HS
              cases hs with
              | true =>
                go_wp2
                go_round
                case rel => exact ⟨k + 1, by omega, by go_num, by rw [HS'.out]; rfl⟩
                case measure => simp [intOf]; omega
              | false =>
                by_cases hzj : z = (j : Int)
                all_goals
                  go_wp2
                  go_round
                  case rel => exact ⟨k + 1, by omega, by go_num, by rw [HS'.out]; simp [hzj]⟩
                  case measure => simp [intOf]; omega
            · have hk' : k = zs.length := by omega
              subst hk'
              by_cases hh : hasTo zs zs.length j = true
              · have HJ : Hid ((j : Int) ∈ zs) := hasTo_all.1 hh
                go_wp2
                go_round
                case rel => exact ⟨j + 1, by omega, by go_num, fun t ht => by
                  by_cases e : t = j
                  · subst e; exact HJ.out
                  · exact HO.out t (by omega)⟩
                case measure => simp [intOf]; omega
              · have HJ : Hid (¬ (j : Int) ∈ zs) := fun h => hh (hasTo_all.2 h)
                have hh' : hasTo zs zs.length j = false := by simpa using hh
                clear hh
                go_wp2
                go_ret
                exact ⟨ret_b (by rw [ownsB_miss j hjn HJ.out]), bthen (ballc _ _) HB.out⟩
        · go_wp2
          go_ret
          exact ⟨ret_b (by rw [ownsB_yes (by simpa using HA.out) (fun t ht => HO.out t (by omega))]), bthen (ballc _ _) HB.out⟩
end Go.Proofs.YtkolhbacgoafcaaGreat

/- The call eachOwns of package conf tells whether each owner is a node and each node owns a slot; conditions: 4 to 13 nodes. -/
namespace Go.Proofs.YtkolhbacgoafcaaGreat
open Go.ChangeShapes Go.WideShapes Go.ChangeAt Go.RowKit
set_option linter.unusedVariables false

theorem hold_yes (a b x : Int) (w : World) (h1 : a ≤ x) (h2 : x ≤ b) :
    Calls Tryz.prog 42 #[.agg #[.int .i64 a, .int .i64 b], .int .i64 x] w fun e w' => e = .returned (.bool true) ∧ Below w.heap.size w w' :=
  (hold_any a b x w).mono fun e w' ⟨he, hb⟩ => ⟨by rw [he]; exact ret_b (decide_eq_true ⟨h1, h2⟩), hb⟩
theorem hold_no (a b x : Int) (w : World) (h : ¬ (a ≤ x ∧ x ≤ b)) :
    Calls Tryz.prog 42 #[.agg #[.int .i64 a, .int .i64 b], .int .i64 x] w fun e w' => e = .returned (.bool false) ∧ Below w.heap.size w w' :=
  (hold_any a b x w).mono fun e w' ⟨he, hb⟩ => ⟨by rw [he]; exact ret_b (decide_eq_false h), hb⟩

/-- The marks of a count of owners, in a block of the call's own. -/
structure Marks (w0 wl : World) (g N : Nat) (h : Nat → Bool) : Prop where
  c0 : wl.cell? ⟨g, 0, none⟩ = some (.int .i64 0)
  c1 : wl.cell? ⟨g, 1, none⟩ = some (.int .i64 ((N : Int) - 1))
  m : ∀ j, j < 13 → wl.cell? ⟨g, 2 + j, none⟩ = some (.bool (h j))
  fz : ∀ i, wl.frozen? ⟨g, i, none⟩ = false
  lt : g < wl.heap.size
  bel : Below g w0 wl
theorem Marks.start (w0 : World) (N : Nat) (t : TypeId) (h : Nat → Bool) (h0 : ∀ j, h j = false) : Marks w0 (w0.alloc (.cells #[.int .i64 0, .int .i64 ((N : Int) - 1), .bool false, .bool false, .bool false, .bool false, .bool false, .bool false, .bool false, .bool false, .bool false, .bool false, .bool false, .bool false, .bool false] t)) w0.heap.size N h where
  c0 := by rw [World.cell?_alloc_mark]; rfl
  c1 := by rw [World.cell?_alloc_mark]; rfl
  m := by
    intro j hj
    rw [World.cell?_alloc_mark, h0]
    have hj' : j = 0 ∨ j = 1 ∨ j = 2 ∨ j = 3 ∨ j = 4 ∨ j = 5 ∨ j = 6 ∨ j = 7 ∨ j = 8 ∨ j = 9 ∨ j = 10 ∨ j = 11 ∨ j = 12 := by omega
    rcases hj' with rfl | rfl | rfl | rfl | rfl | rfl | rfl | rfl | rfl | rfl | rfl | rfl | rfl <;> rfl
  fz := fun i => Joins.unfrozen_of_block (heap_alloc_new w0 _) i
  lt := by simp
  bel := ballc _ _
theorem Marks.grow {w0 wl w2 : World} {g N : Nat} {h : Nat → Bool} (k : Marks w0 wl g N h) (hb : Below wl.heap.size wl w2) : Marks w0 w2 g N h where
  c0 := by rw [hb.cell k.lt]; exact k.c0
  c1 := by rw [hb.cell k.lt]; exact k.c1
  m := fun j hj => by rw [hb.cell k.lt]; exact k.m j hj
  fz := fun i => by rw [hb.frozen k.lt]; exact k.fz i
  lt := Nat.lt_of_lt_of_le k.lt hb.size
  bel := k.bel.trans (hb.mono (Nat.le_of_lt k.lt))
theorem Marks.set {w0 wl : World} {g N : Nat} {h h' : Nat → Bool} (k : Marks w0 wl g N h) (t : Nat) (ht : t < 13) (hh : ∀ j, h' j = (h j || decide ((t : Int) = (j : Int)))) : Marks w0 (wl.setCell ⟨g, 2 + t, none⟩ (.bool true)) g N h' where
  c0 := by rw [World.cell?_setCell_other _ _ _ _ (by simp <;> omega)]; exact k.c0
  c1 := by rw [World.cell?_setCell_other _ _ _ _ (by simp <;> omega)]; exact k.c1
  m := fun j hj => by
    rw [hh]
    by_cases e : t = j
    · subst e
      rw [World.cell?_setCell_same _ _ _ (k.m t ht)]
      simp
    · rw [World.cell?_setCell_other _ _ _ _ (by simp <;> omega), k.m j hj]
      have : ¬ (t : Int) = (j : Int) := by omega
      simp [this]
  fz := fun i => by rw [World.frozen?_setCell]; exact k.fz i
  lt := by have := k.lt; simpa using this
  bel := k.bel.setCell (Nat.le_refl _) _

theorem Marks.below0 {w wl : World} {ob : Obj} {N : Nat} {h : Nat → Bool} (k : Marks (w.alloc ob) wl (w.heap.size + 1) N h) : Below (w.alloc ob).heap.size (w.alloc ob) wl := by
  have e : (w.alloc ob).heap.size = w.heap.size + 1 := by simp
  rw [e]; exact k.bel
set_option maxHeartbeats 1000000 in
theorem eachOwns_any (n f d p r dr o sl md fr : Int) (ad : Option Addr) (cap : Nat) (zs : List Int) (w : World) (hn1 : 4 ≤ n) (hn2 : n ≤ 13) (hl : zs.length ≤ 9223372036854775807) (hT : Tab w ad zs) :
    Calls Tryz.prog 43 #[.agg #[.int .i64 n, .int .i64 f, .int .i64 d, .int .i64 p, .int .i64 r, .int .i64 dr, .int .i64 o, .int .i64 sl, .int .i64 md, .int .i64 fr, .slice ad zs.length cap]] w fun e w' => e = .returned (.bool (ownsB n zs)) ∧ Below w.heap.size w w' := by
  obtain ⟨N, rfl⟩ : ∃ N : Nat, n = (N : Int) := ⟨n.toNat, by omega⟩
  have HT : Hid (Tab (w.alloc (.cells #[.int .i64 (N : Int), .int .i64 f, .int .i64 d, .int .i64 p, .int .i64 r, .int .i64 dr, .int .i64 o, .int .i64 sl, .int .i64 md, .int .i64 fr, .slice ad zs.length cap] 24)) ad zs) := hT.below (ballc _ _)
  clear hT
  have hM0 := Marks.start (w.alloc (.cells #[.int .i64 (N : Int), .int .i64 f, .int .i64 d, .int .i64 p, .int .i64 r, .int .i64 dr, .int .i64 o, .int .i64 sl, .int .i64 md, .int .i64 fr, .slice ad zs.length cap] 24)) N 91 (hasTo zs 0) (hasTo_zero zs)
  have hg : (w.alloc (.cells #[.int .i64 (N : Int), .int .i64 f, .int .i64 d, .int .i64 p, .int .i64 r, .int .i64 dr, .int .i64 o, .int .i64 sl, .int .i64 md, .int .i64 fr, .slice ad zs.length cap] 24)).heap.size = w.heap.size + 1 := by simp
  rw [hg] at hM0
  have HM0 : Hid _ := hM0
  clear hM0
  go_enter Tryz.func43, Tryz.ntmps43
  go_wp2
  go_loopw [16] (fun i wl => ∃ k : Nat, k ≤ zs.length ∧ i = .int .i64 k ∧ (∀ z ∈ zs.take k, 0 ≤ z ∧ z ≤ (N : Int) - 1) ∧ Marks (w.alloc (.cells #[.int .i64 (N : Int), .int .i64 f, .int .i64 d, .int .i64 p, .int .i64 r, .int .i64 dr, .int .i64 o, .int .i64 sl, .int .i64 md, .int .i64 fr, .slice ad zs.length cap] 24)) wl (w.heap.size + 1) N (hasTo zs k)) (fun i _ => zs.length - (intOf i).toNat)
  case atStart => exact ⟨0, Nat.zero_le _, rfl, by simp, HM0.out⟩
  case round =>
    obtain ⟨k, hk, rfl, hall, hM⟩ := hrel
    clear HM0
    have HA : Hid (∀ z ∈ zs.take k, 0 ≤ z ∧ z ≤ (N : Int) - 1) := hall
    have HM : Hid (Marks (w.alloc (.cells #[.int .i64 (N : Int), .int .i64 f, .int .i64 d, .int .i64 p, .int .i64 r, .int .i64 dr, .int .i64 o, .int .i64 sl, .int .i64 md, .int .i64 fr, .slice ad zs.length cap] 24)) wr (w.heap.size + 1) N (hasTo zs k)) := hM
    have hc0 := hM.c0
    have hc1 := hM.c1
    have hfz := hM.fz
    have hlt := hM.lt
    have hbox : ∀ i, wr.cell? ⟨w.heap.size, i, none⟩ = #[.int .i64 (N : Int), .int .i64 f, .int .i64 d, .int .i64 p, .int .i64 r, .int .i64 dr, .int .i64 o, .int .i64 sl, .int .i64 md, .int .i64 fr, .slice ad zs.length cap][i]? := fun i => by
      rw [hM.bel.cell (by simp)]; exact World.cell?_alloc_mark _ _ _ _ i
    have HTr : Hid (Tab wr ad zs) := HT.out.below (by rw [hg]; exact hM.bel)
    clear hall hM hg
    by_cases hlt : k < zs.length
    · obtain ⟨a, rfl, hc, ha⟩ := HTr.out.lies k hlt
      generalize hzz : zs.getD k 0 = z at hc
      have HZ : Hid (zs.getD k 0 = z) := hzz
      clear hzz
      by_cases hz : 0 ≤ z ∧ z ≤ (N : Int) - 1
      · have HN : Hid (0 ≤ z ∧ z ≤ (N : Int) - 1) := hz
        obtain ⟨t, rfl⟩ : ∃ t : Nat, z = (t : Int) := ⟨z.toNat, by omega⟩
        have ht : t < 13 := by omega
        have hq := fun v => hold_yes 0 ((N : Int) - 1) t v hz.1 hz.2
        clear hz
        go_wp2_with fail
        refine (hq _).mono ?_
        rintro e w2 ⟨rfl, hb2⟩
        have HM2 : Hid (Marks _ w2 (w.heap.size + 1) N (hasTo zs k)) := HM.out.grow hb2
        have hcm := HM2.out.m t ht
        have hfm := HM2.out.fz (2 + t)
        clear hb2
        go_wp2
        go_roundw
        case rel => exact ⟨k + 1, by omega, by go_num, all_succ k hlt HA.out (by rw [HZ.out]; exact HN.out.1) (by rw [HZ.out]; exact HN.out.2), HM2.out.set (h' := hasTo zs (k + 1)) t ht (fun j => by rw [hasTo_succ k hlt j, HZ.out])⟩
        case measure => simp [intOf]; omega
      · have hq := fun v => hold_no 0 ((N : Int) - 1) z v hz
        have HN : Hid (¬ (0 ≤ z ∧ z ≤ (N : Int) - 1)) := hz
        clear hz
        go_wp2_with (go_at_call 42; refine (hq _).mono ?_; rintro e w2 ⟨rfl, hb2⟩; have HB2 : Hid (Below wr.heap.size wr w2) := hb2; clear hb2)
        go_ret
        exact ⟨ret_b (by rw [ownsB_bad k hlt (by rw [HZ.out]; exact HN.out)]), bthen (bthen (ballc w _) (HM.out.below0)) HB2.out⟩
    · have hk' : k = zs.length := by omega
      subst hk'
      have hcm := HM.out.m
      go_wp2
      go_loop [34] (fun i => ∃ j : Nat, j ≤ N ∧ i = .int .i64 j ∧ (∀ t : Nat, t < j → (t : Int) ∈ zs)) (fun i => N - (intOf i).toNat)
      case atStart => exact ⟨0, by omega, rfl, by simp⟩
      case round =>
        obtain ⟨j, hj, rfl, hown⟩ := hrel
        have HO : Hid (∀ t : Nat, t < j → (t : Int) ∈ zs) := hown
        clear hown
        by_cases hjn : j < N
        · have hcj := hcm j (by omega)
          clear hcm
          by_cases hh : hasTo zs zs.length j = true
          · have HJ : Hid ((j : Int) ∈ zs) := hasTo_all.1 hh
            rw [hh] at hcj
            clear hh
            go_wp2
            go_round
            case rel => exact ⟨j + 1, by omega, by go_num, fun t ht => by
              by_cases e : t = j
              · subst e; exact HJ.out
              · exact HO.out t (by omega)⟩
            case measure => simp [intOf]; omega
          · have HJ : Hid (¬ (j : Int) ∈ zs) := fun h => hh (hasTo_all.2 h)
            have hh' : hasTo zs zs.length j = false := by simpa using hh
            rw [hh'] at hcj
            clear hh hh'
            go_wp2
            go_ret
            exact ⟨ret_b (by rw [ownsB_miss j (by omega) HJ.out]), bthen (ballc w _) (HM.out.below0)⟩
        · clear hcm
          go_wp2
          go_ret
          exact ⟨ret_b (by rw [ownsB_yes (by simpa using HA.out) (fun t ht => HO.out t (by omega))]), bthen (ballc w _) (HM.out.below0)⟩
end Go.Proofs.YtkolhbacgoafcaaGreat

/- The call Plain of package conf returns the number of the first rule that a configuration breaks, else 0; conditions: the table's length fits int. -/
namespace Go.Proofs.YtkolhbacgoafcaaGreat
open Go.ChangeShapes Go.WideShapes Go.ChangeAt Go.RowKit
set_option linter.unusedVariables false

def plainE (n f d p r dr o sl md fr : Int) (zs : List Int) : Int :=
  if ¬ (4 ≤ n ∧ n ≤ 13) then 7 else if ¬ (0 ≤ f ∧ f ≤ 4) then 7 else if ¬ (3 * f + 1 ≤ n) then 7 else if ¬ (1 ≤ d ∧ d ≤ 4) then 10 else
  if ¬ (6 * ((f + 1) * d) + 1 ≤ p ∧ p ≤ 400) then 8 else if ¬ (1 ≤ r ∧ r ≤ 64) then 8 else if ¬ (0 ≤ dr ∧ dr ≤ r - 1) then 8 else if ¬ (0 ≤ o ∧ o ≤ 30000) then 8 else
  if ¬ (1 ≤ sl ∧ sl ≤ 30000) then 8 else if ¬ (2 ≤ md ∧ md ≤ 250) then 8 else if ¬ (1 ≤ fr ∧ fr ≤ 100) then 8 else if ¬ (1 ≤ (zs.length : Int) ∧ (zs.length : Int) ≤ 32) then 11 else
  if ownsB n zs = true then 0 else 11

theorem pl_0 {n f d p r dr o sl md fr : Int} {zs : List Int}  (c0 : ¬ (4 ≤ n ∧ n ≤ 13)) : plainE n f d p r dr o sl md fr zs = 7 := by
  unfold plainE
  exact if_pos c0
theorem pl_1 {n f d p r dr o sl md fr : Int} {zs : List Int} (c0 : 4 ≤ n ∧ n ≤ 13) (c1 : ¬ (0 ≤ f ∧ f ≤ 4)) : plainE n f d p r dr o sl md fr zs = 7 := by
  unfold plainE
  exact (if_neg (not_not_intro c0)).trans (if_pos c1)
theorem pl_2 {n f d p r dr o sl md fr : Int} {zs : List Int} (c0 : 4 ≤ n ∧ n ≤ 13) (c1 : 0 ≤ f ∧ f ≤ 4) (c2 : ¬ (3 * f + 1 ≤ n)) : plainE n f d p r dr o sl md fr zs = 7 := by
  unfold plainE
  exact (if_neg (not_not_intro c0)).trans ((if_neg (not_not_intro c1)).trans (if_pos c2))
theorem pl_3 {n f d p r dr o sl md fr : Int} {zs : List Int} (c0 : 4 ≤ n ∧ n ≤ 13) (c1 : 0 ≤ f ∧ f ≤ 4) (c2 : 3 * f + 1 ≤ n) (c3 : ¬ (1 ≤ d ∧ d ≤ 4)) : plainE n f d p r dr o sl md fr zs = 10 := by
  unfold plainE
  exact (if_neg (not_not_intro c0)).trans ((if_neg (not_not_intro c1)).trans ((if_neg (not_not_intro c2)).trans (if_pos c3)))
theorem pl_4 {n f d p r dr o sl md fr : Int} {zs : List Int} (c0 : 4 ≤ n ∧ n ≤ 13) (c1 : 0 ≤ f ∧ f ≤ 4) (c2 : 3 * f + 1 ≤ n) (c3 : 1 ≤ d ∧ d ≤ 4) (c4 : ¬ (6 * ((f + 1) * d) + 1 ≤ p ∧ p ≤ 400)) : plainE n f d p r dr o sl md fr zs = 8 := by
  unfold plainE
  exact (if_neg (not_not_intro c0)).trans ((if_neg (not_not_intro c1)).trans ((if_neg (not_not_intro c2)).trans ((if_neg (not_not_intro c3)).trans (if_pos c4))))
theorem pl_5 {n f d p r dr o sl md fr : Int} {zs : List Int} (c0 : 4 ≤ n ∧ n ≤ 13) (c1 : 0 ≤ f ∧ f ≤ 4) (c2 : 3 * f + 1 ≤ n) (c3 : 1 ≤ d ∧ d ≤ 4) (c4 : 6 * ((f + 1) * d) + 1 ≤ p ∧ p ≤ 400) (c5 : ¬ (1 ≤ r ∧ r ≤ 64)) : plainE n f d p r dr o sl md fr zs = 8 := by
  unfold plainE
  exact (if_neg (not_not_intro c0)).trans ((if_neg (not_not_intro c1)).trans ((if_neg (not_not_intro c2)).trans ((if_neg (not_not_intro c3)).trans ((if_neg (not_not_intro c4)).trans (if_pos c5)))))
theorem pl_6 {n f d p r dr o sl md fr : Int} {zs : List Int} (c0 : 4 ≤ n ∧ n ≤ 13) (c1 : 0 ≤ f ∧ f ≤ 4) (c2 : 3 * f + 1 ≤ n) (c3 : 1 ≤ d ∧ d ≤ 4) (c4 : 6 * ((f + 1) * d) + 1 ≤ p ∧ p ≤ 400) (c5 : 1 ≤ r ∧ r ≤ 64) (c6 : ¬ (0 ≤ dr ∧ dr ≤ r - 1)) : plainE n f d p r dr o sl md fr zs = 8 := by
  unfold plainE
  exact (if_neg (not_not_intro c0)).trans ((if_neg (not_not_intro c1)).trans ((if_neg (not_not_intro c2)).trans ((if_neg (not_not_intro c3)).trans ((if_neg (not_not_intro c4)).trans ((if_neg (not_not_intro c5)).trans (if_pos c6))))))
theorem pl_7 {n f d p r dr o sl md fr : Int} {zs : List Int} (c0 : 4 ≤ n ∧ n ≤ 13) (c1 : 0 ≤ f ∧ f ≤ 4) (c2 : 3 * f + 1 ≤ n) (c3 : 1 ≤ d ∧ d ≤ 4) (c4 : 6 * ((f + 1) * d) + 1 ≤ p ∧ p ≤ 400) (c5 : 1 ≤ r ∧ r ≤ 64) (c6 : 0 ≤ dr ∧ dr ≤ r - 1) (c7 : ¬ (0 ≤ o ∧ o ≤ 30000)) : plainE n f d p r dr o sl md fr zs = 8 := by
  unfold plainE
  exact (if_neg (not_not_intro c0)).trans ((if_neg (not_not_intro c1)).trans ((if_neg (not_not_intro c2)).trans ((if_neg (not_not_intro c3)).trans ((if_neg (not_not_intro c4)).trans ((if_neg (not_not_intro c5)).trans ((if_neg (not_not_intro c6)).trans (if_pos c7)))))))
theorem pl_8 {n f d p r dr o sl md fr : Int} {zs : List Int} (c0 : 4 ≤ n ∧ n ≤ 13) (c1 : 0 ≤ f ∧ f ≤ 4) (c2 : 3 * f + 1 ≤ n) (c3 : 1 ≤ d ∧ d ≤ 4) (c4 : 6 * ((f + 1) * d) + 1 ≤ p ∧ p ≤ 400) (c5 : 1 ≤ r ∧ r ≤ 64) (c6 : 0 ≤ dr ∧ dr ≤ r - 1) (c7 : 0 ≤ o ∧ o ≤ 30000) (c8 : ¬ (1 ≤ sl ∧ sl ≤ 30000)) : plainE n f d p r dr o sl md fr zs = 8 := by
  unfold plainE
  exact (if_neg (not_not_intro c0)).trans ((if_neg (not_not_intro c1)).trans ((if_neg (not_not_intro c2)).trans ((if_neg (not_not_intro c3)).trans ((if_neg (not_not_intro c4)).trans ((if_neg (not_not_intro c5)).trans ((if_neg (not_not_intro c6)).trans ((if_neg (not_not_intro c7)).trans (if_pos c8))))))))
theorem pl_9 {n f d p r dr o sl md fr : Int} {zs : List Int} (c0 : 4 ≤ n ∧ n ≤ 13) (c1 : 0 ≤ f ∧ f ≤ 4) (c2 : 3 * f + 1 ≤ n) (c3 : 1 ≤ d ∧ d ≤ 4) (c4 : 6 * ((f + 1) * d) + 1 ≤ p ∧ p ≤ 400) (c5 : 1 ≤ r ∧ r ≤ 64) (c6 : 0 ≤ dr ∧ dr ≤ r - 1) (c7 : 0 ≤ o ∧ o ≤ 30000) (c8 : 1 ≤ sl ∧ sl ≤ 30000) (c9 : ¬ (2 ≤ md ∧ md ≤ 250)) : plainE n f d p r dr o sl md fr zs = 8 := by
  unfold plainE
  exact (if_neg (not_not_intro c0)).trans ((if_neg (not_not_intro c1)).trans ((if_neg (not_not_intro c2)).trans ((if_neg (not_not_intro c3)).trans ((if_neg (not_not_intro c4)).trans ((if_neg (not_not_intro c5)).trans ((if_neg (not_not_intro c6)).trans ((if_neg (not_not_intro c7)).trans ((if_neg (not_not_intro c8)).trans (if_pos c9)))))))))
theorem pl_10 {n f d p r dr o sl md fr : Int} {zs : List Int} (c0 : 4 ≤ n ∧ n ≤ 13) (c1 : 0 ≤ f ∧ f ≤ 4) (c2 : 3 * f + 1 ≤ n) (c3 : 1 ≤ d ∧ d ≤ 4) (c4 : 6 * ((f + 1) * d) + 1 ≤ p ∧ p ≤ 400) (c5 : 1 ≤ r ∧ r ≤ 64) (c6 : 0 ≤ dr ∧ dr ≤ r - 1) (c7 : 0 ≤ o ∧ o ≤ 30000) (c8 : 1 ≤ sl ∧ sl ≤ 30000) (c9 : 2 ≤ md ∧ md ≤ 250) (c10 : ¬ (1 ≤ fr ∧ fr ≤ 100)) : plainE n f d p r dr o sl md fr zs = 8 := by
  unfold plainE
  exact (if_neg (not_not_intro c0)).trans ((if_neg (not_not_intro c1)).trans ((if_neg (not_not_intro c2)).trans ((if_neg (not_not_intro c3)).trans ((if_neg (not_not_intro c4)).trans ((if_neg (not_not_intro c5)).trans ((if_neg (not_not_intro c6)).trans ((if_neg (not_not_intro c7)).trans ((if_neg (not_not_intro c8)).trans ((if_neg (not_not_intro c9)).trans (if_pos c10))))))))))
theorem pl_11 {n f d p r dr o sl md fr : Int} {zs : List Int} (c0 : 4 ≤ n ∧ n ≤ 13) (c1 : 0 ≤ f ∧ f ≤ 4) (c2 : 3 * f + 1 ≤ n) (c3 : 1 ≤ d ∧ d ≤ 4) (c4 : 6 * ((f + 1) * d) + 1 ≤ p ∧ p ≤ 400) (c5 : 1 ≤ r ∧ r ≤ 64) (c6 : 0 ≤ dr ∧ dr ≤ r - 1) (c7 : 0 ≤ o ∧ o ≤ 30000) (c8 : 1 ≤ sl ∧ sl ≤ 30000) (c9 : 2 ≤ md ∧ md ≤ 250) (c10 : 1 ≤ fr ∧ fr ≤ 100) (c11 : ¬ (1 ≤ (zs.length : Int) ∧ (zs.length : Int) ≤ 32)) : plainE n f d p r dr o sl md fr zs = 11 := by
  unfold plainE
  exact (if_neg (not_not_intro c0)).trans ((if_neg (not_not_intro c1)).trans ((if_neg (not_not_intro c2)).trans ((if_neg (not_not_intro c3)).trans ((if_neg (not_not_intro c4)).trans ((if_neg (not_not_intro c5)).trans ((if_neg (not_not_intro c6)).trans ((if_neg (not_not_intro c7)).trans ((if_neg (not_not_intro c8)).trans ((if_neg (not_not_intro c9)).trans ((if_neg (not_not_intro c10)).trans (if_pos c11)))))))))))
theorem pl_12 {n f d p r dr o sl md fr : Int} {zs : List Int} (c0 : 4 ≤ n ∧ n ≤ 13) (c1 : 0 ≤ f ∧ f ≤ 4) (c2 : 3 * f + 1 ≤ n) (c3 : 1 ≤ d ∧ d ≤ 4) (c4 : 6 * ((f + 1) * d) + 1 ≤ p ∧ p ≤ 400) (c5 : 1 ≤ r ∧ r ≤ 64) (c6 : 0 ≤ dr ∧ dr ≤ r - 1) (c7 : 0 ≤ o ∧ o ≤ 30000) (c8 : 1 ≤ sl ∧ sl ≤ 30000) (c9 : 2 ≤ md ∧ md ≤ 250) (c10 : 1 ≤ fr ∧ fr ≤ 100) (c11 : 1 ≤ (zs.length : Int) ∧ (zs.length : Int) ≤ 32) : plainE n f d p r dr o sl md fr zs = if ownsB n zs = true then 0 else 11 := by
  unfold plainE
  exact (if_neg (not_not_intro c0)).trans ((if_neg (not_not_intro c1)).trans ((if_neg (not_not_intro c2)).trans ((if_neg (not_not_intro c3)).trans ((if_neg (not_not_intro c4)).trans ((if_neg (not_not_intro c5)).trans ((if_neg (not_not_intro c6)).trans ((if_neg (not_not_intro c7)).trans ((if_neg (not_not_intro c8)).trans ((if_neg (not_not_intro c9)).trans ((if_neg (not_not_intro c10)).trans ((if_neg (not_not_intro c11)).trans (rfl))))))))))))

/-- Rule k holds. -/
def okR (n f d p r dr o sl md fr ln : Int) (k : Nat) : Prop := ruA f d k ≤ ruC n f d p r dr o sl md fr ln k ∧ ruC n f d p r dr o sl md fr ln k ≤ ruB r k

theorem okR_2 {n f d p r dr o sl md fr ln : Int} (h1 : 0 ≤ f) (h2 : f ≤ 4) : okR n f d p r dr o sl md fr ln 2 ↔ 3 * f + 1 ≤ n ∧ n ≤ 13 := by
  unfold okR
  simp only [ruA, ruB, ruC]
  rw [IntWalk.i64_in (3 * f) (by omega), IntWalk.i64_in (3 * f + 1) (by omega)]
theorem okR_4 {n f d p r dr o sl md fr ln : Int} (h1 : 0 ≤ f) (h2 : f ≤ 4) (h3 : 1 ≤ d) (h4 : d ≤ 4) : okR n f d p r dr o sl md fr ln 4 ↔ 6 * ((f + 1) * d) + 1 ≤ p ∧ p ≤ 400 := by
  have hq0 : 0 ≤ (f + 1) * d := Int.mul_nonneg (by omega) (by omega)
  have hq1 : (f + 1) * d ≤ 5 * 4 := Int.mul_le_mul (by omega) h4 (by omega) (by omega)
  have e : lengthW f d = 3 * ((f + 1) * d) := by rw [lengthW_eq h1 h2 h3 h4, Int.mul_assoc]
  unfold okR
  simp only [ruA, ruB, ruC]
  rw [e, IntWalk.i64_in (2 * (3 * ((f + 1) * d))) (by omega), IntWalk.i64_in (2 * (3 * ((f + 1) * d)) + 1) (by omega)]
  constructor <;> intro h <;> omega
theorem okR_6 {n f d p r dr o sl md fr ln : Int} (h1 : 1 ≤ r) (h2 : r ≤ 64) : okR n f d p r dr o sl md fr ln 6 ↔ 0 ≤ dr ∧ dr ≤ r - 1 := by
  unfold okR
  simp only [ruA, ruB, ruC]
  rw [IntWalk.i64_in (r - 1) (by omega)]

/-- What the first k rules say. -/
theorem okR_all {n f d p r dr o sl md fr ln : Int} (k : Nat) (h : ∀ j, j < k → okR n f d p r dr o sl md fr ln j) :
    (0 < k → 4 ≤ n ∧ n ≤ 13) ∧ (1 < k → 0 ≤ f ∧ f ≤ 4) ∧ (2 < k → 3 * f + 1 ≤ n) ∧ (3 < k → 1 ≤ d ∧ d ≤ 4) ∧ (4 < k → 6 * ((f + 1) * d) + 1 ≤ p ∧ p ≤ 400) ∧ (5 < k → 1 ≤ r ∧ r ≤ 64) ∧ (6 < k → 0 ≤ dr ∧ dr ≤ r - 1) ∧
    (7 < k → 0 ≤ o ∧ o ≤ 30000) ∧ (8 < k → 1 ≤ sl ∧ sl ≤ 30000) ∧ (9 < k → 2 ≤ md ∧ md ≤ 250) ∧ (10 < k → 1 ≤ fr ∧ fr ≤ 100) ∧ (11 < k → 1 ≤ ln ∧ ln ≤ 32) := by
  have h1 : 1 < k → 0 ≤ f ∧ f ≤ 4 := fun hk => h 1 hk
  have h3 : 3 < k → 1 ≤ d ∧ d ≤ 4 := fun hk => h 3 hk
  have h5 : 5 < k → 1 ≤ r ∧ r ≤ 64 := fun hk => h 5 hk
  refine ⟨fun hk => h 0 hk, h1, fun hk => ((okR_2 (h1 (by omega)).1 (h1 (by omega)).2).1 (h 2 hk)).1, h3, fun hk => (okR_4 (h1 (by omega)).1 (h1 (by omega)).2 (h3 (by omega)).1 (h3 (by omega)).2).1 (h 4 hk), h5,
    fun hk => (okR_6 (h5 (by omega)).1 (h5 (by omega)).2).1 (h 6 hk), fun hk => h 7 hk, fun hk => h 8 hk, fun hk => h 9 hk, fun hk => h 10 hk, fun hk => h 11 hk⟩

theorem plain_fail {n f d p r dr o sl md fr : Int} {zs : List Int} (k : Nat) (hk : k < 12) (h : ∀ j, j < k → okR n f d p r dr o sl md fr zs.length j) (hn : ¬ okR n f d p r dr o sl md fr zs.length k) :
    plainE n f d p r dr o sl md fr zs = ruE k := by
  obtain ⟨g0, g1, g2, g3, g4, g5, g6, g7, g8, g9, g10, g11⟩ := okR_all k h
  clear h
  have hk' : k = 0 ∨ k = 1 ∨ k = 2 ∨ k = 3 ∨ k = 4 ∨ k = 5 ∨ k = 6 ∨ k = 7 ∨ k = 8 ∨ k = 9 ∨ k = 10 ∨ k = 11 := by clear hn g0 g1 g2 g3 g4 g5 g6 g7 g8 g9 g10 g11; omega
  unfold plainE
  rcases hk' with rfl | rfl | rfl | rfl | rfl | rfl | rfl | rfl | rfl | rfl | rfl | rfl
  · exact if_pos (hn)
  · exact (if_neg (not_not_intro (g0 (by decide)))).trans (if_pos (hn))
  · exact (if_neg (not_not_intro (g0 (by decide)))).trans ((if_neg (not_not_intro (g1 (by decide)))).trans (if_pos (fun c => hn ((okR_2 (g1 (by decide)).1 (g1 (by decide)).2).2 ⟨c, (g0 (by decide)).2⟩))))
  · exact (if_neg (not_not_intro (g0 (by decide)))).trans ((if_neg (not_not_intro (g1 (by decide)))).trans ((if_neg (not_not_intro (g2 (by decide)))).trans (if_pos (hn))))
  · exact (if_neg (not_not_intro (g0 (by decide)))).trans ((if_neg (not_not_intro (g1 (by decide)))).trans ((if_neg (not_not_intro (g2 (by decide)))).trans ((if_neg (not_not_intro (g3 (by decide)))).trans (if_pos (fun c => hn ((okR_4 (g1 (by decide)).1 (g1 (by decide)).2 (g3 (by decide)).1 (g3 (by decide)).2).2 c))))))
  · exact (if_neg (not_not_intro (g0 (by decide)))).trans ((if_neg (not_not_intro (g1 (by decide)))).trans ((if_neg (not_not_intro (g2 (by decide)))).trans ((if_neg (not_not_intro (g3 (by decide)))).trans ((if_neg (not_not_intro (g4 (by decide)))).trans (if_pos (hn))))))
  · exact (if_neg (not_not_intro (g0 (by decide)))).trans ((if_neg (not_not_intro (g1 (by decide)))).trans ((if_neg (not_not_intro (g2 (by decide)))).trans ((if_neg (not_not_intro (g3 (by decide)))).trans ((if_neg (not_not_intro (g4 (by decide)))).trans ((if_neg (not_not_intro (g5 (by decide)))).trans (if_pos (fun c => hn ((okR_6 (g5 (by decide)).1 (g5 (by decide)).2).2 c))))))))
  · exact (if_neg (not_not_intro (g0 (by decide)))).trans ((if_neg (not_not_intro (g1 (by decide)))).trans ((if_neg (not_not_intro (g2 (by decide)))).trans ((if_neg (not_not_intro (g3 (by decide)))).trans ((if_neg (not_not_intro (g4 (by decide)))).trans ((if_neg (not_not_intro (g5 (by decide)))).trans ((if_neg (not_not_intro (g6 (by decide)))).trans (if_pos (hn))))))))
  · exact (if_neg (not_not_intro (g0 (by decide)))).trans ((if_neg (not_not_intro (g1 (by decide)))).trans ((if_neg (not_not_intro (g2 (by decide)))).trans ((if_neg (not_not_intro (g3 (by decide)))).trans ((if_neg (not_not_intro (g4 (by decide)))).trans ((if_neg (not_not_intro (g5 (by decide)))).trans ((if_neg (not_not_intro (g6 (by decide)))).trans ((if_neg (not_not_intro (g7 (by decide)))).trans (if_pos (hn)))))))))
  · exact (if_neg (not_not_intro (g0 (by decide)))).trans ((if_neg (not_not_intro (g1 (by decide)))).trans ((if_neg (not_not_intro (g2 (by decide)))).trans ((if_neg (not_not_intro (g3 (by decide)))).trans ((if_neg (not_not_intro (g4 (by decide)))).trans ((if_neg (not_not_intro (g5 (by decide)))).trans ((if_neg (not_not_intro (g6 (by decide)))).trans ((if_neg (not_not_intro (g7 (by decide)))).trans ((if_neg (not_not_intro (g8 (by decide)))).trans (if_pos (hn))))))))))
  · exact (if_neg (not_not_intro (g0 (by decide)))).trans ((if_neg (not_not_intro (g1 (by decide)))).trans ((if_neg (not_not_intro (g2 (by decide)))).trans ((if_neg (not_not_intro (g3 (by decide)))).trans ((if_neg (not_not_intro (g4 (by decide)))).trans ((if_neg (not_not_intro (g5 (by decide)))).trans ((if_neg (not_not_intro (g6 (by decide)))).trans ((if_neg (not_not_intro (g7 (by decide)))).trans ((if_neg (not_not_intro (g8 (by decide)))).trans ((if_neg (not_not_intro (g9 (by decide)))).trans (if_pos (hn)))))))))))
  · exact (if_neg (not_not_intro (g0 (by decide)))).trans ((if_neg (not_not_intro (g1 (by decide)))).trans ((if_neg (not_not_intro (g2 (by decide)))).trans ((if_neg (not_not_intro (g3 (by decide)))).trans ((if_neg (not_not_intro (g4 (by decide)))).trans ((if_neg (not_not_intro (g5 (by decide)))).trans ((if_neg (not_not_intro (g6 (by decide)))).trans ((if_neg (not_not_intro (g7 (by decide)))).trans ((if_neg (not_not_intro (g8 (by decide)))).trans ((if_neg (not_not_intro (g9 (by decide)))).trans ((if_neg (not_not_intro (g10 (by decide)))).trans (if_pos (hn))))))))))))
theorem plain_end {n f d p r dr o sl md fr : Int} {zs : List Int} (h : ∀ j, j < 12 → okR n f d p r dr o sl md fr zs.length j) :
    plainE n f d p r dr o sl md fr zs = if ownsB n zs = true then 0 else 11 := by
  obtain ⟨g0, g1, g2, g3, g4, g5, g6, g7, g8, g9, g10, g11⟩ := okR_all 12 h
  unfold plainE
  exact (if_neg (not_not_intro (g0 (by decide)))).trans ((if_neg (not_not_intro (g1 (by decide)))).trans ((if_neg (not_not_intro (g2 (by decide)))).trans ((if_neg (not_not_intro (g3 (by decide)))).trans ((if_neg (not_not_intro (g4 (by decide)))).trans ((if_neg (not_not_intro (g5 (by decide)))).trans ((if_neg (not_not_intro (g6 (by decide)))).trans ((if_neg (not_not_intro (g7 (by decide)))).trans ((if_neg (not_not_intro (g8 (by decide)))).trans ((if_neg (not_not_intro (g9 (by decide)))).trans ((if_neg (not_not_intro (g10 (by decide)))).trans ((if_neg (not_not_intro (g11 (by decide)))).trans (rfl))))))))))))
/-- What is plain, number by number. -/
theorem plainE_ok {n f d p r dr o sl md fr : Int} {zs : List Int} (h : plainE n f d p r dr o sl md fr zs = 0) :
    4 ≤ n ∧ n ≤ 13 ∧ 0 ≤ f ∧ f ≤ 4 ∧ 3 * f + 1 ≤ n ∧ 1 ≤ d ∧ d ≤ 4 ∧ 6 * ((f + 1) * d) + 1 ≤ p ∧ p ≤ 400 ∧ 1 ≤ r ∧ r ≤ 64 ∧ 0 ≤ dr ∧ dr ≤ r - 1 ∧ 0 ≤ o ∧ o ≤ 30000 ∧ 1 ≤ sl ∧ sl ≤ 30000 ∧ 2 ≤ md ∧ md ≤ 250 ∧ 1 ≤ fr ∧ fr ≤ 100 ∧ 1 ≤ zs.length ∧ zs.length ≤ 32 ∧ ownsB n zs = true := by
  unfold plainE at h
  by_cases c0 : 4 ≤ n ∧ n ≤ 13
  case neg => rw [if_pos c0] at h; exact absurd h (by decide)
  rw [if_neg (not_not_intro c0)] at h
  by_cases c1 : 0 ≤ f ∧ f ≤ 4
  case neg => rw [if_pos c1] at h; exact absurd h (by decide)
  rw [if_neg (not_not_intro c1)] at h
  by_cases c2 : 3 * f + 1 ≤ n
  case neg => rw [if_pos c2] at h; exact absurd h (by decide)
  rw [if_neg (not_not_intro c2)] at h
  by_cases c3 : 1 ≤ d ∧ d ≤ 4
  case neg => rw [if_pos c3] at h; exact absurd h (by decide)
  rw [if_neg (not_not_intro c3)] at h
  by_cases c4 : 6 * ((f + 1) * d) + 1 ≤ p ∧ p ≤ 400
  case neg => rw [if_pos c4] at h; exact absurd h (by decide)
  rw [if_neg (not_not_intro c4)] at h
  by_cases c5 : 1 ≤ r ∧ r ≤ 64
  case neg => rw [if_pos c5] at h; exact absurd h (by decide)
  rw [if_neg (not_not_intro c5)] at h
  by_cases c6 : 0 ≤ dr ∧ dr ≤ r - 1
  case neg => rw [if_pos c6] at h; exact absurd h (by decide)
  rw [if_neg (not_not_intro c6)] at h
  by_cases c7 : 0 ≤ o ∧ o ≤ 30000
  case neg => rw [if_pos c7] at h; exact absurd h (by decide)
  rw [if_neg (not_not_intro c7)] at h
  by_cases c8 : 1 ≤ sl ∧ sl ≤ 30000
  case neg => rw [if_pos c8] at h; exact absurd h (by decide)
  rw [if_neg (not_not_intro c8)] at h
  by_cases c9 : 2 ≤ md ∧ md ≤ 250
  case neg => rw [if_pos c9] at h; exact absurd h (by decide)
  rw [if_neg (not_not_intro c9)] at h
  by_cases c10 : 1 ≤ fr ∧ fr ≤ 100
  case neg => rw [if_pos c10] at h; exact absurd h (by decide)
  rw [if_neg (not_not_intro c10)] at h
  by_cases c11 : 1 ≤ (zs.length : Int) ∧ (zs.length : Int) ≤ 32
  case neg => rw [if_pos c11] at h; exact absurd h (by decide)
  rw [if_neg (not_not_intro c11)] at h
  by_cases c12 : ownsB n zs = true
  case neg => rw [if_neg c12] at h; exact absurd h (by decide)
  exact ⟨c0.1, c0.2, c1.1, c1.2, c2, c3.1, c3.2, c4.1, c4.2, c5.1, c5.2, c6.1, c6.2, c7.1, c7.2, c8.1, c8.2, c9.1, c9.2, c10.1, c10.2, by omega, by omega, c12⟩
end Go.Proofs.YtkolhbacgoafcaaGreat

/- The call Plain of package conf returns the number of the first rule that a configuration breaks, else 0, and makes at most new memory; conditions: the table lies where it says, and its length fits int. -/
namespace Go.Proofs.YtkolhbacgoafcaaGreat
open Go.ChangeShapes Go.WideShapes Go.ChangeAt Go.RowKit
set_option linter.unusedVariables false

set_option maxHeartbeats 1000000 in
theorem plain_any (n f d p r dr o sl md fr : Int) (ad : Option Addr) (cap : Nat) (zs : List Int) (w : World) (hl : zs.length ≤ 9223372036854775807) (hT : Tab w ad zs) :
    Calls Tryz.prog 17 #[.agg #[.int .i64 n, .int .i64 f, .int .i64 d, .int .i64 p, .int .i64 r, .int .i64 dr, .int .i64 o, .int .i64 sl, .int .i64 md, .int .i64 fr, .slice ad zs.length cap]] w fun e w' => e = .returned (.int .i64 (plainE n f d p r dr o sl md fr zs)) ∧ Below w.heap.size w w' := by
  have HT : Hid (Tab (w.alloc (.cells #[.int .i64 n, .int .i64 f, .int .i64 d, .int .i64 p, .int .i64 r, .int .i64 dr, .int .i64 o, .int .i64 sl, .int .i64 md, .int .i64 fr, .slice ad zs.length cap] 24)) ad zs) := hT.below (ballc _ _)
  clear hT
  go_enter Tryz.func17, Tryz.ntmps17
  go_wp2_with fail
  refine (rules_any n f d p r dr o sl md fr ad cap zs _).mono ?_
  rintro e w1 ⟨g, rfl, hg1, hg2, hcells, hb1⟩
  have HB1 : Hid (Below (w.alloc (.cells #[.int .i64 n, .int .i64 f, .int .i64 d, .int .i64 p, .int .i64 r, .int .i64 dr, .int .i64 o, .int .i64 sl, .int .i64 md, .int .i64 fr, .slice ad zs.length cap] 24)).heap.size (w.alloc (.cells #[.int .i64 n, .int .i64 f, .int .i64 d, .int .i64 p, .int .i64 r, .int .i64 dr, .int .i64 o, .int .i64 sl, .int .i64 md, .int .i64 fr, .slice ad zs.length cap] 24)) w1) := hb1
  have HC : Hid (∀ k, k < 12 → w1.cell? ⟨g, k * 4, none⟩ = some (.int .i64 (ruA f d k)) ∧ w1.cell? ⟨g, k * 4 + 1, none⟩ = some (.int .i64 (ruB r k)) ∧ w1.cell? ⟨g, k * 4 + 2, none⟩ = some (.int .i64 (ruC n f d p r dr o sl md fr zs.length k)) ∧ w1.cell? ⟨g, k * 4 + 3, none⟩ = some (.int .i64 (ruE k))) := hcells
  have HG2 : Hid (g < w1.heap.size) := hg2
  clear hb1 hcells hg1 hg2
  go_wp2
  go_loopw [8] (fun i wl => ∃ k : Nat, k ≤ 12 ∧ i = .int .i64 k ∧ (∀ j, j < k → okR n f d p r dr o sl md fr zs.length j) ∧ Below w1.heap.size w1 wl) (fun i _ => 12 - (intOf i).toNat)
  case atStart => exact ⟨0, Nat.zero_le _, rfl, fun j hj => absurd hj (Nat.not_lt_zero _), Below.refl _ _⟩
  case round =>
    obtain ⟨k, hk, rfl, hok, hb⟩ := hrel
    have HO : Hid (∀ j, j < k → okR n f d p r dr o sl md fr zs.length j) := hok
    have HB : Hid (Below w1.heap.size w1 wr) := hb
    clear hok hb
    by_cases hlt : k < 12
    · obtain ⟨e0, e1, e2, e3⟩ := HC.out k hlt
      rw [← HB.out.cell HG2.out] at e0 e1 e2 e3
      have hgr : g < wr.heap.size := Nat.lt_of_lt_of_le HG2.out HB.out.size
      have hgn : ¬ g = wr.heap.size := by omega
      by_cases ho : okR n f d p r dr o sl md fr zs.length k
      · have hq := fun v => hold_yes (ruA f d k) (ruB r k) (ruC n f d p r dr o sl md fr zs.length k) v ho.1 ho.2
        have HK : Hid (okR n f d p r dr o sl md fr zs.length k) := ho
        clear ho
        generalize ruA f d k = A at *
        generalize ruB r k = B at *
        generalize ruC n f d p r dr o sl md fr zs.length k = C at *
        go_wp2_with fail
        refine (hq _).mono ?_
        rintro e w2 ⟨rfl, hb2⟩
        have HB2 : Hid (Below wr.heap.size wr w2) := bthen (ballc _ _) hb2
        clear hb2 e0 e1 e2 e3
        go_wp2
        go_roundw
        case rel => exact ⟨k + 1, by omega, by go_num, fun j hj => by
          by_cases e : j = k
          · subst e; exact HK.out
          · exact HO.out j (by omega), bthen HB.out HB2.out⟩
        case measure => simp [intOf]; omega
      · have hq := fun v => hold_no (ruA f d k) (ruB r k) (ruC n f d p r dr o sl md fr zs.length k) v ho
        have HK : Hid (¬ okR n f d p r dr o sl md fr zs.length k) := ho
        clear ho
        generalize ruA f d k = A at *
        generalize ruB r k = B at *
        generalize ruC n f d p r dr o sl md fr zs.length k = C at *
        generalize hE : ruE k = E at *
        have HE : Hid (ruE k = E) := hE
        clear hE
        go_wp2_with fail
        refine (hq _).mono ?_
        rintro e w2 ⟨rfl, hb2⟩
        have HB2 : Hid (Below wr.heap.size wr w2) := bthen (ballc _ _) hb2
        obtain ⟨hbox2, hs2⟩ := box_at hb2
        clear hb2 e0 e1 e2 e3
        go_wp2
        go_ret
        exact ⟨ret_i (by rw [plain_fail k hlt HO.out HK.out]; exact HE.out.symm), bthen (bthen (ballc w _) HB1.out) (bthen HB.out HB2.out)⟩
    · have hk' : k = 12 := by omega
      subst hk'
      obtain ⟨hbox, hsz⟩ := box_at (bthen HB1.out HB.out)
      have hall := okR_all 12 HO.out
      have hq := fun v hT => eachOwns_any n f d p r dr o sl md fr ad cap zs v (hall.1 (by decide)).1 (hall.1 (by decide)).2 hl hT
      have HQ : Hid (Calls Tryz.prog 43 #[.agg #[.int .i64 n, .int .i64 f, .int .i64 d, .int .i64 p, .int .i64 r, .int .i64 dr, .int .i64 o, .int .i64 sl, .int .i64 md, .int .i64 fr, .slice ad zs.length cap]] wr fun e w' => e = .returned (.bool (ownsB n zs)) ∧ Below wr.heap.size wr w') := hq wr (HT.out.below (bthen HB1.out HB.out))
      clear hq hall
      have HP := plain_end HO.out
      generalize hob : ownsB n zs = ob at HP HQ
      clear hob
      cases ob
      all_goals
        have HP' : Hid (plainE n f d p r dr o sl md fr zs = _) := HP
        clear HP
        go_wp2_with fail
        refine HQ.out.mono ?_
        rintro e w2 ⟨rfl, hb2⟩
        have HB2 : Hid (Below wr.heap.size wr w2) := hb2
        clear hb2
        go_wp2
        go_ret
        exact ⟨ret_i (by rw [HP'.out]; rfl), bthen (bthen (ballc w _) HB1.out) (bthen HB.out HB2.out)⟩
end Go.Proofs.YtkolhbacgoafcaaGreat

/- The calls Rounds, Length and Bits of package conf return what the document says, of what is plain, else 0, and make at most new memory; conditions: the table lies where it says, and its length fits int. -/
namespace Go.Proofs.YtkolhbacgoafcaaGreat
open Go.ChangeShapes Go.WideShapes Go.ChangeAt Go.RowKit
set_option linter.unusedVariables false
attribute [local go_sem] cell_rg

/-- x, if E is no error, else 0. -/
def gate (E x : Int) : Int := if E = 0 then x else 0
/-- Hides a fact from the walk. -/
theorem gate_ok (x : Int) : gate 0 x = x := if_pos rfl
theorem gate_no {E : Int} (h : ¬ E = 0) (x : Int) : gate E x = 0 := if_neg h
theorem gate_congr {E x y : Int} (h : E = 0 → x = y) : gate E x = gate E y := by
  unfold gate
  by_cases e : E = 0
  · rw [if_pos e, if_pos e, h e]
  · rw [if_neg e, if_neg e]

theorem ofPlain_any (n f d p r dr o sl md fr : Int) (ad : Option Addr) (cap : Nat) (zs : List Int) (x : Int) (w : World) (hl : zs.length ≤ 9223372036854775807) (hT : Tab w ad zs) :
    Calls Tryz.prog 44 #[.agg #[.int .i64 n, .int .i64 f, .int .i64 d, .int .i64 p, .int .i64 r, .int .i64 dr, .int .i64 o, .int .i64 sl, .int .i64 md, .int .i64 fr, .slice ad zs.length cap], .int .i64 x] w fun e w' => e = .returned (.int .i64 (gate (plainE n f d p r dr o sl md fr zs) x)) ∧ Below w.heap.size w w' := by
  have HQ := hidden (plain_any n f d p r dr o sl md fr ad cap zs (w.alloc (.cells #[.int .i64 n, .int .i64 f, .int .i64 d, .int .i64 p, .int .i64 r, .int .i64 dr, .int .i64 o, .int .i64 sl, .int .i64 md, .int .i64 fr, .slice ad zs.length cap] 24)) hl (hT.below (ballc _ _)))
  clear hT
  generalize plainE n f d p r dr o sl md fr zs = E at HQ
  by_cases hE : E = 0
  · subst hE
    go_enter Tryz.func44, Tryz.ntmps44
    go_wp2_with fail
    refine HQ.out.mono ?_
    rintro e w2 ⟨rfl, hb2⟩
    have HB2 : Hid (Below w.heap.size w w2) := bthen (ballc w _) hb2
    clear hb2 HQ
    go_wp2
    go_ret
    exact ⟨ret_i (gate_ok x).symm, HB2.out⟩
  · go_enter Tryz.func44, Tryz.ntmps44
    go_wp2_with fail
    refine HQ.out.mono ?_
    rintro e w2 ⟨rfl, hb2⟩
    have HB2 : Hid (Below w.heap.size w w2) := bthen (ballc w _) hb2
    clear hb2 HQ
    go_wp2
    go_ret
    exact ⟨ret_i (gate_no hE x).symm, HB2.out⟩

theorem Rounds_any (n f d p r dr o sl md fr : Int) (ad : Option Addr) (cap : Nat) (zs : List Int) (w : World) (hl : zs.length ≤ 9223372036854775807) (hT : Tab w ad zs) :
    Calls Tryz.prog 67 #[.agg #[.int .i64 n, .int .i64 f, .int .i64 d, .int .i64 p, .int .i64 r, .int .i64 dr, .int .i64 o, .int .i64 sl, .int .i64 md, .int .i64 fr, .slice ad zs.length cap]] w fun e w' => e = .returned (.int .i64 (gate (plainE n f d p r dr o sl md fr zs) (3 * (f + 1)))) ∧ Below w.heap.size w w' := by
  have HT : Hid (Tab (w.alloc (.cells #[.int .i64 n, .int .i64 f, .int .i64 d, .int .i64 p, .int .i64 r, .int .i64 dr, .int .i64 o, .int .i64 sl, .int .i64 md, .int .i64 fr, .slice ad zs.length cap] 24)) ad zs) := hT.below (ballc _ _)
  have HG : Hid (gate (plainE n f d p r dr o sl md fr zs) (3 * (f + 1)) = gate (plainE n f d p r dr o sl md fr zs) (roundsW f)) := gate_congr fun h => by
    obtain ⟨_, _, h1, h2, _⟩ := plainE_ok h
    exact (roundsW_eq h1 h2).symm
  clear hT
  go_enter Tryz.func67, Tryz.ntmps67
  go_wp2
  refine wp_region_quiet_below (by kernel_rfl) (by kernel_rfl) ?_
  repeat (go_big_quiet_step (first | (go_at_call 65; exact Calls.regrown_of (cRounds_any _ _ _ _ _ _ _ _ _ _ _ _ _ _)) | (go_at_call 44; exact Calls.regrown_of (ofPlain_any _ _ _ _ _ _ _ _ _ _ _ _ _ _ _ hl (HT.out.below (below_regrown _ _ _))))))
  refine wpQuiet_nil ?_
  intro w2 hw2
  have HB2 : Hid (Below w.heap.size w w2) := bthen (ballc w _) (rg_below hw2)
  clear hw2
  go_wp2
  go_ret
  exact ⟨ret_i HG.out.symm, HB2.out⟩

theorem Length_any (n f d p r dr o sl md fr : Int) (ad : Option Addr) (cap : Nat) (zs : List Int) (w : World) (hl : zs.length ≤ 9223372036854775807) (hT : Tab w ad zs) :
    Calls Tryz.prog 21 #[.agg #[.int .i64 n, .int .i64 f, .int .i64 d, .int .i64 p, .int .i64 r, .int .i64 dr, .int .i64 o, .int .i64 sl, .int .i64 md, .int .i64 fr, .slice ad zs.length cap]] w fun e w' => e = .returned (.int .i64 (gate (plainE n f d p r dr o sl md fr zs) (3 * (f + 1) * d))) ∧ Below w.heap.size w w' := by
  have HT : Hid (Tab (w.alloc (.cells #[.int .i64 n, .int .i64 f, .int .i64 d, .int .i64 p, .int .i64 r, .int .i64 dr, .int .i64 o, .int .i64 sl, .int .i64 md, .int .i64 fr, .slice ad zs.length cap] 24)) ad zs) := hT.below (ballc _ _)
  have HG : Hid (gate (plainE n f d p r dr o sl md fr zs) (3 * (f + 1) * d) = gate (plainE n f d p r dr o sl md fr zs) (lengthW f d)) := gate_congr fun h => by
    obtain ⟨_, _, h1, h2, _, h3, h4, _⟩ := plainE_ok h
    exact (lengthW_eq h1 h2 h3 h4).symm
  clear hT
  go_enter Tryz.func21, Tryz.ntmps21
  go_wp2
  refine wp_region_quiet_below (by kernel_rfl) (by kernel_rfl) ?_
  repeat (go_big_quiet_step (first | (go_at_call 45; exact Calls.regrown_of (cLength_any _ _ _ _ _ _ _ _ _ _ _ _ _ _)) | (go_at_call 44; exact Calls.regrown_of (ofPlain_any _ _ _ _ _ _ _ _ _ _ _ _ _ _ _ hl (HT.out.below (below_regrown _ _ _))))))
  refine wpQuiet_nil ?_
  intro w2 hw2
  have HB2 : Hid (Below w.heap.size w w2) := bthen (ballc w _) (rg_below hw2)
  clear hw2
  go_wp2
  go_ret
  exact ⟨ret_i HG.out.symm, HB2.out⟩
end Go.Proofs.YtkolhbacgoafcaaGreat

/- Texts as lists of bytes, and back; no conditions. -/
namespace Go.Proofs.YtkolhbacgoafcaaGreat
set_option linter.unusedVariables false

/-- A text as a list, and back. -/
def bl (s : ByteArray) : List UInt8 := s.data.toList
def ba (l : List UInt8) : ByteArray := ⟨l.toArray⟩
theorem ba_bl (s : ByteArray) : ba (bl s) = s := by simp [ba, bl]
theorem bl_ba (l : List UInt8) : bl (ba l) = l := by simp [ba, bl]
theorem bl_length (s : ByteArray) : (bl s).length = s.size := by simp [bl]
theorem bl_inj {s t : ByteArray} (h : bl s = bl t) : s = t := by rw [← ba_bl s, ← ba_bl t, h]
theorem ba_size (l : List UInt8) : (ba l).size = l.length := by simp [ba, ByteArray.size]
theorem ba_append (a b : List UInt8) : ba a ++ ba b = ba (a ++ b) := by
  apply ByteArray.ext
  simp [ba, ByteArray.data_append]
theorem bl_append (a b : ByteArray) : bl (a ++ b) = bl a ++ bl b := by simp [bl, ByteArray.data_append]
theorem ba_nil : ba [] = ⟨#[]⟩ := rfl

end Go.Proofs.YtkolhbacgoafcaaGreat

/- Plain mathematics of rows of bytes that are moved one place on, stretch by stretch: what is laid over a row, what a stretch is when it was shifted, the row when all were; no conditions but those in the theorems. -/
namespace Go.Proofs.YtkolhbacgoafcaaGreat
set_option linter.unusedVariables false

/-- The byte at a place, if there is one. -/
def at8 (l : List UInt8) (j : Nat) : UInt8 := l.getD j 0
theorem at8_lt {l : List UInt8} {j : Nat} (h : j < l.length) : at8 l j = l[j] := by
  unfold at8
  rw [List.getD_eq_getElem?_getD, List.getElem?_eq_getElem h, Option.getD_some]
theorem at8_ext {a b : List UInt8} (hl : a.length = b.length) (h : ∀ j, j < a.length → at8 a j = at8 b j) : a = b := by
  apply List.ext_getElem hl
  intro i h1 h2
  have := h i h1
  rwa [at8_lt h1, at8_lt h2] at this
theorem at8_map {n : Nat} (g : Nat → UInt8) {j : Nat} (h : j < n) : at8 ((List.range n).map g) j = g j := by
  rw [at8_lt (by simpa using h)]
  simp
theorem at8_set {l : List UInt8} {o : Nat} (c : UInt8) (h : o < l.length) (j : Nat) : at8 (l.set o c) j = if j = o then c else at8 l j := by
  unfold at8
  rw [List.getD_eq_getElem?_getD, List.getD_eq_getElem?_getD, List.getElem?_set]
  by_cases e : o = j
  · rw [if_pos e, if_pos h, if_pos e.symm]; rfl
  · rw [if_neg e, if_neg (fun k => e k.symm)]
/-- Bytes laid over a row from a place on. -/
def ovr (l : List UInt8) : Nat → List UInt8 → List UInt8
  | _, [] => l
  | o, c :: r => ovr (l.set o c) (o + 1) r
theorem ovr_len : ∀ (r : List UInt8) (l : List UInt8) (o : Nat), (ovr l o r).length = l.length
  | [], _, _ => rfl
  | c :: r, l, o => by
    show (ovr (l.set o c) (o + 1) r).length = _
    rw [ovr_len r]
    simp
theorem at8_ovr : ∀ (r : List UInt8) (l : List UInt8) (o : Nat), o + r.length ≤ l.length → ∀ j, at8 (ovr l o r) j = if o ≤ j ∧ j < o + r.length then at8 r (j - o) else at8 l j
  | [], l, o, _, j => by
    rw [if_neg (by simp only [List.length_nil]; omega)]
    rfl
  | c :: r, l, o, h, j => by
    rw [List.length_cons] at h
    have ih := at8_ovr r (l.set o c) (o + 1) (by simp; omega) j
    show at8 (ovr (l.set o c) (o + 1) r) j = _
    rw [ih, at8_set c (by omega), List.length_cons]
    by_cases e1 : o + 1 ≤ j ∧ j < o + 1 + r.length
    · rw [if_pos e1, if_pos (by omega)]
      obtain ⟨i, rfl⟩ : ∃ i, j = o + 1 + i := ⟨j - (o + 1), by omega⟩
      rw [show o + 1 + i - (o + 1) = i by omega, show o + 1 + i - o = i + 1 by omega]
      rfl
    · rw [if_neg e1]
      by_cases e2 : j = o
      · rw [if_pos e2, if_pos (by omega), e2, Nat.sub_self]
        rfl
      · rw [if_neg e2, if_neg (by omega)]
/-- A stretch, one place on, with a byte at its head. -/
def shL (l : List UInt8) (off D : Nat) (c : UInt8) : List UInt8 := (List.range l.length).map fun j => if j = off then c else if off < j ∧ j < off + D then at8 l (j - 1) else at8 l j
theorem shL_len (l : List UInt8) (off D : Nat) (c : UInt8) : (shL l off D c).length = l.length := by simp [shL]
theorem shL_ovr {l : List UInt8} {off D : Nat} (c : UInt8) (hD : 1 ≤ D) (h : off + D ≤ l.length) : ovr (ovr l (off + 1) ((l.drop off).take (D - 1))) off [c] = shL l off D c := by
  have e1 : ((l.drop off).take (D - 1)).length = D - 1 := by rw [List.length_take, List.length_drop]; omega
  apply at8_ext
  · rw [ovr_len, ovr_len, shL_len]
  · intro j hj
    rw [ovr_len, ovr_len] at hj
    rw [at8_ovr _ _ _ (by rw [ovr_len]; simp; omega), at8_ovr _ _ _ (by rw [e1]; omega), e1]
    unfold shL
    rw [at8_map _ hj]
    simp only [List.length_singleton]
    by_cases c1 : j = off
    · subst c1
      rw [if_pos (by omega), if_pos rfl, Nat.sub_self]
      rfl
    · rw [if_neg (by omega), if_neg c1]
      by_cases c2 : off < j ∧ j < off + D
      · rw [if_pos (by omega), if_pos c2]
        unfold at8
        rw [List.getD_eq_getElem?_getD, List.getD_eq_getElem?_getD, List.getElem?_take, if_pos (by omega), List.getElem?_drop]
        congr 2
        omega
      · rw [if_neg (by omega), if_neg c2]
/-- A byte at an age, a tick later, and all of them; h: what a byte is when an exchange was heard. -/
def oldB (h : Nat → UInt8 → UInt8) (D a : Nat) (b : UInt8) : UInt8 := if a % D = 0 then h (a / D - 1) b else b
def newB (h : Nat → UInt8 → UInt8) (D : Nat) (l : List UInt8) (a : Nat) : UInt8 := if a = 0 then 48 else oldB h D a (at8 l (a - 1))
def newL (h : Nat → UInt8 → UInt8) (D : Nat) (l : List UInt8) : List UInt8 := (List.range l.length).map (newB h D l)
/-- .. of which so many stretches are done. -/
def mixL (h : Nat → UInt8 → UInt8) (D : Nat) (l : List UInt8) (x : Nat) : List UInt8 := (List.range l.length).map fun j => if j < x * D then newB h D l j else at8 l j
theorem newL_len (h : Nat → UInt8 → UInt8) (D : Nat) (l : List UInt8) : (newL h D l).length = l.length := by simp [newL]
theorem mixL_len (h : Nat → UInt8 → UInt8) (D : Nat) (l : List UInt8) (x : Nat) : (mixL h D l x).length = l.length := by simp [mixL]
theorem newB_0 (h : Nat → UInt8 → UInt8) (D : Nat) (l : List UInt8) : newB h D l 0 = 48 := if_pos rfl
theorem newB_s (h : Nat → UInt8 → UInt8) (D : Nat) (l : List UInt8) (a : Nat) : newB h D l (a + 1) = oldB h D (a + 1) (at8 l a) := if_neg (by omega)
theorem mix_0 (h : Nat → UInt8 → UInt8) (D : Nat) (l : List UInt8) : mixL h D l 0 = l := by
  apply at8_ext
  · rw [mixL_len]
  · intro j hj
    rw [mixL_len] at hj
    unfold mixL
    rw [at8_map _ hj, if_neg (by omega)]
theorem mix_all (h : Nat → UInt8 → UInt8) (D : Nat) (l : List UInt8) {R : Nat} (hl : l.length = R * D) : mixL h D l R = newL h D l := by
  apply at8_ext
  · rw [mixL_len, newL_len]
  · intro j hj
    rw [mixL_len] at hj
    unfold mixL newL
    rw [at8_map _ hj, at8_map _ hj, if_pos (by omega)]
theorem mod_place {D x i : Nat} (h : i < D) : (x * D + i) % D = i := by rw [Nat.add_comm, Nat.add_mul_mod_self_right, Nat.mod_eq_of_lt h]
theorem mix_last (h : Nat → UInt8 → UInt8) {D : Nat} (l : List UInt8) {x : Nat} (hD : 1 ≤ D) (hx : x * D + D ≤ l.length) : at8 (mixL h D l x) (x * D + D - 1) = at8 l (x * D + D - 1) := by
  unfold mixL
  rw [at8_map _ (by omega), if_neg (by omega)]
theorem mix_come (h : Nat → UInt8 → UInt8) {D : Nat} (l : List UInt8) (x : Nat) (hD : 1 ≤ D) : newB h D l (x * D + D) = h x (at8 l (x * D + D - 1)) := by
  have e1 : (x * D + D) % D = 0 := by rw [Nat.add_mod_right, Nat.mul_mod_left]
  have e2 : (x * D + D) / D = x + 1 := by rw [Nat.add_div_right _ (by omega), Nat.mul_div_cancel _ (by omega)]
  unfold newB oldB
  rw [if_neg (by omega), if_pos e1, e2, Nat.add_sub_cancel]
theorem mixL_at (h : Nat → UInt8 → UInt8) (D : Nat) (l : List UInt8) (x : Nat) {j : Nat} (hj : j < l.length) : at8 (mixL h D l x) j = if j < x * D then newB h D l j else at8 l j := at8_map _ hj
theorem shL_at (l : List UInt8) (off D : Nat) (c : UInt8) {j : Nat} (hj : j < l.length) : at8 (shL l off D c) j = if j = off then c else if off < j ∧ j < off + D then at8 l (j - 1) else at8 l j := at8_map _ hj
theorem mix_step (h : Nat → UInt8 → UInt8) {D : Nat} (l : List UInt8) {x : Nat} (hD : 1 ≤ D) (hx : x * D + D ≤ l.length) : shL (mixL h D l x) (x * D) D (newB h D l (x * D)) = mixL h D l (x + 1) := by
  have e : (x + 1) * D = x * D + D := by rw [Nat.add_mul, Nat.one_mul]
  apply at8_ext
  · rw [shL_len, mixL_len, mixL_len]
  · intro j hj
    rw [shL_len, mixL_len] at hj
    rw [shL_at _ _ _ _ (by rw [mixL_len]; exact hj), mixL_at h D l (x + 1) hj, e]
    by_cases c1 : j = x * D
    · rw [if_pos c1, if_pos (by omega), c1]
    · rw [if_neg c1]
      by_cases c2 : x * D < j ∧ j < x * D + D
      · rw [if_pos c2, if_pos (by omega), mixL_at h D l x (by omega), if_neg (by omega)]
        obtain ⟨i, rfl⟩ : ∃ i, j = x * D + i := ⟨j - x * D, by omega⟩
        unfold newB oldB
        rw [if_neg (by omega), mod_place (by omega), if_neg (by omega)]
      · rw [if_neg c2, mixL_at h D l x hj]
        by_cases c3 : j < x * D
        · rw [if_pos c3, if_pos (by omega)]
        · rw [if_neg c3, if_neg (by omega)]
/-- A pipe that may be, or the blank one. -/
def wellL (L : Nat) (s : ByteArray) : List UInt8 := if s.size = L then bl s else List.replicate L 48
theorem wellL_len (L : Nat) (s : ByteArray) : (wellL L s).length = L := by
  unfold wellL
  by_cases h : s.size = L
  · rw [if_pos h, bl_length, h]
  · rw [if_neg h, List.length_replicate]
end Go.Proofs.YtkolhbacgoafcaaGreat

/- Plain words on a block of six cells that is written anew: what is read of it then; no conditions. -/
namespace Go.Proofs.YtkolhbacgoafcaaGreat
open Go.ChangeShapes Go.WideShapes Go.ChangeAt Go.RowKit
set_option linter.unusedVariables false

theorem blk_frozen {w : World} {b : Nat} {C : Array Value} {t : TypeId} (h : w.heap[b]? = some (.cells C t (0, 0))) (i : Nat) : w.frozen? ⟨b, i, none⟩ = false := by
  simp [World.frozen?, h]
theorem blk_cell {w : World} {b : Nat} {C : Array Value} {t : TypeId} (h : w.heap[b]? = some (.cells C t (0, 0))) (i : Nat) : w.cell? ⟨b, i, none⟩ = C[i]? := by
  simp [World.cell?, h]
theorem blk_second (w : World) (o : Obj) (C : Array Value) (t : TypeId) {w' : World} (hb : Below ((w.alloc o).alloc (.cells C t)).heap.size ((w.alloc o).alloc (.cells C t)) w') : w'.heap[w.heap.size + 1]? = some (.cells C t (0, 0)) := by
  refine (hb.block (w.heap.size + 1) (by simp)).trans ?_
  have := heap_alloc_new (w.alloc o) (.cells C t)
  rw [World.size_alloc] at this
  exact this
theorem set6T {w : World} {b : Nat} {z0 z1 z2 z3 z4 z5 : Value} {t : TypeId} (h : w.heap[b]? = some (.cells #[z0, z1, z2, z3, z4, z5] t (0, 0))) (v0 v1 v2 v3 v4 v5 : Value) :
    ((((((w.setCell ⟨b, 0, none⟩ v0).setCell ⟨b, 1, none⟩ v1).setCell ⟨b, 2, none⟩ v2).setCell ⟨b, 3, none⟩ v3).setCell ⟨b, 4, none⟩ v4).setCell ⟨b, 5, none⟩ v5).heap[b]? = some (.cells #[v0, v1, v2, v3, v4, v5] t (0, 0)) := by
  have h1 := heap_setCell_same _ b 0 _ _ v0 h
  have h2 := heap_setCell_same _ b 1 _ _ v1 h1
  have h3 := heap_setCell_same _ b 2 _ _ v2 h2
  have h4 := heap_setCell_same _ b 3 _ _ v3 h3
  have h5 := heap_setCell_same _ b 4 _ _ v4 h4
  have h6 := heap_setCell_same _ b 5 _ _ v5 h5
  simpa using h6
theorem read6T {w : World} {b : Nat} {z0 z1 z2 z3 z4 z5 : Value} {t : TypeId} (h : w.heap[b]? = some (.cells #[z0, z1, z2, z3, z4, z5] t (0, 0))) (v0 v1 v2 v3 v4 v5 : Value) :
    ((((((w.setCell ⟨b, 0, none⟩ v0).setCell ⟨b, 1, none⟩ v1).setCell ⟨b, 2, none⟩ v2).setCell ⟨b, 3, none⟩ v3).setCell ⟨b, 4, none⟩ v4).setCell ⟨b, 5, none⟩ v5).cell? ⟨b, 0, none⟩ = some v0 ∧ ((((((w.setCell ⟨b, 0, none⟩ v0).setCell ⟨b, 1, none⟩ v1).setCell ⟨b, 2, none⟩ v2).setCell ⟨b, 3, none⟩ v3).setCell ⟨b, 4, none⟩ v4).setCell ⟨b, 5, none⟩ v5).cell? ⟨b, 1, none⟩ = some v1 ∧ ((((((w.setCell ⟨b, 0, none⟩ v0).setCell ⟨b, 1, none⟩ v1).setCell ⟨b, 2, none⟩ v2).setCell ⟨b, 3, none⟩ v3).setCell ⟨b, 4, none⟩ v4).setCell ⟨b, 5, none⟩ v5).cell? ⟨b, 2, none⟩ = some v2 ∧ ((((((w.setCell ⟨b, 0, none⟩ v0).setCell ⟨b, 1, none⟩ v1).setCell ⟨b, 2, none⟩ v2).setCell ⟨b, 3, none⟩ v3).setCell ⟨b, 4, none⟩ v4).setCell ⟨b, 5, none⟩ v5).cell? ⟨b, 3, none⟩ = some v3 ∧ ((((((w.setCell ⟨b, 0, none⟩ v0).setCell ⟨b, 1, none⟩ v1).setCell ⟨b, 2, none⟩ v2).setCell ⟨b, 3, none⟩ v3).setCell ⟨b, 4, none⟩ v4).setCell ⟨b, 5, none⟩ v5).cell? ⟨b, 4, none⟩ = some v4 ∧ ((((((w.setCell ⟨b, 0, none⟩ v0).setCell ⟨b, 1, none⟩ v1).setCell ⟨b, 2, none⟩ v2).setCell ⟨b, 3, none⟩ v3).setCell ⟨b, 4, none⟩ v4).setCell ⟨b, 5, none⟩ v5).cell? ⟨b, 5, none⟩ = some v5 := by
  have h6 := set6T h v0 v1 v2 v3 v4 v5
  refine ⟨?_, ?_, ?_, ?_, ?_, ?_⟩ <;> simp only [World.cell?, h6] <;> rfl
theorem below6T {B : Nat} {a w : World} {b : Nat} (h : Below B a w) (hp : B ≤ b) (v0 v1 v2 v3 v4 v5 : Value) : Below B a ((((((w.setCell ⟨b, 0, none⟩ v0).setCell ⟨b, 1, none⟩ v1).setCell ⟨b, 2, none⟩ v2).setCell ⟨b, 3, none⟩ v3).setCell ⟨b, 4, none⟩ v4).setCell ⟨b, 5, none⟩ v5) :=
  (((((h.setCell (p := ⟨b, 0, none⟩) hp _).setCell (p := ⟨b, 1, none⟩) hp _).setCell (p := ⟨b, 2, none⟩) hp _).setCell (p := ⟨b, 3, none⟩) hp _).setCell (p := ⟨b, 4, none⟩) hp _).setCell (p := ⟨b, 5, none⟩) hp _
theorem read6A {w : World} {b : Nat} {z0 z1 z2 z3 z4 z5 : Value} {t : TypeId} (h : w.heap[b]? = some (.cells #[z0, z1, z2, z3, z4, z5] t (0, 0))) (o : Obj) (v0 v1 v2 v3 v4 v5 : Value) :
    (((((((w.setCell ⟨b, 0, none⟩ v0).setCell ⟨b, 1, none⟩ v1).setCell ⟨b, 2, none⟩ v2).setCell ⟨b, 3, none⟩ v3).setCell ⟨b, 4, none⟩ v4).setCell ⟨b, 5, none⟩ v5).alloc o).cell? ⟨b, 0, none⟩ = some v0 ∧ (((((((w.setCell ⟨b, 0, none⟩ v0).setCell ⟨b, 1, none⟩ v1).setCell ⟨b, 2, none⟩ v2).setCell ⟨b, 3, none⟩ v3).setCell ⟨b, 4, none⟩ v4).setCell ⟨b, 5, none⟩ v5).alloc o).cell? ⟨b, 1, none⟩ = some v1 ∧ (((((((w.setCell ⟨b, 0, none⟩ v0).setCell ⟨b, 1, none⟩ v1).setCell ⟨b, 2, none⟩ v2).setCell ⟨b, 3, none⟩ v3).setCell ⟨b, 4, none⟩ v4).setCell ⟨b, 5, none⟩ v5).alloc o).cell? ⟨b, 2, none⟩ = some v2 ∧ (((((((w.setCell ⟨b, 0, none⟩ v0).setCell ⟨b, 1, none⟩ v1).setCell ⟨b, 2, none⟩ v2).setCell ⟨b, 3, none⟩ v3).setCell ⟨b, 4, none⟩ v4).setCell ⟨b, 5, none⟩ v5).alloc o).cell? ⟨b, 3, none⟩ = some v3 ∧ (((((((w.setCell ⟨b, 0, none⟩ v0).setCell ⟨b, 1, none⟩ v1).setCell ⟨b, 2, none⟩ v2).setCell ⟨b, 3, none⟩ v3).setCell ⟨b, 4, none⟩ v4).setCell ⟨b, 5, none⟩ v5).alloc o).cell? ⟨b, 4, none⟩ = some v4 ∧ (((((((w.setCell ⟨b, 0, none⟩ v0).setCell ⟨b, 1, none⟩ v1).setCell ⟨b, 2, none⟩ v2).setCell ⟨b, 3, none⟩ v3).setCell ⟨b, 4, none⟩ v4).setCell ⟨b, 5, none⟩ v5).alloc o).cell? ⟨b, 5, none⟩ = some v5 := by
  have h6 := set6T h v0 v1 v2 v3 v4 v5
  have h7 := ((ballc _ o).block b (Array.getElem?_eq_some_iff.1 h6).1).trans h6
  refine ⟨?_, ?_, ?_, ?_, ?_, ?_⟩ <;> simp only [World.cell?, h7] <;> rfl
theorem below6A {a w : World} {b : Nat} (h : Below a.heap.size a w) (hp : a.heap.size ≤ b) (o : Obj) (v0 v1 v2 v3 v4 v5 : Value) : Below a.heap.size a (((((((w.setCell ⟨b, 0, none⟩ v0).setCell ⟨b, 1, none⟩ v1).setCell ⟨b, 2, none⟩ v2).setCell ⟨b, 3, none⟩ v3).setCell ⟨b, 4, none⟩ v4).setCell ⟨b, 5, none⟩ v5).alloc o) :=
  (below6T h hp v0 v1 v2 v3 v4 v5).alloc (below6T h hp v0 v1 v2 v3 v4 v5).size o
theorem blk_lt {w : World} {b : Nat} {o : Obj} (h : w.heap[b]? = some o) : b < w.heap.size := (Array.getElem?_eq_some_iff.1 h).1
theorem blk_later {w w' : World} {b : Nat} {o : Obj} (h : w.heap[b]? = some o) (hb : Below w.heap.size w w') : w'.heap[b]? = some o := (hb.block b (blk_lt h)).trans h
theorem blk_nw (w : World) (C : Array Value) (t : TypeId) : (w.alloc (.cells C t)).heap[w.heap.size]? = some (.cells C t (0, 0)) := heap_alloc_new w _
theorem blk_newAt (w : World) (C : Array Value) (t : TypeId) {b : Nat} (hb : b = w.heap.size) : (w.alloc (.cells C t)).heap[b]? = some (.cells C t (0, 0)) := by subst hb; exact heap_alloc_new w _
end Go.Proofs.YtkolhbacgoafcaaGreat

/- Texts as lists of numbers: what a row of bytes is as a text; no conditions. -/
namespace Go.Proofs.YtkolhbacgoafcaaGreat
open Go.ChangeShapes Go.WideShapes Go.ChangeAt Go.RowKit
set_option linter.unusedVariables false

def numStr (zs : List Int) : ByteArray := ⟨(zs.map fun z => UInt8.ofNat z.toNat).toArray⟩
def leInts : Int → Nat → List Int
  | _, 0 => []
  | n, k + 1 => n % 256 :: leInts (n / 256) k

theorem cons2 {a b : Int} {l m : List Int} (h : a = b) (g : l = m) : a :: l = b :: m := by rw [h, g]

theorem foldl_push_nums : ∀ (zs : List Int) (r : ByteArray), zs.foldl (fun r n => r.push (UInt8.ofNat n.toNat)) r = ⟨r.data ++ (zs.map fun z => UInt8.ofNat z.toNat).toArray⟩
  | [], r => by simp
  | z :: zs, r => by
    simp only [List.foldl_cons]
    rw [foldl_push_nums zs]
    simp [ByteArray.push]

theorem conv_cells (w : World) (zs : List Int) (cap : Nat) :
    (convert 52 9 (.slice (some ⟨w.heap.size, 0, none⟩) zs.length cap)).run Tryz.prog (w.alloc (.cells (zs.map (Value.int .u8)).toArray 5)) = .ok (.string (numStr zs)) (w.alloc (.cells (zs.map (Value.int .u8)).toArray 5)) := by
  rw [run_convert_bytes_string _ 52 9 5 _ _ _ Tryz.underlying52 Tryz.underlying5 Tryz.underlying9]
  have hl := run_loadCells_list (P := Tryz.prog) (w.alloc (.cells (zs.map (Value.int .u8)).toArray 5)) ⟨w.heap.size, 0, none⟩ (zs.map (Value.int .u8)) (fun j v hj => by
    have ha : (Addr.mk w.heap.size 0 none).add j = ⟨w.heap.size, j, none⟩ := by
      by_cases h : j = 0
      · subst h; rfl
      · simp [Addr.add, h]
    rw [ha, World.cell?_alloc_at _ _ _ _ rfl]
    simpa using hj)
  simp only [List.length_map] at hl
  rw [run_bytesToString _ _ zs.length cap _ hl, foldl_push_nums]
  have he0 : ByteArray.empty.data = #[] := rfl
  rw [he0]
  simp [numStr]

end Go.Proofs.YtkolhbacgoafcaaGreat

/- Plain words on rows of bytes that a call has made: their cells, one byte set, the text that they are; no conditions. -/
namespace Go.Proofs.YtkolhbacgoafcaaGreat
open Go.ChangeShapes Go.WideShapes Go.ChangeAt Go.RowKit
set_option linter.unusedVariables false

/-- The cells of a row of bytes. -/
def bvals (l : List UInt8) : Array Value := (l.map fun x => Value.int .u8 (x.toNat : Int)).toArray
theorem bvals_size (l : List UInt8) : (bvals l).size = l.length := by simp [bvals]
theorem bvals_at (l : List UInt8) (i : Nat) (h : i < l.length) : (bvals l)[i]? = some (.int .u8 (l[i].toNat : Int)) := by simp [bvals, h]
theorem bvals_set (l : List UInt8) (i : Nat) (x : Nat) (hx : x < 256) : (bvals l).setIfInBounds i (.int .u8 (x : Int)) = bvals (l.set i (UInt8.ofNat x)) := by
  apply Array.ext'
  simp only [bvals, Array.toList_setIfInBounds, List.map_set]
  rw [UInt8.toNat_ofNat_of_lt' hx]
theorem bvals_made (n : Nat) : madeCells #[Value.int .u8 0] n = bvals (List.replicate n 0) := by
  have h := toList_madeCells_one (Value.int .u8 0) n
  apply Array.ext'
  rw [h]
  simp [bvals]
theorem infoByte : (Tryz.prog.info? 5).map (fun i => (i.zero, i.size, i.bytes)) = some (some (.int .u8 0), 1, 1) := by kernel_rfl
/-- make of so many bytes. -/
theorem make_bytes (n : Nat) (hn : n ≤ 100000) (w : World) : (Instr.makeSlice 52 (.int .i64 (n : Int)) (.int .i64 (n : Int))).run Tryz.prog w = .ok (.slice (some ⟨w.heap.size, 0, none⟩) n n) (w.alloc (.cells (bvals (List.replicate n 0)) 5)) := by
  rw [← bvals_made]
  exact run_make_row' 52 5 (.int .u8 0) 1 Tryz.underlying52 infoByte rfl .i64 .i64 n (by omega) (by omega) w
theorem conv_blk {W : World} {g : Nat} {l : List UInt8} {t : TypeId} (h : W.heap[g]? = some (.cells (bvals l) t (0, 0))) :
    (convert 52 9 (.slice (some ⟨g, 0, none⟩) l.length l.length)).run Tryz.prog W = .ok (.string (ba l)) W := by
  refine run_convert_bytes_back W 52 9 5 _ _ l Tryz.underlying52 Tryz.underlying5 Tryz.underlying9 ?_
  intro j hj
  rw [add_plain, Nat.zero_add, blk_cell h j, bvals_at l j hj]
theorem numStr_one (n : Int) : numStr [n] = ba [UInt8.ofNat n.toNat] := rfl
end Go.Proofs.YtkolhbacgoafcaaGreat

/- Plain words on worlds that are made of another one by laying new blocks: what lay there stays, and new blocks are where they were laid; no conditions. -/
namespace Go.Proofs.YtkolhbacgoafcaaGreat
open Go.ChangeShapes Go.WideShapes Go.ChangeAt Go.RowKit
set_option linter.unusedVariables false

/-- A world that is another one with new blocks at its end. -/
def Chn (n : Nat) (w w' : World) : Prop := Below n w w' ∧ n ≤ w'.heap.size
theorem Chn.refl {n : Nat} {w : World} (h : n ≤ w.heap.size) : Chn n w w := ⟨Below.refl _ _, h⟩
theorem Chn.alloc {n : Nat} {w w' : World} (h : Chn n w w') (o : Obj) : Chn n w (w'.alloc o) := ⟨h.1.alloc h.2 o, by rw [World.size_alloc]; exact Nat.le_succ_of_le h.2⟩
theorem Chn.drew {n : Nat} {w w' : World} (h : Chn n w w') : Chn n w w'.drew := ⟨h.1.drew, h.2⟩
theorem Chn.below {n : Nat} {w w' w'' : World} (h : Chn n w w') (k : Below w'.heap.size w' w'') : Chn n w w'' := ⟨h.1.trans (k.mono h.2), Nat.le_trans h.2 k.size⟩
theorem Chn.out {w w' : World} (h : Chn w.heap.size w w') : Below w.heap.size w w' := h.1
theorem Chn.set {n : Nat} {w w' : World} (h : Chn n w w') (g i : Nat) (hg : n ≤ g) (v : Value) : Chn n w (w'.setCell ⟨g, i, none⟩ v) := ⟨h.1.setCell (p := ⟨g, i, none⟩) hg v, by simpa using h.2⟩
theorem Chn.le {n : Nat} {w w' : World} (h : Chn n w w') : n ≤ w'.heap.size := h.2
theorem Chn.grown {n g : Nat} {w w' w'' : World} (h : Chn n w w') (k : w'.grownBy w'' (some g)) (hg : n ≤ g) : Chn n w w'' := ⟨h.1.trans ⟨k.os, k.tape, k.output, k.size, fun i hi => k.block i (Nat.lt_of_lt_of_le hi h.2) (by simp; omega)⟩, Nat.le_trans h.2 k.size⟩
end Go.Proofs.YtkolhbacgoafcaaGreat

/- Rows of bytes that a text was turned into lie in memory: their cells, what is stored and laid over, the text that they are; and copy of bytes and of a text into one's own row; no conditions but those in the theorems. -/
namespace Go.Proofs.YtkolhbacgoafcaaGreat
open Go.ChangeShapes Go.WideShapes Go.ChangeAt Go.RowKit
set_option linter.unusedVariables false

/-- A block whose first cells are these bytes; the mark of a conversion lies behind its last cell. -/
def FBlk (W : World) (g : Nat) (l : List UInt8) : Prop := ∃ C : Array Value, W.heap[g]? = some (.cells C 5 (C.size, C.size + 1)) ∧ l.length ≤ C.size ∧ ∀ j, j < l.length → C[j]? = some (.int .u8 ((at8 l j).toNat : Int))
theorem FBlk.lt {W : World} {g : Nat} {l : List UInt8} (h : FBlk W g l) : g < W.heap.size := by
  obtain ⟨C, h1, _⟩ := h
  exact blk_lt h1
theorem FBlk.cell {W : World} {g : Nat} {l : List UInt8} (h : FBlk W g l) (j : Nat) (hj : j < l.length) : W.cell? ⟨g, j, none⟩ = some (.int .u8 ((at8 l j).toNat : Int)) := by
  obtain ⟨C, h1, _, h3⟩ := h
  simp only [World.cell?, h1]
  exact h3 j hj
theorem FBlk.open {W : World} {g : Nat} {l : List UInt8} (h : FBlk W g l) (j : Nat) (hj : j < l.length) : W.frozen? ⟨g, j, none⟩ = false := by
  obtain ⟨C, h1, h2, _⟩ := h
  simp only [World.frozen?, h1]
  simp
  omega
theorem FBlk.kept {W W' : World} {g : Nat} {l : List UInt8} {row : Option Nat} (h : FBlk W g l) (hg : W.grownBy W' row) (hne : some g ≠ row) : FBlk W' g l := by
  obtain ⟨C, h1, h2, h3⟩ := h
  exact ⟨C, (hg.block g (blk_lt h1) hne).trans h1, h2, h3⟩
theorem FBlk.later {W W' : World} {g : Nat} {l : List UInt8} (h : FBlk W g l) (hb : Below W.heap.size W W') : FBlk W' g l := by
  obtain ⟨C, h1, h2, h3⟩ := h
  exact ⟨C, blk_later h1 hb, h2, h3⟩
theorem FBlk.set {W : World} {g : Nat} {l : List UInt8} (h : FBlk W g l) (o : Nat) (ho : o < l.length) (c : UInt8) : FBlk (W.setCell ⟨g, o, none⟩ (.int .u8 (c.toNat : Int))) g (l.set o c) := by
  obtain ⟨C, h1, h2, h3⟩ := h
  refine ⟨C.setIfInBounds o (.int .u8 (c.toNat : Int)), ?_, by simpa using h2, ?_⟩
  · rw [Array.size_setIfInBounds]
    exact Lib.heap_setCell_same h1 _
  · intro j hj
    rw [List.length_set] at hj
    rw [at8_set c ho, Array.getElem?_setIfInBounds]
    by_cases e : o = j
    · rw [if_pos e, if_pos (by omega), if_pos e.symm]
    · rw [if_neg e, if_neg (fun k => e k.symm)]
      exact h3 j hj
def u8s (r : List UInt8) : List Value := r.map fun c => Value.int .u8 (c.toNat : Int)
theorem u8s_len (r : List UInt8) : (u8s r).length = r.length := by simp [u8s]
theorem u8s_one (r : List UInt8) : ∀ v ∈ u8s r, v.oneCell' = true := by
  intro v hv
  obtain ⟨c, _, rfl⟩ := List.mem_map.1 hv
  rfl
theorem FBlk.over {g : Nat} : ∀ (r : List UInt8) {W : World} {l : List UInt8} (o : Nat), FBlk W g l → o + r.length ≤ l.length → FBlk (W.setCells g o (u8s r)) g (ovr l o r)
  | [], _, _, _, h, _ => h
  | c :: r, W, l, o, h, hf => by
    rw [List.length_cons] at hf
    exact FBlk.over r (o + 1) (h.set o (by omega) c) (by simp; omega)
theorem grown_cells (g : Nat) : ∀ (vs : List Value) (o : Nat) (W : World), W.grownBy (W.setCells g o vs) (some g)
  | [], _, W => ⟨rfl, rfl, rfl, Nat.le_refl _, fun _ _ _ => rfl⟩
  | v :: r, o, W => by
    have h2 : W.grownBy (W.setCell ⟨g, o, none⟩ v) (some g) := ⟨rfl, rfl, rfl, by simp, fun k _ hk => heap_setCell_other _ _ _ _ (fun e => hk (by rw [e]))⟩
    have h3 := grown_cells g r (o + 1) (W.setCell ⟨g, o, none⟩ v)
    exact ⟨h3.os.trans h2.os, h3.tape.trans h2.tape, h3.output.trans h2.output, Nat.le_trans h2.size h3.size, fun k hk hne => (h3.block k (Nat.lt_of_lt_of_le hk h2.size) hne).trans (h2.block k hk hne)⟩
/-- The text that they are. -/
theorem FBlk.text {W : World} {g : Nat} {l : List UInt8} (h : FBlk W g l) (cap : Nat) : (convert 52 9 (.slice (some ⟨g, 0, none⟩) l.length cap)).run Tryz.prog W = .ok (.string (ba l)) W :=
  run_convert_bytes_back W 52 9 5 _ _ l Tryz.underlying52 Tryz.underlying5 Tryz.underlying9 (fun j hj => by rw [add_plain, Nat.zero_add, h.cell j hj, at8_lt hj])
theorem FBlk.one {W : World} {g : Nat} {l : List UInt8} (h : FBlk W g l) (j : Nat) (hj : j < l.length) (cap : Nat) : (convert 52 9 (.slice (some ⟨g, j, none⟩) 1 cap)).run Tryz.prog W = .ok (.string (ba [at8 l j])) W :=
  run_convert_bytes_back W 52 9 5 ⟨g, j, none⟩ _ [at8 l j] Tryz.underlying52 Tryz.underlying5 Tryz.underlying9 (fun i hi => by
    have : i = 0 := by simp at hi; omega
    subst this
    rw [add_plain, Nat.add_zero, h.cell j hj]
    rfl)
/-- What a text is turned into. -/
theorem FBlk.made (W : World) (s : ByteArray) : FBlk (W.drew.alloc (.cells (bytesRow s (grownCap W s.size 0 5)) 5 ((bytesRow s (grownCap W s.size 0 5)).size, (bytesRow s (grownCap W s.size 0 5)).size + 1))) W.heap.size (bl s) := by
  have hge := grownCap_ge W s.size 0 5
  have hsz : (bytesRow s (grownCap W s.size 0 5)).size = grownCap W s.size 0 5 := by
    unfold bytesRow
    simp
    have : s.data.size = s.size := rfl
    omega
  refine ⟨_, heap_alloc_new W.drew _, by rw [hsz, bl_length]; exact hge, ?_⟩
  intro j hj
  rw [bl_length] at hj
  have hj' : j < s.data.size := hj
  unfold bytesRow
  rw [Array.getElem?_append_left (by simpa using hj')]
  rw [at8_lt (by rw [bl_length]; exact hj)]
  simp [bl]
  exact ⟨_, Array.getElem?_eq_getElem hj', rfl⟩
theorem below_made (W : World) (s : ByteArray) : Below W.heap.size W (W.drew.alloc (.cells (bytesRow s (grownCap W s.size 0 5)) 5 ((bytesRow s (grownCap W s.size 0 5)).size, (bytesRow s (grownCap W s.size 0 5)).size + 1))) := ((Below.refl _ _).drew).alloc (Nat.le_refl _) _
theorem sizeByte : (Tryz.prog.info? 5).map (·.size) = some 1 := by kernel_rfl
theorem size1Byte : ∀ w : World, (Go.sizeOf 5).run Tryz.prog w = .ok 1 w := fun w => by kernel_rfl
/-- copy of a row's own bytes one place on. -/
theorem copy_on {W : World} {g off D : Nat} {l : List UInt8} (h : FBlk W g l) (hD : 1 ≤ D) (hf : off + D ≤ l.length) (ty : TypeId) (dp : Option Addr) (c1 c2 : Nat) (hdp : 1 < D → dp = some ⟨g, off + 1, none⟩) :
    ∃ W', (Builtin.copy_ #[52, 52] ty #[.slice dp (D - 1) c1, .slice (some ⟨g, off, none⟩) D c2]).run Tryz.prog W = .ok (goInt ((D - 1 : Nat) : Int)) W' ∧ FBlk W' g (ovr l (off + 1) ((l.drop off).take (D - 1))) ∧ W.grownBy W' (some g) := by
  have e1 : ((l.drop off).take (D - 1)).length = D - 1 := by rw [List.length_take, List.length_drop]; omega
  by_cases h1 : D = 1
  · subst h1
    refine ⟨W, run_copy_none (P := Tryz.prog) W 52 52 ty 5 dp (some ⟨g, off, none⟩) 0 c1 1 c2 Tryz.underlying52 sizeByte (by decide), ?_, ⟨rfl, rfl, rfl, Nat.le_refl _, fun _ _ _ => rfl⟩⟩
    have e : (l.drop off).take (1 - 1) = [] := by simp
    rw [e]
    exact h
  · obtain rfl := hdp (by omega)
    have hr := run_copy_cells (P := Tryz.prog) W 52 52 ty 5 g (off + 1) (D - 1) c1 ⟨g, off, none⟩ D c2 (u8s ((l.drop off).take (D - 1))) Tryz.underlying52 sizeByte (by rw [u8s_len, e1]; exact (Nat.min_eq_right (by omega)).symm)
      (fun j v hj => by
        unfold u8s at hj
        rw [List.getElem?_map] at hj
        have hlt : j < D - 1 := by
          rw [← e1]
          cases hq : ((l.drop off).take (D - 1))[j]? with
          | none => rw [hq] at hj; cases hj
          | some c => exact (List.getElem?_eq_some_iff.1 hq).1
        rw [add_plain, h.cell (off + j) (by omega), ← hj, List.getElem?_take, if_pos hlt, List.getElem?_drop, List.getElem?_eq_getElem (by omega), at8_lt (by omega)]
        rfl)
      (fun j hj => by rw [u8s_len, e1] at hj; rw [h.cell _ (by omega)]; rfl) (fun j hj => by rw [u8s_len, e1] at hj; exact h.open _ (by omega)) (u8s_one _)
    rw [u8s_len, e1] at hr
    exact ⟨_, hr, h.over _ _ (by rw [e1]; omega), grown_cells _ _ _ _⟩
/-- copy of a text of one byte. -/
theorem copy_head {W : World} {g off D : Nat} {l : List UInt8} (h : FBlk W g l) (hD : 1 ≤ D) (hf : off + D ≤ l.length) (ty : TypeId) (c2 : Nat) (c : UInt8) :
    ∃ W', (Builtin.copy_ #[52, 9] ty #[.slice (some ⟨g, off, none⟩) D c2, .string (ba [c])]).run Tryz.prog W = .ok (goInt 1) W' ∧ FBlk W' g (ovr l off [c]) ∧ W.grownBy W' (some g) := by
  have hr := run_copy_string (P := Tryz.prog) W 52 9 ty 5 g off D c2 (ba [c]) Tryz.underlying52 size1Byte (by rw [ba_size]; simp; omega) (fun j hj => by rw [ba_size] at hj; simp at hj; rw [h.cell _ (by omega)]; rfl) (fun j hj => by rw [ba_size] at hj; simp at hj; exact h.open _ (by omega))
  exact ⟨_, hr, h.over [c] off (by simp; omega), grown_cells _ _ _ _⟩
end Go.Proofs.YtkolhbacgoafcaaGreat

/- Rows of int that lie in memory: their cells, and such a row that came in as an argument; no conditions. -/
namespace Go.Proofs.YtkolhbacgoafcaaGreat
open Go.ChangeShapes Go.WideShapes Go.ChangeAt Go.RowKit
set_option linter.unusedVariables false

/-- Rows of int. -/
def kInt : Kind Int := ⟨1, fun z => [.int .i64 z], fun _ => rfl, by intro a u hu; simp at hu; subst hu; rfl, by decide⟩
theorem kInt_flat (zs : List Int) : kInt.flat zs = zs.map (Value.int .i64) := by
  induction zs with
  | nil => rfl
  | cons a l ih => simp only [Kind.flat, List.flatMap_cons, List.map_cons] at ih ⊢; rw [ih]; rfl
theorem infoInt : (Tryz.prog.info? 3).map (fun i => (i.zero, i.size, i.bytes)) = some (some (.int .i64 0), 1, 8) := by kernel_rfl
theorem info_of {T : TypeId} {z : Value} {m b : Nat} (h : (Tryz.prog.info? T).map (fun i => (i.zero, i.size, i.bytes)) = some (some z, m, b)) : ∃ i, Tryz.prog.info? T = some i ∧ i.zero = some z ∧ i.size = m ∧ i.bytes = b := by
  cases hi : Tryz.prog.info? T with
  | none => rw [hi] at h; cases h
  | some i =>
    rw [hi] at h
    simp only [Option.map_some, Option.some.injEq, Prod.mk.injEq] at h
    exact ⟨i, rfl, h.1, h.2.1, h.2.2⟩
theorem kInt_at {n₀ : Nat} {W : World} {ad : Option Addr} {len cap : Nat} {zs : List Int} (h : kInt.Lies n₀ W (.slice ad len cap) zs) (j : Nat) (hj : j < zs.length) : ∃ b off : Nat, ad = some ⟨b, off, none⟩ ∧ b < n₀ ∧ W.cell? ⟨b, off + j, none⟩ = some (.int .i64 zs[j]) := by
  obtain ⟨b, off, he, hb, hc⟩ := h.at j hj
  refine ⟨b, off, he, hb, ?_⟩
  have := hc 0 (by decide)
  simpa [kInt] using this
section
variable {H : Type} {enc : TypeId × Value → H} {w : World} {base : Nat} {spare : Nat → Bool} {held : Bool}
theorem dec_int (n : Nat) (cs : List Value) (y : DataW H × List MemPlace) (hl : cs.length = kInt.k) (h : DataW.trod enc Tryz.prog w base spare held n 3 cs = some y) : ∃ a, cs = kInt.enc a := by
  obtain ⟨c0, rfl⟩ : ∃ c0, cs = [c0] := by
    have h2 : cs.length = 1 := hl
    match cs, h2 with
    | [c0], _ => exact ⟨c0, rfl⟩
  obtain ⟨x0, h0, _, w0⟩ := DataW.trod_int Tryz.underlying3 h
  exact ⟨x0, h0⟩
set_option maxRecDepth 100000 in
theorem open_kints {r : Reach} {b0 : Nat} {v : Value} {dt : DataW H} {ps : List MemPlace} (hv : Value.okWide Tryz.prog w r b0 22 v) (h : DataW.Trod enc Tryz.prog w base spare held 22 v dt ps) :
    ∃ (ad : Option Addr) (cap : Nat) (es : List Int), v = .slice ad es.length cap ∧ es.length ≤ 9223372036854775807 ∧ kInt.Lies w.heap.size w (.slice ad es.length cap) es :=
  kInt.open_arg Tryz.underlying22 (by kernel_rfl) dec_int hv h
end
end Go.Proofs.YtkolhbacgoafcaaGreat

/- Plain mathematics of votes: how many there are of each, what both exchanges make of them; no conditions. -/
namespace Go.Proofs.YtkolhbacgoafcaaGreat
open Go.ChangeShapes Go.WideShapes Go.ChangeAt Go.RowKit
set_option linter.unusedVariables false

/-- How many of a row are v. -/
def cntL (v : Int) (zs : List Int) : Nat := zs.countP (fun z => decide (z = v))
/-- How many votes are v. -/
def cntF (v : Int) (zs : List Int) : Int := if 0 ≤ v ∧ v < 3 then (cntL v zs : Int) else 0
theorem cntF_in {v : Int} (h1 : 0 ≤ v) (h2 : v < 3) (zs : List Int) : cntF v zs = (cntL v zs : Int) := if_pos ⟨h1, h2⟩
theorem cntF_out {v : Int} (h : ¬ (0 ≤ v ∧ v < 3)) (zs : List Int) : cntF v zs = 0 := if_neg h
theorem cntL_nil (v : Int) : cntL v [] = 0 := rfl
theorem cntL_snoc (v : Int) (zs : List Int) (z : Int) : cntL v (zs ++ [z]) = cntL v zs + if z = v then 1 else 0 := by
  unfold cntL
  rw [List.countP_append, List.countP_singleton]
  by_cases h : z = v
  · rw [if_pos h, if_pos (decide_eq_true h)]
  · rw [if_neg h, if_neg (by simp [h])]
theorem cntL_le (v : Int) (zs : List Int) : cntL v zs ≤ zs.length := List.countP_le_length
theorem cntF_bd (v : Int) (zs : List Int) : 0 ≤ cntF v zs ∧ cntF v zs ≤ (zs.length : Int) := by
  have h := cntL_le v zs
  unfold cntF
  split <;> omega
theorem take_snocV (zs : List Int) {k : Nat} (hk : k < zs.length) : zs.take (k + 1) = zs.take k ++ [zs[k]] := by rw [List.take_add_one]; simp [hk]
/-- Whether there are a quorum. -/
def enoughB (E n f v : Int) (zs : List Int) : Bool := decide (E = 0 ∧ n - f ≤ cntF v zs)
theorem enoughB_no {E : Int} (h : ¬ E = 0) (n f v : Int) (zs : List Int) : enoughB E n f v zs = false := decide_eq_false fun k => h k.1
theorem enoughB_ok {E : Int} (h : E = 0) (n f v : Int) (zs : List Int) : enoughB E n f v zs = decide (n - f ≤ cntF v zs) := by
  unfold enoughB
  simp [h]
/-- What the first exchange makes of votes. -/
def mostF (E n f : Int) (zs : List Int) : Int := if E = 0 then (if n - f ≤ (cntL 1 zs : Int) then 1 else if n - f ≤ (cntL 0 zs : Int) then 0 else 2) else 2
/-- What the second exchange makes of them. -/
def leastF (E f now : Int) (zs : List Int) : Int := if E = 0 then (if f + 1 ≤ (cntL 0 zs : Int) then 0 else if f + 1 ≤ (cntL 1 zs : Int) then 1 else if f + 1 ≤ (cntL 2 zs : Int) then 2 else now) else now
theorem mostF_no {E : Int} (h : ¬ E = 0) (n f : Int) (zs : List Int) : mostF E n f zs = 2 := if_neg h
theorem mostF_1 {E : Int} (h : E = 0) {n f : Int} {zs : List Int} (h1 : n - f ≤ (cntL 1 zs : Int)) : mostF E n f zs = 1 := (if_pos h).trans (if_pos h1)
theorem mostF_0 {E : Int} (h : E = 0) {n f : Int} {zs : List Int} (h1 : ¬ n - f ≤ (cntL 1 zs : Int)) (h2 : n - f ≤ (cntL 0 zs : Int)) : mostF E n f zs = 0 := (if_pos h).trans ((if_neg h1).trans (if_pos h2))
theorem mostF_2 {E : Int} (h : E = 0) {n f : Int} {zs : List Int} (h1 : ¬ n - f ≤ (cntL 1 zs : Int)) (h2 : ¬ n - f ≤ (cntL 0 zs : Int)) : mostF E n f zs = 2 := (if_pos h).trans ((if_neg h1).trans (if_neg h2))
theorem leastF_no {E : Int} (h : ¬ E = 0) (f now : Int) (zs : List Int) : leastF E f now zs = now := if_neg h
theorem leastF_0 {E : Int} (h : E = 0) {f now : Int} {zs : List Int} (h0 : f + 1 ≤ (cntL 0 zs : Int)) : leastF E f now zs = 0 := (if_pos h).trans (if_pos h0)
theorem leastF_1 {E : Int} (h : E = 0) {f now : Int} {zs : List Int} (h0 : ¬ f + 1 ≤ (cntL 0 zs : Int)) (h1 : f + 1 ≤ (cntL 1 zs : Int)) : leastF E f now zs = 1 := (if_pos h).trans ((if_neg h0).trans (if_pos h1))
theorem leastF_2 {E : Int} (h : E = 0) {f now : Int} {zs : List Int} (h0 : ¬ f + 1 ≤ (cntL 0 zs : Int)) (h1 : ¬ f + 1 ≤ (cntL 1 zs : Int)) (h2 : f + 1 ≤ (cntL 2 zs : Int)) : leastF E f now zs = 2 := (if_pos h).trans ((if_neg h0).trans ((if_neg h1).trans (if_pos h2)))
theorem leastF_n {E : Int} (h : E = 0) {f now : Int} {zs : List Int} (h0 : ¬ f + 1 ≤ (cntL 0 zs : Int)) (h1 : ¬ f + 1 ≤ (cntL 1 zs : Int)) (h2 : ¬ f + 1 ≤ (cntL 2 zs : Int)) : leastF E f now zs = now := (if_pos h).trans ((if_neg h0).trans ((if_neg h1).trans (if_neg h2)))
/-- A vote. -/
def voteB (v : Int) : Bool := decide (0 ≤ v ∧ v < 3)
theorem voteB_yes {v : Int} (h1 : 0 ≤ v) (h2 : v < 3) : voteB v = true := decide_eq_true ⟨h1, h2⟩
theorem voteB_no {v : Int} (h : ¬ (0 ≤ v ∧ v < 3)) : voteB v = false := decide_eq_false h
end Go.Proofs.YtkolhbacgoafcaaGreat

/- Plain mathematics of bits that are agreed on by kings: a bit at first, behind an exchange, its number; a whole instance; no conditions. -/
namespace Go.Proofs.YtkolhbacgoafcaaGreat
open Go.ChangeShapes Go.WideShapes Go.ChangeAt Go.RowKit
set_option linter.unusedVariables false

/-- A row of bits: two cells each. -/
def kBit : Kind (Int × Bool) := ⟨2, fun b => [.int .i64 b.1, .bool b.2], fun _ => rfl, by intro a u hu; simp at hu; rcases hu with rfl | rfl <;> rfl, by decide⟩
/-- A bit as a value. -/
def agB (b : Int × Bool) : Value := .agg #[.int .i64 b.1, .bool b.2]
def startF (b : Int) : Int × Bool := if b = 1 then (1, false) else (0, false)
def valF (b : Int × Bool) : Int := if b.1 < 0 then 2 else if 3 ≤ b.1 then 2 else b.1
def obeyF (b : Int × Bool) (k : Int) : Int × Bool := if valF b ≠ 2 ∧ b.2 = true then (valF b, false) else if k = 1 ∨ k = 2 then (1, false) else (0, false)
def stepF (E n f x : Int) (b : Int × Bool) (k : Int) (vs : List Int) : Int × Bool :=
  if modF x 3 = 0 then (mostF E n f vs, false) else if modF x 3 = 1 then (leastF E f (valF b) vs, enoughB E n f (leastF E f (valF b) vs) vs) else obeyF b k
def codeF (b : Int × Bool) : Int := if b.2 = true then 3 + valF b else valF b
def readK (c : Int) : Int × Bool := if c < 0 ∨ 6 ≤ c then (2, false) else (c.tmod 3, decide (3 ≤ c))
theorem valF_bd (b : Int × Bool) : 0 ≤ valF b ∧ valF b ≤ 2 := by unfold valF; repeat' split <;> omega
theorem valF_same {b : Int × Bool} (h : 0 ≤ b.1 ∧ b.1 ≤ 2) : valF b = b.1 := by unfold valF; rw [if_neg (by omega), if_neg (by omega)]
theorem valF_lo {b : Int × Bool} (h : b.1 < 0) : valF b = 2 := if_pos h
theorem valF_hi {b : Int × Bool} (h : ¬ b.1 < 0) (h2 : 3 ≤ b.1) : valF b = 2 := (if_neg h).trans (if_pos h2)
theorem valF_in {b : Int × Bool} (h : ¬ b.1 < 0) (h2 : ¬ 3 ≤ b.1) : valF b = b.1 := (if_neg h).trans (if_neg h2)
theorem modF3 (x : Int) : 0 ≤ modF x 3 ∧ modF x 3 ≤ 2 := by
  unfold modF
  rw [if_neg (by decide)]
  have h1 := Int.tmod_lt_of_pos x (b := 3) (by decide)
  have h2 := Int.lt_tmod_of_pos x (b := 3) (by decide)
  split <;> omega
theorem modF3_nat (x : Nat) : modF (x : Int) 3 = ((x % 3 : Nat) : Int) := by
  unfold modF
  have e : ((x : Int)).tmod 3 = ((x % 3 : Nat) : Int) := by rw [Int.tmod_eq_emod_of_nonneg (by omega)]; omega
  rw [if_neg (by decide), e, if_neg (by omega)]
theorem stepF_0 {E n f x : Int} {b : Int × Bool} {k : Int} {vs : List Int} (h : modF x 3 = 0) : stepF E n f x b k vs = (mostF E n f vs, false) := if_pos h
theorem stepF_1 {E n f x : Int} {b : Int × Bool} {k : Int} {vs : List Int} (h : modF x 3 = 1) : stepF E n f x b k vs = (leastF E f (valF b) vs, enoughB E n f (leastF E f (valF b) vs) vs) := (if_neg (by omega)).trans (if_pos h)
theorem stepF_2 {E n f x : Int} {b : Int × Bool} {k : Int} {vs : List Int} (h : modF x 3 = 2) : stepF E n f x b k vs = obeyF b k := (if_neg (by omega)).trans (if_neg (by omega))
theorem obeyF_s {b : Int × Bool} {k : Int} (h : valF b ≠ 2) (h2 : b.2 = true) : obeyF b k = (valF b, false) := if_pos ⟨h, h2⟩
theorem obeyF_1 {b : Int × Bool} {k : Int} (h : ¬ (valF b ≠ 2 ∧ b.2 = true)) (h2 : k = 1 ∨ k = 2) : obeyF b k = (1, false) := (if_neg h).trans (if_pos h2)
theorem obeyF_0 {b : Int × Bool} {k : Int} (h : ¬ (valF b ≠ 2 ∧ b.2 = true)) (h2 : ¬ (k = 1 ∨ k = 2)) : obeyF b k = (0, false) := (if_neg h).trans (if_neg h2)
/-- What a lie is: those of one place after another, round and round. -/
def lieF (lies : List Int) (N x a t : Nat) : Int := if lies.length = 0 then -1 else lies.getD (((x * N + a) * N + t) % lies.length) 0
/-- What a node tells another one. -/
def sayF (fa : Nat → Bool) (lies : List Int) (N x t : Nat) (bs : List (Int × Bool)) (a : Nat) : Int := if fa a = true then lieF lies N x a t else valF (bs.getD a (0, false))
def votesL (fa : Nat → Bool) (lies : List Int) (N x t : Nat) (bs : List (Int × Bool)) : List Int := (List.range N).map (sayF fa lies N x t bs)
def stepN (fa : Nat → Bool) (lies : List Int) (N : Nat) (f : Int) (x : Nat) (bs : List (Int × Bool)) (t : Nat) : Int × Bool := stepF 0 N f x (bs.getD t (0, false)) ((votesL fa lies N x t bs).getD (x / 3) 0) (votesL fa lies N x t bs)
def exchL (fa : Nat → Bool) (lies : List Int) (N : Nat) (f : Int) (x : Nat) (bs : List (Int × Bool)) : List (Int × Bool) := (List.range N).map (stepN fa lies N f x bs)
def startL (N : Nat) (bits : List Int) : List (Int × Bool) := (List.range N).map fun i => startF (bits.getD i 0)
def playL (fa : Nat → Bool) (lies : List Int) (N : Nat) (f : Int) (bits : List Int) : Nat → List (Int × Bool)
  | 0 => startL N bits
  | x + 1 => exchL fa lies N f x (playL fa lies N f bits x)
def endN (fa : Nat → Bool) (bs : List (Int × Bool)) (i : Nat) : Int := if fa i = true then -1 else valF (bs.getD i (0, false))
def endsL (fa : Nat → Bool) (N : Nat) (bs : List (Int × Bool)) : List Int := (List.range N).map (endN fa bs)
/-- A row that is filled up to k. -/
def fillL {α : Type} (z : α) (N : Nat) (g : Nat → α) (k : Nat) : List α := (List.range N).map fun j => if j < k then g j else z
theorem fillL_len {α : Type} (z : α) (N : Nat) (g : Nat → α) (k : Nat) : (fillL z N g k).length = N := by simp [fillL]
theorem fillL_0 {α : Type} (z : α) (N : Nat) (g : Nat → α) : fillL z N g 0 = List.replicate N z := by
  apply List.ext_getElem <;> simp [fillL]
theorem fillL_all {α : Type} (z : α) (N : Nat) (g : Nat → α) : fillL z N g N = (List.range N).map g := by
  apply List.ext_getElem
  · simp [fillL]
  · intro i h1 h2
    simp [fillL] at h1 ⊢
    intro h; omega
theorem fillL_set {α : Type} (z : α) (N : Nat) (g : Nat → α) (k : Nat) (hk : k < N) : (fillL z N g k).set k (g k) = fillL z N g (k + 1) := by
  apply List.ext_getElem
  · simp [fillL]
  · intro i h1 h2
    rw [List.getElem_set]
    simp only [fillL, List.getElem_map, List.getElem_range]
    by_cases e : k = i
    · subst e; rw [if_pos rfl, if_pos (by omega)]
    · rw [if_neg e]
      by_cases h : i < k
      · rw [if_pos h, if_pos (by omega)]
      · rw [if_neg h, if_neg (by omega)]
theorem votesL_len (fa : Nat → Bool) (lies : List Int) (N x t : Nat) (bs : List (Int × Bool)) : (votesL fa lies N x t bs).length = N := by simp [votesL]
theorem exchL_len (fa : Nat → Bool) (lies : List Int) (N : Nat) (f : Int) (x : Nat) (bs : List (Int × Bool)) : (exchL fa lies N f x bs).length = N := by simp [exchL]
theorem playL_len (fa : Nat → Bool) (lies : List Int) (N : Nat) (f : Int) (bits : List Int) (x : Nat) : (playL fa lies N f bits x).length = N := by
  cases x <;> simp [playL, startL, exchL]
theorem range_getD {α : Type} (z : α) (N : Nat) (g : Nat → α) (i : Nat) (hi : i < N) : ((List.range N).map g).getD i z = g i := by simp [hi]
end Go.Proofs.YtkolhbacgoafcaaGreat

/- Rows of numbers as blocks of memory: how they are made, read and written; no conditions. -/
namespace Go.Proofs.YtkolhbacgoafcaaGreat
open Go.ChangeShapes Go.WideShapes Go.ChangeAt Go.RowKit
set_option linter.unusedVariables false

theorem kInt_set (l : List Int) (i : Nat) (v : Int) : (kInt.flat l).set i (.int .i64 v) = kInt.flat (l.set i v) := by
  rw [kInt_flat, kInt_flat, List.map_set]
theorem kInt_get (l : List Int) (i : Nat) (hi : i < l.length) : (kInt.flat l)[i]? = some (.int .i64 (l.getD i 0)) := by
  rw [kInt_flat]; simp [hi]
/-- A row of numbers that is a block of its own. -/
def IBlk (W : World) (g : Nat) (l : List Int) : Prop := W.heap[g]? = some (.cells (kInt.flat l).toArray 3 (0, 0))
theorem IBlk.lt {W : World} {g : Nat} {l : List Int} (h : IBlk W g l) : g < W.heap.size := blk_lt h
theorem IBlk.later {W W' : World} {g : Nat} {l : List Int} (h : IBlk W g l) (hb : Below W.heap.size W W') : IBlk W' g l := blk_later h hb
theorem IBlk.open {W : World} {g : Nat} {l : List Int} (h : IBlk W g l) (i : Nat) : W.frozen? ⟨g, i, none⟩ = false := blk_frozen h i
theorem IBlk.cell {W : World} {g : Nat} {l : List Int} (h : IBlk W g l) (i : Nat) (hi : i < l.length) : W.cell? ⟨g, i, none⟩ = some (.int .i64 (l.getD i 0)) := by
  rw [blk_cell h i, List.getElem?_toArray, kInt_get l i hi]
theorem IBlk.set {W : World} {g : Nat} {l : List Int} (h : IBlk W g l) (i : Nat) (v : Int) : IBlk (W.setCell ⟨g, i, none⟩ (.int .i64 v)) g (l.set i v) := by
  have := heap_setCell_same W g i _ _ (.int .i64 v) h
  rw [List.setIfInBounds_toArray, kInt_set] at this
  exact this
theorem blk_other {W : World} {g : Nat} {o : Obj} (h : W.heap[g]? = some o) (a : Addr) (v : Value) (ha : g ≠ a.block) : (W.setCell a v).heap[g]? = some o := (heap_setCell_other W a g v ha).trans h
theorem IBlk.lies {W : World} {g : Nat} {l : List Int} (h : IBlk W g l) (hl : l.length ≤ maxLen) : kInt.Lies W.heap.size W (.slice (some ⟨g, 0, none⟩) l.length l.length) l := Kind.Lies.of_block h hl
theorem made_ints (n : Nat) : madeCells #[.int .i64 0] n = (kInt.flat (List.replicate n 0)).toArray := by
  apply Array.ext'
  rw [toList_madeCells_one, kInt_flat]
  simp
theorem make_ints {n : Int} (N : Nat) (e : n = (N : Int)) (hn : N ≤ 100000) (w : World) : (Instr.makeSlice 22 (.int .i64 n) (.int .i64 n)).run Tryz.prog w = .ok (.slice (some ⟨w.heap.size, 0, none⟩) N N) (w.alloc (.cells (kInt.flat (List.replicate N 0)).toArray 3)) := by
  subst e
  rw [← made_ints]
  exact run_make_row' 22 3 (.int .i64 0) 8 Tryz.underlying22 infoInt rfl .i64 .i64 N (by omega) (by omega) w
end Go.Proofs.YtkolhbacgoafcaaGreat

/- Plain mathematics of texts of digits: the digit at a place, the text of so many digits, codes and what is told of them, a step of each; no conditions. -/
namespace Go.Proofs.YtkolhbacgoafcaaGreat
open Go.ChangeShapes Go.WideShapes Go.ChangeAt Go.RowKit
set_option linter.unusedVariables false

/-- The digit at a place of a text, up to the last one; else -1. -/
def vdg (last : Int) (s : ByteArray) (k : Nat) : Int := if h : k < s.size then (if ((s[k]'h).toNat : Int) < 48 ∨ last + 48 < ((s[k]'h).toNat : Int) then -1 else ((s[k]'h).toNat : Int) - 48) else -1
theorem vdg_out {last : Int} {s : ByteArray} {k : Nat} (h : s.size ≤ k) : vdg last s k = -1 := dif_neg (by omega)
theorem vdg_no {last : Int} {s : ByteArray} {k : Nat} (h : k < s.size) (h2 : ((s[k]'h).toNat : Int) < 48 ∨ last + 48 < ((s[k]'h).toNat : Int)) : vdg last s k = -1 := (dif_pos h).trans (if_pos h2)
theorem vdg_in {last : Int} {s : ByteArray} {k : Nat} (h : k < s.size) (h1 : ¬ ((s[k]'h).toNat : Int) < 48) (h2 : ¬ last + 48 < ((s[k]'h).toNat : Int)) : vdg last s k = ((s[k]'h).toNat : Int) - 48 := (dif_pos h).trans (if_neg (by omega))
theorem vdg_bd {last : Int} (hl : 0 ≤ last) (s : ByteArray) (k : Nat) : -1 ≤ vdg last s k ∧ vdg last s k ≤ last := by
  unfold vdg
  split
  · split <;> omega
  · omega
/-- A text of so many digits. -/
def dgL (n : Nat) (g : Nat → Nat) : List UInt8 := (List.range n).map fun k => UInt8.ofNat (48 + g k)
def dgB (n : Nat) (g : Nat → Nat) : ByteArray := ba (dgL n g)
theorem dgL_len (n : Nat) (g : Nat → Nat) : (dgL n g).length = n := by simp [dgL]
theorem dgB_size (n : Nat) (g : Nat → Nat) : (dgB n g).size = n := by rw [dgB, ba_size, dgL_len]
theorem dgB_0 (g : Nat → Nat) : dgB 0 g = noB := rfl
theorem dgB_s (n : Nat) (g : Nat → Nat) : dgB (n + 1) g = dgB n g ++ ba [UInt8.ofNat (48 + g n)] := by
  unfold dgB
  rw [ba_append]
  simp [dgL, List.range_succ]
theorem dgB_byte (n : Nat) (g : Nat → Nat) (k : Nat) (hk : k < n) (hg : g k ≤ 9) (h : k < (dgB n g).size) : ((dgB n g)[k]'h).toNat = 48 + g k := by
  have e : (dgB n g)[k]'h = UInt8.ofNat (48 + g k) := by
    show (dgL n g).toArray[k]'_ = _
    simp [dgL]
  rw [e, UInt8.toNat_ofNat_of_lt' (by simp [UInt8.size]; omega)]
theorem vdg_dgB {last : Int} {n : Nat} {g : Nat → Nat} {k : Nat} (hk : k < n) (hg : g k ≤ 9) (hl : (g k : Int) ≤ last) : vdg last (dgB n g) k = g k := by
  have hs : k < (dgB n g).size := by rw [dgB_size]; exact hk
  have e := dgB_byte n g k hk hg hs
  rw [vdg_in hs (by omega) (by omega), e]
  omega
theorem dgB_congr {n : Nat} {g h : Nat → Nat} (e : ∀ k, k < n → g k = h k) : dgB n g = dgB n h := by
  unfold dgB dgL
  congr 1
  apply List.map_congr_left
  intro k hk
  rw [e k (List.mem_range.1 hk)]
theorem codeF_bd (b : Int × Bool) : 0 ≤ codeF b ∧ codeF b ≤ 5 := by
  have := valF_bd b
  unfold codeF
  split <;> omega
theorem readK_bd (c : Int) : 0 ≤ (readK c).1 ∧ (readK c).1 ≤ 2 := by
  unfold readK
  split
  · exact ⟨by decide, by decide⟩
  · have h1 := Int.tmod_lt_of_pos c (b := 3) (by decide)
    have h2 := Int.tmod_nonneg (a := c) 3 (by omega)
    exact ⟨h2, by simp only; omega⟩
/-- What a bit is read of the code at a place; what is told of it; what code a bit has at first; behind a step. -/
def bitK (s : ByteArray) (k : Nat) : Int × Bool := readK (vdg 5 s k)
def valG (s : ByteArray) (k : Nat) : Nat := (bitK s k).1.toNat
def ofG (s : ByteArray) (k : Nat) : Nat := (codeF (startF (vdg 1 s k))).toNat
def stpB (E n f x : Int) (codes told : ByteArray) (votes : List ByteArray) (k : Nat) : Int × Bool := stepF E n f x (bitK codes k) (vdg 2 told k) (votes.map fun t => vdg 2 t k)
def stpG (E n f x : Int) (codes told : ByteArray) (votes : List ByteArray) (k : Nat) : Nat := (codeF (stpB E n f x codes told votes k)).toNat
theorem valG_bd (s : ByteArray) (k : Nat) : valG s k ≤ 2 := by have := readK_bd (vdg 5 s k); unfold valG bitK; omega
theorem valG_int (s : ByteArray) (k : Nat) : (valG s k : Int) = (bitK s k).1 := by have := readK_bd (vdg 5 s k); unfold valG bitK; omega
theorem ofG_bd (s : ByteArray) (k : Nat) : ofG s k ≤ 5 := by have := codeF_bd (startF (vdg 1 s k)); unfold ofG; omega
theorem ofG_int (s : ByteArray) (k : Nat) : (ofG s k : Int) = codeF (startF (vdg 1 s k)) := by have := codeF_bd (startF (vdg 1 s k)); unfold ofG; omega
theorem stpG_bd (E n f x : Int) (codes told : ByteArray) (votes : List ByteArray) (k : Nat) : stpG E n f x codes told votes k ≤ 5 := by have := codeF_bd (stpB E n f x codes told votes k); unfold stpG; omega
theorem stpG_int (E n f x : Int) (codes told : ByteArray) (votes : List ByteArray) (k : Nat) : (stpG E n f x codes told votes k : Int) = codeF (stpB E n f x codes told votes k) := by have := codeF_bd (stpB E n f x codes told votes k); unfold stpG; omega
end Go.Proofs.YtkolhbacgoafcaaGreat

/- The calls isVote, counted, Count, Quorum, Some, Enough, Most and Least of package tally return what plain functions give, and make at most new memory; conditions: the table and the votes lie where they say, and lengths fit int. -/
namespace Go.Proofs.YtkolhbacgoafcaaGreat
open Go.ChangeShapes Go.WideShapes Go.ChangeAt Go.RowKit
set_option linter.unusedVariables false

theorem isVote_any (v : Int) (w : World) :
    Calls Tryz.prog 112 #[.int .i64 v] w fun e w' => e = .returned (.bool (voteB v)) ∧ w = w' := by
  by_cases h : 0 ≤ v ∧ v < 3
  · have e := voteB_yes h.1 h.2
    obtain ⟨h1, h2⟩ := h
    have i1 : decide (v < 3) = true := by simp [h2]
    have i2 : decide (0 ≤ v) = true := by simp [h1]
    rw [e]; clear e
    go_enter Tryz.func112, Tryz.ntmps112
    go_wp2
    go_ret
    exact ⟨rfl, rfl⟩
  · have e := voteB_no h
    rw [e]; clear e
    by_cases h1 : 0 ≤ v
    · have i2 : decide (0 ≤ v) = true := by simp [h1]
      have i1 : decide (v < 3) = false := by simp; omega
      clear h
      go_enter Tryz.func112, Tryz.ntmps112
      go_wp2
      go_ret
      exact ⟨rfl, rfl⟩
    · have i2 : decide (0 ≤ v) = false := by simp; omega
      clear h
      go_enter Tryz.func112, Tryz.ntmps112
      go_wp2
      go_ret
      exact ⟨rfl, rfl⟩

set_option maxHeartbeats 2000000 in
theorem counted_any (ad : Option Addr) (len cap : Nat) (zs : List Int) (hlz : zs.length ≤ 9223372036854775807) (w : World) (hZ : kInt.Lies w.heap.size w (.slice ad len cap) zs) :
    Calls Tryz.prog 109 #[.slice ad len cap] w fun e w' => e = .returned (.agg #[.int .i64 (cntL 0 zs : Int), .int .i64 (cntL 1 zs : Int), .int .i64 (cntL 2 zs : Int)]) ∧ Below w.heap.size w w' := by
  obtain rfl := hZ.len
  go_enter Tryz.func109, Tryz.ntmps109
  go_wp2
  go_loopw [8] (fun i wr => ∃ k : Nat, k ≤ zs.length ∧ i = .int .i64 k ∧ wr = (w.alloc (.cells #[.int .i64 0, .int .i64 0, .int .i64 0] 135)).alloc (.cells #[.int .i64 (cntL 0 (zs.take k) : Int), .int .i64 (cntL 1 (zs.take k) : Int), .int .i64 (cntL 2 (zs.take k) : Int)] 135)) (fun i _ => zs.length - (intV i).toNat)
  case atStart => exact ⟨0, Nat.zero_le _, rfl, rfl⟩
  case round =>
    obtain ⟨k, hk, rfl, rfl⟩ := hrel
    by_cases hlt : k < zs.length
    · obtain ⟨b, off, rfl, hbl, e0⟩ := kInt_at hZ k hlt
      have f0 : ∀ o1 o2, ((w.alloc o1).alloc o2).cell? ⟨b, off + k, none⟩ = some (.int .i64 zs[k]) := fun o1 o2 => ((((Below.refl _ w).alloc (Nat.le_refl _) o1).alloc (by simp) o2).cell (p := ⟨b, off + k, none⟩) hbl).trans e0
      have hsn := fun v => cntL_snoc v (zs.take k) zs[k]
      rw [← take_snocV zs hlt] at hsn
      have hle := fun v => cntL_le v (zs.take k)
      rw [List.length_take, Nat.min_eq_left hk] at hle
      have l0 := hle 0
      have l1 := hle 1
      have l2 := hle 2
      have s0 := hsn 0
      have s1 := hsn 1
      have s2 := hsn 2
      clear hsn hle
      generalize zs[k] = z at f0 s0 s1 s2
      generalize cntL 0 (zs.take k) = c0 at *
      generalize cntL 1 (zs.take k) = c1 at *
      generalize cntL 2 (zs.take k) = c2 at *
      have HS0 := hidden s0
      have HS1 := hidden s1
      have HS2 := hidden s2
      have i1 : (0 : Int) ≤ (k : Int) := by omega
      have i2 : (k : Int) < (zs.length : Int) := by omega
      clear s0 s1 s2 e0 hZ
      by_cases hz : 0 ≤ z ∧ z < 3
      · have HV := hidden (voteB_yes hz.1 hz.2)
        have hz6 : z = 0 ∨ z = 1 ∨ z = 2 := by omega
        clear hz
        rcases hz6 with rfl | rfl | rfl
        all_goals
          go_wp2_with (go_at_call 112; refine (isVote_any _ _).mono ?_; rintro e w' ⟨rfl, rfl⟩; rw [HV.out])
          go_roundw
          case rel => exact ⟨k + 1, by omega, by go_num, by rw [HS0.out, HS1.out, HS2.out]; rfl⟩
          case measure => simp [intV]; omega
      · have HV := hidden (voteB_no hz)
        have HZ := hidden hz
        clear hz
        go_wp2_with (go_at_call 112; refine (isVote_any _ _).mono ?_; rintro e w' ⟨rfl, rfl⟩; rw [HV.out])
        go_roundw
        case rel => exact ⟨k + 1, by omega, by go_num, by rw [HS0.out, HS1.out, HS2.out, if_neg (by have := HZ.out; omega), if_neg (by have := HZ.out; omega), if_neg (by have := HZ.out; omega)]; rfl⟩
        case measure => simp [intV]; omega
    · obtain rfl : k = zs.length := by omega
      rw [List.take_length]
      go_wp2
      exact bodyPost_ret (v := .agg #[.int .i64 (cntL 0 zs : Int), .int .i64 (cntL 1 zs : Int), .int .i64 (cntL 2 zs : Int)]) (by simp [results, Tryz.results109, go_sem]) rfl ⟨rfl, (((Below.refl _ w).alloc (Nat.le_refl _) _).alloc (by simp) _)⟩

theorem idx3_0 (x y z : Value) (w : World) : (Instr.index 135 (.agg #[x, y, z]) (.int .i64 0)).run Tryz.prog w = .ok x w := by kernel_rfl
theorem idx3_1 (x y z : Value) (w : World) : (Instr.index 135 (.agg #[x, y, z]) (.int .i64 1)).run Tryz.prog w = .ok y w := by kernel_rfl
theorem idx3_2 (x y z : Value) (w : World) : (Instr.index 135 (.agg #[x, y, z]) (.int .i64 2)).run Tryz.prog w = .ok z w := by kernel_rfl
attribute [local go_sem] idx3_0 idx3_1 idx3_2 in
set_option maxHeartbeats 1000000 in
theorem TCount_any (v : Int) (ad : Option Addr) (len cap : Nat) (zs : List Int) (hlz : zs.length ≤ 9223372036854775807) (w : World) (hZ : kInt.Lies w.heap.size w (.slice ad len cap) zs) :
    Calls Tryz.prog 111 #[.int .i64 v, .slice ad len cap] w fun e w' => e = .returned (.int .i64 (cntF v zs)) ∧ Below w.heap.size w w' := by
  by_cases hz : 0 ≤ v ∧ v < 3
  · have HV := hidden (voteB_yes hz.1 hz.2)
    have hz6 : v = 0 ∨ v = 1 ∨ v = 2 := by omega
    have HC := hidden (cntF_in hz.1 hz.2 zs)
    clear hz
    rcases hz6 with rfl | rfl | rfl
    all_goals
      go_enter Tryz.func111, Tryz.ntmps111
      go_wp2_with fail
      refine (isVote_any _ _).mono ?_
      rintro e w' ⟨rfl, rfl⟩
      rw [HV.out]
      go_wp2_with fail
      refine (counted_any _ _ _ _ hlz _ hZ).mono ?_
      rintro e w2 ⟨rfl, hb⟩
      go_wp2
      go_ret
      exact ⟨ret_i HC.out.symm, hb⟩
  · have HV := hidden (voteB_no hz)
    have HC := hidden (cntF_out hz zs)
    clear hz
    go_enter Tryz.func111, Tryz.ntmps111
    go_wp2_with fail
    refine (isVote_any _ _).mono ?_
    rintro e w' ⟨rfl, rfl⟩
    rw [HV.out]
    go_wp2
    go_ret
    exact ⟨ret_i HC.out.symm, Below.refl _ _⟩
end Go.Proofs.YtkolhbacgoafcaaGreat
