/- Several texts of one's own in one: what each proves, and its conditions, is said ahead of it. -/
import Derived.Test.YtkolhbacgoafcaaBa
import Derived.Test.YtkolhbacgoafcaaBb

/- The calls eachOwns of package conf and owned of the document's answer tell whether each owner is a node and each node owns a slot; conditions: 4 to 13 nodes. -/
namespace Go.Proofs.Ytkolhbacgoafcaa
open Go.ChangeShapes Go.WideShapes Go.ChangeAt Go.RowKit
set_option linter.unusedVariables false
attribute [local go_sem] cell_rg

def ownsB (n : Int) (zs : List Int) : Bool := zs.all (fun z => decide (0 ≤ z ∧ z ≤ n - 1)) && (List.range n.toNat).all (fun j => decide ((j : Int) ∈ zs))
theorem ownsB_iff {n : Int} {zs : List Int} : ownsB n zs = true ↔ (∀ z ∈ zs, 0 ≤ z ∧ z ≤ n - 1) ∧ ∀ j : Nat, (j : Int) < n → (j : Int) ∈ zs := by
  unfold ownsB
  simp only [Bool.and_eq_true, List.all_eq_true, decide_eq_true_eq, List.mem_range]
  constructor
  · rintro ⟨h1, h2⟩
    exact ⟨h1, fun j hj => h2 j (by omega)⟩
  · rintro ⟨h1, h2⟩
    exact ⟨h1, fun j hj => h2 j (by omega)⟩
theorem ownsB_bad {n : Int} {zs : List Int} (k : Nat) (hk : k < zs.length) (h : ¬ (0 ≤ zs.getD k 0 ∧ zs.getD k 0 ≤ n - 1)) : ownsB n zs = false := by
  rw [← Bool.not_eq_true, ownsB_iff]
  rintro ⟨h1, _⟩
  refine h (h1 _ ?_)
  rw [List.getD_eq_getElem?_getD, List.getElem?_eq_getElem hk]
  exact List.getElem_mem hk
theorem ownsB_miss {n : Int} {zs : List Int} (j : Nat) (hj : (j : Int) < n) (h : ¬ (j : Int) ∈ zs) : ownsB n zs = false := by
  rw [← Bool.not_eq_true, ownsB_iff]
  rintro ⟨_, h2⟩
  exact h (h2 j hj)
theorem ownsB_yes {n : Int} {zs : List Int} (h1 : ∀ z ∈ zs, 0 ≤ z ∧ z ≤ n - 1) (h2 : ∀ j : Nat, (j : Int) < n → (j : Int) ∈ zs) : ownsB n zs = true := ownsB_iff.2 ⟨h1, h2⟩
theorem take_succ_getD {zs : List Int} (k : Nat) (hk : k < zs.length) : zs.take (k + 1) = zs.take k ++ [zs.getD k 0] := by
  rw [List.take_succ_eq_append_getElem hk, List.getD_eq_getElem?_getD, List.getElem?_eq_getElem hk]; rfl

theorem within_yes (x a b : Int) (w : World) (h1 : a ≤ x) (h2 : x ≤ b) :
    Calls Try.prog 45 #[.int .i64 x, .int .i64 a, .int .i64 b] w fun e w' => e = .returned (.bool true) ∧ w' = w := by
  go_enter Try.func45, Try.ntmps45
  go_wp2
  go_ret
  exact ⟨rfl, rfl⟩
theorem within_no (x a b : Int) (w : World) (h : ¬ (a ≤ x ∧ x ≤ b)) :
    Calls Try.prog 45 #[.int .i64 x, .int .i64 a, .int .i64 b] w fun e w' => e = .returned (.bool false) ∧ w' = w := by
  by_cases h1 : a ≤ x
  · have h2 : ¬ x ≤ b := fun h2 => h ⟨h1, h2⟩
    clear h
    have h2' : decide (x ≤ b) = false := by simp [h2]
    go_enter Try.func45, Try.ntmps45
    go_wp2
    go_ret
    exact ⟨rfl, rfl⟩
  · clear h
    have h1' : decide (a ≤ x) = false := by simp [h1]
    go_enter Try.func45, Try.ntmps45
    go_wp2
    go_ret
    exact ⟨rfl, rfl⟩

/-- The owners up to k hold node j. -/
def hasTo (zs : List Int) (k : Nat) (j : Nat) : Bool := decide ((j : Int) ∈ zs.take k)
theorem hasTo_zero (zs : List Int) (j : Nat) : hasTo zs 0 j = false := by simp [hasTo]
theorem hasTo_succ {zs : List Int} (k : Nat) (hk : k < zs.length) (j : Nat) : hasTo zs (k + 1) j = (hasTo zs k j || decide (zs.getD k 0 = (j : Int))) := by
  unfold hasTo
  rw [take_succ_getD k hk]
  by_cases h : (j : Int) ∈ zs.take k <;> simp only [List.mem_append, List.mem_singleton, h, decide_true, decide_false, Bool.true_or, Bool.false_or, true_or, false_or]
  exact decide_eq_decide.2 ⟨fun h => h.symm, fun h => h.symm⟩
theorem hasTo_all {zs : List Int} {j : Nat} : hasTo zs zs.length j = true ↔ (j : Int) ∈ zs := by simp [hasTo]

theorem all_succ {zs : List Int} {n : Int} (k : Nat) (hk : k < zs.length) (h : ∀ z ∈ zs.take k, 0 ≤ z ∧ z ≤ n - 1) (h1 : 0 ≤ zs.getD k 0) (h2 : zs.getD k 0 ≤ n - 1) : ∀ z ∈ zs.take (k + 1), 0 ≤ z ∧ z ≤ n - 1 := by
  intro z hz
  rw [take_succ_getD k hk, List.mem_append, List.mem_singleton] at hz
  rcases hz with hz | rfl
  · exact h z hz
  · exact ⟨h1, h2⟩
theorem bdrew {w W : World} (h : Below w.heap.size w W) (m : Nat) : Below w.heap.size w (W.drewN m) := bthen h (Joins.below_draws _ _ _)

set_option maxHeartbeats 1000000 in
theorem owned_any (n f d p r dr o sl md fr : Int) (ad : Option Addr) (cap : Nat) (zs : List Int) (w : World) (hn1 : 4 ≤ n) (hn2 : n ≤ 13) (hl : zs.length ≤ 9223372036854775807) (hT : Tab w ad zs) :
    Calls Try.prog 46 #[.agg #[.int .i64 n, .int .i64 f, .int .i64 d, .int .i64 p, .int .i64 r, .int .i64 dr, .int .i64 o, .int .i64 sl, .int .i64 md, .int .i64 fr, .slice ad zs.length cap]] w fun e w' => e = .returned (.bool (ownsB n zs)) ∧ Below w.heap.size w w' := by
  have hw1 : IntKind.i64.wrap (n - 1) = n - 1 := IntWalk.i64_in (n - 1) (by omega)
  have HT : Hid (Tab (w.alloc (.cells #[.int .i64 n, .int .i64 f, .int .i64 d, .int .i64 p, .int .i64 r, .int .i64 dr, .int .i64 o, .int .i64 sl, .int .i64 md, .int .i64 fr, .slice ad zs.length cap] 24)) ad zs) := hT.below (ballc _ _)
  clear hT
  go_enter Try.func46, Try.ntmps46
  go_wp2
  go_loopw [3] (fun i wl => ∃ k : Nat, k ≤ zs.length ∧ i = .int .i64 k ∧ (∀ z ∈ zs.take k, 0 ≤ z ∧ z ≤ n - 1) ∧ Below (w.alloc (.cells #[.int .i64 n, .int .i64 f, .int .i64 d, .int .i64 p, .int .i64 r, .int .i64 dr, .int .i64 o, .int .i64 sl, .int .i64 md, .int .i64 fr, .slice ad zs.length cap] 24)).heap.size (w.alloc (.cells #[.int .i64 n, .int .i64 f, .int .i64 d, .int .i64 p, .int .i64 r, .int .i64 dr, .int .i64 o, .int .i64 sl, .int .i64 md, .int .i64 fr, .slice ad zs.length cap] 24)) wl) (fun i _ => zs.length - (intOf i).toNat)
  case atStart => exact ⟨0, Nat.zero_le _, rfl, by simp, Below.refl _ _⟩
  case round =>
    obtain ⟨k, hk, rfl, hall, hb⟩ := hrel
    have HA : Hid (∀ z ∈ zs.take k, 0 ≤ z ∧ z ≤ n - 1) := hall
    have HB : Hid (Below (w.alloc (.cells #[.int .i64 n, .int .i64 f, .int .i64 d, .int .i64 p, .int .i64 r, .int .i64 dr, .int .i64 o, .int .i64 sl, .int .i64 md, .int .i64 fr, .slice ad zs.length cap] 24)).heap.size (w.alloc (.cells #[.int .i64 n, .int .i64 f, .int .i64 d, .int .i64 p, .int .i64 r, .int .i64 dr, .int .i64 o, .int .i64 sl, .int .i64 md, .int .i64 fr, .slice ad zs.length cap] 24)) wr) := hb
    obtain ⟨hbox, hsz⟩ := box_at hb
    clear hall hb
    by_cases hlt : k < zs.length
    · obtain ⟨a, rfl, hc, ha⟩ := (HT.out.below HB.out).lies k hlt
      generalize hzz : zs.getD k 0 = z at hc
      have HZ : Hid (zs.getD k 0 = z) := hzz
      clear hzz
      by_cases hz : 0 ≤ z ∧ z ≤ n - 1
      · have hq := fun v => Calls.to_belowR (within_yes z 0 (n - 1) v hz.1 hz.2)
        have HN : Hid (0 ≤ z ∧ z ≤ n - 1) := hz
        clear hz
        go_wp2
        refine wp_region_quiet_below (by kernel_rfl) (by kernel_rfl) ?_
        repeat (go_big_quiet_step (exact Calls.regrown_of (hq _)))
        refine wpQuiet_nil ?_
        intro w2 hw2
        have HB2 : Hid (Below wr.heap.size wr w2) := rg_below hw2
        clear hw2
        go_wp2
        go_roundw
        case rel => exact ⟨k + 1, by omega, by go_num, all_succ k hlt HA.out (by rw [HZ.out]; exact HN.out.1) (by rw [HZ.out]; exact HN.out.2), bthen HB.out HB2.out⟩
        case measure => simp [intOf]; omega
      · have hq := fun v => Calls.to_belowR (within_no z 0 (n - 1) v hz)
        have HN : Hid (¬ (0 ≤ z ∧ z ≤ n - 1)) := hz
        clear hz
        go_wp2
        refine wp_region_quiet_below (by kernel_rfl) (by kernel_rfl) ?_
        repeat (go_big_quiet_step (exact Calls.regrown_of (hq _)))
        refine wpQuiet_nil ?_
        intro w2 hw2
        have HB2 : Hid (Below wr.heap.size wr w2) := rg_below hw2
        clear hw2
        go_wp2
        go_ret
        exact ⟨ret_b (by rw [ownsB_bad k hlt (by rw [HZ.out]; exact HN.out)]), bthen (bthen (ballc _ _) HB.out) HB2.out⟩
    · have hk' : k = zs.length := by omega
      subst hk'
      clear hk hw1
      go_wp2
      go_loop [4] (fun i => ∃ j : Nat, (j : Int) ≤ n ∧ i = .int .i64 j ∧ (∀ t : Nat, t < j → (t : Int) ∈ zs)) (fun i => (n - intOf i).toNat)
      case atStart => exact ⟨0, by omega, rfl, by simp⟩
      case round =>
        obtain ⟨j, hj, rfl, hown⟩ := hrel
        have HO : Hid (∀ t : Nat, t < j → (t : Int) ∈ zs) := hown
        clear hown
        by_cases hjn : (j : Int) < n
        · go_wp2
          go_loop [5, 6] (fun h i => ∃ k : Nat, k ≤ zs.length ∧ i = .int .i64 k ∧ h = .bool (hasTo zs k j)) (fun _ i => zs.length - (intOf i).toNat)
          case atStart => exact ⟨0, Nat.zero_le _, rfl, by rw [hasTo_zero]⟩
          case round =>
            obtain ⟨k, hk, rfl, rfl⟩ := hrel
            by_cases hlt2 : k < zs.length
            · obtain ⟨a, rfl, hc, ha⟩ := (HT.out.below HB.out).lies k hlt2
              have HS := hasTo_succ k hlt2 j
              generalize hzz : zs.getD k 0 = z at hc HS
              clear hzz
              generalize hg : hasTo zs k j = hs at HS
              have HG : Hid (hasTo zs k j = hs) := hg
              clear hg
              have HS' : Hid (hasTo zs (k + 1) j = (hs || decide (z = (j : Int)))) := HS
              clear HS
              cases hs with
              | true =>
                go_wp2
                go_round
                case rel => exact ⟨k + 1, by omega, by go_num, by rw [HS'.out]; rfl⟩
                case measure => simp [intOf]; omega
              | false =>
                by_cases hzj : z = (j : Int)
                all_goals
                  go_wp2
                  go_round
                  case rel => exact ⟨k + 1, by omega, by go_num, by rw [HS'.out]; simp [hzj]⟩
                  case measure => simp [intOf]; omega
            · have hk' : k = zs.length := by omega
              subst hk'
              by_cases hh : hasTo zs zs.length j = true
              · have HJ : Hid ((j : Int) ∈ zs) := hasTo_all.1 hh
                go_wp2
                go_round
                case rel => exact ⟨j + 1, by omega, by go_num, fun t ht => by
                  by_cases e : t = j
                  · subst e; exact HJ.out
                  · exact HO.out t (by omega)⟩
                case measure => simp [intOf]; omega
              · have HJ : Hid (¬ (j : Int) ∈ zs) := fun h => hh (hasTo_all.2 h)
                have hh' : hasTo zs zs.length j = false := by simpa using hh
                clear hh
                go_wp2
                go_ret
                exact ⟨ret_b (by rw [ownsB_miss j hjn HJ.out]), bthen (ballc _ _) HB.out⟩
        · go_wp2
          go_ret
          exact ⟨ret_b (by rw [ownsB_yes (by simpa using HA.out) (fun t ht => HO.out t (by omega))]), bthen (ballc _ _) HB.out⟩
end Go.Proofs.Ytkolhbacgoafcaa

/- The call eachOwns of package conf tells whether each owner is a node and each node owns a slot; conditions: 4 to 13 nodes. -/
namespace Go.Proofs.Ytkolhbacgoafcaa
open Go.ChangeShapes Go.WideShapes Go.ChangeAt Go.RowKit
set_option linter.unusedVariables false

theorem hold_yes (a b x : Int) (w : World) (h1 : a ≤ x) (h2 : x ≤ b) :
    Calls Try.prog 86 #[.agg #[.int .i64 a, .int .i64 b], .int .i64 x] w fun e w' => e = .returned (.bool true) ∧ Below w.heap.size w w' :=
  (hold_any a b x w).mono fun e w' ⟨he, hb⟩ => ⟨by rw [he]; exact ret_b (decide_eq_true ⟨h1, h2⟩), hb⟩
theorem hold_no (a b x : Int) (w : World) (h : ¬ (a ≤ x ∧ x ≤ b)) :
    Calls Try.prog 86 #[.agg #[.int .i64 a, .int .i64 b], .int .i64 x] w fun e w' => e = .returned (.bool false) ∧ Below w.heap.size w w' :=
  (hold_any a b x w).mono fun e w' ⟨he, hb⟩ => ⟨by rw [he]; exact ret_b (decide_eq_false h), hb⟩

/-- The marks of a count of owners, in a block of the call's own. -/
structure Marks (w0 wl : World) (g N : Nat) (h : Nat → Bool) : Prop where
  c0 : wl.cell? ⟨g, 0, none⟩ = some (.int .i64 0)
  c1 : wl.cell? ⟨g, 1, none⟩ = some (.int .i64 ((N : Int) - 1))
  m : ∀ j, j < 13 → wl.cell? ⟨g, 2 + j, none⟩ = some (.bool (h j))
  fz : ∀ i, wl.frozen? ⟨g, i, none⟩ = false
  lt : g < wl.heap.size
  bel : Below g w0 wl
theorem Marks.start (w0 : World) (N : Nat) (t : TypeId) (h : Nat → Bool) (h0 : ∀ j, h j = false) : Marks w0 (w0.alloc (.cells #[.int .i64 0, .int .i64 ((N : Int) - 1), .bool false, .bool false, .bool false, .bool false, .bool false, .bool false, .bool false, .bool false, .bool false, .bool false, .bool false, .bool false, .bool false] t)) w0.heap.size N h where
  c0 := by rw [World.cell?_alloc_mark]; rfl
  c1 := by rw [World.cell?_alloc_mark]; rfl
  m := by
    intro j hj
    rw [World.cell?_alloc_mark, h0]
    have hj' : j = 0 ∨ j = 1 ∨ j = 2 ∨ j = 3 ∨ j = 4 ∨ j = 5 ∨ j = 6 ∨ j = 7 ∨ j = 8 ∨ j = 9 ∨ j = 10 ∨ j = 11 ∨ j = 12 := by omega
    rcases hj' with rfl | rfl | rfl | rfl | rfl | rfl | rfl | rfl | rfl | rfl | rfl | rfl | rfl <;> rfl
  fz := fun i => Joins.unfrozen_of_block (heap_alloc_new w0 _) i
  lt := by simp
  bel := ballc _ _
theorem Marks.grow {w0 wl w2 : World} {g N : Nat} {h : Nat → Bool} (k : Marks w0 wl g N h) (hb : Below wl.heap.size wl w2) : Marks w0 w2 g N h where
  c0 := by rw [hb.cell k.lt]; exact k.c0
  c1 := by rw [hb.cell k.lt]; exact k.c1
  m := fun j hj => by rw [hb.cell k.lt]; exact k.m j hj
  fz := fun i => by rw [hb.frozen k.lt]; exact k.fz i
  lt := Nat.lt_of_lt_of_le k.lt hb.size
  bel := k.bel.trans (hb.mono (Nat.le_of_lt k.lt))
theorem Marks.set {w0 wl : World} {g N : Nat} {h h' : Nat → Bool} (k : Marks w0 wl g N h) (t : Nat) (ht : t < 13) (hh : ∀ j, h' j = (h j || decide ((t : Int) = (j : Int)))) : Marks w0 (wl.setCell ⟨g, 2 + t, none⟩ (.bool true)) g N h' where
  c0 := by rw [World.cell?_setCell_other _ _ _ _ (by simp <;> omega)]; exact k.c0
  c1 := by rw [World.cell?_setCell_other _ _ _ _ (by simp <;> omega)]; exact k.c1
  m := fun j hj => by
    rw [hh]
    by_cases e : t = j
    · subst e
      rw [World.cell?_setCell_same _ _ _ (k.m t ht)]
      simp
    · rw [World.cell?_setCell_other _ _ _ _ (by simp <;> omega), k.m j hj]
      have : ¬ (t : Int) = (j : Int) := by omega
      simp [this]
  fz := fun i => by rw [World.frozen?_setCell]; exact k.fz i
  lt := by have := k.lt; simpa using this
  bel := k.bel.setCell (Nat.le_refl _) _

theorem Marks.below0 {w wl : World} {ob : Obj} {N : Nat} {h : Nat → Bool} (k : Marks (w.alloc ob) wl (w.heap.size + 1) N h) : Below (w.alloc ob).heap.size (w.alloc ob) wl := by
  have e : (w.alloc ob).heap.size = w.heap.size + 1 := by simp
  rw [e]; exact k.bel
set_option maxHeartbeats 1000000 in
theorem eachOwns_any (n f d p r dr o sl md fr : Int) (ad : Option Addr) (cap : Nat) (zs : List Int) (w : World) (hn1 : 4 ≤ n) (hn2 : n ≤ 13) (hl : zs.length ≤ 9223372036854775807) (hT : Tab w ad zs) :
    Calls Try.prog 87 #[.agg #[.int .i64 n, .int .i64 f, .int .i64 d, .int .i64 p, .int .i64 r, .int .i64 dr, .int .i64 o, .int .i64 sl, .int .i64 md, .int .i64 fr, .slice ad zs.length cap]] w fun e w' => e = .returned (.bool (ownsB n zs)) ∧ Below w.heap.size w w' := by
  obtain ⟨N, rfl⟩ : ∃ N : Nat, n = (N : Int) := ⟨n.toNat, by omega⟩
  have HT : Hid (Tab (w.alloc (.cells #[.int .i64 (N : Int), .int .i64 f, .int .i64 d, .int .i64 p, .int .i64 r, .int .i64 dr, .int .i64 o, .int .i64 sl, .int .i64 md, .int .i64 fr, .slice ad zs.length cap] 24)) ad zs) := hT.below (ballc _ _)
  clear hT
  have hM0 := Marks.start (w.alloc (.cells #[.int .i64 (N : Int), .int .i64 f, .int .i64 d, .int .i64 p, .int .i64 r, .int .i64 dr, .int .i64 o, .int .i64 sl, .int .i64 md, .int .i64 fr, .slice ad zs.length cap] 24)) N 129 (hasTo zs 0) (hasTo_zero zs)
  have hg : (w.alloc (.cells #[.int .i64 (N : Int), .int .i64 f, .int .i64 d, .int .i64 p, .int .i64 r, .int .i64 dr, .int .i64 o, .int .i64 sl, .int .i64 md, .int .i64 fr, .slice ad zs.length cap] 24)).heap.size = w.heap.size + 1 := by simp
  rw [hg] at hM0
  have HM0 : Hid _ := hM0
  clear hM0
  go_enter Try.func87, Try.ntmps87
  go_wp2
  go_loopw [16] (fun i wl => ∃ k : Nat, k ≤ zs.length ∧ i = .int .i64 k ∧ (∀ z ∈ zs.take k, 0 ≤ z ∧ z ≤ (N : Int) - 1) ∧ Marks (w.alloc (.cells #[.int .i64 (N : Int), .int .i64 f, .int .i64 d, .int .i64 p, .int .i64 r, .int .i64 dr, .int .i64 o, .int .i64 sl, .int .i64 md, .int .i64 fr, .slice ad zs.length cap] 24)) wl (w.heap.size + 1) N (hasTo zs k)) (fun i _ => zs.length - (intOf i).toNat)
  case atStart => exact ⟨0, Nat.zero_le _, rfl, by simp, HM0.out⟩
  case round =>
    obtain ⟨k, hk, rfl, hall, hM⟩ := hrel
    clear HM0
    have HA : Hid (∀ z ∈ zs.take k, 0 ≤ z ∧ z ≤ (N : Int) - 1) := hall
    have HM : Hid (Marks (w.alloc (.cells #[.int .i64 (N : Int), .int .i64 f, .int .i64 d, .int .i64 p, .int .i64 r, .int .i64 dr, .int .i64 o, .int .i64 sl, .int .i64 md, .int .i64 fr, .slice ad zs.length cap] 24)) wr (w.heap.size + 1) N (hasTo zs k)) := hM
    have hc0 := hM.c0
    have hc1 := hM.c1
    have hfz := hM.fz
    have hlt := hM.lt
    have hbox : ∀ i, wr.cell? ⟨w.heap.size, i, none⟩ = #[.int .i64 (N : Int), .int .i64 f, .int .i64 d, .int .i64 p, .int .i64 r, .int .i64 dr, .int .i64 o, .int .i64 sl, .int .i64 md, .int .i64 fr, .slice ad zs.length cap][i]? := fun i => by
      rw [hM.bel.cell (by simp)]; exact World.cell?_alloc_mark _ _ _ _ i
    have HTr : Hid (Tab wr ad zs) := HT.out.below (by rw [hg]; exact hM.bel)
    clear hall hM hg
    by_cases hlt : k < zs.length
    · obtain ⟨a, rfl, hc, ha⟩ := HTr.out.lies k hlt
      generalize hzz : zs.getD k 0 = z at hc
      have HZ : Hid (zs.getD k 0 = z) := hzz
      clear hzz
      by_cases hz : 0 ≤ z ∧ z ≤ (N : Int) - 1
      · have HN : Hid (0 ≤ z ∧ z ≤ (N : Int) - 1) := hz
        obtain ⟨t, rfl⟩ : ∃ t : Nat, z = (t : Int) := ⟨z.toNat, by omega⟩
        have ht : t < 13 := by omega
        have hq := fun v => hold_yes 0 ((N : Int) - 1) t v hz.1 hz.2
        clear hz
        go_wp2_with fail
        refine (hq _).mono ?_
        rintro e w2 ⟨rfl, hb2⟩
        have HM2 : Hid (Marks _ w2 (w.heap.size + 1) N (hasTo zs k)) := HM.out.grow hb2
        have hcm := HM2.out.m t ht
        have hfm := HM2.out.fz (2 + t)
        clear hb2
        go_wp2
        go_roundw
        case rel => exact ⟨k + 1, by omega, by go_num, all_succ k hlt HA.out (by rw [HZ.out]; exact HN.out.1) (by rw [HZ.out]; exact HN.out.2), HM2.out.set (h' := hasTo zs (k + 1)) t ht (fun j => by rw [hasTo_succ k hlt j, HZ.out])⟩
        case measure => simp [intOf]; omega
      · have hq := fun v => hold_no 0 ((N : Int) - 1) z v hz
        have HN : Hid (¬ (0 ≤ z ∧ z ≤ (N : Int) - 1)) := hz
        clear hz
        go_wp2_with (go_at_call 86; refine (hq _).mono ?_; rintro e w2 ⟨rfl, hb2⟩; have HB2 : Hid (Below wr.heap.size wr w2) := hb2; clear hb2)
        go_ret
        exact ⟨ret_b (by rw [ownsB_bad k hlt (by rw [HZ.out]; exact HN.out)]), bthen (bthen (ballc w _) (HM.out.below0)) HB2.out⟩
    · have hk' : k = zs.length := by omega
      subst hk'
      have hcm := HM.out.m
      go_wp2
      go_loop [34] (fun i => ∃ j : Nat, j ≤ N ∧ i = .int .i64 j ∧ (∀ t : Nat, t < j → (t : Int) ∈ zs)) (fun i => N - (intOf i).toNat)
      case atStart => exact ⟨0, by omega, rfl, by simp⟩
      case round =>
        obtain ⟨j, hj, rfl, hown⟩ := hrel
        have HO : Hid (∀ t : Nat, t < j → (t : Int) ∈ zs) := hown
        clear hown
        by_cases hjn : j < N
        · have hcj := hcm j (by omega)
          clear hcm
          by_cases hh : hasTo zs zs.length j = true
          · have HJ : Hid ((j : Int) ∈ zs) := hasTo_all.1 hh
            rw [hh] at hcj
            clear hh
            go_wp2
            go_round
            case rel => exact ⟨j + 1, by omega, by go_num, fun t ht => by
              by_cases e : t = j
              · subst e; exact HJ.out
              · exact HO.out t (by omega)⟩
            case measure => simp [intOf]; omega
          · have HJ : Hid (¬ (j : Int) ∈ zs) := fun h => hh (hasTo_all.2 h)
            have hh' : hasTo zs zs.length j = false := by simpa using hh
            rw [hh'] at hcj
            clear hh hh'
            go_wp2
            go_ret
            exact ⟨ret_b (by rw [ownsB_miss j (by omega) HJ.out]), bthen (ballc w _) (HM.out.below0)⟩
        · clear hcm
          go_wp2
          go_ret
          exact ⟨ret_b (by rw [ownsB_yes (by simpa using HA.out) (fun t ht => HO.out t (by omega))]), bthen (ballc w _) (HM.out.below0)⟩
end Go.Proofs.Ytkolhbacgoafcaa

/- The call Plain of package conf returns the number of the first rule that a configuration breaks, else 0; conditions: the table's length fits int. -/
namespace Go.Proofs.Ytkolhbacgoafcaa
open Go.ChangeShapes Go.WideShapes Go.ChangeAt Go.RowKit
set_option linter.unusedVariables false

def plainE (n f d p r dr o sl md fr : Int) (zs : List Int) : Int :=
  if ¬ (4 ≤ n ∧ n ≤ 13) then 7 else if ¬ (0 ≤ f ∧ f ≤ 4) then 7 else if ¬ (3 * f + 1 ≤ n) then 7 else if ¬ (1 ≤ d ∧ d ≤ 4) then 10 else
  if ¬ (6 * ((f + 1) * d) + 1 ≤ p ∧ p ≤ 400) then 8 else if ¬ (1 ≤ r ∧ r ≤ 64) then 8 else if ¬ (0 ≤ dr ∧ dr ≤ r - 1) then 8 else if ¬ (0 ≤ o ∧ o ≤ 30000) then 8 else
  if ¬ (1 ≤ sl ∧ sl ≤ 30000) then 8 else if ¬ (2 ≤ md ∧ md ≤ 250) then 8 else if ¬ (1 ≤ fr ∧ fr ≤ 100) then 8 else if ¬ (1 ≤ (zs.length : Int) ∧ (zs.length : Int) ≤ 32) then 11 else
  if ownsB n zs = true then 0 else 11

theorem pl_0 {n f d p r dr o sl md fr : Int} {zs : List Int}  (c0 : ¬ (4 ≤ n ∧ n ≤ 13)) : plainE n f d p r dr o sl md fr zs = 7 := by
  unfold plainE
  exact if_pos c0
theorem pl_1 {n f d p r dr o sl md fr : Int} {zs : List Int} (c0 : 4 ≤ n ∧ n ≤ 13) (c1 : ¬ (0 ≤ f ∧ f ≤ 4)) : plainE n f d p r dr o sl md fr zs = 7 := by
  unfold plainE
  exact (if_neg (not_not_intro c0)).trans (if_pos c1)
theorem pl_2 {n f d p r dr o sl md fr : Int} {zs : List Int} (c0 : 4 ≤ n ∧ n ≤ 13) (c1 : 0 ≤ f ∧ f ≤ 4) (c2 : ¬ (3 * f + 1 ≤ n)) : plainE n f d p r dr o sl md fr zs = 7 := by
  unfold plainE
  exact (if_neg (not_not_intro c0)).trans ((if_neg (not_not_intro c1)).trans (if_pos c2))
theorem pl_3 {n f d p r dr o sl md fr : Int} {zs : List Int} (c0 : 4 ≤ n ∧ n ≤ 13) (c1 : 0 ≤ f ∧ f ≤ 4) (c2 : 3 * f + 1 ≤ n) (c3 : ¬ (1 ≤ d ∧ d ≤ 4)) : plainE n f d p r dr o sl md fr zs = 10 := by
  unfold plainE
  exact (if_neg (not_not_intro c0)).trans ((if_neg (not_not_intro c1)).trans ((if_neg (not_not_intro c2)).trans (if_pos c3)))
theorem pl_4 {n f d p r dr o sl md fr : Int} {zs : List Int} (c0 : 4 ≤ n ∧ n ≤ 13) (c1 : 0 ≤ f ∧ f ≤ 4) (c2 : 3 * f + 1 ≤ n) (c3 : 1 ≤ d ∧ d ≤ 4) (c4 : ¬ (6 * ((f + 1) * d) + 1 ≤ p ∧ p ≤ 400)) : plainE n f d p r dr o sl md fr zs = 8 := by
  unfold plainE
  exact (if_neg (not_not_intro c0)).trans ((if_neg (not_not_intro c1)).trans ((if_neg (not_not_intro c2)).trans ((if_neg (not_not_intro c3)).trans (if_pos c4))))
theorem pl_5 {n f d p r dr o sl md fr : Int} {zs : List Int} (c0 : 4 ≤ n ∧ n ≤ 13) (c1 : 0 ≤ f ∧ f ≤ 4) (c2 : 3 * f + 1 ≤ n) (c3 : 1 ≤ d ∧ d ≤ 4) (c4 : 6 * ((f + 1) * d) + 1 ≤ p ∧ p ≤ 400) (c5 : ¬ (1 ≤ r ∧ r ≤ 64)) : plainE n f d p r dr o sl md fr zs = 8 := by
  unfold plainE
  exact (if_neg (not_not_intro c0)).trans ((if_neg (not_not_intro c1)).trans ((if_neg (not_not_intro c2)).trans ((if_neg (not_not_intro c3)).trans ((if_neg (not_not_intro c4)).trans (if_pos c5)))))
theorem pl_6 {n f d p r dr o sl md fr : Int} {zs : List Int} (c0 : 4 ≤ n ∧ n ≤ 13) (c1 : 0 ≤ f ∧ f ≤ 4) (c2 : 3 * f + 1 ≤ n) (c3 : 1 ≤ d ∧ d ≤ 4) (c4 : 6 * ((f + 1) * d) + 1 ≤ p ∧ p ≤ 400) (c5 : 1 ≤ r ∧ r ≤ 64) (c6 : ¬ (0 ≤ dr ∧ dr ≤ r - 1)) : plainE n f d p r dr o sl md fr zs = 8 := by
  unfold plainE
  exact (if_neg (not_not_intro c0)).trans ((if_neg (not_not_intro c1)).trans ((if_neg (not_not_intro c2)).trans ((if_neg (not_not_intro c3)).trans ((if_neg (not_not_intro c4)).trans ((if_neg (not_not_intro c5)).trans (if_pos c6))))))
theorem pl_7 {n f d p r dr o sl md fr : Int} {zs : List Int} (c0 : 4 ≤ n ∧ n ≤ 13) (c1 : 0 ≤ f ∧ f ≤ 4) (c2 : 3 * f + 1 ≤ n) (c3 : 1 ≤ d ∧ d ≤ 4) (c4 : 6 * ((f + 1) * d) + 1 ≤ p ∧ p ≤ 400) (c5 : 1 ≤ r ∧ r ≤ 64) (c6 : 0 ≤ dr ∧ dr ≤ r - 1) (c7 : ¬ (0 ≤ o ∧ o ≤ 30000)) : plainE n f d p r dr o sl md fr zs = 8 := by
  unfold plainE
  exact (if_neg (not_not_intro c0)).trans ((if_neg (not_not_intro c1)).trans ((if_neg (not_not_intro c2)).trans ((if_neg (not_not_intro c3)).trans ((if_neg (not_not_intro c4)).trans ((if_neg (not_not_intro c5)).trans ((if_neg (not_not_intro c6)).trans (if_pos c7)))))))
theorem pl_8 {n f d p r dr o sl md fr : Int} {zs : List Int} (c0 : 4 ≤ n ∧ n ≤ 13) (c1 : 0 ≤ f ∧ f ≤ 4) (c2 : 3 * f + 1 ≤ n) (c3 : 1 ≤ d ∧ d ≤ 4) (c4 : 6 * ((f + 1) * d) + 1 ≤ p ∧ p ≤ 400) (c5 : 1 ≤ r ∧ r ≤ 64) (c6 : 0 ≤ dr ∧ dr ≤ r - 1) (c7 : 0 ≤ o ∧ o ≤ 30000) (c8 : ¬ (1 ≤ sl ∧ sl ≤ 30000)) : plainE n f d p r dr o sl md fr zs = 8 := by
  unfold plainE
  exact (if_neg (not_not_intro c0)).trans ((if_neg (not_not_intro c1)).trans ((if_neg (not_not_intro c2)).trans ((if_neg (not_not_intro c3)).trans ((if_neg (not_not_intro c4)).trans ((if_neg (not_not_intro c5)).trans ((if_neg (not_not_intro c6)).trans ((if_neg (not_not_intro c7)).trans (if_pos c8))))))))
theorem pl_9 {n f d p r dr o sl md fr : Int} {zs : List Int} (c0 : 4 ≤ n ∧ n ≤ 13) (c1 : 0 ≤ f ∧ f ≤ 4) (c2 : 3 * f + 1 ≤ n) (c3 : 1 ≤ d ∧ d ≤ 4) (c4 : 6 * ((f + 1) * d) + 1 ≤ p ∧ p ≤ 400) (c5 : 1 ≤ r ∧ r ≤ 64) (c6 : 0 ≤ dr ∧ dr ≤ r - 1) (c7 : 0 ≤ o ∧ o ≤ 30000) (c8 : 1 ≤ sl ∧ sl ≤ 30000) (c9 : ¬ (2 ≤ md ∧ md ≤ 250)) : plainE n f d p r dr o sl md fr zs = 8 := by
  unfold plainE
  exact (if_neg (not_not_intro c0)).trans ((if_neg (not_not_intro c1)).trans ((if_neg (not_not_intro c2)).trans ((if_neg (not_not_intro c3)).trans ((if_neg (not_not_intro c4)).trans ((if_neg (not_not_intro c5)).trans ((if_neg (not_not_intro c6)).trans ((if_neg (not_not_intro c7)).trans ((if_neg (not_not_intro c8)).trans (if_pos c9)))))))))
theorem pl_10 {n f d p r dr o sl md fr : Int} {zs : List Int} (c0 : 4 ≤ n ∧ n ≤ 13) (c1 : 0 ≤ f ∧ f ≤ 4) (c2 : 3 * f + 1 ≤ n) (c3 : 1 ≤ d ∧ d ≤ 4) (c4 : 6 * ((f + 1) * d) + 1 ≤ p ∧ p ≤ 400) (c5 : 1 ≤ r ∧ r ≤ 64) (c6 : 0 ≤ dr ∧ dr ≤ r - 1) (c7 : 0 ≤ o ∧ o ≤ 30000) (c8 : 1 ≤ sl ∧ sl ≤ 30000) (c9 : 2 ≤ md ∧ md ≤ 250) (c10 : ¬ (1 ≤ fr ∧ fr ≤ 100)) : plainE n f d p r dr o sl md fr zs = 8 := by
  unfold plainE
  exact (if_neg (not_not_intro c0)).trans ((if_neg (not_not_intro c1)).trans ((if_neg (not_not_intro c2)).trans ((if_neg (not_not_intro c3)).trans ((if_neg (not_not_intro c4)).trans ((if_neg (not_not_intro c5)).trans ((if_neg (not_not_intro c6)).trans ((if_neg (not_not_intro c7)).trans ((if_neg (not_not_intro c8)).trans ((if_neg (not_not_intro c9)).trans (if_pos c10))))))))))
theorem pl_11 {n f d p r dr o sl md fr : Int} {zs : List Int} (c0 : 4 ≤ n ∧ n ≤ 13) (c1 : 0 ≤ f ∧ f ≤ 4) (c2 : 3 * f + 1 ≤ n) (c3 : 1 ≤ d ∧ d ≤ 4) (c4 : 6 * ((f + 1) * d) + 1 ≤ p ∧ p ≤ 400) (c5 : 1 ≤ r ∧ r ≤ 64) (c6 : 0 ≤ dr ∧ dr ≤ r - 1) (c7 : 0 ≤ o ∧ o ≤ 30000) (c8 : 1 ≤ sl ∧ sl ≤ 30000) (c9 : 2 ≤ md ∧ md ≤ 250) (c10 : 1 ≤ fr ∧ fr ≤ 100) (c11 : ¬ (1 ≤ (zs.length : Int) ∧ (zs.length : Int) ≤ 32)) : plainE n f d p r dr o sl md fr zs = 11 := by
  unfold plainE
  exact (if_neg (not_not_intro c0)).trans ((if_neg (not_not_intro c1)).trans ((if_neg (not_not_intro c2)).trans ((if_neg (not_not_intro c3)).trans ((if_neg (not_not_intro c4)).trans ((if_neg (not_not_intro c5)).trans ((if_neg (not_not_intro c6)).trans ((if_neg (not_not_intro c7)).trans ((if_neg (not_not_intro c8)).trans ((if_neg (not_not_intro c9)).trans ((if_neg (not_not_intro c10)).trans (if_pos c11)))))))))))
theorem pl_12 {n f d p r dr o sl md fr : Int} {zs : List Int} (c0 : 4 ≤ n ∧ n ≤ 13) (c1 : 0 ≤ f ∧ f ≤ 4) (c2 : 3 * f + 1 ≤ n) (c3 : 1 ≤ d ∧ d ≤ 4) (c4 : 6 * ((f + 1) * d) + 1 ≤ p ∧ p ≤ 400) (c5 : 1 ≤ r ∧ r ≤ 64) (c6 : 0 ≤ dr ∧ dr ≤ r - 1) (c7 : 0 ≤ o ∧ o ≤ 30000) (c8 : 1 ≤ sl ∧ sl ≤ 30000) (c9 : 2 ≤ md ∧ md ≤ 250) (c10 : 1 ≤ fr ∧ fr ≤ 100) (c11 : 1 ≤ (zs.length : Int) ∧ (zs.length : Int) ≤ 32) : plainE n f d p r dr o sl md fr zs = if ownsB n zs = true then 0 else 11 := by
  unfold plainE
  exact (if_neg (not_not_intro c0)).trans ((if_neg (not_not_intro c1)).trans ((if_neg (not_not_intro c2)).trans ((if_neg (not_not_intro c3)).trans ((if_neg (not_not_intro c4)).trans ((if_neg (not_not_intro c5)).trans ((if_neg (not_not_intro c6)).trans ((if_neg (not_not_intro c7)).trans ((if_neg (not_not_intro c8)).trans ((if_neg (not_not_intro c9)).trans ((if_neg (not_not_intro c10)).trans ((if_neg (not_not_intro c11)).trans (rfl))))))))))))

/-- Rule k holds. -/
def okR (n f d p r dr o sl md fr ln : Int) (k : Nat) : Prop := ruA f d k ≤ ruC n f d p r dr o sl md fr ln k ∧ ruC n f d p r dr o sl md fr ln k ≤ ruB r k

theorem okR_2 {n f d p r dr o sl md fr ln : Int} (h1 : 0 ≤ f) (h2 : f ≤ 4) : okR n f d p r dr o sl md fr ln 2 ↔ 3 * f + 1 ≤ n ∧ n ≤ 13 := by
  unfold okR
  simp only [ruA, ruB, ruC]
  rw [IntWalk.i64_in (3 * f) (by omega), IntWalk.i64_in (3 * f + 1) (by omega)]
theorem okR_4 {n f d p r dr o sl md fr ln : Int} (h1 : 0 ≤ f) (h2 : f ≤ 4) (h3 : 1 ≤ d) (h4 : d ≤ 4) : okR n f d p r dr o sl md fr ln 4 ↔ 6 * ((f + 1) * d) + 1 ≤ p ∧ p ≤ 400 := by
  have hq0 : 0 ≤ (f + 1) * d := Int.mul_nonneg (by omega) (by omega)
  have hq1 : (f + 1) * d ≤ 5 * 4 := Int.mul_le_mul (by omega) h4 (by omega) (by omega)
  have e : lengthW f d = 3 * ((f + 1) * d) := by rw [lengthW_eq h1 h2 h3 h4, Int.mul_assoc]
  unfold okR
  simp only [ruA, ruB, ruC]
  rw [e, IntWalk.i64_in (2 * (3 * ((f + 1) * d))) (by omega), IntWalk.i64_in (2 * (3 * ((f + 1) * d)) + 1) (by omega)]
  constructor <;> intro h <;> omega
theorem okR_6 {n f d p r dr o sl md fr ln : Int} (h1 : 1 ≤ r) (h2 : r ≤ 64) : okR n f d p r dr o sl md fr ln 6 ↔ 0 ≤ dr ∧ dr ≤ r - 1 := by
  unfold okR
  simp only [ruA, ruB, ruC]
  rw [IntWalk.i64_in (r - 1) (by omega)]

/-- What the first k rules say. -/
theorem okR_all {n f d p r dr o sl md fr ln : Int} (k : Nat) (h : ∀ j, j < k → okR n f d p r dr o sl md fr ln j) :
    (0 < k → 4 ≤ n ∧ n ≤ 13) ∧ (1 < k → 0 ≤ f ∧ f ≤ 4) ∧ (2 < k → 3 * f + 1 ≤ n) ∧ (3 < k → 1 ≤ d ∧ d ≤ 4) ∧ (4 < k → 6 * ((f + 1) * d) + 1 ≤ p ∧ p ≤ 400) ∧ (5 < k → 1 ≤ r ∧ r ≤ 64) ∧ (6 < k → 0 ≤ dr ∧ dr ≤ r - 1) ∧
    (7 < k → 0 ≤ o ∧ o ≤ 30000) ∧ (8 < k → 1 ≤ sl ∧ sl ≤ 30000) ∧ (9 < k → 2 ≤ md ∧ md ≤ 250) ∧ (10 < k → 1 ≤ fr ∧ fr ≤ 100) ∧ (11 < k → 1 ≤ ln ∧ ln ≤ 32) := by
  have h1 : 1 < k → 0 ≤ f ∧ f ≤ 4 := fun hk => h 1 hk
  have h3 : 3 < k → 1 ≤ d ∧ d ≤ 4 := fun hk => h 3 hk
  have h5 : 5 < k → 1 ≤ r ∧ r ≤ 64 := fun hk => h 5 hk
  refine ⟨fun hk => h 0 hk, h1, fun hk => ((okR_2 (h1 (by omega)).1 (h1 (by omega)).2).1 (h 2 hk)).1, h3, fun hk => (okR_4 (h1 (by omega)).1 (h1 (by omega)).2 (h3 (by omega)).1 (h3 (by omega)).2).1 (h 4 hk), h5,
    fun hk => (okR_6 (h5 (by omega)).1 (h5 (by omega)).2).1 (h 6 hk), fun hk => h 7 hk, fun hk => h 8 hk, fun hk => h 9 hk, fun hk => h 10 hk, fun hk => h 11 hk⟩

theorem plain_fail {n f d p r dr o sl md fr : Int} {zs : List Int} (k : Nat) (hk : k < 12) (h : ∀ j, j < k → okR n f d p r dr o sl md fr zs.length j) (hn : ¬ okR n f d p r dr o sl md fr zs.length k) :
    plainE n f d p r dr o sl md fr zs = ruE k := by
  obtain ⟨g0, g1, g2, g3, g4, g5, g6, g7, g8, g9, g10, g11⟩ := okR_all k h
  clear h
  have hk' : k = 0 ∨ k = 1 ∨ k = 2 ∨ k = 3 ∨ k = 4 ∨ k = 5 ∨ k = 6 ∨ k = 7 ∨ k = 8 ∨ k = 9 ∨ k = 10 ∨ k = 11 := by clear hn g0 g1 g2 g3 g4 g5 g6 g7 g8 g9 g10 g11; omega
  unfold plainE
  rcases hk' with rfl | rfl | rfl | rfl | rfl | rfl | rfl | rfl | rfl | rfl | rfl | rfl
  · exact if_pos (hn)
  · exact (if_neg (not_not_intro (g0 (by decide)))).trans (if_pos (hn))
  · exact (if_neg (not_not_intro (g0 (by decide)))).trans ((if_neg (not_not_intro (g1 (by decide)))).trans (if_pos (fun c => hn ((okR_2 (g1 (by decide)).1 (g1 (by decide)).2).2 ⟨c, (g0 (by decide)).2⟩))))
  · exact (if_neg (not_not_intro (g0 (by decide)))).trans ((if_neg (not_not_intro (g1 (by decide)))).trans ((if_neg (not_not_intro (g2 (by decide)))).trans (if_pos (hn))))
  · exact (if_neg (not_not_intro (g0 (by decide)))).trans ((if_neg (not_not_intro (g1 (by decide)))).trans ((if_neg (not_not_intro (g2 (by decide)))).trans ((if_neg (not_not_intro (g3 (by decide)))).trans (if_pos (fun c => hn ((okR_4 (g1 (by decide)).1 (g1 (by decide)).2 (g3 (by decide)).1 (g3 (by decide)).2).2 c))))))
  · exact (if_neg (not_not_intro (g0 (by decide)))).trans ((if_neg (not_not_intro (g1 (by decide)))).trans ((if_neg (not_not_intro (g2 (by decide)))).trans ((if_neg (not_not_intro (g3 (by decide)))).trans ((if_neg (not_not_intro (g4 (by decide)))).trans (if_pos (hn))))))
  · exact (if_neg (not_not_intro (g0 (by decide)))).trans ((if_neg (not_not_intro (g1 (by decide)))).trans ((if_neg (not_not_intro (g2 (by decide)))).trans ((if_neg (not_not_intro (g3 (by decide)))).trans ((if_neg (not_not_intro (g4 (by decide)))).trans ((if_neg (not_not_intro (g5 (by decide)))).trans (if_pos (fun c => hn ((okR_6 (g5 (by decide)).1 (g5 (by decide)).2).2 c))))))))
  · exact (if_neg (not_not_intro (g0 (by decide)))).trans ((if_neg (not_not_intro (g1 (by decide)))).trans ((if_neg (not_not_intro (g2 (by decide)))).trans ((if_neg (not_not_intro (g3 (by decide)))).trans ((if_neg (not_not_intro (g4 (by decide)))).trans ((if_neg (not_not_intro (g5 (by decide)))).trans ((if_neg (not_not_intro (g6 (by decide)))).trans (if_pos (hn))))))))
  · exact (if_neg (not_not_intro (g0 (by decide)))).trans ((if_neg (not_not_intro (g1 (by decide)))).trans ((if_neg (not_not_intro (g2 (by decide)))).trans ((if_neg (not_not_intro (g3 (by decide)))).trans ((if_neg (not_not_intro (g4 (by decide)))).trans ((if_neg (not_not_intro (g5 (by decide)))).trans ((if_neg (not_not_intro (g6 (by decide)))).trans ((if_neg (not_not_intro (g7 (by decide)))).trans (if_pos (hn)))))))))
  · exact (if_neg (not_not_intro (g0 (by decide)))).trans ((if_neg (not_not_intro (g1 (by decide)))).trans ((if_neg (not_not_intro (g2 (by decide)))).trans ((if_neg (not_not_intro (g3 (by decide)))).trans ((if_neg (not_not_intro (g4 (by decide)))).trans ((if_neg (not_not_intro (g5 (by decide)))).trans ((if_neg (not_not_intro (g6 (by decide)))).trans ((if_neg (not_not_intro (g7 (by decide)))).trans ((if_neg (not_not_intro (g8 (by decide)))).trans (if_pos (hn))))))))))
  · exact (if_neg (not_not_intro (g0 (by decide)))).trans ((if_neg (not_not_intro (g1 (by decide)))).trans ((if_neg (not_not_intro (g2 (by decide)))).trans ((if_neg (not_not_intro (g3 (by decide)))).trans ((if_neg (not_not_intro (g4 (by decide)))).trans ((if_neg (not_not_intro (g5 (by decide)))).trans ((if_neg (not_not_intro (g6 (by decide)))).trans ((if_neg (not_not_intro (g7 (by decide)))).trans ((if_neg (not_not_intro (g8 (by decide)))).trans ((if_neg (not_not_intro (g9 (by decide)))).trans (if_pos (hn)))))))))))
  · exact (if_neg (not_not_intro (g0 (by decide)))).trans ((if_neg (not_not_intro (g1 (by decide)))).trans ((if_neg (not_not_intro (g2 (by decide)))).trans ((if_neg (not_not_intro (g3 (by decide)))).trans ((if_neg (not_not_intro (g4 (by decide)))).trans ((if_neg (not_not_intro (g5 (by decide)))).trans ((if_neg (not_not_intro (g6 (by decide)))).trans ((if_neg (not_not_intro (g7 (by decide)))).trans ((if_neg (not_not_intro (g8 (by decide)))).trans ((if_neg (not_not_intro (g9 (by decide)))).trans ((if_neg (not_not_intro (g10 (by decide)))).trans (if_pos (hn))))))))))))
theorem plain_end {n f d p r dr o sl md fr : Int} {zs : List Int} (h : ∀ j, j < 12 → okR n f d p r dr o sl md fr zs.length j) :
    plainE n f d p r dr o sl md fr zs = if ownsB n zs = true then 0 else 11 := by
  obtain ⟨g0, g1, g2, g3, g4, g5, g6, g7, g8, g9, g10, g11⟩ := okR_all 12 h
  unfold plainE
  exact (if_neg (not_not_intro (g0 (by decide)))).trans ((if_neg (not_not_intro (g1 (by decide)))).trans ((if_neg (not_not_intro (g2 (by decide)))).trans ((if_neg (not_not_intro (g3 (by decide)))).trans ((if_neg (not_not_intro (g4 (by decide)))).trans ((if_neg (not_not_intro (g5 (by decide)))).trans ((if_neg (not_not_intro (g6 (by decide)))).trans ((if_neg (not_not_intro (g7 (by decide)))).trans ((if_neg (not_not_intro (g8 (by decide)))).trans ((if_neg (not_not_intro (g9 (by decide)))).trans ((if_neg (not_not_intro (g10 (by decide)))).trans ((if_neg (not_not_intro (g11 (by decide)))).trans (rfl))))))))))))
/-- What is plain, number by number. -/
theorem plainE_ok {n f d p r dr o sl md fr : Int} {zs : List Int} (h : plainE n f d p r dr o sl md fr zs = 0) :
    4 ≤ n ∧ n ≤ 13 ∧ 0 ≤ f ∧ f ≤ 4 ∧ 3 * f + 1 ≤ n ∧ 1 ≤ d ∧ d ≤ 4 ∧ 6 * ((f + 1) * d) + 1 ≤ p ∧ p ≤ 400 ∧ 1 ≤ r ∧ r ≤ 64 ∧ 0 ≤ dr ∧ dr ≤ r - 1 ∧ 0 ≤ o ∧ o ≤ 30000 ∧ 1 ≤ sl ∧ sl ≤ 30000 ∧ 2 ≤ md ∧ md ≤ 250 ∧ 1 ≤ fr ∧ fr ≤ 100 ∧ 1 ≤ zs.length ∧ zs.length ≤ 32 ∧ ownsB n zs = true := by
  unfold plainE at h
  by_cases c0 : 4 ≤ n ∧ n ≤ 13
  case neg => rw [if_pos c0] at h; exact absurd h (by decide)
  rw [if_neg (not_not_intro c0)] at h
  by_cases c1 : 0 ≤ f ∧ f ≤ 4
  case neg => rw [if_pos c1] at h; exact absurd h (by decide)
  rw [if_neg (not_not_intro c1)] at h
  by_cases c2 : 3 * f + 1 ≤ n
  case neg => rw [if_pos c2] at h; exact absurd h (by decide)
  rw [if_neg (not_not_intro c2)] at h
  by_cases c3 : 1 ≤ d ∧ d ≤ 4
  case neg => rw [if_pos c3] at h; exact absurd h (by decide)
  rw [if_neg (not_not_intro c3)] at h
  by_cases c4 : 6 * ((f + 1) * d) + 1 ≤ p ∧ p ≤ 400
  case neg => rw [if_pos c4] at h; exact absurd h (by decide)
  rw [if_neg (not_not_intro c4)] at h
  by_cases c5 : 1 ≤ r ∧ r ≤ 64
  case neg => rw [if_pos c5] at h; exact absurd h (by decide)
  rw [if_neg (not_not_intro c5)] at h
  by_cases c6 : 0 ≤ dr ∧ dr ≤ r - 1
  case neg => rw [if_pos c6] at h; exact absurd h (by decide)
  rw [if_neg (not_not_intro c6)] at h
  by_cases c7 : 0 ≤ o ∧ o ≤ 30000
  case neg => rw [if_pos c7] at h; exact absurd h (by decide)
  rw [if_neg (not_not_intro c7)] at h
  by_cases c8 : 1 ≤ sl ∧ sl ≤ 30000
  case neg => rw [if_pos c8] at h; exact absurd h (by decide)
  rw [if_neg (not_not_intro c8)] at h
  by_cases c9 : 2 ≤ md ∧ md ≤ 250
  case neg => rw [if_pos c9] at h; exact absurd h (by decide)
  rw [if_neg (not_not_intro c9)] at h
  by_cases c10 : 1 ≤ fr ∧ fr ≤ 100
  case neg => rw [if_pos c10] at h; exact absurd h (by decide)
  rw [if_neg (not_not_intro c10)] at h
  by_cases c11 : 1 ≤ (zs.length : Int) ∧ (zs.length : Int) ≤ 32
  case neg => rw [if_pos c11] at h; exact absurd h (by decide)
  rw [if_neg (not_not_intro c11)] at h
  by_cases c12 : ownsB n zs = true
  case neg => rw [if_neg c12] at h; exact absurd h (by decide)
  exact ⟨c0.1, c0.2, c1.1, c1.2, c2, c3.1, c3.2, c4.1, c4.2, c5.1, c5.2, c6.1, c6.2, c7.1, c7.2, c8.1, c8.2, c9.1, c9.2, c10.1, c10.2, by omega, by omega, c12⟩
end Go.Proofs.Ytkolhbacgoafcaa

/- The call Plain of package conf returns the number of the first rule that a configuration breaks, else 0, and makes at most new memory; conditions: the table lies where it says, and its length fits int. -/
namespace Go.Proofs.Ytkolhbacgoafcaa
open Go.ChangeShapes Go.WideShapes Go.ChangeAt Go.RowKit
set_option linter.unusedVariables false

set_option maxHeartbeats 1000000 in
theorem plain_any (n f d p r dr o sl md fr : Int) (ad : Option Addr) (cap : Nat) (zs : List Int) (w : World) (hl : zs.length ≤ 9223372036854775807) (hT : Tab w ad zs) :
    Calls Try.prog 53 #[.agg #[.int .i64 n, .int .i64 f, .int .i64 d, .int .i64 p, .int .i64 r, .int .i64 dr, .int .i64 o, .int .i64 sl, .int .i64 md, .int .i64 fr, .slice ad zs.length cap]] w fun e w' => e = .returned (.int .i64 (plainE n f d p r dr o sl md fr zs)) ∧ Below w.heap.size w w' := by
  have HT : Hid (Tab (w.alloc (.cells #[.int .i64 n, .int .i64 f, .int .i64 d, .int .i64 p, .int .i64 r, .int .i64 dr, .int .i64 o, .int .i64 sl, .int .i64 md, .int .i64 fr, .slice ad zs.length cap] 24)) ad zs) := hT.below (ballc _ _)
  clear hT
  go_enter Try.func53, Try.ntmps53
  go_wp2_with fail
  refine (rules_any n f d p r dr o sl md fr ad cap zs _).mono ?_
  rintro e w1 ⟨g, rfl, hg1, hg2, hcells, hb1⟩
  have HB1 : Hid (Below (w.alloc (.cells #[.int .i64 n, .int .i64 f, .int .i64 d, .int .i64 p, .int .i64 r, .int .i64 dr, .int .i64 o, .int .i64 sl, .int .i64 md, .int .i64 fr, .slice ad zs.length cap] 24)).heap.size (w.alloc (.cells #[.int .i64 n, .int .i64 f, .int .i64 d, .int .i64 p, .int .i64 r, .int .i64 dr, .int .i64 o, .int .i64 sl, .int .i64 md, .int .i64 fr, .slice ad zs.length cap] 24)) w1) := hb1
  have HC : Hid (∀ k, k < 12 → w1.cell? ⟨g, k * 4, none⟩ = some (.int .i64 (ruA f d k)) ∧ w1.cell? ⟨g, k * 4 + 1, none⟩ = some (.int .i64 (ruB r k)) ∧ w1.cell? ⟨g, k * 4 + 2, none⟩ = some (.int .i64 (ruC n f d p r dr o sl md fr zs.length k)) ∧ w1.cell? ⟨g, k * 4 + 3, none⟩ = some (.int .i64 (ruE k))) := hcells
  have HG2 : Hid (g < w1.heap.size) := hg2
  clear hb1 hcells hg1 hg2
  go_wp2
  go_loopw [8] (fun i wl => ∃ k : Nat, k ≤ 12 ∧ i = .int .i64 k ∧ (∀ j, j < k → okR n f d p r dr o sl md fr zs.length j) ∧ Below w1.heap.size w1 wl) (fun i _ => 12 - (intOf i).toNat)
  case atStart => exact ⟨0, Nat.zero_le _, rfl, fun j hj => absurd hj (Nat.not_lt_zero _), Below.refl _ _⟩
  case round =>
    obtain ⟨k, hk, rfl, hok, hb⟩ := hrel
    have HO : Hid (∀ j, j < k → okR n f d p r dr o sl md fr zs.length j) := hok
    have HB : Hid (Below w1.heap.size w1 wr) := hb
    clear hok hb
    by_cases hlt : k < 12
    · obtain ⟨e0, e1, e2, e3⟩ := HC.out k hlt
      rw [← HB.out.cell HG2.out] at e0 e1 e2 e3
      have hgr : g < wr.heap.size := Nat.lt_of_lt_of_le HG2.out HB.out.size
      have hgn : ¬ g = wr.heap.size := by omega
      by_cases ho : okR n f d p r dr o sl md fr zs.length k
      · have hq := fun v => hold_yes (ruA f d k) (ruB r k) (ruC n f d p r dr o sl md fr zs.length k) v ho.1 ho.2
        have HK : Hid (okR n f d p r dr o sl md fr zs.length k) := ho
        clear ho
        generalize ruA f d k = A at *
        generalize ruB r k = B at *
        generalize ruC n f d p r dr o sl md fr zs.length k = C at *
        go_wp2_with fail
        refine (hq _).mono ?_
        rintro e w2 ⟨rfl, hb2⟩
        have HB2 : Hid (Below wr.heap.size wr w2) := bthen (ballc _ _) hb2
        clear hb2 e0 e1 e2 e3
        go_wp2
        go_roundw
        case rel => exact ⟨k + 1, by omega, by go_num, fun j hj => by
          by_cases e : j = k
          · subst e; exact HK.out
          · exact HO.out j (by omega), bthen HB.out HB2.out⟩
        case measure => simp [intOf]; omega
      · have hq := fun v => hold_no (ruA f d k) (ruB r k) (ruC n f d p r dr o sl md fr zs.length k) v ho
        have HK : Hid (¬ okR n f d p r dr o sl md fr zs.length k) := ho
        clear ho
        generalize ruA f d k = A at *
        generalize ruB r k = B at *
        generalize ruC n f d p r dr o sl md fr zs.length k = C at *
        generalize hE : ruE k = E at *
        have HE : Hid (ruE k = E) := hE
        clear hE
        go_wp2_with fail
        refine (hq _).mono ?_
        rintro e w2 ⟨rfl, hb2⟩
        have HB2 : Hid (Below wr.heap.size wr w2) := bthen (ballc _ _) hb2
        obtain ⟨hbox2, hs2⟩ := box_at hb2
        clear hb2 e0 e1 e2 e3
        go_wp2
        go_ret
        exact ⟨ret_i (by rw [plain_fail k hlt HO.out HK.out]; exact HE.out.symm), bthen (bthen (ballc w _) HB1.out) (bthen HB.out HB2.out)⟩
    · have hk' : k = 12 := by omega
      subst hk'
      obtain ⟨hbox, hsz⟩ := box_at (bthen HB1.out HB.out)
      have hall := okR_all 12 HO.out
      have hq := fun v hT => eachOwns_any n f d p r dr o sl md fr ad cap zs v (hall.1 (by decide)).1 (hall.1 (by decide)).2 hl hT
      have HQ : Hid (Calls Try.prog 87 #[.agg #[.int .i64 n, .int .i64 f, .int .i64 d, .int .i64 p, .int .i64 r, .int .i64 dr, .int .i64 o, .int .i64 sl, .int .i64 md, .int .i64 fr, .slice ad zs.length cap]] wr fun e w' => e = .returned (.bool (ownsB n zs)) ∧ Below wr.heap.size wr w') := hq wr (HT.out.below (bthen HB1.out HB.out))
      clear hq hall
      have HP := plain_end HO.out
      generalize hob : ownsB n zs = ob at HP HQ
      clear hob
      cases ob
      all_goals
        have HP' : Hid (plainE n f d p r dr o sl md fr zs = _) := HP
        clear HP
        go_wp2_with fail
        refine HQ.out.mono ?_
        rintro e w2 ⟨rfl, hb2⟩
        have HB2 : Hid (Below wr.heap.size wr w2) := hb2
        clear hb2
        go_wp2
        go_ret
        exact ⟨ret_i (by rw [HP'.out]; rfl), bthen (bthen (ballc w _) HB1.out) (bthen HB.out HB2.out)⟩
end Go.Proofs.Ytkolhbacgoafcaa

/- The calls Rounds, Length and Bits of package conf return what the document says, of what is plain, else 0, and make at most new memory; conditions: the table lies where it says, and its length fits int. -/
namespace Go.Proofs.Ytkolhbacgoafcaa
open Go.ChangeShapes Go.WideShapes Go.ChangeAt Go.RowKit
set_option linter.unusedVariables false
attribute [local go_sem] cell_rg

/-- x, if E is no error, else 0. -/
def gate (E x : Int) : Int := if E = 0 then x else 0
/-- Hides a fact from the walk. -/
theorem gate_ok (x : Int) : gate 0 x = x := if_pos rfl
theorem gate_no {E : Int} (h : ¬ E = 0) (x : Int) : gate E x = 0 := if_neg h
theorem gate_congr {E x y : Int} (h : E = 0 → x = y) : gate E x = gate E y := by
  unfold gate
  by_cases e : E = 0
  · rw [if_pos e, if_pos e, h e]
  · rw [if_neg e, if_neg e]

theorem ofPlain_any (n f d p r dr o sl md fr : Int) (ad : Option Addr) (cap : Nat) (zs : List Int) (x : Int) (w : World) (hl : zs.length ≤ 9223372036854775807) (hT : Tab w ad zs) :
    Calls Try.prog 68 #[.agg #[.int .i64 n, .int .i64 f, .int .i64 d, .int .i64 p, .int .i64 r, .int .i64 dr, .int .i64 o, .int .i64 sl, .int .i64 md, .int .i64 fr, .slice ad zs.length cap], .int .i64 x] w fun e w' => e = .returned (.int .i64 (gate (plainE n f d p r dr o sl md fr zs) x)) ∧ Below w.heap.size w w' := by
  have HQ := hidden (plain_any n f d p r dr o sl md fr ad cap zs (w.alloc (.cells #[.int .i64 n, .int .i64 f, .int .i64 d, .int .i64 p, .int .i64 r, .int .i64 dr, .int .i64 o, .int .i64 sl, .int .i64 md, .int .i64 fr, .slice ad zs.length cap] 24)) hl (hT.below (ballc _ _)))
  clear hT
  generalize plainE n f d p r dr o sl md fr zs = E at HQ
  by_cases hE : E = 0
  · subst hE
    go_enter Try.func68, Try.ntmps68
    go_wp2_with fail
    refine HQ.out.mono ?_
    rintro e w2 ⟨rfl, hb2⟩
    have HB2 : Hid (Below w.heap.size w w2) := bthen (ballc w _) hb2
    clear hb2 HQ
    go_wp2
    go_ret
    exact ⟨ret_i (gate_ok x).symm, HB2.out⟩
  · go_enter Try.func68, Try.ntmps68
    go_wp2_with fail
    refine HQ.out.mono ?_
    rintro e w2 ⟨rfl, hb2⟩
    have HB2 : Hid (Below w.heap.size w w2) := bthen (ballc w _) hb2
    clear hb2 HQ
    go_wp2
    go_ret
    exact ⟨ret_i (gate_no hE x).symm, HB2.out⟩

theorem Rounds_any (n f d p r dr o sl md fr : Int) (ad : Option Addr) (cap : Nat) (zs : List Int) (w : World) (hl : zs.length ≤ 9223372036854775807) (hT : Tab w ad zs) :
    Calls Try.prog 96 #[.agg #[.int .i64 n, .int .i64 f, .int .i64 d, .int .i64 p, .int .i64 r, .int .i64 dr, .int .i64 o, .int .i64 sl, .int .i64 md, .int .i64 fr, .slice ad zs.length cap]] w fun e w' => e = .returned (.int .i64 (gate (plainE n f d p r dr o sl md fr zs) (3 * (f + 1)))) ∧ Below w.heap.size w w' := by
  have HT : Hid (Tab (w.alloc (.cells #[.int .i64 n, .int .i64 f, .int .i64 d, .int .i64 p, .int .i64 r, .int .i64 dr, .int .i64 o, .int .i64 sl, .int .i64 md, .int .i64 fr, .slice ad zs.length cap] 24)) ad zs) := hT.below (ballc _ _)
  have HG : Hid (gate (plainE n f d p r dr o sl md fr zs) (3 * (f + 1)) = gate (plainE n f d p r dr o sl md fr zs) (roundsW f)) := gate_congr fun h => by
    obtain ⟨_, _, h1, h2, _⟩ := plainE_ok h
    exact (roundsW_eq h1 h2).symm
  clear hT
  go_enter Try.func96, Try.ntmps96
  go_wp2
  refine wp_region_quiet_below (by kernel_rfl) (by kernel_rfl) ?_
  repeat (go_big_quiet_step (first | (go_at_call 95; exact Calls.regrown_of (cRounds_any _ _ _ _ _ _ _ _ _ _ _ _ _ _)) | (go_at_call 68; exact Calls.regrown_of (ofPlain_any _ _ _ _ _ _ _ _ _ _ _ _ _ _ _ hl (HT.out.below (below_regrown _ _ _))))))
  refine wpQuiet_nil ?_
  intro w2 hw2
  have HB2 : Hid (Below w.heap.size w w2) := bthen (ballc w _) (rg_below hw2)
  clear hw2
  go_wp2
  go_ret
  exact ⟨ret_i HG.out.symm, HB2.out⟩

theorem Length_any (n f d p r dr o sl md fr : Int) (ad : Option Addr) (cap : Nat) (zs : List Int) (w : World) (hl : zs.length ≤ 9223372036854775807) (hT : Tab w ad zs) :
    Calls Try.prog 30 #[.agg #[.int .i64 n, .int .i64 f, .int .i64 d, .int .i64 p, .int .i64 r, .int .i64 dr, .int .i64 o, .int .i64 sl, .int .i64 md, .int .i64 fr, .slice ad zs.length cap]] w fun e w' => e = .returned (.int .i64 (gate (plainE n f d p r dr o sl md fr zs) (3 * (f + 1) * d))) ∧ Below w.heap.size w w' := by
  have HT : Hid (Tab (w.alloc (.cells #[.int .i64 n, .int .i64 f, .int .i64 d, .int .i64 p, .int .i64 r, .int .i64 dr, .int .i64 o, .int .i64 sl, .int .i64 md, .int .i64 fr, .slice ad zs.length cap] 24)) ad zs) := hT.below (ballc _ _)
  have HG : Hid (gate (plainE n f d p r dr o sl md fr zs) (3 * (f + 1) * d) = gate (plainE n f d p r dr o sl md fr zs) (lengthW f d)) := gate_congr fun h => by
    obtain ⟨_, _, h1, h2, _, h3, h4, _⟩ := plainE_ok h
    exact (lengthW_eq h1 h2 h3 h4).symm
  clear hT
  go_enter Try.func30, Try.ntmps30
  go_wp2
  refine wp_region_quiet_below (by kernel_rfl) (by kernel_rfl) ?_
  repeat (go_big_quiet_step (first | (go_at_call 69; exact Calls.regrown_of (cLength_any _ _ _ _ _ _ _ _ _ _ _ _ _ _)) | (go_at_call 68; exact Calls.regrown_of (ofPlain_any _ _ _ _ _ _ _ _ _ _ _ _ _ _ _ hl (HT.out.below (below_regrown _ _ _))))))
  refine wpQuiet_nil ?_
  intro w2 hw2
  have HB2 : Hid (Below w.heap.size w w2) := bthen (ballc w _) (rg_below hw2)
  clear hw2
  go_wp2
  go_ret
  exact ⟨ret_i HG.out.symm, HB2.out⟩
end Go.Proofs.Ytkolhbacgoafcaa

/- The calls Quorum, Some, Enough, Most and Least of package tally return what plain functions give, and make at most new memory; conditions: the table and the votes lie where they say, and lengths fit int. -/
namespace Go.Proofs.Ytkolhbacgoafcaa
open Go.ChangeShapes Go.WideShapes Go.ChangeAt Go.RowKit
set_option linter.unusedVariables false
attribute [local go_sem] idx3_0 idx3_1 idx3_2

theorem Quorum_any (n f d p r dr o sl md fr : Int) (ad : Option Addr) (cap : Nat) (zs : List Int) (w : World) (hl : zs.length ≤ 9223372036854775807) (hT : Tab w ad zs) :
    Calls Try.prog 115 #[.agg #[.int .i64 n, .int .i64 f, .int .i64 d, .int .i64 p, .int .i64 r, .int .i64 dr, .int .i64 o, .int .i64 sl, .int .i64 md, .int .i64 fr, .slice ad zs.length cap]] w fun e w' => e = .returned (.int .i64 (gate (plainE n f d p r dr o sl md fr zs) (n - f))) ∧ Below w.heap.size w w' := by
  have HQ := hidden (plain_any n f d p r dr o sl md fr ad cap zs (w.alloc (.cells #[.int .i64 n, .int .i64 f, .int .i64 d, .int .i64 p, .int .i64 r, .int .i64 dr, .int .i64 o, .int .i64 sl, .int .i64 md, .int .i64 fr, .slice ad zs.length cap] 24)) hl (hT.below (ballc _ _)))
  have HK := hidden (fun h => plainE_ok (n := n) (f := f) (d := d) (p := p) (r := r) (dr := dr) (o := o) (sl := sl) (md := md) (fr := fr) (zs := zs) h)
  clear hT
  generalize plainE n f d p r dr o sl md fr zs = E at HQ HK
  by_cases hE : E = 0
  · subst hE
    obtain ⟨n1, n2, f1, f2, _⟩ := HK.out rfl
    go_enter Try.func115, Try.ntmps115
    go_wp2_with fail
    refine HQ.out.mono ?_
    rintro e w2 ⟨rfl, hb2⟩
    have HB2 : Hid (Below w.heap.size w w2) := bthen (ballc w _) hb2
    obtain ⟨hbox, hsz⟩ := box_at hb2
    clear hb2 HQ HK
    go_wp2
    go_ret
    exact ⟨ret_i (gate_ok _).symm, HB2.out⟩
  · go_enter Try.func115, Try.ntmps115
    go_wp2_with fail
    refine HQ.out.mono ?_
    rintro e w2 ⟨rfl, hb2⟩
    have HB2 : Hid (Below w.heap.size w w2) := bthen (ballc w _) hb2
    clear hb2 HQ HK
    go_wp2
    go_ret
    exact ⟨ret_i (gate_no hE _).symm, HB2.out⟩
theorem Some_any (n f d p r dr o sl md fr : Int) (ad : Option Addr) (cap : Nat) (zs : List Int) (w : World) (hl : zs.length ≤ 9223372036854775807) (hT : Tab w ad zs) :
    Calls Try.prog 117 #[.agg #[.int .i64 n, .int .i64 f, .int .i64 d, .int .i64 p, .int .i64 r, .int .i64 dr, .int .i64 o, .int .i64 sl, .int .i64 md, .int .i64 fr, .slice ad zs.length cap]] w fun e w' => e = .returned (.int .i64 (gate (plainE n f d p r dr o sl md fr zs) (f + 1))) ∧ Below w.heap.size w w' := by
  have HQ := hidden (plain_any n f d p r dr o sl md fr ad cap zs (w.alloc (.cells #[.int .i64 n, .int .i64 f, .int .i64 d, .int .i64 p, .int .i64 r, .int .i64 dr, .int .i64 o, .int .i64 sl, .int .i64 md, .int .i64 fr, .slice ad zs.length cap] 24)) hl (hT.below (ballc _ _)))
  have HK := hidden (fun h => plainE_ok (n := n) (f := f) (d := d) (p := p) (r := r) (dr := dr) (o := o) (sl := sl) (md := md) (fr := fr) (zs := zs) h)
  clear hT
  generalize plainE n f d p r dr o sl md fr zs = E at HQ HK
  by_cases hE : E = 0
  · subst hE
    obtain ⟨n1, n2, f1, f2, _⟩ := HK.out rfl
    go_enter Try.func117, Try.ntmps117
    go_wp2_with fail
    refine HQ.out.mono ?_
    rintro e w2 ⟨rfl, hb2⟩
    have HB2 : Hid (Below w.heap.size w w2) := bthen (ballc w _) hb2
    obtain ⟨hbox, hsz⟩ := box_at hb2
    clear hb2 HQ HK
    go_wp2
    go_ret
    exact ⟨ret_i (gate_ok _).symm, HB2.out⟩
  · go_enter Try.func117, Try.ntmps117
    go_wp2_with fail
    refine HQ.out.mono ?_
    rintro e w2 ⟨rfl, hb2⟩
    have HB2 : Hid (Below w.heap.size w w2) := bthen (ballc w _) hb2
    clear hb2 HQ HK
    go_wp2
    go_ret
    exact ⟨ret_i (gate_no hE _).symm, HB2.out⟩

theorem Enough_any (n f d p r dr o sl md fr : Int) (ad : Option Addr) (cap : Nat) (zs : List Int) (v : Int) (a2 : Option Addr) (len c2 : Nat) (vs : List Int) (w : World) (hl : zs.length ≤ 9223372036854775807) (hT : Tab w ad zs) (hlv : vs.length ≤ 9223372036854775807) (hV : kInt.Lies w.heap.size w (.slice a2 len c2) vs) :
    Calls Try.prog 113 #[.agg #[.int .i64 n, .int .i64 f, .int .i64 d, .int .i64 p, .int .i64 r, .int .i64 dr, .int .i64 o, .int .i64 sl, .int .i64 md, .int .i64 fr, .slice ad zs.length cap], .int .i64 v, .slice a2 len c2] w fun e w' => e = .returned (.bool (enoughB (plainE n f d p r dr o sl md fr zs) n f v vs)) ∧ Below w.heap.size w w' := by
  have HQ := hidden (Quorum_any n f d p r dr o sl md fr ad cap zs (w.alloc (.cells #[.int .i64 n, .int .i64 f, .int .i64 d, .int .i64 p, .int .i64 r, .int .i64 dr, .int .i64 o, .int .i64 sl, .int .i64 md, .int .i64 fr, .slice ad zs.length cap] 24)) hl (hT.below (ballc _ _)))
  have HK := hidden (fun h => plainE_ok (n := n) (f := f) (d := d) (p := p) (r := r) (dr := dr) (o := o) (sl := sl) (md := md) (fr := fr) (zs := zs) h)
  have HV := hidden (hV.later (ballc w (.cells #[.int .i64 n, .int .i64 f, .int .i64 d, .int .i64 p, .int .i64 r, .int .i64 dr, .int .i64 o, .int .i64 sl, .int .i64 md, .int .i64 fr, .slice ad zs.length cap] 24)))
  clear hT hV
  generalize plainE n f d p r dr o sl md fr zs = E at HQ HK
  by_cases hE : E = 0
  · obtain ⟨n1, n2, f1, f2, n3, _⟩ := HK.out hE
    subst hE
    rw [gate_ok] at HQ
    have HE := hidden (enoughB_ok (E := 0) rfl n f v vs)
    have hq : 0 < n - f := by omega
    generalize n - f = q at *
    have C2 := fun V h => TCount_any v a2 len c2 vs hlv V h
    generalize cntF v vs = c at *
    have iq : decide (0 < q) = true := by simp [hq]
    by_cases hc : q ≤ c
    · rw [decide_eq_true hc] at HE
      have ic : decide (q ≤ c) = true := by simp [hc]
      go_enter Try.func113, Try.ntmps113
      go_wp2_with fail
      refine HQ.out.mono ?_
      rintro e w2 ⟨rfl, hb2⟩
      have HV2 := hidden (HV.out.later hb2)
      have HB2 : Hid (Below w.heap.size w w2) := bthen (ballc w _) hb2
      clear hb2 HQ HK HV
      go_wp2_with fail
      refine (C2 _ HV2.out).mono ?_
      rintro e w3 ⟨rfl, hb3⟩
      have HB3 := hidden (bthen HB2.out hb3)
      clear hb3 C2 HB2
      go_wp2
      go_ret
      exact ⟨ret_b HE.out.symm, HB3.out⟩
    · rw [decide_eq_false hc] at HE
      have ic : decide (q ≤ c) = false := by simp; omega
      go_enter Try.func113, Try.ntmps113
      go_wp2_with fail
      refine HQ.out.mono ?_
      rintro e w2 ⟨rfl, hb2⟩
      have HV2 := hidden (HV.out.later hb2)
      have HB2 : Hid (Below w.heap.size w w2) := bthen (ballc w _) hb2
      clear hb2 HQ HK HV
      go_wp2_with fail
      refine (C2 _ HV2.out).mono ?_
      rintro e w3 ⟨rfl, hb3⟩
      have HB3 := hidden (bthen HB2.out hb3)
      clear hb3 C2 HB2
      go_wp2
      go_ret
      exact ⟨ret_b HE.out.symm, HB3.out⟩
  · rw [gate_no hE] at HQ
    have HE := hidden (enoughB_no hE n f v vs)
    clear hE HK
    go_enter Try.func113, Try.ntmps113
    go_wp2_with fail
    refine HQ.out.mono ?_
    rintro e w2 ⟨rfl, hb2⟩
    have HB2 : Hid (Below w.heap.size w w2) := bthen (ballc w _) hb2
    clear hb2 HQ
    go_wp2
    go_ret
    exact ⟨ret_b HE.out.symm, HB2.out⟩

set_option maxHeartbeats 2000000 in
theorem Most_any (n f d p r dr o sl md fr : Int) (ad : Option Addr) (cap : Nat) (zs : List Int) (a2 : Option Addr) (len c2 : Nat) (vs : List Int) (w : World) (hl : zs.length ≤ 9223372036854775807) (hT : Tab w ad zs) (hlv : vs.length ≤ 9223372036854775807) (hV : kInt.Lies w.heap.size w (.slice a2 len c2) vs) :
    Calls Try.prog 111 #[.agg #[.int .i64 n, .int .i64 f, .int .i64 d, .int .i64 p, .int .i64 r, .int .i64 dr, .int .i64 o, .int .i64 sl, .int .i64 md, .int .i64 fr, .slice ad zs.length cap], .slice a2 len c2] w fun e w' => e = .returned (.int .i64 (mostF (plainE n f d p r dr o sl md fr zs) n f vs)) ∧ Below w.heap.size w w' := by
  have HQ := hidden (Quorum_any n f d p r dr o sl md fr ad cap zs (w.alloc (.cells #[.int .i64 n, .int .i64 f, .int .i64 d, .int .i64 p, .int .i64 r, .int .i64 dr, .int .i64 o, .int .i64 sl, .int .i64 md, .int .i64 fr, .slice ad zs.length cap] 24)) hl (hT.below (ballc _ _)))
  have HK := hidden (fun h => plainE_ok (n := n) (f := f) (d := d) (p := p) (r := r) (dr := dr) (o := o) (sl := sl) (md := md) (fr := fr) (zs := zs) h)
  have HV := hidden (hV.later (ballc w (.cells #[.int .i64 n, .int .i64 f, .int .i64 d, .int .i64 p, .int .i64 r, .int .i64 dr, .int .i64 o, .int .i64 sl, .int .i64 md, .int .i64 fr, .slice ad zs.length cap] 24)))
  have C2 := fun V h => counted_any a2 len c2 vs hlv V h
  clear hT hV
  generalize plainE n f d p r dr o sl md fr zs = E at HQ HK
  by_cases hE : E = 0
  · obtain ⟨n1, n2, f1, f2, n3, _⟩ := HK.out hE
    subst hE
    rw [gate_ok] at HQ
    have hq : 0 < n - f := by omega
    have m1 := fun h => mostF_1 (E := 0) rfl (n := n) (f := f) (zs := vs) h
    have m0 := fun h => mostF_0 (E := 0) rfl (n := n) (f := f) (zs := vs) h
    have m2 := fun h => mostF_2 (E := 0) rfl (n := n) (f := f) (zs := vs) h
    generalize mostF 0 n f vs = M at *
    generalize n - f = q at *
    generalize cntL 0 vs = k0 at *
    generalize cntL 1 vs = k1 at *
    generalize cntL 2 vs = k2 at *
    have iq : (q == 0) = false := by simp; omega
    by_cases h1 : q ≤ (k1 : Int)
    · have HM := hidden (m1 h1)
      clear m0 m1 m2
      go_enter Try.func111, Try.ntmps111
      go_wp2_with fail
      refine HQ.out.mono ?_
      rintro e w2 ⟨rfl, hb2⟩
      have HV2 := hidden (HV.out.later hb2)
      have HB2 : Hid (Below w.heap.size w w2) := bthen (ballc w _) hb2
      clear hb2 HQ HK HV
      go_wp2_with fail
      refine (C2 _ HV2.out).mono ?_
      rintro e w3 ⟨rfl, hb3⟩
      have HB3 := hidden (bthen HB2.out hb3)
      clear hb3 C2 HB2
      go_wp2
      go_ret
      exact ⟨ret_i HM.out.symm, bthen HB3.out (ballc _ _)⟩
    · by_cases h0 : q ≤ (k0 : Int)
      · have HM := hidden (m0 h1 h0)
        clear m0 m1 m2
        go_enter Try.func111, Try.ntmps111
        go_wp2_with fail
        refine HQ.out.mono ?_
        rintro e w2 ⟨rfl, hb2⟩
        have HV2 := hidden (HV.out.later hb2)
        have HB2 : Hid (Below w.heap.size w w2) := bthen (ballc w _) hb2
        clear hb2 HQ HK HV
        go_wp2_with fail
        refine (C2 _ HV2.out).mono ?_
        rintro e w3 ⟨rfl, hb3⟩
        have HB3 := hidden (bthen HB2.out hb3)
        clear hb3 C2 HB2
        go_wp2
        go_ret
        exact ⟨ret_i HM.out.symm, bthen HB3.out (ballc _ _)⟩
      · have HM := hidden (m2 h1 h0)
        clear m0 m1 m2
        go_enter Try.func111, Try.ntmps111
        go_wp2_with fail
        refine HQ.out.mono ?_
        rintro e w2 ⟨rfl, hb2⟩
        have HV2 := hidden (HV.out.later hb2)
        have HB2 : Hid (Below w.heap.size w w2) := bthen (ballc w _) hb2
        clear hb2 HQ HK HV
        go_wp2_with fail
        refine (C2 _ HV2.out).mono ?_
        rintro e w3 ⟨rfl, hb3⟩
        have HB3 := hidden (bthen HB2.out hb3)
        clear hb3 C2 HB2
        go_wp2
        go_ret
        exact ⟨ret_i HM.out.symm, bthen HB3.out (ballc _ _)⟩
  · rw [gate_no hE] at HQ
    have HE := hidden (mostF_no hE n f vs)
    clear hE HK
    go_enter Try.func111, Try.ntmps111
    go_wp2_with fail
    refine HQ.out.mono ?_
    rintro e w2 ⟨rfl, hb2⟩
    have HV2 := hidden (HV.out.later hb2)
    have HB2 : Hid (Below w.heap.size w w2) := bthen (ballc w _) hb2
    clear hb2 HQ HV
    go_wp2_with fail
    refine (C2 _ HV2.out).mono ?_
    rintro e w3 ⟨rfl, hb3⟩
    have HB3 := hidden (bthen HB2.out hb3)
    clear hb3 C2 HB2
    go_wp2
    go_ret
    exact ⟨ret_i HE.out.symm, bthen HB3.out (ballc _ _)⟩
set_option maxHeartbeats 4000000 in
theorem Least_any (n f d p r dr o sl md fr : Int) (ad : Option Addr) (cap : Nat) (zs : List Int) (now : Int) (a2 : Option Addr) (len c2 : Nat) (vs : List Int) (w : World) (hl : zs.length ≤ 9223372036854775807) (hT : Tab w ad zs) (hlv : vs.length ≤ 9223372036854775807) (hV : kInt.Lies w.heap.size w (.slice a2 len c2) vs) :
    Calls Try.prog 112 #[.agg #[.int .i64 n, .int .i64 f, .int .i64 d, .int .i64 p, .int .i64 r, .int .i64 dr, .int .i64 o, .int .i64 sl, .int .i64 md, .int .i64 fr, .slice ad zs.length cap], .int .i64 now, .slice a2 len c2] w fun e w' => e = .returned (.int .i64 (leastF (plainE n f d p r dr o sl md fr zs) f now vs)) ∧ Below w.heap.size w w' := by
  have HQ := hidden (Some_any n f d p r dr o sl md fr ad cap zs (w.alloc (.cells #[.int .i64 n, .int .i64 f, .int .i64 d, .int .i64 p, .int .i64 r, .int .i64 dr, .int .i64 o, .int .i64 sl, .int .i64 md, .int .i64 fr, .slice ad zs.length cap] 24)) hl (hT.below (ballc _ _)))
  have HK := hidden (fun h => plainE_ok (n := n) (f := f) (d := d) (p := p) (r := r) (dr := dr) (o := o) (sl := sl) (md := md) (fr := fr) (zs := zs) h)
  have HV := hidden (hV.later (ballc w (.cells #[.int .i64 n, .int .i64 f, .int .i64 d, .int .i64 p, .int .i64 r, .int .i64 dr, .int .i64 o, .int .i64 sl, .int .i64 md, .int .i64 fr, .slice ad zs.length cap] 24)))
  have C2 := fun V h => counted_any a2 len c2 vs hlv V h
  clear hT hV
  generalize plainE n f d p r dr o sl md fr zs = E at HQ HK
  by_cases hE : E = 0
  · obtain ⟨n1, n2, f1, f2, n3, _⟩ := HK.out hE
    subst hE
    rw [gate_ok] at HQ
    have hq : 0 < f + 1 := by omega
    have m0 := fun h => leastF_0 (E := 0) rfl (f := f) (now := now) (zs := vs) h
    have m1 := fun h => leastF_1 (E := 0) rfl (f := f) (now := now) (zs := vs) h
    have m2 := fun h => leastF_2 (E := 0) rfl (f := f) (now := now) (zs := vs) h
    have m3 := fun h => leastF_n (E := 0) rfl (f := f) (now := now) (zs := vs) h
    generalize leastF 0 f now vs = M at *
    generalize f + 1 = q at *
    generalize cntL 0 vs = k0 at *
    generalize cntL 1 vs = k1 at *
    generalize cntL 2 vs = k2 at *
    have iq : (q == 0) = false := by simp; omega
    by_cases h0 : q ≤ (k0 : Int)
    · have HM := hidden (m0 h0)
      clear m0 m1 m2 m3
      go_enter Try.func112, Try.ntmps112
      go_wp2_with fail
      refine HQ.out.mono ?_
      rintro e w2 ⟨rfl, hb2⟩
      have HV2 := hidden (HV.out.later hb2)
      have HB2 : Hid (Below w.heap.size w w2) := bthen (ballc w _) hb2
      clear hb2 HQ HK HV
      go_wp2_with fail
      refine (C2 _ HV2.out).mono ?_
      rintro e w3 ⟨rfl, hb3⟩
      have HB3 := hidden (bthen HB2.out hb3)
      clear hb3 C2 HB2
      go_wp2
      refine wp_loop_rounds 4 ?_
      rw [rounds_succ]
      go_wp2
      go_ret
      first | exact ⟨ret_i HM.out.symm, HB3.out⟩ | exact ⟨ret_i HM.out.symm, bthen HB3.out (ballc _ _)⟩
    · by_cases h1 : q ≤ (k1 : Int)
      · have HM := hidden (m1 h0 h1)
        clear m0 m1 m2 m3
        go_enter Try.func112, Try.ntmps112
        go_wp2_with fail
        refine HQ.out.mono ?_
        rintro e w2 ⟨rfl, hb2⟩
        have HV2 := hidden (HV.out.later hb2)
        have HB2 : Hid (Below w.heap.size w w2) := bthen (ballc w _) hb2
        clear hb2 HQ HK HV
        go_wp2_with fail
        refine (C2 _ HV2.out).mono ?_
        rintro e w3 ⟨rfl, hb3⟩
        have HB3 := hidden (bthen HB2.out hb3)
        clear hb3 C2 HB2
        go_wp2
        refine wp_loop_rounds 4 ?_
        rw [rounds_succ]
        go_wp2
        rw [rounds_succ]
        go_wp2
        go_ret
        first | exact ⟨ret_i HM.out.symm, HB3.out⟩ | exact ⟨ret_i HM.out.symm, bthen HB3.out (ballc _ _)⟩
      · by_cases h2 : q ≤ (k2 : Int)
        · have HM := hidden (m2 h0 h1 h2)
          clear m0 m1 m2 m3
          go_enter Try.func112, Try.ntmps112
          go_wp2_with fail
          refine HQ.out.mono ?_
          rintro e w2 ⟨rfl, hb2⟩
          have HV2 := hidden (HV.out.later hb2)
          have HB2 : Hid (Below w.heap.size w w2) := bthen (ballc w _) hb2
          clear hb2 HQ HK HV
          go_wp2_with fail
          refine (C2 _ HV2.out).mono ?_
          rintro e w3 ⟨rfl, hb3⟩
          have HB3 := hidden (bthen HB2.out hb3)
          clear hb3 C2 HB2
          go_wp2
          refine wp_loop_rounds 4 ?_
          rw [rounds_succ]
          go_wp2
          rw [rounds_succ]
          go_wp2
          rw [rounds_succ]
          go_wp2
          go_ret
          first | exact ⟨ret_i HM.out.symm, HB3.out⟩ | exact ⟨ret_i HM.out.symm, bthen HB3.out (ballc _ _)⟩
        · have HM := hidden (m3 h0 h1 h2)
          clear m0 m1 m2 m3
          go_enter Try.func112, Try.ntmps112
          go_wp2_with fail
          refine HQ.out.mono ?_
          rintro e w2 ⟨rfl, hb2⟩
          have HV2 := hidden (HV.out.later hb2)
          have HB2 : Hid (Below w.heap.size w w2) := bthen (ballc w _) hb2
          clear hb2 HQ HK HV
          go_wp2_with fail
          refine (C2 _ HV2.out).mono ?_
          rintro e w3 ⟨rfl, hb3⟩
          have HB3 := hidden (bthen HB2.out hb3)
          clear hb3 C2 HB2
          go_wp2
          refine wp_loop_rounds 4 ?_
          rw [rounds_succ]
          go_wp2
          rw [rounds_succ]
          go_wp2
          rw [rounds_succ]
          go_wp2
          rw [rounds_succ]
          go_wp2
          go_ret
          first | exact ⟨ret_i HM.out.symm, HB3.out⟩ | exact ⟨ret_i HM.out.symm, bthen HB3.out (ballc _ _)⟩
  · rw [gate_no hE] at HQ
    have HE := hidden (leastF_no hE f now vs)
    clear hE HK
    go_enter Try.func112, Try.ntmps112
    go_wp2_with fail
    refine HQ.out.mono ?_
    rintro e w2 ⟨rfl, hb2⟩
    have HB2 : Hid (Below w.heap.size w w2) := bthen (ballc w _) hb2
    clear hb2 HQ HV
    go_wp2
    go_ret
    exact ⟨ret_i HE.out.symm, HB2.out⟩
end Go.Proofs.Ytkolhbacgoafcaa

/- The calls Start, valueOf, obey, Step, Code and Read of package king return what plain functions give, and make at most new memory; conditions: the table and the votes lie where they say, and lengths and numbers fit int. -/
namespace Go.Proofs.Ytkolhbacgoafcaa
open Go.ChangeShapes Go.WideShapes Go.ChangeAt Go.RowKit
set_option linter.unusedVariables false
attribute [local go_sem] cell_rg

theorem set2T {w : World} {b : Nat} {z0 z1 : Value} {t : TypeId} (h : w.heap[b]? = some (.cells #[z0, z1] t (0, 0))) (v0 v1 : Value) :
    ((w.setCell ⟨b, 0, none⟩ v0).setCell ⟨b, 1, none⟩ v1).heap[b]? = some (.cells #[v0, v1] t (0, 0)) := by
  have h1 := heap_setCell_same _ b 0 _ _ v0 h
  have h2 := heap_setCell_same _ b 1 _ _ v1 h1
  simpa using h2
theorem read2T {w : World} {b : Nat} {z0 z1 : Value} {t : TypeId} (h : w.heap[b]? = some (.cells #[z0, z1] t (0, 0))) (v0 v1 : Value) :
    ((w.setCell ⟨b, 0, none⟩ v0).setCell ⟨b, 1, none⟩ v1).cell? ⟨b, 0, none⟩ = some v0 ∧ ((w.setCell ⟨b, 0, none⟩ v0).setCell ⟨b, 1, none⟩ v1).cell? ⟨b, 1, none⟩ = some v1 := by
  have h2 := set2T h v0 v1
  refine ⟨?_, ?_⟩ <;> simp only [World.cell?, h2] <;> rfl
theorem below2T {B : Nat} {a w : World} {b : Nat} (h : Below B a w) (hp : B ≤ b) (v0 v1 : Value) : Below B a ((w.setCell ⟨b, 0, none⟩ v0).setCell ⟨b, 1, none⟩ v1) :=
  (h.setCell (p := ⟨b, 0, none⟩) hp _).setCell (p := ⟨b, 1, none⟩) hp _
theorem Start_any (z : Int) (w : World) :
    Calls Try.prog 39 #[.int .i64 z] w fun e w' => e = .returned (agB (startF z)) ∧ Below w.heap.size w w' := by
  by_cases h : z = 1
  · subst h
    go_enter Try.func39, Try.ntmps39
    go_wp2
    exact bodyPost_ret (v := .agg #[.int .i64 1, .bool false]) (by simp [results, Try.results39, go_sem]) rfl ⟨rfl, ballc _ _⟩
  · have e : startF z = (0, false) := if_neg h
    rw [e]
    have e2 : (z == 1) = false := by simp [h]
    go_enter Try.func39, Try.ntmps39
    go_wp2
    exact bodyPost_ret (v := .agg #[.int .i64 0, .bool false]) (by simp [results, Try.results39, go_sem]) rfl ⟨rfl, ballc _ _⟩
theorem valueOf_any (b : Int × Bool) (w : World) :
    Calls Try.prog 76 #[.agg #[.int .i64 b.1, .bool b.2]] w fun e w' => e = .returned (.int .i64 (valF b)) ∧ Below w.heap.size w w' := by
  obtain ⟨v, s⟩ := b
  by_cases h : v < 0
  · rw [valF_lo h]
    have e1 : decide (v < 0) = true := decide_eq_true h
    go_enter Try.func76, Try.ntmps76
    go_wp2
    go_ret
    exact ⟨rfl, ballc _ _⟩
  · have e1 : decide (v < 0) = false := decide_eq_false h
    by_cases h2 : 3 ≤ v
    · rw [valF_hi h h2]
      have e2 : decide (3 ≤ v) = true := decide_eq_true h2
      go_enter Try.func76, Try.ntmps76
      go_wp2
      go_ret
      exact ⟨rfl, ballc _ _⟩
    · rw [valF_in h h2]
      have e2 : decide (3 ≤ v) = false := decide_eq_false h2
      go_enter Try.func76, Try.ntmps76
      go_wp2
      go_ret
      exact ⟨rfl, ballc _ _⟩
theorem Read_any (c : Int) (w : World) :
    Calls Try.prog 98 #[.int .i64 c] w fun e w' => e = .returned (agB (readK c)) ∧ Below w.heap.size w w' := by
  by_cases h : c < 0
  · have e : readK c = (2, false) := if_pos (.inl h)
    rw [e]
    have e1 : decide (c < 0) = true := decide_eq_true h
    go_enter Try.func98, Try.ntmps98
    go_wp2
    exact bodyPost_ret (v := .agg #[.int .i64 2, .bool false]) (by simp [results, Try.results98, go_sem]) rfl ⟨rfl, ballc _ _⟩
  · have e1 : decide (c < 0) = false := decide_eq_false h
    by_cases h2 : 6 ≤ c
    · have e : readK c = (2, false) := if_pos (.inr h2)
      rw [e]
      have e2 : decide (6 ≤ c) = true := decide_eq_true h2
      go_enter Try.func98, Try.ntmps98
      go_wp2
      exact bodyPost_ret (v := .agg #[.int .i64 2, .bool false]) (by simp [results, Try.results98, go_sem]) rfl ⟨rfl, ballc _ _⟩
    · have e2 : decide (6 ≤ c) = false := decide_eq_false h2
      have e : readK c = (c.tmod 3, decide (3 ≤ c)) := if_neg (by omega)
      rw [e]
      have hc : c = 0 ∨ c = 1 ∨ c = 2 ∨ c = 3 ∨ c = 4 ∨ c = 5 := by omega
      clear e e1 e2 h h2
      rcases hc with rfl | rfl | rfl | rfl | rfl | rfl
      all_goals
        go_enter Try.func98, Try.ntmps98
        go_wp2
        refine bodyPost_ret (v := _) (by simp [results, Try.results98, go_sem]; rfl) rfl ⟨rfl, ?_⟩
        first | exact ballc _ _ | exact below2T (ballc _ _) (Nat.le_refl _) _ _
theorem Code_any (b : Int × Bool) (w : World) :
    Calls Try.prog 38 #[.agg #[.int .i64 b.1, .bool b.2]] w fun e w' => e = .returned (.int .i64 (codeF b)) ∧ Below w.heap.size w w' := by
  obtain ⟨v, s⟩ := b
  have HV := hidden (fun V => valueOf_any (v, s) V)
  have hq := valF_bd (v, s)
  cases s
  · have e : codeF (v, false) = valF (v, false) := if_neg (by simp)
    rw [e]
    generalize valF (v, false) = q at *
    go_enter Try.func38, Try.ntmps38
    go_wp2_with fail
    refine (HV.out _).mono ?_
    rintro e w2 ⟨rfl, hb⟩
    have HB := hidden (bthen (ballc w _) hb)
    clear hb
    go_wp2
    go_ret
    exact ⟨rfl, HB.out⟩
  · have e : codeF (v, true) = 3 + valF (v, true) := if_pos rfl
    rw [e]
    generalize valF (v, true) = q at *
    go_enter Try.func38, Try.ntmps38
    go_wp2_with fail
    refine (HV.out _).mono ?_
    rintro e w2 ⟨rfl, hb⟩
    have HB := hidden (bthen (ballc w _) hb)
    clear hb
    go_wp2
    go_ret
    exact ⟨rfl, HB.out⟩

theorem obey_any (b : Int × Bool) (k : Int) (w : World) :
    Calls Try.prog 114 #[.agg #[.int .i64 b.1, .bool b.2], .int .i64 k] w fun e w' => e = .returned (agB (obeyF b k)) ∧ Below w.heap.size w w' := by
  obtain ⟨v, s⟩ := b
  have HV := hidden (fun V => valueOf_any (v, s) V)
  have hs := obeyF_s (b := (v, s)) (k := k)
  have h1 := obeyF_1 (b := (v, s)) (k := k)
  have h0 := obeyF_0 (b := (v, s)) (k := k)
  dsimp only at hs h1 h0
  generalize valF (v, s) = q at *
  generalize obeyF (v, s) k = r at *
  by_cases hq : q = 2
  · subst hq
    by_cases hk : k = 1
    · obtain rfl := h1 (fun h => h.1 rfl) (.inl hk)
      subst hk
      clear hs h1 h0
      go_enter Try.func114, Try.ntmps114
      go_wp2_with fail
      refine (HV.out _).mono ?_
      rintro e w2 ⟨rfl, hb⟩
      have hk0 := blk_later (blk_later (blk_nw w _ _) (ballc _ (.cells #[.int .i64 0, .bool false] 40))) hb
      have hk1 := blk_later (blk_newAt (w.alloc (.cells #[.int .i64 v, .bool s] 40)) #[.int .i64 0, .bool false] 40 (b := w.heap.size + 1) (by simp)) hb
      have hc0 := fun i => blk_cell hk0 i
      have hc1 := fun i => blk_cell hk1 i
      have hop := fun i => blk_frozen hk1 i
      have hl0 := blk_lt hk0
      have hl1 := blk_lt hk1
      have HB := hidden (bthen (bthen (ballc w _) (ballc _ _)) hb)
      have HK := hidden hk1
      clear hb hk0 hk1 HV
      go_wp2
      obtain ⟨r0, r1⟩ := read2T HK.out (.int .i64 1) (.bool false)
      exact bodyPost_ret (v := .agg #[.int .i64 1, .bool false]) (by simp [results, Try.results114, go_sem, r0, r1]) rfl ⟨rfl, below2T HB.out (by omega) _ _⟩
    · have j1 : (k == 1) = false := by simp [hk]
      by_cases hk2 : k = 2
      · obtain rfl := h1 (fun h => h.1 rfl) (.inr hk2)
        subst hk2
        clear hs h1 h0 hk
        go_enter Try.func114, Try.ntmps114
        go_wp2_with fail
        refine (HV.out _).mono ?_
        rintro e w2 ⟨rfl, hb⟩
        have hk0 := blk_later (blk_later (blk_nw w _ _) (ballc _ (.cells #[.int .i64 0, .bool false] 40))) hb
        have hk1 := blk_later (blk_newAt (w.alloc (.cells #[.int .i64 v, .bool s] 40)) #[.int .i64 0, .bool false] 40 (b := w.heap.size + 1) (by simp)) hb
        have hc0 := fun i => blk_cell hk0 i
        have hc1 := fun i => blk_cell hk1 i
        have hop := fun i => blk_frozen hk1 i
        have hl0 := blk_lt hk0
        have hl1 := blk_lt hk1
        have HB := hidden (bthen (bthen (ballc w _) (ballc _ _)) hb)
        have HK := hidden hk1
        clear hb hk0 hk1 HV
        go_wp2
        obtain ⟨r0, r1⟩ := read2T HK.out (.int .i64 1) (.bool false)
        exact bodyPost_ret (v := .agg #[.int .i64 1, .bool false]) (by simp [results, Try.results114, go_sem, r0, r1]) rfl ⟨rfl, below2T HB.out (by omega) _ _⟩
      · have j2 : (k == 2) = false := by simp [hk2]
        obtain rfl := h0 (fun h => h.1 rfl) (by omega)
        clear hs h1 h0
        go_enter Try.func114, Try.ntmps114
        go_wp2_with fail
        refine (HV.out _).mono ?_
        rintro e w2 ⟨rfl, hb⟩
        have hk0 := blk_later (blk_later (blk_nw w _ _) (ballc _ (.cells #[.int .i64 0, .bool false] 40))) hb
        have hk1 := blk_later (blk_newAt (w.alloc (.cells #[.int .i64 v, .bool s] 40)) #[.int .i64 0, .bool false] 40 (b := w.heap.size + 1) (by simp)) hb
        have hc0 := fun i => blk_cell hk0 i
        have hc1 := fun i => blk_cell hk1 i
        have hop := fun i => blk_frozen hk1 i
        have hl0 := blk_lt hk0
        have hl1 := blk_lt hk1
        have HB := hidden (bthen (bthen (ballc w _) (ballc _ _)) hb)
        have HK := hidden hk1
        clear hb hk0 hk1 HV
        go_wp2
        obtain ⟨r0, r1⟩ := read2T HK.out (.int .i64 0) (.bool false)
        exact bodyPost_ret (v := .agg #[.int .i64 0, .bool false]) (by simp [results, Try.results114, go_sem, r0, r1]) rfl ⟨rfl, below2T HB.out (by omega) _ _⟩
  · have j0 : (q == 2) = false := by simp [hq]
    cases s
    · by_cases hk : k = 1
      · obtain rfl := h1 (fun h => by cases h.2) (.inl hk)
        subst hk
        clear hs h1 h0
        go_enter Try.func114, Try.ntmps114
        go_wp2_with fail
        refine (HV.out _).mono ?_
        rintro e w2 ⟨rfl, hb⟩
        have hk0 := blk_later (blk_later (blk_nw w _ _) (ballc _ (.cells #[.int .i64 0, .bool false] 40))) hb
        have hk1 := blk_later (blk_newAt (w.alloc (.cells #[.int .i64 v, .bool false] 40)) #[.int .i64 0, .bool false] 40 (b := w.heap.size + 1) (by simp)) hb
        have hc0 := fun i => blk_cell hk0 i
        have hc1 := fun i => blk_cell hk1 i
        have hop := fun i => blk_frozen hk1 i
        have hl0 := blk_lt hk0
        have hl1 := blk_lt hk1
        have HB := hidden (bthen (bthen (ballc w _) (ballc _ _)) hb)
        have HK := hidden hk1
        clear hb hk0 hk1 HV
        go_wp2
        obtain ⟨r0, r1⟩ := read2T HK.out (.int .i64 1) (.bool false)
        exact bodyPost_ret (v := .agg #[.int .i64 1, .bool false]) (by simp [results, Try.results114, go_sem, r0, r1]) rfl ⟨rfl, below2T HB.out (by omega) _ _⟩
      · have j1 : (k == 1) = false := by simp [hk]
        by_cases hk2 : k = 2
        · obtain rfl := h1 (fun h => by cases h.2) (.inr hk2)
          subst hk2
          clear hs h1 h0 hk
          go_enter Try.func114, Try.ntmps114
          go_wp2_with fail
          refine (HV.out _).mono ?_
          rintro e w2 ⟨rfl, hb⟩
          have hk0 := blk_later (blk_later (blk_nw w _ _) (ballc _ (.cells #[.int .i64 0, .bool false] 40))) hb
          have hk1 := blk_later (blk_newAt (w.alloc (.cells #[.int .i64 v, .bool false] 40)) #[.int .i64 0, .bool false] 40 (b := w.heap.size + 1) (by simp)) hb
          have hc0 := fun i => blk_cell hk0 i
          have hc1 := fun i => blk_cell hk1 i
          have hop := fun i => blk_frozen hk1 i
          have hl0 := blk_lt hk0
          have hl1 := blk_lt hk1
          have HB := hidden (bthen (bthen (ballc w _) (ballc _ _)) hb)
          have HK := hidden hk1
          clear hb hk0 hk1 HV
          go_wp2
          obtain ⟨r0, r1⟩ := read2T HK.out (.int .i64 1) (.bool false)
          exact bodyPost_ret (v := .agg #[.int .i64 1, .bool false]) (by simp [results, Try.results114, go_sem, r0, r1]) rfl ⟨rfl, below2T HB.out (by omega) _ _⟩
        · have j2 : (k == 2) = false := by simp [hk2]
          obtain rfl := h0 (fun h => by cases h.2) (by omega)
          clear hs h1 h0
          go_enter Try.func114, Try.ntmps114
          go_wp2_with fail
          refine (HV.out _).mono ?_
          rintro e w2 ⟨rfl, hb⟩
          have hk0 := blk_later (blk_later (blk_nw w _ _) (ballc _ (.cells #[.int .i64 0, .bool false] 40))) hb
          have hk1 := blk_later (blk_newAt (w.alloc (.cells #[.int .i64 v, .bool false] 40)) #[.int .i64 0, .bool false] 40 (b := w.heap.size + 1) (by simp)) hb
          have hc0 := fun i => blk_cell hk0 i
          have hc1 := fun i => blk_cell hk1 i
          have hop := fun i => blk_frozen hk1 i
          have hl0 := blk_lt hk0
          have hl1 := blk_lt hk1
          have HB := hidden (bthen (bthen (ballc w _) (ballc _ _)) hb)
          have HK := hidden hk1
          clear hb hk0 hk1 HV
          go_wp2
          obtain ⟨r0, r1⟩ := read2T HK.out (.int .i64 0) (.bool false)
          exact bodyPost_ret (v := .agg #[.int .i64 0, .bool false]) (by simp [results, Try.results114, go_sem, r0, r1]) rfl ⟨rfl, below2T HB.out (by omega) _ _⟩
    · obtain rfl := hs hq rfl
      clear hs h1 h0
      go_enter Try.func114, Try.ntmps114
      go_wp2_with fail
      refine (HV.out _).mono ?_
      rintro e w2 ⟨rfl, hb⟩
      have hk0 := blk_later (blk_later (blk_nw w _ _) (ballc _ (.cells #[.int .i64 0, .bool false] 40))) hb
      have hk1 := blk_later (blk_newAt (w.alloc (.cells #[.int .i64 v, .bool true] 40)) #[.int .i64 0, .bool false] 40 (b := w.heap.size + 1) (by simp)) hb
      have hc0 := fun i => blk_cell hk0 i
      have hc1 := fun i => blk_cell hk1 i
      have hop := fun i => blk_frozen hk1 i
      have hl0 := blk_lt hk0
      have hl1 := blk_lt hk1
      have HB := hidden (bthen (bthen (ballc w _) (ballc _ _)) hb)
      have HK := hidden hk1
      clear hb hk0 hk1 HV
      go_wp2
      obtain ⟨r0, r1⟩ := read2T HK.out (.int .i64 q) (.bool false)
      exact bodyPost_ret (v := .agg #[.int .i64 q, .bool false]) (by simp [results, Try.results114, go_sem, r0, r1]) rfl ⟨rfl, below2T HB.out (by omega) _ _⟩
set_option maxHeartbeats 2000000 in
theorem KStep_any (n f d p r dr o sl md fr : Int) (ad : Option Addr) (cap : Nat) (zs : List Int) (x : Int) (b : Int × Bool) (k : Int) (a2 : Option Addr) (len c2 : Nat) (vs : List Int) (w : World) (hl : zs.length ≤ 9223372036854775807) (hT : Tab w ad zs) (hx : (Lit.int .i64 x).wf = true) (hlv : vs.length ≤ 9223372036854775807) (hV : kInt.Lies w.heap.size w (.slice a2 len c2) vs) :
    Calls Try.prog 108 #[.agg #[.int .i64 n, .int .i64 f, .int .i64 d, .int .i64 p, .int .i64 r, .int .i64 dr, .int .i64 o, .int .i64 sl, .int .i64 md, .int .i64 fr, .slice ad zs.length cap], .int .i64 x, .agg #[.int .i64 b.1, .bool b.2], .int .i64 k, .slice a2 len c2] w fun e w' => e = .returned (agB (stepF (plainE n f d p r dr o sl md fr zs) n f x b k vs)) ∧ Below w.heap.size w w' := by
  have hB0 : Below w.heap.size w (((w.alloc (.cells #[.int .i64 n, .int .i64 f, .int .i64 d, .int .i64 p, .int .i64 r, .int .i64 dr, .int .i64 o, .int .i64 sl, .int .i64 md, .int .i64 fr, .slice ad zs.length cap] 24)).alloc (.cells #[.int .i64 b.1, .bool b.2] 40)).alloc (.cells #[.int .i64 0, .bool false] 40)) := bthen (bthen (ballc w _) (ballc _ _)) (ballc _ _)
  have HT := hidden (hT.below hB0)
  have HV := hidden (hV.later hB0)
  have hk0 := blk_later (blk_later (blk_nw w #[.int .i64 n, .int .i64 f, .int .i64 d, .int .i64 p, .int .i64 r, .int .i64 dr, .int .i64 o, .int .i64 sl, .int .i64 md, .int .i64 fr, .slice ad zs.length cap] 24) (ballc _ (.cells #[.int .i64 b.1, .bool b.2] 40))) (ballc _ (.cells #[.int .i64 0, .bool false] 40))
  have hk1 := blk_later (blk_newAt (w.alloc (.cells #[.int .i64 n, .int .i64 f, .int .i64 d, .int .i64 p, .int .i64 r, .int .i64 dr, .int .i64 o, .int .i64 sl, .int .i64 md, .int .i64 fr, .slice ad zs.length cap] 24)) #[.int .i64 b.1, .bool b.2] 40 (b := w.heap.size + 1) (by simp)) (ballc _ (.cells #[.int .i64 0, .bool false] 40))
  have hk2 := blk_newAt ((w.alloc (.cells #[.int .i64 n, .int .i64 f, .int .i64 d, .int .i64 p, .int .i64 r, .int .i64 dr, .int .i64 o, .int .i64 sl, .int .i64 md, .int .i64 fr, .slice ad zs.length cap] 24)).alloc (.cells #[.int .i64 b.1, .bool b.2] 40)) #[.int .i64 0, .bool false] 40 (b := w.heap.size + 2) (by simp)
  have HK0 := hidden hk0
  have HK1 := hidden hk1
  have HK2 := hidden hk2
  have HB0 := hidden hB0
  have M1 := hidden (fun V h h2 => Most_any n f d p r dr o sl md fr ad cap zs a2 len c2 vs V hl h hlv h2)
  have L1 := hidden (fun V h h2 => Least_any n f d p r dr o sl md fr ad cap zs (valF b) a2 len c2 vs V hl h hlv h2)
  have E1 := hidden (fun v V h h2 => Enough_any n f d p r dr o sl md fr ad cap zs v a2 len c2 vs V hl h hlv h2)
  have OB := hidden (fun V => obey_any b k V)
  have VA := hidden (fun V => valueOf_any b V)
  have HM := hidden (fun V => mod_any x 3 V hx rfl)
  have s0 := stepF_0 (E := plainE n f d p r dr o sl md fr zs) (n := n) (f := f) (x := x) (b := b) (k := k) (vs := vs)
  have s1 := stepF_1 (E := plainE n f d p r dr o sl md fr zs) (n := n) (f := f) (x := x) (b := b) (k := k) (vs := vs)
  have s2 := stepF_2 (E := plainE n f d p r dr o sl md fr zs) (n := n) (f := f) (x := x) (b := b) (k := k) (vs := vs)
  have h3 := modF3 x
  clear hT hV hB0 hk0 hk1 hk2
  generalize plainE n f d p r dr o sl md fr zs = E at *
  generalize stepF E n f x b k vs = r at *
  obtain ⟨bv, bs⟩ := b
  dsimp only at *
  generalize mostF E n f vs = ms at *
  generalize valF (bv, bs) = q at *
  generalize leastF E f q vs = ls at *
  generalize modF x 3 = m at *
  have hm : m = 0 ∨ m = 1 ∨ m = 2 := by omega
  clear h3 hx
  rcases hm with rfl | rfl | rfl
  · obtain rfl := s0 rfl
    clear s0 s1 s2 L1 E1 OB VA
    go_enter Try.func108, Try.ntmps108
    go_wp2_with fail
    refine (HM.out _).mono ?_
    rintro e wm ⟨rfl, rfl⟩
    generalize (((w.alloc (.cells #[.int .i64 n, .int .i64 f, .int .i64 d, .int .i64 p, .int .i64 r, .int .i64 dr, .int .i64 o, .int .i64 sl, .int .i64 md, .int .i64 fr, .slice ad zs.length cap] 24)).alloc (.cells #[.int .i64 bv, .bool bs] 40)).alloc (.cells #[.int .i64 0, .bool false] 40)) = W0 at *
    have c0 := fun i => blk_cell HK0.out i
    have c1 := fun i => blk_cell HK1.out i
    have c2' := fun i => blk_cell HK2.out i
    have l0 := blk_lt HK0.out
    have l1 := blk_lt HK1.out
    have l2 := blk_lt HK2.out
    have fz := fun i => blk_frozen HK2.out i
    go_wp2_with fail
    refine (M1.out _ HT.out HV.out).mono ?_
    rintro e wa ⟨rfl, hb⟩
    have HB_wa := hidden (hb)
    clear hb c0 c1 c2' l0 l1 l2 fz
    have c0 := fun i => blk_cell (blk_later HK0.out HB_wa.out) i
    have c1 := fun i => blk_cell (blk_later HK1.out HB_wa.out) i
    have c2' := fun i => blk_cell (blk_later HK2.out HB_wa.out) i
    have l0 := blk_lt (blk_later HK0.out HB_wa.out)
    have l1 := blk_lt (blk_later HK1.out HB_wa.out)
    have l2 := blk_lt (blk_later HK2.out HB_wa.out)
    have fz := fun i => blk_frozen (blk_later HK2.out HB_wa.out) i
    go_wp2
    obtain ⟨r0, r1⟩ := read2T (blk_later HK2.out HB_wa.out) (.int .i64 ms) (.bool false)
    exact bodyPost_ret (v := .agg #[.int .i64 ms, .bool false]) (by simp [results, Try.results108, go_sem, r0, r1]) rfl ⟨rfl, below2T (bthen HB0.out HB_wa.out) (by omega) _ _⟩
  · obtain rfl := s1 rfl
    clear s0 s1 s2 M1 OB
    have E2 := hidden (E1.out ls)
    clear E1
    generalize enoughB E n f ls vs = en at *
    go_enter Try.func108, Try.ntmps108
    go_wp2_with fail
    refine (HM.out _).mono ?_
    rintro e wm ⟨rfl, rfl⟩
    generalize (((w.alloc (.cells #[.int .i64 n, .int .i64 f, .int .i64 d, .int .i64 p, .int .i64 r, .int .i64 dr, .int .i64 o, .int .i64 sl, .int .i64 md, .int .i64 fr, .slice ad zs.length cap] 24)).alloc (.cells #[.int .i64 bv, .bool bs] 40)).alloc (.cells #[.int .i64 0, .bool false] 40)) = W0 at *
    have c0 := fun i => blk_cell HK0.out i
    have c1 := fun i => blk_cell HK1.out i
    have c2' := fun i => blk_cell HK2.out i
    have l0 := blk_lt HK0.out
    have l1 := blk_lt HK1.out
    have l2 := blk_lt HK2.out
    have fz := fun i => blk_frozen HK2.out i
    go_wp2_with fail
    refine wp_region_quiet_below (by kernel_rfl) (by kernel_rfl) ?_
    repeat (go_big_quiet_step (first
      | (go_at_call 76; exact Calls.regrown_of (VA.out _))
      | (go_at_call 112; exact Calls.regrown_of (L1.out _ (HT.out.below (below_regrown _ _ _)) (HV.out.later (below_regrown _ _ _))))))
    refine wpQuiet_nil ?_
    intro wb hwb
    have HB_wb := hidden (rg_below hwb)
    clear hwb c0 c1 c2' l0 l1 l2 fz
    have c0 := fun i => blk_cell (blk_later HK0.out HB_wb.out) i
    have c1 := fun i => blk_cell (blk_later HK1.out HB_wb.out) i
    have c2' := fun i => blk_cell (blk_later HK2.out HB_wb.out) i
    have l0 := blk_lt (blk_later HK0.out HB_wb.out)
    have l1 := blk_lt (blk_later HK1.out HB_wb.out)
    have l2 := blk_lt (blk_later HK2.out HB_wb.out)
    have fz := fun i => blk_frozen (blk_later HK2.out HB_wb.out) i
    go_wp2_with fail
    refine (E2.out _ (HT.out.below HB_wb.out) (HV.out.later HB_wb.out)).mono ?_
    rintro e wc ⟨rfl, hb⟩
    have HB_wc := hidden (bthen HB_wb.out hb)
    clear hb c0 c1 c2' l0 l1 l2 fz
    have c0 := fun i => blk_cell (blk_later HK0.out HB_wc.out) i
    have c1 := fun i => blk_cell (blk_later HK1.out HB_wc.out) i
    have c2' := fun i => blk_cell (blk_later HK2.out HB_wc.out) i
    have l0 := blk_lt (blk_later HK0.out HB_wc.out)
    have l1 := blk_lt (blk_later HK1.out HB_wc.out)
    have l2 := blk_lt (blk_later HK2.out HB_wc.out)
    have fz := fun i => blk_frozen (blk_later HK2.out HB_wc.out) i
    go_wp2
    obtain ⟨r0, r1⟩ := read2T (blk_later HK2.out HB_wc.out) (.int .i64 ls) (.bool en)
    exact bodyPost_ret (v := .agg #[.int .i64 ls, .bool en]) (by simp [results, Try.results108, go_sem, r0, r1]) rfl ⟨rfl, below2T (bthen HB0.out HB_wc.out) (by omega) _ _⟩
  · obtain rfl := s2 rfl
    clear s0 s1 s2 M1 L1 E1 VA
    generalize obeyF (bv, bs) k = r at *
    obtain ⟨rv, rs⟩ := r
    go_enter Try.func108, Try.ntmps108
    go_wp2_with fail
    refine (HM.out _).mono ?_
    rintro e wm ⟨rfl, rfl⟩
    generalize (((w.alloc (.cells #[.int .i64 n, .int .i64 f, .int .i64 d, .int .i64 p, .int .i64 r, .int .i64 dr, .int .i64 o, .int .i64 sl, .int .i64 md, .int .i64 fr, .slice ad zs.length cap] 24)).alloc (.cells #[.int .i64 bv, .bool bs] 40)).alloc (.cells #[.int .i64 0, .bool false] 40)) = W0 at *
    have c0 := fun i => blk_cell HK0.out i
    have c1 := fun i => blk_cell HK1.out i
    have c2' := fun i => blk_cell HK2.out i
    have l0 := blk_lt HK0.out
    have l1 := blk_lt HK1.out
    have l2 := blk_lt HK2.out
    have fz := fun i => blk_frozen HK2.out i
    go_wp2_with fail
    refine (OB.out _).mono ?_
    rintro e wa ⟨rfl, hb⟩
    have HB_wa := hidden (hb)
    clear hb c0 c1 c2' l0 l1 l2 fz
    have c0 := fun i => blk_cell (blk_later HK0.out HB_wa.out) i
    have c1 := fun i => blk_cell (blk_later HK1.out HB_wa.out) i
    have c2' := fun i => blk_cell (blk_later HK2.out HB_wa.out) i
    have l0 := blk_lt (blk_later HK0.out HB_wa.out)
    have l1 := blk_lt (blk_later HK1.out HB_wa.out)
    have l2 := blk_lt (blk_later HK2.out HB_wa.out)
    have fz := fun i => blk_frozen (blk_later HK2.out HB_wa.out) i
    unfold agB
    go_wp2
    obtain ⟨r0, r1⟩ := read2T (blk_later HK2.out HB_wa.out) (.int .i64 rv) (.bool rs)
    exact bodyPost_ret (v := .agg #[.int .i64 rv, .bool rs]) (by simp [results, Try.results108, go_sem, r0, r1]) rfl ⟨rfl, below2T (bthen HB0.out HB_wa.out) (by omega) _ _⟩
end Go.Proofs.Ytkolhbacgoafcaa
