/- The calls eachOwns of package conf and owned of the document's answer tell whether each owner is a node and each node owns a slot; conditions: 4 to 13 nodes. -/
import Derived.Test.YtohgmliafidalaaConfS
namespace Go.Proofs.Ytohgmliafidalaa
open Go.ChangeShapes Go.WideShapes Go.ChangeAt Go.RowKit
set_option linter.unusedVariables false
attribute [local go_sem] cell_rg

def ownsB (n : Int) (zs : List Int) : Bool := zs.all (fun z => decide (0 ≤ z ∧ z ≤ n - 1)) && (List.range n.toNat).all (fun j => decide ((j : Int) ∈ zs))
theorem ownsB_iff {n : Int} {zs : List Int} : ownsB n zs = true ↔ (∀ z ∈ zs, 0 ≤ z ∧ z ≤ n - 1) ∧ ∀ j : Nat, (j : Int) < n → (j : Int) ∈ zs := by
  unfold ownsB
  simp only [Bool.and_eq_true, List.all_eq_true, decide_eq_true_eq, List.mem_range]
  constructor
  · rintro ⟨h1, h2⟩
    exact ⟨h1, fun j hj => h2 j (by omega)⟩
  · rintro ⟨h1, h2⟩
    exact ⟨h1, fun j hj => h2 j (by omega)⟩
theorem ownsB_bad {n : Int} {zs : List Int} (k : Nat) (hk : k < zs.length) (h : ¬ (0 ≤ zs.getD k 0 ∧ zs.getD k 0 ≤ n - 1)) : ownsB n zs = false := by
  rw [← Bool.not_eq_true, ownsB_iff]
  rintro ⟨h1, _⟩
  refine h (h1 _ ?_)
  rw [List.getD_eq_getElem?_getD, List.getElem?_eq_getElem hk]
  exact List.getElem_mem hk
theorem ownsB_miss {n : Int} {zs : List Int} (j : Nat) (hj : (j : Int) < n) (h : ¬ (j : Int) ∈ zs) : ownsB n zs = false := by
  rw [← Bool.not_eq_true, ownsB_iff]
  rintro ⟨_, h2⟩
  exact h (h2 j hj)
theorem ownsB_yes {n : Int} {zs : List Int} (h1 : ∀ z ∈ zs, 0 ≤ z ∧ z ≤ n - 1) (h2 : ∀ j : Nat, (j : Int) < n → (j : Int) ∈ zs) : ownsB n zs = true := ownsB_iff.2 ⟨h1, h2⟩
theorem take_succ_getD {zs : List Int} (k : Nat) (hk : k < zs.length) : zs.take (k + 1) = zs.take k ++ [zs.getD k 0] := by
  rw [List.take_succ_eq_append_getElem hk, List.getD_eq_getElem?_getD, List.getElem?_eq_getElem hk]; rfl

theorem within_yes (x a b : Int) (w : World) (h1 : a ≤ x) (h2 : x ≤ b) :
    Calls Try.prog 36 #[.int .i64 x, .int .i64 a, .int .i64 b] w fun e w' => e = .returned (.bool true) ∧ w' = w := by
  go_enter Try.func36, Try.ntmps36
  go_wp2
  go_ret
  exact ⟨rfl, rfl⟩
theorem within_no (x a b : Int) (w : World) (h : ¬ (a ≤ x ∧ x ≤ b)) :
    Calls Try.prog 36 #[.int .i64 x, .int .i64 a, .int .i64 b] w fun e w' => e = .returned (.bool false) ∧ w' = w := by
  by_cases h1 : a ≤ x
  · have h2 : ¬ x ≤ b := fun h2 => h ⟨h1, h2⟩
    clear h
    have h2' : decide (x ≤ b) = false := by simp [h2]
    go_enter Try.func36, Try.ntmps36
    go_wp2
    go_ret
    exact ⟨rfl, rfl⟩
  · clear h
    have h1' : decide (a ≤ x) = false := by simp [h1]
    go_enter Try.func36, Try.ntmps36
    go_wp2
    go_ret
    exact ⟨rfl, rfl⟩

/-- The owners up to k hold node j. -/
def hasTo (zs : List Int) (k : Nat) (j : Nat) : Bool := decide ((j : Int) ∈ zs.take k)
theorem hasTo_zero (zs : List Int) (j : Nat) : hasTo zs 0 j = false := by simp [hasTo]
theorem hasTo_succ {zs : List Int} (k : Nat) (hk : k < zs.length) (j : Nat) : hasTo zs (k + 1) j = (hasTo zs k j || decide (zs.getD k 0 = (j : Int))) := by
  unfold hasTo
  rw [take_succ_getD k hk]
  by_cases h : (j : Int) ∈ zs.take k <;> simp only [List.mem_append, List.mem_singleton, h, decide_true, decide_false, Bool.true_or, Bool.false_or, true_or, false_or]
  exact decide_eq_decide.2 ⟨fun h => h.symm, fun h => h.symm⟩
theorem hasTo_all {zs : List Int} {j : Nat} : hasTo zs zs.length j = true ↔ (j : Int) ∈ zs := by simp [hasTo]

theorem all_succ {zs : List Int} {n : Int} (k : Nat) (hk : k < zs.length) (h : ∀ z ∈ zs.take k, 0 ≤ z ∧ z ≤ n - 1) (h1 : 0 ≤ zs.getD k 0) (h2 : zs.getD k 0 ≤ n - 1) : ∀ z ∈ zs.take (k + 1), 0 ≤ z ∧ z ≤ n - 1 := by
  intro z hz
  rw [take_succ_getD k hk, List.mem_append, List.mem_singleton] at hz
  rcases hz with hz | rfl
  · exact h z hz
  · exact ⟨h1, h2⟩
theorem bdrew {w W : World} (h : Below w.heap.size w W) (m : Nat) : Below w.heap.size w (W.drewN m) := bthen h (Joins.below_draws _ _ _)

set_option maxHeartbeats 1000000 in
theorem owned_any (n f d p r dr o sl md fr : Int) (ad : Option Addr) (cap : Nat) (zs : List Int) (w : World) (hn1 : 4 ≤ n) (hn2 : n ≤ 13) (hl : zs.length ≤ 9223372036854775807) (hT : Tab w ad zs) :
    Calls Try.prog 37 #[.agg #[.int .i64 n, .int .i64 f, .int .i64 d, .int .i64 p, .int .i64 r, .int .i64 dr, .int .i64 o, .int .i64 sl, .int .i64 md, .int .i64 fr, .slice ad zs.length cap]] w fun e w' => e = .returned (.bool (ownsB n zs)) ∧ Below w.heap.size w w' := by
  have hw1 : IntKind.i64.wrap (n - 1) = n - 1 := IntWalk.i64_in (n - 1) (by omega)
  have HT : Hid (Tab (w.alloc (.cells #[.int .i64 n, .int .i64 f, .int .i64 d, .int .i64 p, .int .i64 r, .int .i64 dr, .int .i64 o, .int .i64 sl, .int .i64 md, .int .i64 fr, .slice ad zs.length cap] 24)) ad zs) := hT.below (ballc _ _)
  clear hT
  go_enter Try.func37, Try.ntmps37
  go_wp2
  go_loopw [3] (fun i wl => ∃ k : Nat, k ≤ zs.length ∧ i = .int .i64 k ∧ (∀ z ∈ zs.take k, 0 ≤ z ∧ z ≤ n - 1) ∧ Below (w.alloc (.cells #[.int .i64 n, .int .i64 f, .int .i64 d, .int .i64 p, .int .i64 r, .int .i64 dr, .int .i64 o, .int .i64 sl, .int .i64 md, .int .i64 fr, .slice ad zs.length cap] 24)).heap.size (w.alloc (.cells #[.int .i64 n, .int .i64 f, .int .i64 d, .int .i64 p, .int .i64 r, .int .i64 dr, .int .i64 o, .int .i64 sl, .int .i64 md, .int .i64 fr, .slice ad zs.length cap] 24)) wl) (fun i _ => zs.length - (intOf i).toNat)
  case atStart => exact ⟨0, Nat.zero_le _, rfl, by simp, Below.refl _ _⟩
  case round =>
    obtain ⟨k, hk, rfl, hall, hb⟩ := hrel
    have HA : Hid (∀ z ∈ zs.take k, 0 ≤ z ∧ z ≤ n - 1) := hall
    have HB : Hid (Below (w.alloc (.cells #[.int .i64 n, .int .i64 f, .int .i64 d, .int .i64 p, .int .i64 r, .int .i64 dr, .int .i64 o, .int .i64 sl, .int .i64 md, .int .i64 fr, .slice ad zs.length cap] 24)).heap.size (w.alloc (.cells #[.int .i64 n, .int .i64 f, .int .i64 d, .int .i64 p, .int .i64 r, .int .i64 dr, .int .i64 o, .int .i64 sl, .int .i64 md, .int .i64 fr, .slice ad zs.length cap] 24)) wr) := hb
    obtain ⟨hbox, hsz⟩ := box_at hb
    clear hall hb
    by_cases hlt : k < zs.length
    · obtain ⟨a, rfl, hc, ha⟩ := (HT.out.below HB.out).lies k hlt
      generalize hzz : zs.getD k 0 = z at hc
      have HZ : Hid (zs.getD k 0 = z) := hzz
      clear hzz
      by_cases hz : 0 ≤ z ∧ z ≤ n - 1
      · have hq := fun v => Calls.to_belowR (within_yes z 0 (n - 1) v hz.1 hz.2)
        have HN : Hid (0 ≤ z ∧ z ≤ n - 1) := hz
        clear hz
        go_wp2
        refine wp_region_quiet_below (by kernel_rfl) (by kernel_rfl) ?_
        repeat (go_big_quiet_step (exact Calls.regrown_of (hq _)))
        refine wpQuiet_nil ?_
        intro w2 hw2
        have HB2 : Hid (Below wr.heap.size wr w2) := rg_below hw2
        clear hw2
        go_wp2
        go_roundw
        case rel => exact ⟨k + 1, by omega, by go_num, all_succ k hlt HA.out (by rw [HZ.out]; exact HN.out.1) (by rw [HZ.out]; exact HN.out.2), bthen HB.out HB2.out⟩
        case measure => simp [intOf]; omega
      · have hq := fun v => Calls.to_belowR (within_no z 0 (n - 1) v hz)
        have HN : Hid (¬ (0 ≤ z ∧ z ≤ n - 1)) := hz
        clear hz
        go_wp2
        refine wp_region_quiet_below (by kernel_rfl) (by kernel_rfl) ?_
        repeat (go_big_quiet_step (exact Calls.regrown_of (hq _)))
        refine wpQuiet_nil ?_
        intro w2 hw2
        have HB2 : Hid (Below wr.heap.size wr w2) := rg_below hw2
        clear hw2
        go_wp2
        go_ret
        exact ⟨ret_b (by rw [ownsB_bad k hlt (by rw [HZ.out]; exact HN.out)]), bthen (bthen (ballc _ _) HB.out) HB2.out⟩
    · have hk' : k = zs.length := by omega
      subst hk'
      clear hk hw1
      go_wp2
      go_loop [4] (fun i => ∃ j : Nat, (j : Int) ≤ n ∧ i = .int .i64 j ∧ (∀ t : Nat, t < j → (t : Int) ∈ zs)) (fun i => (n - intOf i).toNat)
      case atStart => exact ⟨0, by omega, rfl, by simp⟩
      case round =>
        obtain ⟨j, hj, rfl, hown⟩ := hrel
        have HO : Hid (∀ t : Nat, t < j → (t : Int) ∈ zs) := hown
        clear hown
        by_cases hjn : (j : Int) < n
        · go_wp2
          go_loop [5, 6] (fun h i => ∃ k : Nat, k ≤ zs.length ∧ i = .int .i64 k ∧ h = .bool (hasTo zs k j)) (fun _ i => zs.length - (intOf i).toNat)
          case atStart => exact ⟨0, Nat.zero_le _, rfl, by rw [hasTo_zero]⟩
          case round =>
            obtain ⟨k, hk, rfl, rfl⟩ := hrel
            by_cases hlt2 : k < zs.length
            · obtain ⟨a, rfl, hc, ha⟩ := (HT.out.below HB.out).lies k hlt2
              have HS := hasTo_succ k hlt2 j
              generalize hzz : zs.getD k 0 = z at hc HS
              clear hzz
              generalize hg : hasTo zs k j = hs at HS
              have HG : Hid (hasTo zs k j = hs) := hg
              clear hg
              have HS' : Hid (hasTo zs (k + 1) j = (hs || decide (z = (j : Int)))) := HS
              clear HS
              cases hs with
              | true =>
                go_wp2
                go_round
                case rel => exact ⟨k + 1, by omega, by go_num, by rw [HS'.out]; rfl⟩
                case measure => simp [intOf]; omega
              | false =>
                by_cases hzj : z = (j : Int)
                all_goals
                  go_wp2
                  go_round
                  case rel => exact ⟨k + 1, by omega, by go_num, by rw [HS'.out]; simp [hzj]⟩
                  case measure => simp [intOf]; omega
            · have hk' : k = zs.length := by omega
              subst hk'
              by_cases hh : hasTo zs zs.length j = true
              · have HJ : Hid ((j : Int) ∈ zs) := hasTo_all.1 hh
                go_wp2
                go_round
                case rel => exact ⟨j + 1, by omega, by go_num, fun t ht => by
                  by_cases e : t = j
                  · subst e; exact HJ.out
                  · exact HO.out t (by omega)⟩
                case measure => simp [intOf]; omega
              · have HJ : Hid (¬ (j : Int) ∈ zs) := fun h => hh (hasTo_all.2 h)
                have hh' : hasTo zs zs.length j = false := by simpa using hh
                clear hh
                go_wp2
                go_ret
                exact ⟨ret_b (by rw [ownsB_miss j hjn HJ.out]), bthen (ballc _ _) HB.out⟩
        · go_wp2
          go_ret
          exact ⟨ret_b (by rw [ownsB_yes (by simpa using HA.out) (fun t ht => HO.out t (by omega))]), bthen (ballc _ _) HB.out⟩
end Go.Proofs.Ytohgmliafidalaa
