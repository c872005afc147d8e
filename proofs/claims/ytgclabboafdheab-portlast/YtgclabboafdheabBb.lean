/- Several texts of one's own in one: what each proves, and its conditions, is said ahead of it. -/
import Derived.Test.YtgclabboafdheabBa

/- The call rules of package conf lays twelve rules, each of four numbers, into new memory; no conditions. -/
namespace Go.Proofs.Ytgclabboafdheab
open Go.ChangeShapes Go.WideShapes Go.ChangeAt Go.RowKit
set_option linter.unusedVariables false
attribute [local go_sem] cell_rg
attribute [local go_sem ↓] Go.wp_at_zero Go.wp_at_succ

def ruA (f d : Int) : Nat → Int
  | 0 => 4 | 1 => 0 | 2 => IntKind.i64.wrap (IntKind.i64.wrap (3 * f) + 1) | 3 => 1 | 4 => IntKind.i64.wrap (IntKind.i64.wrap (2 * lengthW f d) + 1) | 5 => 1 | 6 => 0 | 7 => 0 | 8 => 1 | 9 => 2 | 10 => 1 | _ => 1
def ruB (r : Int) : Nat → Int
  | 0 => 13 | 1 => 4 | 2 => 13 | 3 => 4 | 4 => 400 | 5 => 64 | 6 => IntKind.i64.wrap (r - 1) | 7 => 30000 | 8 => 30000 | 9 => 250 | 10 => 100 | _ => 32
def ruC (n f d p r dr o sl md fr ln : Int) : Nat → Int
  | 0 => n | 1 => f | 2 => n | 3 => d | 4 => p | 5 => r | 6 => dr | 7 => o | 8 => sl | 9 => md | 10 => fr | _ => ln
def ruE : Nat → Int
  | 0 => 7 | 1 => 7 | 2 => 7 | 3 => 10 | 11 => 11 | _ => 8

/-- The block that rules lays, rule by rule. -/
theorem rule_cells (n f d p r dr o sl md fr : Int) (ad : Option Addr) (cap : Nat) (zs : List Int) (w1 : World) (t : TypeId) : ∀ k, k < 12 →
    (w1.alloc (.cells #[.int .i64 4, .int .i64 13, .int .i64 n, .int .i64 7, .int .i64 0, .int .i64 4, .int .i64 f, .int .i64 7, .int .i64 (IntKind.i64.wrap (IntKind.i64.wrap (3 * f) + 1)), .int .i64 13, .int .i64 n, .int .i64 7, .int .i64 1, .int .i64 4, .int .i64 d, .int .i64 10, .int .i64 (IntKind.i64.wrap (IntKind.i64.wrap (2 * lengthW f d) + 1)), .int .i64 400, .int .i64 p, .int .i64 8, .int .i64 1, .int .i64 64, .int .i64 r, .int .i64 8, .int .i64 0, .int .i64 (IntKind.i64.wrap (r - 1)), .int .i64 dr, .int .i64 8, .int .i64 0, .int .i64 30000, .int .i64 o, .int .i64 8, .int .i64 1, .int .i64 30000, .int .i64 sl, .int .i64 8, .int .i64 2, .int .i64 250, .int .i64 md, .int .i64 8, .int .i64 1, .int .i64 100, .int .i64 fr, .int .i64 8, .int .i64 1, .int .i64 32, .int .i64 (zs.length : Int), .int .i64 11] t)).cell? ⟨w1.heap.size, k * 4, none⟩ = some (.int .i64 (ruA f d k)) ∧ (w1.alloc (.cells #[.int .i64 4, .int .i64 13, .int .i64 n, .int .i64 7, .int .i64 0, .int .i64 4, .int .i64 f, .int .i64 7, .int .i64 (IntKind.i64.wrap (IntKind.i64.wrap (3 * f) + 1)), .int .i64 13, .int .i64 n, .int .i64 7, .int .i64 1, .int .i64 4, .int .i64 d, .int .i64 10, .int .i64 (IntKind.i64.wrap (IntKind.i64.wrap (2 * lengthW f d) + 1)), .int .i64 400, .int .i64 p, .int .i64 8, .int .i64 1, .int .i64 64, .int .i64 r, .int .i64 8, .int .i64 0, .int .i64 (IntKind.i64.wrap (r - 1)), .int .i64 dr, .int .i64 8, .int .i64 0, .int .i64 30000, .int .i64 o, .int .i64 8, .int .i64 1, .int .i64 30000, .int .i64 sl, .int .i64 8, .int .i64 2, .int .i64 250, .int .i64 md, .int .i64 8, .int .i64 1, .int .i64 100, .int .i64 fr, .int .i64 8, .int .i64 1, .int .i64 32, .int .i64 (zs.length : Int), .int .i64 11] t)).cell? ⟨w1.heap.size, k * 4 + 1, none⟩ = some (.int .i64 (ruB r k)) ∧
    (w1.alloc (.cells #[.int .i64 4, .int .i64 13, .int .i64 n, .int .i64 7, .int .i64 0, .int .i64 4, .int .i64 f, .int .i64 7, .int .i64 (IntKind.i64.wrap (IntKind.i64.wrap (3 * f) + 1)), .int .i64 13, .int .i64 n, .int .i64 7, .int .i64 1, .int .i64 4, .int .i64 d, .int .i64 10, .int .i64 (IntKind.i64.wrap (IntKind.i64.wrap (2 * lengthW f d) + 1)), .int .i64 400, .int .i64 p, .int .i64 8, .int .i64 1, .int .i64 64, .int .i64 r, .int .i64 8, .int .i64 0, .int .i64 (IntKind.i64.wrap (r - 1)), .int .i64 dr, .int .i64 8, .int .i64 0, .int .i64 30000, .int .i64 o, .int .i64 8, .int .i64 1, .int .i64 30000, .int .i64 sl, .int .i64 8, .int .i64 2, .int .i64 250, .int .i64 md, .int .i64 8, .int .i64 1, .int .i64 100, .int .i64 fr, .int .i64 8, .int .i64 1, .int .i64 32, .int .i64 (zs.length : Int), .int .i64 11] t)).cell? ⟨w1.heap.size, k * 4 + 2, none⟩ = some (.int .i64 (ruC n f d p r dr o sl md fr zs.length k)) ∧ (w1.alloc (.cells #[.int .i64 4, .int .i64 13, .int .i64 n, .int .i64 7, .int .i64 0, .int .i64 4, .int .i64 f, .int .i64 7, .int .i64 (IntKind.i64.wrap (IntKind.i64.wrap (3 * f) + 1)), .int .i64 13, .int .i64 n, .int .i64 7, .int .i64 1, .int .i64 4, .int .i64 d, .int .i64 10, .int .i64 (IntKind.i64.wrap (IntKind.i64.wrap (2 * lengthW f d) + 1)), .int .i64 400, .int .i64 p, .int .i64 8, .int .i64 1, .int .i64 64, .int .i64 r, .int .i64 8, .int .i64 0, .int .i64 (IntKind.i64.wrap (r - 1)), .int .i64 dr, .int .i64 8, .int .i64 0, .int .i64 30000, .int .i64 o, .int .i64 8, .int .i64 1, .int .i64 30000, .int .i64 sl, .int .i64 8, .int .i64 2, .int .i64 250, .int .i64 md, .int .i64 8, .int .i64 1, .int .i64 100, .int .i64 fr, .int .i64 8, .int .i64 1, .int .i64 32, .int .i64 (zs.length : Int), .int .i64 11] t)).cell? ⟨w1.heap.size, k * 4 + 3, none⟩ = some (.int .i64 (ruE k)) := by
  intro k hk
  simp only [World.cell?_alloc_mark]
  have hk' : k = 0 ∨ k = 1 ∨ k = 2 ∨ k = 3 ∨ k = 4 ∨ k = 5 ∨ k = 6 ∨ k = 7 ∨ k = 8 ∨ k = 9 ∨ k = 10 ∨ k = 11 := by omega
  rcases hk' with rfl | rfl | rfl | rfl | rfl | rfl | rfl | rfl | rfl | rfl | rfl | rfl <;> exact ⟨rfl, rfl, rfl, rfl⟩

set_option maxHeartbeats 4000000 in
theorem rules_any (n f d p r dr o sl md fr : Int) (ad : Option Addr) (cap : Nat) (zs : List Int) (w : World) :
    Calls Try.prog 23 #[.agg #[.int .i64 n, .int .i64 f, .int .i64 d, .int .i64 p, .int .i64 r, .int .i64 dr, .int .i64 o, .int .i64 sl, .int .i64 md, .int .i64 fr, .slice ad zs.length cap]] w fun e w' => ∃ g, e = .returned (.slice (some ⟨g, 0, none⟩) 12 12) ∧ w.heap.size ≤ g ∧ g < w'.heap.size ∧
      (∀ k, k < 12 → w'.cell? ⟨g, k * 4, none⟩ = some (.int .i64 (ruA f d k)) ∧ w'.cell? ⟨g, k * 4 + 1, none⟩ = some (.int .i64 (ruB r k)) ∧ w'.cell? ⟨g, k * 4 + 2, none⟩ = some (.int .i64 (ruC n f d p r dr o sl md fr zs.length k)) ∧ w'.cell? ⟨g, k * 4 + 3, none⟩ = some (.int .i64 (ruE k))) ∧ Below w.heap.size w w' := by
  go_enter Try.func23, Try.ntmps23
  go_wp2
  go_region_held3 (fun w' => w'.cell? ⟨w.heap.size, 0, none⟩ = some (.int .i64 n) ∧ w'.cell? ⟨w.heap.size, 1, none⟩ = some (.int .i64 f) ∧ w'.cell? ⟨w.heap.size, 2, none⟩ = some (.int .i64 d) ∧ w'.cell? ⟨w.heap.size, 3, none⟩ = some (.int .i64 p) ∧ w'.cell? ⟨w.heap.size, 4, none⟩ = some (.int .i64 r) ∧ w'.cell? ⟨w.heap.size, 5, none⟩ = some (.int .i64 dr) ∧ w'.cell? ⟨w.heap.size, 6, none⟩ = some (.int .i64 o) ∧ w'.cell? ⟨w.heap.size, 7, none⟩ = some (.int .i64 sl) ∧ w'.cell? ⟨w.heap.size, 8, none⟩ = some (.int .i64 md) ∧ w'.cell? ⟨w.heap.size, 9, none⟩ = some (.int .i64 fr) ∧ w'.cell? ⟨w.heap.size, 10, none⟩ = some (.slice ad zs.length cap))
    (first | go_keep | (refine ⟨?_, ?_, ?_, ?_, ?_, ?_, ?_, ?_, ?_, ?_, ?_⟩ <;> (rw [hb1.cell (by simp)]; simp)))
    (first | (go_at_call 26; refine (cLength_any _ _ _ _ _ _ _ _ _ _ _ _ _ _).mono ?_; rintro e w1 ⟨rfl, hb1⟩))
  go_wp2
  go_ret
  have hbw : Below w.heap.size w w1 := by
    refine bthen ?_ hb1
    first | exact (ballc _ _).drew | exact bthen (ballc _ _) (Joins.below_draws _ _ _) | exact ballc _ _
  have hs1 := hbw.size
  exact ⟨_, rfl, hs1, by simp, rule_cells n f d p r dr o sl md fr ad cap zs _ _, hbw.alloc hs1 _⟩
end Go.Proofs.Ytgclabboafdheab
