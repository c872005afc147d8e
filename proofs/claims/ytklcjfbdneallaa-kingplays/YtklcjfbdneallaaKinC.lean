/- The calls marked, liar and started of package king, and what liar hands back, do what plain functions say; conditions: at most 13 nodes, rows lie where they say, and lengths fit int. -/
import Derived.Test.YtklcjfbdneallaaKinB
namespace Go.Proofs.Ytklcjfbdneallaa
open Go.ChangeShapes Go.WideShapes Go.ChangeAt Go.RowKit
set_option linter.unusedVariables false
attribute [local go_sem] cell_rg

theorem read13 {w : World} {b : Nat} {t : TypeId} {v : Nat → Value} (h : w.heap[b]? = some (.cells #[v 0, v 1, v 2, v 3, v 4, v 5, v 6, v 7, v 8, v 9, v 10, v 11, v 12] t (0, 0))) (i : Nat) (hi : i < 13) : w.cell? ⟨b, i, none⟩ = some (v i) := by
  rw [blk_cell h i]
  have hj' : i = 0 ∨ i = 1 ∨ i = 2 ∨ i = 3 ∨ i = 4 ∨ i = 5 ∨ i = 6 ∨ i = 7 ∨ i = 8 ∨ i = 9 ∨ i = 10 ∨ i = 11 ∨ i = 12 := by omega
  rcases hj' with rfl | rfl | rfl | rfl | rfl | rfl | rfl | rfl | rfl | rfl | rfl | rfl | rfl <;> rfl
set_option maxHeartbeats 4000000 in
theorem marked_any (N : Nat) (f d p r dr o sl md fr : Int) (ad : Option Addr) (cap : Nat) (zs : List Int) (hN2 : N ≤ 13) (a2 : Option Addr) (c2 : Nat) (vs : List Int) (w : World) (hlv : vs.length ≤ 9223372036854775807) (hV : kInt.Lies w.heap.size w (.slice a2 vs.length c2) vs) :
    Calls Try.prog 49 #[.agg #[.int .i64 (N : Int), .int .i64 f, .int .i64 d, .int .i64 p, .int .i64 r, .int .i64 dr, .int .i64 o, .int .i64 sl, .int .i64 md, .int .i64 fr, .slice ad zs.length cap], .slice a2 vs.length c2] w fun e w' => e = .returned (.agg #[.bool (faB N vs 0), .bool (faB N vs 1), .bool (faB N vs 2), .bool (faB N vs 3), .bool (faB N vs 4), .bool (faB N vs 5), .bool (faB N vs 6), .bool (faB N vs 7), .bool (faB N vs 8), .bool (faB N vs 9), .bool (faB N vs 10), .bool (faB N vs 11), .bool (faB N vs 12)]) ∧ Below w.heap.size w w' := by
  have hB0 : Below w.heap.size w (((w.alloc (.cells #[.int .i64 (N : Int), .int .i64 f, .int .i64 d, .int .i64 p, .int .i64 r, .int .i64 dr, .int .i64 o, .int .i64 sl, .int .i64 md, .int .i64 fr, .slice ad zs.length cap] 24)).alloc (.cells #[.bool false, .bool false, .bool false, .bool false, .bool false, .bool false, .bool false, .bool false, .bool false, .bool false, .bool false, .bool false, .bool false] 59)).alloc (.cells #[.bool false, .bool false, .bool false, .bool false, .bool false, .bool false, .bool false, .bool false, .bool false, .bool false, .bool false, .bool false, .bool false] 59)) := bthen (bthen (ballc w _) (ballc _ _)) (ballc _ _)
  have hk0 := blk_later (blk_later (blk_nw w #[.int .i64 (N : Int), .int .i64 f, .int .i64 d, .int .i64 p, .int .i64 r, .int .i64 dr, .int .i64 o, .int .i64 sl, .int .i64 md, .int .i64 fr, .slice ad zs.length cap] 24) (ballc _ (.cells #[.bool false, .bool false, .bool false, .bool false, .bool false, .bool false, .bool false, .bool false, .bool false, .bool false, .bool false, .bool false, .bool false] 59))) (ballc _ (.cells #[.bool false, .bool false, .bool false, .bool false, .bool false, .bool false, .bool false, .bool false, .bool false, .bool false, .bool false, .bool false, .bool false] 59))
  have hk1 := blk_later (blk_newAt (w.alloc (.cells #[.int .i64 (N : Int), .int .i64 f, .int .i64 d, .int .i64 p, .int .i64 r, .int .i64 dr, .int .i64 o, .int .i64 sl, .int .i64 md, .int .i64 fr, .slice ad zs.length cap] 24)) #[.bool false, .bool false, .bool false, .bool false, .bool false, .bool false, .bool false, .bool false, .bool false, .bool false, .bool false, .bool false, .bool false] 59 (b := w.heap.size + 1) (by simp)) (ballc _ (.cells #[.bool false, .bool false, .bool false, .bool false, .bool false, .bool false, .bool false, .bool false, .bool false, .bool false, .bool false, .bool false, .bool false] 59))
  have hk2 := blk_newAt ((w.alloc (.cells #[.int .i64 (N : Int), .int .i64 f, .int .i64 d, .int .i64 p, .int .i64 r, .int .i64 dr, .int .i64 o, .int .i64 sl, .int .i64 md, .int .i64 fr, .slice ad zs.length cap] 24)).alloc (.cells #[.bool false, .bool false, .bool false, .bool false, .bool false, .bool false, .bool false, .bool false, .bool false, .bool false, .bool false, .bool false, .bool false] 59)) #[.bool false, .bool false, .bool false, .bool false, .bool false, .bool false, .bool false, .bool false, .bool false, .bool false, .bool false, .bool false, .bool false] 59 (b := w.heap.size + 1 + 1) (by simp)
  have HK0 := hidden hk0
  have HK1 := hidden hk1
  have HX := hidden (show XBlk _ (w.heap.size + 1 + 1) (fun _ => false) from hk2)
  have HB0 := hidden hB0
  have HL := hidden hV
  clear hB0 hk0 hk1 hk2 hV
  go_enter Try.func49, Try.ntmps49
  go_wp2
  generalize (((w.alloc (.cells #[.int .i64 (N : Int), .int .i64 f, .int .i64 d, .int .i64 p, .int .i64 r, .int .i64 dr, .int .i64 o, .int .i64 sl, .int .i64 md, .int .i64 fr, .slice ad zs.length cap] 24)).alloc (.cells #[.bool false, .bool false, .bool false, .bool false, .bool false, .bool false, .bool false, .bool false, .bool false, .bool false, .bool false, .bool false, .bool false] 59)).alloc (.cells #[.bool false, .bool false, .bool false, .bool false, .bool false, .bool false, .bool false, .bool false, .bool false, .bool false, .bool false, .bool false, .bool false] 59)) = W0 at *
  have h0 : mkB N vs 0 = fun _ => false := by funext j; exact mkB_0 N vs j
  have H0 := hidden h0
  clear h0
  go_loopw [10] (fun i wr => ∃ k : Nat, k ≤ vs.length ∧ i = .int .i64 k ∧ wr.heap[w.heap.size]? = some (.cells #[.int .i64 (N : Int), .int .i64 f, .int .i64 d, .int .i64 p, .int .i64 r, .int .i64 dr, .int .i64 o, .int .i64 sl, .int .i64 md, .int .i64 fr, .slice ad zs.length cap] 24 (0, 0)) ∧ wr.heap[w.heap.size + 1]? = some (.cells #[.bool false, .bool false, .bool false, .bool false, .bool false, .bool false, .bool false, .bool false, .bool false, .bool false, .bool false, .bool false, .bool false] 59 (0, 0)) ∧ XBlk wr (w.heap.size + 1 + 1) (mkB N vs k) ∧ Below w.heap.size w wr) (fun i _ => vs.length - (intV i).toNat)
  case atStart => exact ⟨0, Nat.zero_le _, rfl, HK0.out, HK1.out, HX.out.congr H0.out, HB0.out⟩
  case round =>
    obtain ⟨k, hk, rfl, q0, q1, hX, hB⟩ := hrel
    have Q0 := hidden q0
    have Q1 := hidden q1
    have QX := hidden hX
    have QB := hidden hB
    have c0 := fun i => blk_cell q0 i
    have l0 := blk_lt q0
    have l1 := blk_lt q1
    have l2 := blk_lt hX
    clear HK0 HK1 HX HB0 H0
    by_cases hlt : k < vs.length
    · obtain ⟨b, off, rfl, hbl, e0⟩ := kInt_at HL.out k hlt
      have f0 := (hB.cell (p := ⟨b, off + k, none⟩) hbl).trans e0
      have hbl' : b < wr.heap.size := Nat.lt_of_lt_of_le hbl hB.size
      have hy := hidden (fun t ht htN j => mkB_yes N vs k hlt t ht htN j)
      have hn := hidden (mkB_no N vs k hlt)
      clear q0 q1 hX hB e0
      generalize vs[k] = z at f0 hy hn
      have i1 : (0 : Int) ≤ (k : Int) := by omega
      have i2 : (k : Int) < (vs.length : Int) := by omega
      by_cases hz : 0 ≤ z ∧ z < (N : Int)
      · obtain ⟨t, rfl⟩ : ∃ t : Nat, z = (t : Int) := ⟨z.toNat, by omega⟩
        have ht : t < N := by omega
        have j1 : decide ((0 : Int) ≤ (t : Int)) = true := decide_eq_true (by omega)
        have j2 : decide ((t : Int) < (N : Int)) = true := decide_eq_true (by omega)
        have j3 : (0 : Int) ≤ (t : Int) := by omega
        have j4 : (t : Int) < 13 := by omega
        have g1 := QX.out.cell t (by omega)
        have g2 := blk_frozen QX.out t
        have HY := hidden (hy.out t rfl ht)
        clear hz hy hn
        go_wp2
        go_roundw
        case rel => exact ⟨k + 1, by omega, by go_num, blk_other Q0.out ⟨w.heap.size + 1 + 1, t, none⟩ _ (by simp; omega), blk_other Q1.out ⟨w.heap.size + 1 + 1, t, none⟩ _ (by simp), QX.out.set t (by omega) HY.out, QB.out.setCell (p := ⟨w.heap.size + 1 + 1, t, none⟩) (by simp; omega) _⟩
        case measure => simp [intV]; omega
      · have HN := hidden (hn.out hz)
        clear hy hn
        by_cases hz1 : 0 ≤ z
        · have j1 : decide ((0 : Int) ≤ z) = true := decide_eq_true hz1
          have j2 : decide (z < (N : Int)) = false := decide_eq_false (by omega)
          clear hz
          go_wp2
          go_roundw
          case rel => exact ⟨k + 1, by omega, by go_num, Q0.out, Q1.out, QX.out.congr HN.out, QB.out⟩
          case measure => simp [intV]; omega
        · have j1 : decide ((0 : Int) ≤ z) = false := decide_eq_false hz1
          clear hz
          go_wp2
          go_roundw
          case rel => exact ⟨k + 1, by omega, by go_num, Q0.out, Q1.out, QX.out.congr HN.out, QB.out⟩
          case measure => simp [intV]; omega
    · obtain rfl : k = vs.length := by omega
      rw [mkB_all] at hX QX
      have x0 := QX.out.cell 0 (by decide)
      have x1 := QX.out.cell 1 (by decide)
      have x2 := QX.out.cell 2 (by decide)
      have x3 := QX.out.cell 3 (by decide)
      have x4 := QX.out.cell 4 (by decide)
      have x5 := QX.out.cell 5 (by decide)
      have x6 := QX.out.cell 6 (by decide)
      have x7 := QX.out.cell 7 (by decide)
      have x8 := QX.out.cell 8 (by decide)
      have x9 := QX.out.cell 9 (by decide)
      have x10 := QX.out.cell 10 (by decide)
      have x11 := QX.out.cell 11 (by decide)
      have x12 := QX.out.cell 12 (by decide)
      have fz := fun i => blk_frozen q1 i
      have c1 := fun i => blk_cell q1 i
      clear q0 q1 hX hB hk hlt
      go_wp2
      have hr := set13T (z := fun _ => .bool false) Q1.out (fun i => .bool (faB N vs i))
      have r0 := read13 (v := (fun i => .bool (faB N vs i))) hr 0 (by decide)
      have r1 := read13 (v := (fun i => .bool (faB N vs i))) hr 1 (by decide)
      have r2 := read13 (v := (fun i => .bool (faB N vs i))) hr 2 (by decide)
      have r3 := read13 (v := (fun i => .bool (faB N vs i))) hr 3 (by decide)
      have r4 := read13 (v := (fun i => .bool (faB N vs i))) hr 4 (by decide)
      have r5 := read13 (v := (fun i => .bool (faB N vs i))) hr 5 (by decide)
      have r6 := read13 (v := (fun i => .bool (faB N vs i))) hr 6 (by decide)
      have r7 := read13 (v := (fun i => .bool (faB N vs i))) hr 7 (by decide)
      have r8 := read13 (v := (fun i => .bool (faB N vs i))) hr 8 (by decide)
      have r9 := read13 (v := (fun i => .bool (faB N vs i))) hr 9 (by decide)
      have r10 := read13 (v := (fun i => .bool (faB N vs i))) hr 10 (by decide)
      have r11 := read13 (v := (fun i => .bool (faB N vs i))) hr 11 (by decide)
      have r12 := read13 (v := (fun i => .bool (faB N vs i))) hr 12 (by decide)
      refine bodyPost_ret (v := .agg #[.bool (faB N vs 0), .bool (faB N vs 1), .bool (faB N vs 2), .bool (faB N vs 3), .bool (faB N vs 4), .bool (faB N vs 5), .bool (faB N vs 6), .bool (faB N vs 7), .bool (faB N vs 8), .bool (faB N vs 9), .bool (faB N vs 10), .bool (faB N vs 11), .bool (faB N vs 12)]) (by simp [results, Try.results49, go_sem, r0, r1, r2, r3, r4, r5, r6, r7, r8, r9, r10, r11, r12]) rfl ⟨rfl, ?_⟩
      exact below13T QB.out (by omega) (fun i => .bool (faB N vs i))
theorem liar_any (N : Nat) (f d p r dr o sl md fr : Int) (ad : Option Addr) (cap : Nat) (zs : List Int) (a2 : Option Addr) (c2 : Nat) (vs : List Int) (w : World) :
    Calls Try.prog 50 #[.agg #[.int .i64 (N : Int), .int .i64 f, .int .i64 d, .int .i64 p, .int .i64 r, .int .i64 dr, .int .i64 o, .int .i64 sl, .int .i64 md, .int .i64 fr, .slice ad zs.length cap], .slice a2 vs.length c2] w fun e w' => ∃ gl gc, e = .returned (.func (.func 61) #[] #[.pointer (some ⟨gl, 0, none⟩), .pointer (some ⟨gc, 0, none⟩)]) ∧ w'.heap[gl]? = some (.cells #[.slice a2 vs.length c2] 22 (0, 0)) ∧ w'.heap[gc]? = some (.cells #[.int .i64 (N : Int), .int .i64 f, .int .i64 d, .int .i64 p, .int .i64 r, .int .i64 dr, .int .i64 o, .int .i64 sl, .int .i64 md, .int .i64 fr, .slice ad zs.length cap] 24 (0, 0)) ∧ Below w.heap.size w w' := by
  have hk0 := blk_later (blk_nw w #[.int .i64 (N : Int), .int .i64 f, .int .i64 d, .int .i64 p, .int .i64 r, .int .i64 dr, .int .i64 o, .int .i64 sl, .int .i64 md, .int .i64 fr, .slice ad zs.length cap] 24) (ballc _ (.cells #[.slice a2 vs.length c2] 22))
  have hk1 := blk_newAt (w.alloc (.cells #[.int .i64 (N : Int), .int .i64 f, .int .i64 d, .int .i64 p, .int .i64 r, .int .i64 dr, .int .i64 o, .int .i64 sl, .int .i64 md, .int .i64 fr, .slice ad zs.length cap] 24)) #[.slice a2 vs.length c2] 22 (b := w.heap.size + 1) (by simp)
  have HK0 := hidden hk0
  have HK1 := hidden hk1
  clear hk0 hk1
  go_enter Try.func50, Try.ntmps50
  go_wp2
  go_ret
  exact ⟨w.heap.size + 1, w.heap.size, rfl, HK1.out, HK0.out, bthen (ballc w _) (ballc _ _)⟩
theorem wrIn {x : Int} {m : Nat} (e : x = (m : Int)) (h : m ≤ 1000000) : IntKind.i64.wrap x = (m : Int) := by subst e; exact IntWalk.i64_in _ (by omega)
theorem kmul_bd {a b A B : Nat} (h1 : a ≤ A) (h2 : b ≤ B) : a * b ≤ A * B := Nat.mul_le_mul h1 h2
set_option maxHeartbeats 2000000 in
theorem lie_any (N : Nat) (f d p r dr o sl md fr : Int) (ad : Option Addr) (cap : Nat) (zs : List Int) (hN2 : N ≤ 13) (gl gc : Nat) (a2 : Option Addr) (c2 : Nat) (vs : List Int) (x a t : Nat) (hx : x ≤ 100) (ha : a < 13) (ht : t < 13) (w : World) (hlv : vs.length ≤ 9223372036854775807) (hL : kInt.Lies w.heap.size w (.slice a2 vs.length c2) vs) (h1 : w.heap[gl]? = some (.cells #[.slice a2 vs.length c2] 22 (0, 0))) (h2 : w.heap[gc]? = some (.cells #[.int .i64 (N : Int), .int .i64 f, .int .i64 d, .int .i64 p, .int .i64 r, .int .i64 dr, .int .i64 o, .int .i64 sl, .int .i64 md, .int .i64 fr, .slice ad zs.length cap] 24 (0, 0))) :
    Calls Try.prog 61 #[.int .i64 (x : Int), .int .i64 (a : Int), .int .i64 (t : Int), .pointer (some ⟨gl, 0, none⟩), .pointer (some ⟨gc, 0, none⟩)] w fun e w' => e = .returned (.int .i64 (lieF vs N x a t)) ∧ Below w.heap.size w w' := by
  have c1 := fun i => blk_cell h1 i
  have c2' := fun i => blk_cell h2 i
  have l1 := blk_lt h1
  have l2 := blk_lt h2
  by_cases hv : vs.length = 0
  · have e : lieF vs N x a t = -1 := if_pos hv
    rw [e]
    have j1 : ((vs.length : Int) == 0) = true := beq_iff_eq.2 (by omega)
    clear hL h1 h2
    go_enter Try.func61, Try.ntmps61
    go_wp2
    go_ret
    exact ⟨rfl, Below.refl _ _⟩
  · have e : lieF vs N x a t = vs.getD (((x * N + a) * N + t) % vs.length) 0 := if_neg hv
    have hm : ((x * N + a) * N + t) % vs.length < vs.length := Nat.mod_lt _ (by omega)
    obtain ⟨b, off, rfl, hbl, e0⟩ := kInt_at hL (((x * N + a) * N + t) % vs.length) hm
    have e1 : vs.getD (((x * N + a) * N + t) % vs.length) 0 = vs[((x * N + a) * N + t) % vs.length] := by simp [hm]
    rw [e, e1]
    clear e e1 hL h1 h2
    generalize vs[((x * N + a) * N + t) % vs.length] = z at *
    have b1 := kmul_bd hx hN2
    have b2 : x * N + a ≤ 1400 := by omega
    have b3 := kmul_bd b2 hN2
    have t1 : IntKind.i64.wrap ((x : Int) * (N : Int)) = ((x * N : Nat) : Int) := wrIn (by simp) (by omega)
    have t2 : IntKind.i64.wrap (((x * N : Nat) : Int) + (a : Int)) = ((x * N + a : Nat) : Int) := wrIn (by omega) (by omega)
    have t3 : IntKind.i64.wrap (((x * N + a : Nat) : Int) * (N : Int)) = (((x * N + a) * N : Nat) : Int) := wrIn (Int.natCast_mul _ _).symm (by omega)
    have t4 : IntKind.i64.wrap ((((x * N + a) * N : Nat) : Int) + (t : Int)) = (((x * N + a) * N + t : Nat) : Int) := wrIn (by omega) (by omega)
    have t5 : ((((x * N + a) * N + t : Nat) : Int)).tmod (vs.length : Int) = ((((x * N + a) * N + t) % vs.length : Nat) : Int) := by rw [Int.tmod_eq_emod_of_nonneg (by omega)]; exact (Int.natCast_emod _ _).symm
    have i1 : (0 : Int) ≤ ((((x * N + a) * N + t) % vs.length : Nat) : Int) := Int.natCast_nonneg _
    have i2 : ((((x * N + a) * N + t) % vs.length : Nat) : Int) < (vs.length : Int) := Int.ofNat_lt.2 hm
    clear hm
    generalize x * N = p1 at *
    generalize (p1 + a) * N = p2 at *
    generalize p1 + a = p3 at *
    generalize p2 + t = p4 at *
    generalize p4 % vs.length = p5 at *
    have j0 : ((vs.length : Int) == 0) = false := beq_eq_false_iff_ne.2 (by omega)
    have j1 : ¬ (vs.length : Int) = 0 := by omega
    clear b1 b2 b3
    go_enter Try.func61, Try.ntmps61
    go_wp2
    refine wp_region_quiet_below (by kernel_rfl) (by kernel_rfl) ?_
    repeat (go_big_quiet_step (fail))
    refine wpQuiet_nil ?_
    intro w2 hw2
    have HB2 := hidden (rg_below hw2)
    clear hw2
    go_wp2
    go_ret
    exact ⟨rfl, HB2.out⟩
end Go.Proofs.Ytklcjfbdneallaa
