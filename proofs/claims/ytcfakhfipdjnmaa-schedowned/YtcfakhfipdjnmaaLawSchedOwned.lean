/- The walk of the statement SchedOwned: the call returns true, and makes at most new memory; conditions: the table lies where it says, its length and the numbers fit int. -/
import Derived.Test.YtcfakhfipdjnmaaBd
import Derived.Test.YtcfakhfipdjnmaaBe
namespace Go.Proofs.Ytcfakhfipdjnmaa.LawSchedOwned
open Go.ChangeShapes Go.WideShapes Go.ChangeAt Go.RowKit Go.Shelf
set_option linter.unusedVariables false
attribute [local go_sem] Oper.semAt_some

theorem equalIn_func_nil {P : Program} (w : World) (d : Nat) (t : TypeId) {a b : _} {c : _} (h : P.underlying t = some (.func a b c)) (fn : Fn) (first cap : Array Value) : (Op.equalIn (d + 1) t (.func fn first cap) .nilFunc).run P w = .ok false w := by
  simp [Op.equalIn, run_underlying h]
theorem eql_func_nil {P : Program} (w : World) (t : TypeId) {a b : _} {c : _} (h : P.underlying t = some (.func a b c)) (fn : Fn) (first cap : Array Value) : (binOp .eql t (.func fn first cap) .nilFunc).run P w = .ok (.bool false) w := by
  simp only [binOp]
  simp [Op.equal, Op.maxDepth, equalIn_func_nil w 9999 t h fn first cap]
theorem run_eql_func_nil (w : World) (fn : Fn) (first cap : Array Value) : (binOp .eql 31 (.func fn first cap) .nilFunc).run Try.prog w = .ok (.bool false) w := eql_func_nil w _ Try.underlying31 fn first cap
/-- What is left where the loop is gone from. -/
def Left (L : List Nat) (w2 : World) (nb : Nat) (stop : Int) (c : Code) (pre : List Nat) (W : World) : Prop :=
  (c = .exit 0 ∧ Boxed W nb 3 (.int .i64 stop) ∧ Below w2.heap.size w2 W) ∨ (c = .ret ∧ ¬ pre <+: L)
theorem left_own {L : List Nat} {w2 : World} {nb : Nat} {stop : Int} {B : Nat} (hB : w2.heap.size ≤ B) (c : Code) : OwnFrom B (Left L w2 nb stop c) := by
  intro pre X Y row hs hg hr
  rcases hs with ⟨hc, hbx, hbl⟩ | hs
  · exact .inl ⟨hc, (Own.from (boxed_own _ _ (fun (_ : Unit) => Value.int .i64 stop)) _) () X Y row hbx hg hr, (ownFrom_below (Nat.le_refl _) hB) () X Y row hbl hg hr⟩
  · exact .inr hs
theorem not_pre_long {L pre : List Nat} {x : Nat} (h : L.length ≤ pre.length) : ¬ pre ++ [x] <+: L := fun hp => by
  have := hp.length_le
  simp at this
  omega
theorem not_pre_other {L pre : List Nat} {x : Nat} (h : pre.length < L.length) (hx : x ≠ L[pre.length]) : ¬ pre ++ [x] <+: L := fun hp => by
  obtain ⟨t, ht⟩ := hp
  apply hx
  subst ht
  simp

set_option maxRecDepth 100000 in
set_option maxHeartbeats 4000000 in
theorem walk_in (n f d p r dr o sl md fr : Int) (ad : Option Addr) (cap : Nat) (zs : List Int) (node stop : Int) (m : Nat) (hm : 3 ≤ m) (w : World) (hl : zs.length ≤ 9223372036854775807) (hT : Tab w ad zs) :
    CallsIn Fence.wide m Try.prog 4 #[.agg #[.int .i64 n, .int .i64 f, .int .i64 d, .int .i64 p, .int .i64 r, .int .i64 dr, .int .i64 o, .int .i64 sl, .int .i64 md, .int .i64 fr, .slice ad zs.length cap], .int .i64 node, .int .i64 stop] w fun e w' => e = .returned (.bool true) ∧ Below w.heap.size w w' := by
  have h1 : 1 ≤ m := by omega
  have hro : Fence.wide.round = none := rfl
  have hB0 : Below w.heap.size w (((w.alloc (.cells #[.int .i64 n, .int .i64 f, .int .i64 d, .int .i64 p, .int .i64 r, .int .i64 dr, .int .i64 o, .int .i64 sl, .int .i64 md, .int .i64 fr, .slice ad zs.length cap] 24)).alloc (.cells #[.int .i64 stop] 3)).alloc (.cells #[.bool false] 4)) := bthen (bthen (ballc w _) (ballc _ _)) (ballc _ _)
  have HA := hidden (fun V h => Owned_any n f d p r dr o sl md fr ad cap zs node V hl h)
  have HE := hidden (fun V h => rOwned_any n f d p r dr o sl md fr ad cap zs node V hl h)
  have HO := hidden (ownedF_tab (plainE n f d p r dr o sl md fr zs) zs node)
  have HL6 : Hid ((tabF (plainE n f d p r dr o sl md fr zs) zs).length ≤ 1000000) := by
    show _ ≤ _
    by_cases hE : plainE n f d p r dr o sl md fr zs = 0
    · have := (plainE_ok hE).2.2.2.2.2.2.2.2.2.2.2.2.2.2.2.2.2.2.2.2.2.2.1
      rw [hE, tabF_ok]; omega
    · rw [tabF_err hE]; decide
  have hll := ownedF_len (plainE n f d p r dr o sl md fr zs) zs node
  have KN := hidden (fun V => known21_any V)
  have HT := hidden (hT.below hB0)
  have q0 := blk_later (blk_later (blk_nw w #[.int .i64 n, .int .i64 f, .int .i64 d, .int .i64 p, .int .i64 r, .int .i64 dr, .int .i64 o, .int .i64 sl, .int .i64 md, .int .i64 fr, .slice ad zs.length cap] 24) (ballc _ (.cells #[.int .i64 stop] 3))) (ballc _ (.cells #[.bool false] 4))
  have q1 : Boxed (((w.alloc (.cells #[.int .i64 n, .int .i64 f, .int .i64 d, .int .i64 p, .int .i64 r, .int .i64 dr, .int .i64 o, .int .i64 sl, .int .i64 md, .int .i64 fr, .slice ad zs.length cap] 24)).alloc (.cells #[.int .i64 stop] 3)).alloc (.cells #[.bool false] 4)) (w.heap.size + 1) 3 (.int .i64 stop) := blk_later (blk_newAt (w.alloc (.cells #[.int .i64 n, .int .i64 f, .int .i64 d, .int .i64 p, .int .i64 r, .int .i64 dr, .int .i64 o, .int .i64 sl, .int .i64 md, .int .i64 fr, .slice ad zs.length cap] 24)) #[.int .i64 stop] 3 (b := w.heap.size + 1) (by simp)) (ballc _ _)
  have q2 : Boxed (((w.alloc (.cells #[.int .i64 n, .int .i64 f, .int .i64 d, .int .i64 p, .int .i64 r, .int .i64 dr, .int .i64 o, .int .i64 sl, .int .i64 md, .int .i64 fr, .slice ad zs.length cap] 24)).alloc (.cells #[.int .i64 stop] 3)).alloc (.cells #[.bool false] 4)) (w.heap.size + 1 + 1) 4 (.bool false) := blk_newAt ((w.alloc (.cells #[.int .i64 n, .int .i64 f, .int .i64 d, .int .i64 p, .int .i64 r, .int .i64 dr, .int .i64 o, .int .i64 sl, .int .i64 md, .int .i64 fr, .slice ad zs.length cap] 24)).alloc (.cells #[.int .i64 stop] 3)) #[.bool false] 4 (b := w.heap.size + 1 + 1) (by simp)
  have HB0 := hidden hB0
  have Q0 := hidden q0
  have Q1 := hidden q1
  have Q2 := hidden q2
  clear hT hB0 q0 q1 q2
  generalize hLL : ownedF (plainE n f d p r dr o sl md fr zs) zs node = L at *
  generalize hls : tabF (plainE n f d p r dr o sl md fr zs) zs = ls at *
  generalize plainE n f d p r dr o sl md fr zs = E at *
  clear hLL hls
  refine callsIn_of_wp_marks Try.func4 rfl trivial ?_ hro
  simp only [Try.ntmps4, List.size_toArray, List.length_cons, List.length_nil, Nat.reduceAdd, Nat.reduceSub, Array.replicate_succ, Array.replicate_zero, List.push_toArray, List.append_toArray, List.nil_append, List.cons_append]
  have hfa : Fence.wide.fn 17 := trivial
  have hfb : Fence.wide.fn 16 := trivial
  have hfc : Fence.wide.fn 9 := trivial
  gi_wp2_with (gi_at_call 16; refine (callsIn_wide.2 (HE.out _ HT.out)).mono ?_; rintro e w1 ⟨vl, rfl, hown, hb⟩; obtain ⟨al, cl, rfl⟩ := own_slice hown; refine Hid.out ?_)
  have HB1 := hidden hb
  have HR1 := hidden (Kind.Lies.of_own (K := kInt) (es := nums L) (by rw [nums_len]; exact hown))
  have k0 := fun i => blk_cell (blk_later Q0.out HB1.out) i
  have l0 := blk_lt (blk_later Q0.out HB1.out)
  have ls := hb.size
  clear hb hown
  refine hidden ?_
  gi_wp2_with (gi_at_call 17; refine (callsIn_wide.2 (HA.out _ ((HT.out.below HB1.out).below (ballc w1 (.cells #[.slice al L.length cl] 22))))).mono ?_; rintro e w2 ⟨gr, gc, ad2, cap2, rfl, c1, c2, hLs, hb⟩; refine Hid.out ?_)
  have HC2 := hidden (bthen (ballc w1 (.cells #[.slice al L.length cl] 22)) hb)
  have HB2 := hidden (bthen HB1.out HC2.out)
  have HL2 := hidden (show Boxed w2 w1.heap.size 22 (.slice al L.length cl) from blk_later (blk_nw w1 #[.slice al L.length cl] 22) hb)
  have HV2 := hidden ((HR1.out.later HC2.out).mono (Nat.le_refl _))
  have HS2 := hidden (show Boxed w2 (w.heap.size + 1) 3 (.int .i64 stop) from blk_later Q1.out HB2.out)
  have HP2 := hidden (show Boxed w2 (w.heap.size + 1 + 1) 4 (.bool false) from blk_later Q2.out HB2.out)
  have G1 := hidden c1
  have GL := hidden hLs
  have G2 := hidden c2
  have HG := hidden (bthen HB0.out HB2.out)
  have ls2 := HP2.out.lt
  clear hb c1 c2 hLs k0 l0 HB1 HR1 HC2 Q0 Q1 Q2 HT HA HE ls
  refine hidden ?_
  have hnil := fun (V : World) (fn : Fn) (first cap : Array Value) => run_eql_func_nil V fn first cap
  gi_wp2_with (fail)
  clear hnil
  have hw0 : (w2.alloc (.cells #[.int .i64 0] 3)).heap.size = w2.heap.size + 1 := by simp
  refine wpIn_rangeFunc_ownH hro h1 (gf := 44) (lb := #[.pointer (some ⟨gr, 0, none⟩), .pointer (some ⟨gc, 0, none⟩)]) rfl trivial (enters_of Try.func44 (by kernel_rfl) rfl)
    (owned_stops ls node HL6.out (m - 1) (by omega) gr gc w2.heap.size ad2 cap2 (w2.alloc (.cells #[.int .i64 0] 3)) (by omega) (blk_later G1.out (ballc _ _)) (blk_later G2.out (ballc _ _)) (blk_lt G2.out) (GL.out.below (ballc _ _))) belowK_t (belowK_b (by omega)) (Below.refl _ _) (fun _ => rfl)
    (fun pre W => Boxed W w2.heap.size 3 (.int .i64 (pre.length : Int)) ∧ Below w2.heap.size w2 W)
    (Left L w2 w2.heap.size stop)
    (OwnFrom.and (Own.from (boxed_own _ _ _) _) (ownFrom_below (Nat.le_refl _) (by omega)))
    (left_own (by omega))
    ⟨blk_nw w2 #[.int .i64 0] 3, ballc _ _⟩
    (fun x a' W => a' = { tmps := #[.agg #[.int .i64 n, .int .i64 f, .int .i64 d, .int .i64 p, .int .i64 r, .int .i64 dr, .int .i64 o, .int .i64 sl, .int .i64 md, .int .i64 fr, .slice ad zs.length cap], .int .i64 node, .int .i64 stop, .pointer (some ⟨w.heap.size, 0, none⟩), undef, .pointer (some ⟨w.heap.size + 1, 0, none⟩), .pointer (some ⟨w.heap.size + 1 + 1, 0, none⟩), .pointer (some ⟨w1.heap.size, 0, none⟩), .func (.func 44) #[] #[.pointer (some ⟨gr, 0, none⟩), .pointer (some ⟨gc, 0, none⟩)], .pointer (some ⟨w2.heap.size, 0, none⟩), .int .i64 (x : Int), .agg #[.int .i64 n, .int .i64 f, .int .i64 d, .int .i64 p, .int .i64 r, .int .i64 dr, .int .i64 o, .int .i64 sl, .int .i64 md, .int .i64 fr, .slice ad zs.length cap], .int .i64 node, .slice al L.length cl, .agg #[.int .i64 n, .int .i64 f, .int .i64 d, .int .i64 p, .int .i64 r, .int .i64 dr, .int .i64 o, .int .i64 sl, .int .i64 md, .int .i64 fr, .slice ad zs.length cap], .int .i64 node, .func (.func 44) #[] #[.pointer (some ⟨gr, 0, none⟩), .pointer (some ⟨gc, 0, none⟩)], .func (.func 44) #[] #[.pointer (some ⟨gr, 0, none⟩), .pointer (some ⟨gc, 0, none⟩)], .bool false, .func (.func 44) #[] #[.pointer (some ⟨gr, 0, none⟩), .pointer (some ⟨gc, 0, none⟩)], .int .i64 (x : Int), undef, undef, undef, undef, undef, undef, undef, undef, undef, undef, undef, undef, undef, undef, undef, undef, undef, undef, undef, undef, undef, undef, undef, undef, undef, undef, undef, undef, undef], defers := [] })
    (fun x a' => ownFrom_pure _ _)
    ?assign ?body ?done ?stop
  case assign =>
    rintro l pre x W K hI hK
    gi_wp2
    exact hK _ _ (KeepsFrom.refl _ _) (Below.refl _ _) hI rfl
  case body =>
    rintro l pre x a' W hl2 hr ⟨d1, hBw⟩ rfl hlt
    have e1 := d1.cell
    have e2 := d1.frozen
    have e3 := d1.lt
    have f1 := (show Boxed W w1.heap.size 22 (.slice al L.length cl) from blk_later HL2.out hBw).cell
    have f2 := (show Boxed W (w.heap.size + 1) 3 (.int .i64 stop) from blk_later HS2.out hBw).cell
    have g1 := HL2.out.lt
    have g2 := HS2.out.lt
    have f3 := (show Boxed W (w.heap.size + 1 + 1) 4 (.bool false) from blk_later HP2.out hBw).frozen
    have f4 := (show Boxed W (w.heap.size + 1 + 1) 4 (.bool false) from blk_later HP2.out hBw).cell
    have HBW := hidden hBw
    have hBs := hBw.size
    have HD1 := hidden d1
    by_cases hlo : L.length ≤ pre.length
    · have i0 : decide ((L.length : Int) ≤ (pre.length : Int)) = true := decide_eq_true (by omega)
      clear hBw d1
      gi_wp2
      exact ⟨(KeepsOthers.setCell _ _ _).from _, .inr ⟨rfl, not_pre_long hlo⟩⟩
    have i0 : decide ((L.length : Int) ≤ (pre.length : Int)) = false := decide_eq_false (by omega)
    have i1 : (0 : Int) ≤ (pre.length : Int) := by omega
    have hlp : pre.length < L.length := by omega
    have i2 : (pre.length : Int) < (L.length : Int) := by omega
    have hv := HV2.out.later hBw
    obtain ⟨b, off, rfl, hbl, e0⟩ := kInt_at hv pre.length (by rw [nums_len]; exact hlp)
    rw [nums_get L pre.length hlp] at e0
    have HNP := hidden (fun h => not_pre_other (L := L) (pre := pre) (x := x) hlp h)
    clear hv hBw d1 HV2
    generalize L[pre.length] = y at *
    by_cases hx : x = y
    · have j0 : ((x : Int) != (y : Int)) = false := by simp [hx]
      clear HNP
      generalize hpl : pre.length = p at *
      by_cases hst : (p : Int) + 1 = stop
      · have j : ((p : Int) + 1 == stop) = true := by simp [hst]
        gi_wp2
        exact ⟨(KeepsOthers.setCell _ _ _).from _, .inl ⟨rfl, by rw [← hst]; exact HD1.out.set _, HBW.out.setCell (p := ⟨w2.heap.size, 0, none⟩) (Nat.le_refl _) _⟩⟩
      · have j : ((p : Int) + 1 == stop) = false := by simp [hst]
        gi_wp2
        refine ⟨(KeepsOthers.setCell _ _ _).from _, (Below.refl _ _).setCell (p := ⟨w2.heap.size, 0, none⟩) (Nat.le_refl _) _, ?_, HBW.out.setCell (p := ⟨w2.heap.size, 0, none⟩) (Nat.le_refl _) _⟩
        rw [List.length_append, hpl]
        exact HD1.out.set _
    · have j : ((x : Int) != (y : Int)) = true := by simp; omega
      have HNX := hidden (HNP.out hx)
      gi_wp2
      exact ⟨(KeepsOthers.setCell _ _ _).from _, .inr ⟨rfl, HNX.out⟩⟩
  case done =>
    rintro D ys W hD rfl ⟨d1, hBw⟩ hK
    rw [← HO.out] at d1
    have e1 := d1.cell
    have e3 := d1.lt
    have f1 := (show Boxed W w1.heap.size 22 (.slice al L.length cl) from blk_later HL2.out hBw).cell
    have g1 := HL2.out.lt
    have hBs := hBw.size
    have HK := hidden hK
    have HBW := hidden hBw
    clear hBw d1 hK
    gi_wp2_with (gi_at_call 9; refine (callsIn_wide.2 (KN.out _)).mono ?_; rintro e w5 ⟨rfl, hb⟩; refine Hid.out ?_)
    have hK5 := (hb.block D (Array.getElem?_eq_some_iff.1 HK.out).1).trans HK.out
    have HB5 := hidden (hb.mono hBs)
    have p5 := show Boxed w5 (w.heap.size + 1 + 1) 4 (.bool false) from blk_later HP2.out (HBW.out.trans (hb.mono hBs))
    have f5 := p5.frozen
    have f6 := p5.cell
    have l5 := p5.lt
    have P5 := hidden p5
    have K5 := hidden hK5
    clear hb hK5 p5 e1 f1
    refine hidden ?_
    gi_wp2
    have hK' := (KeepsOthers.setCell w5 ⟨w.heap.size + 1 + 1, 0, none⟩ (.bool true)).same D _ K5.out rfl
    refine ⟨by simp, .inl ⟨_, _, rfl, run_takeDeferred hK', ?_⟩⟩
    have d3 := (P5.out.set (.bool true)).kept (grownBy_putObj' _ D (.deferred none)) (by simp; omega)
    have c5 := d3.cell
    refine ⟨.bool true, ?_, rfl, ?_⟩
    · simp [results, Try.results4, go_sem, c5]
    · have hBB : Below w.heap.size w w5 := HG.out.trans ((HBW.out.trans HB5.out).mono HG.out.size)
      exact (hBB.setCell (p := ⟨w.heap.size + 1 + 1, 0, none⟩) (by simp; omega) _).trans (belowK_b (w := w) (Nat.le_refl _) _ D _ _ (by omega) hK' rfl rfl)
  case stop =>
    rintro D c pre W hD hS hL hK
    rw [← HO.out] at hS
    rcases hL with ⟨rfl, d1, hBw⟩ | ⟨_, hL⟩
    · have e1 := d1.cell
      have e3 := d1.lt
      have f1 := (show Boxed W w1.heap.size 22 (.slice al L.length cl) from blk_later HL2.out hBw).cell
      have f2 := (show Boxed W (w.heap.size + 1) 3 (.int .i64 stop) from blk_later HS2.out hBw).cell
      have g1 := HL2.out.lt
      have g2 := HS2.out.lt
      have hBs := hBw.size
      have HK := hidden hK
      have HBW := hidden hBw
      clear hBw d1 hK
      by_cases hst : stop = (L.length : Int)
      · have j : (stop == (L.length : Int)) = true := by simp [hst]
        gi_wp2_with (gi_at_call 9; refine (callsIn_wide.2 (KN.out _)).mono ?_; rintro e w5 ⟨rfl, hb⟩; refine Hid.out ?_)
        have hK5 := (hb.block D (Array.getElem?_eq_some_iff.1 HK.out).1).trans HK.out
        have HB5 := hidden (hb.mono hBs)
        have p5 := show Boxed w5 (w.heap.size + 1 + 1) 4 (.bool false) from blk_later HP2.out (HBW.out.trans (hb.mono hBs))
        have f5 := p5.frozen
        have f6 := p5.cell
        have l5 := p5.lt
        have P5 := hidden p5
        have K5 := hidden hK5
        clear hb hK5 p5 e1 f1
        refine hidden ?_
        gi_wp2
        have hK' := (KeepsOthers.setCell w5 ⟨w.heap.size + 1 + 1, 0, none⟩ (.bool true)).same D _ K5.out rfl
        refine ⟨by simp, .inl ⟨_, _, rfl, run_takeDeferred hK', ?_⟩⟩
        have d3 := (P5.out.set (.bool true)).kept (grownBy_putObj' _ D (.deferred none)) (by simp; omega)
        have c5 := d3.cell
        refine ⟨.bool true, ?_, rfl, ?_⟩
        · simp [results, Try.results4, go_sem, c5]
        · have hBB : Below w.heap.size w w5 := HG.out.trans ((HBW.out.trans HB5.out).mono HG.out.size)
          exact (hBB.setCell (p := ⟨w.heap.size + 1 + 1, 0, none⟩) (by simp; omega) _).trans (belowK_b (w := w) (Nat.le_refl _) _ D _ _ (by omega) hK' rfl rfl)
      · have j : (stop == (L.length : Int)) = false := by simp [hst]
        gi_wp2_with (gi_at_call 9; refine (callsIn_wide.2 (KN.out _)).mono ?_; rintro e w5 ⟨rfl, hb⟩; refine Hid.out ?_)
        have hK5 := (hb.block D (Array.getElem?_eq_some_iff.1 HK.out).1).trans HK.out
        have HB5 := hidden (hb.mono hBs)
        have p5 := show Boxed w5 (w.heap.size + 1 + 1) 4 (.bool false) from blk_later HP2.out (HBW.out.trans (hb.mono hBs))
        have f5 := p5.frozen
        have f6 := p5.cell
        have l5 := p5.lt
        have P5 := hidden p5
        have K5 := hidden hK5
        clear hb hK5 p5 e1 f1
        refine hidden ?_
        gi_wp2
        have hK' := (KeepsOthers.setCell w5 ⟨w.heap.size + 1 + 1, 0, none⟩ (.bool true)).same D _ K5.out rfl
        refine ⟨by simp, .inl ⟨_, _, rfl, run_takeDeferred hK', ?_⟩⟩
        have d3 := (P5.out.set (.bool true)).kept (grownBy_putObj' _ D (.deferred none)) (by simp; omega)
        have c5 := d3.cell
        refine ⟨.bool true, ?_, rfl, ?_⟩
        · simp [results, Try.results4, go_sem, c5]
        · have hBB : Below w.heap.size w w5 := HG.out.trans ((HBW.out.trans HB5.out).mono HG.out.size)
          exact (hBB.setCell (p := ⟨w.heap.size + 1 + 1, 0, none⟩) (by simp; omega) _).trans (belowK_b (w := w) (Nat.le_refl _) _ D _ _ (by omega) hK' rfl rfl)
    · exact (hL hS).elim
theorem walk (n f d p r dr o sl md fr : Int) (ad : Option Addr) (cap : Nat) (zs : List Int) (node stop : Int) (w : World) (hl : zs.length ≤ 9223372036854775807) (hT : Tab w ad zs) (hn : -9223372036854775808 ≤ node ∧ node ≤ 9223372036854775807) (hs : -9223372036854775808 ≤ stop ∧ stop ≤ 9223372036854775807) :
    Calls Try.prog 4 #[.agg #[.int .i64 n, .int .i64 f, .int .i64 d, .int .i64 p, .int .i64 r, .int .i64 dr, .int .i64 o, .int .i64 sl, .int .i64 md, .int .i64 fr, .slice ad zs.length cap], .int .i64 node, .int .i64 stop] w fun e w' => e = .returned (.bool true) ∧ Below w.heap.size w w' := (callsIn_wide (n := 3)).1 (walk_in n f d p r dr o sl md fr ad cap zs node stop 3 (Nat.le_refl _) w hl hT)
end Go.Proofs.Ytcfakhfipdjnmaa.LawSchedOwned
