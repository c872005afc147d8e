/- Several texts of one's own in one: what each proves, and its conditions, is said ahead of it. -/
import Derived.Test.YtkopmhmbldohdaaBc
import Derived.Test.YtkopmhmbldohdaaBa
import Derived.Test.YtkopmhmbldohdaaBd
import Derived.Test.YtkopmhmbldohdaaBe
import Derived.Deep.RegionHeld3
import Derived.WalkSpells
import Derived.Laws.BytesString
import Derived.Deep.OwnRows
import Derived.Laws.IdiomStrings
import Derived.RangeFuncNested
import Derived.RangeFuncBound
import Derived.RangeFuncCalls
import Derived.RangeFuncLeaves
import Derived.Shelf.Abstract
import Derived.Shelf.RegionOpen
import Derived.OwnWalkIn
import Derived.TacticsInMore
import Derived.LoopNIn
import Derived.LoopIn
import Derived.Maps.AppendAt
import Derived.Lib.SliceRun
import Derived.Deep.SlicePairs
import Derived.Laws.StructEq
import Derived.Deep.WholeRow

/- The calls Strip and Carry of package packet, and those of the document's answer, return what plain functions give, and make at most new memory; no conditions. -/
namespace Go.Proofs.Ytkopmhmbldohdaa
open Go.ChangeShapes Go.WideShapes Go.ChangeAt Go.RowKit
set_option linter.unusedVariables false

theorem Strip_any (vo : ByteArray) (ex : Int) (ve : ByteArray) (ps cy : Int) (te : ByteArray) (w : World) :
    Calls Try.prog 40 #[.agg #[.string vo, .int .i64 ex, .string ve, .int .i64 ps, .int .i64 cy, .string te]] w fun e w' => e = .returned (.agg #[.string vo, .int .i64 ex, .string ve, .int .i64 0, .int .i64 0, .string ⟨#[]⟩]) ∧ Below w.heap.size w w' := by
  go_enter Try.func40, Try.ntmps40
  go_wp2
  exact bodyPost_ret (v := .agg #[.string vo, .int .i64 ex, .string ve, .int .i64 0, .int .i64 0, .string ⟨#[]⟩]) (by simp [results, Try.results40, go_sem]) rfl ⟨rfl, ((Below.refl _ w).alloc (Nat.le_refl _) _).alloc (by simp) _⟩
theorem rStrip_any (vo : ByteArray) (ex : Int) (ve : ByteArray) (ps cy : Int) (te : ByteArray) (w : World) :
    Calls Try.prog 20 #[.agg #[.string vo, .int .i64 ex, .string ve, .int .i64 ps, .int .i64 cy, .string te]] w fun e w' => e = .returned (.agg #[.string vo, .int .i64 ex, .string ve, .int .i64 0, .int .i64 0, .string ⟨#[]⟩]) ∧ Below w.heap.size w w' := by
  go_enter Try.func20, Try.ntmps20
  go_wp2
  exact bodyPost_ret (v := .agg #[.string vo, .int .i64 ex, .string ve, .int .i64 0, .int .i64 0, .string ⟨#[]⟩]) (by simp [results, Try.results20, go_sem]) rfl ⟨rfl, ((Below.refl _ w).alloc (Nat.le_refl _) _).alloc (by simp) _⟩
theorem Carry_any (vo : ByteArray) (ex : Int) (ve : ByteArray) (ps cy : Int) (te : ByteArray) (s c : Int) (t : ByteArray) (w : World) :
    Calls Try.prog 58 #[.agg #[.string vo, .int .i64 ex, .string ve, .int .i64 ps, .int .i64 cy, .string te], .int .i64 s, .int .i64 c, .string t] w fun e w' => e = .returned (.agg #[.string vo, .int .i64 ex, .string ve, .int .i64 (carS s), .int .i64 (carC s c), .string (carT s t)]) ∧ Below w.heap.size w w' := by
  by_cases h : s < 0 ∨ 32 ≤ s
  · have e1 : carS s = 0 := if_pos h
    have e2 : carC s c = 0 := if_pos h
    have e3 : carT s t = ⟨#[]⟩ := if_pos h
    rw [e1, e2, e3]
    clear e1 e2 e3
    have hq : s < 0 ∨ (¬ s < 0 ∧ 32 ≤ s) := by omega
    clear h
    rcases hq with h | ⟨h, h2⟩
    · have d1 : decide (s < 0) = true := by simp [h]
      go_enter Try.func58, Try.ntmps58
      go_wp2_with fail
      refine (Strip_any _ _ _ _ _ _ _).mono ?_
      rintro e w1 ⟨rfl, hb⟩
      have hblk := blk_second _ _ _ _ hb
      have hop := fun i => blk_frozen hblk i
      obtain ⟨hbox, hbox2, hsz0, hsz⟩ := box_two hb
      have HB := hidden (bthen (bthen (ballc w _) (ballc _ _)) hb)
      have HK := hidden hblk
      clear hb hblk
      go_wp2
      obtain ⟨r0, r1, r2, r3, r4, r5⟩ := read6T HK.out (.string vo) (.int .i64 ex) (.string ve) (.int .i64 0) (.int .i64 0) (.string ⟨#[]⟩)
      refine bodyPost_ret (v := .agg #[.string vo, .int .i64 ex, .string ve, .int .i64 0, .int .i64 0, .string ⟨#[]⟩]) (by simp [results, Try.results58, go_sem, r0, r1, r2, r3, r4, r5]) rfl ⟨rfl, ?_⟩
      exact below6T HB.out (by omega) _ _ _ _ _ _
    · have d1 : decide (s < 0) = false := by simp [h]
      have d2 : decide (32 ≤ s) = true := by simp [h2]
      go_enter Try.func58, Try.ntmps58
      go_wp2_with fail
      refine (Strip_any _ _ _ _ _ _ _).mono ?_
      rintro e w1 ⟨rfl, hb⟩
      have hblk := blk_second _ _ _ _ hb
      have hop := fun i => blk_frozen hblk i
      obtain ⟨hbox, hbox2, hsz0, hsz⟩ := box_two hb
      have HB := hidden (bthen (bthen (ballc w _) (ballc _ _)) hb)
      have HK := hidden hblk
      clear hb hblk
      go_wp2
      obtain ⟨r0, r1, r2, r3, r4, r5⟩ := read6T HK.out (.string vo) (.int .i64 ex) (.string ve) (.int .i64 0) (.int .i64 0) (.string ⟨#[]⟩)
      refine bodyPost_ret (v := .agg #[.string vo, .int .i64 ex, .string ve, .int .i64 0, .int .i64 0, .string ⟨#[]⟩]) (by simp [results, Try.results58, go_sem, r0, r1, r2, r3, r4, r5]) rfl ⟨rfl, ?_⟩
      exact below6T HB.out (by omega) _ _ _ _ _ _
  · have e1 : carS s = s + 1 := if_neg h
    have e2 : carC s c = c := if_neg h
    have e3 : carT s t = t := if_neg h
    rw [e1, e2, e3]
    clear e1 e2 e3
    have h1 : ¬ s < 0 := by omega
    have h2 : ¬ 32 ≤ s := by omega
    have d1 : decide (s < 0) = false := by simp [h1]
    have d2 : decide (32 ≤ s) = false := by simp; omega
    have t1 : IntKind.i64.wrap (s + 1) = s + 1 := IntWalk.i64_in _ (by omega)
    have t2 : wrap64 (s + 1) = s + 1 := IntWalk.wrap64_in _ (by omega)
    clear h
    go_enter Try.func58, Try.ntmps58
    go_wp2
    exact bodyPost_ret (v := .agg #[.string vo, .int .i64 ex, .string ve, .int .i64 (s + 1), .int .i64 c, .string t]) (by simp [results, Try.results58, go_sem]) rfl ⟨rfl, ((Below.refl _ w).alloc (Nat.le_refl _) _).alloc (by simp) _⟩
set_option maxHeartbeats 1000000 in
theorem rCarry_any (vo : ByteArray) (ex : Int) (ve : ByteArray) (ps cy : Int) (te : ByteArray) (s c : Int) (t : ByteArray) (w : World) :
    Calls Try.prog 42 #[.agg #[.string vo, .int .i64 ex, .string ve, .int .i64 ps, .int .i64 cy, .string te], .int .i64 s, .int .i64 c, .string t] w fun e w' => e = .returned (.agg #[.string vo, .int .i64 ex, .string ve, .int .i64 (carS s), .int .i64 (carC s c), .string (carT s t)]) ∧ Below w.heap.size w w' := by
  by_cases h : s < 0 ∨ 32 ≤ s
  · have e1 : carS s = 0 := if_pos h
    have e2 : carC s c = 0 := if_pos h
    have e3 : carT s t = ⟨#[]⟩ := if_pos h
    rw [e1, e2, e3]
    clear e1 e2 e3
    have hq : s < 0 ∨ (¬ s < 0 ∧ 32 ≤ s) := by omega
    clear h
    rcases hq with h | ⟨h, h2⟩
    · have d1 : decide (s < 0) = true := by simp [h]
      go_enter Try.func42, Try.ntmps42
      go_wp2_with fail
      refine (rStrip_any _ _ _ _ _ _ _).mono ?_
      rintro e w1 ⟨rfl, hb⟩
      have hblk := blk_second _ _ _ _ hb
      have hop := fun i => blk_frozen hblk i
      obtain ⟨hbox, hbox2, hsz0, hsz⟩ := box_two hb
      have hne : ¬ w.heap.size + 1 = w1.heap.size := by omega
      have hlt : w.heap.size + 1 < w1.heap.size := by omega
      have HB := hidden (bthen (bthen (ballc w _) (ballc _ _)) hb)
      have HK := hidden hblk
      clear hb hblk
      go_wp2
      obtain ⟨r0, r1, r2, r3, r4, r5⟩ := read6A HK.out (.cells #[.string vo, .int .i64 ex, .string ve, .int .i64 0, .int .i64 0, .string ⟨#[]⟩] 38) (.string vo) (.int .i64 ex) (.string ve) (.int .i64 0) (.int .i64 0) (.string ⟨#[]⟩)
      refine bodyPost_ret (v := .agg #[.string vo, .int .i64 ex, .string ve, .int .i64 0, .int .i64 0, .string ⟨#[]⟩]) (by simp [results, Try.results42, go_sem, r0, r1, r2, r3, r4, r5]) rfl ⟨rfl, ?_⟩
      exact below6A HB.out (by omega) _ _ _ _ _ _ _
    · have d1 : decide (s < 0) = false := by simp [h]
      have d2 : decide (32 ≤ s) = true := by simp [h2]
      go_enter Try.func42, Try.ntmps42
      go_wp2_with fail
      refine (rStrip_any _ _ _ _ _ _ _).mono ?_
      rintro e w1 ⟨rfl, hb⟩
      have hblk := blk_second _ _ _ _ hb
      have hop := fun i => blk_frozen hblk i
      obtain ⟨hbox, hbox2, hsz0, hsz⟩ := box_two hb
      have hne : ¬ w.heap.size + 1 = w1.heap.size := by omega
      have hlt : w.heap.size + 1 < w1.heap.size := by omega
      have HB := hidden (bthen (bthen (ballc w _) (ballc _ _)) hb)
      have HK := hidden hblk
      clear hb hblk
      go_wp2
      obtain ⟨r0, r1, r2, r3, r4, r5⟩ := read6A HK.out (.cells #[.string vo, .int .i64 ex, .string ve, .int .i64 0, .int .i64 0, .string ⟨#[]⟩] 38) (.string vo) (.int .i64 ex) (.string ve) (.int .i64 0) (.int .i64 0) (.string ⟨#[]⟩)
      refine bodyPost_ret (v := .agg #[.string vo, .int .i64 ex, .string ve, .int .i64 0, .int .i64 0, .string ⟨#[]⟩]) (by simp [results, Try.results42, go_sem, r0, r1, r2, r3, r4, r5]) rfl ⟨rfl, ?_⟩
      exact below6A HB.out (by omega) _ _ _ _ _ _ _
  · have e1 : carS s = s + 1 := if_neg h
    have e2 : carC s c = c := if_neg h
    have e3 : carT s t = t := if_neg h
    rw [e1, e2, e3]
    clear e1 e2 e3
    have h1 : ¬ s < 0 := by omega
    have h2 : ¬ 32 ≤ s := by omega
    have d1 : decide (s < 0) = false := by simp [h1]
    have d2 : decide (32 ≤ s) = false := by simp; omega
    have t1 : IntKind.i64.wrap (s + 1) = s + 1 := IntWalk.i64_in _ (by omega)
    have t2 : wrap64 (s + 1) = s + 1 := IntWalk.wrap64_in _ (by omega)
    clear h
    go_enter Try.func42, Try.ntmps42
    go_wp2_with fail
    refine (rStrip_any _ _ _ _ _ _ _).mono ?_
    rintro e w1 ⟨rfl, hb⟩
    have hblk := blk_second _ _ _ _ hb
    have hop := fun i => blk_frozen hblk i
    obtain ⟨hbox, hbox2, hsz0, hsz⟩ := box_two hb
    have hne : ¬ w.heap.size + 1 = w1.heap.size := by omega
    have hlt : w.heap.size + 1 < w1.heap.size := by omega
    have HB := hidden (bthen (bthen (ballc w _) (ballc _ _)) hb)
    have HK := hidden hblk
    clear hb hblk
    go_wp2
    obtain ⟨r0, r1, r2, r3, r4, r5⟩ := read6A HK.out (.cells #[.string vo, .int .i64 ex, .string ve, .int .i64 (s + 1), .int .i64 c, .string t] 38) (.string vo) (.int .i64 ex) (.string ve) (.int .i64 (s + 1)) (.int .i64 c) (.string t)
    refine bodyPost_ret (v := .agg #[.string vo, .int .i64 ex, .string ve, .int .i64 (s + 1), .int .i64 c, .string t]) (by simp [results, Try.results42, go_sem, r0, r1, r2, r3, r4, r5]) rfl ⟨rfl, ?_⟩
    exact below6A HB.out (by omega) _ _ _ _ _ _ _
end Go.Proofs.Ytkopmhmbldohdaa

/- The document's calls Open, Guard and Send of layer 23 return what plain functions give, and make at most new memory; conditions: the table lies where it says, lengths and numbers fit int. -/
namespace Go.Proofs.Ytkopmhmbldohdaa
open Go.ChangeShapes Go.WideShapes Go.ChangeAt Go.RowKit
set_option linter.unusedVariables false
attribute [local go_sem] cell_rg
attribute [local go_sem ↓] ldM_eq

set_option maxHeartbeats 2000000 in
theorem rOpen_any (n f d p r dr o sl md fr : Int) (ad : Option Addr) (cap : Nat) (zs : List Int) (mm : Array Value) (mc ma mn mr : Int) (mz mh mt ml : ByteArray) (hM : MemW mm mc ma mn mr mz mh mt ml) (node : Int) (w : World) (hl : zs.length ≤ 9223372036854775807) (hT : Tab w ad zs) (hm : mt.size ≤ 9223372036854775807) :
    Calls Try.prog 15 #[.agg #[.int .i64 n, .int .i64 f, .int .i64 d, .int .i64 p, .int .i64 r, .int .i64 dr, .int .i64 o, .int .i64 sl, .int .i64 md, .int .i64 fr, .slice ad zs.length cap], .agg mm, .int .i64 node] w fun e w' => e = .returned (.int .i64 (openF (plainE n f d p r dr o sl md fr zs) o sl r dr zs mr ((mc - ma) % 65536) mt node)) ∧ Below w.heap.size w w' := by
  have HB0 := hidden (bthen (ballc w (.cells #[.int .i64 n, .int .i64 f, .int .i64 d, .int .i64 p, .int .i64 r, .int .i64 dr, .int .i64 o, .int .i64 sl, .int .i64 md, .int .i64 fr, .slice ad zs.length cap] 24)) (ballc _ (.cells mm 30)))
  have HT := hidden (hT.below HB0.out)
  have CS := hidden (fun V => rSync_any mm mc ma mn mr mz mh mt ml hM V)
  have CP := hidden (fun V h => refPlain_any n f d p r dr o sl md fr ad cap zs V hl h)
  have CE := hidden (fun V => Calls.to_below (rElapsed_any mc ma V))
  have CD := hidden (fun V h => rDue_any n f d p r dr o sl md fr ad cap zs node ((mc - ma) % 65536) mt V (by omega) hm hl h)
  have hk : ((w.alloc (.cells #[.int .i64 n, .int .i64 f, .int .i64 d, .int .i64 p, .int .i64 r, .int .i64 dr, .int .i64 o, .int .i64 sl, .int .i64 md, .int .i64 fr, .slice ad zs.length cap] 24)).alloc (.cells mm 30)).heap[w.heap.size + 1]? = some (.cells mm 30 (0, 0)) := blk_newAt _ _ _ (by simp)
  have HK := hidden hk
  have hld := ldM_run hM.size hk
  have c0 := hM.c0
  have c1 := hM.c1
  have c12 := hM.c12
  have HZ := hidden hM.size
  have HX : Hid (¬ plainE n f d p r dr o sl md fr zs = 0 → dueF (plainE n f d p r dr o sl md fr zs) o sl r dr zs node ((mc - ma) % 65536) mt = -1) := fun h => dueF_err h
  clear hT hk hM
  by_cases h : 2 ≤ mr
  · have e1 : decide (2 ≤ mr) = true := decide_eq_true h
    rw [openF_yes h]
    generalize dueF (plainE n f d p r dr o sl md fr zs) o sl r dr zs node ((mc - ma) % 65536) mt = R at *
    generalize plainE n f d p r dr o sl md fr zs = E at *
    generalize (mc - ma) % 65536 = el at *
    go_enter Try.func15, Try.ntmps15
    go_wp2_with fail
    refine (CS.out _).mono ?_
    rintro e w2 ⟨rfl, hb2⟩
    obtain ⟨hbox, hbox2, hsz, hsz2⟩ := box_two hb2
    have HB2 := hidden (bthen HB0.out hb2)
    have HT2 := hidden (HT.out.below hb2)
    have HG2 := hidden hb2
    clear hb2 hld
    go_wp2_with fail
    refine (CP.out _ HT2.out).mono ?_
    rintro e w3 ⟨rfl, hb3⟩
    have HB3 := hidden (bthen HB2.out hb3)
    have HT3 := hidden (HT2.out.below hb3)
    have hg3 := bthen HG2.out hb3
    clear hbox hbox2 hsz hsz2 hb3
    obtain ⟨hbox, hbox2, hsz, hsz2⟩ := box_two hg3
    clear hg3
    by_cases hE : E = 0
    · have e2 : (E != 0) = false := by simp [hE]
      clear HX
      go_wp2
      refine wp_region_quiet_below (by kernel_rfl) (by kernel_rfl) ?_
      repeat (go_big_quiet_step (first
        | (go_at_call 39; exact Calls.regrown_of (CE.out _))
        | (go_at_call 38; exact Calls.regrown_of (CD.out _ (HT3.out.below (below_regrown _ _ _))))))
      refine wpQuiet_nil ?_
      intro w4 hw4
      have HB4 := hidden (bthen HB3.out (rg_below hw4))
      clear hw4 hbox hbox2 hsz hsz2
      go_wp2
      go_ret
      exact ⟨rfl, HB4.out⟩
    · have e2 : (E != 0) = true := by simp [hE]
      have HR := hidden (HX.out hE)
      clear hE HX
      go_wp2
      go_ret
      exact ⟨ret_i HR.out.symm, HB3.out⟩
  · have e1 : decide (2 ≤ mr) = false := decide_eq_false h
    rw [openF_no h]
    clear CE CD h HX
    go_enter Try.func15, Try.ntmps15
    go_wp2_with fail
    refine (CS.out _).mono ?_
    rintro e w2 ⟨rfl, hb2⟩
    have HB2 := hidden (bthen HB0.out hb2)
    clear hb2 hld
    go_wp2
    go_ret
    exact ⟨rfl, HB2.out⟩
set_option maxHeartbeats 8000000 in
theorem rSend_any (n f d p r dr o sl md fr : Int) (ad : Option Addr) (cap : Nat) (zs : List Int) (mm : Array Value) (mc ma mn mr : Int) (mz mh mt ml : ByteArray) (hM : MemW mm mc ma mn mr mz mh mt ml) (node : Int) (vo : ByteArray) (ex : Int) (ve : ByteArray) (ps cy : Int) (te : ByteArray) (K : Int) (w : World) (hl : zs.length ≤ 9223372036854775807) (hT : Tab w ad zs) (hm : mt.size ≤ 9223372036854775807) (hK : K = openF (plainE n f d p r dr o sl md fr zs) o sl r dr zs mr ((mc - ma) % 65536) mt node) :
    Calls Try.prog 17 #[.agg #[.int .i64 n, .int .i64 f, .int .i64 d, .int .i64 p, .int .i64 r, .int .i64 dr, .int .i64 o, .int .i64 sl, .int .i64 md, .int .i64 fr, .slice ad zs.length cap], .agg mm, .int .i64 node, .agg #[.string vo, .int .i64 ex, .string ve, .int .i64 ps, .int .i64 cy, .string te]] w fun e w' => e = .returned (.tuple #[.agg #[.string vo, .int .i64 ex, .string ve, .int .i64 (carS K), .int .i64 (carC K mn), .string (carT K ml)], .string (sndM K mt zs.length), .int .i64 (K + 1)]) ∧ Below w.heap.size w w' := by
  obtain ⟨k0, k1, k2, k3, hb0⟩ := blk4 w #[.int .i64 n, .int .i64 f, .int .i64 d, .int .i64 p, .int .i64 r, .int .i64 dr, .int .i64 o, .int .i64 sl, .int .i64 md, .int .i64 fr, .slice ad zs.length cap] 24 mm 30 #[.string vo, .int .i64 ex, .string ve, .int .i64 ps, .int .i64 cy, .string te] 38 #[.string ⟨#[]⟩, .int .i64 0, .string ⟨#[]⟩, .int .i64 0, .int .i64 0, .string ⟨#[]⟩] 38
  have HB0 := hidden hb0
  have HT := hidden (hT.below hb0)
  have CO := hidden (fun V h => rOpen_any n f d p r dr o sl md fr ad cap zs mm mc ma mn mr mz mh mt ml hM node V hl h hm)
  have CS := hidden (fun V => rStrip_any vo ex ve ps cy te V)
  have HKK := hidden (open_32 (E := plainE n f d p r dr o sl md fr zs) (o := o) (sl := sl) (r := r) (dr := dr) (zs := zs) (mr := mr) (el := (mc - ma) % 65536) (s := mt) (node := node) (fun h => by have := (plainE_ok h).2.2.2.2.2.2.2.2.2.2.2.2.2.2.2.2.2.2.2.2.2.2.1; omega))
  rw [← hK] at CO HKK
  have CF := hidden (fun V => rCarry_any vo ex ve ps cy te K mn ml V)
  have CM := hidden (fun (g : Nat) V (h : V.heap[g]? = some (.cells #[.int .i64 K] 3 (0, 0))) => rMark_any mt zs.length (some ⟨g, 0, none⟩) 1 [K] V hm (by simp) (one_lies h))
  have hs := hM.size
  have c12 := hM.c12
  have c7 := hM.c7
  have c14 := hM.c14
  have HK0 := hidden k0
  have HK1 := hidden k1
  have HK2 := hidden k2
  have HK3 := hidden k3
  have hld := ldM_run hs k1
  clear hT hb0 hM k0 k1 k2 k3 hK
  go_enter Try.func17, Try.ntmps17
  go_wp2_with fail
  generalize (((w.alloc (.cells #[.int .i64 n, .int .i64 f, .int .i64 d, .int .i64 p, .int .i64 r, .int .i64 dr, .int .i64 o, .int .i64 sl, .int .i64 md, .int .i64 fr, .slice ad zs.length cap] 24)).alloc (.cells mm 30)).alloc (.cells #[.string vo, .int .i64 ex, .string ve, .int .i64 ps, .int .i64 cy, .string te] 38)).alloc (.cells #[.string ⟨#[]⟩, .int .i64 0, .string ⟨#[]⟩, .int .i64 0, .int .i64 0, .string ⟨#[]⟩] 38) = W0 at *
  refine (CO.out _ HT.out).mono ?_
  rintro e w1 ⟨rfl, hb1⟩
  have k0 := blk_later HK0.out hb1
  have k1 := blk_later HK1.out hb1
  have k2 := blk_later HK2.out hb1
  have k3 := blk_later HK3.out hb1
  have HB1 := hidden (bthen HB0.out hb1)
  clear hb1 HK0 HK1 HK2 HK3 HT CO hld HB0
  have hge := HB1.out.size
  have hle := blk_lt k3
  have hC1 : Chn (w.heap.size + 1 + 1 + 1) w1 w1 := Chn.refl (by omega)
  have hD1 : Chn (w.heap.size + 1 + 1 + 1 + 1) w1 w1 := Chn.refl (by omega)
  have hS : ∀ V, Chn (w.heap.size + 1 + 1 + 1) w1 V → V.cell? ⟨w.heap.size + 1, 12, none⟩ = some (.string mt) ∧ V.cell? ⟨w.heap.size + 1, 7, none⟩ = some (.int .i64 mn) ∧ V.cell? ⟨w.heap.size + 1, 14, none⟩ = some (.string ml) ∧ V.cell? ⟨w.heap.size + 1 + 1, 0, none⟩ = some (.string vo) ∧ V.cell? ⟨w.heap.size + 1 + 1, 1, none⟩ = some (.int .i64 ex) ∧ V.cell? ⟨w.heap.size + 1 + 1, 2, none⟩ = some (.string ve) ∧ V.cell? ⟨w.heap.size + 1 + 1, 3, none⟩ = some (.int .i64 ps) ∧ V.cell? ⟨w.heap.size + 1 + 1, 4, none⟩ = some (.int .i64 cy) ∧ V.cell? ⟨w.heap.size + 1 + 1, 5, none⟩ = some (.string te) ∧ V.cell? ⟨w.heap.size, 10, none⟩ = some (.slice ad zs.length cap) ∧ (ldM (.pointer (some ⟨w.heap.size + 1, 0, none⟩))).run Try.prog V = .ok (.agg mm) V := by
    intro V hV
    have a0 := blk_cell (blk_chn k0 (by omega) hV)
    have k1' := blk_chn k1 (by omega) hV
    have a1 := blk_cell k1'
    have a2 := blk_cell (blk_chn k2 (by omega) hV)
    exact ⟨(a1 12).trans c12, (a1 7).trans c7, (a1 14).trans c14, a2 0, a2 1, a2 2, a2 3, a2 4, a2 5, a0 10, ldM_run hs k1'⟩
  have HK3 := hidden k3
  have f3 := blk_frozen k3
  have b3 := blk_cell k3
  clear k0 k1 k2 k3 hge
  by_cases h : K = -1
  · have e1 : decide (K < 0) = true := decide_eq_true (by omega)
    have e2 : K + 1 = 0 := by omega
    have e3 : sndM K mt zs.length = mt := if_pos h
    have HE : Hid (Ending.returned (.tuple #[.agg #[.string vo, .int .i64 ex, .string ve, .int .i64 0, .int .i64 0, .string ⟨#[]⟩], .string mt, .int .i64 0]) = .returned (.tuple #[.agg #[.string vo, .int .i64 ex, .string ve, .int .i64 (carS K), .int .i64 (carC K mn), .string (carT K ml)], .string (sndM K mt zs.length), .int .i64 (K + 1)])) := by
      show _ = _
      rw [e2, e3, h]; rfl
    clear CF CM HKK e2 e3 b3 f3
    go_wp2_with fail
    go_region_held3 (fun V => V.cell? ⟨w.heap.size + 1, 12, none⟩ = some (.string mt) ∧ V.cell? ⟨w.heap.size + 1, 7, none⟩ = some (.int .i64 mn) ∧ V.cell? ⟨w.heap.size + 1, 14, none⟩ = some (.string ml) ∧ V.cell? ⟨w.heap.size + 1 + 1, 0, none⟩ = some (.string vo) ∧ V.cell? ⟨w.heap.size + 1 + 1, 1, none⟩ = some (.int .i64 ex) ∧ V.cell? ⟨w.heap.size + 1 + 1, 2, none⟩ = some (.string ve) ∧ V.cell? ⟨w.heap.size + 1 + 1, 3, none⟩ = some (.int .i64 ps) ∧ V.cell? ⟨w.heap.size + 1 + 1, 4, none⟩ = some (.int .i64 cy) ∧ V.cell? ⟨w.heap.size + 1 + 1, 5, none⟩ = some (.string te) ∧ V.cell? ⟨w.heap.size, 10, none⟩ = some (.slice ad zs.length cap) ∧ (ldM (.pointer (some ⟨w.heap.size + 1, 0, none⟩))).run Try.prog V = .ok (.agg mm) V) (first | exact hS _ (by repeat (first | with_reducible assumption | with_reducible refine Chn.drew ?_ | with_reducible refine Chn.alloc ?_ _ | with_reducible refine Chn.set ?_ _ _ (Nat.le_refl _) _)))
      (first
      | (go_at_call 20; refine (CS.out _).mono ?_; rintro e w4 ⟨rfl, hb4⟩; have hC4 := Chn.below (show Chn (w.heap.size + 1 + 1 + 1) w1 _ from (by repeat (first | with_reducible assumption | with_reducible refine Chn.drew ?_ | with_reducible refine Chn.alloc ?_ _ | with_reducible refine Chn.set ?_ _ _ (Nat.le_refl _) _))) hb4; have hD4 := Chn.below (show Chn (w.heap.size + 1 + 1 + 1 + 1) w1 _ from (by repeat (first | with_reducible assumption | with_reducible refine Chn.drew ?_ | with_reducible refine Chn.alloc ?_ _ | with_reducible refine Chn.set ?_ _ _ (Nat.le_refl _) _))) hb4; have k3 := blk_chn HK3.out (Nat.lt_succ_self _) hD4; (first | (have kL := blkV_new hb4) | (have kL := blkV_newD hb4) | (have kL := blkV_newE hb4) | skip); have b3 := blk_cell k3; have f3 := blk_frozen k3; have l3 := blk_lt k3; clear hb4))
    have h6 := blk_cell (set6T k3 (.string vo) (.int .i64 ex) (.string ve) (.int .i64 0) (.int .i64 0) (.string ⟨#[]⟩))
    have HB6 := hidden (below6T (HB1.out.trans (hC4.1.mono (by omega))) (show w.heap.size ≤ w.heap.size + 1 + 1 + 1 by omega) (.string vo) (.int .i64 ex) (.string ve) (.int .i64 0) (.int .i64 0) (.string ⟨#[]⟩))
    go_wp2
    exact bodyPost_ret (v := .tuple #[.agg #[.string vo, .int .i64 ex, .string ve, .int .i64 0, .int .i64 0, .string ⟨#[]⟩], .string mt, .int .i64 0]) (by simp [results, Try.results17, go_sem, h6]) rfl ⟨HE.out, HB6.out⟩
  · have e1 : decide (K < 0) = false := decide_eq_false (by have := HKK.out; omega)
    have HE0 : sndM K mt zs.length = markB mt zs.length [K] := if_neg h
    have q1 : IntKind.i64.wrap (K + 1) = K + 1 := IntWalk.i64_in _ (by have := HKK.out; omega)
    obtain ⟨x1, hx1⟩ : ∃ x, carS K = x := ⟨_, rfl⟩
    obtain ⟨x2, hx2⟩ : ∃ x, carC K mn = x := ⟨_, rfl⟩
    obtain ⟨x3, hx3⟩ : ∃ x, carT K ml = x := ⟨_, rfl⟩
    obtain ⟨x4, hx4⟩ : ∃ x, markB mt zs.length [K] = x := ⟨_, rfl⟩
    have HE : Hid (Ending.returned (.tuple #[.agg #[.string vo, .int .i64 ex, .string ve, .int .i64 x1, .int .i64 x2, .string x3], .string x4, .int .i64 (K + 1)]) = .returned (.tuple #[.agg #[.string vo, .int .i64 ex, .string ve, .int .i64 (carS K), .int .i64 (carC K mn), .string (carT K ml)], .string (sndM K mt zs.length), .int .i64 (K + 1)])) := by
      show _ = _
      rw [HE0, hx1, hx2, hx3, hx4]
    simp only [hx1, hx2, hx3] at CF
    simp only [hx4] at CM
    clear hx1 hx2 hx3 hx4 HE0
    clear CS HKK b3 f3
    go_wp2_with fail
    go_region_held3 (fun V => V.cell? ⟨w.heap.size + 1, 12, none⟩ = some (.string mt) ∧ V.cell? ⟨w.heap.size + 1, 7, none⟩ = some (.int .i64 mn) ∧ V.cell? ⟨w.heap.size + 1, 14, none⟩ = some (.string ml) ∧ V.cell? ⟨w.heap.size + 1 + 1, 0, none⟩ = some (.string vo) ∧ V.cell? ⟨w.heap.size + 1 + 1, 1, none⟩ = some (.int .i64 ex) ∧ V.cell? ⟨w.heap.size + 1 + 1, 2, none⟩ = some (.string ve) ∧ V.cell? ⟨w.heap.size + 1 + 1, 3, none⟩ = some (.int .i64 ps) ∧ V.cell? ⟨w.heap.size + 1 + 1, 4, none⟩ = some (.int .i64 cy) ∧ V.cell? ⟨w.heap.size + 1 + 1, 5, none⟩ = some (.string te) ∧ V.cell? ⟨w.heap.size, 10, none⟩ = some (.slice ad zs.length cap) ∧ (ldM (.pointer (some ⟨w.heap.size + 1, 0, none⟩))).run Try.prog V = .ok (.agg mm) V) (first | exact hS _ (by repeat (first | with_reducible assumption | with_reducible refine Chn.drew ?_ | with_reducible refine Chn.alloc ?_ _ | with_reducible refine Chn.set ?_ _ _ (Nat.le_refl _) _)))
      (first
      | (go_at_call 42; refine (CF.out _).mono ?_; rintro e w4 ⟨rfl, hb4⟩; have hC4 := Chn.below (show Chn (w.heap.size + 1 + 1 + 1) w1 _ from (by repeat (first | with_reducible assumption | with_reducible refine Chn.drew ?_ | with_reducible refine Chn.alloc ?_ _ | with_reducible refine Chn.set ?_ _ _ (Nat.le_refl _) _))) hb4; have hD4 := Chn.below (show Chn (w.heap.size + 1 + 1 + 1 + 1) w1 _ from (by repeat (first | with_reducible assumption | with_reducible refine Chn.drew ?_ | with_reducible refine Chn.alloc ?_ _ | with_reducible refine Chn.set ?_ _ _ (Nat.le_refl _) _))) hb4; have k3 := blk_chn HK3.out (Nat.lt_succ_self _) hD4; (first | (have kL := blkV_new hb4) | (have kL := blkV_newD hb4) | (have kL := blkV_newE hb4) | skip); have b3 := blk_cell k3; have f3 := blk_frozen k3; have l3 := blk_lt k3; clear hb4)
      | (go_at_call 13; refine (CM.out _ _ (by first | exact heap_alloc_new _ _ | assumption)).mono ?_; rintro e w5 ⟨rfl, hb5⟩; have hC5 := Chn.below (show Chn (w.heap.size + 1 + 1 + 1) w1 _ from (by repeat (first | with_reducible assumption | with_reducible refine Chn.drew ?_ | with_reducible refine Chn.alloc ?_ _ | with_reducible refine Chn.set ?_ _ _ (Nat.le_refl _) _))) hb5; have hD5 := Chn.below (show Chn (w.heap.size + 1 + 1 + 1 + 1) w1 _ from (by repeat (first | with_reducible assumption | with_reducible refine Chn.drew ?_ | with_reducible refine Chn.alloc ?_ _ | with_reducible refine Chn.set ?_ _ _ (Nat.le_refl _) _))) hb5; have k5 := blk_chn HK3.out (Nat.lt_succ_self _) hD5; have b5 := blk_cell k5; have f5 := blk_frozen k5; have l5 := blk_lt k5; clear b3 f3 l3 hb5))
    all_goals
      have h6 := blk_cell (set6T k5 (.string vo) (.int .i64 ex) (.string ve) (.int .i64 x1) (.int .i64 x2) (.string x3))
      have HB6 := hidden (below6T (HB1.out.trans (hC5.1.mono (by omega))) (show w.heap.size ≤ w.heap.size + 1 + 1 + 1 by omega) (.string vo) (.int .i64 ex) (.string ve) (.int .i64 x1) (.int .i64 x2) (.string x3))
      go_wp2
      exact bodyPost_ret (v := .tuple #[.agg #[.string vo, .int .i64 ex, .string ve, .int .i64 x1, .int .i64 x2, .string x3], .string x4, .int .i64 (K + 1)]) (by simp [results, Try.results17, go_sem, h6]) rfl ⟨HE.out, HB6.out⟩
end Go.Proofs.Ytkopmhmbldohdaa

/- Texts as lists of numbers: what a row of bytes is as a text; no conditions. -/
namespace Go.Proofs.Ytkopmhmbldohdaa
open Go.ChangeShapes Go.WideShapes Go.ChangeAt Go.RowKit
set_option linter.unusedVariables false

def numStr (zs : List Int) : ByteArray := ⟨(zs.map fun z => UInt8.ofNat z.toNat).toArray⟩
def leInts : Int → Nat → List Int
  | _, 0 => []
  | n, k + 1 => n % 256 :: leInts (n / 256) k

theorem cons2 {a b : Int} {l m : List Int} (h : a = b) (g : l = m) : a :: l = b :: m := by rw [h, g]

theorem foldl_push_nums : ∀ (zs : List Int) (r : ByteArray), zs.foldl (fun r n => r.push (UInt8.ofNat n.toNat)) r = ⟨r.data ++ (zs.map fun z => UInt8.ofNat z.toNat).toArray⟩
  | [], r => by simp
  | z :: zs, r => by
    simp only [List.foldl_cons]
    rw [foldl_push_nums zs]
    simp [ByteArray.push]

theorem conv_cells (w : World) (zs : List Int) (cap : Nat) :
    (convert 60 9 (.slice (some ⟨w.heap.size, 0, none⟩) zs.length cap)).run Try.prog (w.alloc (.cells (zs.map (Value.int .u8)).toArray 5)) = .ok (.string (numStr zs)) (w.alloc (.cells (zs.map (Value.int .u8)).toArray 5)) := by
  rw [run_convert_bytes_string _ 60 9 5 _ _ _ Try.underlying60 Try.underlying5 Try.underlying9]
  have hl := run_loadCells_list (P := Try.prog) (w.alloc (.cells (zs.map (Value.int .u8)).toArray 5)) ⟨w.heap.size, 0, none⟩ (zs.map (Value.int .u8)) (fun j v hj => by
    have ha : (Addr.mk w.heap.size 0 none).add j = ⟨w.heap.size, j, none⟩ := by
      by_cases h : j = 0
      · subst h; rfl
      · simp [Addr.add, h]
    rw [ha, World.cell?_alloc_at _ _ _ _ rfl]
    simpa using hj)
  simp only [List.length_map] at hl
  rw [run_bytesToString _ _ zs.length cap _ hl, foldl_push_nums]
  have he0 : ByteArray.empty.data = #[] := rfl
  rw [he0]
  simp [numStr]

end Go.Proofs.Ytkopmhmbldohdaa

/- Plain words on rows of bytes that a call has made: their cells, one byte set, the text that they are; no conditions. -/
namespace Go.Proofs.Ytkopmhmbldohdaa
open Go.ChangeShapes Go.WideShapes Go.ChangeAt Go.RowKit
set_option linter.unusedVariables false

/-- The cells of a row of bytes. -/
def bvals (l : List UInt8) : Array Value := (l.map fun x => Value.int .u8 (x.toNat : Int)).toArray
theorem bvals_size (l : List UInt8) : (bvals l).size = l.length := by simp [bvals]
theorem bvals_at (l : List UInt8) (i : Nat) (h : i < l.length) : (bvals l)[i]? = some (.int .u8 (l[i].toNat : Int)) := by simp [bvals, h]
theorem bvals_set (l : List UInt8) (i : Nat) (x : Nat) (hx : x < 256) : (bvals l).setIfInBounds i (.int .u8 (x : Int)) = bvals (l.set i (UInt8.ofNat x)) := by
  apply Array.ext'
  simp only [bvals, Array.toList_setIfInBounds, List.map_set]
  rw [UInt8.toNat_ofNat_of_lt' hx]
theorem bvals_made (n : Nat) : madeCells #[Value.int .u8 0] n = bvals (List.replicate n 0) := by
  have h := toList_madeCells_one (Value.int .u8 0) n
  apply Array.ext'
  rw [h]
  simp [bvals]
theorem infoByte : (Try.prog.info? 5).map (fun i => (i.zero, i.size, i.bytes)) = some (some (.int .u8 0), 1, 1) := by kernel_rfl
/-- make of so many bytes. -/
theorem make_bytes (n : Nat) (hn : n ≤ 100000) (w : World) : (Instr.makeSlice 60 (.int .i64 (n : Int)) (.int .i64 (n : Int))).run Try.prog w = .ok (.slice (some ⟨w.heap.size, 0, none⟩) n n) (w.alloc (.cells (bvals (List.replicate n 0)) 5)) := by
  rw [← bvals_made]
  exact run_make_row' 60 5 (.int .u8 0) 1 Try.underlying60 infoByte rfl .i64 .i64 n (by omega) (by omega) w
theorem conv_blk {W : World} {g : Nat} {l : List UInt8} {t : TypeId} (h : W.heap[g]? = some (.cells (bvals l) t (0, 0))) :
    (convert 60 9 (.slice (some ⟨g, 0, none⟩) l.length l.length)).run Try.prog W = .ok (.string (ba l)) W := by
  refine run_convert_bytes_back W 60 9 5 _ _ l Try.underlying60 Try.underlying5 Try.underlying9 ?_
  intro j hj
  rw [add_plain, Nat.zero_add, blk_cell h j, bvals_at l j hj]
theorem bset {W : World} {g k : Nat} {l : List UInt8} {t : TypeId} (h : W.heap[g]? = some (.cells (bvals l) t (0, 0))) (x : Nat) (hx : x < 256) (v : Int) (hv : v = (x : Int)) : (W.setCell ⟨g, k, none⟩ (.int .u8 v)).heap[g]? = some (.cells (bvals (l.set k (UInt8.ofNat x))) t (0, 0)) := by
  subst hv
  rw [← bvals_set _ _ _ hx]
  exact heap_setCell_same _ _ _ _ _ _ h
theorem numStr_one (n : Int) : numStr [n] = ba [UInt8.ofNat n.toNat] := rfl
end Go.Proofs.Ytkopmhmbldohdaa

/- The calls Mark and Sync of package gate return what plain functions give, and make at most new memory; conditions: the row lies where it says, lengths fit int. -/
namespace Go.Proofs.Ytkopmhmbldohdaa
open Go.ChangeShapes Go.WideShapes Go.ChangeAt Go.RowKit
set_option linter.unusedVariables false
attribute [local go_sem] cell_rg

theorem Sync_any (mm : Array Value) (mc ma mn mr : Int) (mz mh mt ml : ByteArray) (hM : MemW mm mc ma mn mr mz mh mt ml) (w : World) :
    Calls Try.prog 10 #[.agg mm] w fun e w' => e = .returned (.bool (decide (2 ≤ mr))) ∧ Below w.heap.size w w' := by
  have e8 := hM.c8
  have HB := hidden (ballc w (.cells mm 30))
  clear hM
  go_enter Try.func10, Try.ntmps10
  go_wp2
  go_ret
  exact ⟨rfl, HB.out⟩
set_option maxRecDepth 100000 in
set_option maxHeartbeats 4000000 in
theorem Mark_any (s : ByteArray) (n : Int) (a2 : Option Addr) (c2 : Nat) (vs : List Int) (w : World) (hs : s.size ≤ 9223372036854775807) (hlv : vs.length ≤ 9223372036854775807) (hV : kInt.Lies w.heap.size w (.slice a2 vs.length c2) vs) :
    Calls Try.prog 12 #[.string s, .int .i64 n, .slice a2 vs.length c2] w fun e w' => e = .returned (.string (markB s n vs)) ∧ Below w.heap.size w w' := by
  have HC := hidden (clamp_any n 0 64 w)
  rw [mkN_int] at HC
  have HR : Hid (markB s n vs = ba (markL s (mkN n) vs)) := rfl
  have hN := mkN_le n
  generalize markB s n vs = R at *
  generalize mkN n = N at *
  have hmb := make_bytes N (by omega) w
  have HX0 : Hid ((w.alloc (.cells (bvals (List.replicate N 0)) 5)).heap[w.heap.size]? = some (.cells (bvals (fillL 0 N (markU s []) 0)) 5 (0, 0))) := by
    show _ = _
    rw [fillL_0]
    exact blk_nw w _ _
  have HB3 := hidden (ballc w (.cells (bvals (List.replicate N 0)) 5))
  have HV := hidden hV
  clear hV
  go_enter Try.func12, Try.ntmps12
  go_wp2_with fail
  refine HC.out.mono ?_
  rintro e w2 ⟨rfl, rfl⟩
  go_wp2
  clear hmb
  generalize hw3 : w.alloc (.cells (bvals (List.replicate N 0)) 5) = w3 at *
  have hge : w.heap.size ≤ w.heap.size := Nat.le_refl _
  clear hw3
  go_loopw [16] (fun i wr => ∃ k : Nat, k ≤ N ∧ i = .int .i64 k ∧ wr.heap[w.heap.size]? = some (.cells (bvals (fillL 0 N (markU s []) k)) 5 (0, 0)) ∧ Below w.heap.size w wr) (fun i _ => N - (intV i).toNat)
  case atStart => exact ⟨0, Nat.zero_le _, rfl, HX0.out, HB3.out⟩
  case round =>
    obtain ⟨k, hk, rfl, hX, hB⟩ := hrel
    by_cases hlt : k < N
    · have i1 : (0 : Int) ≤ (k : Int) := by omega
      have i2 : (k : Int) < (N : Int) := by omega
      have HS := hidden (fillL_set (0 : UInt8) N (markU s []) k hlt)
      have c0 := blk_cell hX k
      rw [bvals_at _ k (by rw [fillL_len]; exact hlt)] at c0
      have f0 := blk_frozen hX k
      have l0 := blk_lt hX
      have HB4 := hidden (hB.setCell (p := ⟨w.heap.size, k, none⟩) hge (.int .u8 48))
      have HX4 := hidden (bset (k := k) hX 48 (by decide) 48 rfl)
      clear hX hB
      by_cases hlk : k < s.size
      · have i3 : (k : Int) < (s.size : Int) := by omega
        have i4 : decide ((k : Int) < (s.size : Int)) = true := decide_eq_true i3
        have i5 : decide (k < s.size) = true := decide_eq_true hlk
        by_cases h49 : ((s[k]'hlk).toNat : Int) = 49
        · have HD := hidden (markU_yes hlk h49)
          have d1 : (((s[k]'hlk).toNat : Int) == 49) = true := beq_iff_eq.2 h49
          have c1 := blk_cell HX4.out k
          rw [bvals_at _ k (by rw [List.length_set, fillL_len]; exact hlt)] at c1
          have f1 := blk_frozen HX4.out k
          have l1 := blk_lt HX4.out
          have HB5 := hidden (HB4.out.setCell (p := ⟨w.heap.size, k, none⟩) hge (.int .u8 49))
          have HX5 := hidden (bset (k := k) HX4.out 49 (by decide) 49 rfl)
          rw [List.set_set, ← HD.out, HS.out] at HX5
          go_wp2
          go_roundw
          case rel => exact ⟨k + 1, by omega, by go_num, HX5.out, HB5.out⟩
          case measure => simp [intV]; omega
        · have HD := hidden (markU_no hlk h49)
          have d1 : (((s[k]'hlk).toNat : Int) == 49) = false := beq_eq_false_iff_ne.2 h49
          rw [← HD.out, HS.out] at HX4
          go_wp2
          go_roundw
          case rel => exact ⟨k + 1, by omega, by go_num, HX4.out, HB4.out⟩
          case measure => simp [intV]; omega
      · have i3 : ¬ (k : Int) < (s.size : Int) := by omega
        have i4 : decide ((k : Int) < (s.size : Int)) = false := decide_eq_false i3
        have i5 : decide (k < s.size) = false := decide_eq_false hlk
        have HD := hidden (markU_out hlk)
        rw [← HD.out, HS.out] at HX4
        go_wp2
        go_roundw
        case rel => exact ⟨k + 1, by omega, by go_num, HX4.out, HB4.out⟩
        case measure => simp [intV]; omega
    · obtain rfl : k = N := by omega
      have i2 : ¬ (k : Int) < (k : Int) := by omega
      rw [← markL_none] at hX
      have HX := hidden hX
      have HB := hidden hB
      clear hX hB HX0 HB3
      go_wp2
      go_loopw [38] (fun i wr => ∃ j : Nat, j ≤ vs.length ∧ i = .int .i64 j ∧ wr.heap[w.heap.size]? = some (.cells (bvals (markL s k (vs.take j))) 5 (0, 0)) ∧ Below w.heap.size w wr) (fun i _ => vs.length - (intV i).toNat)
      case atStart => exact ⟨0, Nat.zero_le _, rfl, HX.out, HB.out⟩
      case round =>
        clear HX HB
        obtain ⟨j, hj, rfl, hX, hB⟩ := hrel
        by_cases hlt : j < vs.length
        · obtain ⟨b, off, rfl, hbl, e0⟩ := kInt_at (HV.out.below hB) j hlt
          have HS := hidden (take_snocV vs hlt)
          have i1 : (0 : Int) ≤ (j : Int) := by omega
          have i2 : (j : Int) < (vs.length : Int) := by omega
          generalize vs[j] = z at *
          by_cases h0 : 0 ≤ z
          · have j0 : decide (0 ≤ z) = true := decide_eq_true h0
            by_cases h1 : z < (k : Int)
            · have j1 : decide (z < (k : Int)) = true := decide_eq_true h1
              obtain ⟨q, rfl⟩ := Int.eq_ofNat_of_zero_le h0
              have HS2 := hidden (markL_in s k (vs.take j) q)
              have c0 := blk_cell hX q
              rw [bvals_at _ q (by rw [markL_len]; omega)] at c0
              have f0 := blk_frozen hX q
              have l0 := blk_lt hX
              have HB4 := hidden (hB.setCell (p := ⟨w.heap.size, q, none⟩) hge (.int .u8 49))
              have HX4 := hidden (bset (k := q) hX 49 (by decide) 49 rfl)
              rw [HS2.out, ← HS.out] at HX4
              clear hX hB
              go_wp2
              go_roundw
              case rel => exact ⟨j + 1, by omega, by go_num, HX4.out, HB4.out⟩
              case measure => simp [intV]; omega
            · have j1 : decide (z < (k : Int)) = false := decide_eq_false h1
              have HX4 := hidden hX
              rw [← markL_out s k (vs.take j) z (by omega), ← HS.out] at HX4
              have HB4 := hidden hB
              clear hX hB
              go_wp2
              go_roundw
              case rel => exact ⟨j + 1, by omega, by go_num, HX4.out, HB4.out⟩
              case measure => simp [intV]; omega
          · have j0 : decide (0 ≤ z) = false := decide_eq_false h0
            have HX4 := hidden hX
            rw [← markL_out s k (vs.take j) z (by omega), ← HS.out] at HX4
            have HB4 := hidden hB
            clear hX hB
            go_wp2
            go_roundw
            case rel => exact ⟨j + 1, by omega, by go_num, HX4.out, HB4.out⟩
            case measure => simp [intV]; omega
        · obtain rfl : j = vs.length := by omega
          have i2 : ¬ (vs.length : Int) < (vs.length : Int) := by omega
          rw [List.take_length] at hX
          have hcv := conv_blk hX
          rw [markL_len] at hcv
          have HB := hidden hB
          clear hX hB
          rw [← HR.out] at hcv
          go_wp2
          go_ret
          exact ⟨rfl, HB.out⟩
end Go.Proofs.Ytkopmhmbldohdaa

/- A law of one's own on ranges over a function whose rounds all go on: the function hands so many rounds what a number gives, and what the rounds keep is counted by their number; conditions: no round leaves the loop. -/
namespace Go.Proofs.Ytkopmhmbldohdaa
open Go.ChangeShapes Go.WideShapes Go.ChangeAt Go.RowKit Go.Shelf
set_option linter.unusedVariables false

theorem from_up {B C : Nat} {X Y : World} (h : KeepsFrom B X Y) (k : B ≤ C) : KeepsFrom C X Y := ⟨h.size, fun i o hi => h.same i o (Nat.le_trans k hi)⟩
theorem own_up {β : Type} {B C : Nat} {I : β → World → Prop} (h : OwnFrom B I) (k : B ≤ C) : OwnFrom C I := fun s X Y row hs hg hr => h s X Y row hs hg (fun r e => ⟨Nat.le_trans k (hr r e).1, (hr r e).2⟩)
theorem from_put {C l : Nat} {X : World} (o : Obj) (h : l < C) : KeepsFrom C X (X.putObj l o) := KeepsFrom.of_grownBy (grownBy_putObj' X l o) (fun j e => by cases e; exact h)
theorem below_grown {X Y : World} (h : Below X.heap.size X Y) : X.grownBy Y none := ⟨h.os, h.tape, h.output, h.size, fun k hk _ => h.block k hk⟩
theorem own_below' {β : Type} {B : Nat} {I : β → World → Prop} (h : OwnFrom B I) {s : β} {X Y : World} (hs : I s X) (hb : Below X.heap.size X Y) : I s Y := h s X Y none hs (below_grown hb) (fun r e => by cases e)
theorem own_put {β : Type} {B D : Nat} {I : β → World → Prop} (h : OwnFrom B I) {s : β} {X : World} (hs : I s X) (hB : B ≤ D) (hK : X.heap[D]? = some (.deferred (some []))) : I s (X.putObj D (.deferred none)) := h.putObj _ hs hB hK rfl
theorem cells_own {β : Type} (B b : Nat) (C : Array Value) (t : TypeId) : OwnFrom B (fun (_ : β) W => W.heap[b]? = some (.cells C t (0, 0))) := fun s X Y row hs hg hr =>
  (hg.block b (Array.getElem?_eq_some_iff.1 hs).1 (fun e => by obtain ⟨_, o, ho, hc⟩ := hr b e.symm; rw [hs] at ho; cases ho; cases hc)).trans hs
/-- A round is a round at any depth, and within another loop's round. -/
theorem round_any {m m' l l2 : Nat} {f : FuncId} {tmps : Array Value} {assign body : Code} {w : World} {R : Ending → World → Prop} (h : RoundIn Fence.wide m Try.prog l f tmps assign body w R) : RoundIn (Fence.wide.inRound l2) m' Try.prog l f tmps assign body w R := ⟨h.1, fun c cs _ => h.2 c cs (fun d hd => by cases hd)⟩
theorem round_dep {m m' l : Nat} {f : FuncId} {tmps : Array Value} {assign body : Code} {w : World} {R : Ending → World → Prop} (h : RoundIn Fence.wide m Try.prog l f tmps assign body w R) : RoundIn Fence.wide m' Try.prog l f tmps assign body w R := ⟨h.1, fun c cs _ => h.2 c cs (fun d hd => by cases hd)⟩
/-- A region whose order is drawn goes in a loop's round as it goes elsewhere, where nothing in it is deferred. -/
theorem op_round {P : Program} {n l : Nat} {ops : Array Oper} {Q : Exit → Act → World → Prop} {i : Nat} {K : Act → World → Prop} {a : Act} {w : World} (hd : ∀ o, ops[i]? = some o → ∀ c, o.op ≠ .defer c) (h : wpOpIn Fence.wide n P ops Q i K a w) : wpOpIn (Fence.wide.inRound l) n P ops Q i K a w := by
  unfold wpOpIn at h ⊢
  cases ho : ops[i]? with
  | none =>
    rw [ho] at h
    exact h
  | some o =>
    rw [ho] at h
    simp only at h ⊢
    by_cases hw : Region.wanted o (yielded ops a.tmps) = true
    · rw [if_pos hw] at h ⊢
      unfold Oper.wpIn at h ⊢
      refine ⟨fun f hf => trivial, ?_⟩
      have h2 := h.2
      rw [show (Fence.wide.inRound l).round = some l from rfl, Oper.semAt_some l a.eval o (hd o ho)]
      exact h2
    · rw [if_neg hw] at h ⊢
      exact ⟨fun f hf => trivial, h.2⟩
theorem any_round {P : Program} {n l : Nat} {md : Region.Mode} {ops : Array Oper} {Q : Exit → Act → World → Prop} (hd : ∀ (i : Nat) (o : Oper), ops[i]? = some o → ∀ c : Call, o.op ≠ Op.defer c) : ∀ (fuel : Nat) (listed : Array Bool) (a : Act) (w : World), wpAnyIn Fence.wide n P md ops Q fuel listed a w → wpAnyIn (Fence.wide.inRound l) n P md ops Q fuel listed a w
  | 0, _, _, _, h => h
  | fuel + 1, listed, a, w, h => ⟨h.1, fun i hi => wpOpIn_mono (fun a' w' h' => any_round hd fuel _ a' w' h') (op_round (hd i) (h.2 i hi))⟩
theorem no_defer {ops : Array Oper} (h : ops.toList.all (fun o => match o.op with | .defer _ => false | _ => true) = true) (i : Nat) (o : Oper) (ho : ops[i]? = some o) (c : Call) : o.op ≠ Op.defer c := by
  intro e
  have hm : o ∈ ops.toList := by
    rw [← Array.getElem?_toList] at ho
    exact List.mem_of_getElem? ho
  have := List.all_eq_true.1 h o hm
  rw [e] at this
  cases this
/-- A function that hands R values to the rounds of its loop, one after another. -/
def Gives (m gf : Nat) (lb : Array Value) (R : Nat) (encs : Nat → Array Value) (Kp : World → World → Prop) (w : World) : Prop :=
  ∀ (l : Nat) (J : Nat → World → Prop) (W : World), Below w.heap.size w W → OwnFrom W.heap.size J →
    (∀ k V, k < R → J k V → YieldAt Fence.wide (m - 1) Try.prog l (encs k) V fun e V' => e = .returned (.bool true) ∧ J (k + 1) V' ∧ Kp V V' ∧ KeepsFrom W.heap.size V V') →
    J 0 W → CallsIn Fence.wide m Try.prog gf (#[.func (.yield l) #[] #[]] ++ lb) W fun e W' => (∃ v, e = .returned v) ∧ J R W'
/-- A round that goes on. -/
def goesOn (B : Nat) (Kp : World → World → Prop) (J : World → Prop) (W : World) : Exit → Act → World → Prop
  | .normal, _, W' => KeepsFrom B W W' ∧ Kp W W' ∧ J W'
  | .ret, _, _ => False
  | .exit _, _, _ => False
  | .goto _, _, _ => False
  | .panic _, _, _ => False
  | .outgrown, _, _ => False
theorem rf_gives {g : Operand} {ps : Array Tmp} {assign body : Code} {Q : Exit → Act → World → Prop} {a : Act} {w : World} {m gf : Nat} {lb : Array Value} {R : Nat} {encs : Nat → Array Value} {Kp : World → World → Prop} {w0 : World}
    (hg : a.eval g = .func (.func gf) #[] lb) (eg : Enters Try.prog gf) (hseq : Gives (m - 1) gf lb R encs Kp w0) (hb0 : Below w0.heap.size w0 w) (hps : ∀ k, (encs k).size = ps.size)
    (hKt : ∀ {A B C : World}, Kp A B → Kp B C → Kp A C) (hKb : ∀ (W : World) (l : Nat) (o o' : Obj), w.heap.size ≤ l → W.heap[l]? = some o → o.isCells = false → Kp W (W.putObj l o'))
    (I : Nat → World → Prop) (hI : OwnFrom w.heap.size I) (h0 : I 0 w) (a₁ : Nat → Act)
    (hassign : ∀ (l k : Nat) (W : World) (K : Act → World → Prop), K (a₁ k) W → assign.wpIn (Fence.wide.inRound l) (m - 1 - 1) Try.prog (Exit.then K (fun _ _ _ => False)) { tmps := (ps.zip (encs k)).foldl (fun t (p, v) => t.setIfInBounds p v) a.tmps, defers := [] } W)
    (hbody : ∀ (l k : Nat) (W : World), w.heap.size ≤ l → k < R → I k W → body.wpIn (Fence.wide.inRound l) (m - 1 - 1) Try.prog (goesOn w.heap.size Kp (I (k + 1)) W) (a₁ k) W)
    (hdone : ∀ (D : Nat) (W : World), w.heap.size ≤ D → I R W → W.heap[D]? = some (.deferred (some [])) → Q .normal { a with defers := { target := .collected D, args := #[] } :: a.defers } W) :
    (Code.rangeFunc g ps assign body).wpIn Fence.wide m Try.prog Q a w := by
  refine wpIn_rangeFunc fun fn hfn => ?_
  obtain ⟨rec, hrec⟩ : ∃ rec : LoopState → Loop, rec = fun st => { state := st, pending := none, fn, tmps := a.tmps, params := ps, assign, body, defers := w.heap.size } := ⟨_, rfl⟩
  have hst : ∀ st st', { rec st with state := st' } = rec st' := fun st st' => by rw [hrec]
  have hne : ∀ st, (rec st).state = st := fun st => by rw [hrec]
  obtain ⟨V1, hV1⟩ : ∃ V1, (w.alloc (.deferred (some []))).alloc (.loop (rec .ready)) = V1 := ⟨_, rfl⟩
  have s1 : V1.heap.size = w.heap.size + 1 + 1 := by rw [← hV1]; simp
  have kl : V1.heap[w.heap.size + 1]? = some (.loop (rec .ready)) := by
    have h := World.alloc_heap_new (w.alloc (.deferred (some []))) (.loop (rec .ready))
    rw [← hV1]
    rwa [World.size_alloc] at h
  have kd : V1.heap[w.heap.size]? = some (.deferred (some [])) := by
    rw [← hV1]
    exact (Below.heap_alloc _ _ _ (by simp)).trans (World.alloc_heap_new w _)
  have i1 : I 0 V1 := by
    rw [← hV1]
    exact hI.alloc _ (hI.alloc _ h0)
  have bl : Below w0.heap.size w0 V1 := by
    rw [← hV1]
    exact bthen (bthen hb0 (ballc w _)) (ballc _ _)
  refine ⟨w.heap.size + 1, [{ target := .collected w.heap.size, args := #[] }], V1, { target := .fn (.func gf) lb, args := #[.func (.yield (w.heap.size + 1)) #[] #[]] }, V1, gf, #[.func (.yield (w.heap.size + 1)) #[] #[]] ++ lb, V1, ?enter, ?res, fun _ _ => trivial, ?inv, fun h => (by cases h), ?calls⟩
  case enter =>
    rw [← hV1, hrec]
    exact run_enterLoop_outer fn a.tmps ps assign body
  case res =>
    simp only [resolve, hg]
    simp [go_sem]
  case inv =>
    unfold Enters at eg
    simp [invoke, go_sem, eg]
  case calls =>
    have hJ : OwnFrom V1.heap.size (fun k W => I k W ∧ W.heap[w.heap.size + 1]? = some (.loop (rec .ready)) ∧ W.heap[w.heap.size]? = some (.deferred (some []))) := by
      intro k X Y row hs hgr hr
      have hx : ∀ j, j < V1.heap.size → some j ≠ row := fun j hj e => by have := (hr j e.symm).1; omega
      exact ⟨own_up hI (by omega) k X Y row hs.1 hgr hr, (hgr.block _ (Array.getElem?_eq_some_iff.1 hs.2.1).1 (hx _ (by omega))).trans hs.2.1, (hgr.block _ (Array.getElem?_eq_some_iff.1 hs.2.2).1 (hx _ (by omega))).trans hs.2.2⟩
    refine (hseq (w.heap.size + 1) _ V1 bl hJ ?round ⟨i1, kl, kd⟩).mono ?after
    case round =>
      rintro k V hk ⟨hi, hl, hd⟩
      have lt : w.heap.size + 1 < V.heap.size := (Array.getElem?_eq_some_iff.1 hl).1
      have hy := run_yield (P := Try.prog) (args := encs k) hl (by rw [hrec]; exact hps k)
      rw [hrec] at hy
      refine ⟨fn, _, assign, body, hy, roundIn_of_wpIn hfn (hassign _ k V _ ⟨_, run_beginRound hl (hne _), ?_⟩)⟩
      rw [hst]
      have l2 : (V.putObj (w.heap.size + 1) (.loop (rec .busy))).heap[w.heap.size + 1]? = some (.loop (rec .busy)) := World.putObj_heap_same lt
      have d2 : (V.putObj (w.heap.size + 1) (.loop (rec .busy))).heap[w.heap.size]? = some (.deferred (some [])) := (World.putObj_heap_other (by omega)).trans hd
      refine wpIn_mono (hbody _ k _ (by omega) hk (hI.putObj _ hi (by omega) hl rfl)) ?_
      intro e a3 V3 hp
      cases e with
      | normal =>
        obtain ⟨f3, p3, i3⟩ := hp
        have l3 := f3.same _ _ (by omega) l2 rfl
        have d3 := f3.same _ _ (Nat.le_refl _) d2 rfl
        have hend := run_endRound (P := Try.prog) none l3
        refine ⟨_, _, hend, rfl, ⟨hI.putObj _ i3 (by omega) l3 rfl, ?_, (World.putObj_heap_other (by omega)).trans d3⟩, hKt (hKt (hKb _ _ _ _ (by omega) hl rfl) p3) (hKb _ _ _ _ (by omega) l3 rfl), ?_⟩
        · rw [World.putObj_heap_same (Array.getElem?_eq_some_iff.1 l3).1, hrec]
          rfl
        · exact ((from_put _ (by omega)).trans (from_up f3 (by omega))).trans (from_put _ (by omega))
      | ret => exact hp.elim
      | exit id => exact hp.elim
      | goto t => exact hp.elim
      | panic ch => exact hp.elim
      | outgrown => exact hp.elim
    case after =>
      rintro e V2 ⟨⟨v, rfl⟩, hi, hl, hd⟩
      refine ⟨none, _, ?_, hdone w.heap.size _ (Nat.le_refl _) (hI.putObj (.loop (rec .exhausted)) hi (by omega) hl rfl) ((World.putObj_heap_other (by omega)).trans hd)⟩
      have h := run_endLoop (P := Try.prog) hl (by rw [hne]; decide)
      rw [hst] at h
      rw [h, hrec]
end Go.Proofs.Ytkopmhmbldohdaa

/- The call Owned of package sched hands back an iterator over a copy of the table, which hands every round a slot that the node owns, rising; conditions: the table lies where it says, and its length fits int. -/
namespace Go.Proofs.Ytkopmhmbldohdaa
open Go.ChangeShapes Go.WideShapes Go.ChangeAt Go.RowKit Go.Shelf
set_option linter.unusedVariables false
attribute [local go_sem] Oper.semAt_some

/-- The table of what is plain, nothing else. -/
def tabF (E : Int) (zs : List Int) : List Int := if E = 0 then zs else []
theorem tabF_ok (zs : List Int) : tabF 0 zs = zs := if_pos rfl
theorem tabF_err {E : Int} {zs : List Int} (h : ¬ E = 0) : tabF E zs = [] := if_neg h
theorem ownedF_tab (E : Int) (zs : List Int) (node : Int) : ownedF E zs node = ownL (tabF E zs) node (tabF E zs).length := by
  by_cases h : E = 0
  · subst h; rw [tabF_ok, ownedF_ok]
  · rw [tabF_err h, ownedF_err h]; rfl
theorem tabF_len {E : Int} {zs : List Int} : (tabF E zs).length ≤ zs.length := by
  by_cases h : E = 0
  · subst h; rw [tabF_ok]; exact Nat.le_refl _
  · rw [tabF_err h]; exact Nat.zero_le _

theorem Clone_none (w : World) :
    Calls Try.prog 66 #[.slice none 0 0] w fun r w' => r = .returned (.slice none 0 0) ∧ w' = w := by
  have hnil := fun a n c => Go.Lib.run_eql_slice_nil (P := Try.prog) w 22 3 a n c 0 0 Try.underlying22
  go_enter Try.func66, Try.ntmps66
  go_wp2
  go_ret
  exact ⟨rfl, rfl⟩
theorem tab_cells {w : World} {a : Addr} {zs : List Int} (hT : Tab w (some a) zs) : ∀ j u, (kInt.flat zs)[j]? = some u → w.cell? (a.add j) = some u := by
  intro j u hu
  rw [kInt_flat, List.getElem?_map] at hu
  have hj : j < zs.length := by
    by_cases h : j < zs.length
    · exact h
    · rw [List.getElem?_eq_none (by omega)] at hu; cases hu
  rw [List.getElem?_eq_getElem hj] at hu
  have h := hT.at j hj
  rw [h, ← hu]
  simp [hj]
theorem Clone_some (a : Addr) (cap : Nat) (zs : List Int) (hlen : zs.length ≤ 1000000) (w : World) (hT : Tab w (some a) zs) :
    Calls Try.prog 66 #[.slice (some a) zs.length cap] w fun r w' => ∃ v, r = .returned v ∧ w'.ownsRow w.heap.size 3 1 v zs.length (kInt.flat zs) ∧ Below w.heap.size w w' := by
  obtain ⟨i0, hi, hz0, hz1, hz2⟩ := info_of infoInt
  have hnil := fun a n c => Go.Lib.run_eql_slice_nil (P := Try.prog) w 22 3 a n c 0 0 Try.underlying22
  have hB0 : Below w.heap.size w (w.alloc (.cells #[] 3)) := ballc _ _
  have hown0 : (w.alloc (.cells #[] 3)).ownsRow w.heap.size 3 1 (.slice (some ⟨w.heap.size, 0, none⟩) 0 0) 0 [] := World.ownsRow_lit w #[] 0 (Nat.le_refl _) (Nat.zero_le _) rfl
  have hC := tab_cells (hT.below hB0)
  have HT := hidden hT
  clear hT
  go_enter Try.func66, Try.ntmps66
  go_wp2_with (at_builtin; refine wpList_append_own_at _ rfl _ _ 22 rfl w.heap.size 3 i0 (.int .i64 0) 1 8 Try.underlying22 hi hz0 hz1 hz2 rfl (by decide) (.slice (some ⟨w.heap.size, 0, none⟩) 0 0) 0 [] rfl hown0 a zs.length cap (kInt.flat zs) rfl (by rw [Kind.flat_length]; rfl) hC (kInt.flat_one zs) (by simp only [maxLen]; omega) (by omega) (by simp) ?_; intro v1 w1 hown1 hgrow1 _ _)
  go_ret
  exact ⟨v1, rfl, by simpa using hown1, hB0.grown hgrow1 hB0.size (fun k h => by simp [Value.ownBlock] at h; omega)⟩

set_option maxHeartbeats 1000000 in
theorem Owned_any (n f d p r dr o sl md fr : Int) (ad : Option Addr) (cap : Nat) (zs : List Int) (node : Int) (w : World) (hl : zs.length ≤ 9223372036854775807) (hT : Tab w ad zs) :
    Calls Try.prog 49 #[.agg #[.int .i64 n, .int .i64 f, .int .i64 d, .int .i64 p, .int .i64 r, .int .i64 dr, .int .i64 o, .int .i64 sl, .int .i64 md, .int .i64 fr, .slice ad zs.length cap], .int .i64 node] w fun e w' => ∃ gt gn ad' cap', e = .returned (.func (.func 67) #[] #[.pointer (some ⟨gt, 0, none⟩), .pointer (some ⟨gn, 0, none⟩)]) ∧ w'.heap[gt]? = some (.cells #[.slice ad' (tabF (plainE n f d p r dr o sl md fr zs) zs).length cap'] 22 (0, 0)) ∧ w'.heap[gn]? = some (.cells #[.int .i64 node] 3 (0, 0)) ∧ kInt.Lies w'.heap.size w' (.slice ad' (tabF (plainE n f d p r dr o sl md fr zs) zs).length cap') (tabF (plainE n f d p r dr o sl md fr zs) zs) ∧ Below w.heap.size w w' := by
  have HT := hidden (hT.below (Joins.below_alloc2 w (.cells #[.int .i64 n, .int .i64 f, .int .i64 d, .int .i64 p, .int .i64 r, .int .i64 dr, .int .i64 o, .int .i64 sl, .int .i64 md, .int .i64 fr, .slice ad zs.length cap] 24) (.cells #[.int .i64 node] 3)))
  have HO := hidden (owners_any n f d p r dr o sl md fr ad cap zs ((w.alloc (.cells #[.int .i64 n, .int .i64 f, .int .i64 d, .int .i64 p, .int .i64 r, .int .i64 dr, .int .i64 o, .int .i64 sl, .int .i64 md, .int .i64 fr, .slice ad zs.length cap] 24)).alloc (.cells #[.int .i64 node] 3)) hl HT.out)
  have HN := hidden (blk_newAt (w.alloc (.cells #[.int .i64 n, .int .i64 f, .int .i64 d, .int .i64 p, .int .i64 r, .int .i64 dr, .int .i64 o, .int .i64 sl, .int .i64 md, .int .i64 fr, .slice ad zs.length cap] 24)) #[.int .i64 node] 3 (b := w.heap.size + 1) (by simp))
  have HB0 := hidden (Joins.below_alloc2 w (.cells #[.int .i64 n, .int .i64 f, .int .i64 d, .int .i64 p, .int .i64 r, .int .i64 dr, .int .i64 o, .int .i64 sl, .int .i64 md, .int .i64 fr, .slice ad zs.length cap] 24) (.cells #[.int .i64 node] 3))
  clear hT
  by_cases hE : plainE n f d p r dr o sl md fr zs = 0
  · obtain ⟨_, _, _, _, _, _, _, _, _, _, _, _, _, _, _, _, _, _, _, _, _, z1, z2, _⟩ := plainE_ok hE
    rw [if_pos hE] at HO
    have hz := tabF_ok zs
    rw [hE, hz]
    clear hE hz
    obtain ⟨a, rfl, _⟩ := HT.out 0 (by omega)
    go_enter Try.func49, Try.ntmps49
    go_wp2_with fail
    refine HO.out.mono ?_
    rintro e w2 ⟨rfl, hb2⟩
    have HB2 := hidden (bthen HB0.out hb2)
    have HN2 := hidden (blk_later HN.out hb2)
    have HT2 := hidden (HT.out.below hb2)
    clear hb2
    go_wp2_with fail
    refine (Clone_some a cap zs (by omega) w2 HT2.out).mono ?_
    rintro e w3 ⟨v, rfl, hown, hb3⟩
    obtain ⟨a3, c3, rfl⟩ := own_slice hown
    have HL := hidden (Kind.Lies.of_own (K := kInt) (es := zs) hown)
    have HB3 := hidden (bthen HB2.out hb3)
    have HN3 := hidden (blk_later HN2.out hb3)
    clear hb3 hown
    go_wp2
    go_ret
    exact ⟨w3.heap.size, w.heap.size + 1, a3, c3, rfl, blk_nw w3 _ _, blk_later HN3.out (ballc _ _), HL.out.later (ballc _ _), bthen HB3.out (ballc _ _)⟩
  · rw [if_neg hE] at HO
    have hz := tabF_err (zs := zs) hE
    rw [hz]
    clear hE hz
    go_enter Try.func49, Try.ntmps49
    go_wp2_with fail
    refine HO.out.mono ?_
    rintro e w2 ⟨rfl, hb2⟩
    have HB2 := hidden (bthen HB0.out hb2)
    have HN2 := hidden (blk_later HN.out hb2)
    clear hb2
    go_wp2_with fail
    refine (Clone_none w2).mono ?_
    rintro e w3 ⟨rfl, rfl⟩
    go_wp2
    go_ret
    exact ⟨w3.heap.size, w.heap.size + 1, none, 0, rfl, blk_nw w3 _ _, blk_later HN2.out (ballc _ _), Kind.Lies.nil _ _, bthen HB2.out (ballc _ _)⟩

set_option maxRecDepth 100000 in
set_option maxHeartbeats 2000000 in
theorem owned1_in (ls : List Int) (node : Int) (hlen : ls.length ≤ 1000000) (m : Nat) (hm : 1 ≤ m) (l gt gn n₀ : Nat) (ad : Option Addr) (cap : Nat) (J Jx : List Nat → World → Prop)
    (hY : ∀ (pre : List Nat) (x : Nat) (W : World), J pre W → pre.length < ls.length → YieldAt Fence.wide (m - 1) Try.prog l #[.int .i64 (x : Int)] W fun e W' =>
      (e = .returned (.bool true) ∧ J (pre ++ [x]) W' ∧ Below n₀ W W') ∨ (e = .returned (.bool false) ∧ Jx (pre ++ [x]) W'))
    (W : World) (b1 : W.heap[gt]? = some (.cells #[.slice ad ls.length cap] 22 (0, 0))) (b2 : W.heap[gn]? = some (.cells #[.int .i64 node] 3 (0, 0))) (h2 : gn < n₀) (hE : kInt.Lies n₀ W (.slice ad ls.length cap) ls) (h0 : J [] W) :
    CallsIn Fence.wide m Try.prog 67 #[.func (.yield l) #[] #[], .pointer (some ⟨gt, 0, none⟩), .pointer (some ⟨gn, 0, none⟩)] W fun e W' => (∃ v, e = .returned v) ∧
      ((∃ ys, ys = ownL ls node ls.length ∧ J ys W') ∨ (∃ pre, pre <+: ownL ls node ls.length ∧ Jx pre W')) := by
  have c1 := blk_cell b1 0
  have HK := hidden b2
  have HE := hidden hE
  clear b2 hE
  refine callsIn_of_wp Try.func67 rfl trivial ?_ rfl
  simp only [Try.ntmps67, List.size_toArray, List.length_cons, List.length_nil, Nat.reduceAdd, Nat.reduceSub, Array.replicate_succ, Array.replicate_zero, List.push_toArray, List.append_toArray, List.nil_append, List.cons_append]
  gi_wp2
  clear c1 b1
  gi_loopw [8] (fun i wr => ∃ k : Nat, k ≤ ls.length ∧ i = .int .i64 k ∧ J (ownL ls node k) wr ∧ Below n₀ W wr)
    (fun i _ => ls.length - (intV i).toNat)
  case atStart => exact ⟨0, Nat.zero_le _, rfl, h0, Below.refl _ _⟩
  case round =>
    obtain ⟨k, hk, rfl, hJs, hB⟩ := hrel
    by_cases hlt : k < ls.length
    · have hb2 : wr.heap[gn]? = some (.cells #[.int .i64 node] 3 (0, 0)) := (hB.block gn h2).trans HK.out
      have c2 := blk_cell hb2 0
      obtain ⟨b, off, rfl, hbl, e0⟩ := kInt_at HE.out k hlt
      have f0 := (hB.cell (p := ⟨b, off + k, none⟩) hbl).trans e0
      have hgd : ls.getD k 0 = ls[k] := by simp [hlt]
      have hyes := fun h => ownL_yes (zs := ls) (node := node) (k := k) h
      have hno := fun h => ownL_no (zs := ls) (node := node) (k := k) h
      rw [hgd] at hyes hno
      have hll := ownL_len ls node k
      have hpre := ownL_pre ls node (k := k + 1) (m := ls.length) (by omega)
      have HY := hidden hyes
      have HN := hidden hno
      have HP := hidden hpre
      have i1 : (0 : Int) ≤ (k : Int) := by omega
      have i2 : (k : Int) < (ls.length : Int) := by omega
      obtain ⟨fn, tmps, assign, body, hy, hRd⟩ := hY (ownL ls node k) k wr hJs (by omega)
      clear hgd hyes hno hpre e0 hY hb2 h0 hll
      generalize ls[k] = z at *
      by_cases hz : z = node
      · have j : (z == node) = true := by simp [hz]
        gi_wp2
        refine hRd.mono ?_
        rintro e W3 (⟨rfl, hJ3, hk3⟩ | ⟨rfl, hJx3⟩)
        · gi_wp2
          go_roundw
          case rel => exact ⟨k + 1, by omega, by simp, by rw [HY.out j]; exact hJ3, hB.trans hk3⟩
          case measure => simp [intV]; omega
        · gi_wp2
          refine bodyPost_ret (results_none rfl _ _ _) rfl ?_
          exact ⟨⟨_, rfl⟩, .inr ⟨_, by rw [← HY.out j]; exact HP.out, hJx3⟩⟩
      · have j : (z == node) = false := by simp [hz]
        gi_wp2
        refine ⟨fun _ h => (by cases h), ?_⟩
        gi_wp2
        go_roundw
        case rel => exact ⟨k + 1, by omega, by simp, by rw [HN.out j]; exact hJs, hB⟩
        case measure => simp [intV]; omega
    · obtain rfl : k = ls.length := by omega
      gi_wp2
      go_end0
      exact ⟨⟨_, rfl⟩, .inl ⟨_, rfl, hJs⟩⟩

/-- The iterator's contract. -/
theorem owned_stops (ls : List Int) (node : Int) (hlen : ls.length ≤ 1000000) (m : Nat) (hm : 1 ≤ m) (gt gn n₀ : Nat) (ad : Option Addr) (cap : Nat) (w : World) (hn₀ : n₀ ≤ w.heap.size)
    (b1 : w.heap[gt]? = some (.cells #[.slice ad ls.length cap] 22 (0, 0))) (b2 : w.heap[gn]? = some (.cells #[.int .i64 node] 3 (0, 0))) (h2 : gn < n₀) (hE : kInt.Lies n₀ w (.slice ad ls.length cap) ls) :
    SeqStopsK Fence.wide m Try.prog 67 #[.pointer (some ⟨gt, 0, none⟩), .pointer (some ⟨gn, 0, none⟩)] (fun x : Nat => #[.int .i64 (x : Int)]) (Below n₀) (fun ys => ys = ownL ls node ls.length) (fun pre => pre <+: ownL ls node ls.length) ls.length w := fun l J Jx W hW hJ _ hY h0 =>
  owned1_in ls node hlen m hm l gt gn n₀ ad cap J Jx hY W ((hW.block gt (Array.getElem?_eq_some_iff.1 b1).1).trans b1) ((hW.block gn (Array.getElem?_eq_some_iff.1 b2).1).trans b2) h2 (hE.below (hW.mono hn₀)) h0
end Go.Proofs.Ytkopmhmbldohdaa

/- The call Due of package sched returns the first slot of a node's that is due, and makes at most new memory; conditions: the table lies where it says, its length, the text's length and the numbers fit int. -/
namespace Go.Proofs.Ytkopmhmbldohdaa
open Go.ChangeShapes Go.WideShapes Go.ChangeAt Go.RowKit Go.Shelf
set_option linter.unusedVariables false
attribute [local go_sem] Oper.semAt_some

theorem sblk_own {β : Type} (B : Nat) (C : Array Value) (t : TypeId) : Own (fun (_ : β) W => W.heap[B]? = some (.cells C t (0, 0))) := fun s X Y row hs hg hrow =>
  (hg.block B (blk_lt hs) (fun e => by obtain ⟨o, ho, hc⟩ := hrow B e.symm; rw [hs] at ho; cases ho; cases hc)).trans hs
theorem none_snoc {p : Nat → Bool} {l : List Nat} {x : Nat} (h : ∀ z ∈ l, p z = false) (hx : p x = false) : ∀ z ∈ l ++ [x], p z = false := by
  intro z hz
  rcases List.mem_append.1 hz with h1 | h1
  · exact h z h1
  · rw [List.mem_singleton.1 h1]; exact hx

set_option maxRecDepth 100000 in
set_option maxHeartbeats 4000000 in
theorem Due_in (n f d p r dr o sl md fr : Int) (ad : Option Addr) (cap : Nat) (zs : List Int) (node el : Int) (s : ByteArray) (he : -9223372036854775808 ≤ el ∧ el ≤ 9223372036854775807) (hs : s.size ≤ 9223372036854775807) (m : Nat) (hm : 3 ≤ m) (w : World) (hl : zs.length ≤ 9223372036854775807) (hT : Tab w ad zs) :
    CallsIn Fence.wide m Try.prog 35 #[.agg #[.int .i64 n, .int .i64 f, .int .i64 d, .int .i64 p, .int .i64 r, .int .i64 dr, .int .i64 o, .int .i64 sl, .int .i64 md, .int .i64 fr, .slice ad zs.length cap], .int .i64 node, .int .i64 el, .string s] w fun e W' => e = .returned (.int .i64 (dueF (plainE n f d p r dr o sl md fr zs) o sl r dr zs node el s)) ∧ Below w.heap.size w W' := by
  have h1 : 1 ≤ m := by omega
  have hro : Fence.wide.round = none := rfl
  have hB0 : Below w.heap.size w ((((w.alloc (.cells #[.int .i64 n, .int .i64 f, .int .i64 d, .int .i64 p, .int .i64 r, .int .i64 dr, .int .i64 o, .int .i64 sl, .int .i64 md, .int .i64 fr, .slice ad zs.length cap] 24)).alloc (.cells #[.int .i64 el] 3)).alloc (.cells #[.string s] 9)).alloc (.cells #[.int .i64 0] 3)) := bthen (bthen (bthen (ballc w _) (ballc _ _)) (ballc _ _)) (ballc _ _)
  have HA := hidden (fun V h => Owned_any n f d p r dr o sl md fr ad cap zs node V hl h)
  have HT := hidden (hT.below hB0)
  have hk0 := blk_later (blk_later (blk_later (blk_nw w #[.int .i64 n, .int .i64 f, .int .i64 d, .int .i64 p, .int .i64 r, .int .i64 dr, .int .i64 o, .int .i64 sl, .int .i64 md, .int .i64 fr, .slice ad zs.length cap] 24) (ballc _ (.cells #[.int .i64 el] 3))) (ballc _ (.cells #[.string s] 9))) (ballc _ (.cells #[.int .i64 0] 3))
  have hk1 : Boxed ((((w.alloc (.cells #[.int .i64 n, .int .i64 f, .int .i64 d, .int .i64 p, .int .i64 r, .int .i64 dr, .int .i64 o, .int .i64 sl, .int .i64 md, .int .i64 fr, .slice ad zs.length cap] 24)).alloc (.cells #[.int .i64 el] 3)).alloc (.cells #[.string s] 9)).alloc (.cells #[.int .i64 0] 3)) (w.heap.size + 1) 3 (.int .i64 el) := blk_later (blk_later (blk_newAt (w.alloc (.cells #[.int .i64 n, .int .i64 f, .int .i64 d, .int .i64 p, .int .i64 r, .int .i64 dr, .int .i64 o, .int .i64 sl, .int .i64 md, .int .i64 fr, .slice ad zs.length cap] 24)) #[.int .i64 el] 3 (b := w.heap.size + 1) (by simp)) (ballc _ (.cells #[.string s] 9))) (ballc _ (.cells #[.int .i64 0] 3))
  have hk2 : Boxed ((((w.alloc (.cells #[.int .i64 n, .int .i64 f, .int .i64 d, .int .i64 p, .int .i64 r, .int .i64 dr, .int .i64 o, .int .i64 sl, .int .i64 md, .int .i64 fr, .slice ad zs.length cap] 24)).alloc (.cells #[.int .i64 el] 3)).alloc (.cells #[.string s] 9)).alloc (.cells #[.int .i64 0] 3)) (w.heap.size + 1 + 1) 9 (.string s) := blk_later (blk_newAt ((w.alloc (.cells #[.int .i64 n, .int .i64 f, .int .i64 d, .int .i64 p, .int .i64 r, .int .i64 dr, .int .i64 o, .int .i64 sl, .int .i64 md, .int .i64 fr, .slice ad zs.length cap] 24)).alloc (.cells #[.int .i64 el] 3)) #[.string s] 9 (b := w.heap.size + 1 + 1) (by simp)) (ballc _ (.cells #[.int .i64 0] 3))
  have hk3 : Boxed ((((w.alloc (.cells #[.int .i64 n, .int .i64 f, .int .i64 d, .int .i64 p, .int .i64 r, .int .i64 dr, .int .i64 o, .int .i64 sl, .int .i64 md, .int .i64 fr, .slice ad zs.length cap] 24)).alloc (.cells #[.int .i64 el] 3)).alloc (.cells #[.string s] 9)).alloc (.cells #[.int .i64 0] 3)) (w.heap.size + 1 + 1 + 1) 3 (.int .i64 0) := blk_newAt (((w.alloc (.cells #[.int .i64 n, .int .i64 f, .int .i64 d, .int .i64 p, .int .i64 r, .int .i64 dr, .int .i64 o, .int .i64 sl, .int .i64 md, .int .i64 fr, .slice ad zs.length cap] 24)).alloc (.cells #[.int .i64 el] 3)).alloc (.cells #[.string s] 9)) #[.int .i64 0] 3 (b := w.heap.size + 1 + 1 + 1) (by simp)
  have HB0 := hidden hB0
  have H0 := hidden hk0
  have H1 := hidden hk1
  have H2 := hidden hk2
  have H3 := hidden hk3
  have HF : Hid (dueF (plainE n f d p r dr o sl md fr zs) o sl r dr zs node el s = firstF (dueP o sl r dr el zs.length s) (ownL (tabF (plainE n f d p r dr o sl md fr zs) zs) node (tabF (plainE n f d p r dr o sl md fr zs) zs).length)) := by
    show _ = _
    by_cases hE : plainE n f d p r dr o sl md fr zs = 0
    · rw [hE, tabF_ok, firstF_dueP]
    · rw [tabF_err hE]
      unfold dueF
      rw [ownedF_err hE]
      rfl
  have HI := hidden (fun (h : 0 < (tabF (plainE n f d p r dr o sl md fr zs) zs).length) => show plainE n f d p r dr o sl md fr zs = 0 by
    by_cases hE : plainE n f d p r dr o sl md fr zs = 0
    · exact hE
    · rw [tabF_err hE] at h; cases h)
  have HL6 : Hid ((tabF (plainE n f d p r dr o sl md fr zs) zs).length ≤ 1000000) := by
    show _ ≤ _
    by_cases hE : plainE n f d p r dr o sl md fr zs = 0
    · have := (plainE_ok hE).2.2.2.2.2.2.2.2.2.2.2.2.2.2.2.2.2.2.2.2.2.2.1
      rw [hE, tabF_ok]; omega
    · rw [tabF_err hE]; decide
  have HM := hidden (fun (k : Nat) V h (hV : Tab V ad zs) => isTime_any n f d p r dr o sl md fr ad cap zs k el V h he hl hV)
  clear hT hB0 hk0 hk1 hk2 hk3
  generalize hls : tabF (plainE n f d p r dr o sl md fr zs) zs = ls at *
  generalize hdf : dueF (plainE n f d p r dr o sl md fr zs) o sl r dr zs node el s = R at *
  generalize hpe : plainE n f d p r dr o sl md fr zs = E at *
  have HP := hidden hpe
  clear hls hdf hpe
  have HW := hidden (fun (k : Nat) V => wasSentIn_any k s V hs)
  refine callsIn_of_wp_marks Try.func35 rfl trivial ?_ hro
  simp only [Try.ntmps35, List.size_toArray, List.length_cons, List.length_nil, Nat.reduceAdd, Nat.reduceSub, Array.replicate_succ, Array.replicate_zero, List.push_toArray, List.append_toArray, List.nil_append, List.cons_append]
  have hfa : Fence.wide.fn 49 := trivial
  have hfb : Fence.wide.fn 50 := trivial
  have hfc : Fence.wide.fn 51 := trivial
  gi_wp2_with (gi_at_call 49; refine (callsIn_wide.2 (HA.out _ HT.out)).mono ?_; rintro e w0 ⟨gt, gn, ad', cap', rfl, c1, c2, hLs, hb⟩)
  have B0 := blk_later H0.out hb
  have B1 : Boxed w0 (w.heap.size + 1) 3 (.int .i64 el) := blk_later H1.out hb
  have B2 : Boxed w0 (w.heap.size + 1 + 1) 9 (.string s) := blk_later H2.out hb
  have B3 : Boxed w0 (w.heap.size + 1 + 1 + 1) 3 (.int .i64 0) := blk_later H3.out hb
  have hB := bthen HB0.out hb
  have HT0 := hidden (HT.out.below hb)
  have hs3 := B3.lt
  refine wpIn_rangeFunc_ownH hro h1 (gf := 67) (lb := #[.pointer (some ⟨gt, 0, none⟩), .pointer (some ⟨gn, 0, none⟩)]) rfl trivial (enters_of Try.func67 (by kernel_rfl) rfl)
    (owned_stops ls node HL6.out (m - 1) (by omega) gt gn w0.heap.size ad' cap' w0 (Nat.le_refl _) c1 c2 (Array.getElem?_eq_some_iff.1 c2).1 hLs) belowK_t (belowK_b (Nat.le_refl _)) (Below.refl _ _) (fun _ => rfl)
    (fun pre W => (∀ z ∈ pre, dueP o sl r dr el zs.length s z = false) ∧ (Boxed W (w.heap.size + 1) 3 (.int .i64 el) ∧ Boxed W (w.heap.size + 1 + 1) 9 (.string s) ∧ Boxed W (w.heap.size + 1 + 1 + 1) 3 (.int .i64 0) ∧ W.heap[w.heap.size]? = some (.cells #[.int .i64 n, .int .i64 f, .int .i64 d, .int .i64 p, .int .i64 r, .int .i64 dr, .int .i64 o, .int .i64 sl, .int .i64 md, .int .i64 fr, .slice ad zs.length cap] 24 (0, 0))) ∧ Below w0.heap.size w0 W)
    (fun c pre W => c = .ret ∧ ∃ (pre0 : List Nat) (y : Nat), (pre = pre0 ++ [y] ∧ (∀ z ∈ pre0, dueP o sl r dr el zs.length s z = false) ∧ dueP o sl r dr el zs.length s y = true) ∧ Boxed W (w.heap.size + 1 + 1 + 1) 3 (.int .i64 (y : Int)) ∧ Below w.heap.size w W)
    (OwnFrom.and (ownFrom_pure _ _) (OwnFrom.and (OwnFrom.and (Own.from (boxed_own _ _ _) _) (OwnFrom.and (Own.from (boxed_own _ _ _) _) (OwnFrom.and (Own.from (boxed_own _ _ _) _) (Own.from (sblk_own _ _ _) _)))) (ownFrom_below (Nat.le_refl _) (Nat.le_refl _))))
    (fun c s X Y row hs hg hr => by
      obtain ⟨hc, pre0, y, hp, hbx, hbl⟩ := hs
      exact ⟨hc, pre0, y, hp, (Own.from (boxed_own _ _ (fun (_ : Unit) => Value.int .i64 (y : Int))) _) () X Y row hbx hg hr, (ownFrom_below (Nat.le_refl _) hB.size) () X Y row hbl hg hr⟩)
    ⟨by simp, ⟨B1, B2, B3, B0⟩, Below.refl _ _⟩
    (fun x a' W => a' = { tmps := #[.agg #[.int .i64 n, .int .i64 f, .int .i64 d, .int .i64 p, .int .i64 r, .int .i64 dr, .int .i64 o, .int .i64 sl, .int .i64 md, .int .i64 fr, .slice ad zs.length cap], .int .i64 node, .int .i64 el, .string s, .pointer (some ⟨w.heap.size, 0, none⟩), undef, .pointer (some ⟨w.heap.size + 1, 0, none⟩), .pointer (some ⟨w.heap.size + 1 + 1, 0, none⟩), .pointer (some ⟨w.heap.size + 1 + 1 + 1, 0, none⟩), .int .i64 (x : Int), .agg #[.int .i64 n, .int .i64 f, .int .i64 d, .int .i64 p, .int .i64 r, .int .i64 dr, .int .i64 o, .int .i64 sl, .int .i64 md, .int .i64 fr, .slice ad zs.length cap], .int .i64 node, .func (.func 67) #[] #[.pointer (some ⟨gt, 0, none⟩), .pointer (some ⟨gn, 0, none⟩)], .int .i64 (x : Int), undef, undef, undef, undef, undef, undef, undef, undef, undef, undef, undef], defers := [] })
    (fun x a' => ownFrom_pure _ _)
    ?assign ?body ?done ?stop
  case assign =>
    rintro l pre x W K hI hK
    gi_wp2
    exact hK _ _ (KeepsFrom.refl _ _) (Below.refl _ _) hI rfl
  case body =>
    rintro l pre x a' W hl hr ⟨hp, ⟨d1, d2, d3, hk1⟩, hBw⟩ rfl hlt
    have hdp : 1 ≤ m - 1 - 1 := by omega
    have hgb : (Fence.wide.inRound l).fn 50 := trivial
    have hgc : (Fence.wide.inRound l).fn 51 := trivial
    have hE := HI.out (by omega)
    have e1 := d1.cell
    have e2 := d2.cell
    have e3 := d3.cell
    have e4 := d3.frozen
    have HK1 := hidden hk1
    have HD1 := hidden d1
    have HD2 := hidden d2
    have HD3 := hidden d3
    have HBw := hidden hBw
    have c0 := fun i => blk_cell hk1 i
    have l0 := blk_lt hk1
    have W1 := hidden (HW.out x)
    have W2 := hidden (fun V h => HM.out x V hE h)
    have HQ : Hid (dueP o sl r dr el zs.length s x = (!sentB s x && timeM (midP o sl zs.length x) r dr el)) := rfl
    have HPr := hidden hp
    clear hk1 d1 d2 d3 hp hE hBw
    generalize timeM (midP o sl zs.length x) r dr el = tb at *
    generalize sentB s x = sb at *
    cases sb with
    | true =>
      gi_wp2_with (gi_at_call 50; refine (CallsIn.inRound l (callsIn_wide.2 (W1.out _))).mono ?_; rintro e w4 ⟨rfl, rfl⟩)
      exact ⟨KeepsFrom.refl _ _, Below.refl _ _, none_snoc HPr.out (by rw [HQ.out]; rfl), ⟨HD1.out, HD2.out, HD3.out, HK1.out⟩, HBw.out⟩
    | false =>
      cases tb with
      | true =>
        gi_wp2_with (gi_at_call 50; refine (CallsIn.inRound l (callsIn_wide.2 (W1.out _))).mono ?_; rintro e w4 ⟨rfl, rfl⟩)
        gi_wp2_with (gi_at_call 51; refine (CallsIn.inRound l (callsIn_wide.2 (W2.out _ (HT0.out.below HBw.out)))).mono ?_; rintro e w5 ⟨rfl, hb5⟩; refine Hid.out ?_)
        have d3' := blk_later HD3.out hb5
        have x3 := (show Boxed w5 (w.heap.size + 1 + 1 + 1) 3 (.int .i64 0) from d3').cell
        have x4 := (show Boxed w5 (w.heap.size + 1 + 1 + 1) 3 (.int .i64 0) from d3').frozen
        have x5 := blk_lt d3'
        have HX3 := hidden d3'
        have HB5 := hidden hb5
        clear hb5 d3' e1 e2 e3 e4 c0 l0
        refine hidden ?_
        gi_wp2
        exact ⟨(KeepsFrom.of_grownBy (below_grown HB5.out) (fun j e => by cases e)).trans ((KeepsOthers.setCell _ _ _).from _), rfl, pre, x, ⟨rfl, HPr.out, by rw [HQ.out]; rfl⟩, (show Boxed w5 (w.heap.size + 1 + 1 + 1) 3 (.int .i64 0) from HX3.out).set _, (bthen hB (bthen HBw.out HB5.out)).setCell (p := ⟨w.heap.size + 1 + 1 + 1, 0, none⟩) (by simp; omega) _⟩
      | false =>
        gi_wp2_with (gi_at_call 50; refine (CallsIn.inRound l (callsIn_wide.2 (W1.out _))).mono ?_; rintro e w4 ⟨rfl, rfl⟩)
        gi_wp2_with (gi_at_call 51; refine (CallsIn.inRound l (callsIn_wide.2 (W2.out _ (HT0.out.below HBw.out)))).mono ?_; rintro e w5 ⟨rfl, hb5⟩; refine Hid.out ?_)
        have HB5 := hidden hb5
        clear hb5 e1 e2 e3 e4 c0 l0
        refine hidden ?_
        gi_wp2
        exact ⟨KeepsFrom.of_grownBy (below_grown HB5.out) (fun j e => by cases e), HB5.out.mono HBw.out.size, none_snoc HPr.out (by rw [HQ.out]; rfl), ⟨blk_later HD1.out HB5.out, blk_later HD2.out HB5.out, blk_later HD3.out HB5.out, blk_later HK1.out HB5.out⟩, bthen HBw.out HB5.out⟩
  case done =>
    rintro D ys W hD rfl ⟨hp, ⟨d1, d2, d3, hk1⟩, hBw⟩ hK
    have e2 := d3.cell
    have e3 := d3.frozen
    have hres := firstF_none hp
    have hBB : Below w.heap.size w W := bthen hB hBw
    gi_wp2
    have hK' := (KeepsOthers.setCell W ⟨w.heap.size + 1 + 1 + 1, 0, none⟩ (.int .i64 (-1))).same D _ hK rfl
    refine ⟨by simp, .inl ⟨_, _, rfl, run_takeDeferred hK', ?_⟩⟩
    have d3' := (d3.set (.int .i64 (-1))).kept (grownBy_putObj' _ D (.deferred none)) (by simp; omega)
    have c5 := d3'.cell
    refine ⟨.int .i64 (-1), ?_, by rw [HF.out, hres], ?_⟩
    · simp [results, Try.results35, go_sem, c5]
    · exact (hBB.setCell (p := ⟨w.heap.size + 1 + 1 + 1, 0, none⟩) (by simp; omega) _).trans (belowK_b (w := w) (Nat.le_refl _) _ D _ _ (by omega) hK' rfl rfl)
  case stop =>
    rintro D c pre W hD hS ⟨rfl, pre0, y, ⟨hp, hn, hy⟩, d2, hBw⟩ hK
    have hres := firstF_hit hy hn (by rw [← hp]; exact hS)
    gi_wp2
    refine ⟨by simp, .inl ⟨_, _, rfl, run_takeDeferred hK, ?_⟩⟩
    have d3 := d2.kept (grownBy_putObj' _ D (.deferred none)) (by simp; omega)
    have c5 := d3.cell
    refine ⟨.int .i64 (y : Int), ?_, by rw [HF.out, hres], ?_⟩
    · simp [results, Try.results35, go_sem, c5]
    · exact hBw.trans (belowK_b (w := w) (Nat.le_refl _) _ D _ _ (by omega) hK rfl rfl)

theorem Due_any (n f d p r dr o sl md fr : Int) (ad : Option Addr) (cap : Nat) (zs : List Int) (node el : Int) (s : ByteArray) (w : World) (he : -9223372036854775808 ≤ el ∧ el ≤ 9223372036854775807) (hs : s.size ≤ 9223372036854775807) (hl : zs.length ≤ 9223372036854775807) (hT : Tab w ad zs) :
    Calls Try.prog 35 #[.agg #[.int .i64 n, .int .i64 f, .int .i64 d, .int .i64 p, .int .i64 r, .int .i64 dr, .int .i64 o, .int .i64 sl, .int .i64 md, .int .i64 fr, .slice ad zs.length cap], .int .i64 node, .int .i64 el, .string s] w fun e W' => e = .returned (.int .i64 (dueF (plainE n f d p r dr o sl md fr zs) o sl r dr zs node el s)) ∧ Below w.heap.size w W' := (callsIn_wide (n := 3)).1 (Due_in n f d p r dr o sl md fr ad cap zs node el s he hs 3 (Nat.le_refl _) w hl hT)
end Go.Proofs.Ytkopmhmbldohdaa

/- Two packets compare as equal just when their parts are; no conditions. -/
namespace Go.Proofs.Ytkopmhmbldohdaa
open Go.ChangeShapes Go.WideShapes Go.ChangeAt Go.RowKit
set_option linter.unusedVariables false

theorem bq (a b : ByteArray) : (a.toList == b.toList) = decide (a = b) := by
  rw [Bool.eq_iff_iff, beq_iff_eq, decide_eq_true_iff, ByteArray.toList_eq, ByteArray.toList_eq]
  constructor
  · intro h
    apply ByteArray.ext
    exact Array.toList_inj.1 h
  · rintro rfl; rfl
/-- Are two packets alike? -/
def pkQ (vo : ByteArray) (ex : Int) (ve : ByteArray) (ps cy : Int) (te : ByteArray) (vo' : ByteArray) (ex' : Int) (ve' : ByteArray) (ps' cy' : Int) (te' : ByteArray) : Bool := decide (vo = vo' ∧ ex = ex' ∧ ve = ve' ∧ ps = ps' ∧ cy = cy' ∧ te = te')
theorem eqIn_pk (w : World) (vo : ByteArray) (ex : Int) (ve : ByteArray) (ps cy : Int) (te : ByteArray) (vo' : ByteArray) (ex' : Int) (ve' : ByteArray) (ps' cy' : Int) (te' : ByteArray) :
    (Op.equalIn 10000 38 (.agg #[.string vo, .int .i64 ex, .string ve, .int .i64 ps, .int .i64 cy, .string te]) (.agg #[.string vo', .int .i64 ex', .string ve', .int .i64 ps', .int .i64 cy', .string te'])).run Try.prog w = .ok (pkQ vo ex ve ps cy te vo' ex' ve' ps' cy' te') w := by
  rw [show (10000 : Nat) = 9999 + 1 from rfl, run_equalIn_agg w 9999 38 _ _ (by kernel_rfl) (by kernel_rfl)]
  unfold Program.fieldsOf
  rw [Try.underlying38]
  unfold pkQ
  by_cases h1 : vo = vo'
  · subst h1
    by_cases h2 : ex = ex'
    · subst h2
      by_cases h3 : ve = ve'
      · subst h3
        by_cases h4 : ps = ps'
        · subst h4
          by_cases h5 : cy = cy'
          · subst h5
            by_cases h6 : te = te' <;> simp [go_sem, bq, h6]
          · simp [go_sem, bq, h5]
        · simp [go_sem, bq, h4]
      · simp [go_sem, bq, h3]
    · simp [go_sem, bq, h2]
  · simp [go_sem, bq, h1]
theorem eql_pk (w : World) (vo : ByteArray) (ex : Int) (ve : ByteArray) (ps cy : Int) (te : ByteArray) (vo' : ByteArray) (ex' : Int) (ve' : ByteArray) (ps' cy' : Int) (te' : ByteArray) :
    (binOp .eql 38 (.agg #[.string vo, .int .i64 ex, .string ve, .int .i64 ps, .int .i64 cy, .string te]) (.agg #[.string vo', .int .i64 ex', .string ve', .int .i64 ps', .int .i64 cy', .string te'])).run Try.prog w = .ok (.bool (pkQ vo ex ve ps cy te vo' ex' ve' ps' cy' te')) w := by
  rw [run_eql_struct, eqIn_pk]; rfl
theorem neq_pk (w : World) (vo : ByteArray) (ex : Int) (ve : ByteArray) (ps cy : Int) (te : ByteArray) (vo' : ByteArray) (ex' : Int) (ve' : ByteArray) (ps' cy' : Int) (te' : ByteArray) :
    (binOp .neq 38 (.agg #[.string vo, .int .i64 ex, .string ve, .int .i64 ps, .int .i64 cy, .string te]) (.agg #[.string vo', .int .i64 ex', .string ve', .int .i64 ps', .int .i64 cy', .string te'])).run Try.prog w = .ok (.bool (!pkQ vo ex ve ps cy te vo' ex' ve' ps' cy' te')) w := by
  rw [run_neq_struct, eqIn_pk]; rfl
theorem guard_pk (w : World) (op : BinOp) (x y : Operand) (xs ys : Array Value) : (eqGuard op 38 x y (.agg xs) (.agg ys)).run Try.prog w = .ok () w := run_eqGuard_agg w op _ x y xs ys (by kernel_rfl)
theorem pkQ_same (vo : ByteArray) (ex : Int) (ve : ByteArray) (ps cy : Int) (te : ByteArray) : pkQ vo ex ve ps cy te vo ex ve ps cy te = true := by simp [pkQ]
end Go.Proofs.Ytkopmhmbldohdaa

/- The calls Open, fill and Guard of package gate return what plain functions give, and make at most new memory; conditions: the table lies where it says, lengths and numbers fit int. -/
namespace Go.Proofs.Ytkopmhmbldohdaa
open Go.ChangeShapes Go.WideShapes Go.ChangeAt Go.RowKit
set_option linter.unusedVariables false
attribute [local go_sem] cell_rg
attribute [local go_sem ↓] ldM_eq

set_option maxHeartbeats 2000000 in
theorem Open_any (n f d p r dr o sl md fr : Int) (ad : Option Addr) (cap : Nat) (zs : List Int) (mm : Array Value) (mc ma mn mr : Int) (mz mh mt ml : ByteArray) (hM : MemW mm mc ma mn mr mz mh mt ml) (node : Int) (w : World) (hl : zs.length ≤ 9223372036854775807) (hT : Tab w ad zs) (hm : mt.size ≤ 9223372036854775807) :
    Calls Try.prog 14 #[.agg #[.int .i64 n, .int .i64 f, .int .i64 d, .int .i64 p, .int .i64 r, .int .i64 dr, .int .i64 o, .int .i64 sl, .int .i64 md, .int .i64 fr, .slice ad zs.length cap], .agg mm, .int .i64 node] w fun e w' => e = .returned (.int .i64 (openF (plainE n f d p r dr o sl md fr zs) o sl r dr zs mr ((mc - ma) % 65536) mt node)) ∧ Below w.heap.size w w' := by
  have HB0 := hidden (bthen (ballc w (.cells #[.int .i64 n, .int .i64 f, .int .i64 d, .int .i64 p, .int .i64 r, .int .i64 dr, .int .i64 o, .int .i64 sl, .int .i64 md, .int .i64 fr, .slice ad zs.length cap] 24)) (ballc _ (.cells mm 30)))
  have HT := hidden (hT.below HB0.out)
  have CS := hidden (fun V => Sync_any mm mc ma mn mr mz mh mt ml hM V)
  have CE := hidden (fun V => Calls.to_below (Elapsed_any mc ma V))
  have CD := hidden (fun V h => Due_any n f d p r dr o sl md fr ad cap zs node ((mc - ma) % 65536) mt V (by omega) hm hl h)
  have hk : ((w.alloc (.cells #[.int .i64 n, .int .i64 f, .int .i64 d, .int .i64 p, .int .i64 r, .int .i64 dr, .int .i64 o, .int .i64 sl, .int .i64 md, .int .i64 fr, .slice ad zs.length cap] 24)).alloc (.cells mm 30)).heap[w.heap.size + 1]? = some (.cells mm 30 (0, 0)) := blk_newAt _ _ _ (by simp)
  have HK := hidden hk
  have hld := ldM_run hM.size hk
  have c0 := hM.c0
  have c1 := hM.c1
  have c12 := hM.c12
  have HZ := hidden hM.size
  clear hT hk hM
  by_cases h : 2 ≤ mr
  · have e1 : decide (2 ≤ mr) = true := decide_eq_true h
    rw [openF_yes h]
    generalize dueF (plainE n f d p r dr o sl md fr zs) o sl r dr zs node ((mc - ma) % 65536) mt = R at *
    generalize (mc - ma) % 65536 = el at *
    go_enter Try.func14, Try.ntmps14
    go_wp2_with fail
    refine (CS.out _).mono ?_
    rintro e w2 ⟨rfl, hb2⟩
    obtain ⟨hbox, hbox2, hsz, hsz2⟩ := box_two hb2
    have HB2 := hidden (bthen HB0.out hb2)
    have HT2 := hidden (HT.out.below hb2)
    clear hb2 hld
    go_wp2
    refine wp_region_quiet_below (by kernel_rfl) (by kernel_rfl) ?_
    repeat (go_big_quiet_step (first
      | (go_at_call 36; exact Calls.regrown_of (CE.out _))
      | (go_at_call 35; exact Calls.regrown_of (CD.out _ (HT2.out.below (below_regrown _ _ _))))))
    refine wpQuiet_nil ?_
    intro w3 hw3
    have HB3 := hidden (bthen HB2.out (rg_below hw3))
    clear hw3 hbox hbox2 hsz hsz2
    go_wp2
    go_ret
    exact ⟨rfl, HB3.out⟩
  · have e1 : decide (2 ≤ mr) = false := decide_eq_false h
    rw [openF_no h]
    clear CE CD h
    go_enter Try.func14, Try.ntmps14
    go_wp2_with fail
    refine (CS.out _).mono ?_
    rintro e w2 ⟨rfl, hb2⟩
    have HB2 := hidden (bthen HB0.out hb2)
    clear hb2 hld
    go_wp2
    go_ret
    exact ⟨rfl, HB2.out⟩
theorem fill_any (mm : Array Value) (mc ma mn mr : Int) (mz mh mt ml : ByteArray) (hM : MemW mm mc ma mn mr mz mh mt ml) (vo : ByteArray) (ex : Int) (ve : ByteArray) (ps cy : Int) (te : ByteArray) (k : Int) (w : World) :
    Calls Try.prog 41 #[.agg mm, .agg #[.string vo, .int .i64 ex, .string ve, .int .i64 ps, .int .i64 cy, .string te], .int .i64 k] w fun e w' => e = .returned (.agg #[.string vo, .int .i64 ex, .string ve, .int .i64 (carS k), .int .i64 (carC k mn), .string (carT k ml)]) ∧ Below w.heap.size w w' := by
  have CC := hidden (fun V => Carry_any vo ex ve ps cy te k mn ml V)
  have HB0 := hidden (bthen (bthen (ballc w (.cells mm 30)) (ballc _ (.cells #[.string vo, .int .i64 ex, .string ve, .int .i64 ps, .int .i64 cy, .string te] 38))) (ballc _ (.cells #[.string ⟨#[]⟩, .int .i64 0, .string ⟨#[]⟩, .int .i64 0, .int .i64 0, .string ⟨#[]⟩] 38)))
  have hr : (((w.alloc (.cells mm 30)).alloc (.cells #[.string vo, .int .i64 ex, .string ve, .int .i64 ps, .int .i64 cy, .string te] 38)).alloc (.cells #[.string ⟨#[]⟩, .int .i64 0, .string ⟨#[]⟩, .int .i64 0, .int .i64 0, .string ⟨#[]⟩] 38)).heap[w.heap.size + 1 + 1]? = some (.cells #[.string ⟨#[]⟩, .int .i64 0, .string ⟨#[]⟩, .int .i64 0, .int .i64 0, .string ⟨#[]⟩] 38 (0, 0)) := blk_newAt _ _ _ (by simp)
  have HR := hidden hr
  have c7 := hM.c7
  have c14 := hM.c14
  clear hM hr
  generalize carS k = x1 at *
  generalize carC k mn = x2 at *
  generalize carT k ml = x3 at *
  go_enter Try.func41, Try.ntmps41
  go_wp2_with fail
  refine (CC.out _).mono ?_
  rintro e w2 ⟨rfl, hb2⟩
  have hk := blk_later HR.out hb2
  have HB2 := hidden (bthen HB0.out hb2)
  have h6 := set6T hk (.string vo) (.int .i64 ex) (.string ve) (.int .i64 x1) (.int .i64 x2) (.string x3)
  have H6 := hidden (blk_cell h6)
  have HB3 := hidden (below6T HB2.out (show w.heap.size ≤ w.heap.size + 1 + 1 by omega) (.string vo) (.int .i64 ex) (.string ve) (.int .i64 x1) (.int .i64 x2) (.string x3))
  have b0 := blk_cell hk
  have f0 := blk_frozen hk
  have l0 := blk_lt hk
  clear hb2 hk HR HB2 h6
  go_wp2
  have h6 := H6.out
  exact bodyPost_ret (v := .agg #[.string vo, .int .i64 ex, .string ve, .int .i64 x1, .int .i64 x2, .string x3]) (by simp [results, Try.results41, go_sem, h6]) rfl ⟨rfl, HB3.out⟩
attribute [local go_sem ↓] eqIn_pk
attribute [local go_sem] guard_pk
set_option maxHeartbeats 4000000 in
theorem Guard_any (n f d p r dr o sl md fr : Int) (ad : Option Addr) (cap : Nat) (zs : List Int) (mm : Array Value) (mc ma mn mr : Int) (mz mh mt ml : ByteArray) (hM : MemW mm mc ma mn mr mz mh mt ml) (node : Int) (vo : ByteArray) (ex : Int) (ve : ByteArray) (ps cy : Int) (te : ByteArray) (w : World) (hl : zs.length ≤ 9223372036854775807) (hT : Tab w ad zs) (hm : mt.size ≤ 9223372036854775807) :
    Calls Try.prog 18 #[.agg #[.int .i64 n, .int .i64 f, .int .i64 d, .int .i64 p, .int .i64 r, .int .i64 dr, .int .i64 o, .int .i64 sl, .int .i64 md, .int .i64 fr, .slice ad zs.length cap], .agg mm, .int .i64 node, .agg #[.string vo, .int .i64 ex, .string ve, .int .i64 ps, .int .i64 cy, .string te]] w fun e w' => e = .returned (.agg #[.string vo, .int .i64 ex, .string ve, .int .i64 (gdS (passB (openF (plainE n f d p r dr o sl md fr zs) o sl r dr zs mr ((mc - ma) % 65536) mt node) ps cy te mn ml) ps), .int .i64 (gdS (passB (openF (plainE n f d p r dr o sl md fr zs) o sl r dr zs mr ((mc - ma) % 65536) mt node) ps cy te mn ml) cy), .string (gdT (passB (openF (plainE n f d p r dr o sl md fr zs) o sl r dr zs mr ((mc - ma) % 65536) mt node) ps cy te mn ml) te)]) ∧ Below w.heap.size w w' := by
  obtain ⟨k0, k1, k2, k3, hb0⟩ := blk4 w #[.int .i64 n, .int .i64 f, .int .i64 d, .int .i64 p, .int .i64 r, .int .i64 dr, .int .i64 o, .int .i64 sl, .int .i64 md, .int .i64 fr, .slice ad zs.length cap] 24 mm 30 #[.string vo, .int .i64 ex, .string ve, .int .i64 ps, .int .i64 cy, .string te] 38 #[.string ⟨#[]⟩, .int .i64 0, .string ⟨#[]⟩, .int .i64 0, .int .i64 0, .string ⟨#[]⟩] 38
  have HB0 := hidden hb0
  have HT := hidden (hT.below hb0)
  have CO := hidden (fun V h => Open_any n f d p r dr o sl md fr ad cap zs mm mc ma mn mr mz mh mt ml hM node V hl h hm)
  have CS := hidden (fun V => Strip_any vo ex ve ps cy te V)
  have HK := hidden (open_32 (E := plainE n f d p r dr o sl md fr zs) (o := o) (sl := sl) (r := r) (dr := dr) (zs := zs) (mr := mr) (el := (mc - ma) % 65536) (s := mt) (node := node) (fun h => by have := (plainE_ok h).2.2.2.2.2.2.2.2.2.2.2.2.2.2.2.2.2.2.2.2.2.2.1; omega))
  have CF := hidden (fun k V => fill_any mm mc ma mn mr mz mh mt ml hM vo ex ve ps cy te k V)
  have hs := hM.size
  generalize openF (plainE n f d p r dr o sl md fr zs) o sl r dr zs mr ((mc - ma) % 65536) mt node = K at *
  have HP := hidden (fun h0 => pass_car (k := K) (ps := ps) (cy := cy) (mn := mn) (te := te) (ml := ml) HK.out h0)
  have HN := hidden (pass_none (k := K) (ps := ps) (cy := cy) (mn := mn) (te := te) (ml := ml))
  generalize passB K ps cy te mn ml = B at *
  have HK0 := hidden k0
  have HK1 := hidden k1
  have HK2 := hidden k2
  have HK3 := hidden k3
  clear hT hb0 hM k0 k1 k2 k3
  go_enter Try.func18, Try.ntmps18
  go_wp2
  generalize (((w.alloc (.cells #[.int .i64 n, .int .i64 f, .int .i64 d, .int .i64 p, .int .i64 r, .int .i64 dr, .int .i64 o, .int .i64 sl, .int .i64 md, .int .i64 fr, .slice ad zs.length cap] 24)).alloc (.cells mm 30)).alloc (.cells #[.string vo, .int .i64 ex, .string ve, .int .i64 ps, .int .i64 cy, .string te] 38)).alloc (.cells #[.string ⟨#[]⟩, .int .i64 0, .string ⟨#[]⟩, .int .i64 0, .int .i64 0, .string ⟨#[]⟩] 38) = W0 at *
  have b2 := blk_cell HK2.out
  have l2 := blk_lt HK2.out
  by_cases h0 : ps = 0
  · have hBt : B = true := HN.out h0
    have e1 : (ps == 0) = true := beq_iff_eq.2 h0
    clear HN HP h0 CO CF
    subst hBt
    refine wp_region_quiet_below (by kernel_rfl) (by kernel_rfl) ?_
    repeat (go_big_quiet_step (fail))
    refine wpQuiet_nil ?_
    intro w3 hw3
    have hb3 := rg_below hw3
    clear hw3 b2 l2
    have b2 := blk_cell (blk_later HK2.out hb3)
    have l2 := blk_lt (blk_later HK2.out hb3)
    have k3 := blk_later HK3.out hb3
    have b3 := blk_cell k3
    have f3 := blk_frozen k3
    have l3 := blk_lt k3
    have H6 := hidden (blk_cell (set6T k3 (.string vo) (.int .i64 ex) (.string ve) (.int .i64 ps) (.int .i64 cy) (.string te)))
    have HB3 := hidden (below6T (bthen HB0.out hb3) (show w.heap.size ≤ w.heap.size + 1 + 1 + 1 by omega) (.string vo) (.int .i64 ex) (.string ve) (.int .i64 ps) (.int .i64 cy) (.string te))
    clear hb3 k3
    go_wp2
    have h6 := H6.out
    exact bodyPost_ret (v := .agg #[.string vo, .int .i64 ex, .string ve, .int .i64 ps, .int .i64 cy, .string te]) (by simp [results, Try.results18, go_sem, h6]) rfl ⟨rfl, HB3.out⟩
  · have e1 : (ps == 0) = false := beq_eq_false_iff_ne.2 h0
    have HQ : Hid (pkQ vo ex ve ps cy te vo ex ve (carS K) (carC K mn) (carT K ml) = B) := by
      show _ = _
      rw [HP.out h0]
      unfold pkQ
      simp
    clear HN HP h0
    have b0 := blk_cell HK0.out
    have l0 := blk_lt HK0.out
    have hld := ldM_rg hs HK1.out
    refine wp_region_quiet_below (by kernel_rfl) (by kernel_rfl) ?_
    repeat (go_big_quiet_step (first
      | (go_at_call 14; exact Calls.regrown_of (CO.out _ (HT.out.below (below_regrown _ _ _))))
      | (go_at_call 41; exact Calls.regrown_of (CF.out _ _))))
    refine wpQuiet_nil ?_
    intro w3 hw3
    have hb3 := rg_below hw3
    clear hw3 b2 l2 b0 l0 hld
    rw [HQ.out]
    have b2 := blk_cell (blk_later HK2.out hb3)
    have l2 := blk_lt (blk_later HK2.out hb3)
    have k3 := blk_later HK3.out hb3
    cases B with
    | true =>
      have b3 := blk_cell k3
      have f3 := blk_frozen k3
      have l3 := blk_lt k3
      have H6 := hidden (blk_cell (set6T k3 (.string vo) (.int .i64 ex) (.string ve) (.int .i64 ps) (.int .i64 cy) (.string te)))
      have HB3 := hidden (below6T (bthen HB0.out hb3) (show w.heap.size ≤ w.heap.size + 1 + 1 + 1 by omega) (.string vo) (.int .i64 ex) (.string ve) (.int .i64 ps) (.int .i64 cy) (.string te))
      clear hb3 k3
      go_wp2
      have h6 := H6.out
      exact bodyPost_ret (v := .agg #[.string vo, .int .i64 ex, .string ve, .int .i64 ps, .int .i64 cy, .string te]) (by simp [results, Try.results18, go_sem, h6]) rfl ⟨rfl, HB3.out⟩
    | false =>
      have HB3 := hidden (bthen HB0.out hb3)
      have HK33 := hidden k3
      clear hb3 k3
      go_wp2_with fail
      refine (CS.out _).mono ?_
      rintro e w4 ⟨rfl, hb4⟩
      have k4 := blk_later HK33.out hb4
      have b3 := blk_cell k4
      have f3 := blk_frozen k4
      have l3 := blk_lt k4
      have H6 := hidden (blk_cell (set6T k4 (.string vo) (.int .i64 ex) (.string ve) (.int .i64 0) (.int .i64 0) (.string ⟨#[]⟩)))
      have HB4 := hidden (below6T (bthen HB3.out hb4) (show w.heap.size ≤ w.heap.size + 1 + 1 + 1 by omega) (.string vo) (.int .i64 ex) (.string ve) (.int .i64 0) (.int .i64 0) (.string ⟨#[]⟩))
      clear hb4 k4 b2 l2
      go_wp2
      have h6 := H6.out
      exact bodyPost_ret (v := .agg #[.string vo, .int .i64 ex, .string ve, .int .i64 0, .int .i64 0, .string ⟨#[]⟩]) (by simp [results, Try.results18, go_sem, h6]) rfl ⟨rfl, HB4.out⟩
end Go.Proofs.Ytkopmhmbldohdaa

/- The call Send of package gate returns what plain functions give, and makes at most new memory; conditions: the table lies where it says, lengths and numbers fit int. -/
namespace Go.Proofs.Ytkopmhmbldohdaa
open Go.ChangeShapes Go.WideShapes Go.ChangeAt Go.RowKit
set_option linter.unusedVariables false
attribute [local go_sem ↓] ldM_eq

set_option maxHeartbeats 8000000 in
theorem Send_any (n f d p r dr o sl md fr : Int) (ad : Option Addr) (cap : Nat) (zs : List Int) (mm : Array Value) (mc ma mn mr : Int) (mz mh mt ml : ByteArray) (hM : MemW mm mc ma mn mr mz mh mt ml) (node : Int) (vo : ByteArray) (ex : Int) (ve : ByteArray) (ps cy : Int) (te : ByteArray) (K : Int) (w : World) (hl : zs.length ≤ 9223372036854775807) (hT : Tab w ad zs) (hm : mt.size ≤ 9223372036854775807) (hK : K = openF (plainE n f d p r dr o sl md fr zs) o sl r dr zs mr ((mc - ma) % 65536) mt node) :
    Calls Try.prog 16 #[.agg #[.int .i64 n, .int .i64 f, .int .i64 d, .int .i64 p, .int .i64 r, .int .i64 dr, .int .i64 o, .int .i64 sl, .int .i64 md, .int .i64 fr, .slice ad zs.length cap], .agg mm, .int .i64 node, .agg #[.string vo, .int .i64 ex, .string ve, .int .i64 ps, .int .i64 cy, .string te]] w fun e w' => e = .returned (.tuple #[.agg #[.string vo, .int .i64 ex, .string ve, .int .i64 (carS K), .int .i64 (carC K mn), .string (carT K ml)], .string (sndM K mt zs.length), .int .i64 (K + 1)]) ∧ Below w.heap.size w w' := by
  obtain ⟨k0, k1, k2, k3, hb0⟩ := blk4 w #[.int .i64 n, .int .i64 f, .int .i64 d, .int .i64 p, .int .i64 r, .int .i64 dr, .int .i64 o, .int .i64 sl, .int .i64 md, .int .i64 fr, .slice ad zs.length cap] 24 mm 30 #[.string vo, .int .i64 ex, .string ve, .int .i64 ps, .int .i64 cy, .string te] 38 #[.string ⟨#[]⟩, .int .i64 0, .string ⟨#[]⟩, .int .i64 0, .int .i64 0, .string ⟨#[]⟩] 38
  have HB0 := hidden hb0
  have HT := hidden (hT.below hb0)
  have CO := hidden (fun V h => Open_any n f d p r dr o sl md fr ad cap zs mm mc ma mn mr mz mh mt ml hM node V hl h hm)
  have CS := hidden (fun V => Strip_any vo ex ve ps cy te V)
  have HKK := hidden (open_32 (E := plainE n f d p r dr o sl md fr zs) (o := o) (sl := sl) (r := r) (dr := dr) (zs := zs) (mr := mr) (el := (mc - ma) % 65536) (s := mt) (node := node) (fun h => by have := (plainE_ok h).2.2.2.2.2.2.2.2.2.2.2.2.2.2.2.2.2.2.2.2.2.2.1; omega))
  rw [← hK] at CO HKK
  have CF := hidden (fun V => fill_any mm mc ma mn mr mz mh mt ml hM vo ex ve ps cy te K V)
  have CM := hidden (fun (g : Nat) V (h : V.heap[g]? = some (.cells #[.int .i64 K] 3 (0, 0))) => Mark_any mt zs.length (some ⟨g, 0, none⟩) 1 [K] V hm (by simp) (one_lies h))
  have hs := hM.size
  have c12 := hM.c12
  have HK0 := hidden k0
  have HK1 := hidden k1
  have HK2 := hidden k2
  have HK3 := hidden k3
  have hld := ldM_run hs k1
  clear hT hb0 hM k0 k1 k2 k3 hK
  go_enter Try.func16, Try.ntmps16
  go_wp2_with fail
  generalize (((w.alloc (.cells #[.int .i64 n, .int .i64 f, .int .i64 d, .int .i64 p, .int .i64 r, .int .i64 dr, .int .i64 o, .int .i64 sl, .int .i64 md, .int .i64 fr, .slice ad zs.length cap] 24)).alloc (.cells mm 30)).alloc (.cells #[.string vo, .int .i64 ex, .string ve, .int .i64 ps, .int .i64 cy, .string te] 38)).alloc (.cells #[.string ⟨#[]⟩, .int .i64 0, .string ⟨#[]⟩, .int .i64 0, .int .i64 0, .string ⟨#[]⟩] 38) = W0 at *
  refine (CO.out _ HT.out).mono ?_
  rintro e w1 ⟨rfl, hb1⟩
  have k0 := blk_later HK0.out hb1
  have k1 := blk_later HK1.out hb1
  have k2 := blk_later HK2.out hb1
  have k3 := blk_later HK3.out hb1
  have HB1 := hidden (bthen HB0.out hb1)
  clear hb1 HK0 HK1 HK2 HK3 HT CO hld HB0
  have hge := HB1.out.size
  have hle := blk_lt k3
  have hC1 : Chn (w.heap.size + 1 + 1 + 1) w1 w1 := Chn.refl (by omega)
  have hD1 : Chn (w.heap.size + 1 + 1 + 1 + 1) w1 w1 := Chn.refl (by omega)
  have hS : ∀ V, Chn (w.heap.size + 1 + 1 + 1) w1 V → V.cell? ⟨w.heap.size + 1, 12, none⟩ = some (.string mt) ∧ V.cell? ⟨w.heap.size + 1 + 1, 0, none⟩ = some (.string vo) ∧ V.cell? ⟨w.heap.size + 1 + 1, 1, none⟩ = some (.int .i64 ex) ∧ V.cell? ⟨w.heap.size + 1 + 1, 2, none⟩ = some (.string ve) ∧ V.cell? ⟨w.heap.size + 1 + 1, 3, none⟩ = some (.int .i64 ps) ∧ V.cell? ⟨w.heap.size + 1 + 1, 4, none⟩ = some (.int .i64 cy) ∧ V.cell? ⟨w.heap.size + 1 + 1, 5, none⟩ = some (.string te) ∧ V.cell? ⟨w.heap.size, 10, none⟩ = some (.slice ad zs.length cap) ∧ (ldM (.pointer (some ⟨w.heap.size + 1, 0, none⟩))).run Try.prog V = .ok (.agg mm) V := by
    intro V hV
    have a0 := blk_cell (blk_chn k0 (by omega) hV)
    have k1' := blk_chn k1 (by omega) hV
    have a1 := blk_cell k1'
    have a2 := blk_cell (blk_chn k2 (by omega) hV)
    exact ⟨(a1 12).trans c12, a2 0, a2 1, a2 2, a2 3, a2 4, a2 5, a0 10, ldM_run hs k1'⟩
  have HK3 := hidden k3
  have f3 := blk_frozen k3
  have b3 := blk_cell k3
  clear k0 k1 k2 k3 hge
  by_cases h : K = -1
  · have e1 : (K == -1) = true := beq_iff_eq.2 h
    have e2 : K + 1 = 0 := by omega
    have e3 : sndM K mt zs.length = mt := if_pos h
    have HE : Hid (Ending.returned (.tuple #[.agg #[.string vo, .int .i64 ex, .string ve, .int .i64 0, .int .i64 0, .string ⟨#[]⟩], .string mt, .int .i64 0]) = .returned (.tuple #[.agg #[.string vo, .int .i64 ex, .string ve, .int .i64 (carS K), .int .i64 (carC K mn), .string (carT K ml)], .string (sndM K mt zs.length), .int .i64 (K + 1)])) := by
      show _ = _
      rw [e2, e3, h]; rfl
    clear CF CM HKK e2 e3 b3 f3
    go_wp2_with fail
    go_region_held3 (fun V => V.cell? ⟨w.heap.size + 1, 12, none⟩ = some (.string mt) ∧ V.cell? ⟨w.heap.size + 1 + 1, 0, none⟩ = some (.string vo) ∧ V.cell? ⟨w.heap.size + 1 + 1, 1, none⟩ = some (.int .i64 ex) ∧ V.cell? ⟨w.heap.size + 1 + 1, 2, none⟩ = some (.string ve) ∧ V.cell? ⟨w.heap.size + 1 + 1, 3, none⟩ = some (.int .i64 ps) ∧ V.cell? ⟨w.heap.size + 1 + 1, 4, none⟩ = some (.int .i64 cy) ∧ V.cell? ⟨w.heap.size + 1 + 1, 5, none⟩ = some (.string te) ∧ V.cell? ⟨w.heap.size, 10, none⟩ = some (.slice ad zs.length cap) ∧ (ldM (.pointer (some ⟨w.heap.size + 1, 0, none⟩))).run Try.prog V = .ok (.agg mm) V) (first | exact hS _ (by repeat (first | with_reducible assumption | with_reducible refine Chn.drew ?_ | with_reducible refine Chn.alloc ?_ _ | with_reducible refine Chn.set ?_ _ _ (Nat.le_refl _) _)))
      (first
      | (go_at_call 40; refine (CS.out _).mono ?_; rintro e w4 ⟨rfl, hb4⟩; have hC4 := Chn.below (show Chn (w.heap.size + 1 + 1 + 1) w1 _ from (by repeat (first | with_reducible assumption | with_reducible refine Chn.drew ?_ | with_reducible refine Chn.alloc ?_ _ | with_reducible refine Chn.set ?_ _ _ (Nat.le_refl _) _))) hb4; have hD4 := Chn.below (show Chn (w.heap.size + 1 + 1 + 1 + 1) w1 _ from (by repeat (first | with_reducible assumption | with_reducible refine Chn.drew ?_ | with_reducible refine Chn.alloc ?_ _ | with_reducible refine Chn.set ?_ _ _ (Nat.le_refl _) _))) hb4; have k3 := blk_chn HK3.out (Nat.lt_succ_self _) hD4; (first | (have kL := blkV_new hb4) | (have kL := blkV_newD hb4) | (have kL := blkV_newE hb4) | skip); have b3 := blk_cell k3; have f3 := blk_frozen k3; have l3 := blk_lt k3; clear hb4))
    have h6 := blk_cell (set6T k3 (.string vo) (.int .i64 ex) (.string ve) (.int .i64 0) (.int .i64 0) (.string ⟨#[]⟩))
    have HB6 := hidden (below6T (HB1.out.trans (hC4.1.mono (by omega))) (show w.heap.size ≤ w.heap.size + 1 + 1 + 1 by omega) (.string vo) (.int .i64 ex) (.string ve) (.int .i64 0) (.int .i64 0) (.string ⟨#[]⟩))
    go_wp2
    exact bodyPost_ret (v := .tuple #[.agg #[.string vo, .int .i64 ex, .string ve, .int .i64 0, .int .i64 0, .string ⟨#[]⟩], .string mt, .int .i64 0]) (by simp [results, Try.results16, go_sem, h6]) rfl ⟨HE.out, HB6.out⟩
  · have e1 : (K == -1) = false := beq_eq_false_iff_ne.2 h
    have HE0 : sndM K mt zs.length = markB mt zs.length [K] := if_neg h
    have q1 : IntKind.i64.wrap (K + 1) = K + 1 := IntWalk.i64_in _ (by have := HKK.out; omega)
    obtain ⟨x1, hx1⟩ : ∃ x, carS K = x := ⟨_, rfl⟩
    obtain ⟨x2, hx2⟩ : ∃ x, carC K mn = x := ⟨_, rfl⟩
    obtain ⟨x3, hx3⟩ : ∃ x, carT K ml = x := ⟨_, rfl⟩
    obtain ⟨x4, hx4⟩ : ∃ x, markB mt zs.length [K] = x := ⟨_, rfl⟩
    have HE : Hid (Ending.returned (.tuple #[.agg #[.string vo, .int .i64 ex, .string ve, .int .i64 x1, .int .i64 x2, .string x3], .string x4, .int .i64 (K + 1)]) = .returned (.tuple #[.agg #[.string vo, .int .i64 ex, .string ve, .int .i64 (carS K), .int .i64 (carC K mn), .string (carT K ml)], .string (sndM K mt zs.length), .int .i64 (K + 1)])) := by
      show _ = _
      rw [HE0, hx1, hx2, hx3, hx4]
    simp only [hx1, hx2, hx3] at CF
    simp only [hx4] at CM
    clear hx1 hx2 hx3 hx4 HE0
    clear CS HKK b3 f3
    go_wp2_with fail
    go_region_held3 (fun V => V.cell? ⟨w.heap.size + 1, 12, none⟩ = some (.string mt) ∧ V.cell? ⟨w.heap.size + 1 + 1, 0, none⟩ = some (.string vo) ∧ V.cell? ⟨w.heap.size + 1 + 1, 1, none⟩ = some (.int .i64 ex) ∧ V.cell? ⟨w.heap.size + 1 + 1, 2, none⟩ = some (.string ve) ∧ V.cell? ⟨w.heap.size + 1 + 1, 3, none⟩ = some (.int .i64 ps) ∧ V.cell? ⟨w.heap.size + 1 + 1, 4, none⟩ = some (.int .i64 cy) ∧ V.cell? ⟨w.heap.size + 1 + 1, 5, none⟩ = some (.string te) ∧ V.cell? ⟨w.heap.size, 10, none⟩ = some (.slice ad zs.length cap) ∧ (ldM (.pointer (some ⟨w.heap.size + 1, 0, none⟩))).run Try.prog V = .ok (.agg mm) V) (first | exact hS _ (by repeat (first | with_reducible assumption | with_reducible refine Chn.drew ?_ | with_reducible refine Chn.alloc ?_ _ | with_reducible refine Chn.set ?_ _ _ (Nat.le_refl _) _)))
      (first
      | (go_at_call 41; refine (CF.out _).mono ?_; rintro e w4 ⟨rfl, hb4⟩; have hC4 := Chn.below (show Chn (w.heap.size + 1 + 1 + 1) w1 _ from (by repeat (first | with_reducible assumption | with_reducible refine Chn.drew ?_ | with_reducible refine Chn.alloc ?_ _ | with_reducible refine Chn.set ?_ _ _ (Nat.le_refl _) _))) hb4; have hD4 := Chn.below (show Chn (w.heap.size + 1 + 1 + 1 + 1) w1 _ from (by repeat (first | with_reducible assumption | with_reducible refine Chn.drew ?_ | with_reducible refine Chn.alloc ?_ _ | with_reducible refine Chn.set ?_ _ _ (Nat.le_refl _) _))) hb4; have k3 := blk_chn HK3.out (Nat.lt_succ_self _) hD4; (first | (have kL := blkV_new hb4) | (have kL := blkV_newD hb4) | (have kL := blkV_newE hb4) | skip); have b3 := blk_cell k3; have f3 := blk_frozen k3; have l3 := blk_lt k3; clear hb4)
      | (go_at_call 12; refine (CM.out _ _ (by first | exact heap_alloc_new _ _ | assumption)).mono ?_; rintro e w5 ⟨rfl, hb5⟩; have hC5 := Chn.below (show Chn (w.heap.size + 1 + 1 + 1) w1 _ from (by repeat (first | with_reducible assumption | with_reducible refine Chn.drew ?_ | with_reducible refine Chn.alloc ?_ _ | with_reducible refine Chn.set ?_ _ _ (Nat.le_refl _) _))) hb5; have hD5 := Chn.below (show Chn (w.heap.size + 1 + 1 + 1 + 1) w1 _ from (by repeat (first | with_reducible assumption | with_reducible refine Chn.drew ?_ | with_reducible refine Chn.alloc ?_ _ | with_reducible refine Chn.set ?_ _ _ (Nat.le_refl _) _))) hb5; have k5 := blk_chn HK3.out (Nat.lt_succ_self _) hD5; have b5 := blk_cell k5; have f5 := blk_frozen k5; have l5 := blk_lt k5; clear b3 f3 l3 hb5))
    all_goals
      have h6 := blk_cell (set6T k5 (.string vo) (.int .i64 ex) (.string ve) (.int .i64 x1) (.int .i64 x2) (.string x3))
      have HB6 := hidden (below6T (HB1.out.trans (hC5.1.mono (by omega))) (show w.heap.size ≤ w.heap.size + 1 + 1 + 1 by omega) (.string vo) (.int .i64 ex) (.string ve) (.int .i64 x1) (.int .i64 x2) (.string x3))
      go_wp2
      exact bodyPost_ret (v := .tuple #[.agg #[.string vo, .int .i64 ex, .string ve, .int .i64 x1, .int .i64 x2, .string x3], .string x4, .int .i64 (K + 1)]) (by simp [results, Try.results16, go_sem, h6]) rfl ⟨HE.out, HB6.out⟩
end Go.Proofs.Ytkopmhmbldohdaa

/- The fixed configuration of the statements, and what is plain of it; no conditions. -/
namespace Go.Proofs.Ytkopmhmbldohdaa
open Go.ChangeShapes Go.WideShapes Go.ChangeAt Go.RowKit
set_option linter.unusedVariables false

theorem Tab.four (w : World) (t : TypeId) (g : Nat) (hg : g = w.heap.size) : Tab (w.alloc (.cells #[.int .i64 0, .int .i64 1, .int .i64 2, .int .i64 3] t)) (some ⟨g, 0, none⟩) [0, 1, 2, 3] := by
  subst hg
  intro i hi
  refine ⟨_, rfl, ?_⟩
  have hi' : i = 0 ∨ i = 1 ∨ i = 2 ∨ i = 3 := by simp at hi; omega
  rcases hi' with rfl | rfl | rfl | rfl <;> exact World.cell?_alloc_mark w _ t _ _
theorem Tab.none (w : World) : Tab w none [] := fun i hi => absurd hi (Nat.not_lt_zero _)
theorem plainE_small : plainE 4 1 1 20 64 1 64 190 10 3 [0, 1, 2, 3] = 0 := by decide
theorem plainE_zero : plainE 0 0 0 0 0 0 0 0 0 0 [] = 7 := by decide
/-- The same call, where the answer is spelt otherwise. -/
theorem Calls.ret_to {P : Program} {F : FuncId} {args : Array Value} {w : World} {v u : Value} (h : Calls P F args w fun e w' => e = .returned v ∧ Below w.heap.size w w') (e : v = u) : Calls P F args w fun e w' => e = .returned u ∧ Below w.heap.size w w' := by
  rw [← e]; exact h
theorem val_i {a b : Int} (h : a = b) : Value.int .i64 a = .int .i64 b := by rw [h]
end Go.Proofs.Ytkopmhmbldohdaa

/- The fixed calls of the statements on package gate come out as they must, and make at most new memory; no conditions. -/
namespace Go.Proofs.Ytkopmhmbldohdaa
open Go.ChangeShapes Go.WideShapes Go.ChangeAt Go.RowKit
set_option linter.unusedVariables false
attribute [local go_sem ↓] ldM_eq eqIn_pk stM_eq

def memK (mc mr mn : Int) (ml : ByteArray) : Array Value := #[.int .i64 mc, .int .i64 0, .int .i64 0, .string ⟨#[]⟩, .int .i64 0, .string ⟨#[]⟩, .string ⟨#[]⟩, .int .i64 mn, .int .i64 mr, .string ⟨#[]⟩, .string ⟨#[]⟩, .string ⟨#[]⟩, .string ⟨#[]⟩, .string ⟨#[]⟩, .string ml, .slice none 0 0, .slice none 0 0, .slice none 0 0, .int .i64 0, .int .i64 0, .int .i64 0, .int .i64 0, .int .i64 0, .int .i64 0]
theorem memK_w (mc mr mn : Int) (ml : ByteArray) : MemW (memK mc mr mn ml) mc 0 mn mr ⟨#[]⟩ ⟨#[]⟩ ⟨#[]⟩ ml := ⟨rfl, rfl, rfl, rfl, rfl, rfl, rfl, rfl, rfl⟩
theorem small23_any (w : World) :
    Calls Try.prog 31 #[] w fun e w' => ∃ g, e = .returned (.agg #[.int .i64 4, .int .i64 1, .int .i64 1, .int .i64 20, .int .i64 64, .int .i64 1, .int .i64 64, .int .i64 190, .int .i64 10, .int .i64 3, .slice (some ⟨g, 0, none⟩) 4 4]) ∧ Tab w' (some ⟨g, 0, none⟩) [0, 1, 2, 3] ∧ Below w.heap.size w w' := by
  go_enter Try.func31, Try.ntmps31
  go_wp2
  refine bodyPost_ret (v := .agg #[.int .i64 4, .int .i64 1, .int .i64 1, .int .i64 20, .int .i64 64, .int .i64 1, .int .i64 64, .int .i64 190, .int .i64 10, .int .i64 3, .slice (some ⟨w.heap.size + 1, 0, none⟩) 4 4]) (by simp [results, Try.results31, go_sem]) rfl ⟨_, rfl, Tab.four _ _ _ (by simp), Joins.below_alloc2 _ _ _⟩
theorem open_a : (0 : Int) = openF (plainE 4 1 1 20 64 1 64 190 10 3 [0, 1, 2, 3]) 64 190 64 1 [0, 1, 2, 3] 2 ((159 - 0) % 65536) ⟨#[]⟩ 0 := by rw [plainE_small]; decide
theorem open_b : openF (plainE 4 1 1 20 64 1 64 190 10 3 [0, 1, 2, 3]) 64 190 64 1 [0, 1, 2, 3] 1 ((159 - 0) % 65536) ⟨#[]⟩ 0 = -1 := openF_no (by decide)
theorem send_a : (.tuple #[.agg #[.string ⟨#[48, 48, 48, 48, 48, 48]⟩, .int .i64 0, .string ⟨#[]⟩, .int .i64 (carS 0), .int .i64 (carC 0 7), .string (carT 0 ⟨#[97]⟩)], .string (sndM 0 ⟨#[]⟩ 4), .int .i64 (0 + 1)] : Value) = .tuple #[.agg #[.string ⟨#[48, 48, 48, 48, 48, 48]⟩, .int .i64 0, .string ⟨#[]⟩, .int .i64 1, .int .i64 7, .string ⟨#[97]⟩], .string ⟨#[49, 48, 48, 48]⟩, .int .i64 1] := by
  have h1 : sndM 0 ⟨#[]⟩ 4 = ⟨#[49, 48, 48, 48]⟩ := by rfl
  rw [h1]; rfl
theorem mark_a : (.string (markB ⟨#[120, 49]⟩ 4 [3, 9]) : Value) = .string ⟨#[48, 49, 48, 49]⟩ := by
  have h1 : markB ⟨#[120, 49]⟩ 4 [3, 9] = ⟨#[48, 49, 48, 49]⟩ := by rfl
  rw [h1]
set_option maxRecDepth 100000 in
set_option maxHeartbeats 4000000 in
theorem known23_any (w : World) :
    Calls Try.prog 9 #[] w fun e w' => e = .returned (.bool true) ∧ Below w.heap.size w w' := by
  go_enter Try.func9, Try.ntmps9
  go_wp2_with fail
  refine (small23_any _).mono ?_
  rintro e w1 ⟨g, rfl, hT, hb⟩
  have HB1 := hidden hb
  obtain ⟨M, hM⟩ : ∃ M, M = memK 159 2 7 ⟨#[97]⟩ := ⟨_, rfl⟩
  have hW : MemW M 159 0 7 2 ⟨#[]⟩ ⟨#[]⟩ ⟨#[]⟩ ⟨#[97]⟩ := by rw [hM]; exact memK_w _ _ _ _
  have HW := hidden hW
  have hst : (stM (.pointer (some ⟨w1.heap.size + 1, 0, none⟩)) (.agg #[.int .i64 159, .int .i64 0, .int .i64 0, .string ⟨#[]⟩, .int .i64 0, .string ⟨#[]⟩, .string ⟨#[]⟩, .int .i64 7, .int .i64 2, .string ⟨#[]⟩, .string ⟨#[]⟩, .string ⟨#[]⟩, .string ⟨#[]⟩, .string ⟨#[]⟩, .string ⟨#[97]⟩, .slice none 0 0, .slice none 0 0, .slice none 0 0, .int .i64 0, .int .i64 0, .int .i64 0, .int .i64 0, .int .i64 0, .int .i64 0])).run Try.prog ((w1.alloc (.cells #[.int .i64 4, .int .i64 1, .int .i64 1, .int .i64 20, .int .i64 64, .int .i64 1, .int .i64 64, .int .i64 190, .int .i64 10, .int .i64 3, .slice (some ⟨g, 0, none⟩) 4 4] 24)).alloc (.cells #[.int .i64 0, .int .i64 0, .int .i64 0, .string ⟨#[]⟩, .int .i64 0, .string ⟨#[]⟩, .string ⟨#[]⟩, .int .i64 0, .int .i64 0, .string ⟨#[]⟩, .string ⟨#[]⟩, .string ⟨#[]⟩, .string ⟨#[]⟩, .string ⟨#[]⟩, .string ⟨#[]⟩, .slice none 0 0, .slice none 0 0, .slice none 0 0, .int .i64 0, .int .i64 0, .int .i64 0, .int .i64 0, .int .i64 0, .int .i64 0] 30)) = .ok () ((w1.alloc (.cells #[.int .i64 4, .int .i64 1, .int .i64 1, .int .i64 20, .int .i64 64, .int .i64 1, .int .i64 64, .int .i64 190, .int .i64 10, .int .i64 3, .slice (some ⟨g, 0, none⟩) 4 4] 24)).alloc (.cells M 30)) := by
    rw [hM]; exact stM_at _ _ _ (by simp) rfl rfl (by kernel_rfl)
  obtain ⟨k0, k1⟩ := blk2 w1 #[.int .i64 4, .int .i64 1, .int .i64 1, .int .i64 20, .int .i64 64, .int .i64 1, .int .i64 64, .int .i64 190, .int .i64 10, .int .i64 3, .slice (some ⟨g, 0, none⟩) 4 4] 24 M 30
  have HK0 := hidden k0
  have HK1 := hidden k1
  have hld := ldM_run hW.size k1
  have HB2 := hidden (bthen (ballc w1 (.cells #[.int .i64 4, .int .i64 1, .int .i64 1, .int .i64 20, .int .i64 64, .int .i64 1, .int .i64 64, .int .i64 190, .int .i64 10, .int .i64 3, .slice (some ⟨g, 0, none⟩) 4 4] 24)) (ballc _ (.cells M 30)))
  have HT := hidden (hT.below HB2.out)
  clear hT hb hM hW k0 k1
  go_wp2_with fail
  refine (Calls.ret_to (Send_any 4 1 1 20 64 1 64 190 10 3 (some ⟨g, 0, none⟩) 4 [0, 1, 2, 3] M 159 0 7 2 ⟨#[]⟩ ⟨#[]⟩ ⟨#[]⟩ ⟨#[97]⟩ HW.out 0 ⟨#[48, 48, 48, 48, 48, 48]⟩ 0 ⟨#[]⟩ 0 0 ⟨#[]⟩ 0 _ (by decide) HT.out (by decide) open_a) send_a).mono ?_
  rintro e w2 ⟨rfl, hb2⟩
  have HB3 := hidden (bthen hb2 (ballc w2 (.cells #[.string ⟨#[48, 48, 48, 48, 48, 48]⟩, .int .i64 0, .string ⟨#[]⟩, .int .i64 1, .int .i64 7, .string ⟨#[97]⟩] 38)))
  have k0 := blk_later HK0.out HB3.out
  have k1 := blk_later HK1.out HB3.out
  have k2 := blk_nw w2 #[.string ⟨#[48, 48, 48, 48, 48, 48]⟩, .int .i64 0, .string ⟨#[]⟩, .int .i64 1, .int .i64 7, .string ⟨#[97]⟩] 38
  have b0 := blk_cell k0
  have l0 := blk_lt k0
  have HT3 := hidden (HT.out.below HB3.out)
  have HK0' := hidden k0
  have HK1' := hidden k1
  have HK2' := hidden k2
  clear hst hld hb2 HT HK0 HK1
  have hld := ldM_run HW.out.size k1
  clear k0 k1 k2
  go_wp2_with fail
  refine (Calls.ret_to (Open_any 4 1 1 20 64 1 64 190 10 3 (some ⟨g, 0, none⟩) 4 [0, 1, 2, 3] M 159 0 7 2 ⟨#[]⟩ ⟨#[]⟩ ⟨#[]⟩ ⟨#[97]⟩ HW.out 0 _ (by decide) HT3.out (by decide)) (val_i open_a.symm)).mono ?_
  rintro e w3 ⟨rfl, hb3⟩
  have HB4 := hidden (bthen HB3.out hb3)
  have HT4 := hidden (HT3.out.below hb3)
  have k0 := blk_later HK0'.out hb3
  have k2 := blk_later HK2'.out hb3
  clear hb3 HT3 HK0' HK1' HK2' hld b0 l0
  have b0 := blk_cell k0
  have l0 := blk_lt k0
  have HK2 := hidden k2
  clear k0 k2
  go_wp2_with fail
  refine (Calls.ret_to (Open_any 4 1 1 20 64 1 64 190 10 3 (some ⟨g, 0, none⟩) 4 [0, 1, 2, 3] (memK 159 1 0 ⟨#[]⟩) 159 0 0 1 ⟨#[]⟩ ⟨#[]⟩ ⟨#[]⟩ ⟨#[]⟩ (memK_w _ _ _ _) 0 _ (by decide) HT4.out (by decide)) (val_i open_b)).mono ?_
  rintro e w4 ⟨rfl, hb4⟩
  have HB5 := hidden (bthen HB4.out hb4)
  have k2 := blk_later HK2.out hb4
  clear hb4 HT4 HK2 b0 l0
  have b2 := blk_cell k2
  have l2 := blk_lt k2
  have hq := pkQ_same ⟨#[48, 48, 48, 48, 48, 48]⟩ 0 ⟨#[]⟩ 1 7 ⟨#[97]⟩
  clear k2
  go_wp2_with fail
  refine (Calls.ret_to (Mark_any ⟨#[120, 49]⟩ 4 (some ⟨w4.heap.size, 0, none⟩) 2 [3, 9] _ (by decide) (by decide) (Kind.Lies.of_block (K := kInt) (t := 3) (g := w4.heap.size) (es := [3, 9]) (heap_alloc_new w4 _) (by decide))) mark_a).mono ?_
  rintro e w5 ⟨rfl, hb5⟩
  have HB6 := hidden (bthen HB5.out (bthen (ballc w4 _) hb5))
  clear hb5
  go_wp2
  go_ret
  exact ⟨rfl, bthen HB1.out (bthen HB2.out HB6.out)⟩
end Go.Proofs.Ytkopmhmbldohdaa
