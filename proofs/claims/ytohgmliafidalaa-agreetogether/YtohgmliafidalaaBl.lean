/- Several texts of one's own in one: what each proves, and its conditions, is said ahead of it. -/
import Derived.Test.YtohgmliafidalaaBi
import Derived.Test.YtohgmliafidalaaBh
import Derived.Test.YtohgmliafidalaaBj
import Derived.Test.YtohgmliafidalaaBe
import Derived.Test.YtohgmliafidalaaBf
import Derived.Test.YtohgmliafidalaaBc
import Derived.Test.YtohgmliafidalaaBd

/- A cluster of layer 19 that came in as an argument, opened: a configuration, rows of numbers, texts and packets, where they lie, and that they fit int; no conditions. -/
namespace Go.Proofs.Ytohgmliafidalaa
open Go.ChangeShapes Go.WideShapes Go.ChangeAt Go.RowKit
set_option linter.unusedVariables false

section
variable {H : Type} {enc : TypeId × Value → H} {w : World} {base : Nat} {spare : Nat → Bool} {held : Bool}
set_option maxRecDepth 100000 in
theorem open_clo {r : Reach} {b0 : Nat} {v : Value} {dt : DataW H} {ps : List MemPlace} (hv : Value.okWide Try.prog w r b0 48 v) (h : DataW.Trod enc Try.prog w base spare held 48 v dt ps) :
    ∃ (n f d p r dr o sl md fr : Int) (ad : Option Addr) (cap : Nat) (zs : List Int) (a1 : Option Addr) (c1 : Nat) (nums : List Int) (a2 : Option Addr) (c2 : Nat) (seen : List ByteArray) (a3 : Option Addr) (c3 : Nat) (faulty : List Int) (a4 : Option Addr) (c4 : Nat) (lies : List Pkt),
      v = .agg #[.int .i64 n, .int .i64 f, .int .i64 d, .int .i64 p, .int .i64 r, .int .i64 dr, .int .i64 o, .int .i64 sl, .int .i64 md, .int .i64 fr, .slice ad zs.length cap, .slice a1 nums.length c1, .slice a2 seen.length c2, .slice a3 faulty.length c3, .slice a4 lies.length c4] ∧ zs.length ≤ 9223372036854775807 ∧ Tab w ad zs ∧
      (nums.length ≤ 9223372036854775807 ∧ kInt.Lies w.heap.size w (.slice a1 nums.length c1) nums ∧ ∀ z ∈ nums, -9223372036854775808 ≤ z ∧ z ≤ 9223372036854775807) ∧
      (seen.length ≤ 9223372036854775807 ∧ kStr.Lies w.heap.size w (.slice a2 seen.length c2) seen ∧ ∀ t ∈ seen, t.size ≤ 9223372036854775807) ∧
      (faulty.length ≤ 9223372036854775807 ∧ kInt.Lies w.heap.size w (.slice a3 faulty.length c3) faulty ∧ ∀ z ∈ faulty, -9223372036854775808 ≤ z ∧ z ≤ 9223372036854775807) ∧
      (lies.length ≤ 9223372036854775807 ∧ kPkt.Lies w.heap.size w (.slice a4 lies.length c4) lies ∧ ∀ q ∈ lies, q.ve.size ≤ 9223372036854775807) := by
  have hs := Try.underlying48
  obtain ⟨cs, rfl, hsz⟩ := okWide_struct hs hv
  obtain ⟨c0, c1, c2, c3, c4, c5, c6, c7, c8, c9, c10, c11, c12, c13, c14, rfl⟩ := array15 (hsz.trans (by kernel_rfl))
  obtain ⟨fuel, hf⟩ := h
  obtain ⟨xs, m, _, _, _, hxl, hfs⟩ := DataW.trod_struct hs hf
  have k24 : Try.prog.cellsOf 24 = 11 := by kernel_rfl
  have k22 : Try.prog.cellsOf 22 = 1 := by kernel_rfl
  have k30 : Try.prog.cellsOf 25 = 1 := by kernel_rfl
  have kp : Try.prog.cellsOf 42 = 1 := by kernel_rfl
  obtain ⟨y0, q0⟩ := some_of_lt hxl (by decide : 0 < 5) (hfs 0 _ rfl)
  have z0 : DataW.trod enc Try.prog w base spare held m 24 [c0, c1, c2, c3, c4, c5, c6, c7, c8, c9, c10] = some y0 := by simpa [Value.cells, k24] using q0
  obtain ⟨n, f, d, p, r, dr, o, sl, md, fr, ad, cap, zs, he, hl, hT⟩ := conf_cells z0
  obtain ⟨y1, q1⟩ := some_of_lt hxl (by decide : 1 < 5) (hfs 1 _ rfl)
  have z1 : DataW.trod enc Try.prog w base spare held m 22 [c11] = some y1 := by simpa [Value.cells, k24, k22] using q1
  obtain ⟨a1, d1, nums, rfl, hp⟩ := rows_intz z1
  obtain ⟨y2, q2⟩ := some_of_lt hxl (by decide : 2 < 5) (hfs 2 _ rfl)
  have z2 : DataW.trod enc Try.prog w base spare held m 25 [c12] = some y2 := by simpa [Value.cells, k24, k30, k22] using q2
  obtain ⟨a2, d2, seen, rfl, hsn⟩ := rows_strz z2
  obtain ⟨y3, q3⟩ := some_of_lt hxl (by decide : 3 < 5) (hfs 3 _ rfl)
  have z3 : DataW.trod enc Try.prog w base spare held m 22 [c13] = some y3 := by simpa [Value.cells, k24, k30, k22] using q3
  obtain ⟨a3, d3, faulty, rfl, hfa⟩ := rows_intz z3
  obtain ⟨y4, q4⟩ := some_of_lt hxl (by decide : 4 < 5) (hfs 4 _ rfl)
  have z4 : DataW.trod enc Try.prog w base spare held m 42 [c14] = some y4 := by simpa [Value.cells, k24, k30, k22, kp] using q4
  obtain ⟨a4, d4, lies, rfl, hli⟩ := rows_pks z4
  simp only [List.cons.injEq, and_true] at he
  obtain ⟨rfl, rfl, rfl, rfl, rfl, rfl, rfl, rfl, rfl, rfl, rfl⟩ := he
  exact ⟨n, f, d, p, r, dr, o, sl, md, fr, ad, cap, zs, a1, d1, nums, a2, d2, seen, a3, d3, faulty, a4, d4, lies, rfl, hl, hT, hp, hsn, hfa, hli⟩
end
end Go.Proofs.Ytohgmliafidalaa

/- Plain mathematics: with few faulty nodes all others have the same bits behind a whole instance, whatever texts faulty ones tell (any function), and keep bits that they share; no conditions but those in the theorems. -/
namespace Go.Proofs.Ytohgmliafidalaa
open Go.ChangeShapes Go.WideShapes Go.ChangeAt Go.RowKit
set_option linter.unusedVariables false

def sayW (fa : Nat → Bool) (lie : Nat → Nat → Nat → ByteArray) (N wd x t : Nat) (now : List ByteArray) (a : Nat) : ByteArray := if fa a = true then lie x a t else dgB wd (valG (now.getD a noB))
def votesW (fa : Nat → Bool) (lie : Nat → Nat → Nat → ByteArray) (N wd x t : Nat) (now : List ByteArray) : List ByteArray := (List.range N).map (sayW fa lie N wd x t now)
def nextW (fa : Nat → Bool) (lie : Nat → Nat → Nat → ByteArray) (N wd : Nat) (f : Int) (x : Nat) (now : List ByteArray) (t : Nat) : ByteArray := dgB wd (stpG 0 N f x (now.getD t noB) ((votesW fa lie N wd x t now).getD (x / 3) noB) (votesW fa lie N wd x t now))
def nowW (fa : Nat → Bool) (lie : Nat → Nat → Nat → ByteArray) (N wd : Nat) (f : Int) (bits : List ByteArray) : Nat → List ByteArray
  | 0 => (List.range N).map fun i => dgB wd (ofG (bits.getD i noB))
  | x + 1 => (List.range N).map (nextW fa lie N wd f x (nowW fa lie N wd f bits x))
theorem nowW_len (fa : Nat → Bool) (lie : Nat → Nat → Nat → ByteArray) (N wd : Nat) (f : Int) (bits : List ByteArray) (x : Nat) : (nowW fa lie N wd f bits x).length = N := by cases x <;> simp [nowW]
theorem votesW_len (fa : Nat → Bool) (lie : Nat → Nat → Nat → ByteArray) (N wd x t : Nat) (now : List ByteArray) : (votesW fa lie N wd x t now).length = N := by simp [votesW]
theorem votesW_at (fa : Nat → Bool) (lie : Nat → Nat → Nat → ByteArray) (N wd x t : Nat) (now : List ByteArray) (a : Nat) (ha : a < N) : (votesW fa lie N wd x t now).getD a noB = sayW fa lie N wd x t now a := range_getD _ _ _ _ ha
theorem nowW_at (fa : Nat → Bool) (lie : Nat → Nat → Nat → ByteArray) (N wd : Nat) (f : Int) (bits : List ByteArray) (x i : Nat) (hi : i < N) : (nowW fa lie N wd f bits (x + 1)).getD i noB = nextW fa lie N wd f x (nowW fa lie N wd f bits x) i := range_getD _ _ _ _ hi
theorem nowW_size (fa : Nat → Bool) (lie : Nat → Nat → Nat → ByteArray) (N wd : Nat) (f : Int) (bits : List ByteArray) (x i : Nat) (hi : i < N) : ((nowW fa lie N wd f bits x).getD i noB).size = wd := by
  cases x with
  | zero =>
    have : (nowW fa lie N wd f bits 0).getD i noB = dgB wd (ofG (bits.getD i noB)) := range_getD _ _ _ _ hi
    rw [this, dgB_size]
  | succ x => rw [nowW_at _ _ _ _ _ _ _ _ hi]; exact dgB_size _ _
theorem bit_nextW (fa : Nat → Bool) (lie : Nat → Nat → Nat → ByteArray) (N wd : Nat) (f : Int) (x : Nat) (now : List ByteArray) (t p : Nat) (hp : p < wd) : bitK (nextW fa lie N wd f x now t) p = stpB 0 N f x (now.getD t noB) ((votesW fa lie N wd x t now).getD (x / 3) noB) (votesW fa lie N wd x t now) p := by
  have hb := stpG_bd 0 N f x (now.getD t noB) ((votesW fa lie N wd x t now).getD (x / 3) noB) (votesW fa lie N wd x t now) p
  unfold bitK nextW
  rw [vdg_dgB hp (by omega) (by omega), stpG_int]
  exact readK_codeF (step_bd _ _ _ _ _ _)
section
variable {fa : Nat → Bool} {lie : Nat → Nat → Nat → ByteArray} {N wd F : Nat} {bits : List ByteArray}
theorem say_bitW (x t : Nat) (now : List ByteArray) (p : Nat) (hp : p < wd) (a : Nat) (ha : a < N) : vdg 2 (sayW fa lie N wd x t now a) p = sayG fa (fun x a t => vdg 2 (lie x a t) p) x t (bitsP N now p) a := by
  unfold sayW sayG
  by_cases h : fa a = true
  · rw [if_pos h, if_pos h]
  · rw [if_neg h, if_neg h]
    have hv := valG_bd (now.getD a noB) p
    have e : (bitsP N now p).getD a (0, false) = bitK (now.getD a noB) p := range_getD _ _ _ _ ha
    rw [vdg_dgB hp (by omega) (by omega), valG_int, e]
    exact (valF_same (readK_bd _)).symm
theorem votes_bitW (x t : Nat) (now : List ByteArray) (p : Nat) (hp : p < wd) : (votesW fa lie N wd x t now).map (fun s => vdg 2 s p) = votesG fa (fun x a t => vdg 2 (lie x a t) p) N x t (bitsP N now p) := by
  unfold votesW votesG
  rw [List.map_map]
  apply List.map_congr_left
  intro a ha
  exact say_bitW x t now p hp a (List.mem_range.1 ha)
theorem bits_stepW (x : Nat) (hx : x / 3 < N) (now : List ByteArray) (p : Nat) (hp : p < wd) : bitsP N ((List.range N).map (nextW fa lie N wd F x now)) p = exchG fa (fun x a t => vdg 2 (lie x a t) p) N F x (bitsP N now p) := by
  unfold exchG
  conv => lhs; unfold bitsP
  apply List.map_congr_left
  intro t ht
  have ht := List.mem_range.1 ht
  have e : ((List.range N).map (nextW fa lie N wd F x now)).getD t noB = nextW fa lie N wd F x now t := range_getD _ _ _ _ ht
  rw [e, bit_nextW _ _ _ _ _ _ _ _ _ hp]
  unfold stpB stepG
  have e1 : (bitsP N now p).getD t (0, false) = bitK (now.getD t noB) p := range_getD _ _ _ _ ht
  have e2 : (votesG fa (fun x a t => vdg 2 (lie x a t) p) N x t (bitsP N now p)).getD (x / 3) 0 = vdg 2 ((votesW fa lie N wd x t now).getD (x / 3) noB) p := by
    rw [votesW_at _ _ _ _ _ _ _ _ hx, say_bitW x t now p hp _ hx]
    exact range_getD _ _ _ _ hx
  rw [votes_bitW x t now p hp, e1, e2]
theorem bits_playW (hN : F < N) (p : Nat) (hp : p < wd) : ∀ x, x ≤ 3 * (F + 1) → bitsP N (nowW fa lie N wd F bits x) p = playG fa (fun x a t => vdg 2 (lie x a t) p) N F (bitsP N (nowW fa lie N wd F bits 0) p) x
  | 0, _ => rfl
  | x + 1, h => by
    have ih := bits_playW hN p hp x (by omega)
    show bitsP N ((List.range N).map (nextW fa lie N wd F x (nowW fa lie N wd F bits x))) p = _
    rw [bits_stepW x (by omega) _ p hp, ih]
    rfl
theorem start_bitW (i p : Nat) (hi : i < N) (hp : p < wd) : vlF (bitsP N (nowW fa lie N wd F bits 0) p) i = if vdg 1 (bits.getD i noB) p = 1 then 1 else 0 := by
  unfold vlF
  have e : (bitsP N (nowW fa lie N wd F bits 0) p).getD i (0, false) = bitK ((nowW fa lie N wd F bits 0).getD i noB) p := range_getD _ _ _ _ hi
  have e2 : (nowW fa lie N wd F bits 0).getD i noB = dgB wd (ofG (bits.getD i noB)) := range_getD _ _ _ _ hi
  have hb := ofG_bd (bits.getD i noB) p
  rw [e, e2]
  unfold bitK
  rw [vdg_dgB hp (by omega) (by omega), ofG_int]
  unfold startF
  by_cases h : vdg 1 (bits.getD i noB) p = 1
  · rw [if_pos h, if_pos h]; rfl
  · rw [if_neg h, if_neg h]; rfl
/-- At one place: the common bit in the end. -/
theorem place_endW (hF : facL fa N ≤ F) (hN : 3 * F < N) (p : Nat) (hp : p < wd) : ∃ u : Nat, u ≤ 1 ∧ (∀ i, i < N → fa i = false → stpG 0 N F ((3 * F + 2 : Nat) : Int) ((nowW fa lie N wd F bits (3 * F + 2)).getD i noB) ((votesW fa lie N wd (3 * F + 2) i (nowW fa lie N wd F bits (3 * F + 2))).getD ((3 * F + 2) / 3) noB) (votesW fa lie N wd (3 * F + 2) i (nowW fa lie N wd F bits (3 * F + 2))) p = u)
    ∧ ∀ v : Nat, v ≤ 1 → (∀ i, i < N → fa i = false → (if vdg 1 (bits.getD i noB) p = 1 then 1 else 0) = v) → u = v := by
  obtain ⟨ui, hu, hcom⟩ := agree_allG (lie := fun x a t => vdg 2 (lie x a t) p) (bs0 := bitsP N (nowW fa lie N wd F bits 0) p) hF hN
  obtain ⟨m, hm, hfm⟩ := one_honestG hF hN
  refine ⟨ui.toNat, by omega, fun i hi hf => ?_, fun v hv h => ?_⟩
  · have hc := hcom i hi hf
    rw [show 3 * (F + 1) = (3 * F + 2) + 1 by omega] at hc
    have hpl := bits_playW (fa := fa) (lie := lie) (bits := bits) (wd := wd) (by omega : F < N) p hp (3 * F + 2 + 1) (by omega)
    rw [← hpl] at hc
    unfold vlF at hc
    have e : (bitsP N (nowW fa lie N wd F bits (3 * F + 2 + 1)) p).getD i (0, false) = bitK ((nowW fa lie N wd F bits (3 * F + 2 + 1)).getD i noB) p := range_getD _ _ _ _ hi
    rw [e, nowW_at _ _ _ _ _ _ _ _ hi, bit_nextW _ _ _ _ _ _ _ _ _ hp] at hc
    have hob : (stpB 0 N F ((3 * F + 2 : Nat) : Int) ((nowW fa lie N wd F bits (3 * F + 2)).getD i noB) ((votesW fa lie N wd (3 * F + 2) i (nowW fa lie N wd F bits (3 * F + 2))).getD ((3 * F + 2) / 3) noB) (votesW fa lie N wd (3 * F + 2) i (nowW fa lie N wd F bits (3 * F + 2))) p).2 = false := by
      unfold stpB
      rw [stepF_2 (by rw [modF3_nat]; omega)]
      exact (obey_bd _ _).2.2
    unfold stpG codeF
    rw [if_neg (by rw [hob]; decide), hc]
  · have hk := keep_endG (lie := fun x a t => vdg 2 (lie x a t) p) (bs0 := bitsP N (nowW fa lie N wd F bits 0) p) (v := (v : Int)) (by omega) hF hN (fun i hi hf => by
      rw [start_bitW i p hi hp]
      have := h i hi hf
      by_cases q : vdg 1 (bits.getD i noB) p = 1
      · rw [if_pos q] at this ⊢; omega
      · rw [if_neg q] at this ⊢; omega)
    have h1 := hcom m (by omega) hfm
    have h2 := hk m (by omega) hfm
    omega
/-- All nodes that are not faulty end with one text; a bit that all of them began with stays. -/
theorem vec_endW (hF : facL fa N ≤ F) (hN : 3 * F < N) : ∃ u : Nat → Nat, (∀ p, u p ≤ 1) ∧ (∀ i, i < N → fa i = false → (nowW fa lie N wd F bits (3 * (F + 1))).getD i noB = dgB wd u) ∧ ∀ p, p < wd → ∀ v : Nat, v ≤ 1 → (∀ i, i < N → fa i = false → (if vdg 1 (bits.getD i noB) p = 1 then 1 else 0) = v) → u p = v := by
  refine ⟨fun p => if h : p < wd then Classical.choose (place_endW (lie := lie) (bits := bits) hF hN p h) else 0, fun p => ?_, fun i hi hf => ?_, fun p hp => ?_⟩
  · simp only
    split
    · next h => exact (Classical.choose_spec (place_endW (lie := lie) (bits := bits) hF hN p h)).1
    · omega
  · rw [show 3 * (F + 1) = (3 * F + 2) + 1 by omega, nowW_at _ _ _ _ _ _ _ _ hi]
    refine dgB_congr fun p hp => ?_
    rw [dif_pos hp]
    exact (Classical.choose_spec (place_endW (lie := lie) (bits := bits) hF hN p hp)).2.1 i hi hf
  · simp only
    rw [dif_pos hp]
    exact (Classical.choose_spec (place_endW (lie := lie) (bits := bits) hF hN p hp)).2.2
end
end Go.Proofs.Ytohgmliafidalaa

/- Plain mathematics: nodes that begin a cycle together, tick by tick; with few faulty ones all others end with the same bits; no conditions but those in the theorems. -/
namespace Go.Proofs.Ytohgmliafidalaa
open Go.ChangeShapes Go.WideShapes Go.ChangeAt Go.RowKit
set_option linter.unusedVariables false

def zA : StA := ⟨0, noB, noB⟩
/-- What a node tells; what it hears of another one. -/
def tellP (R : Nat) (d : Int) (s : StA) : Pkt := ⟨noB, telX R d s.age s.codes, telV R d s.age s.codes, 0, 0, noB⟩
def liP (lies : List Pkt) (N tt k i : Nat) : Pkt := if lies.length = 0 then noP else lies.getD (((tt * N + k) * N + i) % lies.length) noP
def voP (fa : Nat → Bool) (lies : List Pkt) (N D : Nat) (told : List (List Pkt)) (t i k : Nat) : Pkt := if t < D then noP else if fa k = true then liP lies N (t - D) k i else (told.getD (t - D) []).getD k noP
structure RunA where
  now : List StA
  told : List (List Pkt)
def begN (N : Nat) (nums : List Int) (seen : List ByteArray) (i : Nat) : StA := ⟨0, begA 0 N (nums.getD i 0) (seen.getD i noB), noB⟩
def nxA (R L : Nat) (f d : Int) (fa : Nat → Bool) (lies : List Pkt) (N D : Nat) (q : RunA) (t i : Nat) : StA := stpA 0 R L N f d (q.now.getD i zA).age (q.now.getD i zA).codes (q.now.getD i zA).got ((List.range N).map (voP fa lies N D q.told t i))
def runA (R L : Nat) (f d : Int) (fa : Nat → Bool) (lies : List Pkt) (N D : Nat) (nums : List Int) (seen : List ByteArray) : Nat → RunA
  | 0 => ⟨(List.range N).map (begN N nums seen), [((List.range N).map (begN N nums seen)).map (tellP R d)]⟩
  | t + 1 => ⟨(List.range N).map (nxA R L f d fa lies N D (runA R L f d fa lies N D nums seen t) (t + 1)), (runA R L f d fa lies N D nums seen t).told ++ [((List.range N).map (nxA R L f d fa lies N D (runA R L f d fa lies N D nums seen t) (t + 1))).map (tellP R d)]⟩
section
variable {R L : Nat} {f d : Int} {fa : Nat → Bool} {lies : List Pkt} {N D : Nat} {nums : List Int} {seen : List ByteArray}
theorem runA_told_len (t : Nat) : (runA R L f d fa lies N D nums seen t).told.length = t + 1 := by
  induction t with
  | zero => rfl
  | succ t ih => show (_ ++ [_]).length = _; rw [List.length_append, ih]; rfl
theorem runA_now_len (t : Nat) : (runA R L f d fa lies N D nums seen t).now.length = N := by cases t <;> simp [runA]
theorem getDA_snoc {α : Type} (l : List α) (a z : α) {j : Nat} (h : j < l.length) : (l ++ [a]).getD j z = l.getD j z := by
  rw [List.getD_eq_getElem?_getD, List.getD_eq_getElem?_getD, List.getElem?_append_left h]
theorem getDA_last {α : Type} (l : List α) (a z : α) {j : Nat} (h : j = l.length) : (l ++ [a]).getD j z = a := by
  subst h
  rw [List.getD_eq_getElem?_getD, List.getElem?_append_right (Nat.le_refl _), Nat.sub_self]
  rfl
theorem runA_told_at (t : Nat) : ∀ j, j ≤ t → (runA R L f d fa lies N D nums seen t).told.getD j [] = (runA R L f d fa lies N D nums seen j).now.map (tellP R d) := by
  induction t with
  | zero =>
    intro j hj
    obtain rfl : j = 0 := by omega
    rfl
  | succ t ih =>
    intro j hj
    show ((runA R L f d fa lies N D nums seen t).told ++ [_]).getD j [] = _
    by_cases h : j ≤ t
    · rw [getDA_snoc _ _ _ (by rw [runA_told_len]; omega), ih j h]
    · obtain rfl : j = t + 1 := by omega
      rw [getDA_last _ _ _ (by rw [runA_told_len])]
      rfl
end
theorem tell_atA {R D x : Nat} (hD : 1 ≤ D) (hx : x < R) : tellF R (D : Int) ((x * D : Nat) : Int) = x := by
  refine first_hit hx (decide_eq_true (by simp)) fun j hj => decide_eq_false fun e => ?_
  have : j * D = x * D := by
    have : ((j * D : Nat) : Int) = ((x * D : Nat) : Int) := by simpa using e
    exact Int.ofNat.inj this
  have := Nat.eq_of_mul_eq_mul_right (by omega) this
  omega
theorem hear_atA {R D x : Nat} (hD : 1 ≤ D) (hx : x < R) : hearF R (D : Int) (((x + 1) * D : Nat) : Int) = x := by
  refine first_hit hx (decide_eq_true (by rw [Nat.add_mul]; simp)) fun j hj => decide_eq_false fun e => ?_
  have : (j + 1) * D = (x + 1) * D := by
    have : (((j + 1) * D : Nat) : Int) = (((x + 1) * D : Nat) : Int) := by rw [Nat.add_mul j, Nat.one_mul]; simpa using e
    exact Int.ofNat.inj this
  have := Nat.eq_of_mul_eq_mul_right (by omega) this
  omega
theorem hear_noA {R D a : Nat} (h : ¬ a % D = 0) : hearF R (D : Int) (a : Int) = -1 := by
  refine first_none fun j hj => decide_eq_false (fun e => h ?_)
  have e2 : (j + 1) * D = a := by
    have : (((j + 1) * D : Nat) : Int) = (a : Int) := by rw [Nat.add_mul, Nat.one_mul]; simpa using e
    exact Int.ofNat.inj this
  rw [← e2, Nat.mul_mod_left]
theorem emt_size {s : ByteArray} (h : 0 < s.size) : emt s = false := by
  cases hs : emt s with
  | false => rfl
  | true =>
    exfalso
    rw [emt_eq hs] at h
    exact absurd h (by decide)
/-- What faulty nodes tell of exchange x. -/
def lieA (lies : List Pkt) (N D x k i : Nat) : ByteArray := vecOf x (liP lies N (x * D) k i)
def bitsA (N : Nat) (nums : List Int) (seen : List ByteArray) : List ByteArray := (List.range N).map fun i => begS N (nums.getD i 0) (seen.getD i noB)
def nowX (fa : Nat → Bool) (lies : List Pkt) (N D : Nat) (f : Int) (nums : List Int) (seen : List ByteArray) (x : Nat) : List ByteArray := nowW fa (lieA lies N D) N (8 + N) f (bitsA N nums seen) x
section
variable {R L : Nat} {f : Int} {fa : Nat → Bool} {lies : List Pkt} {N D : Nat} {nums : List Int} {seen : List ByteArray}
theorem nowX_size (x i : Nat) (hi : i < N) : ((nowX fa lies N D f nums seen x).getD i noB).size = 8 + N := nowW_size _ _ _ _ _ _ _ _ hi
/-- An instance that hears an exchange. -/
theorem hear_stepA (hD : 1 ≤ D) (t x : Nat) (hx : x < R) (htx : t + 1 = (x + 1) * D) (i : Nat) (hi : i < N)
    (ih : ∀ k, k < N → (runA R L f (D : Int) fa lies N D nums seen (x * D)).now.getD k zA = ⟨((x * D : Nat) : Int), (nowX fa lies N D f nums seen x).getD k noB, noB⟩) :
    midA R N f (D : Int) ((t + 1 : Nat) : Int) ((nowX fa lies N D f nums seen x).getD i noB) ((List.range N).map (voP fa lies N D (runA R L f (D : Int) fa lies N D nums seen t).told (t + 1) i)) = (nowX fa lies N D f nums seen (x + 1)).getD i noB := by
  have hxt : (x + 1) * D = x * D + D := by rw [Nat.add_mul, Nat.one_mul]
  have he : toldQ (x : Int) ((List.range N).map (voP fa lies N D (runA R L f (D : Int) fa lies N D nums seen t).told (t + 1) i)) = votesW fa (lieA lies N D) N (8 + N) x i (nowX fa lies N D f nums seen x) := by
    unfold toldQ votesW
    rw [List.map_map]
    apply List.map_congr_left
    intro k hk
    have hk := List.mem_range.1 hk
    show vecOf x (voP _ _ _ _ _ _ _ _) = _
    unfold voP sayW
    rw [if_neg (by omega), show t + 1 - D = x * D by omega]
    by_cases hf : fa k = true
    · rw [if_pos hf, if_pos hf]; rfl
    · rw [if_neg hf, if_neg hf, runA_told_at t (x * D) (by omega)]
      have hl : k < ((runA R L f (D : Int) fa lies N D nums seen (x * D)).now).length := by rw [runA_now_len]; exact hk
      have e2 : ((runA R L f (D : Int) fa lies N D nums seen (x * D)).now.map (tellP R (D : Int))).getD k noP = tellP R (D : Int) ((runA R L f (D : Int) fa lies N D nums seen (x * D)).now.getD k zA) := by
        rw [List.getD_eq_getElem?_getD, List.getD_eq_getElem?_getD, List.getElem?_map, List.getElem?_eq_getElem hl]
        rfl
      rw [e2, ih k hk]
      have hs := nowX_size (fa := fa) (lies := lies) (N := N) (D := D) (f := f) (nums := nums) (seen := seen) x k hk
      have ht := tell_atA (R := R) hD hx
      have hb : telB R (D : Int) ((x * D : Nat) : Int) ((nowX fa lies N D f nums seen x).getD k noB) = false := by
        unfold telB
        rw [emt_size (by omega), ht]
        simp
      have hx1 : telX R (D : Int) ((x * D : Nat) : Int) ((nowX fa lies N D f nums seen x).getD k noB) = (x : Int) + 1 := by
        unfold telX
        rw [if_neg (by rw [hb]; decide), ht]
      have hv1 : telV R (D : Int) ((x * D : Nat) : Int) ((nowX fa lies N D f nums seen x).getD k noB) = dgB (8 + N) (valG ((nowX fa lies N D f nums seen x).getD k noB)) := by
        unfold telV
        rw [if_neg (by rw [hb]; decide), hs]
      unfold tellP vecOf
      dsimp only
      rw [hx1, hv1, if_pos rfl]
  unfold midA
  rw [htx, hear_atA hD hx, if_neg (by omega), Int.toNat_natCast]
  unfold herA
  rw [← htx, he, nowX_size x i hi]
  exact (nowW_at _ _ _ _ _ _ _ _ hi).symm
theorem run_stA (hD : 1 ≤ D) (hL : L = R * D) : ∀ t, t < L → ∀ i, i < N → (runA R L f (D : Int) fa lies N D nums seen t).now.getD i zA = ⟨(t : Int), (nowX fa lies N D f nums seen (t / D)).getD i noB, noB⟩ := by
  intro t
  induction t using Nat.strongRecOn with
  | _ t ih =>
    intro htL i hi
    cases t with
    | zero =>
      have e : (runA R L f (D : Int) fa lies N D nums seen 0).now.getD i zA = begN N nums seen i := range_getD _ _ _ _ hi
      rw [e, Nat.zero_div]
      have e2 : (nowX fa lies N D f nums seen 0).getD i noB = dgB (8 + N) (ofG ((bitsA N nums seen).getD i noB)) := range_getD _ _ _ _ hi
      have e3 : (bitsA N nums seen).getD i noB = begS N (nums.getD i 0) (seen.getD i noB) := range_getD _ _ _ _ hi
      rw [e2, e3]
      rfl
    | succ t =>
      have e : (runA R L f (D : Int) fa lies N D nums seen (t + 1)).now.getD i zA = nxA R L f (D : Int) fa lies N D (runA R L f (D : Int) fa lies N D nums seen t) (t + 1) i := range_getD _ _ _ _ hi
      rw [e]
      have hp := ih t (Nat.lt_succ_self t) (by omega) i hi
      unfold nxA
      rw [hp]
      dsimp only
      unfold stpA
      have hs := nowX_size (fa := fa) (lies := lies) (N := N) (D := D) (f := f) (nums := nums) (seen := seen) (t / D) i hi
      have hsat : satF (t : Int) (L : Int) = ((t + 1 : Nat) : Int) := by
        unfold satF
        rw [if_neg (by omega), if_neg (by omega)]
        omega
      rw [if_pos rfl, if_neg (by rw [emt_size (by omega)]; decide), hsat, if_neg (by omega)]
      by_cases c : (t + 1) % D = 0
      · obtain ⟨x, hx⟩ : ∃ x, (t + 1) / D = x + 1 := by
          have : 0 < (t + 1) / D := Nat.div_pos (Nat.le_of_dvd (by omega) (Nat.dvd_of_mod_eq_zero c)) (by omega)
          exact ⟨(t + 1) / D - 1, by omega⟩
        have hax : t + 1 = (x + 1) * D := by
          have := Nat.div_add_mod (t + 1) D
          rw [c, hx, Nat.mul_comm] at this
          omega
        have hxt : (x + 1) * D = x * D + D := by rw [Nat.add_mul, Nat.one_mul]
        have hxR : x < R := by
          have h1 : x * D < R * D := by omega
          exact Nat.lt_of_mul_lt_mul_right h1
        have htd : t / D = x := by
          rw [Nat.div_eq_iff (by omega)]
          constructor <;> omega
        rw [htd, hx]
        have hm := hear_stepA (R := R) (L := L) (fa := fa) (lies := lies) (N := N) (f := f) (nums := nums) (seen := seen) hD t x hxR hax i hi (fun k hk => by
          have := ih (x * D) (by omega) (by omega) k hk
          rwa [Nat.mul_div_cancel _ (by omega)] at this)
        rw [hm]
      · have htd : (t + 1) / D = t / D := by
          have h1 := Nat.div_add_mod (t + 1) D
          have h2 := Nat.mod_lt (t + 1) (show 0 < D by omega)
          symm
          rw [Nat.div_eq_iff (by omega)]
          rw [Nat.mul_comm] at h1
          constructor <;> omega
        unfold midA
        rw [hear_noA c, if_pos rfl, htd]
theorem run_endA (hD : 1 ≤ D) (hL : L = R * D) (hR : 1 ≤ R) (i : Nat) (hi : i < N) : (runA R L f (D : Int) fa lies N D nums seen L).now.getD i zA = ⟨(L : Int), noB, dgB (8 + N) (valG ((nowX fa lies N D f nums seen R).getD i noB))⟩ := by
  obtain ⟨x, hx⟩ : ∃ x, R = x + 1 := ⟨R - 1, by omega⟩
  have hxt : (x + 1) * D = x * D + D := by rw [Nat.add_mul, Nat.one_mul]
  obtain ⟨t, ht⟩ : ∃ t, L = t + 1 := ⟨L - 1, by rw [hL, hx]; omega⟩
  have hax : t + 1 = (x + 1) * D := by rw [← ht, hL, hx]
  have e : (runA R L f (D : Int) fa lies N D nums seen (t + 1)).now.getD i zA = nxA R L f (D : Int) fa lies N D (runA R L f (D : Int) fa lies N D nums seen t) (t + 1) i := range_getD _ _ _ _ hi
  have htd : t / D = x := by
    rw [Nat.div_eq_iff (by omega)]
    constructor <;> omega
  have hp := run_stA (f := f) (fa := fa) (lies := lies) (nums := nums) (seen := seen) hD hL t (by omega) i hi
  rw [htd] at hp
  have hm := hear_stepA (R := R) (L := L) (fa := fa) (lies := lies) (N := N) (f := f) (nums := nums) (seen := seen) hD t x (by omega) hax i hi (fun k hk => by
    have := run_stA (f := f) (fa := fa) (lies := lies) (nums := nums) (seen := seen) hD hL (x * D) (by omega) k hk
    rwa [Nat.mul_div_cancel _ (by omega)] at this)
  have hs := nowX_size (fa := fa) (lies := lies) (N := N) (D := D) (f := f) (nums := nums) (seen := seen) x i hi
  have hsat : satF (t : Int) (L : Int) = (L : Int) := by
    unfold satF
    rw [if_neg (by omega), if_neg (by omega)]
    omega
  have key : nxA R L f (D : Int) fa lies N D (runA R L f (D : Int) fa lies N D nums seen t) (t + 1) i = ⟨(L : Int), noB, dgB (8 + N) (valG ((nowX fa lies N D f nums seen R).getD i noB))⟩ := by
    unfold nxA
    rw [hp]
    dsimp only
    unfold stpA
    rw [if_pos rfl, if_neg (by rw [emt_size (by omega)]; decide), hsat, if_pos rfl]
    rw [show (L : Int) = ((t + 1 : Nat) : Int) by omega, hm, hs, hx]
  rw [← key, ← e, ← ht]
/-- The common bits in the end. -/
theorem togetherA (F : Nat) (hf : f = (F : Int)) (hR : R = 3 * (F + 1)) (hD : 1 ≤ D) (hL : L = R * D) (hfac : facL fa N ≤ F) (hFN : 3 * F < N) :
    ∃ u : Nat → Nat, (∀ p, u p ≤ 1) ∧ (∀ i, i < N → fa i = false → (runA R L f (D : Int) fa lies N D nums seen L).now.getD i zA = ⟨(L : Int), noB, dgB (8 + N) u⟩)
      ∧ ∀ p, p < 8 + N → ∀ v : Nat, v ≤ 1 → (∀ i, i < N → fa i = false → (if vdg 1 (begS N (nums.getD i 0) (seen.getD i noB)) p = 1 then 1 else 0) = v) → u p = v := by
  subst hf
  obtain ⟨u, h1, h2, h3⟩ := vec_endW (fa := fa) (lie := lieA lies N D) (N := N) (wd := 8 + N) (F := F) (bits := bitsA N nums seen) hfac hFN
  refine ⟨u, h1, fun i hi hfi => ?_, fun p hp v hv h => h3 p hp v hv fun i hi hfi => ?_⟩
  · rw [run_endA hD hL (by omega) i hi]
    have e : (nowX fa lies N D F nums seen R).getD i noB = dgB (8 + N) u := by rw [hR]; exact h2 i hi hfi
    rw [e]
    congr 1
    refine dgB_congr fun p hp => ?_
    have hu := h1 p
    unfold valG bitK
    rw [vdg_dgB hp (by omega) (by omega)]
    have h2 : u p = 0 ∨ u p = 1 := by omega
    rcases h2 with e | e <;> rw [e] <;> rfl
  · have e : (bitsA N nums seen).getD i noB = begS N (nums.getD i 0) (seen.getD i noB) := range_getD _ _ _ _ hi
    rw [e]
    exact h i hi hfi
end
/-- The number's bits, and whom a node saw. -/
theorem begS_lo {N : Nat} {num : Int} {seen : ByteArray} {p : Nat} (hp : p < 8) : vdg 1 (begS N num seen) p = (bitG num.toNat p : Int) := by
  have hs : (dgB (widF 8) (bitG num.toNat)).size = 8 := dgB_size _ _
  have hb := bitG_bd num.toNat p
  have h1 : p < (begS N num seen).size := by rw [begS_size]; omega
  have h2 : p < (dgB (widF 8) (bitG num.toNat)).size := by omega
  have e : (begS N num seen)[p]'h1 = (dgB (widF 8) (bitG num.toNat))[p]'h2 := ByteArray.getElem_append_left _
  have e2 := vdg_dgB (last := 1) (n := widF 8) (g := bitG num.toNat) (k := p) hp (by omega) (by omega)
  rw [← e2]
  unfold vdg
  rw [dif_pos h1, dif_pos h2, e]
theorem begS_hi {N : Nat} {num : Int} {seen : ByteArray} {k : Nat} (hk : k < N) : vdg 1 (begS N num seen) (8 + k) = (digG seen 0 k : Int) := by
  have hs : (dgB (widF 8) (bitG num.toNat)).size = 8 := dgB_size _ _
  have hs2 : (digT seen 0 N).size = N := dgB_size _ _
  have hb := digG_bd seen 0 k
  have h1 : 8 + k < (begS N num seen).size := by rw [begS_size]; omega
  have h2 : k < (digT seen 0 N).size := by omega
  have e : (begS N num seen)[8 + k]'h1 = (digT seen 0 N)[k]'h2 := by
    have := ByteArray.getElem_append_right (a := dgB (widF 8) (bitG num.toNat)) (b := digT seen 0 N) (i := 8 + k) (h := h1) (by omega)
    unfold begS
    rw [this]
    congr 1
    omega
  have e2 := vdg_dgB (last := 1) (n := N) (g := digG seen 0) (k := k) hk (by omega) (by omega)
  rw [← e2]
  unfold vdg
  rw [dif_pos h1]
  have h2' : k < (dgB N (digG seen 0)).size := h2
  rw [dif_pos h2', e]
  rfl
end Go.Proofs.Ytohgmliafidalaa

/- The statements' own methods packet and row of a cluster return what plain functions give, and make at most new memory; conditions: rows lie where they say, numbers are small. -/
namespace Go.Proofs.Ytohgmliafidalaa
open Go.ChangeShapes Go.WideShapes Go.ChangeAt Go.RowKit
set_option linter.unusedVariables false
attribute [local go_sem] cell_rg

/-- Rows of instances; rows of rows of packets. -/
def kNow : Kind StA := ⟨3, fun s => [.int .i64 s.age, .string s.codes, .string s.got], fun _ => rfl, by intro a u hu; simp at hu; rcases hu with rfl | rfl | rfl <;> rfl, by decide⟩
def kPs : Kind (Option Addr × Nat × List Pkt) := ⟨1, fun e => [.slice e.1 e.2.2.length e.2.1], fun _ => rfl, by intro a u hu; simp at hu; subst hu; rfl, by decide⟩
def pkV (q : Pkt) : Value := .agg #[.string q.vo, .int .i64 q.ex, .string q.ve, .int .i64 q.ps, .int .i64 q.cy, .string q.te]
set_option maxRecDepth 100000 in
set_option maxHeartbeats 4000000 in
theorem packet_neg (N : Nat) (f d p r dr o sl md fr : Int) (ad : Option Addr) (cap : Nat) (zs : List Int) (NL SL FL LL : Nat) (a1 : Option Addr) (c1 : Nat) (a2 : Option Addr) (c2 : Nat) (a3 : Option Addr) (c3 : Nat) (a4 : Option Addr) (c4 : Nat) (T : Value) (tt : Int) (k i : Nat) (ht : tt < 0) (w : World) :
    Calls Try.prog 69 #[.agg #[.int .i64 (N : Int), .int .i64 f, .int .i64 d, .int .i64 p, .int .i64 r, .int .i64 dr, .int .i64 o, .int .i64 sl, .int .i64 md, .int .i64 fr, .slice ad zs.length cap, .slice a1 NL c1, .slice a2 SL c2, .slice a3 FL c3, .slice a4 LL c4], T, .int .i64 tt, .int .i64 (k : Int), .int .i64 (i : Int)] w fun e w' => e = .returned (pkV noP) ∧ Below w.heap.size w w' := by
  have HB0 := hidden (bthen (ballc w (.cells #[.int .i64 (N : Int), .int .i64 f, .int .i64 d, .int .i64 p, .int .i64 r, .int .i64 dr, .int .i64 o, .int .i64 sl, .int .i64 md, .int .i64 fr, .slice ad zs.length cap, .slice a1 NL c1, .slice a2 SL c2, .slice a3 FL c3, .slice a4 LL c4] 48)) (ballc _ (.cells #[.string noB, .int .i64 0, .string noB, .int .i64 0, .int .i64 0, .string noB] 74)))
  go_enter Try.func69, Try.ntmps69
  go_wp2
  exact bodyPost_ret (v := .agg #[.string noB, .int .i64 0, .string noB, .int .i64 0, .int .i64 0, .string noB]) (by simp [results, Try.results69, go_sem]; try rfl) rfl ⟨rfl, HB0.out⟩
set_option maxRecDepth 100000 in
set_option maxHeartbeats 4000000 in
theorem packet_none (N : Nat) (f d p r dr o sl md fr : Int) (ad : Option Addr) (cap : Nat) (zs : List Int) (NL SL FL LL : Nat) (a1 : Option Addr) (c1 : Nat) (a2 : Option Addr) (c2 : Nat) (a3 : Option Addr) (c3 : Nat) (a4 : Option Addr) (c4 : Nat) (fs : List Int) (T : Value) (tt : Nat) (k i : Nat) (hL : LL = 0) (hfl : FL = fs.length) (hfm : fs.length ≤ 9223372036854775807) (hk : faI fs k = true) (w : World) (hV3 : kInt.Lies w.heap.size w (.slice a3 FL c3) fs) :
    Calls Try.prog 69 #[.agg #[.int .i64 (N : Int), .int .i64 f, .int .i64 d, .int .i64 p, .int .i64 r, .int .i64 dr, .int .i64 o, .int .i64 sl, .int .i64 md, .int .i64 fr, .slice ad zs.length cap, .slice a1 NL c1, .slice a2 SL c2, .slice a3 FL c3, .slice a4 LL c4], T, .int .i64 (tt : Int), .int .i64 (k : Int), .int .i64 (i : Int)] w fun e w' => e = .returned (pkV noP) ∧ Below w.heap.size w w' := by
  have HB0 := hidden (bthen (ballc w (.cells #[.int .i64 (N : Int), .int .i64 f, .int .i64 d, .int .i64 p, .int .i64 r, .int .i64 dr, .int .i64 o, .int .i64 sl, .int .i64 md, .int .i64 fr, .slice ad zs.length cap, .slice a1 NL c1, .slice a2 SL c2, .slice a3 FL c3, .slice a4 LL c4] 48)) (ballc _ (.cells #[.string noB, .int .i64 0, .string noB, .int .i64 0, .int .i64 0, .string noB] 74)))
  have CI := hidden (fun V h => by have z := rIn_any (k : Int) a3 c3 fs hfm V h; rwa [show decide ((k : Int) ∈ fs) = true from hk] at z)
  rw [← hfl] at CI
  have HV3 := hidden (hV3.later HB0.out)
  have t0 : ¬ (tt : Int) < 0 := by omega
  have j0 : ((LL : Int) == 0) = true := by simp [hL]
  clear hV3 hk hL hfl hfm
  go_enter Try.func69, Try.ntmps69
  go_wp2_with fail
  refine (CI.out _ HV3.out).mono ?_
  rintro e wx ⟨rfl, rfl⟩
  go_wp2
  exact bodyPost_ret (v := .agg #[.string noB, .int .i64 0, .string noB, .int .i64 0, .int .i64 0, .string noB]) (by simp [results, Try.results69, go_sem]; try rfl) rfl ⟨rfl, HB0.out⟩
set_option maxRecDepth 100000 in
set_option maxHeartbeats 4000000 in
theorem packet_told (N : Nat) (f d p r dr o sl md fr : Int) (ad : Option Addr) (cap : Nat) (zs : List Int) (NL SL FL LL : Nat) (a1 : Option Addr) (c1 : Nat) (a2 : Option Addr) (c2 : Nat) (a3 : Option Addr) (c3 : Nat) (a4 : Option Addr) (c4 : Nat) (fs : List Int) (gt tl ct ge ce tt k i M : Nat) (q : Pkt) (hfl : FL = fs.length) (hfm : fs.length ≤ 9223372036854775807) (hk : faI fs k = false) (htl : tt < tl) (hkM : k < M) (hM : M ≤ 100) (w : World) (hV3 : kInt.Lies w.heap.size w (.slice a3 FL c3) fs)
    (hgt : gt < w.heap.size) (hge : ge < w.heap.size) (et : w.cell? ⟨gt, tt, none⟩ = some (.slice (some ⟨ge, 0, none⟩) M ce)) (e0 : w.cell? ⟨ge, k * 6, none⟩ = some (.string q.vo)) (e1 : w.cell? ⟨ge, k * 6 + 1, none⟩ = some (.int .i64 q.ex)) (e2 : w.cell? ⟨ge, k * 6 + 2, none⟩ = some (.string q.ve)) (e3 : w.cell? ⟨ge, k * 6 + 3, none⟩ = some (.int .i64 q.ps)) (e4 : w.cell? ⟨ge, k * 6 + 4, none⟩ = some (.int .i64 q.cy)) (e5 : w.cell? ⟨ge, k * 6 + 5, none⟩ = some (.string q.te)) :
    Calls Try.prog 69 #[.agg #[.int .i64 (N : Int), .int .i64 f, .int .i64 d, .int .i64 p, .int .i64 r, .int .i64 dr, .int .i64 o, .int .i64 sl, .int .i64 md, .int .i64 fr, .slice ad zs.length cap, .slice a1 NL c1, .slice a2 SL c2, .slice a3 FL c3, .slice a4 LL c4], .slice (some ⟨gt, 0, none⟩) tl ct, .int .i64 (tt : Int), .int .i64 (k : Int), .int .i64 (i : Int)] w fun e w' => e = .returned (pkV q) ∧ Below w.heap.size w w' := by
  have HB0 := hidden (bthen (ballc w (.cells #[.int .i64 (N : Int), .int .i64 f, .int .i64 d, .int .i64 p, .int .i64 r, .int .i64 dr, .int .i64 o, .int .i64 sl, .int .i64 md, .int .i64 fr, .slice ad zs.length cap, .slice a1 NL c1, .slice a2 SL c2, .slice a3 FL c3, .slice a4 LL c4] 48)) (ballc _ (.cells #[.string noB, .int .i64 0, .string noB, .int .i64 0, .int .i64 0, .string noB] 74)))
  have HBZ := hidden (bthen (ballc w (.cells #[.int .i64 (N : Int), .int .i64 f, .int .i64 d, .int .i64 p, .int .i64 r, .int .i64 dr, .int .i64 o, .int .i64 sl, .int .i64 md, .int .i64 fr, .slice ad zs.length cap, .slice a1 NL c1, .slice a2 SL c2, .slice a3 FL c3, .slice a4 LL c4] 48)) (ballc _ (.cells #[.string q.vo, .int .i64 q.ex, .string q.ve, .int .i64 q.ps, .int .i64 q.cy, .string q.te] 74)))
  have CI := hidden (fun V h => by have z := rIn_any (k : Int) a3 c3 fs hfm V h; rwa [show decide ((k : Int) ∈ fs) = false from hk] at z)
  rw [← hfl] at CI
  have HV3 := hidden (hV3.later HB0.out)
  have t0 : ¬ (tt : Int) < 0 := by omega
  have t1 : (0 : Int) ≤ (tt : Int) := by omega
  have t2 : (tt : Int) < (tl : Int) := by omega
  have t3 : (0 : Int) ≤ (k : Int) := by omega
  have t4 : (k : Int) < (M : Int) := by omega
  have x0 := (HB0.out.cell (p := ⟨ge, k * 6, none⟩) hge).trans e0
  have x1 := (HB0.out.cell (p := ⟨ge, k * 6 + 1, none⟩) hge).trans e1
  have x2 := (HB0.out.cell (p := ⟨ge, k * 6 + 2, none⟩) hge).trans e2
  have x3 := (HB0.out.cell (p := ⟨ge, k * 6 + 3, none⟩) hge).trans e3
  have x4 := (HB0.out.cell (p := ⟨ge, k * 6 + 4, none⟩) hge).trans e4
  have x5 := (HB0.out.cell (p := ⟨ge, k * 6 + 5, none⟩) hge).trans e5
  have x6 := (HB0.out.cell (p := ⟨gt, tt, none⟩) hgt).trans et
  clear hV3 hk hfl hfm e0 e1 e2 e3 e4 e5 et
  obtain ⟨vo, ex, ve, ps, cy, te⟩ := q
  dsimp only at x0 x1 x2 x3 x4 x5 HBZ
  go_enter Try.func69, Try.ntmps69
  go_wp2_with fail
  refine (CI.out _ HV3.out).mono ?_
  rintro e wx ⟨rfl, rfl⟩
  go_wp2
  exact bodyPost_ret (v := .agg #[.string vo, .int .i64 ex, .string ve, .int .i64 ps, .int .i64 cy, .string te]) (by simp [results, Try.results69, go_sem]; try rfl) rfl ⟨rfl, HBZ.out⟩
set_option maxRecDepth 100000 in
set_option maxHeartbeats 8000000 in
theorem packet_lie (N : Nat) (f d p r dr o sl md fr : Int) (ad : Option Addr) (cap : Nat) (zs : List Int) (NL SL FL LL : Nat) (a1 : Option Addr) (c1 : Nat) (a2 : Option Addr) (c2 : Nat) (a3 : Option Addr) (c3 : Nat) (a4 : Option Addr) (c4 : Nat) (fs : List Int) (lies : List Pkt) (T : Value) (tt k i : Nat) (hL0 : 0 < lies.length) (hLL : LL = lies.length) (hL1 : LL ≤ 1000) (htt : tt ≤ 10000) (hN : N ≤ 13) (hk13 : k ≤ 13) (hi13 : i ≤ 13) (hfl : FL = fs.length) (hfm : fs.length ≤ 9223372036854775807) (hk : faI fs k = true) (w : World) (hV3 : kInt.Lies w.heap.size w (.slice a3 FL c3) fs) (hV4 : kPkt.Lies w.heap.size w (.slice a4 LL c4) lies) :
    Calls Try.prog 69 #[.agg #[.int .i64 (N : Int), .int .i64 f, .int .i64 d, .int .i64 p, .int .i64 r, .int .i64 dr, .int .i64 o, .int .i64 sl, .int .i64 md, .int .i64 fr, .slice ad zs.length cap, .slice a1 NL c1, .slice a2 SL c2, .slice a3 FL c3, .slice a4 LL c4], T, .int .i64 (tt : Int), .int .i64 (k : Int), .int .i64 (i : Int)] w fun e w' => e = .returned (pkV (liP lies N tt k i)) ∧ Below w.heap.size w w' := by
  have hbox := ballc w (.cells #[.int .i64 (N : Int), .int .i64 f, .int .i64 d, .int .i64 p, .int .i64 r, .int .i64 dr, .int .i64 o, .int .i64 sl, .int .i64 md, .int .i64 fr, .slice ad zs.length cap, .slice a1 NL c1, .slice a2 SL c2, .slice a3 FL c3, .slice a4 LL c4] 48)
  have hres := ballc (w.alloc (.cells #[.int .i64 (N : Int), .int .i64 f, .int .i64 d, .int .i64 p, .int .i64 r, .int .i64 dr, .int .i64 o, .int .i64 sl, .int .i64 md, .int .i64 fr, .slice ad zs.length cap, .slice a1 NL c1, .slice a2 SL c2, .slice a3 FL c3, .slice a4 LL c4] 48)) (.cells #[.string noB, .int .i64 0, .string noB, .int .i64 0, .int .i64 0, .string noB] 74)
  have HB0 := hidden (bthen hbox hres)
  have HK := hidden (blk_later (blk_nw w #[.int .i64 (N : Int), .int .i64 f, .int .i64 d, .int .i64 p, .int .i64 r, .int .i64 dr, .int .i64 o, .int .i64 sl, .int .i64 md, .int .i64 fr, .slice ad zs.length cap, .slice a1 NL c1, .slice a2 SL c2, .slice a3 FL c3, .slice a4 LL c4] 48) hres)
  have CI := hidden (fun V h => by have z := rIn_any (k : Int) a3 c3 fs hfm V h; rwa [show decide ((k : Int) ∈ fs) = true from hk] at z)
  rw [← hfl] at CI
  have HV3 := hidden (hV3.later HB0.out)
  have t0 : ¬ (tt : Int) < 0 := by omega
  have j0 : ((LL : Int) == 0) = false := beq_eq_false_iff_ne.2 (by omega)
  have j1 : ¬ (LL : Int) = 0 := by omega
  have j2 : (0 : Int) < (LL : Int) := by omega
  have hlp : liP lies N tt k i = lies.getD (((tt * N + k) * N + i) % lies.length) noP := if_neg (by omega)
  rw [hlp]
  have hq := Nat.mod_lt ((tt * N + k) * N + i) hL0
  obtain ⟨bb, off, hea, hbb, e0, e1, e2, e3, e4, e5⟩ := kPkt_at (by rw [hLL] at hV4; exact hV4) (((tt * N + k) * N + i) % lies.length) hq
  subst hea
  rw [← hLL] at hq e0 e1 e2 e3 e4 e5 ⊢
  have b1 : tt * N ≤ 10000 * 13 := Nat.mul_le_mul htt hN
  have b2 : (tt * N + k) * N ≤ 130013 * 13 := Nat.mul_le_mul (by omega) hN
  have m1' : (tt : Int) * (N : Int) = ((tt * N : Nat) : Int) := by simp
  have m2' : ((tt * N + k : Nat) : Int) * (N : Int) = (((tt * N + k) * N : Nat) : Int) := by simp
  have m3' : ((((tt * N + k) * N + i : Nat) : Int)).tmod (LL : Int) = ((((tt * N + k) * N + i) % LL : Nat) : Int) := by
    rw [Int.tmod_eq_emod_of_nonneg (by omega)]
    rfl
  generalize hqq : ((tt * N + k) * N + i) % LL = q at *
  obtain ⟨m4, hm4⟩ : ∃ m4 : Nat, m4 = (tt * N + k) * N + i := ⟨_, rfl⟩
  rw [← hm4] at m3'
  have m4' : (((tt * N + k) * N : Nat) : Int) + (i : Int) = (m4 : Int) := by omega
  generalize (tt * N + k) * N = m3 at *
  obtain ⟨m2, hm2⟩ : ∃ m2 : Nat, m2 = tt * N + k := ⟨_, rfl⟩
  rw [← hm2] at m2'
  have m5' : ((tt * N : Nat) : Int) + (k : Int) = (m2 : Int) := by omega
  generalize tt * N = m1 at *
  have w1 : IntKind.i64.wrap (m1 : Int) = (m1 : Int) := IntWalk.i64_in _ (by omega)
  have w2 : IntKind.i64.wrap (m2 : Int) = (m2 : Int) := IntWalk.i64_in _ (by omega)
  have w3 : IntKind.i64.wrap (m3 : Int) = (m3 : Int) := IntWalk.i64_in _ (by omega)
  have w4 : IntKind.i64.wrap (m4 : Int) = (m4 : Int) := IntWalk.i64_in _ (by omega)
  have w5 : IntKind.i64.wrap (q : Int) = (q : Int) := IntWalk.i64_in _ (by omega)
  have w6 : IntKind.i64.wrap ((m4 : Int).tmod (LL : Int)) = (q : Int) := by rw [m3']; exact w5
  have w7 : (m4 : Int) % (LL : Int) = (q : Int) := by rw [← m3', Int.tmod_eq_emod_of_nonneg (by omega)]
  have w8 : IntKind.i64.wrap ((m4 : Int) % (LL : Int)) = (q : Int) := by rw [w7]; exact w5
  have j3 : ¬ LL = 0 := by omega
  have m00 : (0 : Int) ≤ (m4 : Int) := by omega
  have q0 : (0 : Int) ≤ (q : Int) := by omega
  have q1 : (q : Int) < (LL : Int) := by omega
  generalize lies.getD q noP = pk at *
  obtain ⟨vo, ex, ve, ps, cy, te⟩ := pk
  dsimp only at e0 e1 e2 e3 e4 e5
  have hn : w.heap.size + 1 ≤ ((w.alloc (.cells #[.int .i64 (N : Int), .int .i64 f, .int .i64 d, .int .i64 p, .int .i64 r, .int .i64 dr, .int .i64 o, .int .i64 sl, .int .i64 md, .int .i64 fr, .slice ad zs.length cap, .slice a1 NL c1, .slice a2 SL c2, .slice a3 FL c3, .slice (some ⟨bb, off, none⟩) LL c4] 48)).alloc (.cells #[.string noB, .int .i64 0, .string noB, .int .i64 0, .int .i64 0, .string noB] 74)).heap.size := by simp
  have HBX := hidden (fun V (h : Chn (w.heap.size + 1) ((w.alloc (.cells #[.int .i64 (N : Int), .int .i64 f, .int .i64 d, .int .i64 p, .int .i64 r, .int .i64 dr, .int .i64 o, .int .i64 sl, .int .i64 md, .int .i64 fr, .slice ad zs.length cap, .slice a1 NL c1, .slice a2 SL c2, .slice a3 FL c3, .slice (some ⟨bb, off, none⟩) LL c4] 48)).alloc (.cells #[.string noB, .int .i64 0, .string noB, .int .i64 0, .int .i64 0, .string noB] 74)) V) => h)
  clear hV3 hV4 hk hL0 hL1 hLL hlp hq hqq hm4 hm2 hfl hfm b1 b2 htt hN hk13 hi13
  go_enter Try.func69, Try.ntmps69
  go_wp2_with fail
  refine (CI.out _ HV3.out).mono ?_
  rintro e wx ⟨rfl, rfl⟩
  go_wp2_with fail
  generalize hW0 : (w.alloc (.cells #[.int .i64 (N : Int), .int .i64 f, .int .i64 d, .int .i64 p, .int .i64 r, .int .i64 dr, .int .i64 o, .int .i64 sl, .int .i64 md, .int .i64 fr, .slice ad zs.length cap, .slice a1 NL c1, .slice a2 SL c2, .slice a3 FL c3, .slice (some ⟨bb, off, none⟩) LL c4] 48)).alloc (.cells #[.string noB, .int .i64 0, .string noB, .int .i64 0, .int .i64 0, .string noB] 74) = W0 at *
  have hC0 : Chn (w.heap.size + 1) W0 W0 := Chn.refl hn
  have hS : ∀ V, Chn (w.heap.size + 1) W0 V → V.cell? ⟨w.heap.size, 0, none⟩ = some (.int .i64 (N : Int)) ∧ V.cell? ⟨w.heap.size, 14, none⟩ = some (.slice (some ⟨bb, off, none⟩) LL c4) ∧ V.cell? ⟨bb, off + q * 6, none⟩ = some (.string vo) ∧ V.cell? ⟨bb, off + q * 6 + 1, none⟩ = some (.int .i64 ex) ∧ V.cell? ⟨bb, off + q * 6 + 2, none⟩ = some (.string ve) ∧ V.cell? ⟨bb, off + q * 6 + 3, none⟩ = some (.int .i64 ps) ∧ V.cell? ⟨bb, off + q * 6 + 4, none⟩ = some (.int .i64 cy) ∧ V.cell? ⟨bb, off + q * 6 + 5, none⟩ = some (.string te) := by
    intro V h
    have l1 := fun j => (h.1.cell (p := ⟨w.heap.size, j, none⟩) (by simp)).trans (blk_cell HK.out j)
    have z : ∀ j u, w.cell? ⟨bb, j, none⟩ = some u → V.cell? ⟨bb, j, none⟩ = some u := fun j u hu => (h.1.cell (p := ⟨bb, j, none⟩) (by show bb < _; omega)).trans ((HB0.out.cell (p := ⟨bb, j, none⟩) hbb).trans hu)
    exact ⟨l1 0, l1 14, z _ _ e0, z _ _ e1, z _ _ e2, z _ _ e3, z _ _ e4, z _ _ e5⟩
  have l0 := blk_lt HK.out
  have HRS : Hid (W0.heap[w.heap.size + 1]? = some (.cells #[.string noB, .int .i64 0, .string noB, .int .i64 0, .int .i64 0, .string noB] 74 (0, 0))) := by
    show _ = _
    rw [← hW0]
    exact blk_newAt _ _ _ (by simp)
  have c9 := blk_cell HRS.out
  have f9 := blk_frozen HRS.out
  have l9 := blk_lt HRS.out
  clear hW0 e0 e1 e2 e3 e4 e5
  go_region_held3 (fun V => V.cell? ⟨w.heap.size, 0, none⟩ = some (.int .i64 (N : Int)) ∧ V.cell? ⟨w.heap.size, 14, none⟩ = some (.slice (some ⟨bb, off, none⟩) LL c4) ∧ V.cell? ⟨bb, off + q * 6, none⟩ = some (.string vo) ∧ V.cell? ⟨bb, off + q * 6 + 1, none⟩ = some (.int .i64 ex) ∧ V.cell? ⟨bb, off + q * 6 + 2, none⟩ = some (.string ve) ∧ V.cell? ⟨bb, off + q * 6 + 3, none⟩ = some (.int .i64 ps) ∧ V.cell? ⟨bb, off + q * 6 + 4, none⟩ = some (.int .i64 cy) ∧ V.cell? ⟨bb, off + q * 6 + 5, none⟩ = some (.string te)) (first | exact hS _ (by repeat (first | with_reducible assumption | with_reducible refine Chn.drew ?_ | with_reducible refine Chn.set ?_ _ _ (Nat.le_refl _) _))) (fail)
  have h6 := set6T HRS.out (.string vo) (.int .i64 ex) (.string ve) (.int .i64 ps) (.int .i64 cy) (.string te)
  have hb6 := below6T HB0.out (show w.heap.size ≤ w.heap.size + 1 by omega) (.string vo) (.int .i64 ex) (.string ve) (.int .i64 ps) (.int .i64 cy) (.string te)
  clear c9 f9 l9 hS hC0
  generalize ((((((W0.setCell ⟨w.heap.size + 1, 0, none⟩ (.string vo)).setCell ⟨w.heap.size + 1, 1, none⟩ (.int .i64 ex)).setCell ⟨w.heap.size + 1, 2, none⟩ (.string ve)).setCell ⟨w.heap.size + 1, 3, none⟩ (.int .i64 ps)).setCell ⟨w.heap.size + 1, 4, none⟩ (.int .i64 cy)).setCell ⟨w.heap.size + 1, 5, none⟩ (.string te)) = wz at *
  have hz : wz.drew.heap[w.heap.size + 1]? = some (.cells #[.string vo, .int .i64 ex, .string ve, .int .i64 ps, .int .i64 cy, .string te] 74 (0, 0)) := h6
  have HBZ := hidden hb6.drew
  clear h6 hb6
  generalize wz.drew = wy at *
  have hzc := blk_cell hz
  have hzl := blk_lt hz
  go_wp2
  exact bodyPost_ret (v := .agg #[.string vo, .int .i64 ex, .string ve, .int .i64 ps, .int .i64 cy, .string te]) (by simp [results, Try.results69, go_sem, hzc]) rfl ⟨rfl, HBZ.out⟩
theorem infoPkt : (Try.prog.info? 74).map (fun i => (i.zero, i.size, i.bytes)) = some (some (.agg #[.string noB, .int .i64 0, .string noB, .int .i64 0, .int .i64 0, .string noB]), 6, 72) := by kernel_rfl
theorem kNow_at {n₀ : Nat} {W : World} {ad : Option Addr} {len cap : Nat} {qs : List StA} (h : kNow.Lies n₀ W (.slice ad len cap) qs) (j : Nat) (hj : j < qs.length) : ∃ b off : Nat, ad = some ⟨b, off, none⟩ ∧ b < n₀ ∧
    W.cell? ⟨b, off + j * 3, none⟩ = some (.int .i64 (qs.getD j zA).age) ∧ W.cell? ⟨b, off + j * 3 + 1, none⟩ = some (.string (qs.getD j zA).codes) ∧ W.cell? ⟨b, off + j * 3 + 2, none⟩ = some (.string (qs.getD j zA).got) := by
  obtain ⟨b, off, he, hb, hc⟩ := h.at j hj
  have e : qs.getD j zA = qs[j] := by rw [List.getD_eq_getElem?_getD, List.getElem?_eq_getElem hj, Option.getD_some]
  rw [e]
  exact ⟨b, off, he, hb, hc 0 (by decide), hc 1 (by decide), hc 2 (by decide)⟩
theorem take_map {α β : Type} (g : α → β) (l : List α) (z : α) (k : Nat) (h : k < l.length) : (l.take (k + 1)).map g = (l.take k).map g ++ [g (l.getD k z)] := by
  have e : l.getD k z = l[k] := by rw [List.getD_eq_getElem?_getD, List.getElem?_eq_getElem h, Option.getD_some]
  rw [e, List.take_succ_eq_append_getElem h, List.map_append]
  rfl
set_option maxRecDepth 100000 in
set_option maxHeartbeats 8000000 in
theorem rowA_any (N : Nat) (f d p r dr o sl md fr : Int) (ad : Option Addr) (cap : Nat) (zs : List Int) (NL SL FL LL : Nat) (a1 : Option Addr) (c1 : Nat) (a2 : Option Addr) (c2 : Nat) (a3 : Option Addr) (c3 : Nat) (a4 : Option Addr) (c4 : Nat) (R : Nat) (aA : Option Addr) (cA : Nat) (nows : List StA) (w : World) (hl : zs.length ≤ 9223372036854775807) (hT : Tab w ad zs) (hR : gate (plainE (N : Int) f d p r dr o sl md fr zs) (3 * (f + 1)) = (R : Int)) (hR15 : R ≤ 15) (hd : R = 0 ∨ 1 ≤ d ∧ d ≤ 4) (hn : nows.length ≤ 100) (hV : kNow.Lies w.heap.size w (.slice aA nows.length cA) nows) (hz : ∀ s ∈ nows, s.codes.size ≤ 100000) :
    Calls Try.prog 68 #[.agg #[.int .i64 (N : Int), .int .i64 f, .int .i64 d, .int .i64 p, .int .i64 r, .int .i64 dr, .int .i64 o, .int .i64 sl, .int .i64 md, .int .i64 fr, .slice ad zs.length cap, .slice a1 NL c1, .slice a2 SL c2, .slice a3 FL c3, .slice a4 LL c4], .slice aA nows.length cA] w fun e w' => ∃ v, e = .returned v ∧ w'.ownsRow w.heap.size 74 6 v nows.length (kPkt.flat (nows.map (tellP R d))) ∧ Below w.heap.size w w' := by
  have HB0 := hidden (ballc w (.cells #[.int .i64 (N : Int), .int .i64 f, .int .i64 d, .int .i64 p, .int .i64 r, .int .i64 dr, .int .i64 o, .int .i64 sl, .int .i64 md, .int .i64 fr, .slice ad zs.length cap, .slice a1 NL c1, .slice a2 SL c2, .slice a3 FL c3, .slice a4 LL c4] 48))
  have HK := hidden (blk_nw w #[.int .i64 (N : Int), .int .i64 f, .int .i64 d, .int .i64 p, .int .i64 r, .int .i64 dr, .int .i64 o, .int .i64 sl, .int .i64 md, .int .i64 fr, .slice ad zs.length cap, .slice a1 NL c1, .slice a2 SL c2, .slice a3 FL c3, .slice a4 LL c4] 48)
  have HT := hidden (hT.below HB0.out)
  have HV := hidden (hV.later HB0.out)
  have CT := hidden (fun age codes hs V h => ATell_any (N : Int) f d p r dr o sl md fr ad cap zs R age codes hs V hl h hR hR15 hd)
  have HZ := hidden hz
  obtain ⟨i0, hi, hz0, hz1, hz2⟩ := info_of infoPkt
  obtain ⟨M, hM⟩ : ∃ M, M = nows.length := ⟨_, rfl⟩
  have HM := hidden hM
  have hM1 : M ≤ 100 := by omega
  rw [← hM] at HV ⊢
  clear hT hV hR hd hz hM hn
  go_enter Try.func68, Try.ntmps68
  go_wp2
  generalize w.alloc (.cells #[.int .i64 (N : Int), .int .i64 f, .int .i64 d, .int .i64 p, .int .i64 r, .int .i64 dr, .int .i64 o, .int .i64 sl, .int .i64 md, .int .i64 fr, .slice ad zs.length cap, .slice a1 NL c1, .slice a2 SL c2, .slice a3 FL c3, .slice a4 LL c4] 48) = W1 at *
  go_loopw [5, 6] (fun a i wr => ∃ j : Nat, j ≤ M ∧ i = .int .i64 j ∧ wr.ownsRow W1.heap.size 74 6 a j (kPkt.flat ((nows.take j).map (tellP R d))) ∧ Below W1.heap.size W1 wr) (fun _ i _ => M - (intV i).toNat)
  case atStart => exact ⟨0, Nat.zero_le _, rfl, World.ownsRow_nil _ _ _ _, Below.refl _ _⟩
  case round =>
    obtain ⟨j, hj, rfl, hown, hB⟩ := hrel
    have HB := hidden hB
    have HO := hidden hown
    have HKj := hidden (blk_later HK.out hB)
    have HTj := hidden (HT.out.below hB)
    clear hown hB
    by_cases hlt : j < M
    · have i1 : (0 : Int) ≤ (j : Int) := by omega
      have i2 : (j : Int) < (M : Int) := by omega
      have hjv : j < nows.length := by rw [← HM.out]; exact hlt
      obtain ⟨b, off, rfl, hbl, e0, e1, e2⟩ := kNow_at (HV.out.below HB.out) j hjv
      have hmem : nows.getD j zA ∈ nows := by rw [List.getD_eq_getElem?_getD, List.getElem?_eq_getElem hjv, Option.getD_some]; exact List.getElem_mem hjv
      have CTj := hidden (fun V h => CT.out (nows.getD j zA).age (nows.getD j zA).codes (HZ.out _ hmem) V h)
      have HS := hidden (take_map (tellP R d) nows zA j hjv)
      have HTP : Hid (tellP R d (nows.getD j zA) = ⟨noB, telX R d (nows.getD j zA).age (nows.getD j zA).codes, telV R d (nows.getD j zA).age (nows.getD j zA).codes, 0, 0, noB⟩) := rfl
      have lb := Nat.lt_of_lt_of_le hbl HB.out.size
      have c0 := blk_cell HKj.out
      have l0 := blk_lt HKj.out
      clear hmem hjv
      generalize tellP R d (nows.getD j zA) = tp at *
      generalize telX R d (nows.getD j zA).age (nows.getD j zA).codes = tx at *
      generalize telV R d (nows.getD j zA).age (nows.getD j zA).codes = tv at *
      generalize (nows.getD j zA).age = ag at *
      generalize (nows.getD j zA).codes = co at *
      generalize (nows.getD j zA).got = go at *
      go_wp2
      refine wp_region_quiet_below (by kernel_rfl) (by kernel_rfl) ?_
      repeat (go_big_quiet_step (fail))
      go_big_quiet_step ((go_at_call 16; exact Calls.regrown_of (CTj.out _ (HTj.out.below (below_regrown _ _ _)))))
      repeat (go_big_quiet_step (fail))
      refine wpQuiet_nil ?_
      intro w5 hw5
      have HB5 := hidden (bthen HB.out (rg_below hw5))
      have HO5 := hidden (own_below HO.out (rg_below hw5))
      have h5s := HB5.out.size
      clear hw5 c0 l0 e0 e1 e2
      go_wp2_with (at_builtin; refine kPkt.wpList_append _ rfl (.tmp 31) (.tmp 35) 42 rfl W1.heap.size 74 i0 (.agg #[.string noB, .int .i64 0, .string noB, .int .i64 0, .int .i64 0, .string noB]) 72 Try.underlying42 hi hz0 hz1 hz2 rfl u5 j _ rfl (HO5.out.alloc _) (.slice (some ⟨w5.heap.size, 0, none⟩) 1 1) [tp] rfl (Kind.Lies.of_block (K := kPkt) (t := 74) (es := [tp]) (by rw [HTP.out]; exact heap_alloc_new w5 _) (by simp [maxLen])) (by simp only [maxLen, List.length_singleton]; omega) (by simp only [List.length_singleton]; omega) (by simp; omega) ?_; intro v7 w7 hown7 hgrow7 _)
      have hB7 : Below W1.heap.size W1 w7 := (HB5.out.alloc h5s _).grown hgrow7 (by simp; omega) (own_from HO5.out)
      have hrow : w7.ownsRow W1.heap.size 74 6 v7 (j + 1) (kPkt.flat ((nows.take (j + 1)).map (tellP R d))) := by
        rw [HS.out, Kind.flat_append]
        exact hown7
      go_roundw
      case rel => exact ⟨j + 1, by omega, by go_num, hrow, hB7⟩
      case measure => simp [intV]; omega
    · obtain rfl : j = M := by omega
      have i2 : ¬ (j : Int) < (j : Int) := by omega
      have ht : nows.take j = nows := List.take_of_length_le (by have := HM.out; omega)
      have HO2 := HO.out
      rw [ht] at HO2
      have hw1 := HB0.out.size
      have HOZ := hidden (own_low HO2 hw1)
      have HBZ := hidden (bthen HB0.out HB.out)
      clear HO2 HO ht
      go_wp2
      go_ret
      exact ⟨_, rfl, HOZ.out, HBZ.out⟩
end Go.Proofs.Ytohgmliafidalaa

/- A row is appended to a row of one's own, as one step of a region whose order is drawn; no conditions. -/
namespace Go.Proofs.Ytohgmliafidalaa
open Go.ChangeShapes Go.WideShapes Go.ChangeAt Go.RowKit
set_option linter.unusedVariables false
theorem Kind.step_append {α : Type} (K : Kind α) {P : Program} (w : World) {ops : Array Oper} {o : Oper} {a : Act} {Kc : Act → World → Prop} {Q : Exit → Act → World → Prop} {E : Prop} (hgd : o.guard = none) (s x : Operand) (t : TypeId)
    (ho : o.op = .call { callee := .builtin .append, args := #[s, x], argTypes := #[t, t] })
    (base : Nat) (e : TypeId) (i : TypeInfo) (z : Value) (bytes : Nat) (ht : P.underlying t = some (.slice e)) (hi : P.info? e = some i) (hz : i.zero = some z)
    (hsize : i.size = K.k) (hby : i.bytes = bytes) (hzs : z.cells.size = K.k) (v : Value) (n : Nat) (xs : List Value) (hs : a.eval s = v) (hown : w.ownsRow base e K.k v n xs) {n₀ : Nat} (sv : Value) (es : List α) (hx : a.eval x = sv) (hE : K.Lies n₀ w sv es)
    (h63 : n + es.length ≤ maxLen) (hbytes : (n + es.length) * bytes ≤ 140737488355328) (hbase : base ≤ w.heap.size)
    (hK : ∀ v' w', w'.ownsRow base e K.k v' (n + es.length) (xs ++ K.flat es) → w.grownBy w' v.ownBlock → (v'.ownBlock = v.ownBlock ∨ v'.ownBlock = some w.heap.size) → Kc (a.put o.dst v') w') :
    if Region.wanted o (yielded ops a.tmps) = true then Oper.wp P o a w Kc Q else E := by
  have hw : Region.wanted o (yielded ops a.tmps) = true := by simp [Region.wanted, hgd]
  rw [if_pos hw]
  obtain ⟨v', w', hrun, r1, r2, r3⟩ := K.run_append (P := P) w base t o.type e i z bytes ht hi hz hsize hby hzs v n xs hown sv es hE h63 hbytes hbase
  unfold Oper.wp
  simp [execOp, ho, resolve, invoke, builtin, hs, hx, hrun, Result.andThen]
  exact hK v' w' r1 r2 r3
/-- A world behind another one in which a number still stands at its place. -/
structure RSt (n3 : Nat) (wX : World) (vb vo : Nat) (kv : Int) (V : World) : Prop where
  chn : Chn n3 wX V
  lt : vb < V.heap.size
  cell : V.cell? ⟨vb, vo, none⟩ = some (.int .i64 kv)
theorem RSt.of_chn {n3 : Nat} {wX : World} {vb vo : Nat} {kv : Int} {W V : World} (h : RSt n3 wX vb vo kv W) (hc : Chn W.heap.size W V) : RSt n3 wX vb vo kv V :=
  ⟨h.chn.below hc.out, Nat.lt_of_lt_of_le h.lt hc.le, (hc.out.cell (p := ⟨vb, vo, none⟩) h.lt).trans h.cell⟩
theorem RSt.grown {n3 : Nat} {wX : World} {vb vo : Nat} {kv : Int} {W V : World} {b : Option Nat} (h : RSt n3 wX vb vo kv W) (hg : W.grownBy V b) (hb : ∀ g, b = some g → n3 ≤ g) (hne : b ≠ some vb) : RSt n3 wX vb vo kv V := by
  refine ⟨⟨h.chn.1.grown hg h.chn.2 hb, Nat.le_trans h.chn.2 hg.size⟩, Nat.lt_of_lt_of_le h.lt hg.size, ?_⟩
  have hk := hg.block vb h.lt (fun e => hne e.symm)
  have : V.cell? ⟨vb, vo, none⟩ = W.cell? ⟨vb, vo, none⟩ := by simp only [World.cell?, hk]
  rw [this]
  exact h.cell
end Go.Proofs.Ytohgmliafidalaa

/- The statements' own method runs of a cluster of layer 19 returns what plain functions give, and makes at most new memory; conditions: the calls in it return what plain functions give, rows lie where they say, numbers are small. -/
namespace Go.Proofs.Ytohgmliafidalaa
open Go.ChangeShapes Go.WideShapes Go.ChangeAt Go.RowKit
set_option linter.unusedVariables false
attribute [local go_sem] cell_rg

theorem infoNow : (Try.prog.info? 37).map (fun i => (i.zero, i.size, i.bytes)) = some (some (.agg #[.int .i64 0, .string noB, .string noB]), 3, 40) := by kernel_rfl
theorem infoPs : (Try.prog.info? 42).map (fun i => (i.zero, i.size, i.bytes)) = some (some (.slice none 0 0), 1, 24) := by kernel_rfl
theorem ownA_open {W : World} {base : Nat} {e : TypeId} {k : Nat} {v : Value} {n : Nat} {xs : List Value} (h : W.ownsRow base e k v n xs) (hn : 0 < n) : ∃ g cap, v = .slice (some ⟨g, 0, none⟩) n cap ∧ base ≤ g ∧ g < W.heap.size := by
  rcases h.2 with ⟨_, h0⟩ | ⟨g, cap, cur, hv, hb, hg, _⟩
  · omega
  · exact ⟨g, cap, hv, hb, (Array.getElem?_eq_some_iff.1 hg).1⟩
theorem ownA_type {W : World} {b1 b2 : Nat} {e1 e2 : TypeId} {v1 v2 : Value} {n1 n2 : Nat} {xs1 xs2 : List Value} {k1 k2 : Nat} (h1 : W.ownsRow b1 e1 k1 v1 n1 xs1) (h2 : W.ownsRow b2 e2 k2 v2 n2 xs2) (hne : e1 ≠ e2) : v1.ownBlock = none ∨ v1.ownBlock ≠ v2.ownBlock := by
  rcases h1.2 with ⟨rfl, _⟩ | ⟨g, cap, cur, rfl, hb, hg, _⟩
  · exact .inl rfl
  · rcases h2.2 with ⟨rfl, _⟩ | ⟨g', cap', cur', rfl, hb', hg', _⟩
    · exact .inr (by simp [Value.ownBlock])
    · refine .inr fun e => ?_
      simp only [Value.ownBlock, Option.some.injEq] at e
      subst e
      rw [hg] at hg'
      simp only [Option.some.injEq, Obj.cells.injEq] at hg'
      exact hne hg'.2.1
theorem kPs_flat (l : List (Option Addr × Nat × List Pkt)) : kPs.flat l = l.map fun e => Value.slice e.1 e.2.2.length e.2.1 := by
  induction l with
  | nil => rfl
  | cons a l ih => simp only [Kind.flat, List.flatMap_cons, List.map_cons] at ih ⊢; rw [ih]; rfl
theorem chn_row {n : Nat} {w w' w'' : World} {row : Option Nat} (h : Chn n w w') (k : w'.grownBy w'' row) (hg : ∀ g, row = some g → n ≤ g) : Chn n w w'' := ⟨h.1.grown k h.2 hg, Nat.le_trans h.2 k.size⟩
def slP (e : Option Addr × Nat × List Pkt) : Value := .slice e.1 e.2.2.length e.2.1
/-- What a run keeps in memory: what was told, all instances. -/
structure MemA (n0 : Nat) (W : World) (T A : Value) (svs : List (Option Addr × Nat × List Pkt)) (nows : List StA) (N : Nat) : Prop where
  told : W.ownsRow n0 42 1 T svs.length (kPs.flat svs)
  all : W.ownsRow n0 37 3 A N (kNow.flat nows)
  rows : ∀ e ∈ svs, e.2.2.length = N ∧ W.ownsRow n0 74 6 (slP e) N (kPkt.flat e.2.2)
section
variable {n0 : Nat} {W V : World} {T A : Value} {svs : List (Option Addr × Nat × List Pkt)} {nows : List StA} {N : Nat}
theorem MemA.below (h : MemA n0 W T A svs nows N) (hb : Below W.heap.size W V) : MemA n0 V T A svs nows N :=
  ⟨own_below h.told hb, own_below h.all hb, fun e he => ⟨(h.rows e he).1, own_below (h.rows e he).2 hb⟩⟩
theorem MemA.next (h : MemA n0 W T A svs nows N) {A' : Value} {nows' : List StA} (ha : W.ownsRow n0 37 3 A' N (kNow.flat nows')) : MemA n0 W T A' svs nows' N := ⟨h.told, ha, h.rows⟩
theorem MemA.tell (h : MemA n0 W T A svs nows N) (e0 : Option Addr × Nat × List Pkt) (hN : e0.2.2.length = N) (hrow : W.ownsRow n0 74 6 (slP e0) N (kPkt.flat e0.2.2)) {T' : Value} (hg : W.grownBy V T.ownBlock) (ht : V.ownsRow n0 42 1 T' (svs.length + 1) (kPs.flat svs ++ kPs.flat [e0])) : MemA n0 V T' A (svs ++ [e0]) nows N := by
  refine ⟨?_, h.all.kept hg (ownA_type h.all h.told (by decide)), ?_⟩
  · rw [List.length_append, Kind.flat_append]
    exact ht
  · intro e he
    rcases List.mem_append.1 he with he | he
    · exact ⟨(h.rows e he).1, (h.rows e he).2.kept hg (ownA_type (h.rows e he).2 h.told (by decide))⟩
    · rw [List.mem_singleton] at he
      subst he
      exact ⟨hN, hrow.kept hg (ownA_type hrow h.told (by decide))⟩
end
set_option maxRecDepth 100000 in
set_option maxHeartbeats 40000000 in
theorem runsA_walk (N : Nat) (f d p r dr o sl md fr : Int) (ad : Option Addr) (cap : Nat) (zs : List Int) (D L FL LL : Nat) (a1 : Option Addr) (c1 : Nat) (nums : List Int) (a2 : Option Addr) (c2 : Nat) (seen : List ByteArray) (a3 : Option Addr) (c3 : Nat) (a4 : Option Addr) (c4 : Nat) (w : World)
    (fa : Nat → Bool) (q : Nat → RunA) (bg : Nat → StA) (nx : Nat → Nat → StA) (tp : StA → Pkt) (vo : Nat → Nat → Nat → Pkt) (lies : List Pkt) (fs : List Int)
    (hd : d = (D : Int)) (hD1 : 1 ≤ D) (hD4 : D ≤ 4) (hL60 : L ≤ 60) (hN1 : 1 ≤ N) (hN : N ≤ 13)
    (hnl : nums.length = N) (hV1 : kInt.Lies w.heap.size w (.slice a1 N c1) nums) (hsl : seen.length = N) (hV2 : kStr.Lies w.heap.size w (.slice a2 N c2) seen)
    (hT : Tab w ad zs) (hV3 : kInt.Lies w.heap.size w (.slice a3 FL c3) fs) (hV4 : kPkt.Lies w.heap.size w (.slice a4 LL c4) lies)
    (q0 : q 0 = ⟨(List.range N).map bg, [((List.range N).map bg).map tp]⟩)
    (qs : ∀ t, q (t + 1) = ⟨(List.range N).map (nx t), (q t).told ++ [((List.range N).map (nx t)).map tp]⟩)
    (hbg : ∀ i, bg i = ⟨0, (bg i).codes, noB⟩)
    (hv2 : ∀ t i k, ¬ t < D → fa k = false → vo t i k = ((q (t - 1)).told.getD (t - D) []).getD k noP)
    (CBg : ∀ i, i < N → ∀ V, Tab V ad zs → Calls Try.prog 18 #[.agg #[.int .i64 (N : Int), .int .i64 f, .int .i64 d, .int .i64 p, .int .i64 r, .int .i64 dr, .int .i64 o, .int .i64 sl, .int .i64 md, .int .i64 fr, .slice ad zs.length cap], .int .i64 (nums.getD i 0), .string (seen.getD i noB)] V fun e w' => e = .returned (.string (bg i).codes) ∧ Below V.heap.size V w')
    (CS : ∀ t i, t < L → i < N → ∀ V a c, Tab V ad zs → kPkt.Lies V.heap.size V (.slice a N c) ((List.range N).map (vo (t + 1) i)) → Calls Try.prog 20 #[.agg #[.int .i64 (N : Int), .int .i64 f, .int .i64 d, .int .i64 p, .int .i64 r, .int .i64 dr, .int .i64 o, .int .i64 sl, .int .i64 md, .int .i64 fr, .slice ad zs.length cap], .int .i64 ((q t).now.getD i zA).age, .string ((q t).now.getD i zA).codes, .string ((q t).now.getD i zA).got, .slice a N c] V fun e w' => e = .returned (.tuple #[.int .i64 (nx t i).age, .string (nx t i).codes, .string (nx t i).got]) ∧ Below V.heap.size V w')
    (CR : ∀ t, t ≤ L → ∀ V a c, Tab V ad zs → kNow.Lies V.heap.size V (.slice a N c) (q t).now → Calls Try.prog 68 #[.agg #[.int .i64 (N : Int), .int .i64 f, .int .i64 d, .int .i64 p, .int .i64 r, .int .i64 dr, .int .i64 o, .int .i64 sl, .int .i64 md, .int .i64 fr, .slice ad zs.length cap, .slice a1 N c1, .slice a2 N c2, .slice a3 FL c3, .slice a4 LL c4], .slice a N c] V fun e w' => ∃ v, e = .returned v ∧ w'.ownsRow V.heap.size 74 6 v N (kPkt.flat ((q t).now.map tp)) ∧ Below V.heap.size V w')
    (CLn : ∀ V, Tab V ad zs → Calls Try.prog 43 #[.agg #[.int .i64 (N : Int), .int .i64 f, .int .i64 d, .int .i64 p, .int .i64 r, .int .i64 dr, .int .i64 o, .int .i64 sl, .int .i64 md, .int .i64 fr, .slice ad zs.length cap]] V fun e w' => e = .returned (.int .i64 (L : Int)) ∧ Below V.heap.size V w')
    (CP1 : ∀ t k i T, 1 ≤ t → t ≤ L → t < D → k < N → i < N → ∀ V, Calls Try.prog 69 #[.agg #[.int .i64 (N : Int), .int .i64 f, .int .i64 d, .int .i64 p, .int .i64 r, .int .i64 dr, .int .i64 o, .int .i64 sl, .int .i64 md, .int .i64 fr, .slice ad zs.length cap, .slice a1 N c1, .slice a2 N c2, .slice a3 FL c3, .slice a4 LL c4], T, .int .i64 ((t : Int) - d), .int .i64 (k : Int), .int .i64 (i : Int)] V fun e w' => e = .returned (pkV (vo t i k)) ∧ Below V.heap.size V w')
    (CP2 : ∀ t k i T, 1 ≤ t → t ≤ L → ¬ t < D → fa k = true → k < N → i < N → ∀ V, kInt.Lies V.heap.size V (.slice a3 FL c3) fs → kPkt.Lies V.heap.size V (.slice a4 LL c4) lies → Calls Try.prog 69 #[.agg #[.int .i64 (N : Int), .int .i64 f, .int .i64 d, .int .i64 p, .int .i64 r, .int .i64 dr, .int .i64 o, .int .i64 sl, .int .i64 md, .int .i64 fr, .slice ad zs.length cap, .slice a1 N c1, .slice a2 N c2, .slice a3 FL c3, .slice a4 LL c4], T, .int .i64 ((t : Int) - d), .int .i64 (k : Int), .int .i64 (i : Int)] V fun e w' => e = .returned (pkV (vo t i k)) ∧ Below V.heap.size V w')
    (CP3 : ∀ t k i (gt tl ct ge ce : Nat) (q1 : Pkt), 1 ≤ t → t ≤ L → ¬ t < D → fa k = false → k < N → i < N → t - D < tl → ∀ V, kInt.Lies V.heap.size V (.slice a3 FL c3) fs → gt < V.heap.size → ge < V.heap.size → V.cell? ⟨gt, t - D, none⟩ = some (.slice (some ⟨ge, 0, none⟩) N ce) → (∀ j u, (pktC q1)[j]? = some u → V.cell? ⟨ge, k * 6 + j, none⟩ = some u) → Calls Try.prog 69 #[.agg #[.int .i64 (N : Int), .int .i64 f, .int .i64 d, .int .i64 p, .int .i64 r, .int .i64 dr, .int .i64 o, .int .i64 sl, .int .i64 md, .int .i64 fr, .slice ad zs.length cap, .slice a1 N c1, .slice a2 N c2, .slice a3 FL c3, .slice a4 LL c4], .slice (some ⟨gt, 0, none⟩) tl ct, .int .i64 ((t : Int) - d), .int .i64 (k : Int), .int .i64 (i : Int)] V fun e w' => e = .returned (pkV q1) ∧ Below V.heap.size V w') :
    Calls Try.prog 22 #[.agg #[.int .i64 (N : Int), .int .i64 f, .int .i64 d, .int .i64 p, .int .i64 r, .int .i64 dr, .int .i64 o, .int .i64 sl, .int .i64 md, .int .i64 fr, .slice ad zs.length cap, .slice a1 N c1, .slice a2 N c2, .slice a3 FL c3, .slice a4 LL c4]] w fun e w' => ∃ a c, e = .returned (.slice a N c) ∧ kNow.Lies w'.heap.size w' (.slice a N c) (q L).now ∧ Below w.heap.size w w' := by
  have HB0 := hidden (ballc w (.cells #[.int .i64 (N : Int), .int .i64 f, .int .i64 d, .int .i64 p, .int .i64 r, .int .i64 dr, .int .i64 o, .int .i64 sl, .int .i64 md, .int .i64 fr, .slice ad zs.length cap, .slice a1 N c1, .slice a2 N c2, .slice a3 FL c3, .slice a4 LL c4] 48))
  have HK := hidden (blk_nw w #[.int .i64 (N : Int), .int .i64 f, .int .i64 d, .int .i64 p, .int .i64 r, .int .i64 dr, .int .i64 o, .int .i64 sl, .int .i64 md, .int .i64 fr, .slice ad zs.length cap, .slice a1 N c1, .slice a2 N c2, .slice a3 FL c3, .slice a4 LL c4] 48)
  have HT := hidden (hT.below HB0.out)
  have HV1 := hidden (hV1.later HB0.out)
  have HV2 := hidden (hV2.later HB0.out)
  have HV3 := hidden (hV3.later HB0.out)
  have HV4 := hidden (hV4.later HB0.out)
  have HQ0 := hidden q0
  have HQS := hidden qs
  have HBG := hidden hbg
  have HW2 := hidden hv2
  have CBg := hidden CBg
  have CS := hidden CS
  have CR := hidden CR
  have CLn := hidden CLn
  have CP1 := hidden CP1
  have CP2 := hidden CP2
  have CP3 := hidden CP3
  have HD := hidden hd
  have HNL := hidden hnl
  have HSL := hidden hsl
  have d1 : 1 ≤ d := by omega
  have d4 : d ≤ 4 := by omega
  have HNW : Hid (∀ t, (q t).now.length = N) := fun t => by cases t with | zero => rw [q0]; simp | succ t => rw [qs]; simp
  have HTLen : Hid (∀ t, (q t).told.length = t + 1) := fun t => by
    induction t with
    | zero => rw [q0]; rfl
    | succ t ih => rw [qs, List.length_append, ih]; rfl
  obtain ⟨i0, hi, hz0, hz1, hz2⟩ := info_of infoNow
  obtain ⟨j0, hj, hy0, hy1, hy2⟩ := info_of infoPkt
  obtain ⟨m0, hm, hx0, hx1, hx2⟩ := info_of infoPs
  obtain ⟨b1, o1, hb1e, hb1, hcx1⟩ := kInt_at HV1.out 0 (by omega)
  obtain ⟨b2, o2, hb2e, hb2, hcx2⟩ := kStr_at HV2.out 0 (by omega)
  clear hcx1 hcx2
  subst hb1e hb2e
  have E1 : ∀ j, j < N → (w.alloc (.cells #[.int .i64 (N : Int), .int .i64 f, .int .i64 d, .int .i64 p, .int .i64 r, .int .i64 dr, .int .i64 o, .int .i64 sl, .int .i64 md, .int .i64 fr, .slice ad zs.length cap, .slice (some ⟨b1, o1, none⟩) N c1, .slice (some ⟨b2, o2, none⟩) N c2, .slice a3 FL c3, .slice a4 LL c4] 48)).cell? ⟨b1, o1 + j, none⟩ = some (.int .i64 (nums.getD j 0)) := fun j hj => by
    obtain ⟨b, o, he, _, hc⟩ := kInt_at HV1.out j (by omega)
    simp only [Option.some.injEq, Addr.mk.injEq, and_true] at he
    obtain ⟨rfl, rfl⟩ := he
    rw [hc, List.getD_eq_getElem?_getD, List.getElem?_eq_getElem (by omega)]
    rfl
  have E2 : ∀ j, j < N → (w.alloc (.cells #[.int .i64 (N : Int), .int .i64 f, .int .i64 d, .int .i64 p, .int .i64 r, .int .i64 dr, .int .i64 o, .int .i64 sl, .int .i64 md, .int .i64 fr, .slice ad zs.length cap, .slice (some ⟨b1, o1, none⟩) N c1, .slice (some ⟨b2, o2, none⟩) N c2, .slice a3 FL c3, .slice a4 LL c4] 48)).cell? ⟨b2, o2 + j, none⟩ = some (.string (seen.getD j noB)) := fun j hj => by
    obtain ⟨b, o, he, _, hc⟩ := kStr_at HV2.out j (by omega)
    simp only [Option.some.injEq, Addr.mk.injEq, and_true] at he
    obtain ⟨rfl, rfl⟩ := he
    exact hc
  have HKW := hidden (fun V (h : Below (w.alloc (.cells #[.int .i64 (N : Int), .int .i64 f, .int .i64 d, .int .i64 p, .int .i64 r, .int .i64 dr, .int .i64 o, .int .i64 sl, .int .i64 md, .int .i64 fr, .slice ad zs.length cap, .slice (some ⟨b1, o1, none⟩) N c1, .slice (some ⟨b2, o2, none⟩) N c2, .slice a3 FL c3, .slice a4 LL c4] 48)).heap.size (w.alloc (.cells #[.int .i64 (N : Int), .int .i64 f, .int .i64 d, .int .i64 p, .int .i64 r, .int .i64 dr, .int .i64 o, .int .i64 sl, .int .i64 md, .int .i64 fr, .slice ad zs.length cap, .slice (some ⟨b1, o1, none⟩) N c1, .slice (some ⟨b2, o2, none⟩) N c2, .slice a3 FL c3, .slice a4 LL c4] 48)) V) => blk_later HK.out h)
  have HTW := hidden (fun V (h : Below (w.alloc (.cells #[.int .i64 (N : Int), .int .i64 f, .int .i64 d, .int .i64 p, .int .i64 r, .int .i64 dr, .int .i64 o, .int .i64 sl, .int .i64 md, .int .i64 fr, .slice ad zs.length cap, .slice (some ⟨b1, o1, none⟩) N c1, .slice (some ⟨b2, o2, none⟩) N c2, .slice a3 FL c3, .slice a4 LL c4] 48)).heap.size (w.alloc (.cells #[.int .i64 (N : Int), .int .i64 f, .int .i64 d, .int .i64 p, .int .i64 r, .int .i64 dr, .int .i64 o, .int .i64 sl, .int .i64 md, .int .i64 fr, .slice ad zs.length cap, .slice (some ⟨b1, o1, none⟩) N c1, .slice (some ⟨b2, o2, none⟩) N c2, .slice a3 FL c3, .slice a4 LL c4] 48)) V) => HT.out.below h)
  have HV3W := hidden (fun V (h : Below (w.alloc (.cells #[.int .i64 (N : Int), .int .i64 f, .int .i64 d, .int .i64 p, .int .i64 r, .int .i64 dr, .int .i64 o, .int .i64 sl, .int .i64 md, .int .i64 fr, .slice ad zs.length cap, .slice (some ⟨b1, o1, none⟩) N c1, .slice (some ⟨b2, o2, none⟩) N c2, .slice a3 FL c3, .slice a4 LL c4] 48)).heap.size (w.alloc (.cells #[.int .i64 (N : Int), .int .i64 f, .int .i64 d, .int .i64 p, .int .i64 r, .int .i64 dr, .int .i64 o, .int .i64 sl, .int .i64 md, .int .i64 fr, .slice ad zs.length cap, .slice (some ⟨b1, o1, none⟩) N c1, .slice (some ⟨b2, o2, none⟩) N c2, .slice a3 FL c3, .slice a4 LL c4] 48)) V) => HV3.out.later h)
  have HV4W := hidden (fun V (h : Below (w.alloc (.cells #[.int .i64 (N : Int), .int .i64 f, .int .i64 d, .int .i64 p, .int .i64 r, .int .i64 dr, .int .i64 o, .int .i64 sl, .int .i64 md, .int .i64 fr, .slice ad zs.length cap, .slice (some ⟨b1, o1, none⟩) N c1, .slice (some ⟨b2, o2, none⟩) N c2, .slice a3 FL c3, .slice a4 LL c4] 48)).heap.size (w.alloc (.cells #[.int .i64 (N : Int), .int .i64 f, .int .i64 d, .int .i64 p, .int .i64 r, .int .i64 dr, .int .i64 o, .int .i64 sl, .int .i64 md, .int .i64 fr, .slice ad zs.length cap, .slice (some ⟨b1, o1, none⟩) N c1, .slice (some ⟨b2, o2, none⟩) N c2, .slice a3 FL c3, .slice a4 LL c4] 48)) V) => HV4.out.later h)
  have HE1 := hidden (fun V (h : Below (w.alloc (.cells #[.int .i64 (N : Int), .int .i64 f, .int .i64 d, .int .i64 p, .int .i64 r, .int .i64 dr, .int .i64 o, .int .i64 sl, .int .i64 md, .int .i64 fr, .slice ad zs.length cap, .slice (some ⟨b1, o1, none⟩) N c1, .slice (some ⟨b2, o2, none⟩) N c2, .slice a3 FL c3, .slice a4 LL c4] 48)).heap.size (w.alloc (.cells #[.int .i64 (N : Int), .int .i64 f, .int .i64 d, .int .i64 p, .int .i64 r, .int .i64 dr, .int .i64 o, .int .i64 sl, .int .i64 md, .int .i64 fr, .slice ad zs.length cap, .slice (some ⟨b1, o1, none⟩) N c1, .slice (some ⟨b2, o2, none⟩) N c2, .slice a3 FL c3, .slice a4 LL c4] 48)) V) j hj => (h.cell (p := ⟨b1, o1 + j, none⟩) hb1).trans (E1 j hj))
  have HE2 := hidden (fun V (h : Below (w.alloc (.cells #[.int .i64 (N : Int), .int .i64 f, .int .i64 d, .int .i64 p, .int .i64 r, .int .i64 dr, .int .i64 o, .int .i64 sl, .int .i64 md, .int .i64 fr, .slice ad zs.length cap, .slice (some ⟨b1, o1, none⟩) N c1, .slice (some ⟨b2, o2, none⟩) N c2, .slice a3 FL c3, .slice a4 LL c4] 48)).heap.size (w.alloc (.cells #[.int .i64 (N : Int), .int .i64 f, .int .i64 d, .int .i64 p, .int .i64 r, .int .i64 dr, .int .i64 o, .int .i64 sl, .int .i64 md, .int .i64 fr, .slice ad zs.length cap, .slice (some ⟨b1, o1, none⟩) N c1, .slice (some ⟨b2, o2, none⟩) N c2, .slice a3 FL c3, .slice a4 LL c4] 48)) V) j hj => (h.cell (p := ⟨b2, o2 + j, none⟩) hb2).trans (E2 j hj))
  have hwl : w.heap.size < (w.alloc (.cells #[.int .i64 (N : Int), .int .i64 f, .int .i64 d, .int .i64 p, .int .i64 r, .int .i64 dr, .int .i64 o, .int .i64 sl, .int .i64 md, .int .i64 fr, .slice ad zs.length cap, .slice (some ⟨b1, o1, none⟩) N c1, .slice (some ⟨b2, o2, none⟩) N c2, .slice a3 FL c3, .slice a4 LL c4] 48)).heap.size := by simp
  clear hT hV1 hV2 hV3 hV4 q0 qs hbg hv2 hd hnl hsl E1 E2 HK HT HV1 HV2 HV3 HV4
  go_enter Try.func22, Try.ntmps22
  go_wp2
  generalize w.alloc (.cells #[.int .i64 (N : Int), .int .i64 f, .int .i64 d, .int .i64 p, .int .i64 r, .int .i64 dr, .int .i64 o, .int .i64 sl, .int .i64 md, .int .i64 fr, .slice ad zs.length cap, .slice (some ⟨b1, o1, none⟩) N c1, .slice (some ⟨b2, o2, none⟩) N c2, .slice a3 FL c3, .slice a4 LL c4] 48) = W1 at *
  go_loopw [3, 4] (fun a i wr => ∃ k : Nat, k ≤ N ∧ i = .int .i64 k ∧ wr.ownsRow W1.heap.size 37 3 a k (kNow.flat ((List.range k).map bg)) ∧ Below W1.heap.size W1 wr) (fun _ i _ => N - (intV i).toNat)
  case atStart => exact ⟨0, Nat.zero_le _, rfl, World.ownsRow_nil _ _ _ _, Below.refl _ _⟩
  case round =>
    obtain ⟨i, hi1, rfl, hown, hB⟩ := hrel
    have HBi := hidden hB
    have HOi := hidden hown
    have HKi := hidden (HKW.out wr hB)
    clear hB hown
    by_cases hit : i < N
    · have i1 : (i : Int) < (N : Int) := by omega
      have i2 : (0 : Int) ≤ (i : Int) := by omega
      have HC := hidden (CBg.out i hit)
      have HBGi := hidden (HBG.out i)
      have HS := hidden (List.range_succ (n := i))
      have hlb1 : b1 < wr.heap.size := by have := HBi.out.size; omega
      have hlb2 : b2 < wr.heap.size := by have := HBi.out.size; omega
      generalize hbgi : bg i = bgi at *
      have HBQ := hidden hbgi
      clear hbgi
      obtain ⟨bag, bco, bgo⟩ := bgi
      have e3 := HBGi.out
      simp only [StA.mk.injEq, true_and] at e3
      obtain ⟨rfl, rfl⟩ := e3
      dsimp only at HC
      have hC0 : Chn W1.heap.size W1 wr := ⟨HBi.out, HBi.out.size⟩
      have hS : ∀ V, Chn W1.heap.size W1 V → V.cell? ⟨w.heap.size, 0, none⟩ = some (.int .i64 (N : Int)) ∧ V.cell? ⟨w.heap.size, 1, none⟩ = some (.int .i64 f) ∧ V.cell? ⟨w.heap.size, 2, none⟩ = some (.int .i64 d) ∧ V.cell? ⟨w.heap.size, 3, none⟩ = some (.int .i64 p) ∧ V.cell? ⟨w.heap.size, 4, none⟩ = some (.int .i64 r) ∧ V.cell? ⟨w.heap.size, 5, none⟩ = some (.int .i64 dr) ∧ V.cell? ⟨w.heap.size, 6, none⟩ = some (.int .i64 o) ∧ V.cell? ⟨w.heap.size, 7, none⟩ = some (.int .i64 sl) ∧ V.cell? ⟨w.heap.size, 8, none⟩ = some (.int .i64 md) ∧ V.cell? ⟨w.heap.size, 9, none⟩ = some (.int .i64 fr) ∧ V.cell? ⟨w.heap.size, 10, none⟩ = some (.slice ad zs.length cap) ∧ V.cell? ⟨w.heap.size, 11, none⟩ = some (.slice (some ⟨b1, o1, none⟩) N c1) ∧ V.cell? ⟨w.heap.size, 12, none⟩ = some (.slice (some ⟨b2, o2, none⟩) N c2) ∧ V.cell? ⟨b1, o1 + i, none⟩ = some (.int .i64 (nums.getD i 0)) ∧ V.cell? ⟨b2, o2 + i, none⟩ = some (.string (seen.getD i noB)) := by
        intro V h
        have l1 := blk_cell (HKW.out V h.1)
        exact ⟨l1 0, l1 1, l1 2, l1 3, l1 4, l1 5, l1 6, l1 7, l1 8, l1 9, l1 10, l1 11, l1 12, HE1.out V h.1 i hit, HE2.out V h.1 i hit⟩
      have l0 := blk_lt HKi.out
      have c0 := blk_cell HKi.out
      generalize hn1 : nums.getD i 0 = nu at *
      generalize hn2 : seen.getD i noB = se at *
      clear hn1 hn2
      go_wp2_with fail
      go_region_held3 (fun V => V.cell? ⟨w.heap.size, 0, none⟩ = some (.int .i64 (N : Int)) ∧ V.cell? ⟨w.heap.size, 1, none⟩ = some (.int .i64 f) ∧ V.cell? ⟨w.heap.size, 2, none⟩ = some (.int .i64 d) ∧ V.cell? ⟨w.heap.size, 3, none⟩ = some (.int .i64 p) ∧ V.cell? ⟨w.heap.size, 4, none⟩ = some (.int .i64 r) ∧ V.cell? ⟨w.heap.size, 5, none⟩ = some (.int .i64 dr) ∧ V.cell? ⟨w.heap.size, 6, none⟩ = some (.int .i64 o) ∧ V.cell? ⟨w.heap.size, 7, none⟩ = some (.int .i64 sl) ∧ V.cell? ⟨w.heap.size, 8, none⟩ = some (.int .i64 md) ∧ V.cell? ⟨w.heap.size, 9, none⟩ = some (.int .i64 fr) ∧ V.cell? ⟨w.heap.size, 10, none⟩ = some (.slice ad zs.length cap) ∧ V.cell? ⟨w.heap.size, 11, none⟩ = some (.slice (some ⟨b1, o1, none⟩) N c1) ∧ V.cell? ⟨w.heap.size, 12, none⟩ = some (.slice (some ⟨b2, o2, none⟩) N c2) ∧ V.cell? ⟨b1, o1 + i, none⟩ = some (.int .i64 nu) ∧ V.cell? ⟨b2, o2 + i, none⟩ = some (.string se)) (first | exact hS _ (by first | with_reducible assumption | (repeat (first | with_reducible assumption | with_reducible refine Chn.drew ?_ | with_reducible refine Chn.alloc ?_ _))))
        (first
        | (go_at_call 18; refine (HC.out _ (HTW.out _ (show Chn W1.heap.size W1 _ from (by repeat (first | with_reducible assumption | with_reducible refine Chn.drew ?_ | with_reducible refine Chn.alloc ?_ _))).1)).mono ?_; rintro e w5 ⟨rfl, hb5⟩; have hC5 := Chn.below (show Chn wr.heap.size wr _ from (by repeat (first | exact Chn.refl (Nat.le_refl _) | with_reducible refine Chn.drew ?_ | with_reducible refine Chn.alloc ?_ _))) hb5; have hD5 : Chn W1.heap.size W1 w5 := Chn.below hC0 hC5.out; clear hb5)
        | (refine kNow.step_append _ rfl (.tmp 21) (.tmp 36) 49 rfl W1.heap.size 37 i0 (.agg #[.int .i64 0, .string noB, .string noB]) 40 Try.underlying49 hi hz0 hz1 hz2 rfl u3 i _ rfl ((own_below HOi.out hC5.out).alloc _) (.slice (some ⟨w5.heap.size, 0, none⟩) 1 1) [⟨0, bco, noB⟩] rfl (Kind.Lies.of_block (K := kNow) (t := 37) (es := [⟨0, bco, noB⟩]) (heap_alloc_new w5 _) (by simp only [maxLen, List.length_singleton]; omega)) (by simp only [maxLen, List.length_singleton]; omega) (by simp only [List.length_singleton]; omega) (by have := hD5.2; simp; omega) ?_; intro v7 w7 hown7 hgrow7 hbl7; have hC7 := chn_row (hD5.alloc _) hgrow7 (own_from HOi.out)))
      all_goals
        have hrow : w7.ownsRow W1.heap.size 37 3 v7 (i + 1) (kNow.flat ((List.range (i + 1)).map bg)) := by
          rw [HS.out, List.map_append, List.map_singleton, Kind.flat_append, HBQ.out]
          exact hown7
        go_wp2
        go_roundw
        case rel => exact ⟨i + 1, by omega, by go_num, hrow, hC7.1⟩
        case measure => simp [intV]; omega
    · obtain rfl : N = i := by omega
      have HOb := HOi.out
      obtain ⟨ga, ca, hu, hga, hga2⟩ := ownA_open HOb (by omega)
      rw [hu] at HOb
      subst hu
      have e0 : (q 0).now = (List.range N).map bg := by rw [HQ0.out]
      rw [← e0] at HOb
      have hlN : kNow.Lies wr.heap.size wr (.slice (some ⟨ga, 0, none⟩) N ca) (q 0).now := by
        have z := Kind.Lies.of_own (K := kNow) (base := W1.heap.size) (e := 37) (v := .slice (some ⟨ga, 0, none⟩) N ca) (es := (q 0).now) (W := wr) (by rw [HNW.out]; exact HOb)
        exact z
      have CR0 := hidden (CR.out 0 (Nat.zero_le _) wr _ _ (HTW.out wr HBi.out) hlN)
      have HOA := hidden HOb
      have i1 : ¬ (N : Int) < (N : Int) := by omega
      have c0 := blk_cell HKi.out
      have l0 := blk_lt HKi.out
      have hwi := HBi.out.size
      clear HOb hlN HOi hga hga2 e0
      go_wp2_with fail
      refine CR0.out.mono ?_
      rintro e w2 ⟨v2, rfl, hr2, hb⟩
      obtain ⟨gr, cr, hv, hgr, hgr2⟩ := ownA_open hr2 (by omega)
      rw [hv] at hr2
      subst hv
      obtain ⟨e0, he0⟩ : ∃ e0 : Option Addr × Nat × List Pkt, e0 = (some ⟨gr, 0, none⟩, cr, (q 0).now.map tp) := ⟨_, rfl⟩
      have he1 : e0.2.2 = (q 0).now.map tp := by rw [he0]
      have he2 : e0.2.2.length = N := by rw [he1, List.length_map]; exact HNW.out 0
      have he3 : slP e0 = .slice (some ⟨gr, 0, none⟩) N cr := by unfold slP; rw [he2, he0]
      have he4 : kPs.flat [e0] = [.slice (some ⟨gr, 0, none⟩) N cr] := by rw [kPs_flat]; simp only [List.map_cons, List.map_nil]; rw [show Value.slice e0.1 e0.2.2.length e0.2.1 = slP e0 from rfl, he3]
      have hbA := ballc w2 (.cells #[.slice (some ⟨gr, 0, none⟩) N cr] 42)
      have hB2 := bthen HBi.out hb
      have HM0 : Hid (MemA W1.heap.size (w2.alloc (.cells #[.slice (some ⟨gr, 0, none⟩) N cr] 42)) (.slice (some ⟨w2.heap.size, 0, none⟩) 1 1) (.slice (some ⟨ga, 0, none⟩) N ca) [e0] (q 0).now N) := by
        refine ⟨?_, own_below (own_below HOA.out hb) hbA, fun e he => ?_⟩
        · rw [he4]
          exact ⟨rfl, .inr ⟨w2.heap.size, 1, #[.slice (some ⟨gr, 0, none⟩) N cr], rfl, hB2.size, heap_alloc_new w2 _, Nat.le_refl _, by decide, rfl, rfl⟩⟩
        · rw [List.mem_singleton] at he
          subst he
          refine ⟨he2, ?_⟩
          rw [he3, he1]
          exact own_below (own_low hr2 hwi) hbA
      have HTD0 : Hid (([e0].map fun e => e.2.2) = (q 0).told) := by
        show [e0.2.2] = _
        have hq0 := HQ0.out
        rw [he1, hq0]
      have HB3 := hidden (bthen hB2 hbA)
      clear he0 he1 he2 he3 he4 hr2 hb hbA hB2 hgr hgr2 HOA c0 l0 i1
      go_wp2
      generalize w2.alloc (.cells #[.slice (some ⟨gr, 0, none⟩) N cr] 42) = w3 at *
      go_loopw [3, 5, 6] (fun A T i wr => ∃ (s : Nat) (svs : List (Option Addr × Nat × List Pkt)), 1 ≤ s ∧ s ≤ L + 1 ∧ i = .int .i64 s ∧ MemA W1.heap.size wr T A svs (q (s - 1)).now N ∧ (svs.map fun e => e.2.2) = (q (s - 1)).told ∧ svs.length = s ∧ Below W1.heap.size W1 wr) (fun _ _ i _ => L + 1 - (intV i).toNat)
      case atStart => exact ⟨1, [e0], Nat.le_refl _, by omega, rfl, HM0.out, HTD0.out, rfl, HB3.out⟩
      case round =>
        obtain ⟨s, svs, hs1, hsL, rfl, hM, htd, hsl, hB⟩ := hrel
        obtain ⟨t, hst⟩ : ∃ t, s = t + 1 := ⟨s - 1, by omega⟩
        rw [show s - 1 = t by omega] at hM htd
        have HST := hidden hst
        have HM := hidden hM
        have HTD := hidden htd
        have HSV := hidden hsl
        have HBt := hidden hB
        have HKt := hidden (HKW.out wr hB)
        have htL : t ≤ L := by omega
        obtain ⟨ga, ca, hu, hga, _⟩ := ownA_open hM.all (by omega)
        subst hu
        clear hM htd hsl hB hst HM0 HTD0 HB3
        have c0 := blk_cell HKt.out
        have l0 := blk_lt HKt.out
        go_wp2_with fail
        refine (CLn.out wr (HTW.out wr HBt.out)).mono ?_
        rintro e w4 ⟨rfl, hb⟩
        have HM4 := hidden (HM.out.below hb)
        have HB4 := hidden (bthen HBt.out hb)
        have HK4 := hidden (HKW.out w4 (bthen HBt.out hb))
        clear hb c0 l0 HM HKt
        by_cases hss : s ≤ L
        · have s1 : (s : Int) ≤ (L : Int) := by omega
          have htL' : t < L := by have := HST.out; omega
          go_wp2
          go_loopw [7, 8] (fun v i wr => ∃ k : Nat, k ≤ N ∧ i = .int .i64 k ∧ wr.ownsRow w4.heap.size 37 3 v k (kNow.flat ((List.range k).map (nx t))) ∧ Below w4.heap.size w4 wr) (fun _ i _ => N - (intV i).toNat)
          case atStart => exact ⟨0, Nat.zero_le _, rfl, World.ownsRow_nil _ _ _ _, Below.refl _ _⟩
          case round =>
            obtain ⟨i, hi1, rfl, hv, hB⟩ := hrel
            have HVi := hidden hv
            have HBi := hidden hB
            have HBI := hidden (bthen HB4.out hB)
            have HKi := hidden (HKW.out wr (bthen HB4.out hB))
            have his := hB.size
            clear hv hB
            have c0 := blk_cell HKi.out
            have l0 := blk_lt HKi.out
            by_cases hit : i < N
            · have i1 : (i : Int) < (N : Int) := by omega
              have i2 : (0 : Int) ≤ (i : Int) := by omega
              obtain ⟨wi, hwi⟩ : ∃ wi, wi = wr := ⟨_, rfl⟩
              rw [← hwi] at HVi HBi HBI HKi his c0 l0 ⊢
              subst hwi
              go_wp2
              clear c0 l0
              go_loopw [9, 10] (fun v k wr => ∃ j : Nat, j ≤ N ∧ k = .int .i64 j ∧ wr.ownsRow wi.heap.size 74 6 v j (kPkt.flat ((List.range j).map (vo s i))) ∧ Below wi.heap.size wi wr) (fun _ k _ => N - (intV k).toNat)
              case atStart => exact ⟨0, Nat.zero_le _, rfl, World.ownsRow_nil _ _ _ _, Below.refl _ _⟩
              case round =>
                obtain ⟨k, hk1, rfl, hv, hB⟩ := hrel
                have HVk := hidden hv
                have HBk := hidden hB
                have HBK := hidden (bthen HBI.out hB)
                have HKk := hidden (HKW.out wr (bthen HBI.out hB))
                have hks := hB.size
                clear hv hB
                have c0 := blk_cell HKk.out
                have l0 := blk_lt HKk.out
                by_cases hkt : k < N
                · have k1 : (k : Int) < (N : Int) := by omega
                  have k2 : (0 : Int) ≤ (k : Int) := by omega
                  have HSK := hidden (List.range_succ (n := k))
                  by_cases hsD : s < D
                  · have CPk := hidden (fun T => CP1.out s k i T hs1 hss hsD hkt hit wr)
                    clear hsD
                    generalize hvv : vo s i k = vk at *
                    have HVV := hidden hvv
                    clear hvv
                    obtain ⟨vo1, ex1, ve1, ps1, cy1, te1⟩ := vk
                    unfold pkV at CPk
                    dsimp only at CPk
                    go_wp2_with fail
                    refine (CPk.out _).mono ?_
                    rintro e w5 ⟨rfl, hb⟩
                    have HB5 := hidden (bthen HBk.out hb)
                    have HV5 := hidden (own_below HVk.out hb)
                    have h5s := HB5.out.size
                    clear hb c0 l0
                    go_wp2_with (at_builtin; refine kPkt.wpList_append _ rfl (.tmp 63) (.tmp 74) 42 rfl wi.heap.size 74 j0 (.agg #[.string noB, .int .i64 0, .string noB, .int .i64 0, .int .i64 0, .string noB]) 72 Try.underlying42 hj hy0 hy1 hy2 rfl u9 k _ rfl (HV5.out.alloc _) (.slice (some ⟨w5.heap.size, 0, none⟩) 1 1) [⟨vo1, ex1, ve1, ps1, cy1, te1⟩] rfl (Kind.Lies.of_block (K := kPkt) (t := 74) (es := [⟨vo1, ex1, ve1, ps1, cy1, te1⟩]) (heap_alloc_new w5 _) (by simp [maxLen])) (by simp only [maxLen, List.length_singleton]; omega) (by simp only [List.length_singleton]; omega) (by simp; omega) ?_; intro v7 w7 hown7 hgrow7 _)
                    have hB7 : Below wi.heap.size wi w7 := (HB5.out.alloc h5s _).grown hgrow7 (by simp; omega) (own_from HV5.out)
                    have hrow7 : w7.ownsRow wi.heap.size 74 6 v7 (k + 1) (kPkt.flat ((List.range (k + 1)).map (vo s i))) := by
                      rw [HSK.out, List.map_append, List.map_singleton, Kind.flat_append, HVV.out]
                      exact hown7
                    go_roundw
                    case rel => exact ⟨k + 1, by omega, by go_num, hrow7, hB7⟩
                    case measure => simp [intV]; omega
                  · cases hfk : fa k with
                    | true =>
                      have CPk := hidden (fun T => CP2.out s k i T hs1 hss hsD hfk hkt hit wr (HV3W.out wr HBK.out) (HV4W.out wr HBK.out))
                      clear hsD hfk
                      generalize hvv : vo s i k = vk at *
                      have HVV := hidden hvv
                      clear hvv
                      obtain ⟨vo1, ex1, ve1, ps1, cy1, te1⟩ := vk
                      unfold pkV at CPk
                      dsimp only at CPk
                      go_wp2_with fail
                      refine (CPk.out _).mono ?_
                      rintro e w5 ⟨rfl, hb⟩
                      have HB5 := hidden (bthen HBk.out hb)
                      have HV5 := hidden (own_below HVk.out hb)
                      have h5s := HB5.out.size
                      clear hb c0 l0
                      go_wp2_with (at_builtin; refine kPkt.wpList_append _ rfl (.tmp 63) (.tmp 74) 42 rfl wi.heap.size 74 j0 (.agg #[.string noB, .int .i64 0, .string noB, .int .i64 0, .int .i64 0, .string noB]) 72 Try.underlying42 hj hy0 hy1 hy2 rfl u9 k _ rfl (HV5.out.alloc _) (.slice (some ⟨w5.heap.size, 0, none⟩) 1 1) [⟨vo1, ex1, ve1, ps1, cy1, te1⟩] rfl (Kind.Lies.of_block (K := kPkt) (t := 74) (es := [⟨vo1, ex1, ve1, ps1, cy1, te1⟩]) (heap_alloc_new w5 _) (by simp [maxLen])) (by simp only [maxLen, List.length_singleton]; omega) (by simp only [List.length_singleton]; omega) (by simp; omega) ?_; intro v7 w7 hown7 hgrow7 _)
                      have hB7 : Below wi.heap.size wi w7 := (HB5.out.alloc h5s _).grown hgrow7 (by simp; omega) (own_from HV5.out)
                      have hrow7 : w7.ownsRow wi.heap.size 74 6 v7 (k + 1) (kPkt.flat ((List.range (k + 1)).map (vo s i))) := by
                        rw [HSK.out, List.map_append, List.map_singleton, Kind.flat_append, HVV.out]
                        exact hown7
                      go_roundw
                      case rel => exact ⟨k + 1, by omega, by go_num, hrow7, hB7⟩
                      case measure => simp [intV]; omega
                    | false =>
                      have HE := hidden (HW2.out s i k hsD hfk)
                      have hMk := (HM4.out.below HBi.out).below HBk.out
                      obtain ⟨u, hu⟩ : ∃ u : Nat, u = s - D := ⟨_, rfl⟩
                      have hus : u < s := by omega
                      have hul : u < svs.length := by rw [HSV.out]; exact hus
                      obtain ⟨gt, ct, hTv, _, hgt⟩ := ownA_open hMk.told (by omega)
                      have et : wr.cell? ⟨gt, u, none⟩ = some (slP svs[u]) := by
                        have h1 := hMk.told
                        rw [hTv] at h1
                        have h2 := h1.cellAt u (by omega)
                        rw [kPs_flat, List.getElem?_map, List.getElem?_eq_getElem hul] at h2
                        exact h2
                      have hmem : svs[u] ∈ svs := List.getElem_mem hul
                      obtain ⟨hel, hrow⟩ := hMk.rows _ hmem
                      have hcon : svs[u].2.2 = (q t).told.getD u [] := by
                        rw [← HTD.out, List.getD_eq_getElem?_getD, List.getElem?_map, List.getElem?_eq_getElem hul]
                        rfl
                      have hs1' : s - 1 = t := by have := HST.out; omega
                      have HE2 := HE.out
                      rw [hs1', ← hu, ← hcon] at HE2
                      obtain ⟨⟨ea, ec, er⟩, hee⟩ : ∃ e, svs[u] = e := ⟨_, rfl⟩
                      rw [hee] at et hel hrow HE2
                      unfold slP at et hrow
                      dsimp only at et hel hrow HE2
                      obtain ⟨ge, ce, hEv, _, hge⟩ := ownA_open hrow (by omega)
                      rw [hel] at et hrow hEv
                      simp only [Value.slice.injEq, true_and] at hEv
                      obtain ⟨rfl, rfl⟩ := hEv
                      have ek : ∀ j x, (pktC (vo s i k))[j]? = some x → wr.cell? ⟨ge, k * 6 + j, none⟩ = some x := fun j x hx => by
                        have hj6 : j < 6 := by
                          have := (List.getElem?_eq_some_iff.1 hx).1
                          exact this
                        have h2 := hrow.cellAt (k * 6 + j) (by omega)
                        have h3 := kPkt.flat_get er k (by omega) j hj6
                        rw [show k * kPkt.k + j = k * 6 + j from rfl] at h3
                        have h4 : kPkt.enc er[k] = pktC (vo s i k) := by
                          rw [HE2, List.getD_eq_getElem?_getD, List.getElem?_eq_getElem (by omega)]
                          rfl
                        rw [h2, h3, h4, hx]
                      rw [hu] at et
                      have CPk := hidden (CP3.out s k i gt svs.length ct ge ec (vo s i k) hs1 hss hsD hfk hkt hit (by omega) wr (HV3W.out wr HBK.out) hgt hge et ek)
                      clear hsD hfk hMk hul hmem hcon hs1' HE2 hee hel hrow ek et hge hgt hu hus HE
                      subst hTv
                      generalize svs.length = SLn at *
                      generalize hvv : vo s i k = vk at *
                      have HVV := hidden hvv
                      clear hvv
                      obtain ⟨vo1, ex1, ve1, ps1, cy1, te1⟩ := vk
                      unfold pkV at CPk
                      dsimp only at CPk
                      go_wp2_with fail
                      refine (CPk.out).mono ?_
                      rintro e w5 ⟨rfl, hb⟩
                      have HB5 := hidden (bthen HBk.out hb)
                      have HV5 := hidden (own_below HVk.out hb)
                      have h5s := HB5.out.size
                      clear hb c0 l0
                      go_wp2_with (at_builtin; refine kPkt.wpList_append _ rfl (.tmp 63) (.tmp 74) 42 rfl wi.heap.size 74 j0 (.agg #[.string noB, .int .i64 0, .string noB, .int .i64 0, .int .i64 0, .string noB]) 72 Try.underlying42 hj hy0 hy1 hy2 rfl u9 k _ rfl (HV5.out.alloc _) (.slice (some ⟨w5.heap.size, 0, none⟩) 1 1) [⟨vo1, ex1, ve1, ps1, cy1, te1⟩] rfl (Kind.Lies.of_block (K := kPkt) (t := 74) (es := [⟨vo1, ex1, ve1, ps1, cy1, te1⟩]) (heap_alloc_new w5 _) (by simp [maxLen])) (by simp only [maxLen, List.length_singleton]; omega) (by simp only [List.length_singleton]; omega) (by simp; omega) ?_; intro v7 w7 hown7 hgrow7 _)
                      have hB7 : Below wi.heap.size wi w7 := (HB5.out.alloc h5s _).grown hgrow7 (by simp; omega) (own_from HV5.out)
                      have hrow7 : w7.ownsRow wi.heap.size 74 6 v7 (k + 1) (kPkt.flat ((List.range (k + 1)).map (vo s i))) := by
                        rw [HSK.out, List.map_append, List.map_singleton, Kind.flat_append, HVV.out]
                        exact hown7
                      go_roundw
                      case rel => exact ⟨k + 1, by omega, by go_num, hrow7, hB7⟩
                      case measure => simp [intV]; omega
                · obtain rfl : N = k := by omega
                  have k1 : ¬ (N : Int) < (N : Int) := by omega
                  have hMk := (HM4.out.below HBi.out).below HBk.out
                  obtain ⟨vA, vC, hvv⟩ := own_slice HVk.out
                  subst hvv
                  have hvl : ((List.range N).map (vo s i)).length = N := by simp
                  have hli : kPkt.Lies wr.heap.size wr (.slice vA N vC) ((List.range N).map (vo s i)) := by
                    have z := Kind.Lies.of_own (K := kPkt) (base := wi.heap.size) (e := 74) (v := .slice vA N vC) (es := (List.range N).map (vo s i)) (W := wr) (by rw [hvl]; exact HVk.out)
                    exact z
                  have HLI := hidden hli
                  have hnl := HNW.out t
                  have ec : ∀ j x, (kNow.enc ((q t).now.getD i zA))[j]? = some x → wr.cell? ⟨ga, i * 3 + j, none⟩ = some x := fun j x hx => by
                    have hj3 : j < 3 := (List.getElem?_eq_some_iff.1 hx).1
                    have h2 := hMk.all.cellAt (i * 3 + j) (by omega)
                    have h3 := kNow.flat_get (q t).now i (by omega) j hj3
                    rw [show i * kNow.k + j = i * 3 + j from rfl] at h3
                    have h4 : kNow.enc (q t).now[i] = kNow.enc ((q t).now.getD i zA) := by
                      rw [List.getD_eq_getElem?_getD, List.getElem?_eq_getElem (by omega)]
                      rfl
                    rw [h2, h3, h4, hx]
                  have e0 := ec 0 _ rfl
                  have e1 := ec 1 _ rfl
                  have e2 := ec 2 _ rfl
                  rw [Nat.add_zero] at e0
                  have hgl : ga < wr.heap.size := (hMk.all.lt ga rfl).2
                  have CSi := hidden (fun V a c hT hv => CS.out t i htL' hit V a c hT (by rw [← HST.out]; exact hv))
                  have HTk := hidden (HTW.out wr HBK.out)
                  have HVI := hidden (own_below HVi.out HBk.out)
                  have HSI := hidden (List.range_succ (n := i))
                  clear hli hvl ec hMk hnl HVk
                  generalize hni : nx t i = ni at *
                  have HNI := hidden hni
                  clear hni
                  obtain ⟨na, nc, ng⟩ := ni
                  dsimp only at CSi
                  generalize ((q t).now.getD i zA).age = og at *
                  generalize ((q t).now.getD i zA).codes = oc at *
                  generalize ((q t).now.getD i zA).got = oo at *
                  go_wp2
                  refine wp_region_quiet_below (by kernel_rfl) (by kernel_rfl) ?_
                  repeat (go_big_quiet_step (fail))
                  go_big_quiet_step ((go_at_call 20; exact Calls.regrown_of (CSi.out _ _ _ (HTk.out.below (below_regrown _ _ _)) (HLI.out.later (below_regrown _ _ _)))))
                  repeat (go_big_quiet_step (fail))
                  refine wpQuiet_nil ?_
                  intro w5 hw5
                  have HV5 := hidden (own_below HVI.out (rg_below hw5))
                  have HB5 := hidden (bthen (bthen HBi.out HBk.out) (rg_below hw5))
                  have h5s := HB5.out.size
                  clear hw5 c0 l0 e0 e1 e2
                  go_wp2_with (at_builtin; refine kNow.wpList_append _ rfl (.tmp 99) (.tmp 104) 49 rfl w4.heap.size 37 i0 (.agg #[.int .i64 0, .string noB, .string noB]) 40 Try.underlying49 hi hz0 hz1 hz2 rfl u7 i _ rfl (HV5.out.alloc _) (.slice (some ⟨w5.heap.size, 0, none⟩) 1 1) [⟨na, nc, ng⟩] rfl (Kind.Lies.of_block (K := kNow) (t := 37) (es := [⟨na, nc, ng⟩]) (heap_alloc_new w5 _) (by simp [maxLen])) (by simp only [maxLen, List.length_singleton]; omega) (by simp only [List.length_singleton]; omega) (by simp; omega) ?_; intro v9 w9 hown9 hgrow9 _)
                  have hB9 : Below w4.heap.size w4 w9 := (HB5.out.alloc h5s _).grown hgrow9 (by simp; omega) (own_from HV5.out)
                  have hrow9 : w9.ownsRow w4.heap.size 37 3 v9 (i + 1) (kNow.flat ((List.range (i + 1)).map (nx t))) := by
                    rw [HSI.out, List.map_append, List.map_singleton, Kind.flat_append, HNI.out]
                    exact hown9
                  go_roundw
                  case rel => exact ⟨i + 1, by omega, by go_num, hrow9, hB9⟩
                  case measure => simp [intV]; omega
            · obtain rfl : N = i := by omega
              have i1 : ¬ (N : Int) < (N : Int) := by omega
              have hq := HQS.out t
              have hqn : (q (t + 1)).now = (List.range N).map (nx t) := by rw [hq]
              obtain ⟨gn, cn, hu, hgn, hgn2⟩ := ownA_open HVi.out (by omega)
              have HOn := HVi.out
              rw [hu, ← hqn] at HOn
              subst hu
              have hlN : kNow.Lies wr.heap.size wr (.slice (some ⟨gn, 0, none⟩) N cn) (q (t + 1)).now := by
                have z := Kind.Lies.of_own (K := kNow) (base := w4.heap.size) (e := 37) (v := .slice (some ⟨gn, 0, none⟩) N cn) (es := (q (t + 1)).now) (W := wr) (by rw [HNW.out]; exact HOn)
                exact z
              have CR0 := hidden (CR.out (t + 1) (by omega) wr _ _ (HTW.out wr HBI.out) hlN)
              have HMn := hidden ((HM4.out.below HBi.out).next (own_low HOn HB4.out.size))
              have hqt : (q (t + 1)).told = (q t).told ++ [(q (t + 1)).now.map tp] := by rw [hqn, hq]
              have HQT := hidden hqt
              have hwr := HBI.out.size
              have hnw := HNW.out (t + 1)
              clear hlN HOn hq hqn hgn hgn2 hqt HVi
              go_wp2_with fail
              refine CR0.out.mono ?_
              rintro e w5 ⟨v5, rfl, hr5, hb⟩
              obtain ⟨gr, cr, hv, hgr, hgr2⟩ := ownA_open hr5 (by omega)
              rw [hv] at hr5
              subst hv
              obtain ⟨e0, he0⟩ : ∃ e0 : Option Addr × Nat × List Pkt, e0 = (some ⟨gr, 0, none⟩, cr, (q (t + 1)).now.map tp) := ⟨_, rfl⟩
              have he1 : e0.2.2 = (q (t + 1)).now.map tp := by rw [he0]
              have he2 : e0.2.2.length = N := by rw [he1, List.length_map]; exact hnw
              have he3 : slP e0 = .slice (some ⟨gr, 0, none⟩) N cr := by unfold slP; rw [he2, he0]
              have he4 : (kPs.flat [e0]).toArray = #[.slice (some ⟨gr, 0, none⟩) N cr] := by rw [kPs_flat]; simp only [List.map_cons, List.map_nil]; rw [show Value.slice e0.1 e0.2.2.length e0.2.1 = slP e0 from rfl, he3]
              have hrow : w5.ownsRow W1.heap.size 74 6 (slP e0) N (kPkt.flat e0.2.2) := by
                rw [he3, he1]
                exact own_low hr5 hwr
              have HE := hidden (And.intro he1 (And.intro he2 (And.intro he4 hrow)))
              have HM5 := hidden (HMn.out.below hb)
              have HB5 := hidden (bthen HBI.out hb)
              have h5s := HB5.out.size
              have hsvl := HSV.out
              clear hr5 he0 he1 he2 he3 he4 hrow hgr hgr2 hb c0 l0 HMn
              go_wp2_with (at_builtin; refine kPs.wpList_append _ rfl (.tmp 107) (.tmp 111) 84 rfl W1.heap.size 42 m0 (.slice none 0 0) 24 Try.underlying84 hm hx0 hx1 hx2 rfl u5 svs.length _ rfl (HM5.out.told.alloc _) (.slice (some ⟨w5.heap.size, 0, none⟩) 1 1) [e0] rfl (Kind.Lies.of_block (K := kPs) (t := 42) (es := [e0]) (by rw [HE.out.2.2.1]; exact heap_alloc_new w5 _) (by simp [maxLen])) (by simp only [maxLen, List.length_singleton]; omega) (by simp only [List.length_singleton]; omega) (by simp; omega) ?_; intro v7 w7 hown7 hgrow7 _)
              have hM7 := (HM5.out.below (ballc w5 _)).tell e0 HE.out.2.1 (own_below HE.out.2.2.2 (ballc w5 _)) hgrow7 hown7
              have hB7 : Below W1.heap.size W1 w7 := (HB5.out.alloc h5s _).grown hgrow7 (by simp; omega) (fun k hk => (HM5.out.told.lt k hk).1)
              go_roundw
              case rel =>
                refine ⟨s + 1, svs ++ [e0], by omega, by omega, by go_num, ?_, ?_, ?_, hB7⟩
                · rw [show s + 1 - 1 = t + 1 by have := HST.out; omega]; exact hM7
                · rw [show s + 1 - 1 = t + 1 by have := HST.out; omega, HQT.out, List.map_append, HTD.out, ← HE.out.1]; rfl
                · rw [List.length_append, hsvl]; rfl
              case measure => simp [intV]; omega
        · have s1 : ¬ (s : Int) ≤ (L : Int) := by omega
          obtain rfl : L = t := by have := HST.out; omega
          have hnl := HNW.out L
          have hlN : kNow.Lies w4.heap.size w4 (.slice (some ⟨ga, 0, none⟩) N ca) (q L).now := by
            have z := Kind.Lies.of_own (K := kNow) (base := W1.heap.size) (e := 37) (v := .slice (some ⟨ga, 0, none⟩) N ca) (es := (q L).now) (W := w4) (by rw [hnl]; exact HM4.out.all)
            exact z
          have HL := hidden hlN
          have HBZ := hidden (bthen HB0.out HB4.out)
          clear hlN hnl HM4
          go_wp2
          go_ret
          exact ⟨_, _, rfl, HL.out, HBZ.out⟩
end Go.Proofs.Ytohgmliafidalaa

/- The statements' own method runs of a cluster of layer 19 returns the instances of a plain function's run, and makes at most new memory; conditions: a plain configuration, rows lie where they say, lengths fit int, few lies. -/
namespace Go.Proofs.Ytohgmliafidalaa
open Go.ChangeShapes Go.WideShapes Go.ChangeAt Go.RowKit
set_option linter.unusedVariables false

section
variable {R L : Nat} {f d : Int} {fa : Nat → Bool} {lies : List Pkt} {N D : Nat} {nums : List Int} {seen : List ByteArray}
theorem run_codesA (hd : d = (D : Int)) (hD : 1 ≤ D) (hLD : L = R * D) (hR : 1 ≤ R) (hN : N ≤ 13) (t : Nat) (ht : t ≤ L) (i : Nat) (hi : i < N) : ((runA R L f d fa lies N D nums seen t).now.getD i zA).codes.size ≤ 100000 := by
  subst hd
  by_cases h : t < L
  · rw [run_stA hD hLD t h i hi]
    have := nowX_size (fa := fa) (lies := lies) (N := N) (D := D) (f := f) (nums := nums) (seen := seen) (t / D) i hi
    show (StA.codes _).size ≤ _
    dsimp only
    omega
  · obtain rfl : t = L := by omega
    rw [run_endA hD hLD hR i hi]
    show noB.size ≤ 100000
    decide
theorem run_memA (hd : d = (D : Int)) (hD : 1 ≤ D) (hLD : L = R * D) (hR : 1 ≤ R) (hN : N ≤ 13) (t : Nat) (ht : t ≤ L) : ∀ s ∈ (runA R L f d fa lies N D nums seen t).now, s.codes.size ≤ 100000 := by
  intro s hs
  obtain ⟨i, hi, rfl⟩ := List.mem_iff_getElem.1 hs
  have hl := runA_now_len (R := R) (L := L) (f := f) (d := d) (fa := fa) (lies := lies) (N := N) (D := D) (nums := nums) (seen := seen) t
  have h := run_codesA (f := f) (fa := fa) (lies := lies) (nums := nums) (seen := seen) hd hD hLD hR hN t ht i (by omega)
  rwa [List.getD_eq_getElem?_getD, List.getElem?_eq_getElem hi, Option.getD_some] at h
theorem vo_sizeA (hd : d = (D : Int)) (hD : 1 ≤ D) (hLD : L = R * D) (hR : 1 ≤ R) (hN : N ≤ 13) (hz : ∀ q ∈ lies, q.ve.size ≤ 9223372036854775807) (t : Nat) (ht : t < L) (i k : Nat) (hk : k < N) : (voP fa lies N D (runA R L f d fa lies N D nums seen t).told (t + 1) i k).ve.size ≤ 9223372036854775807 := by
  have hno : noP.ve.size ≤ 9223372036854775807 := by decide
  unfold voP
  split
  · exact hno
  · split
    · unfold liP
      split
      · exact hno
      · rename_i h
        have hq := Nat.mod_lt (((t + 1 - D) * N + k) * N + i) (show 0 < lies.length by omega)
        rw [List.getD_eq_getElem?_getD, List.getElem?_eq_getElem hq, Option.getD_some]
        exact hz _ (List.getElem_mem hq)
    · rename_i h1 h2
      rw [runA_told_at t (t + 1 - D) (by omega)]
      have hl := runA_now_len (R := R) (L := L) (f := f) (d := d) (fa := fa) (lies := lies) (N := N) (D := D) (nums := nums) (seen := seen) (t + 1 - D)
      have e2 : ((runA R L f d fa lies N D nums seen (t + 1 - D)).now.map (tellP R d)).getD k noP = tellP R d ((runA R L f d fa lies N D nums seen (t + 1 - D)).now.getD k zA) := by
        rw [List.getD_eq_getElem?_getD, List.getD_eq_getElem?_getD, List.getElem?_map, List.getElem?_eq_getElem (by omega)]
        rfl
      rw [e2]
      have h := run_codesA (f := f) (fa := fa) (lies := lies) (nums := nums) (seen := seen) hd hD hLD hR hN (t + 1 - D) (by omega) k hk
      show (telV R d _ _).size ≤ _
      unfold telV
      split
      · decide
      · rw [dgB_size]; omega
end
set_option maxHeartbeats 8000000 in
theorem runsA_any (N : Nat) (f d p r dr o sl md fr : Int) (ad : Option Addr) (cap : Nat) (zs : List Int) (D L R F : Nat) (a1 : Option Addr) (c1 : Nat) (nums : List Int) (a2 : Option Addr) (c2 : Nat) (seen : List ByteArray) (a3 : Option Addr) (c3 : Nat) (fs : List Int) (a4 : Option Addr) (c4 : Nat) (lies : List Pkt) (w : World)
    (hl : zs.length ≤ 9223372036854775807) (hT : Tab w ad zs) (hE : plainE (N : Int) f d p r dr o sl md fr zs = 0) (hR : gate (plainE (N : Int) f d p r dr o sl md fr zs) (3 * (f + 1)) = (R : Int)) (hL : gate (plainE (N : Int) f d p r dr o sl md fr zs) (3 * (f + 1) * d) = (L : Int)) (hR15 : R ≤ 15) (hR1 : 1 ≤ R) (hL60 : L ≤ 60) (hLD : L = R * D)
    (hd : d = (D : Int)) (hD1 : 1 ≤ D) (hD4 : D ≤ 4) (hN1 : 1 ≤ N) (hN : N ≤ 13)
    (hnl : nums.length = N) (hV1 : kInt.Lies w.heap.size w (.slice a1 N c1) nums) (hz1 : ∀ z ∈ nums, -9223372036854775808 ≤ z ∧ z ≤ 9223372036854775807) (hsl : seen.length = N) (hV2 : kStr.Lies w.heap.size w (.slice a2 N c2) seen) (hz2 : ∀ t ∈ seen, t.size ≤ 9223372036854775807)
    (hfl : fs.length ≤ 9223372036854775807) (hV3 : kInt.Lies w.heap.size w (.slice a3 fs.length c3) fs) (hll : lies.length ≤ 1000) (hV4 : kPkt.Lies w.heap.size w (.slice a4 lies.length c4) lies) (hz4 : ∀ q ∈ lies, q.ve.size ≤ 9223372036854775807) :
    Calls Try.prog 22 #[.agg #[.int .i64 (N : Int), .int .i64 f, .int .i64 d, .int .i64 p, .int .i64 r, .int .i64 dr, .int .i64 o, .int .i64 sl, .int .i64 md, .int .i64 fr, .slice ad zs.length cap, .slice a1 N c1, .slice a2 N c2, .slice a3 fs.length c3, .slice a4 lies.length c4]] w fun e w' => ∃ a c, e = .returned (.slice a N c) ∧ kNow.Lies w'.heap.size w' (.slice a N c) (runA R L f d (faI fs) lies N D nums seen L).now ∧ Below w.heap.size w w' := by
  have hd2 : R = 0 ∨ 1 ≤ d ∧ d ≤ 4 := .inr (by omega)
  refine runsA_walk N f d p r dr o sl md fr ad cap zs D L fs.length lies.length a1 c1 nums a2 c2 seen a3 c3 a4 c4 w (faI fs) (runA R L f d (faI fs) lies N D nums seen) (begN N nums seen)
    (fun t i => nxA R L f d (faI fs) lies N D (runA R L f d (faI fs) lies N D nums seen t) (t + 1) i) (tellP R d)
    (fun t i k => voP (faI fs) lies N D (runA R L f d (faI fs) lies N D nums seen (t - 1)).told t i k) lies fs hd hD1 hD4 hL60 hN1 hN hnl hV1 hsl hV2 hT hV3 hV4 rfl (fun t => rfl) (fun i => rfl)
    (fun t i k h1 h2 => (if_neg h1).trans (if_neg (by rw [h2]; decide))) ?_ ?_ ?_ ?_ ?_ ?_ ?_
  · intro i hi V hTV
    have hb : (nums.getD i 0) ≤ 9223372036854775807 := by
      rw [List.getD_eq_getElem?_getD, List.getElem?_eq_getElem (by omega), Option.getD_some]
      exact (hz1 _ (List.getElem_mem _)).2
    have hs : (seen.getD i noB).size ≤ 9223372036854775807 := getD_size _ _ hz2
    exact ABegin_any N f d p r dr o sl md fr ad cap zs (nums.getD i 0) (seen.getD i noB) V hl hTV hb hs hE
  · intro t i ht hi V a c hTV hv
    have hlen : ((List.range N).map (voP (faI fs) lies N D (runA R L f d (faI fs) lies N D nums seen t).told (t + 1) i)).length = N := by simp
    have hst : (runA R L f d (faI fs) lies N D nums seen t).now.getD i zA = ⟨(t : Int), (nowX (faI fs) lies N D f nums seen (t / D)).getD i noB, noB⟩ := by rw [hd]; exact run_stA hD1 hLD t ht i hi
    have z := AStep_any (N : Int) f d p r dr o sl md fr ad cap zs R L ((runA R L f d (faI fs) lies N D nums seen t).now.getD i zA).age ((runA R L f d (faI fs) lies N D nums seen t).now.getD i zA).codes ((runA R L f d (faI fs) lies N D nums seen t).now.getD i zA).got (by rw [hst]; dsimp only; omega) (run_codesA hd hD1 hLD hR1 hN t (by omega) i hi) a c ((List.range N).map (voP (faI fs) lies N D (runA R L f d (faI fs) lies N D nums seen t).told (t + 1) i)) V hl hTV hR hL hR15 hL60 hd2 (by rw [hlen]; omega) (by rw [hlen]; exact hv) (by
      intro q hq
      obtain ⟨k, hk, rfl⟩ := List.mem_map.1 hq
      exact vo_sizeA hd hD1 hLD hR1 hN hz4 t ht i k (List.mem_range.1 hk))
    rw [hlen, hE] at z
    exact z
  · intro t ht V a c hTV hv
    have hlen := runA_now_len (R := R) (L := L) (f := f) (d := d) (fa := faI fs) (lies := lies) (N := N) (D := D) (nums := nums) (seen := seen) t
    have z := rowA_any N f d p r dr o sl md fr ad cap zs N N fs.length lies.length a1 c1 a2 c2 a3 c3 a4 c4 R a c (runA R L f d (faI fs) lies N D nums seen t).now V hl hTV hR hR15 hd2 (by omega) (by rw [hlen]; exact hv) (run_memA hd hD1 hLD hR1 hN t ht)
    rw [hlen] at z
    exact z
  · intro V hTV
    have z := refLength_any (N : Int) f d p r dr o sl md fr ad cap zs V hl hTV
    rw [hL] at z
    exact z
  · intro t k i T h1 h2 h3 hk hi V
    have e : voP (faI fs) lies N D (runA R L f d (faI fs) lies N D nums seen (t - 1)).told t i k = noP := if_pos h3
    show Calls _ _ _ _ fun e w' => e = .returned (pkV (voP (faI fs) lies N D (runA R L f d (faI fs) lies N D nums seen (t - 1)).told t i k)) ∧ _
    rw [e]
    exact packet_neg N f d p r dr o sl md fr ad cap zs N N fs.length lies.length a1 c1 a2 c2 a3 c3 a4 c4 T ((t : Int) - d) k i (by omega) V
  · intro t k i T h1 h2 h3 hf hk hi V hv3 hv4
    have e : voP (faI fs) lies N D (runA R L f d (faI fs) lies N D nums seen (t - 1)).told t i k = liP lies N (t - D) k i := (if_neg h3).trans (if_pos hf)
    show Calls _ _ _ _ fun e w' => e = .returned (pkV (voP (faI fs) lies N D (runA R L f d (faI fs) lies N D nums seen (t - 1)).told t i k)) ∧ _
    rw [e, show (t : Int) - d = ((t - D : Nat) : Int) by omega]
    by_cases h0 : lies.length = 0
    · have e2 : liP lies N (t - D) k i = noP := if_pos h0
      rw [e2]
      exact packet_none N f d p r dr o sl md fr ad cap zs N N fs.length lies.length a1 c1 a2 c2 a3 c3 a4 c4 fs T (t - D) k i h0 rfl hfl hf V hv3
    · exact packet_lie N f d p r dr o sl md fr ad cap zs N N fs.length lies.length a1 c1 a2 c2 a3 c3 a4 c4 fs lies T (t - D) k i (by omega) rfl hll (by omega) hN (by omega) (by omega) rfl hfl hf V hv3 hv4
  · intro t k i gt tl ct ge ce q1 h1 h2 h3 hf hk hi htl V hv3 hgt hge het hek
    rw [show (t : Int) - d = ((t - D : Nat) : Int) by omega]
    exact packet_told N f d p r dr o sl md fr ad cap zs N N fs.length lies.length a1 c1 a2 c2 a3 c3 a4 c4 fs gt tl ct ge ce (t - D) k i N q1 rfl hfl hf htl hk (by omega) V hv3 hgt hge het (hek 0 _ rfl) (hek 1 _ rfl) (hek 2 _ rfl) (hek 3 _ rfl) (hek 4 _ rfl) (hek 5 _ rfl)
end Go.Proofs.Ytohgmliafidalaa

/- The statements' own method saw of a cluster returns true where whom all saw was agreed on and whom nobody saw was not, and makes at most new memory; conditions: those bits, rows lie where they say, lengths fit int. -/
namespace Go.Proofs.Ytohgmliafidalaa
open Go.ChangeShapes Go.WideShapes Go.ChangeAt Go.RowKit
set_option linter.unusedVariables false
attribute [local go_sem] cell_rg

def alS (fa : Nat → Bool) (g : Nat → Nat) (m : Nat) : Nat → Bool
  | 0 => true
  | i + 1 => alS fa g m i && (fa i || decide (g i = g m))
theorem alS_all {fa : Nat → Bool} {g : Nat → Nat} {m : Nat} : ∀ {k : Nat}, alS fa g m k = true → ∀ i, i < k → fa i = false → g i = g m
  | 0, _, i, hi, _ => by omega
  | k + 1, h, i, hi, hf => by
    unfold alS at h
    rw [Bool.and_eq_true] at h
    by_cases e : i = k
    · subst e
      have := h.2
      rw [hf] at this
      simpa using this
    · exact alS_all h.1 i (by omega) hf
theorem dgB_byteI (n : Nat) (g : Nat → Nat) (k : Nat) (hk : k < n) (hg : g k ≤ 9) (h : k < (dgB n g).size) : (((dgB n g)[k]'h).toNat : Int) = ((48 + g k : Nat) : Int) := by rw [dgB_byte n g k hk hg h]
theorem getD_sizeW (l : List ByteArray) (k : Nat) (h : ∀ t ∈ l, t.size ≤ 9223372036854775807) : (l.getD k noB).size ≤ 9223372036854775807 := by
  by_cases hk : k < l.length
  · rw [List.getD_eq_getElem?_getD, List.getElem?_eq_getElem hk, Option.getD_some]
    exact h _ (List.getElem_mem hk)
  · rw [List.getD_eq_getElem?_getD, List.getElem?_eq_none (by omega)]
    decide
set_option maxRecDepth 100000 in
set_option maxHeartbeats 16000000 in
theorem saw_any (N : Nat) (f d p r dr o sl md fr : Int) (ad : Option Addr) (cap : Nat) (zs : List Int) (NL SL FL LL : Nat) (a1 : Option Addr) (c1 : Nat) (a2 : Option Addr) (c2 : Nat) (seen : List ByteArray) (a3 : Option Addr) (c3 : Nat) (fs : List Int) (a4 : Option Addr) (c4 : Nat) (m : Nat) (u : Nat → Nat) (w : World)
    (hN : N ≤ 13) (hm : m < N) (hSL : SL = N) (hsl : seen.length = N) (hV2 : kStr.Lies w.heap.size w (.slice a2 SL c2) seen) (hz2 : ∀ t ∈ seen, t.size ≤ 9223372036854775807) (hFL : FL = fs.length) (hfl : fs.length ≤ 9223372036854775807) (hV3 : kInt.Lies w.heap.size w (.slice a3 FL c3) fs)
    (hu : ∀ p, u p ≤ 1) (hk : ∀ k, k < N → (∀ i, i < N → faI fs i = false → digG (seen.getD i noB) 0 k = digG (seen.getD m noB) 0 k) → u (8 + k) = digG (seen.getD m noB) 0 k) :
    Calls Try.prog 25 #[.agg #[.int .i64 (N : Int), .int .i64 f, .int .i64 d, .int .i64 p, .int .i64 r, .int .i64 dr, .int .i64 o, .int .i64 sl, .int .i64 md, .int .i64 fr, .slice ad zs.length cap, .slice a1 NL c1, .slice a2 SL c2, .slice a3 FL c3, .slice a4 LL c4], .string (dgB (8 + N) u), .int .i64 (m : Int)] w fun e w' => e = .returned (.bool true) ∧ Below w.heap.size w w' := by
  have HB0 := hidden (ballc w (.cells #[.int .i64 (N : Int), .int .i64 f, .int .i64 d, .int .i64 p, .int .i64 r, .int .i64 dr, .int .i64 o, .int .i64 sl, .int .i64 md, .int .i64 fr, .slice ad zs.length cap, .slice a1 NL c1, .slice a2 SL c2, .slice a3 FL c3, .slice a4 LL c4] 48))
  have HK := hidden (blk_nw w #[.int .i64 (N : Int), .int .i64 f, .int .i64 d, .int .i64 p, .int .i64 r, .int .i64 dr, .int .i64 o, .int .i64 sl, .int .i64 md, .int .i64 fr, .slice ad zs.length cap, .slice a1 NL c1, .slice a2 SL c2, .slice a3 FL c3, .slice a4 LL c4] 48)
  have HV2 := hidden (hV2.later HB0.out)
  have HV3 := hidden (hV3.later HB0.out)
  have CI := hidden (fun (k : Nat) V h => Calls.to_below (rIn_any (k : Int) a3 c3 fs hfl V h))
  have CI : Hid (∀ (k : Nat) V, kInt.Lies V.heap.size V (.slice a3 FL c3) fs → Calls Try.prog 13 #[.slice a3 FL c3, .int .i64 (k : Int)] V fun e w' => e = .returned (.bool (faI fs k)) ∧ Below V.heap.size V w') := by
    rw [hFL]
    exact CI.out
  have CD := hidden (fun (i : Nat) V => Calls.to_below (rDigits_any (seen.getD i noB) 0 N V (getD_sizeW _ _ hz2) (by omega) (by omega)))
  have HU := hidden hu
  have HKK := hidden hk
  have HGZ := hidden (dgB_size (8 + N) u)
  obtain ⟨b2, o2, hb2e, hb2, hcx2⟩ := kStr_at HV2.out 0 (by omega)
  clear hcx2
  subst hb2e
  have HE2 : Hid (∀ V, Below (w.alloc (.cells #[.int .i64 (N : Int), .int .i64 f, .int .i64 d, .int .i64 p, .int .i64 r, .int .i64 dr, .int .i64 o, .int .i64 sl, .int .i64 md, .int .i64 fr, .slice ad zs.length cap, .slice a1 NL c1, .slice (some ⟨b2, o2, none⟩) SL c2, .slice a3 FL c3, .slice a4 LL c4] 48)).heap.size (w.alloc (.cells #[.int .i64 (N : Int), .int .i64 f, .int .i64 d, .int .i64 p, .int .i64 r, .int .i64 dr, .int .i64 o, .int .i64 sl, .int .i64 md, .int .i64 fr, .slice ad zs.length cap, .slice a1 NL c1, .slice (some ⟨b2, o2, none⟩) SL c2, .slice a3 FL c3, .slice a4 LL c4] 48)) V → ∀ j, j < N → V.cell? ⟨b2, o2 + j, none⟩ = some (.string (seen.getD j noB))) := fun V h j hj => by
    obtain ⟨b, o, he, _, hc⟩ := kStr_at HV2.out j (by omega)
    simp only [Option.some.injEq, Addr.mk.injEq, and_true] at he
    obtain ⟨rfl, rfl⟩ := he
    exact (h.cell (p := ⟨b2, o2 + j, none⟩) hb2).trans hc
  have HGB : Hid (∀ k, k < N → ∀ h : 8 + k < (dgB (8 + N) u).size, (((dgB (8 + N) u)[8 + k]'h).toNat : Int) = ((48 + u (8 + k) : Nat) : Int)) := fun k hk h => dgB_byteI _ _ _ (by omega) (by have := hu (8 + k); omega) h
  generalize dgB (8 + N) u = got at *
  have hgz := HGZ.out
  have hwl : w.heap.size < (w.alloc (.cells #[.int .i64 (N : Int), .int .i64 f, .int .i64 d, .int .i64 p, .int .i64 r, .int .i64 dr, .int .i64 o, .int .i64 sl, .int .i64 md, .int .i64 fr, .slice ad zs.length cap, .slice a1 NL c1, .slice (some ⟨b2, o2, none⟩) SL c2, .slice a3 FL c3, .slice a4 LL c4] 48)).heap.size := by simp
  have hmi : (0 : Int) ≤ (m : Int) := by omega
  have hmn : (m : Int) < (SL : Int) := by omega
  have HSL := hidden hSL
  clear hV2 hV3 hz2 hfl hu hk hSL hFL hsl HV2
  go_enter Try.func25, Try.ntmps25
  go_wp2
  generalize w.alloc (.cells #[.int .i64 (N : Int), .int .i64 f, .int .i64 d, .int .i64 p, .int .i64 r, .int .i64 dr, .int .i64 o, .int .i64 sl, .int .i64 md, .int .i64 fr, .slice ad zs.length cap, .slice a1 NL c1, .slice (some ⟨b2, o2, none⟩) SL c2, .slice a3 FL c3, .slice a4 LL c4] 48) = W1 at *
  go_loopw [7] (fun i wr => ∃ k : Nat, k ≤ N ∧ i = .int .i64 k ∧ Below W1.heap.size W1 wr) (fun i _ => N - (intV i).toNat)
  case atStart => exact ⟨0, Nat.zero_le _, rfl, Below.refl _ _⟩
  case round =>
    obtain ⟨k, hk1, rfl, hB⟩ := hrel
    have HBk := hidden hB
    have HKk := hidden (blk_later HK.out hB)
    have em := HE2.out wr hB m hm
    have lb2 : b2 < wr.heap.size := by have := hB.size; omega
    clear hB
    have c0 := blk_cell HKk.out
    have l0 := blk_lt HKk.out
    by_cases hkN : k < N
    · have k1 : (k : Int) < (N : Int) := by omega
      have k0 : (0 : Int) ≤ (k : Int) := by omega
      have CDm := hidden (CD.out m)
      have hdz := digT_size (seen.getD m noB) 0 N
      have hbm := digG_bd (seen.getD m noB) 0 k
      have hkz : k < (digT (seen.getD m noB) 0 N).size := by omega
      have hby : (((digT (seen.getD m noB) 0 N)[k]'hkz).toNat : Int) = ((48 + digG (seen.getD m noB) 0 k : Nat) : Int) := dgB_byteI _ _ _ hkN (by omega) hkz
      generalize hgm : digG (seen.getD m noB) 0 k = gm at *
      have HGM := hidden hgm
      obtain ⟨bm, hbm2⟩ : ∃ bm : Nat, bm = 48 + gm := ⟨_, rfl⟩
      rw [← hbm2] at hby
      have HBM := hidden hbm2
      clear hgm hbm2
      generalize digT (seen.getD m noB) 0 N = dm at *
      generalize hsm : seen.getD m noB = sm at *
      have HSM := hidden hsm
      clear hsm
      go_wp2
      refine wp_region_quiet_below (by kernel_rfl) (by kernel_rfl) ?_
      repeat (go_big_quiet_step (fail))
      go_big_quiet_step ((go_at_call 58; exact Calls.regrown_of (CDm.out _)))
      repeat (go_big_quiet_step (fail))
      refine wpQuiet_nil ?_
      intro w5 hw5
      have HB5 := hidden (bthen HBk.out (rg_below hw5))
      have HK5 := hidden (blk_later HKk.out (rg_below hw5))
      clear hw5 c0 l0 em lb2 hby hkz hdz
      go_wp2
      go_loopw [8, 10] (fun a i wr => ∃ j : Nat, j ≤ N ∧ i = .int .i64 j ∧ a = .bool (alS (faI fs) (fun i => digG (seen.getD i noB) 0 k) m j) ∧ Below W1.heap.size W1 wr) (fun _ i _ => N - (intV i).toNat)
      case atStart => exact ⟨0, Nat.zero_le _, rfl, rfl, HB5.out⟩
      case round =>
        obtain ⟨j, hj1, rfl, rfl, hB⟩ := hrel
        have HBj := hidden hB
        have HKj := hidden (blk_later HK.out hB)
        have hBs := hB.size
        by_cases hjN : j < N
        · have j1 : (j : Int) < (N : Int) := by omega
          have j0 : (0 : Int) ≤ (j : Int) := by omega
          have j2 : (j : Int) < (SL : Int) := by have := HSL.out; omega
          have ej := HE2.out wr hB j hjN
          have lb2 : b2 < wr.heap.size := by omega
          have c0 := blk_cell HKj.out
          have l0 := blk_lt HKj.out
          have HAL : Hid (alS (faI fs) (fun i => digG (seen.getD i noB) 0 k) m (j + 1) = (alS (faI fs) (fun i => digG (seen.getD i noB) 0 k) m j && (faI fs j || decide (digG (seen.getD j noB) 0 k = digG (seen.getD m noB) 0 k)))) := rfl
          clear hB
          cases hal : alS (faI fs) (fun i => digG (seen.getD i noB) 0 k) m j with
          | false =>
            rw [hal] at HAL
            clear hal
            go_wp2
            refine wp_region_quiet_below (by kernel_rfl) (by kernel_rfl) ?_
            repeat (go_big_quiet_step (fail))
            refine wpQuiet_nil ?_
            intro w6 hw6
            have HB6 := hidden (bthen HBj.out (rg_below hw6))
            clear hw6 c0 l0 ej
            go_wp2
            go_roundw
            case rel => exact ⟨j + 1, by omega, by go_num, by rw [HAL.out]; rfl, HB6.out⟩
            case measure => simp [intV]; omega
          | true =>
            rw [hal] at HAL
            clear hal
            have CIj := hidden (CI.out j)
            have HV3j := hidden (HV3.out.later HBj.out)
            cases hfj : faI fs j with
            | true =>
              rw [hfj] at CIj HAL
              clear hfj
              go_wp2
              refine wp_region_quiet_below (by kernel_rfl) (by kernel_rfl) ?_
              repeat (go_big_quiet_step (fail))
              go_big_quiet_step ((go_at_call 13; exact Calls.regrown_of (CIj.out _ (HV3j.out.later (below_regrown _ _ _)))))
              repeat (go_big_quiet_step (fail))
              refine wpQuiet_nil ?_
              intro w6 hw6
              have HB6 := hidden (bthen HBj.out (rg_below hw6))
              clear hw6 c0 l0 ej
              go_wp2
              go_roundw
              case rel => exact ⟨j + 1, by omega, by go_num, by rw [HAL.out]; rfl, HB6.out⟩
              case measure => simp [intV]; omega
            | false =>
              rw [hfj] at CIj HAL
              clear hfj
              have CDj := hidden (CD.out j)
              have hdz := digT_size (seen.getD j noB) 0 N
              have hbj := digG_bd (seen.getD j noB) 0 k
              have hkz : k < (digT (seen.getD j noB) 0 N).size := by omega
              have k2 : (k : Int) < ((digT (seen.getD j noB) 0 N).size : Int) := by omega
              have hby : (((digT (seen.getD j noB) 0 N)[k]'hkz).toNat : Int) = ((48 + digG (seen.getD j noB) 0 k : Nat) : Int) := dgB_byteI _ _ _ hkN (by omega) hkz
              rw [HSM.out, HGM.out] at HAL
              generalize digG (seen.getD j noB) 0 k = gj at *
              obtain ⟨bj, hbj2⟩ : ∃ bj : Nat, bj = 48 + gj := ⟨_, rfl⟩
              rw [← hbj2] at hby
              have HEQ : Hid (((bj : Int) == (bm : Int)) = decide (gj = gm)) := by
                have := HBM.out
                show _ = _
                by_cases e : gj = gm
                · rw [decide_eq_true e]; exact beq_iff_eq.2 (by omega)
                · rw [decide_eq_false e]; exact beq_eq_false_iff_ne.2 (by omega)
              clear hbj2
              generalize digT (seen.getD j noB) 0 N = dj at *
              generalize seen.getD j noB = sj at *
              go_wp2
              refine wp_region_quiet_below (by kernel_rfl) (by kernel_rfl) ?_
              repeat (go_big_quiet_step (fail))
              go_big_quiet_step ((go_at_call 13; exact Calls.regrown_of (CIj.out _ (HV3j.out.later (below_regrown _ _ _)))))
              repeat (go_big_quiet_step (fail))
              go_big_quiet_step ((go_at_call 58; exact Calls.regrown_of (CDj.out _)))
              repeat (go_big_quiet_step (fail))
              refine wpQuiet_nil ?_
              intro w6 hw6
              have HB6 := hidden (bthen HBj.out (rg_below hw6))
              clear hw6 c0 l0 ej
              go_wp2
              go_roundw
              case rel => exact ⟨j + 1, by omega, by go_num, by rw [HAL.out, ← HEQ.out]; rfl, HB6.out⟩
              case measure => simp [intV]; omega
        · obtain rfl : N = j := by omega
          have j1 : ¬ (N : Int) < (N : Int) := by omega
          obtain ⟨q, hq⟩ : ∃ q : Nat, q = 8 + k := ⟨_, rfl⟩
          have q1 : (8 : Int) + (k : Int) = (q : Int) := by omega
          have q0 : (0 : Int) ≤ (q : Int) := by omega
          have q2 : (q : Int) < (got.size : Int) := by omega
          have hq3 : 8 + k < got.size := by omega
          have hgu := HGB.out k hkN hq3
          have hu1 := HU.out (8 + k)
          have hkk := HKK.out k hkN
          have c0 := blk_cell HKj.out
          have l0 := blk_lt HKj.out
          have hq4 : q < got.size := by omega
          have hgu2 : ((got[q]'hq4).toNat : Int) = ((48 + u (8 + k) : Nat) : Int) := by subst hq; exact hgu
          obtain ⟨bu, hbu⟩ : ∃ bu : Nat, bu = 48 + u (8 + k) := ⟨_, rfl⟩
          rw [← hbu] at hgu2
          have HAL : Hid (alS (faI fs) (fun i => digG (seen.getD i noB) 0 k) m N = true → bu = bm) := fun h => by
            have := hkk (fun i hi hf => by have z := alS_all h i hi hf; rwa [HSM.out] at z)
            have h1 := HBM.out
            have h2 := HGM.out
            omega
          have hbu2 : bu = 48 ∨ bu = 49 := by omega
          clear hgu hq3 hbu hkk hu1 hq hB
          cases hal : alS (faI fs) (fun i => digG (seen.getD i noB) 0 k) m N with
          | true =>
            have hb := HAL.out hal
            have g3 : ((bu : Int) != (bm : Int)) = false := bne_eq_false_iff_eq.2 (by omega)
            clear hal hb
            rcases hbu2 with e | e
            · have g1 : ((bu : Int) != 48) = false := bne_eq_false_iff_eq.2 (by omega)
              clear e
              go_wp2
              go_roundw
              case rel => exact ⟨k + 1, by omega, by go_num, HBj.out⟩
              case measure => simp [intV]; omega
            · have g1 : ((bu : Int) != 48) = true := bne_iff_ne.2 (by omega)
              have g2 : ((bu : Int) != 49) = false := bne_eq_false_iff_eq.2 (by omega)
              clear e
              go_wp2
              go_roundw
              case rel => exact ⟨k + 1, by omega, by go_num, HBj.out⟩
              case measure => simp [intV]; omega
          | false =>
            clear hal HAL
            rcases hbu2 with e | e
            · have g1 : ((bu : Int) != 48) = false := bne_eq_false_iff_eq.2 (by omega)
              clear e
              go_wp2
              go_roundw
              case rel => exact ⟨k + 1, by omega, by go_num, HBj.out⟩
              case measure => simp [intV]; omega
            · have g1 : ((bu : Int) != 48) = true := bne_iff_ne.2 (by omega)
              have g2 : ((bu : Int) != 49) = false := bne_eq_false_iff_eq.2 (by omega)
              clear e
              go_wp2
              go_roundw
              case rel => exact ⟨k + 1, by omega, by go_num, HBj.out⟩
              case measure => simp [intV]; omega
    · obtain rfl : N = k := by omega
      have k1 : ¬ (N : Int) < (N : Int) := by omega
      have HBZ := hidden (bthen HB0.out HBk.out)
      clear em
      go_wp2
      go_ret
      exact ⟨rfl, HBZ.out⟩
end Go.Proofs.Ytohgmliafidalaa
