/- Several texts of one's own in one: what each proves, and its conditions, is said ahead of it. -/
import Derived.Test.YtohgmliafidalaaBi
import Derived.Test.YtohgmliafidalaaBe
import Derived.Test.YtohgmliafidalaaBc
import Derived.Test.YtohgmliafidalaaBd
import Derived.Deep.DeepCutAuto
import Derived.Deep.RegionHeld3
import Derived.Laws.CopyOwn
import Derived.Laws.Tables

/- The calls Move and Begin of package pipe return a pipe a tick later with what is done, and a pipe with a new instance in it, and make at most new memory; conditions: rows lie where they say, lengths fit int, at most a hundred thousand votes. -/
namespace Go.Proofs.Ytohgmliafidalaa
open Go.ChangeShapes Go.WideShapes Go.ChangeAt Go.RowKit Go.Shelf
set_option linter.unusedVariables false
attribute [local go_sem] Oper.semAt_some

theorem keeps_below {X Y : World} (h : Below X.heap.size X Y) : KeepsOthers X Y := ⟨h.size, fun k o hk _ => blk_later hk h⟩
theorem keeps_blk {X Y : World} {g : Nat} {l : List UInt8} (h : FBlk X g l) (hg : X.grownBy Y (some g)) : KeepsOthers X Y := KeepsOthers.of_grownBy hg fun j o e hj => by
  obtain ⟨C, h1, _⟩ := h
  cases e
  rw [h1] at hj
  cases hj
  rfl
theorem FBlk.ne {X : World} {g b : Nat} {l : List UInt8} (h : FBlk X g l) {C : Array Value} {t : TypeId} {fr : Nat × Nat} (hb : X.heap[b]? = some (.cells C t fr)) (ht : t ≠ 5) : b ≠ g := by
  obtain ⟨C2, h1, _⟩ := h
  intro e
  subst e
  rw [h1] at hb
  cases hb
  exact ht rfl
theorem FBlk.keep {X Y : World} {g b : Nat} {l : List UInt8} (h : FBlk X g l) (hg : X.grownBy Y (some g)) {C : Array Value} {t : TypeId} {fr : Nat × Nat} (hb : X.heap[b]? = some (.cells C t fr)) (ht : t ≠ 5) : Y.heap[b]? = some (.cells C t fr) :=
  (hg.block b (blk_lt hb) (fun e => h.ne hb ht (by cases e; rfl))).trans hb
theorem KpT.blk {gs : Nat} {X Y : World} {g : Nat} {l : List UInt8} (h : FBlk X g l) (hg : X.grownBy Y (some g)) (h3 : g ≠ gs) : KpT gs X Y := by
  obtain ⟨C, h1, _⟩ := h
  exact KpT.grown hg h1 (by decide) (by decide) h3
/-- What an instance ends with. -/
def endF (b : UInt8) : Int := if valG (ba [b]) 0 = 1 then 1 else 0
/-- What an exchange makes of a code, with these votes. -/
def hrdF (n f d p r dr o sl md fr : Int) (ad : Option Addr) (cap : Nat) (zs : List Int) (votes : List ByteArray) (x : Nat) (b : UInt8) : UInt8 := hrdB (plainE n f d p r dr o sl md fr zs) n f votes x b

set_option maxRecDepth 100000 in
set_option maxHeartbeats 4000000 in
theorem Move_in (n f d p r dr o sl md fr : Int) (ad : Option Addr) (cap : Nat) (zs : List Int) (R D L : Nat) (s : ByteArray) (hs : s.size ≤ 9223372036854775807) (a2 : Option Addr) (c2 : Nat) (votes : List ByteArray) (w : World) (hl : zs.length ≤ 9223372036854775807) (hT : Tab w ad zs) (hR : gate (plainE n f d p r dr o sl md fr zs) (3 * (f + 1)) = (R : Int)) (hL : gate (plainE n f d p r dr o sl md fr zs) (3 * (f + 1) * d) = (L : Int))
    (hR15 : R ≤ 15) (hL60 : L ≤ 60) (hLD : L = R * D) (hd : R = 0 ∨ (d = (D : Int) ∧ 1 ≤ D ∧ D ≤ 4)) (hn : votes.length ≤ 100000) (hV : kStr.Lies w.heap.size w (.slice a2 votes.length c2) votes) (hz : ∀ t ∈ votes, t.size ≤ 9223372036854775807) :
    CallsIn Fence.wide 8 Try.prog 78 #[.agg #[.int .i64 n, .int .i64 f, .int .i64 d, .int .i64 p, .int .i64 r, .int .i64 dr, .int .i64 o, .int .i64 sl, .int .i64 md, .int .i64 fr, .slice ad zs.length cap], .string s, .slice a2 votes.length c2] w fun e W' => e = .returned (.tuple #[.string (ba (newL (hrdF n f d p r dr o sl md fr ad cap zs votes) D (wellL L s))), .int .i64 (endF (newB (hrdF n f d p r dr o sl md fr ad cap zs votes) D (wellL L s) L))]) ∧ Below w.heap.size w W' := by
  have hro : Fence.wide.round = none := rfl
  have HB0 := hidden (bthen (ballc w (.cells #[.int .i64 n, .int .i64 f, .int .i64 d, .int .i64 p, .int .i64 r, .int .i64 dr, .int .i64 o, .int .i64 sl, .int .i64 md, .int .i64 fr, .slice ad zs.length cap] 24)) (ballc _ (.cells #[.slice a2 votes.length c2] 25)))
  have CC := hidden (fun V h => codesOf_any n f d p r dr o sl md fr ad cap zs L s hs V hl h hL hL60)
  have CS := hidden (fun (a2 : Option Addr) (c2 : Nat) V => stretches_any n f d p r dr o sl md fr ad cap zs a2 L c2 V)
  have CH := hidden (fun (x : Nat) (hx : x < R) (b : UInt8) V h h2 => hear_any n f d p r dr o sl md fr ad cap zs R x hx hR15 b a2 c2 votes V hl h hR hn h2 hz)
  have k0 := blk_later (blk_nw w #[.int .i64 n, .int .i64 f, .int .i64 d, .int .i64 p, .int .i64 r, .int .i64 dr, .int .i64 o, .int .i64 sl, .int .i64 md, .int .i64 fr, .slice ad zs.length cap] 24) (ballc _ (.cells #[.slice a2 votes.length c2] 25))
  have k1 := blk_newAt (w.alloc (.cells #[.int .i64 n, .int .i64 f, .int .i64 d, .int .i64 p, .int .i64 r, .int .i64 dr, .int .i64 o, .int .i64 sl, .int .i64 md, .int .i64 fr, .slice ad zs.length cap] 24)) #[.slice a2 votes.length c2] 25 (b := w.heap.size + 1) (by simp)
  have HT := hidden hT
  have HVV := hidden hV
  have HG := hidden (fun (cap' gc gs g : Nat) V (h : Tab V ad zs) b1 b2 hc => str_gives n f d p r dr o sl md fr ad cap zs R D L cap' hR15 hd 7 (by omega) gc gs g V hl h hR b1 b2 hc)
  have HWL := hidden (wellL_len L s)
  have HLD := hidden hLD
  have K0 := hidden k0
  have K1 := hidden k1
  have hsz0 : Hid (((w.alloc (.cells #[.int .i64 n, .int .i64 f, .int .i64 d, .int .i64 p, .int .i64 r, .int .i64 dr, .int .i64 o, .int .i64 sl, .int .i64 md, .int .i64 fr, .slice ad zs.length cap] 24)).alloc (.cells #[.slice a2 votes.length c2] 25)).heap.size = w.heap.size + 1 + 1) := by show _ = _; simp
  clear hT hR hL hLD hV hz k0 k1
  refine callsIn_of_wp_marks Try.func78 rfl trivial ?_ hro
  simp only [Try.ntmps78, List.size_toArray, List.length_cons, List.length_nil, Nat.reduceAdd, Nat.reduceSub, Array.replicate_succ, Array.replicate_zero, List.push_toArray, List.append_toArray, List.nil_append, List.cons_append]
  refine wpIn_wide.2 ?_
  have c0 := blk_cell K0.out
  have l0 := blk_lt K0.out
  go_wp2_with fail
  refine (CC.out _ (HT.out.below HB0.out)).mono ?_
  rintro e w2 ⟨g, cap', rfl, hF, hg, hcap, hb⟩
  have E0 := hidden (blk_later K0.out hb)
  have E1 := hidden (blk_later K1.out hb)
  have HB2 := hidden (bthen HB0.out hb)
  have hs2 : w.heap.size + 1 < w2.heap.size := by have h1 := hsz0.out; have h2 := hb.size; omega
  have hgw : w.heap.size + 1 < g := by have h1 := hsz0.out; omega
  clear hb CC c0 l0
  have c0 := blk_cell E0.out
  have l0 := blk_lt E0.out
  have lF := hF.lt
  have K3 := hidden (blk_nw w2 #[.string ⟨#[48]⟩] 9)
  have HF3 := hidden (hF.later (ballc w2 (.cells #[.string ⟨#[48]⟩] 9)))
  have HE03 := hidden (blk_later E0.out (ballc w2 (.cells #[.string ⟨#[48]⟩] 9)))
  have HE13 := hidden (blk_later E1.out (ballc w2 (.cells #[.string ⟨#[48]⟩] 9)))
  have HB3 := hidden (bthen HB2.out (ballc w2 (.cells #[.string ⟨#[48]⟩] 9)))
  have HS3 : Hid ((w2.alloc (.cells #[.string ⟨#[48]⟩] 9)).heap.size = w2.heap.size + 1) := by show _ = _; simp
  go_wp2_with fail
  refine (CS.out _ _ _).mono ?_
  rintro e w5 ⟨gc, gs, rfl, e1, e2, hgs, hb5⟩
  rw [HS3.out] at hgs
  have B9 : Boxed w5 w2.heap.size 9 (.string ⟨#[48]⟩) := blk_later K3.out hb5
  have HF5 := hidden (HF3.out.later hb5)
  have E05 := hidden (blk_later HE03.out hb5)
  have E15 := hidden (blk_later HE13.out hb5)
  have HB5 := hidden (bthen HB3.out hb5)
  have hs5 : w2.heap.size < w5.heap.size := by have h1 := hb5.size; rw [HS3.out] at h1; omega
  have hGI := HG.out cap' gc gs g w5 (HT.out.below HB5.out) e1 e2 (by rw [← HLD.out]; exact hcap)
  have HE2 := hidden e2
  clear hb5 CS HG K3 HF3 HE03 HE13 HB3 e1 e2 hF
  go_wp2
  refine (wpIn_wide (n := 8)).1 ?_
  refine rf_gives (gf := 114) (lb := #[.pointer (some ⟨gc, 0, none⟩), .pointer (some ⟨gs, 0, none⟩)]) rfl (enters_of Try.func114 (by kernel_rfl) rfl)
    hGI (Below.refl _ _) (fun _ => rfl) KpT.t (fun V l o o' _ h1 h2 => KpT.put V l o o' h1 h2)
    (fun k V => FBlk V g (mixL (hrdF n f d p r dr o sl md fr ad cap zs votes) D (wellL L s) k) ∧ Boxed V w2.heap.size 9 (.string (ba [newB (hrdF n f d p r dr o sl md fr ad cap zs votes) D (wellL L s) (k * D)])) ∧ V.heap[w.heap.size]? = some (.cells #[.int .i64 n, .int .i64 f, .int .i64 d, .int .i64 p, .int .i64 r, .int .i64 dr, .int .i64 o, .int .i64 sl, .int .i64 md, .int .i64 fr, .slice ad zs.length cap] 24 (0, 0)) ∧ V.heap[w.heap.size + 1]? = some (.cells #[.slice a2 votes.length c2] 25 (0, 0)) ∧ V.heap[gs]? = some (.cells #[.slice (some ⟨g, 0, none⟩) L cap'] 88 (0, 0)) ∧ Below w.heap.size w V)
    ?own ⟨by rw [mix_0]; exact HF5.out, by rw [Nat.zero_mul, newB_0]; exact B9, E05.out, E15.out, HE2.out, HB5.out⟩
    (fun k => { tmps := #[.agg #[.int .i64 n, .int .i64 f, .int .i64 d, .int .i64 p, .int .i64 r, .int .i64 dr, .int .i64 o, .int .i64 sl, .int .i64 md, .int .i64 fr, .slice ad zs.length cap], .string s, .slice a2 votes.length c2, .pointer (some ⟨w.heap.size, 0, none⟩), undef, .pointer (some ⟨w.heap.size + 1, 0, none⟩), .string ⟨#[]⟩, .int .i64 0, .slice (some ⟨g, 0, none⟩) L cap', .pointer (some ⟨w2.heap.size, 0, none⟩), .int .i64 (k : Int), .slice (some ⟨g, k * D, none⟩) D D, undef, .agg #[.int .i64 n, .int .i64 f, .int .i64 d, .int .i64 p, .int .i64 r, .int .i64 dr, .int .i64 o, .int .i64 sl, .int .i64 md, .int .i64 fr, .slice ad zs.length cap], .string s, .slice (some ⟨g, 0, none⟩) L cap', .agg #[.int .i64 n, .int .i64 f, .int .i64 d, .int .i64 p, .int .i64 r, .int .i64 dr, .int .i64 o, .int .i64 sl, .int .i64 md, .int .i64 fr, .slice ad zs.length cap], .slice (some ⟨g, 0, none⟩) L cap', .func (.func 114) #[] #[.pointer (some ⟨gc, 0, none⟩), .pointer (some ⟨gs, 0, none⟩)], .int .i64 (k : Int), .slice (some ⟨g, k * D, none⟩) D D, undef, undef, undef, undef, undef, undef, undef, undef, undef, undef, undef, undef], defers := [] })
    ?assign ?body ?done
  case own => exact OwnFrom.and (fun k X Y row hs hg hr => (fblk_own w5.heap.size g (mixL (hrdF n f d p r dr o sl md fr ad cap zs votes) D (wellL L s) k)) () X Y row hs hg hr) (OwnFrom.and (Own.from (boxed_own _ _ _) _) (OwnFrom.and (cells_own _ _ _ _) (OwnFrom.and (cells_own _ _ _ _) (OwnFrom.and (cells_own _ _ _ _) (ownFrom_below (Nat.le_refl _) (by omega))))))
  case assign =>
    intro l2 k V K hK
    gi_wp2
    exact hK
  case body =>
    rintro l2 k V hl2 hk ⟨hf, hb9, he0, he1, he2, hB⟩
    obtain ⟨rfl, hD1, hD4⟩ : d = (D : Int) ∧ 1 ≤ D ∧ D ≤ 4 := by rcases hd with h | h; omega; exact h
    have hkL : k * D + D ≤ L := by
      rw [HLD.out, ← Nat.succ_mul]
      exact Nat.mul_le_mul_right D hk
    have hsk : (k + 1) * D = k * D + D := Nat.succ_mul k D
    have SH := shift_any g (k * D) D (mixL (hrdF n f (D : Int) p r dr o sl md fr ad cap zs votes) D (wellL L s) k) (newB (hrdF n f (D : Int) p r dr o sl md fr ad cap zs votes) D (wellL L s) (k * D)) hD1 (by omega) (by rw [mixL_len, HWL.out]; exact hkL) V hf
    rw [mix_last _ _ hD1 (by rw [HWL.out]; exact hkL), mix_step _ _ hD1 (by rw [HWL.out]; exact hkL)] at SH
    have SH := hidden SH
    have HNX : Hid (newB (hrdF n f (D : Int) p r dr o sl md fr ad cap zs votes) D (wellL L s) ((k + 1) * D) = hrdF n f (D : Int) p r dr o sl md fr ad cap zs votes k (at8 (wellL L s) (k * D + D - 1))) := by show _ = _; rw [hsk]; exact mix_come _ _ k hD1
    have HHR : Hid (∀ x b, hrdF n f (D : Int) p r dr o sl md fr ad cap zs votes x b = hrdB (plainE n f (D : Int) p r dr o sl md fr zs) n f votes x b) := fun _ _ => rfl
    have CK := hidden (fun b V h h2 => CH.out k hk b V h h2)
    have c0 := blk_cell he0
    have l0 := blk_lt he0
    have c1 := blk_cell he1 0
    have l1 := blk_lt he1
    have c9 := hb9.cell
    have l9 := hb9.lt
    have hfs : (Fence.wide.inRound l2).fn 109 := trivial
    have hfh : (Fence.wide.inRound l2).fn 110 := trivial
    have HF := hidden hf
    have H9 := hidden hb9
    have H0 := hidden he0
    have H1 := hidden he1
    have H2 := hidden he2
    have HBV := hidden hB
    clear hf hb9 he0 he1 he2 hB hkL hd hGI HE2 HF5 E05 E15 HB5 CH
    gi_wp2_with fail
    refine And.intro trivial ?_
    refine (CallsIn.inRound l2 (callsIn_wide.2 SH.out)).mono ?_
    rintro e w6 ⟨rfl, hf6, hg6⟩
    have m0 := HF.out.keep hg6 H0.out (by decide)
    have m1 := HF.out.keep hg6 H1.out (by decide)
    have m2 := HF.out.keep hg6 H2.out (by decide)
    have m9 : Boxed w6 w2.heap.size 9 _ := HF.out.keep hg6 H9.out (by decide)
    have hB6 := HBV.out.grown hg6 HBV.out.size (fun j e => by cases e; omega)
    have d0 := blk_cell m0
    have d1 := blk_cell m1 0
    have k0 := blk_lt m0
    have k1 := blk_lt m1
    have M9 := hidden m9
    have HB6 := hidden hB6
    have HF6 := hidden hf6
    have HG6 := hidden hg6
    have CX := hidden (CK.out (at8 (wellL L s) (k * D + D - 1)) w6 (HT.out.below HB6.out) (HVV.out.later HB6.out))
    clear m0 m1 m2 m9 hB6 hf6 hg6 c0 l0 c1 l1 c9 l9
    gi_wp2_with fail
    refine And.intro trivial ?_
    refine (CallsIn.inRound l2 (callsIn_wide.2 CX.out)).mono ?_
    rintro e w7 ⟨rfl, hb7⟩
    have o9 : Boxed w7 w2.heap.size 9 _ := blk_later M9.out hb7
    have q9 := o9.cell
    have q8 := o9.frozen
    have q7 := o9.lt
    gi_wp2
    have hkp : KpT gs V (w7.setCell ⟨w2.heap.size, 0, none⟩ (.string (ba [hrdB (plainE n f (D : Int) p r dr o sl md fr zs) n f votes k (at8 (wellL L s) (k * D + D - 1))]))) := ((KpT.blk HF.out HG6.out (by omega)).t (KpT.below hb7)).t (KpT.set o9 (by decide) (by decide) (by omega) _)
    refine ⟨(((keeps_blk HF.out HG6.out).trans (keeps_below hb7)).trans (KeepsOthers.setCell _ _ _)).from _, hkp, (HF6.out.later hb7).kept (grownBy_setCell' _ _ _) (fun e => by cases e; omega), ?_, hkp _ _ _ _ H0.out (.inl rfl), (heap_setCell_other _ _ _ _ (by simp; omega)).trans (blk_later (HF.out.keep HG6.out H1.out (by decide)) hb7), hkp gs _ _ _ H2.out (.inr (.inr rfl)), (bthen HB6.out hb7).setCell (p := ⟨w2.heap.size, 0, none⟩) (by simp; omega) _⟩
    rw [HNX.out, HHR.out]
    exact o9.set _
  case done =>
    rintro D2 V hD2 ⟨hf, hb9, he0, he1, he2, hB⟩ hK
    rw [mix_all _ _ _ (by rw [HWL.out, HLD.out]), ] at hf
    rw [← HLD.out] at hb9
    have HNL : Hid ((newL (hrdF n f d p r dr o sl md fr ad cap zs votes) D (wellL L s)).length = L) := by show _ = _; rw [newL_len, HWL.out]
    obtain ⟨out, hout⟩ : ∃ out, out = newL (hrdF n f d p r dr o sl md fr ad cap zs votes) D (wellL L s) := ⟨_, rfl⟩
    obtain ⟨c, hc⟩ : ∃ c, c = newB (hrdF n f d p r dr o sl md fr ad cap zs votes) D (wellL L s) L := ⟨_, rfl⟩
    rw [← hout] at hf HNL
    rw [← hc] at hb9
    have HO := hidden hout
    have HC := hidden hc
    have CE : Hid (∀ V, Calls Try.prog 111 #[.string (ba [c])] V fun e w' => e = .returned (.int .i64 (endF c)) ∧ Below V.heap.size V w') := fun V => endOf_any c V
    have hcv : ∀ X, Below V.heap.size V X → (convert 88 9 (.slice (some ⟨g, 0, none⟩) L cap')).run Try.prog X = .ok (.string (ba out)) X := fun X hX => by
      have h := (hf.later hX).text cap'
      rw [HNL.out] at h
      exact h
    have hc9 := hb9.cell
    have hl9 := hb9.lt
    have HBV := hidden hB
    have HK := hidden hK
    have hS : ∀ X, Chn V.heap.size V X → X.cell? ⟨w2.heap.size, 0, none⟩ = some (.string (ba [c])) ∧ (convert 88 9 (.slice (some ⟨g, 0, none⟩) L cap')).run Try.prog X = .ok (.string (ba out)) X := fun X hX => ⟨(hX.1.cell (p := ⟨w2.heap.size, 0, none⟩) hl9).trans hc9, hcv X hX.1⟩
    have hC0 : Chn V.heap.size V V := Chn.refl (Nat.le_refl _)
    clear hf hb9 he0 he1 he2 hB hK hout hc hGI HE2 HF5 E05 E15 HB5 CH hcv hd
    obtain ⟨en, hen⟩ : ∃ en, en = endF c := ⟨_, rfl⟩
    rw [← hen] at CE
    have HEN := hidden hen
    clear hen
    generalize ba [c] = ct at *
    obtain ⟨ot, hot⟩ : ∃ ot, ot = ba out := ⟨_, rfl⟩
    rw [← hot] at hS
    have HOT := hidden hot
    clear hot
    go_wp2
    go_region_held3 (fun X => X.cell? ⟨w2.heap.size, 0, none⟩ = some (.string ct) ∧ (convert 88 9 (.slice (some ⟨g, 0, none⟩) L cap')).run Try.prog X = .ok (.string ot) X) (first | exact hS _ (by repeat (first | with_reducible assumption | with_reducible refine Chn.drew ?_)))
      (first
      | (go_at_call 111; refine (CE.out _).mono ?_; rintro e w7 ⟨rfl, hb⟩; have hC7 := Chn.below (show Chn V.heap.size V _ from (by repeat (first | with_reducible assumption | with_reducible refine Chn.drew ?_))) hb; clear hb))
    all_goals
      have hws := hsz0.out
      have hK7 := blk_later HK.out hC7.1
      go_wp2
      refine ⟨by simp, .inl ⟨_, _, rfl, run_takeDeferred hK7, ?_⟩⟩
      refine ⟨.tuple #[.string ot, .int .i64 en], by simp [results, Try.results78, go_sem], ?_, (bthen HBV.out hC7.1).trans (belowK_b (w := w) (Nat.le_refl _) w7 D2 _ _ (by have := HBV.out.size; omega) hK7 rfl rfl)⟩
      rw [← HO.out, ← HC.out, ← HOT.out, ← HEN.out]
theorem Move_any (n f d p r dr o sl md fr : Int) (ad : Option Addr) (cap : Nat) (zs : List Int) (R D L : Nat) (s : ByteArray) (hs : s.size ≤ 9223372036854775807) (a2 : Option Addr) (c2 : Nat) (votes : List ByteArray) (w : World) (hl : zs.length ≤ 9223372036854775807) (hT : Tab w ad zs) (hR : gate (plainE n f d p r dr o sl md fr zs) (3 * (f + 1)) = (R : Int)) (hL : gate (plainE n f d p r dr o sl md fr zs) (3 * (f + 1) * d) = (L : Int))
    (hR15 : R ≤ 15) (hL60 : L ≤ 60) (hLD : L = R * D) (hd : R = 0 ∨ (d = (D : Int) ∧ 1 ≤ D ∧ D ≤ 4)) (hn : votes.length ≤ 100000) (hV : kStr.Lies w.heap.size w (.slice a2 votes.length c2) votes) (hz : ∀ t ∈ votes, t.size ≤ 9223372036854775807) :
    Calls Try.prog 78 #[.agg #[.int .i64 n, .int .i64 f, .int .i64 d, .int .i64 p, .int .i64 r, .int .i64 dr, .int .i64 o, .int .i64 sl, .int .i64 md, .int .i64 fr, .slice ad zs.length cap], .string s, .slice a2 votes.length c2] w fun e W' => e = .returned (.tuple #[.string (ba (newL (hrdF n f d p r dr o sl md fr ad cap zs votes) D (wellL L s))), .int .i64 (endF (newB (hrdF n f d p r dr o sl md fr ad cap zs votes) D (wellL L s) L))]) ∧ Below w.heap.size w W' :=
  (callsIn_wide (n := 8)).1 (Move_in n f d p r dr o sl md fr ad cap zs R D L s hs a2 c2 votes w hl hT hR hL hR15 hL60 hLD hd hn hV hz)

/-- The code that an instance has at first. -/
def begC8 (bit : Int) : UInt8 := UInt8.ofNat (48 + (codeF (startF bit)).toNat)
set_option maxHeartbeats 1000000 in
theorem Begin_any (n f d p r dr o sl md fr : Int) (ad : Option Addr) (cap : Nat) (zs : List Int) (L : Nat) (s : ByteArray) (bit : Int) (hs : s.size ≤ 9223372036854775807) (w : World) (hl : zs.length ≤ 9223372036854775807) (hT : Tab w ad zs) (hL : gate (plainE n f d p r dr o sl md fr zs) (3 * (f + 1) * d) = (L : Int)) (hL60 : L ≤ 60) :
    Calls Try.prog 79 #[.agg #[.int .i64 n, .int .i64 f, .int .i64 d, .int .i64 p, .int .i64 r, .int .i64 dr, .int .i64 o, .int .i64 sl, .int .i64 md, .int .i64 fr, .slice ad zs.length cap], .string s, .int .i64 bit] w fun e w' => e = .returned (.string (ba ((wellL L s).set 0 (begC8 bit)))) ∧ Below w.heap.size w w' := by
  have CC := hidden (fun V h => codesOf_any n f d p r dr o sl md fr ad cap zs L s hs V hl h hL hL60)
  have HB0 := hidden (ballc w (.cells #[.int .i64 n, .int .i64 f, .int .i64 d, .int .i64 p, .int .i64 r, .int .i64 dr, .int .i64 o, .int .i64 sl, .int .i64 md, .int .i64 fr, .slice ad zs.length cap] 24))
  have HT := hidden (hT.below HB0.out)
  have C1 := hidden (fun V => Start_any bit V)
  have C2 := hidden (fun V => Code_any (startF bit) V)
  have HBC : Hid (begC8 bit = UInt8.ofNat (48 + (codeF (startF bit)).toNat)) := rfl
  have hcb := codeF_bd (startF bit)
  have HWL := hidden (wellL_len L s)
  clear hT hL
  generalize begC8 bit = bc at *
  generalize codeF (startF bit) = q at *
  generalize startF bit = sb at *
  obtain ⟨bv, bs⟩ := sb
  unfold agB at C1
  dsimp only at C1 C2
  obtain ⟨qn, rfl⟩ : ∃ qn : Nat, q = (qn : Int) := ⟨q.toNat, by omega⟩
  rw [Int.toNat_natCast] at HBC
  by_cases h0 : 0 < L
  · have j : (0 : Int) < (L : Int) := by omega
    go_enter Try.func79, Try.ntmps79
    go_wp2_with fail
    refine (CC.out _ HT.out).mono ?_
    rintro e w2 ⟨g, cap', rfl, hF, hg, hcap, hb⟩
    have HB2 := hidden (bthen HB0.out hb)
    have HF2 := hidden hF
    have hgw : w.heap.size ≤ g := by simp at hg; omega
    clear hb hF CC HT hg
    go_wp2_with fail
    refine (C1.out _).mono ?_
    rintro e w3 ⟨rfl, hb⟩
    have HB3 := hidden (bthen HB2.out hb)
    have HF3 := hidden (HF2.out.later hb)
    clear hb HF2 HB2
    go_wp2_with fail
    refine (C2.out _).mono ?_
    rintro e w4 ⟨rfl, hb⟩
    have HB4 := hidden (bthen HB3.out hb)
    have hF4 := HF3.out.later hb
    have c4 := hF4.cell 0 (by rw [HWL.out]; exact h0)
    have f4 := hF4.open 0 (by rw [HWL.out]; exact h0)
    have l4 := hF4.lt
    have hset := hF4.set 0 (by rw [HWL.out]; exact h0) bc
    have hcv := hset.text cap'
    rw [List.length_set, HWL.out] at hcv
    have hbn : ((bc.toNat : Nat) : Int) = 48 + (qn : Int) := by rw [HBC.out, UInt8.toNat_ofNat_of_lt' (by simp [UInt8.size]; omega)]; omega
    rw [hbn] at hcv
    clear hb HF3 HB3 hF4 hset hbn
    go_wp2
    go_ret
    exact ⟨rfl, HB4.out.setCell (p := ⟨g, 0, none⟩) (by simp; omega) _⟩
  · obtain rfl : L = 0 := by omega
    have hn : (wellL 0 s).set 0 bc = wellL 0 s := by
      rw [List.eq_nil_of_length_eq_zero (wellL_len 0 s)]
      rfl
    rw [hn]
    clear hn
    go_enter Try.func79, Try.ntmps79
    go_wp2_with fail
    refine (CC.out _ HT.out).mono ?_
    rintro e w2 ⟨g, cap', rfl, hF, hg, hcap, hb⟩
    have HB2 := hidden (bthen HB0.out hb)
    have hcv := hF.text cap'
    rw [HWL.out] at hcv
    clear hb hF CC HT hg
    go_wp2
    go_ret
    exact ⟨rfl, HB2.out⟩
end Go.Proofs.Ytohgmliafidalaa

/- The call Step of package beat returns what plain functions give, and makes at most new memory; conditions: rows lie where they say, numbers and lengths fit int, at most a hundred thousand votes. -/
namespace Go.Proofs.Ytohgmliafidalaa
open Go.ChangeShapes Go.WideShapes Go.ChangeAt Go.RowKit
set_option linter.unusedVariables false
attribute [local go_sem] cell_rg

theorem nxt1_bd {E P s : Int} {b : Bool} (hs : s ≤ 9223372036854775807) (hP : P ≤ 9223372036854775807) : -9223372036854775808 ≤ nxt1 E P s b ∧ nxt1 E P s b ≤ 9223372036854775807 := by
  have := satF_bd hs hP
  unfold nxt1 nxF
  split
  · split <;> omega
  · omega
/-- A tick with its votes: the pulse, Since, the pipe. -/
def stpP (n f d p r dr o sl md fr : Int) (ad : Option Addr) (cap : Nat) (zs : List Int) (D L : Nat) (votes : List ByteArray) (l : List UInt8) : Bool := endF (newB (hrdF n f d p r dr o sl md fr ad cap zs votes) D l L) == 1
def stpS (n f d p r dr o sl md fr : Int) (ad : Option Addr) (cap : Nat) (zs : List Int) (D L : Nat) (votes : List ByteArray) (l : List UInt8) (s : Int) : Int := nxt1 (plainE n f d p r dr o sl md fr zs) p s (stpP n f d p r dr o sl md fr ad cap zs D L votes l)
def stpR (n f d p r dr o sl md fr : Int) (ad : Option Addr) (cap : Nat) (zs : List Int) (D L : Nat) (votes : List ByteArray) (l : List UInt8) (s r' : Int) : Int := nxt2 (plainE n f d p r dr o sl md fr zs) p s r' (stpP n f d p r dr o sl md fr ad cap zs D L votes l)
def stpL (n f d p r dr o sl md fr : Int) (ad : Option Addr) (cap : Nat) (zs : List Int) (D L : Nat) (votes : List ByteArray) (l : List UInt8) (s : Int) : List UInt8 := (newL (hrdF n f d p r dr o sl md fr ad cap zs votes) D l).set 0 (begC8 (bitI (plainE n f d p r dr o sl md fr zs) p L (stpS n f d p r dr o sl md fr ad cap zs D L votes l s)))
theorem wellL_ba {L : Nat} {l : List UInt8} (h : l.length = L) : wellL L (ba l) = l := by
  unfold wellL
  rw [if_pos (by rw [ba_size, h]), bl_ba]
theorem stpL_len (n f d p r dr o sl md fr : Int) (ad : Option Addr) (cap : Nat) (zs : List Int) (D L : Nat) (votes : List ByteArray) (l : List UInt8) (s : Int) : (stpL n f d p r dr o sl md fr ad cap zs D L votes l s).length = l.length := by
  unfold stpL
  rw [List.length_set, newL_len]

set_option maxRecDepth 100000 in
set_option maxHeartbeats 2000000 in
theorem BStep_any (n f d p r dr o sl md fr : Int) (ad : Option Addr) (cap : Nat) (zs : List Int) (R D L : Nat) (s : ByteArray) (hs : s.size ≤ 9223372036854775807) (si ri : Int) (hsi : -9223372036854775808 ≤ si ∧ si ≤ 9223372036854775807) (hri : -9223372036854775808 ≤ ri ∧ ri ≤ 9223372036854775807) (a2 : Option Addr) (c2 : Nat) (votes : List ByteArray) (w : World) (hl : zs.length ≤ 9223372036854775807) (hT : Tab w ad zs) (hR : gate (plainE n f d p r dr o sl md fr zs) (3 * (f + 1)) = (R : Int)) (hL : gate (plainE n f d p r dr o sl md fr zs) (3 * (f + 1) * d) = (L : Int))
    (hR15 : R ≤ 15) (hL60 : L ≤ 60) (hLD : L = R * D) (hd : R = 0 ∨ (d = (D : Int) ∧ 1 ≤ D ∧ D ≤ 4)) (hn : votes.length ≤ 100000) (hV : kStr.Lies w.heap.size w (.slice a2 votes.length c2) votes) (hz : ∀ t ∈ votes, t.size ≤ 9223372036854775807) :
    Calls Try.prog 40 #[.agg #[.int .i64 n, .int .i64 f, .int .i64 d, .int .i64 p, .int .i64 r, .int .i64 dr, .int .i64 o, .int .i64 sl, .int .i64 md, .int .i64 fr, .slice ad zs.length cap], .string s, .int .i64 si, .int .i64 ri, .slice a2 votes.length c2] w fun e w' => e = .returned (.tuple #[.string (ba (stpL n f d p r dr o sl md fr ad cap zs D L votes (wellL L s) si)), .int .i64 (stpS n f d p r dr o sl md fr ad cap zs D L votes (wellL L s) si), .int .i64 (stpR n f d p r dr o sl md fr ad cap zs D L votes (wellL L s) si ri), .bool (stpP n f d p r dr o sl md fr ad cap zs D L votes (wellL L s))]) ∧ Below w.heap.size w w' := by
  have HB0 := hidden (ballc w (.cells #[.int .i64 n, .int .i64 f, .int .i64 d, .int .i64 p, .int .i64 r, .int .i64 dr, .int .i64 o, .int .i64 sl, .int .i64 md, .int .i64 fr, .slice ad zs.length cap] 24))
  have HT := hidden (hT.below HB0.out)
  have HK := hidden (blk_nw w #[.int .i64 n, .int .i64 f, .int .i64 d, .int .i64 p, .int .i64 r, .int .i64 dr, .int .i64 o, .int .i64 sl, .int .i64 md, .int .i64 fr, .slice ad zs.length cap] 24)
  have HM := hidden (Move_any n f d p r dr o sl md fr ad cap zs R D L s hs a2 c2 votes (w.alloc (.cells #[.int .i64 n, .int .i64 f, .int .i64 d, .int .i64 p, .int .i64 r, .int .i64 dr, .int .i64 o, .int .i64 sl, .int .i64 md, .int .i64 fr, .slice ad zs.length cap] 24)) hl HT.out hR hL hR15 hL60 hLD hd hn (hV.later HB0.out) hz)
  have hPP : Hid (stpP n f d p r dr o sl md fr ad cap zs D L votes (wellL L s) = (endF (newB (hrdF n f d p r dr o sl md fr ad cap zs votes) D (wellL L s) L) == 1)) := rfl
  have CN := hidden (fun V h => BNext_any n f d p r dr o sl md fr ad cap zs si ri (stpP n f d p r dr o sl md fr ad cap zs D L votes (wellL L s)) V hl h hsi hri)
  have hp4 : plainE n f d p r dr o sl md fr zs = 0 → p ≤ 400 := fun h => by obtain ⟨_, _, _, _, _, _, _, _, hp2, _⟩ := plainE_ok h; exact hp2
  have hsb : -9223372036854775808 ≤ stpS n f d p r dr o sl md fr ad cap zs D L votes (wellL L s) si ∧ stpS n f d p r dr o sl md fr ad cap zs D L votes (wellL L s) si ≤ 9223372036854775807 := by
    unfold stpS
    by_cases hE : plainE n f d p r dr o sl md fr zs = 0
    · exact nxt1_bd hsi.2 (by have := hp4 hE; omega)
    · unfold nxt1
      rw [if_neg hE]
      omega
  have CB := hidden (fun V h => BBit_any n f d p r dr o sl md fr ad cap zs L (stpS n f d p r dr o sl md fr ad cap zs D L votes (wellL L s) si) V hl h hL hL60 hsb)
  have CG := hidden (fun V h => Begin_any n f d p r dr o sl md fr ad cap zs L (ba (newL (hrdF n f d p r dr o sl md fr ad cap zs votes) D (wellL L s))) (bitI (plainE n f d p r dr o sl md fr zs) p L (stpS n f d p r dr o sl md fr ad cap zs D L votes (wellL L s) si)) (by rw [ba_size, newL_len, wellL_len]; omega) V hl h hL hL60)
  rw [wellL_ba (by rw [newL_len, wellL_len])] at CG
  have h1 : Hid (stpL n f d p r dr o sl md fr ad cap zs D L votes (wellL L s) si = (newL (hrdF n f d p r dr o sl md fr ad cap zs votes) D (wellL L s)).set 0 (begC8 (bitI (plainE n f d p r dr o sl md fr zs) p L (stpS n f d p r dr o sl md fr ad cap zs D L votes (wellL L s) si)))) := rfl
  have h2 : Hid (stpS n f d p r dr o sl md fr ad cap zs D L votes (wellL L s) si = nxt1 (plainE n f d p r dr o sl md fr zs) p si (stpP n f d p r dr o sl md fr ad cap zs D L votes (wellL L s))) := rfl
  have h3 : Hid (stpR n f d p r dr o sl md fr ad cap zs D L votes (wellL L s) si ri = nxt2 (plainE n f d p r dr o sl md fr zs) p si ri (stpP n f d p r dr o sl md fr ad cap zs D L votes (wellL L s))) := rfl
  rw [← h2.out, ← h3.out] at CN
  rw [← h1.out] at CG
  clear hT hV hz hR hL hLD hd h1 h2 h3 hp4 hsb
  generalize stpL n f d p r dr o sl md fr ad cap zs D L votes (wellL L s) si = o1 at *
  generalize stpS n f d p r dr o sl md fr ad cap zs D L votes (wellL L s) si = o2 at *
  generalize stpR n f d p r dr o sl md fr ad cap zs D L votes (wellL L s) si ri = o3 at *
  generalize stpP n f d p r dr o sl md fr ad cap zs D L votes (wellL L s) = o4 at *
  generalize endF (newB (hrdF n f d p r dr o sl md fr ad cap zs votes) D (wellL L s) L) = en at *
  generalize ba (newL (hrdF n f d p r dr o sl md fr ad cap zs votes) D (wellL L s)) = mv at *
  generalize bitI (plainE n f d p r dr o sl md fr zs) p L o2 = bi at *
  generalize ba o1 = ot at *
  generalize votes.length = M at *
  have hpp := hPP.out
  subst hpp
  generalize hbb : (en == 1) = bb at *
  clear hPP
  have j := hbb
  clear hbb
  go_enter Try.func40, Try.ntmps40
  go_wp2_with fail
  refine HM.out.mono ?_
  rintro e w2 ⟨rfl, hb⟩
  have HB2 := hidden (bthen HB0.out hb)
  have HT2 := hidden (HT.out.below hb)
  have HK2 := hidden (blk_later HK.out hb)
  have c0 := blk_cell HK2.out
  have l0 := blk_lt HK2.out
  clear hb HT HK HM
  go_wp2_with fail
  refine (CN.out _ HT2.out).mono ?_
  rintro e w3 ⟨rfl, hb⟩
  have HB3 := hidden (bthen HB2.out hb)
  have HT3 := hidden (HT2.out.below hb)
  have HK3 := hidden (blk_later HK2.out hb)
  clear hb HT2 HK2 CN c0 l0
  have c0 := blk_cell HK3.out
  have l0 := blk_lt HK3.out
  go_wp2
  refine wp_region_quiet_below (by kernel_rfl) (by kernel_rfl) ?_
  repeat (go_big_quiet_step (first | (go_at_call 41; exact Calls.regrown_of (CB.out _ (HT3.out.below (below_regrown _ _ _)))) | (go_at_call 79; exact Calls.regrown_of (CG.out _ (HT3.out.below (below_regrown _ _ _))))))
  refine wpQuiet_nil ?_
  intro w5 hw5
  have HB5 := hidden (bthen HB3.out (rg_below hw5))
  clear hw5 c0 l0
  go_wp2
  exact bodyPost_ret (v := .tuple #[.string ot, .int .i64 o2, .int .i64 o3, .bool bb]) (by simp [results, Try.results40, go_sem]) rfl ⟨rfl, HB5.out⟩
end Go.Proofs.Ytohgmliafidalaa

/- Plain mathematics: with few faulty nodes all others have the same bits behind a whole instance, whatever texts faulty ones tell, and keep bits that they share; no conditions but those in the theorems. -/
namespace Go.Proofs.Ytohgmliafidalaa
open Go.ChangeShapes Go.WideShapes Go.ChangeAt Go.RowKit
set_option linter.unusedVariables false

/-- What a lie is: those of one place after another, round and round. -/
def lieV (lies : List ByteArray) (N x a t : Nat) : ByteArray := lies.getD (((x * N + a) * N + t) % lies.length) noB
def sayV (fa : Nat → Bool) (lies : List ByteArray) (N wd x t : Nat) (now : List ByteArray) (a : Nat) : ByteArray := if fa a = true then lieV lies N x a t else dgB wd (valG (now.getD a noB))
def votesV (fa : Nat → Bool) (lies : List ByteArray) (N wd x t : Nat) (now : List ByteArray) : List ByteArray := (List.range N).map (sayV fa lies N wd x t now)
def nextV (fa : Nat → Bool) (lies : List ByteArray) (N wd : Nat) (f : Int) (x : Nat) (now : List ByteArray) (t : Nat) : ByteArray := dgB wd (stpG 0 N f x (now.getD t noB) ((votesV fa lies N wd x t now).getD (x / 3) noB) (votesV fa lies N wd x t now))
def nowV (fa : Nat → Bool) (lies : List ByteArray) (N wd : Nat) (f : Int) (bits : List ByteArray) : Nat → List ByteArray
  | 0 => (List.range N).map fun i => dgB wd (ofG (bits.getD i noB))
  | x + 1 => (List.range N).map (nextV fa lies N wd f x (nowV fa lies N wd f bits x))
/-- The bits of all nodes at one place. -/
def bitsP (N : Nat) (now : List ByteArray) (p : Nat) : List (Int × Bool) := (List.range N).map fun i => bitK (now.getD i noB) p
theorem nowV_len (fa : Nat → Bool) (lies : List ByteArray) (N wd : Nat) (f : Int) (bits : List ByteArray) (x : Nat) : (nowV fa lies N wd f bits x).length = N := by cases x <;> simp [nowV]
theorem votesV_len (fa : Nat → Bool) (lies : List ByteArray) (N wd x t : Nat) (now : List ByteArray) : (votesV fa lies N wd x t now).length = N := by simp [votesV]
theorem votesV_at (fa : Nat → Bool) (lies : List ByteArray) (N wd x t : Nat) (now : List ByteArray) (a : Nat) (ha : a < N) : (votesV fa lies N wd x t now).getD a noB = sayV fa lies N wd x t now a := range_getD _ _ _ _ ha
theorem nowV_at (fa : Nat → Bool) (lies : List ByteArray) (N wd : Nat) (f : Int) (bits : List ByteArray) (x i : Nat) (hi : i < N) : (nowV fa lies N wd f bits (x + 1)).getD i noB = nextV fa lies N wd f x (nowV fa lies N wd f bits x) i := range_getD _ _ _ _ hi
theorem nowV_size (fa : Nat → Bool) (lies : List ByteArray) (N wd : Nat) (f : Int) (bits : List ByteArray) (x i : Nat) (hi : i < N) : ((nowV fa lies N wd f bits x).getD i noB).size = wd := by
  cases x with
  | zero =>
    have : (nowV fa lies N wd f bits 0).getD i noB = dgB wd (ofG (bits.getD i noB)) := range_getD _ _ _ _ hi
    rw [this, dgB_size]
  | succ x => rw [nowV_at _ _ _ _ _ _ _ _ hi]; exact dgB_size _ _
theorem readK_codeF {b : Int × Bool} (h : 0 ≤ b.1 ∧ b.1 ≤ 2) : readK (codeF b) = b := by
  obtain ⟨v, s⟩ := b
  have e := valF_same (b := (v, s)) h
  simp only at h e
  have hv : v = 0 ∨ v = 1 ∨ v = 2 := by omega
  unfold codeF
  rw [e]
  rcases hv with rfl | rfl | rfl <;> cases s <;> rfl
theorem obey_bd (b : Int × Bool) (k : Int) : 0 ≤ (obeyF b k).1 ∧ (obeyF b k).1 ≤ 2 ∧ (obeyF b k).2 = false := by
  have := valF_bd b
  unfold obeyF
  split
  · exact ⟨by simp; omega, by simp; omega, rfl⟩
  · split <;> exact ⟨by decide, by decide, rfl⟩
theorem step_bd (n f x : Int) (b : Int × Bool) (k : Int) (vs : List Int) : 0 ≤ (stepF 0 n f x b k vs).1 ∧ (stepF 0 n f x b k vs).1 ≤ 2 := by
  have h := modF3 x
  have hx : modF x 3 = 0 ∨ modF x 3 = 1 ∨ modF x 3 = 2 := by omega
  rcases hx with hx | hx | hx
  · rw [stepF_0 hx]; exact most_bd n f vs
  · rw [stepF_1 hx]; exact least_bd f _ vs (valF_bd b)
  · rw [stepF_2 hx]; exact ⟨(obey_bd b k).1, (obey_bd b k).2.1⟩
theorem bit_next (fa : Nat → Bool) (lies : List ByteArray) (N wd : Nat) (f : Int) (x : Nat) (now : List ByteArray) (t p : Nat) (hp : p < wd) : bitK (nextV fa lies N wd f x now t) p = stpB 0 N f x (now.getD t noB) ((votesV fa lies N wd x t now).getD (x / 3) noB) (votesV fa lies N wd x t now) p := by
  have hb := stpG_bd 0 N f x (now.getD t noB) ((votesV fa lies N wd x t now).getD (x / 3) noB) (votesV fa lies N wd x t now) p
  unfold bitK nextV
  rw [vdg_dgB hp (by omega) (by omega), stpG_int]
  exact readK_codeF (step_bd _ _ _ _ _ _)
section
variable {fa : Nat → Bool} {lies : List ByteArray} {N wd F : Nat} {bits : List ByteArray}
theorem say_bit (x t : Nat) (now : List ByteArray) (p : Nat) (hp : p < wd) (a : Nat) (ha : a < N) : vdg 2 (sayV fa lies N wd x t now a) p = sayG fa (fun x a t => vdg 2 (lieV lies N x a t) p) x t (bitsP N now p) a := by
  unfold sayV sayG
  by_cases h : fa a = true
  · rw [if_pos h, if_pos h]
  · rw [if_neg h, if_neg h]
    have hv := valG_bd (now.getD a noB) p
    have e : (bitsP N now p).getD a (0, false) = bitK (now.getD a noB) p := range_getD _ _ _ _ ha
    rw [vdg_dgB hp (by omega) (by omega), valG_int, e]
    exact (valF_same (readK_bd _)).symm
theorem votes_bit (x t : Nat) (now : List ByteArray) (p : Nat) (hp : p < wd) : (votesV fa lies N wd x t now).map (fun s => vdg 2 s p) = votesG fa (fun x a t => vdg 2 (lieV lies N x a t) p) N x t (bitsP N now p) := by
  unfold votesV votesG
  rw [List.map_map]
  apply List.map_congr_left
  intro a ha
  exact say_bit x t now p hp a (List.mem_range.1 ha)
theorem bits_step (x : Nat) (hx : x / 3 < N) (now : List ByteArray) (p : Nat) (hp : p < wd) : bitsP N ((List.range N).map (nextV fa lies N wd F x now)) p = exchG fa (fun x a t => vdg 2 (lieV lies N x a t) p) N F x (bitsP N now p) := by
  unfold exchG
  conv => lhs; unfold bitsP
  apply List.map_congr_left
  intro t ht
  have ht := List.mem_range.1 ht
  have e : ((List.range N).map (nextV fa lies N wd F x now)).getD t noB = nextV fa lies N wd F x now t := range_getD _ _ _ _ ht
  rw [e, bit_next _ _ _ _ _ _ _ _ _ hp]
  unfold stpB stepG
  have e1 : (bitsP N now p).getD t (0, false) = bitK (now.getD t noB) p := range_getD _ _ _ _ ht
  have e2 : (votesG fa (fun x a t => vdg 2 (lieV lies N x a t) p) N x t (bitsP N now p)).getD (x / 3) 0 = vdg 2 ((votesV fa lies N wd x t now).getD (x / 3) noB) p := by
    rw [votesV_at _ _ _ _ _ _ _ _ hx, say_bit x t now p hp _ hx]
    exact range_getD _ _ _ _ hx
  rw [votes_bit x t now p hp, e1, e2]
theorem bits_play (hN : F < N) (p : Nat) (hp : p < wd) : ∀ x, x ≤ 3 * (F + 1) → bitsP N (nowV fa lies N wd F bits x) p = playG fa (fun x a t => vdg 2 (lieV lies N x a t) p) N F (bitsP N (nowV fa lies N wd F bits 0) p) x
  | 0, _ => rfl
  | x + 1, h => by
    have ih := bits_play hN p hp x (by omega)
    show bitsP N ((List.range N).map (nextV fa lies N wd F x (nowV fa lies N wd F bits x))) p = _
    rw [bits_step x (by omega) _ p hp, ih]
    rfl
theorem start_bit (i p : Nat) (hi : i < N) (hp : p < wd) : vlF (bitsP N (nowV fa lies N wd F bits 0) p) i = if vdg 1 (bits.getD i noB) p = 1 then 1 else 0 := by
  unfold vlF
  have e : (bitsP N (nowV fa lies N wd F bits 0) p).getD i (0, false) = bitK ((nowV fa lies N wd F bits 0).getD i noB) p := range_getD _ _ _ _ hi
  have e2 : (nowV fa lies N wd F bits 0).getD i noB = dgB wd (ofG (bits.getD i noB)) := range_getD _ _ _ _ hi
  have hb := ofG_bd (bits.getD i noB) p
  rw [e, e2]
  unfold bitK
  rw [vdg_dgB hp (by omega) (by omega), ofG_int]
  unfold startF
  by_cases h : vdg 1 (bits.getD i noB) p = 1
  · rw [if_pos h, if_pos h]; rfl
  · rw [if_neg h, if_neg h]; rfl
/-- At one place: the common bit in the end. -/
theorem place_end (hF : facL fa N ≤ F) (hN : 3 * F < N) (p : Nat) (hp : p < wd) : ∃ u : Nat, u ≤ 1 ∧ (∀ i, i < N → fa i = false → stpG 0 N F ((3 * F + 2 : Nat) : Int) ((nowV fa lies N wd F bits (3 * F + 2)).getD i noB) ((votesV fa lies N wd (3 * F + 2) i (nowV fa lies N wd F bits (3 * F + 2))).getD ((3 * F + 2) / 3) noB) (votesV fa lies N wd (3 * F + 2) i (nowV fa lies N wd F bits (3 * F + 2))) p = u)
    ∧ ∀ v : Nat, v ≤ 1 → (∀ i, i < N → fa i = false → (if vdg 1 (bits.getD i noB) p = 1 then 1 else 0) = v) → u = v := by
  obtain ⟨ui, hu, hcom⟩ := agree_allG (lie := fun x a t => vdg 2 (lieV lies N x a t) p) (bs0 := bitsP N (nowV fa lies N wd F bits 0) p) hF hN
  obtain ⟨m, hm, hfm⟩ := one_honestG hF hN
  refine ⟨ui.toNat, by omega, fun i hi hf => ?_, fun v hv h => ?_⟩
  · have hc := hcom i hi hf
    rw [show 3 * (F + 1) = (3 * F + 2) + 1 by omega] at hc
    have hpl := bits_play (fa := fa) (lies := lies) (bits := bits) (wd := wd) (by omega : F < N) p hp (3 * F + 2 + 1) (by omega)
    rw [← hpl] at hc
    unfold vlF at hc
    have e : (bitsP N (nowV fa lies N wd F bits (3 * F + 2 + 1)) p).getD i (0, false) = bitK ((nowV fa lies N wd F bits (3 * F + 2 + 1)).getD i noB) p := range_getD _ _ _ _ hi
    rw [e, nowV_at _ _ _ _ _ _ _ _ hi, bit_next _ _ _ _ _ _ _ _ _ hp] at hc
    have hob : (stpB 0 N F ((3 * F + 2 : Nat) : Int) ((nowV fa lies N wd F bits (3 * F + 2)).getD i noB) ((votesV fa lies N wd (3 * F + 2) i (nowV fa lies N wd F bits (3 * F + 2))).getD ((3 * F + 2) / 3) noB) (votesV fa lies N wd (3 * F + 2) i (nowV fa lies N wd F bits (3 * F + 2))) p).2 = false := by
      unfold stpB
      rw [stepF_2 (by rw [modF3_nat]; omega)]
      exact (obey_bd _ _).2.2
    unfold stpG codeF
    rw [if_neg (by rw [hob]; decide), hc]
  · have hk := keep_endG (lie := fun x a t => vdg 2 (lieV lies N x a t) p) (bs0 := bitsP N (nowV fa lies N wd F bits 0) p) (v := (v : Int)) (by omega) hF hN (fun i hi hf => by
      rw [start_bit i p hi hp]
      have := h i hi hf
      by_cases q : vdg 1 (bits.getD i noB) p = 1
      · rw [if_pos q] at this ⊢; omega
      · rw [if_neg q] at this ⊢; omega)
    have h1 := hcom m (by omega) hfm
    have h2 := hk m (by omega) hfm
    omega
/-- All nodes that are not faulty end with one text; a bit that all of them began with stays. -/
theorem vec_end (hF : facL fa N ≤ F) (hN : 3 * F < N) : ∃ u : Nat → Nat, (∀ p, u p ≤ 1) ∧ (∀ i, i < N → fa i = false → (nowV fa lies N wd F bits (3 * (F + 1))).getD i noB = dgB wd u) ∧ ∀ p, p < wd → ∀ v : Nat, v ≤ 1 → (∀ i, i < N → fa i = false → (if vdg 1 (bits.getD i noB) p = 1 then 1 else 0) = v) → u p = v := by
  refine ⟨fun p => if h : p < wd then Classical.choose (place_end (lies := lies) (bits := bits) hF hN p h) else 0, fun p => ?_, fun i hi hf => ?_, fun p hp => ?_⟩
  · simp only
    split
    · next h => exact (Classical.choose_spec (place_end (lies := lies) (bits := bits) hF hN p h)).1
    · omega
  · rw [show 3 * (F + 1) = (3 * F + 2) + 1 by omega, nowV_at _ _ _ _ _ _ _ _ hi]
    refine dgB_congr fun p hp => ?_
    rw [dif_pos hp]
    exact (Classical.choose_spec (place_end (lies := lies) (bits := bits) hF hN p hp)).2.1 i hi hf
  · simp only
    rw [dif_pos hp]
    exact (Classical.choose_spec (place_end (lies := lies) (bits := bits) hF hN p hp)).2.2
end
/-- As many nodes are faulty as there are numbers that say so, at most. -/
theorem one_num (a : Int) : ∀ N : Nat, (List.range N).countP (fun k : Nat => decide ((k : Int) = a)) = if 0 ≤ a ∧ a < N then 1 else 0
  | 0 => by simp
  | N + 1 => by
    rw [List.range_succ, List.countP_append, one_num a N, List.countP_singleton]
    by_cases h : (N : Int) = a
    · subst h
      rw [if_neg (by omega), if_pos (by simp), if_pos (by omega)]
    · rw [if_neg (show ¬ decide ((N : Int) = a) = true by simp [h])]
      by_cases h2 : 0 ≤ a ∧ a < N
      · rw [if_pos h2, if_pos (by omega)]
      · rw [if_neg h2, if_neg (by omega)]
def faI (fs : List Int) (k : Nat) : Bool := decide ((k : Int) ∈ fs)
theorem facL_le (N : Nat) : ∀ fs : List Int, facL (faI fs) N ≤ fs.length
  | [] => by
    unfold facL faI
    simp
  | a :: l => by
    have ih := facL_le N l
    have h1 := one_num a N
    have h := countP_or (fun k : Nat => decide ((k : Int) = a)) (faI l) (faI (a :: l)) (List.range N) (fun k _ h => by
      unfold faI at h ⊢
      have h := of_decide_eq_true h
      rcases List.mem_cons.1 h with h | h
      · left; exact decide_eq_true h
      · right; exact decide_eq_true h)
    unfold facL at ih ⊢
    rw [h1] at h
    rw [List.length_cons]
    split at h <;> omega
end Go.Proofs.Ytohgmliafidalaa

/- Plain mathematics: an instance in a pipe goes through it as it would alone; no conditions but those in the theorems. -/
namespace Go.Proofs.Ytohgmliafidalaa
open Go.ChangeShapes Go.WideShapes Go.ChangeAt Go.RowKit
set_option linter.unusedVariables false

/-- A bit's code, as a byte; what the king told. -/
def cB (b : Int × Bool) : UInt8 := UInt8.ofNat (48 + (codeF b).toNat)
def bossQ (votes : List ByteArray) (x : Nat) : Int := (votesP votes x).getD (x / 3) (-1)
theorem bit_code {b : Int × Bool} (h : 0 ≤ b.1 ∧ b.1 ≤ 2) : bitK (ba [cB b]) 0 = b := by
  have hb := codeF_bd b
  have e : ba [cB b] = dgB 1 (fun _ => (codeF b).toNat) := rfl
  unfold bitK
  rw [e, vdg_dgB (by omega) (by omega) (by omega), Int.toNat_of_nonneg hb.1]
  exact readK_codeF h
theorem told_boss (votes : List ByteArray) (x : Nat) : vdg 2 (toldP votes x) 0 = bossQ votes x := by
  unfold toldP bossQ digsP votesP
  rw [List.getD_eq_getElem?_getD, List.getD_eq_getElem?_getD, List.getElem?_map, List.getElem?_map]
  cases votes[x / 3]? with
  | none => exact vdg_out (show noB.size ≤ 0 from Nat.le_refl 0)
  | some t => exact vdg_prt 2 t x
theorem digs_votes (votes : List ByteArray) (x : Nat) : (digsP votes x).map (fun t => vdg 2 t 0) = votesP votes x := by
  unfold digsP votesP
  rw [List.map_map]
  exact List.map_congr_left fun t _ => vdg_prt 2 t x
theorem hrd_step (n f : Int) (votes : List ByteArray) (x : Nat) {b : Int × Bool} (h : 0 ≤ b.1 ∧ b.1 ≤ 2) : hrdB 0 n f votes x (cB b) = cB (stepF 0 n f x b (bossQ votes x) (votesP votes x)) := by
  unfold hrdB stpG stpB
  rw [bit_code h, told_boss, digs_votes]
  rfl
/-- The instance alone, tick by tick; the pipe. -/
def bQ (n f : Int) (D : Nat) (vts : Nat → List ByteArray) (bit : Int) : Nat → Int × Bool
  | 0 => startF bit
  | t + 1 => if (t + 1) % D = 0 then stepF 0 n f (((t + 1) / D - 1 : Nat) : Int) (bQ n f D vts bit t) (bossQ (vts t) ((t + 1) / D - 1)) (votesP (vts t) ((t + 1) / D - 1)) else bQ n f D vts bit t
def lQ (n f : Int) (D : Nat) (vts : Nat → List ByteArray) (l0 : List UInt8) : Nat → List UInt8
  | 0 => l0
  | t + 1 => newL (hrdB 0 n f (vts t)) D (lQ n f D vts l0 t)
theorem start_bd (bit : Int) : 0 ≤ (startF bit).1 ∧ (startF bit).1 ≤ 2 := by unfold startF; split <;> decide
section
variable {n f : Int} {D : Nat} {vts : Nat → List ByteArray} {bit : Int} {l0 : List UInt8}
theorem bQ_bd : ∀ t, 0 ≤ (bQ n f D vts bit t).1 ∧ (bQ n f D vts bit t).1 ≤ 2
  | 0 => start_bd bit
  | t + 1 => by
    unfold bQ
    split
    · exact step_bd _ _ _ _ _ _
    · exact bQ_bd t
theorem lQ_len : ∀ t, (lQ n f D vts l0 t).length = l0.length
  | 0 => rfl
  | t + 1 => by
    show (newL _ _ _).length = _
    rw [newL_len, lQ_len t]
theorem old_next (t : Nat) : oldB (hrdB 0 n f (vts t)) D (t + 1) (cB (bQ n f D vts bit t)) = cB (bQ n f D vts bit (t + 1)) := by
  unfold oldB
  show _ = cB (if (t + 1) % D = 0 then _ else _)
  by_cases h : (t + 1) % D = 0
  · rw [if_pos h, if_pos h, hrd_step n f (vts t) _ (bQ_bd t)]
  · rw [if_neg h, if_neg h]
theorem lQ_at (h0 : at8 l0 0 = cB (startF bit)) : ∀ t, t < l0.length → at8 (lQ n f D vts l0 t) t = cB (bQ n f D vts bit t)
  | 0, _ => h0
  | t + 1, h => by
    have ih := lQ_at h0 t (by omega)
    show at8 (newL _ _ _) (t + 1) = _
    have hl : t + 1 < (newL (hrdB 0 n f (vts t)) D (lQ n f D vts l0 t)).length := by rw [newL_len, lQ_len]; exact h
    rw [at8_lt hl]
    have e : (newL (hrdB 0 n f (vts t)) D (lQ n f D vts l0 t))[t + 1]'hl = newB (hrdB 0 n f (vts t)) D (lQ n f D vts l0 t) (t + 1) := by simp [newL]
    rw [e, newB_s, ih, old_next]
theorem lQ_end (h0 : at8 l0 0 = cB (startF bit)) (t : Nat) (h : t < l0.length) : newB (hrdB 0 n f (vts t)) D (lQ n f D vts l0 t) (t + 1) = cB (bQ n f D vts bit (t + 1)) := by
  rw [newB_s, lQ_at h0 t h, old_next]
end
theorem endF_code {b : Int × Bool} (h : 0 ≤ b.1 ∧ b.1 ≤ 2) : (endF (cB b) == 1) = (b.1 == 1) := by
  unfold endF valG
  rw [bit_code h]
  by_cases e : b.1 = 1
  · rw [if_pos (by rw [e]; rfl), e]
  · rw [if_neg (by omega)]
    have : (b.1 == 1) = false := by simp [e]
    rw [this]; rfl
end Go.Proofs.Ytohgmliafidalaa

/- Plain mathematics: what the statements' own cluster does tick by tick is a cluster whose nodes pulse together in the end; conditions: the configuration is plain, few nodes are faulty. -/
namespace Go.Proofs.Ytohgmliafidalaa
open Go.ChangeShapes Go.WideShapes Go.ChangeAt Go.RowKit
set_option linter.unusedVariables false

/-- What node i hears of node k at tick t. -/
def voteQ (fa : Nat → Bool) (lies : List ByteArray) (N D : Nat) (told : List (List ByteArray)) (t i k : Nat) : ByteArray :=
  if t < D ∨ fa k = true then lieQ lies N t k i else (told.getD (t - D) []).getD k noB
def votesQ (fa : Nat → Bool) (lies : List ByteArray) (N D : Nat) (told : List (List ByteArray)) (t i : Nat) : List ByteArray := (List.range N).map (voteQ fa lies N D told t i)
theorem votesQ_len (fa : Nat → Bool) (lies : List ByteArray) (N D : Nat) (told : List (List ByteArray)) (t i : Nat) : (votesQ fa lies N D told t i).length = N := by simp [votesQ]
/-- Behind some ticks: pipes, Since, what was told, pulses as digits. -/
structure RunQ where
  ps : List ByteArray
  ss : List Int
  told : List (List ByteArray)
  out : List ByteArray
def tkP (N : Nat) (f d p r dr o sl md fr : Int) (ad : Option Addr) (cap : Nat) (zs : List Int) (D L : Nat) (fa : Nat → Bool) (lies : List ByteArray) (q : RunQ) (t i : Nat) : ByteArray := ba (stpL (N : Int) f d p r dr o sl md fr ad cap zs D L (votesQ fa lies N D q.told t i) (wellL L (q.ps.getD i noB)) (q.ss.getD i 0))
def tkS (N : Nat) (f d p r dr o sl md fr : Int) (ad : Option Addr) (cap : Nat) (zs : List Int) (D L : Nat) (fa : Nat → Bool) (lies : List ByteArray) (q : RunQ) (t i : Nat) : Int := stpS (N : Int) f d p r dr o sl md fr ad cap zs D L (votesQ fa lies N D q.told t i) (wellL L (q.ps.getD i noB)) (q.ss.getD i 0)
def tkE (N : Nat) (f d p r dr o sl md fr : Int) (ad : Option Addr) (cap : Nat) (zs : List Int) (D L : Nat) (fa : Nat → Bool) (lies : List ByteArray) (q : RunQ) (t i : Nat) : Bool := stpP (N : Int) f d p r dr o sl md fr ad cap zs D L (votesQ fa lies N D q.told t i) (wellL L (q.ps.getD i noB))
def tkT (N : Nat) (f d p r dr o sl md fr : Int) (ad : Option Addr) (cap : Nat) (zs : List Int) (D L R : Nat) (fa : Nat → Bool) (lies : List ByteArray) (q : RunQ) (t i : Nat) : ByteArray := dgB R (valG (ba (tellL D (wellL L (tkP N f d p r dr o sl md fr ad cap zs D L fa lies q t i)) R)))
def dgE (b : Bool) : UInt8 := if b = true then 49 else 48
def tkB (N : Nat) (f d p r dr o sl md fr : Int) (ad : Option Addr) (cap : Nat) (zs : List Int) (D L : Nat) (fa : Nat → Bool) (lies : List ByteArray) (q : RunQ) (t k : Nat) : ByteArray := ba ((List.range k).map fun i => dgE (tkE N f d p r dr o sl md fr ad cap zs D L fa lies q t i))
def tickQ (N : Nat) (f d p r dr o sl md fr : Int) (ad : Option Addr) (cap : Nat) (zs : List Int) (D L R : Nat) (fa : Nat → Bool) (lies : List ByteArray) (q : RunQ) (t : Nat) : RunQ :=
  ⟨(List.range N).map (tkP N f d p r dr o sl md fr ad cap zs D L fa lies q t), (List.range N).map (tkS N f d p r dr o sl md fr ad cap zs D L fa lies q t), q.told ++ [(List.range N).map (tkT N f d p r dr o sl md fr ad cap zs D L R fa lies q t)], q.out ++ [tkB N f d p r dr o sl md fr ad cap zs D L fa lies q t N]⟩
def runQ (N : Nat) (f d p r dr o sl md fr : Int) (ad : Option Addr) (cap : Nat) (zs : List Int) (D L R : Nat) (fa : Nat → Bool) (lies pipes : List ByteArray) (since : List Int) : Nat → RunQ
  | 0 => ⟨pipes, since, [], []⟩
  | t + 1 => tickQ N f d p r dr o sl md fr ad cap zs D L R fa lies (runQ N f d p r dr o sl md fr ad cap zs D L R fa lies pipes since t) t
section
variable {N : Nat} {f d p r dr o sl md fr : Int} {ad : Option Addr} {cap : Nat} {zs : List Int} {D L R : Nat} {fa : Nat → Bool} {lies pipes : List ByteArray} {since : List Int}
theorem runQ_told_len (t : Nat) : (runQ N f d p r dr o sl md fr ad cap zs D L R fa lies pipes since t).told.length = t := by
  induction t with
  | zero => rfl
  | succ t ih => show (_ ++ [_]).length = _; rw [List.length_append, ih]; rfl
theorem runQ_out_len (t : Nat) : (runQ N f d p r dr o sl md fr ad cap zs D L R fa lies pipes since t).out.length = t := by
  induction t with
  | zero => rfl
  | succ t ih => show (_ ++ [_]).length = _; rw [List.length_append, ih]; rfl
theorem runQ_ps_len (h : pipes.length = N) (t : Nat) : (runQ N f d p r dr o sl md fr ad cap zs D L R fa lies pipes since t).ps.length = N := by
  cases t with
  | zero => exact h
  | succ t => show ((List.range N).map _).length = N; simp
theorem runQ_ss_len (h : since.length = N) (t : Nat) : (runQ N f d p r dr o sl md fr ad cap zs D L R fa lies pipes since t).ss.length = N := by
  cases t with
  | zero => exact h
  | succ t => show ((List.range N).map _).length = N; simp
theorem getD_snoc {α : Type} (l : List α) (a z : α) {j : Nat} (h : j < l.length) : (l ++ [a]).getD j z = l.getD j z := by
  rw [List.getD_eq_getElem?_getD, List.getD_eq_getElem?_getD, List.getElem?_append_left h]
theorem getD_last {α : Type} (l : List α) (a z : α) {j : Nat} (h : j = l.length) : (l ++ [a]).getD j z = a := by
  subst h
  rw [List.getD_eq_getElem?_getD, List.getElem?_append_right (Nat.le_refl _), Nat.sub_self]
  rfl
theorem runQ_told_at (t : Nat) : ∀ j, j < t → (runQ N f d p r dr o sl md fr ad cap zs D L R fa lies pipes since t).told.getD j [] = (List.range N).map (tkT N f d p r dr o sl md fr ad cap zs D L R fa lies (runQ N f d p r dr o sl md fr ad cap zs D L R fa lies pipes since j) j) := by
  induction t with
  | zero => intro j hj; omega
  | succ t ih =>
    intro j hj
    show ((runQ N f d p r dr o sl md fr ad cap zs D L R fa lies pipes since t).told ++ [_]).getD j [] = _
    by_cases h : j < t
    · rw [getD_snoc _ _ _ (by rw [runQ_told_len]; exact h), ih j h]
    · obtain rfl : j = t := by omega
      rw [getD_last _ _ _ (by rw [runQ_told_len])]
theorem runQ_out_at (t : Nat) : ∀ j, j < t → (runQ N f d p r dr o sl md fr ad cap zs D L R fa lies pipes since t).out.getD j noB = tkB N f d p r dr o sl md fr ad cap zs D L fa lies (runQ N f d p r dr o sl md fr ad cap zs D L R fa lies pipes since j) j N := by
  induction t with
  | zero => intro j hj; omega
  | succ t ih =>
    intro j hj
    show ((runQ N f d p r dr o sl md fr ad cap zs D L R fa lies pipes since t).out ++ [_]).getD j noB = _
    by_cases h : j < t
    · rw [getD_snoc _ _ _ (by rw [runQ_out_len]; exact h), ih j h]
    · obtain rfl : j = t := by omega
      rw [getD_last _ _ _ (by rw [runQ_out_len])]
theorem rQ_ps (t i : Nat) (hi : i < N) : (runQ N f d p r dr o sl md fr ad cap zs D L R fa lies pipes since (t + 1)).ps.getD i noB = tkP N f d p r dr o sl md fr ad cap zs D L fa lies (runQ N f d p r dr o sl md fr ad cap zs D L R fa lies pipes since t) t i := range_getD _ _ _ _ hi
theorem rQ_ss (t i : Nat) (hi : i < N) : (runQ N f d p r dr o sl md fr ad cap zs D L R fa lies pipes since (t + 1)).ss.getD i 0 = tkS N f d p r dr o sl md fr ad cap zs D L fa lies (runQ N f d p r dr o sl md fr ad cap zs D L R fa lies pipes since t) t i := range_getD _ _ _ _ hi
end
/-- A bit is told by one byte. -/
theorem bitK_at8 (l : List UInt8) (k : Nat) (h : k < l.length) : bitK (ba l) k = bitK (ba [at8 l k]) 0 := by
  have h1 : k < (ba l).size := by rw [ba_size]; exact h
  have h2 : 0 < (ba [at8 l k]).size := by rw [ba_size]; simp
  have e : (ba l)[k]'h1 = (ba [at8 l k])[0]'h2 := by
    rw [at8_lt h]
    rfl
  unfold bitK vdg
  rw [dif_pos h1, dif_pos h2, e]
theorem hrd_bit (n f : Int) (votes : List ByteArray) (x : Nat) (b : UInt8) : bitK (ba [hrdB 0 n f votes x b]) 0 = stepF 0 n f x (bitK (ba [b]) 0) (bossQ votes x) (votesP votes x) := by
  have hb := stpG_bd 0 n f x (ba [b]) (toldP votes x) (digsP votes x) 0
  have e : ba [hrdB 0 n f votes x b] = dgB 1 (fun _ => stpG 0 n f x (ba [b]) (toldP votes x) (digsP votes x) 0) := rfl
  unfold bitK
  rw [e, vdg_dgB (by omega) (by omega) (by omega), stpG_int]
  unfold stpB
  rw [told_boss, digs_votes]
  exact readK_codeF (step_bd _ _ _ _ _ _)
theorem bitK_bd (s : ByteArray) (k : Nat) : 0 ≤ (bitK s k).1 ∧ (bitK s k).1 ≤ 2 := readK_bd _
theorem bit_beg (bit : Int) : bitK (ba [begC8 bit]) 0 = startF bit := by
  have hb := codeF_bd (startF bit)
  have e : ba [begC8 bit] = dgB 1 (fun _ => (codeF (startF bit)).toNat) := rfl
  unfold bitK
  rw [e, vdg_dgB (by omega) (by omega) (by omega), Int.toNat_of_nonneg hb.1]
  exact readK_codeF (start_bd bit)
section
variable {N : Nat} {f d p r dr o sl md fr : Int} {ad : Option Addr} {cap : Nat} {zs : List Int} {D L R F P : Nat} {fa : Nat → Bool} {lies pipes : List ByteArray} {since : List Int}
/-- The run as a cluster: steps are counted from 1. -/
theorem run_clu (hE : plainE (N : Int) f d p r dr o sl md fr zs = 0) (hf : f = (F : Int)) (hp : p = (P : Int)) (hR : R = 3 * (F + 1)) (hL : L = R * D) (hD : 1 ≤ D) (hfa : facL fa N ≤ F) (hb : 3 * F < N) (hper : 2 * (3 * (F + 1) * D) < P) :
    Clu N F D P fa (fun i t a => bitK (ba (wellL L ((runQ N f d p r dr o sl md fr ad cap zs D L R fa lies pipes since t).ps.getD i noB))) a) (fun i t => (runQ N f d p r dr o sl md fr ad cap zs D L R fa lies pipes since t).ss.getD i 0)
      (fun i t => match t with | 0 => false | t + 1 => tkE N f d p r dr o sl md fr ad cap zs D L fa lies (runQ N f d p r dr o sl md fr ad cap zs D L R fa lies pipes since t) t i)
      (fun t k i x => match t with | 0 => 0 | t + 1 => vdg 2 (voteQ fa lies N D (runQ N f d p r dr o sl md fr ad cap zs D L R fa lies pipes since t).told t i k) x) := by
  subst hR hL
  have hw : ∀ t i, i < N → wellL (3 * (F + 1) * D) ((runQ N f d p r dr o sl md fr ad cap zs D (3 * (F + 1) * D) (3 * (F + 1)) fa lies pipes since (t + 1)).ps.getD i noB) = stpL (N : Int) f d p r dr o sl md fr ad cap zs D (3 * (F + 1) * D) (votesQ fa lies N D (runQ N f d p r dr o sl md fr ad cap zs D (3 * (F + 1) * D) (3 * (F + 1)) fa lies pipes since t).told t i) (wellL (3 * (F + 1) * D) ((runQ N f d p r dr o sl md fr ad cap zs D (3 * (F + 1) * D) (3 * (F + 1)) fa lies pipes since t).ps.getD i noB)) ((runQ N f d p r dr o sl md fr ad cap zs D (3 * (F + 1) * D) (3 * (F + 1)) fa lies pipes since t).ss.getD i 0) := fun t i hi => by
    rw [rQ_ps t i hi]
    unfold tkP
    rw [wellL_ba]
    rw [stpL_len, wellL_len]
  have hL1 : 1 ≤ 3 * (F + 1) * D := Nat.mul_pos (by omega) hD
  have hvl : ∀ t i x, (votesP (votesQ fa lies N D (runQ N f d p r dr o sl md fr ad cap zs D (3 * (F + 1) * D) (3 * (F + 1)) fa lies pipes since t).told t i) x) = heardL (fun t k i x => match t with | 0 => 0 | t + 1 => vdg 2 (voteQ fa lies N D (runQ N f d p r dr o sl md fr ad cap zs D (3 * (F + 1) * D) (3 * (F + 1)) fa lies pipes since t).told t i k) x) N (t + 1) i x := fun t i x => by
    unfold votesP votesQ heardL
    rw [List.map_map]
    rfl
  have hbs : ∀ t i x, x < 3 * (F + 1) → bossQ (votesQ fa lies N D (runQ N f d p r dr o sl md fr ad cap zs D (3 * (F + 1) * D) (3 * (F + 1)) fa lies pipes since t).told t i) x = (heardL (fun t k i x => match t with | 0 => 0 | t + 1 => vdg 2 (voteQ fa lies N D (runQ N f d p r dr o sl md fr ad cap zs D (3 * (F + 1) * D) (3 * (F + 1)) fa lies pipes since t).told t i k) x) N (t + 1) i x).getD (x / 3) 0 := fun t i x hx => by
    unfold bossQ
    rw [hvl]
    have h3 : x / 3 < N := by omega
    unfold heardL
    rw [range_getD _ _ _ _ h3, range_getD _ _ _ _ h3]
  refine ⟨hD, hfa, hb, hper, ?_, ?_, ?_, ?_, ?_⟩
  · intro t k i x ht hk hfk hi hx
    obtain ⟨t, rfl⟩ : ∃ q, t = q + 1 := ⟨t - 1, by omega⟩
    obtain ⟨u, hu⟩ : ∃ u, u = t + D := ⟨_, rfl⟩
    rw [show t + 1 + D = u + 1 by omega]
    show vdg 2 (voteQ fa lies N D (runQ N f d p r dr o sl md fr ad cap zs D (3 * (F + 1) * D) (3 * (F + 1)) fa lies pipes since u).told u i k) x = _
    unfold voteQ
    rw [if_neg (by simp [hfk]; omega), show u - D = t by omega, runQ_told_at u t (by omega), range_getD _ _ _ _ hk]
    unfold tkT
    rw [← rQ_ps t k hk]
    generalize (runQ N f d p r dr o sl md fr ad cap zs D (3 * (F + 1) * D) (3 * (F + 1)) fa lies pipes since (t + 1)).ps.getD k noB = s
    have hxl : x * D < (wellL (3 * (F + 1) * D) s).length := by rw [wellL_len]; exact Nat.mul_lt_mul_of_pos_right hx hD
    have hv := valG_bd (ba (tellL D (wellL (3 * (F + 1) * D) s) (3 * (F + 1)))) x
    rw [vdg_dgB hx (by omega) (by omega), valG_int, bitK_at8 _ x (by rw [tellL_len]; exact hx), bitK_at8 _ _ hxl]
    unfold tellL
    rw [at8_map _ hx]
    exact (valF_same (bitK_bd _ _)).symm
  · intro t i a hi ha
    show bitK (ba (wellL _ _)) (a + 1) = _
    rw [hw t i hi]
    have hl : ∀ s, (wellL (3 * (F + 1) * D) s).length = 3 * (F + 1) * D := wellL_len _
    rw [bitK_at8 _ _ (by rw [stpL_len, hl]; exact ha), bitK_at8 (wellL _ _) a (by rw [hl]; omega)]
    unfold stpL
    rw [at8_set _ (by rw [newL_len, hl]; omega), if_neg (by omega)]
    unfold newL
    rw [at8_map _ (by rw [hl]; exact ha), newB_s]
    unfold oldB
    by_cases c : (a + 1) % D = 0
    · rw [if_pos c, if_pos c]
      have hx : (a + 1) / D - 1 < 3 * (F + 1) := by
        have : (a + 1) / D < 3 * (F + 1) := (Nat.div_lt_iff_lt_mul (by omega)).2 (by omega)
        omega
      unfold hrdF hearB1
      rw [hE, hrd_bit, hbs t i _ hx, hvl, hf]
    · rw [if_neg c, if_neg c]
  · intro t i hi
    show bitK (ba (wellL _ _)) 0 = _
    rw [hw t i hi, bitK_at8 _ _ (by rw [stpL_len, wellL_len]; omega)]
    unfold stpL
    rw [at8_set _ (by rw [newL_len, wellL_len]; omega), if_pos rfl, bit_beg]
    show startF (bitI _ _ _ _) = startF (if bgF _ _ ((runQ N f d p r dr o sl md fr ad cap zs D (3 * (F + 1) * D) (3 * (F + 1)) fa lies pipes since (t + 1)).ss.getD i 0) = true then 1 else 0)
    rw [rQ_ss t i hi]
    unfold bitI
    rw [if_pos hE, hp]
    rfl
  · intro t i hi
    show stpP _ _ _ _ _ _ _ _ _ _ _ _ _ _ _ _ _ = _
    unfold stpP
    have hlw := wellL_len (3 * (F + 1) * D) ((runQ N f d p r dr o sl md fr ad cap zs D (3 * (F + 1) * D) (3 * (F + 1)) fa lies pipes since t).ps.getD i noB)
    obtain ⟨k, hk⟩ : ∃ k, 3 * (F + 1) * D = k + 1 := ⟨3 * (F + 1) * D - 1, by omega⟩
    have hmod : (k + 1) % D = 0 := by rw [← hk]; exact Nat.mul_mod_left _ _
    have hdiv : (k + 1) / D = 3 * (F + 1) := by rw [← hk]; exact Nat.mul_div_cancel _ (by omega)
    rw [show 3 * (F + 1) * D - 1 = k by omega]
    show (endF (newB _ D _ (3 * (F + 1) * D)) == 1) = decide (valF (hearB1 _ N F (t + 1) i (3 * F + 2) (bitK (ba (wellL (3 * (F + 1) * D) _)) k)) = 1)
    rw [bitK_at8 (wellL _ _) k (by rw [hlw]; omega)]
    rw [show newB (hrdF (N : Int) f d p r dr o sl md fr ad cap zs (votesQ fa lies N D (runQ N f d p r dr o sl md fr ad cap zs D (3 * (F + 1) * D) (3 * (F + 1)) fa lies pipes since t).told t i)) D (wellL (3 * (F + 1) * D) ((runQ N f d p r dr o sl md fr ad cap zs D (3 * (F + 1) * D) (3 * (F + 1)) fa lies pipes since t).ps.getD i noB)) (3 * (F + 1) * D) = newB (hrdF (N : Int) f d p r dr o sl md fr ad cap zs (votesQ fa lies N D (runQ N f d p r dr o sl md fr ad cap zs D (3 * (F + 1) * D) (3 * (F + 1)) fa lies pipes since t).told t i)) D (wellL (3 * (F + 1) * D) ((runQ N f d p r dr o sl md fr ad cap zs D (3 * (F + 1) * D) (3 * (F + 1)) fa lies pipes since t).ps.getD i noB)) (k + 1) by rw [hk], newB_s]
    unfold oldB
    rw [if_pos hmod, hdiv, show 3 * (F + 1) - 1 = 3 * F + 2 by omega]
    unfold hrdF endF hearB1
    rw [hE, ← hf]
    have hvi := valG_int (ba [hrdB 0 (N : Int) f (votesQ fa lies N D (runQ N f d p r dr o sl md fr ad cap zs D (3 * (F + 1) * D) (3 * (F + 1)) fa lies pipes since t).told t i) (3 * F + 2) (at8 (wellL (3 * (F + 1) * D) ((runQ N f d p r dr o sl md fr ad cap zs D (3 * (F + 1) * D) (3 * (F + 1)) fa lies pipes since t).ps.getD i noB)) k)]) 0
    rw [hrd_bit, hbs t i _ (by omega), hvl] at hvi
    have hst := step_bd (N : Int) f ((3 * F + 2 : Nat) : Int) (bitK (ba [at8 (wellL (3 * (F + 1) * D) ((runQ N f d p r dr o sl md fr ad cap zs D (3 * (F + 1) * D) (3 * (F + 1)) fa lies pipes since t).ps.getD i noB)) k]) 0) ((heardL (fun t k i x => match t with | 0 => 0 | t + 1 => vdg 2 (voteQ fa lies N D (runQ N f d p r dr o sl md fr ad cap zs D (3 * (F + 1) * D) (3 * (F + 1)) fa lies pipes since t).told t i k) x) N (t + 1) i (3 * F + 2)).getD ((3 * F + 2) / 3) 0) (heardL (fun t k i x => match t with | 0 => 0 | t + 1 => vdg 2 (voteQ fa lies N D (runQ N f d p r dr o sl md fr ad cap zs D (3 * (F + 1) * D) (3 * (F + 1)) fa lies pipes since t).told t i k) x) N (t + 1) i (3 * F + 2))
    rw [valF_same hst, ← hvi]
    generalize valG (ba [hrdB 0 (N : Int) f (votesQ fa lies N D (runQ N f d p r dr o sl md fr ad cap zs D (3 * (F + 1) * D) (3 * (F + 1)) fa lies pipes since t).told t i) (3 * F + 2) (at8 (wellL (3 * (F + 1) * D) ((runQ N f d p r dr o sl md fr ad cap zs D (3 * (F + 1) * D) (3 * (F + 1)) fa lies pipes since t).ps.getD i noB)) k)]) 0 = z
    by_cases hz : z = 1
    · subst hz; rfl
    · rw [if_neg hz, decide_eq_false (by omega)]; rfl
  · intro t i hi
    show (runQ N f d p r dr o sl md fr ad cap zs D (3 * (F + 1) * D) (3 * (F + 1)) fa lies pipes since (t + 1)).ss.getD i 0 = _
    rw [rQ_ss t i hi]
    show nxt1 _ _ _ _ = _
    unfold nxt1
    rw [if_pos hE, hp]
    rfl
/-- Pulses of the run. -/
theorem run_settles (hE : plainE (N : Int) f d p r dr o sl md fr zs = 0) (hf : f = (F : Int)) (hp : p = (P : Int)) (hR : R = 3 * (F + 1)) (hL : L = R * D) (hD : 1 ≤ D) (hfa : facL fa N ≤ F) (hb : 3 * F < N) (hper : 2 * (3 * (F + 1) * D) < P) :
    ∃ u, u ≤ 3 * L + 2 * P ∧ ∀ i, i < N → fa i = false → ∀ t, u ≤ t → (tkE N f d p r dr o sl md fr ad cap zs D L fa lies (runQ N f d p r dr o sl md fr ad cap zs D L R fa lies pipes since t) t i = true ↔ (t - u) % P = 0) := by
  obtain ⟨v, hv, h⟩ := (run_clu (lies := lies) (pipes := pipes) (since := since) hE hf hp hR hL hD hfa hb hper).settles
  have hP : 0 < P := by omega
  have h3 : 3 * (3 * (F + 1) * D) = 3 * L := by rw [hL, hR]
  by_cases hv0 : v = 0
  · refine ⟨P - 1, by omega, fun i hi hf t ht => ?_⟩
    have := h i hi hf (t + 1) (by omega)
    rw [this, hv0]
    have e : (t + 1 - 0) % P = (t - (P - 1)) % P := by
      have : t + 1 - 0 = t - (P - 1) + P := by omega
      rw [this, Nat.add_mod_right]
    rw [e]
  · refine ⟨v - 1, by omega, fun i hi hf t ht => ?_⟩
    have := h i hi hf (t + 1) (by omega)
    rw [show t + 1 - v = t - (v - 1) by omega] at this
    exact this
end
end Go.Proofs.Ytohgmliafidalaa

/- A row of rows of texts that came in as an argument, opened: where they lie, and that their lengths fit int; no conditions. -/
namespace Go.Proofs.Ytohgmliafidalaa
open Go.ChangeShapes Go.WideShapes Go.ChangeAt Go.RowKit
set_option linter.unusedVariables false

/-- Rows of rows of texts: each with its place and its room. -/
def kSl : Kind (Option Addr × Nat × List ByteArray) := ⟨1, fun e => [.slice e.1 e.2.2.length e.2.1], fun _ => rfl, by intro a u hu; simp at hu; subst hu; rfl, by decide⟩
/-- What a row of texts among them is. -/
def RowIn (w : World) (e : Option Addr × Nat × List ByteArray) : Prop := kStr.Lies w.heap.size w (.slice e.1 e.2.2.length e.2.1) e.2.2 ∧ e.2.2.length ≤ 9223372036854775807 ∧ ∀ t ∈ e.2.2, t.size ≤ 9223372036854775807
def kSlz (w : World) : Kind { e : Option Addr × Nat × List ByteArray // RowIn w e } := ⟨1, fun e => [.slice e.1.1 e.1.2.2.length e.1.2.1], fun _ => rfl, by intro a u hu; simp at hu; subst hu; rfl, by decide⟩
theorem kSlz_flat (w : World) (l : List { e : Option Addr × Nat × List ByteArray // RowIn w e }) : (kSlz w).flat l = kSl.flat (l.map Subtype.val) := by
  induction l with
  | nil => rfl
  | cons a l ih => simp only [Kind.flat, List.flatMap_cons, List.map_cons] at ih ⊢; rw [ih]; rfl
section
variable {H : Type} {enc : TypeId × Value → H} {w : World} {base : Nat} {spare : Nat → Bool} {held : Bool}
theorem strz_rows {c : Value} {fuel : Nat} {y : DataW H × List MemPlace} (h : DataW.trod enc Try.prog w base spare held fuel 25 [c] = some y) :
    ∃ e, c = .slice e.1 e.2.2.length e.2.1 ∧ RowIn w e := by
  obtain ⟨ad, cap, es, rfl, hl, hE⟩ := kStrz.open_rows Try.underlying25 (by kernel_rfl) dec_strz h
  refine ⟨(ad, cap, es.map Subtype.val), by rw [List.length_map], ?_, by rw [List.length_map]; exact hl, ?_⟩
  · obtain ⟨ad', c, hv, h1, h2, h3, hc⟩ := hE
    refine ⟨ad', c, by rw [List.length_map]; exact hv, by rw [List.length_map]; exact h1, h2, h3, fun hj => ?_⟩
    rw [← kStrz_flat]
    exact hc (by simpa using hj)
  · intro t ht
    obtain ⟨q, _, rfl⟩ := List.mem_map.1 ht
    exact q.2
theorem dec_rowz (n : Nat) (cs : List Value) (y : DataW H × List MemPlace) (hl : cs.length = (kSlz w).k) (h : DataW.trod enc Try.prog w base spare held n 25 cs = some y) : ∃ a, cs = (kSlz w).enc a := by
  obtain ⟨c0, rfl⟩ : ∃ c0, cs = [c0] := by
    have h2 : cs.length = 1 := hl
    match cs, h2 with
    | [c0], _ => exact ⟨c0, rfl⟩
  obtain ⟨e, rfl, he⟩ := strz_rows h
  exact ⟨⟨e, he⟩, rfl⟩
set_option maxRecDepth 100000 in
theorem open_rowz {r : Reach} {b0 : Nat} {v : Value} {dt : DataW H} {ps : List MemPlace} (hv : Value.okWide Try.prog w r b0 70 v) (h : DataW.Trod enc Try.prog w base spare held 70 v dt ps) :
    ∃ (ad : Option Addr) (cap : Nat) (es : List (Option Addr × Nat × List ByteArray)), v = .slice ad es.length cap ∧ es.length ≤ 9223372036854775807 ∧ kSl.Lies w.heap.size w (.slice ad es.length cap) es ∧ ∀ e ∈ es, RowIn w e := by
  obtain ⟨ad, cap, es, rfl, hl, hE⟩ := (kSlz w).open_arg Try.underlying70 (by kernel_rfl) dec_rowz hv h
  refine ⟨ad, cap, es.map Subtype.val, by rw [List.length_map], by rw [List.length_map]; exact hl, ?_, ?_⟩
  · obtain ⟨ad', c, hv, h1, h2, h3, hc⟩ := hE
    refine ⟨ad', c, by rw [List.length_map]; exact hv, by rw [List.length_map]; exact h1, h2, h3, fun hj => ?_⟩
    rw [← kSlz_flat]
    exact hc (by simpa using hj)
  · intro t ht
    obtain ⟨q, _, rfl⟩ := List.mem_map.1 ht
    exact q.2
end
end Go.Proofs.Ytohgmliafidalaa

/- Rows that a cluster's run keeps in memory: how they stay when one of them is written or grown; no conditions but those in the theorems. -/
namespace Go.Proofs.Ytohgmliafidalaa
open Go.ChangeShapes Go.WideShapes Go.ChangeAt Go.RowKit
set_option linter.unusedVariables false

/-- A row of one's own, opened. -/
theorem own_open {W : World} {base : Nat} {e : TypeId} {v : Value} {n : Nat} {xs : List Value} (h : W.ownsRow base e 1 v n xs) (hn : 0 < n) : ∃ g cap, v = .slice (some ⟨g, 0, none⟩) n cap ∧ base ≤ g ∧ g < W.heap.size := by
  rcases h.2 with ⟨_, h0⟩ | ⟨g, cap, cur, hv, hb, hg, _⟩
  · omega
  · exact ⟨g, cap, hv, hb, (Array.getElem?_eq_some_iff.1 hg).1⟩
/-- Rows of unlike kinds lie apart. -/
theorem own_type {W : World} {b1 b2 : Nat} {e1 e2 : TypeId} {v1 v2 : Value} {n1 n2 : Nat} {xs1 xs2 : List Value} {k1 k2 : Nat} (h1 : W.ownsRow b1 e1 k1 v1 n1 xs1) (h2 : W.ownsRow b2 e2 k2 v2 n2 xs2) (hne : e1 ≠ e2) : v1.ownBlock = none ∨ v1.ownBlock ≠ v2.ownBlock := by
  rcases h1.2 with ⟨rfl, _⟩ | ⟨g, cap, cur, rfl, hb, hg, _⟩
  · exact .inl rfl
  · rcases h2.2 with ⟨rfl, _⟩ | ⟨g', cap', cur', rfl, hb', hg', _⟩
    · exact .inr (by simp [Value.ownBlock])
    · refine .inr fun e => ?_
      simp only [Value.ownBlock, Option.some.injEq] at e
      subst e
      rw [hg] at hg'
      simp only [Option.some.injEq, Obj.cells.injEq] at hg'
      exact hne hg'.2.1
theorem kSl_flat (l : List (Option Addr × Nat × List ByteArray)) : kSl.flat l = l.map fun e => Value.slice e.1 e.2.2.length e.2.1 := by
  induction l with
  | nil => rfl
  | cons a l ih => simp only [Kind.flat, List.flatMap_cons, List.map_cons] at ih ⊢; rw [ih]; rfl
theorem kStr_get (l : List ByteArray) (j : Nat) (h : j < l.length) : (kStr.flat l)[j]? = some (.string (l.getD j noB)) := by
  rw [kStr_flat, List.getElem?_map, List.getElem?_eq_getElem h, List.getD_eq_getElem?_getD, List.getElem?_eq_getElem h]
  rfl
theorem kStr_set (l : List ByteArray) (i : Nat) (s : ByteArray) : (kStr.flat l).set i (.string s) = kStr.flat (l.set i s) := by
  rw [kStr_flat, kStr_flat, List.map_set]
/-- A row of which some have been written anew. -/
def mixQ {α : Type} (N : Nat) (new old : Nat → α) (i : Nat) : List α := (List.range N).map fun j => if j < i then new j else old j
theorem mixQ_len {α : Type} (N : Nat) (new old : Nat → α) (i : Nat) : (mixQ N new old i).length = N := by simp [mixQ]
theorem mixQ_0 {α : Type} (N : Nat) (new : Nat → α) (z : α) (l : List α) (h : l.length = N) : mixQ N new (fun j => l.getD j z) 0 = l := by
  apply List.ext_getElem
  · simp [mixQ, h]
  · intro i h1 h2
    simp [mixQ, h2]
theorem mixQ_all {α : Type} (N : Nat) (new old : Nat → α) : mixQ N new old N = (List.range N).map new := by
  unfold mixQ
  apply List.map_congr_left
  intro j hj
  rw [if_pos (List.mem_range.1 hj)]
theorem mixQ_at {α : Type} (N : Nat) (new old : Nat → α) (z : α) (i : Nat) (h : i < N) : (mixQ N new old i).getD i z = old i := by
  unfold mixQ
  rw [range_getD _ _ _ _ h, if_neg (by omega)]
theorem mixQ_set {α : Type} (N : Nat) (new old : Nat → α) (i : Nat) (h : i < N) : (mixQ N new old i).set i (new i) = mixQ N new old (i + 1) := by
  apply List.ext_getElem
  · simp [mixQ]
  · intro j h1 h2
    rw [List.getElem_set]
    simp only [mixQ, List.getElem_map, List.getElem_range]
    by_cases e : i = j
    · subst e; rw [if_pos rfl, if_pos (by omega)]
    · rw [if_neg e]
      by_cases h : j < i
      · rw [if_pos h, if_pos (by omega)]
      · rw [if_neg h, if_neg (by omega)]
/-- A told row's value. -/
def slV (e : Option Addr × Nat × List ByteArray) : Value := .slice e.1 e.2.2.length e.2.1
/-- What a run keeps in memory: what was told, pulses as digits, pipes, Since; they lie apart. -/
structure MemQ (n0 : Nat) (W : World) (T O Pv Sv : Value) (svs : List (Option Addr × Nat × List ByteArray)) (out ps : List ByteArray) (ss : List Int) (N : Nat) : Prop where
  told : W.ownsRow n0 25 1 T svs.length (kSl.flat svs)
  outr : W.ownsRow n0 9 1 O out.length (kStr.flat out)
  pip : W.ownsRow n0 9 1 Pv N (kStr.flat ps)
  sin : W.ownsRow n0 3 1 Sv N (kInt.flat ss)
  rows : ∀ e ∈ svs, e.2.2.length = N ∧ W.ownsRow n0 9 1 (slV e) N (kStr.flat e.2.2)
  neOP : O.ownBlock = none ∨ O.ownBlock ≠ Pv.ownBlock
  neRP : ∀ e ∈ svs, (slV e).ownBlock ≠ Pv.ownBlock
  neRO : ∀ e ∈ svs, (slV e).ownBlock = none ∨ (slV e).ownBlock ≠ O.ownBlock
section
variable {n0 : Nat} {W V : World} {T O Pv Sv : Value} {svs : List (Option Addr × Nat × List ByteArray)} {out ps : List ByteArray} {ss : List Int} {N : Nat}
theorem MemQ.below (h : MemQ n0 W T O Pv Sv svs out ps ss N) (hb : Below W.heap.size W V) : MemQ n0 V T O Pv Sv svs out ps ss N :=
  ⟨own_below h.told hb, own_below h.outr hb, own_below h.pip hb, own_below h.sin hb, fun e he => ⟨(h.rows e he).1, own_below (h.rows e he).2 hb⟩, h.neOP, h.neRP, h.neRO⟩
theorem MemQ.pipes (h : MemQ n0 W T O Pv Sv svs out ps ss N) {g cap : Nat} (hv : Pv = .slice (some ⟨g, 0, none⟩) N cap) (i : Nat) (s : ByteArray) : MemQ n0 (W.setCell ⟨g, i, none⟩ (.string s)) T O Pv Sv svs out (ps.set i s) ss N := by
  subst hv
  obtain ⟨h1, h2⟩ := h.pip.stored i (.string s)
  rw [kStr_set] at h1
  have hb : (Value.slice (some ⟨g, 0, none⟩) N cap).ownBlock = some g := rfl
  exact ⟨h.told.kept h2 (by have := own_type h.told h.pip (by decide); rwa [hb] at this), h.outr.kept h2 (by have := h.neOP; rwa [hb] at this), h1, h.sin.kept h2 (by have := own_type h.sin h.pip (by decide); rwa [hb] at this), fun e he => ⟨(h.rows e he).1, (h.rows e he).2.kept h2 (.inr (by have := h.neRP e he; rwa [hb] at this))⟩, h.neOP, h.neRP, h.neRO⟩
theorem MemQ.since (h : MemQ n0 W T O Pv Sv svs out ps ss N) {g cap : Nat} (hv : Sv = .slice (some ⟨g, 0, none⟩) N cap) (i : Nat) (s : Int) : MemQ n0 (W.setCell ⟨g, i, none⟩ (.int .i64 s)) T O Pv Sv svs out ps (ss.set i s) N := by
  subst hv
  obtain ⟨h1, h2⟩ := h.sin.stored i (.int .i64 s)
  rw [kInt_set] at h1
  have hb : (Value.slice (some ⟨g, 0, none⟩) N cap).ownBlock = some g := rfl
  exact ⟨h.told.kept h2 (by have := own_type h.told h.sin (by decide); rwa [hb] at this), h.outr.kept h2 (by have := own_type h.outr h.sin (by decide); rwa [hb] at this), h.pip.kept h2 (by have := own_type h.pip h.sin (by decide); rwa [hb] at this), h1, fun e he => ⟨(h.rows e he).1, (h.rows e he).2.kept h2 (by have := own_type (h.rows e he).2 h.sin (by decide); rwa [hb] at this)⟩, h.neOP, h.neRP, h.neRO⟩
/-- Another row that lies apart is grown. -/
theorem MemQ.apart (h : MemQ n0 W T O Pv Sv svs out ps ss N) {row : Option Nat} (hg : W.grownBy V row) (n1 : Nat) (hl : (∀ k, T.ownBlock = some k → k < n1) ∧ (∀ k, O.ownBlock = some k → k < n1) ∧ (∀ k, Pv.ownBlock = some k → k < n1) ∧ (∀ k, Sv.ownBlock = some k → k < n1) ∧ (∀ e ∈ svs, ∀ k, (slV e).ownBlock = some k → k < n1)) (hb : ∀ b, row = some b → n1 ≤ b) : MemQ n0 V T O Pv Sv svs out ps ss N := by
  obtain ⟨q1, q2, q3, q4, q5⟩ := hl
  have hne : ∀ (v : Value), (∀ k, v.ownBlock = some k → k < n1) → v.ownBlock = none ∨ v.ownBlock ≠ row := fun v hv => by
    cases hr : v.ownBlock with
    | none => exact .inl rfl
    | some k => exact .inr fun e => by have := hv k hr; have := hb k e.symm; omega
  exact ⟨h.told.kept hg (hne _ q1), h.outr.kept hg (hne _ q2), h.pip.kept hg (hne _ q3), h.sin.kept hg (hne _ q4), fun e he => ⟨(h.rows e he).1, (h.rows e he).2.kept hg (hne _ (q5 e he))⟩, h.neOP, h.neRP, h.neRO⟩
/-- One more row that was told. -/
theorem MemQ.tell (h : MemQ n0 W T O Pv Sv svs out ps ss N) (e0 : Option Addr × Nat × List ByteArray) (hN : e0.2.2.length = N) (hrow : W.ownsRow n0 9 1 (slV e0) N (kStr.flat e0.2.2)) (hP : (slV e0).ownBlock ≠ Pv.ownBlock) (hO : (slV e0).ownBlock = none ∨ (slV e0).ownBlock ≠ O.ownBlock) {T' : Value} (hg : W.grownBy V T.ownBlock) (ht : V.ownsRow n0 25 1 T' (svs.length + 1) (kSl.flat svs ++ kSl.flat [e0])) : MemQ n0 V T' O Pv Sv (svs ++ [e0]) out ps ss N := by
  have hk : ∀ {v : Value} {n : Nat} {xs : List Value}, W.ownsRow n0 9 1 v n xs → V.ownsRow n0 9 1 v n xs := fun hv => hv.kept hg (own_type hv h.told (by decide))
  refine ⟨?_, hk h.outr, hk h.pip, h.sin.kept hg (own_type h.sin h.told (by decide)), ?_, h.neOP, ?_, ?_⟩
  · rw [List.length_append, Kind.flat_append]
    exact ht
  · intro e he
    rcases List.mem_append.1 he with he | he
    · exact ⟨(h.rows e he).1, hk (h.rows e he).2⟩
    · rw [List.mem_singleton] at he
      subst he
      exact ⟨hN, hk hrow⟩
  · intro e he
    rcases List.mem_append.1 he with he | he
    · exact h.neRP e he
    · rw [List.mem_singleton] at he
      subst he
      exact hP
  · intro e he
    rcases List.mem_append.1 he with he | he
    · exact h.neRO e he
    · rw [List.mem_singleton] at he
      subst he
      exact hO
/-- One more text of pulses. -/
theorem MemQ.beat (h : MemQ n0 W T O Pv Sv svs out ps ss N) (s : ByteArray) {O' : Value} (hg : W.grownBy V O.ownBlock) (ho : V.ownsRow n0 9 1 O' (out.length + 1) (kStr.flat out ++ kStr.flat [s])) (hbl : O'.ownBlock = O.ownBlock ∨ O'.ownBlock = some W.heap.size) (hPs : ∃ k, Pv.ownBlock = some k) (hOs : ∃ k, O'.ownBlock = some k) : MemQ n0 V T O' Pv Sv svs (out ++ [s]) ps ss N := by
  have lt : ∀ {e : TypeId} {v : Value} {n : Nat} {xs : List Value}, W.ownsRow n0 e 1 v n xs → ∀ k, v.ownBlock = some k → k < W.heap.size := fun h k hk => (h.lt k hk).2
  have hP : Pv.ownBlock = none ∨ Pv.ownBlock ≠ O.ownBlock := .inr fun e => by
    obtain ⟨k, hk⟩ := hPs
    rcases h.neOP with q | q
    · rw [e, q] at hk; cases hk
    · exact q e.symm
  refine ⟨h.told.kept hg (own_type h.told h.outr (by decide)), ?_, h.pip.kept hg hP, h.sin.kept hg (own_type h.sin h.outr (by decide)), fun e he => ⟨(h.rows e he).1, (h.rows e he).2.kept hg (h.neRO e he)⟩, ?_, h.neRP, ?_⟩
  · rw [List.length_append, Kind.flat_append]
    exact ho
  · rcases hbl with q | q
    · rw [q]; exact h.neOP
    · refine .inr fun e => ?_
      rw [q] at e
      have := lt h.pip _ e.symm
      omega
  · intro e he
    rcases hbl with q | q
    · rw [q]; exact h.neRO e he
    · by_cases c : (slV e).ownBlock = none
      · exact .inl c
      · refine .inr fun e2 => ?_
        rw [q] at e2
        have := lt (h.rows e he).2 _ e2
        omega
end
end Go.Proofs.Ytohgmliafidalaa

/- The statements' own method runs of a cluster returns, tick by tick, what plain functions give, and makes at most new memory; conditions: the calls in it return what plain functions give, rows lie where they say, numbers are small. -/
namespace Go.Proofs.Ytohgmliafidalaa
open Go.ChangeShapes Go.WideShapes Go.ChangeAt Go.RowKit
set_option linter.unusedVariables false
attribute [local go_sem] cell_rg

theorem infoSl : (Try.prog.info? 25).map (fun i => (i.zero, i.size, i.bytes)) = some (some (.slice none 0 0), 1, 24) := by kernel_rfl
theorem rangeB_s (N : Nat) (g : Nat → UInt8) : ba ((List.range (N + 1)).map g) = ba ((List.range N).map g) ++ ba [g N] := by
  rw [List.range_succ, List.map_append]
  apply ByteArray.ext
  simp [ba]
theorem rangeB_sz (N : Nat) (g : Nat → UInt8) : (ba ((List.range N).map g)).size = N := by rw [ba_size]; simp
theorem mapR_s {α : Type} (g : Nat → α) (k : Nat) : (List.range (k + 1)).map g = (List.range k).map g ++ [g k] := by simp [List.range_succ]
theorem own_some {W : World} {base : Nat} {e : TypeId} {v : Value} {n : Nat} {xs : List Value} (h : W.ownsRow base e 1 v n xs) (hn : 0 < n) : ∃ k, v.ownBlock = some k := by
  obtain ⟨g, cap, rfl, _⟩ := own_open h hn
  exact ⟨g, rfl⟩
set_option maxRecDepth 100000 in
set_option maxHeartbeats 40000000 in
theorem runs_walk (N : Nat) (f d p r dr o sl md fr : Int) (ad : Option Addr) (cap : Nat) (zs : List Int) (D ticks FL LL : Nat) (a1 : Option Addr) (c1 : Nat) (pipes : List ByteArray) (a2 : Option Addr) (c2 : Nat) (since : List Int) (a3 : Option Addr) (c3 : Nat) (a4 : Option Addr) (c4 : Nat) (w : World)
    (fa : Nat → Bool) (q : Nat → RunQ) (nP : Nat → Nat → ByteArray) (nS nR : Nat → Nat → Int) (nE : Nat → Nat → Bool) (nT : Nat → Nat → ByteArray) (vo : Nat → Nat → Nat → ByteArray) (li : Nat → Nat → Nat → ByteArray) (lies : List ByteArray) (fs : List Int)
    (hd : d = (D : Int)) (hD1 : 1 ≤ D) (hD4 : D ≤ 4) (htk : ticks ≤ 5000) (hN1 : 1 ≤ N) (hN : N ≤ 13)
    (hp : pipes.length = N) (hV1 : kStr.Lies w.heap.size w (.slice a1 N c1) pipes) (hsl : since.length = N) (hV2 : kInt.Lies w.heap.size w (.slice a2 N c2) since)
    (hT : Tab w ad zs) (hV3 : kInt.Lies w.heap.size w (.slice a3 FL c3) fs) (hV4 : kStr.Lies w.heap.size w (.slice a4 LL c4) lies)
    (q0 : q 0 = ⟨pipes, since, [], []⟩)
    (qs : ∀ t, q (t + 1) = ⟨(List.range N).map (nP t), (List.range N).map (nS t), (q t).told ++ [(List.range N).map (nT t)], (q t).out ++ [ba ((List.range N).map fun i => dgE (nE t i))]⟩)
    (hv1 : ∀ t i k, t < D ∨ fa k = true → vo t i k = li t k i)
    (hv2 : ∀ t i k, ¬ t < D → fa k = false → vo t i k = ((q t).told.getD (t - D) []).getD k noB)
    (CB : ∀ t i, t < ticks → i < N → ∀ V a c, Tab V ad zs → kStr.Lies V.heap.size V (.slice a N c) ((List.range N).map (vo t i)) → Calls Try.prog 40 #[.agg #[.int .i64 (N : Int), .int .i64 f, .int .i64 d, .int .i64 p, .int .i64 r, .int .i64 dr, .int .i64 o, .int .i64 sl, .int .i64 md, .int .i64 fr, .slice ad zs.length cap], .string ((q t).ps.getD i noB), .int .i64 ((q t).ss.getD i 0), .int .i64 0, .slice a N c] V fun e w' => e = .returned (.tuple #[.string (nP t i), .int .i64 (nS t i), .int .i64 (nR t i), .bool (nE t i)]) ∧ Below V.heap.size V w')
    (CT : ∀ t i, t < ticks → i < N → ∀ V, Tab V ad zs → Calls Try.prog 45 #[.agg #[.int .i64 (N : Int), .int .i64 f, .int .i64 d, .int .i64 p, .int .i64 r, .int .i64 dr, .int .i64 o, .int .i64 sl, .int .i64 md, .int .i64 fr, .slice ad zs.length cap], .string (nP t i)] V fun e w' => e = .returned (.string (nT t i)) ∧ Below V.heap.size V w')
    (CL : ∀ t k i, t < ticks → k < N → i < N → ∀ V, kStr.Lies V.heap.size V (.slice a4 LL c4) lies → Calls Try.prog 44 #[.agg #[.int .i64 (N : Int), .int .i64 f, .int .i64 d, .int .i64 p, .int .i64 r, .int .i64 dr, .int .i64 o, .int .i64 sl, .int .i64 md, .int .i64 fr, .slice ad zs.length cap, .slice a1 N c1, .slice a2 N c2, .slice a3 FL c3, .slice a4 LL c4], .int .i64 ((t : Int) - d), .int .i64 (k : Int), .int .i64 (i : Int)] V fun e w' => e = .returned (.string (li t k i)) ∧ Below V.heap.size V w')
    (CI : ∀ k, k < N → ∀ V, kInt.Lies V.heap.size V (.slice a3 FL c3) fs → Calls Try.prog 13 #[.slice a3 FL c3, .int .i64 (k : Int)] V fun e w' => e = .returned (.bool (fa k)) ∧ V = w') :
    Calls Try.prog 12 #[.agg #[.int .i64 (N : Int), .int .i64 f, .int .i64 d, .int .i64 p, .int .i64 r, .int .i64 dr, .int .i64 o, .int .i64 sl, .int .i64 md, .int .i64 fr, .slice ad zs.length cap, .slice a1 N c1, .slice a2 N c2, .slice a3 FL c3, .slice a4 LL c4], .int .i64 (ticks : Int)] w fun e w' => ∃ a c, e = .returned (.slice a ticks c) ∧ kStr.Lies w'.heap.size w' (.slice a ticks c) (q ticks).out ∧ Below w.heap.size w w' := by
  have HB0 := hidden (ballc w (.cells #[.int .i64 (N : Int), .int .i64 f, .int .i64 d, .int .i64 p, .int .i64 r, .int .i64 dr, .int .i64 o, .int .i64 sl, .int .i64 md, .int .i64 fr, .slice ad zs.length cap, .slice a1 N c1, .slice a2 N c2, .slice a3 FL c3, .slice a4 LL c4] 27))
  have HK := hidden (blk_nw w #[.int .i64 (N : Int), .int .i64 f, .int .i64 d, .int .i64 p, .int .i64 r, .int .i64 dr, .int .i64 o, .int .i64 sl, .int .i64 md, .int .i64 fr, .slice ad zs.length cap, .slice a1 N c1, .slice a2 N c2, .slice a3 FL c3, .slice a4 LL c4] 27)
  have HT := hidden (hT.below HB0.out)
  have HV1 := hidden (hV1.later HB0.out)
  have HV2 := hidden (hV2.later HB0.out)
  have HV3 := hidden (hV3.later HB0.out)
  have HV4 := hidden (hV4.later HB0.out)
  have HQ0 := hidden q0
  have HQS := hidden qs
  have HW1 := hidden hv1
  have HW2 := hidden hv2
  have CB := hidden CB
  have CT := hidden CT
  have CL := hidden CL
  have CI := hidden CI
  have HD := hidden hd
  have HPL := hidden hp
  have HSL := hidden hsl
  have d1 : 1 ≤ d := by omega
  have d4 : d ≤ 4 := by omega
  obtain ⟨i0, hi, hz0, hz1, hz2⟩ := info_of infoStr
  obtain ⟨j0, hj, hy0, hy1, hy2⟩ := info_of infoInt
  obtain ⟨m0, hm, hx0, hx1, hx2⟩ := info_of infoSl
  have c0 := blk_cell HK.out
  have l0 := blk_lt HK.out
  have hmx : maxLen = 9223372036854775807 := rfl
  have hwn : w.heap.size + 1 = (w.alloc (.cells #[.int .i64 (N : Int), .int .i64 f, .int .i64 d, .int .i64 p, .int .i64 r, .int .i64 dr, .int .i64 o, .int .i64 sl, .int .i64 md, .int .i64 fr, .slice ad zs.length cap, .slice a1 N c1, .slice a2 N c2, .slice a3 FL c3, .slice a4 LL c4] 27)).heap.size := by simp
  have HWN := hidden hwn
  clear hT hV1 hV2 hV3 hV4 q0 qs hv1 hv2 hd hp hsl hmx hwn
  go_enter Try.func12, Try.ntmps12
  go_wp2_with (at_builtin; refine kStr.wpList_append _ rfl (.tmp 19) (.tmp 21) 25 rfl (w.heap.size + 1) 9 i0 (.string noB) 16 Try.underlying25 hi hz0 hz1 hz2 rfl (.slice none 0 0) 0 [] rfl (World.ownsRow_nil _ _ _ _) (.slice a1 N c1) pipes rfl HV1.out (by rw [HPL.out]; simp only [maxLen]; omega) (by rw [HPL.out]; omega) (by simp) ?_; intro v3 w3 hown3 hgrow3 _; refine Hid.out ?_)
  have hb3 : Below (w.alloc (.cells #[.int .i64 (N : Int), .int .i64 f, .int .i64 d, .int .i64 p, .int .i64 r, .int .i64 dr, .int .i64 o, .int .i64 sl, .int .i64 md, .int .i64 fr, .slice ad zs.length cap, .slice a1 N c1, .slice a2 N c2, .slice a3 FL c3, .slice a4 LL c4] 27)).heap.size (w.alloc (.cells #[.int .i64 (N : Int), .int .i64 f, .int .i64 d, .int .i64 p, .int .i64 r, .int .i64 dr, .int .i64 o, .int .i64 sl, .int .i64 md, .int .i64 fr, .slice ad zs.length cap, .slice a1 N c1, .slice a2 N c2, .slice a3 FL c3, .slice a4 LL c4] 27)) w3 := (Below.refl _ _).grown hgrow3 (Nat.le_refl _) (fun k h => by cases h)
  rw [HPL.out, Nat.zero_add, List.nil_append] at hown3
  have HP3 := hidden hown3
  have HB3 := hidden hb3
  have HK3 := hidden (blk_later HK.out hb3)
  have HV23 := hidden (HV2.out.later hb3)
  have hs3 := hgrow3.size
  have hn3 : w.heap.size + 1 ≤ w3.heap.size := by rw [HWN.out]; exact hs3
  clear hown3 hgrow3 hb3 c0 l0 hs3
  have c0 := blk_cell HK3.out
  have l0 := blk_lt HK3.out
  refine hidden ?_
  go_wp2_with (at_builtin; refine kInt.wpList_append _ rfl (.tmp 23) (.tmp 25) 22 rfl (w.heap.size + 1) 3 j0 (.int .i64 0) 8 Try.underlying22 hj hy0 hy1 hy2 rfl (.slice none 0 0) 0 [] rfl (World.ownsRow_nil _ _ _ _) (.slice a2 N c2) since rfl HV23.out (by rw [HSL.out]; simp only [maxLen]; omega) (by rw [HSL.out]; omega) (by omega) ?_; intro v4 w4 hown4 hgrow4 _; refine Hid.out ?_)
  have hb4 : Below (w.alloc (.cells #[.int .i64 (N : Int), .int .i64 f, .int .i64 d, .int .i64 p, .int .i64 r, .int .i64 dr, .int .i64 o, .int .i64 sl, .int .i64 md, .int .i64 fr, .slice ad zs.length cap, .slice a1 N c1, .slice a2 N c2, .slice a3 FL c3, .slice a4 LL c4] 27)).heap.size (w.alloc (.cells #[.int .i64 (N : Int), .int .i64 f, .int .i64 d, .int .i64 p, .int .i64 r, .int .i64 dr, .int .i64 o, .int .i64 sl, .int .i64 md, .int .i64 fr, .slice ad zs.length cap, .slice a1 N c1, .slice a2 N c2, .slice a3 FL c3, .slice a4 LL c4] 27)) w4 := HB3.out.grown hgrow4 HB3.out.size (fun k h => by cases h)
  rw [HSL.out, Nat.zero_add, List.nil_append] at hown4
  have HM0 : Hid (MemQ (w.heap.size + 1) w4 (.slice none 0 0) (.slice none 0 0) v3 v4 [] (q 0).out (q 0).ps (q 0).ss N) := by
    have e := HQ0.out
    show MemQ _ _ _ _ _ _ _ _ _ _ _
    rw [e]
    exact ⟨World.ownsRow_nil _ _ _ _, World.ownsRow_nil _ _ _ _, HP3.out.kept hgrow4 (Classical.em _), hown4, fun e he => (by cases he), .inl rfl, fun e he => (by cases he), fun e he => (by cases he)⟩
  obtain ⟨gp, cp, rfl, hgp, _⟩ := own_open HP3.out (by omega)
  obtain ⟨gs, cs, rfl, hgs, _⟩ := own_open hown4 (by omega)
  have HB4 := hidden hb4
  have HTD0 : Hid ((([] : List (Option Addr × Nat × List ByteArray)).map fun e => e.2.2) = (q 0).told) := by
    show _ = _
    rw [HQ0.out]
    rfl
  have HKW := hidden (fun V (h : Below (w.alloc (.cells #[.int .i64 (N : Int), .int .i64 f, .int .i64 d, .int .i64 p, .int .i64 r, .int .i64 dr, .int .i64 o, .int .i64 sl, .int .i64 md, .int .i64 fr, .slice ad zs.length cap, .slice a1 N c1, .slice a2 N c2, .slice a3 FL c3, .slice a4 LL c4] 27)).heap.size (w.alloc (.cells #[.int .i64 (N : Int), .int .i64 f, .int .i64 d, .int .i64 p, .int .i64 r, .int .i64 dr, .int .i64 o, .int .i64 sl, .int .i64 md, .int .i64 fr, .slice ad zs.length cap, .slice a1 N c1, .slice a2 N c2, .slice a3 FL c3, .slice a4 LL c4] 27)) V) => blk_later HK.out h)
  have HTW := hidden (fun V (h : Below (w.alloc (.cells #[.int .i64 (N : Int), .int .i64 f, .int .i64 d, .int .i64 p, .int .i64 r, .int .i64 dr, .int .i64 o, .int .i64 sl, .int .i64 md, .int .i64 fr, .slice ad zs.length cap, .slice a1 N c1, .slice a2 N c2, .slice a3 FL c3, .slice a4 LL c4] 27)).heap.size (w.alloc (.cells #[.int .i64 (N : Int), .int .i64 f, .int .i64 d, .int .i64 p, .int .i64 r, .int .i64 dr, .int .i64 o, .int .i64 sl, .int .i64 md, .int .i64 fr, .slice ad zs.length cap, .slice a1 N c1, .slice a2 N c2, .slice a3 FL c3, .slice a4 LL c4] 27)) V) => HT.out.below h)
  have HV3W := hidden (fun V (h : Below (w.alloc (.cells #[.int .i64 (N : Int), .int .i64 f, .int .i64 d, .int .i64 p, .int .i64 r, .int .i64 dr, .int .i64 o, .int .i64 sl, .int .i64 md, .int .i64 fr, .slice ad zs.length cap, .slice a1 N c1, .slice a2 N c2, .slice a3 FL c3, .slice a4 LL c4] 27)).heap.size (w.alloc (.cells #[.int .i64 (N : Int), .int .i64 f, .int .i64 d, .int .i64 p, .int .i64 r, .int .i64 dr, .int .i64 o, .int .i64 sl, .int .i64 md, .int .i64 fr, .slice ad zs.length cap, .slice a1 N c1, .slice a2 N c2, .slice a3 FL c3, .slice a4 LL c4] 27)) V) => HV3.out.later h)
  have HV4W := hidden (fun V (h : Below (w.alloc (.cells #[.int .i64 (N : Int), .int .i64 f, .int .i64 d, .int .i64 p, .int .i64 r, .int .i64 dr, .int .i64 o, .int .i64 sl, .int .i64 md, .int .i64 fr, .slice ad zs.length cap, .slice a1 N c1, .slice a2 N c2, .slice a3 FL c3, .slice a4 LL c4] 27)).heap.size (w.alloc (.cells #[.int .i64 (N : Int), .int .i64 f, .int .i64 d, .int .i64 p, .int .i64 r, .int .i64 dr, .int .i64 o, .int .i64 sl, .int .i64 md, .int .i64 fr, .slice ad zs.length cap, .slice a1 N c1, .slice a2 N c2, .slice a3 FL c3, .slice a4 LL c4] 27)) V) => HV4.out.later h)
  clear hown4 hgrow4 hb4 c0 l0 HP3 HB3 HK3 HV1 HV2 HV23 HK HT HV3 HV4 hn3
  refine hidden ?_
  go_wp2
  rw [HWN.out] at HM0 hgp hgs
  generalize w.alloc (.cells #[.int .i64 (N : Int), .int .i64 f, .int .i64 d, .int .i64 p, .int .i64 r, .int .i64 dr, .int .i64 o, .int .i64 sl, .int .i64 md, .int .i64 fr, .slice ad zs.length cap, .slice a1 N c1, .slice a2 N c2, .slice a3 FL c3, .slice a4 LL c4] 27) = W1 at *
  go_loopw [5, 6, 9] (fun T O i wr => ∃ (t : Nat) (svs : List (Option Addr × Nat × List ByteArray)), t ≤ ticks ∧ i = .int .i64 t ∧ MemQ W1.heap.size wr T O (.slice (some ⟨gp, 0, none⟩) N cp) (.slice (some ⟨gs, 0, none⟩) N cs) svs (q t).out (q t).ps (q t).ss N ∧ (svs.map fun e => e.2.2) = (q t).told ∧ svs.length = t ∧ (q t).out.length = t ∧ Below W1.heap.size W1 wr) (fun _ _ i _ => ticks - (intV i).toNat)
  case atStart => exact ⟨0, [], Nat.zero_le _, rfl, HM0.out, HTD0.out, rfl, by rw [HQ0.out]; rfl, HB4.out⟩
  case round =>
    obtain ⟨t, svs, ht, rfl, hM, htd, hsl, hol, hB⟩ := hrel
    have HM := hidden hM
    have HTD := hidden htd
    have HSV := hidden hsl
    have HOL := hidden hol
    have HBt := hidden hB
    have HKt := hidden (HKW.out wr hB)
    clear hM htd hsl hol hB HM0 HTD0 HB4
    by_cases htt : t < ticks
    · have t1 : (t : Int) < (ticks : Int) := by omega
      have htq := HQS.out t
      have HSt := hidden htq
      have hO : ∀ k, u6.ownBlock = some k → k < wr.heap.size := fun k hk => (HM.out.outr.lt k hk).2
      have hTl : ∀ k, u5.ownBlock = some k → k < wr.heap.size := fun k hk => (HM.out.told.lt k hk).2
      have hPl : ∀ k, (Value.slice (some ⟨gp, 0, none⟩) N cp).ownBlock = some k → k < wr.heap.size := fun k hk => (HM.out.pip.lt k hk).2
      have hSl : ∀ k, (Value.slice (some ⟨gs, 0, none⟩) N cs).ownBlock = some k → k < wr.heap.size := fun k hk => (HM.out.sin.lt k hk).2
      have hRl : ∀ e ∈ svs, ∀ k, (slV e).ownBlock = some k → k < wr.heap.size := fun e he k hk => ((HM.out.rows e he).2.lt k hk).2
      have HLIM := hidden (And.intro hTl (And.intro hO (And.intro hPl (And.intro hSl hRl))))
      have HMx : Hid (MemQ W1.heap.size wr u5 u6 (.slice (some ⟨gp, 0, none⟩) N cp) (.slice (some ⟨gs, 0, none⟩) N cs) svs (q t).out (mixQ N (nP t) (fun j => (q t).ps.getD j noB) 0) (mixQ N (nS t) (fun j => (q t).ss.getD j 0) 0) N) := by
        show MemQ _ _ _ _ _ _ _ _ _ _ _
        have l1 : (q t).ps.length = N := by cases t with | zero => rw [HQ0.out]; exact HPL.out | succ t => rw [HQS.out]; simp
        have l2 : (q t).ss.length = N := by cases t with | zero => rw [HQ0.out]; exact HSL.out | succ t => rw [HQS.out]; simp
        rw [mixQ_0 _ _ _ _ l1, mixQ_0 _ _ _ _ l2]
        exact HM.out
      clear htq hO hTl hPl hSl hRl
      have c0 := blk_cell HKt.out
      have l0 := blk_lt HKt.out
      obtain ⟨wt, hwt⟩ : ∃ wt, wt = wr := ⟨_, rfl⟩
      rw [← hwt] at HMx HLIM HBt ⊢
      subst hwt
      go_wp2
      clear c0 l0
      go_loopw [10, 11, 12] (fun Rv b i wr => ∃ k : Nat, k ≤ N ∧ i = .int .i64 k ∧ b = .string (ba ((List.range k).map fun i => dgE (nE t i))) ∧ MemQ W1.heap.size wr u5 u6 (.slice (some ⟨gp, 0, none⟩) N cp) (.slice (some ⟨gs, 0, none⟩) N cs) svs (q t).out (mixQ N (nP t) (fun j => (q t).ps.getD j noB) k) (mixQ N (nS t) (fun j => (q t).ss.getD j 0) k) N ∧ wr.ownsRow wt.heap.size 9 1 Rv k (kStr.flat ((List.range k).map (nT t))) ∧ Below W1.heap.size W1 wr ∧ wt.heap.size ≤ wr.heap.size) (fun _ _ i _ => N - (intV i).toNat)
      case atStart => exact ⟨0, Nat.zero_le _, rfl, rfl, HMx.out, World.ownsRow_nil _ _ _ _, HBt.out, Nat.le_refl _⟩
      case round =>
        obtain ⟨i, hi1, rfl, rfl, hM, hR, hB, hts⟩ := hrel
        have HMi := hidden hM
        have HRi := hidden hR
        have HBi := hidden hB
        have HKi := hidden (HKW.out wr hB)
        clear hM hR hB HMx
        by_cases hit : i < N
        · have i1 : (i : Int) < (N : Int) := by omega
          have i2 : (0 : Int) ≤ (i : Int) := by omega
          have c0 := blk_cell HKi.out
          have l0 := blk_lt HKi.out
          obtain ⟨wi, hwi⟩ : ∃ wi, wi = wr := ⟨_, rfl⟩
          rw [← hwi] at HMi HRi HBi HKi hts c0 l0 ⊢
          subst hwi
          go_wp2
          clear c0 l0
          go_loopw [13, 14] (fun v k wr => ∃ j : Nat, j ≤ N ∧ k = .int .i64 j ∧ wr.ownsRow wi.heap.size 9 1 v j (kStr.flat ((List.range j).map (vo t i))) ∧ Below wi.heap.size wi wr) (fun _ k _ => N - (intV k).toNat)
          case atStart => exact ⟨0, Nat.zero_le _, rfl, World.ownsRow_nil _ _ _ _, Below.refl _ _⟩
          case round =>
            obtain ⟨k, hk1, rfl, hv, hB⟩ := hrel
            have HVk := hidden hv
            have HBk := hidden hB
            have HBK := hidden (bthen HBi.out hB)
            have HKk := hidden (HKW.out wr (bthen HBi.out hB))
            have hks := hB.size
            clear hv hB
            have c0 := blk_cell HKk.out
            have l0 := blk_lt HKk.out
            by_cases hkt : k < N
            · have k1 : (k : Int) < (N : Int) := by omega
              have k2 : (0 : Int) ≤ (k : Int) := by omega
              have CLk := hidden (CL.out t k i htt hkt hit)
              have CIk := hidden (CI.out k hkt)
              have HSK := hidden (mapR_s (vo t i) k)
              by_cases htD : t < D
              · have b1 : decide ((t : Int) < d) = true := decide_eq_true (by have := HD.out; omega)
                have b1' : (t : Int) < d := by have := HD.out; omega
                have HE := hidden (HW1.out t i k (.inl htD))
                clear htD
                go_wp2_with fail
                refine (CLk.out wr (HV4W.out wr HBK.out)).mono ?_
                rintro e w2 ⟨rfl, hb⟩
                have HB2 := hidden (bthen HBk.out hb)
                have HV2 := hidden (own_below HVk.out hb)
                have h2s := HB2.out.size
                clear hb c0 l0
                rw [← HE.out]
                generalize vo t i k = vk at *
                go_wp2_with (at_builtin; refine kStr.wpList_append _ rfl (.tmp 57) (.tmp 67) 25 rfl wi.heap.size 9 i0 (.string noB) 16 Try.underlying25 hi hz0 hz1 hz2 rfl u13 k _ rfl (HV2.out.alloc _) (.slice (some ⟨w2.heap.size, 0, none⟩) 1 1) [vk] rfl (Kind.Lies.of_block (K := kStr) (es := [vk]) (heap_alloc_new w2 _) (by simp [maxLen])) (by simp only [maxLen, List.length_singleton]; omega) (by simp only [List.length_singleton]; omega) (by simp; omega) ?_; intro v3 w3 hown3 hgrow3 _)
                have hB3 : Below wi.heap.size wi w3 := (HB2.out.alloc h2s _).grown hgrow3 (by simp; omega) (own_from HV2.out)
                have hrow3 : w3.ownsRow wi.heap.size 9 1 v3 (k + 1) (kStr.flat ((List.range (k + 1)).map (vo t i))) := by
                  rw [HSK.out, Kind.flat_append]
                  exact hown3
                go_roundw
                case rel => exact ⟨k + 1, by omega, by go_num, hrow3, hB3⟩
                case measure => simp [intV]; omega
              · have b1 : decide ((t : Int) < d) = false := decide_eq_false (by have := HD.out; omega)
                have b1' : ¬ (t : Int) < d := by have := HD.out; omega
                cases hfk : fa k with
                | true =>
                  have HE := hidden (HW1.out t i k (.inr hfk))
                  rw [hfk] at CIk
                  clear hfk htD
                  go_wp2_with fail
                  refine (CIk.out wr (HV3W.out wr HBK.out)).mono ?_
                  rintro e wx ⟨rfl, rfl⟩
                  go_wp2_with fail
                  refine (CLk.out wr (HV4W.out wr HBK.out)).mono ?_
                  rintro e w2 ⟨rfl, hb⟩
                  have HB2 := hidden (bthen HBk.out hb)
                  have HV2 := hidden (own_below HVk.out hb)
                  have h2s := HB2.out.size
                  clear hb c0 l0
                  rw [← HE.out]
                  generalize vo t i k = vk at *
                  go_wp2_with (at_builtin; refine kStr.wpList_append _ rfl (.tmp 57) (.tmp 67) 25 rfl wi.heap.size 9 i0 (.string noB) 16 Try.underlying25 hi hz0 hz1 hz2 rfl u13 k _ rfl (HV2.out.alloc _) (.slice (some ⟨w2.heap.size, 0, none⟩) 1 1) [vk] rfl (Kind.Lies.of_block (K := kStr) (es := [vk]) (heap_alloc_new w2 _) (by simp [maxLen])) (by simp only [maxLen, List.length_singleton]; omega) (by simp only [List.length_singleton]; omega) (by simp; omega) ?_; intro v3 w3 hown3 hgrow3 _)
                  have hB3 : Below wi.heap.size wi w3 := (HB2.out.alloc h2s _).grown hgrow3 (by simp; omega) (own_from HV2.out)
                  have hrow3 : w3.ownsRow wi.heap.size 9 1 v3 (k + 1) (kStr.flat ((List.range (k + 1)).map (vo t i))) := by
                    rw [HSK.out, Kind.flat_append]
                    exact hown3
                  go_roundw
                  case rel => exact ⟨k + 1, by omega, by go_num, hrow3, hB3⟩
                  case measure => simp [intV]; omega
                | false =>
                  have HE := hidden (HW2.out t i k htD hfk)
                  rw [hfk] at CIk
                  obtain ⟨u, hu⟩ : ∃ u : Nat, u = t - D := ⟨_, rfl⟩
                  have hut : u < t := by omega
                  have HU : Hid ((t : Int) - d = (u : Int)) := by have := HD.out; show _ = _; omega
                  rw [← hu] at HE
                  clear hfk htD hu
                  have hMk := HMi.out.below HBk.out
                  have hul : u < svs.length := by rw [HSV.out]; exact hut
                  obtain ⟨gt, ct, hTv, _, hgt⟩ := own_open hMk.told (by omega)
                  have et : wr.cell? ⟨gt, u, none⟩ = some (slV svs[u]) := by
                    have h1 := hMk.told
                    rw [hTv] at h1
                    have h2 := h1.cellAt u (by omega)
                    rw [kSl_flat, List.getElem?_map, List.getElem?_eq_getElem hul] at h2
                    exact h2
                  have hmem : svs[u] ∈ svs := List.getElem_mem hul
                  obtain ⟨hel, hrow⟩ := hMk.rows _ hmem
                  have hcon : svs[u].2.2 = (q t).told.getD u [] := by
                    rw [← HTD.out, List.getD_eq_getElem?_getD, List.getElem?_map, List.getElem?_eq_getElem hul]
                    rfl
                  rw [← hcon] at HE
                  obtain ⟨⟨ea, ec, er⟩, hee⟩ : ∃ e, svs[u] = e := ⟨_, rfl⟩
                  rw [hee] at et hel hrow HE
                  unfold slV at et hrow
                  dsimp only at et hel hrow HE
                  obtain ⟨ge, ce, hEv, _, hge⟩ := own_open hrow (by omega)
                  rw [hel] at et hrow hEv
                  simp only [Value.slice.injEq, true_and] at hEv
                  obtain ⟨rfl, rfl⟩ := hEv
                  have ek := hrow.cellAt k (by omega)
                  rw [kStr_get _ _ (by omega), ← HE.out] at ek
                  have hul2 : (u : Int) < (svs.length : Int) := by omega
                  have hu0 : (0 : Int) ≤ (u : Int) := by omega
                  have hTv' := hTv
                  clear hmem hcon hee hrow hul hel hTv'
                  have t2 := HU.out
                  subst hTv
                  generalize svs.length = SL at *
                  go_wp2_with fail
                  refine (CIk.out wr (HV3W.out wr HBK.out)).mono ?_
                  rintro e wx ⟨rfl, rfl⟩
                  go_wp2_with (at_builtin; refine kStr.wpList_append _ rfl (.tmp 69) (.tmp 81) 25 rfl wi.heap.size 9 i0 (.string noB) 16 Try.underlying25 hi hz0 hz1 hz2 rfl u13 k _ rfl (HVk.out.alloc _) (.slice (some ⟨wr.heap.size, 0, none⟩) 1 1) [vo t i k] rfl (Kind.Lies.of_block (K := kStr) (es := [vo t i k]) (heap_alloc_new wr _) (by simp [maxLen])) (by simp only [maxLen, List.length_singleton]; omega) (by simp only [List.length_singleton]; omega) (by simp; omega) ?_; intro v3 w3 hown3 hgrow3 _)
                  have hB3 : Below wi.heap.size wi w3 := (HBk.out.alloc hks _).grown hgrow3 (by simp; omega) (own_from HVk.out)
                  have hrow3 : w3.ownsRow wi.heap.size 9 1 v3 (k + 1) (kStr.flat ((List.range (k + 1)).map (vo t i))) := by
                    rw [HSK.out, Kind.flat_append]
                    exact hown3
                  go_roundw
                  case rel => exact ⟨k + 1, by omega, by go_num, hrow3, hB3⟩
                  case measure => simp [intV]; omega
            · obtain rfl : k = N := by omega
              have k1 : ¬ (k : Int) < (k : Int) := by omega
              have hMk := HMi.out.below HBk.out
              obtain ⟨vA, vC, hvv⟩ := own_slice HVk.out
              subst hvv
              have hvl : ((List.range k).map (vo t i)).length = k := by simp
              have hli : kStr.Lies wr.heap.size wr (.slice vA k vC) ((List.range k).map (vo t i)) := Kind.Lies.of_own (K := kStr) (base := wi.heap.size) (e := 9) (by rw [hvl]; exact HVk.out)
              have HLI := hidden hli
              have ep := hMk.pip.cellAt i (by omega)
              rw [kStr_get _ _ (by rw [mixQ_len]; omega), mixQ_at _ _ _ _ _ hit] at ep
              have es := hMk.sin.cellAt i (by omega)
              rw [kInt_get _ _ (by rw [mixQ_len]; omega), mixQ_at _ _ _ _ _ hit] at es
              have HMK := hidden hMk
              have hpl := (hMk.pip.lt gp rfl).2
              have hsl2 := (hMk.sin.lt gs rfl).2
              have CBi := hidden (CB.out t i htt hit)
              have CTi := hidden (CT.out t i htt hit)
              have HTk := hidden (HTW.out wr HBK.out)
              have HPS := hidden (mixQ_set k (nP t) (fun j => (q t).ps.getD j noB) i hit)
              have HSS := hidden (mixQ_set k (nS t) (fun j => (q t).ss.getD j 0) i hit)
              have HRk := hidden (own_below HRi.out HBk.out)
              clear hli hvl hMk
              generalize hpi : nP t i = np at *
              generalize hsi : nS t i = ns at *
              have HPI := hidden hpi
              have HSI := hidden hsi
              clear hpi hsi
              generalize (q t).ps.getD i noB = op at *
              generalize (q t).ss.getD i 0 = os at *
              generalize nR t i = nr at *
              go_wp2
              refine wp_region_quiet_below (by kernel_rfl) (by kernel_rfl) ?_
              repeat (go_big_quiet_step (fail))
              go_big_quiet_step ((go_at_call 40; exact Calls.regrown_of (CBi.out _ _ _ (HTk.out.below (below_regrown _ _ _)) (HLI.out.later (below_regrown _ _ _)))))
              repeat (go_big_quiet_step (fail))
              refine wpQuiet_nil ?_
              intro w5 hw5
              have hb5 := rg_below hw5
              have hM5 := HMK.out.below hb5
              have HR5 := hidden (own_below HRk.out hb5)
              have HB5 := hidden (bthen HBK.out hb5)
              have h5s := hb5.size
              clear hw5 c0 l0 ep es hb5 HMK
              have c5 := hM5.pip.cellAt i (by omega)
              rw [kStr_get _ _ (by rw [mixQ_len]; omega)] at c5
              have f5 := hM5.pip.frozenAt i
              have l5 := (hM5.pip.lt gp rfl).2
              have hM6 := hM5.pipes rfl i np
              rw [HPS.out] at hM6
              have c6 := hM6.sin.cellAt i (by omega)
              rw [kInt_get _ _ (by rw [mixQ_len]; omega)] at c6
              have f6 := hM6.sin.frozenAt i
              have l6 := (hM6.sin.lt gs rfl).2
              have hM7 := hM6.since rfl i ns
              rw [HSS.out] at hM7
              have HM7 := hidden hM7
              have hB7 := (HB5.out.setCell (p := ⟨gp, i, none⟩) hgp (.string np)).setCell (p := ⟨gs, i, none⟩) hgs (.int .i64 ns)
              have HK7 := hidden (HKW.out _ hB7)
              have HT7 := hidden (HTW.out _ hB7)
              have HB7 := hidden hB7
              have hR7 : ((w5.setCell ⟨gp, i, none⟩ (.string np)).setCell ⟨gs, i, none⟩ (.int .i64 ns)).ownsRow wt.heap.size 9 1 u10 i (kStr.flat ((List.range i).map (nT t))) := by
                have g1 := (hM5.pip.stored i (.string np)).2
                have g2 := (hM6.sin.stored i (.int .i64 ns)).2
                have hp1 := HLIM.out.2.2.1 gp rfl
                have hs1 := HLIM.out.2.2.2.1 gs rfl
                have hne : ∀ b, b < wt.heap.size → u10.ownBlock = none ∨ u10.ownBlock ≠ some b := fun b hb => .inr fun e => by have := (HR5.out.lt b e).1; omega
                exact (HR5.out.kept g1 (hne gp hp1)).kept g2 (hne gs hs1)
              have HR7 := hidden hR7
              have h7s : wt.heap.size ≤ ((w5.setCell ⟨gp, i, none⟩ (.string np)).setCell ⟨gs, i, none⟩ (.int .i64 ns)).heap.size := by simp; omega
              have c7 := blk_cell HK7.out
              have l7 := blk_lt HK7.out
              clear hM5 hM6 hM7 hB7 hR7 HR5
              go_wp2_with fail
              generalize (w5.setCell ⟨gp, i, none⟩ (.string np)).setCell ⟨gs, i, none⟩ (.int .i64 ns) = w7 at *
              refine (CTi.out w7 HT7.out).mono ?_
              rintro e w8 ⟨rfl, hb⟩
              have HM8 := hidden (HM7.out.below hb)
              have HR8 := hidden (own_below HR7.out hb)
              have HB8 := hidden (bthen HB7.out hb)
              have h8s := hb.size
              have hw18 := HB8.out.size
              have HTS := hidden (mapR_s (nT t) i)
              have HBS := hidden (rangeB_s i (fun i => dgE (nE t i)))
              have hbz := rangeB_sz i (fun i => dgE (nE t i))
              clear hb c5 f5 l5 c6 f6 l6 c7 l7 HM7 HR7
              generalize nT t i = nt at *
              generalize ba ((List.range i).map fun i => dgE (nE t i)) = bs at *
              cases hne : nE t i with
              | true =>
                rw [hne] at HBS
                clear hne
                have hdg : ba [dgE true] = ⟨#[49]⟩ := rfl
                rw [hdg] at HBS
                clear hdg
                go_wp2_with (at_builtin; refine kStr.wpList_append _ rfl (.tmp 108) (.tmp 113) 25 rfl wt.heap.size 9 i0 (.string noB) 16 Try.underlying25 hi hz0 hz1 hz2 rfl u10 i _ rfl (HR8.out.alloc _) (.slice (some ⟨w8.heap.size, 0, none⟩) 1 1) [nt] rfl (Kind.Lies.of_block (K := kStr) (es := [nt]) (heap_alloc_new w8 _) (by simp [maxLen])) (by simp only [maxLen, List.length_singleton]; omega) (by simp only [List.length_singleton]; omega) (by simp; omega) ?_; intro v9 w9 hown9 hgrow9 _)
                have hrow9 : w9.ownsRow wt.heap.size 9 1 v9 (i + 1) (kStr.flat ((List.range (i + 1)).map (nT t))) := by
                  rw [HTS.out, Kind.flat_append]
                  exact hown9
                have hM9 := (HM8.out.below (ballc w8 _)).apart hgrow9 wt.heap.size HLIM.out (own_from HR8.out)
                have hB9 : Below W1.heap.size W1 w9 := (HB8.out.alloc hw18 _).grown hgrow9 (by simp; omega) (fun k hk => by have := own_from HR8.out k hk; have := HBt.out.size; omega)
                have h9s : wt.heap.size ≤ w9.heap.size := by have := hgrow9.size; simp at this; omega
                go_roundw
                case rel => exact ⟨i + 1, by omega, by go_num, by rw [HBS.out], hM9, hrow9, hB9, h9s⟩
                case measure => simp [intV]; omega
              | false =>
                rw [hne] at HBS
                clear hne
                have hdg : ba [dgE false] = ⟨#[48]⟩ := rfl
                rw [hdg] at HBS
                clear hdg
                go_wp2_with (at_builtin; refine kStr.wpList_append _ rfl (.tmp 108) (.tmp 113) 25 rfl wt.heap.size 9 i0 (.string noB) 16 Try.underlying25 hi hz0 hz1 hz2 rfl u10 i _ rfl (HR8.out.alloc _) (.slice (some ⟨w8.heap.size, 0, none⟩) 1 1) [nt] rfl (Kind.Lies.of_block (K := kStr) (es := [nt]) (heap_alloc_new w8 _) (by simp [maxLen])) (by simp only [maxLen, List.length_singleton]; omega) (by simp only [List.length_singleton]; omega) (by simp; omega) ?_; intro v9 w9 hown9 hgrow9 _)
                have hrow9 : w9.ownsRow wt.heap.size 9 1 v9 (i + 1) (kStr.flat ((List.range (i + 1)).map (nT t))) := by
                  rw [HTS.out, Kind.flat_append]
                  exact hown9
                have hM9 := (HM8.out.below (ballc w8 _)).apart hgrow9 wt.heap.size HLIM.out (own_from HR8.out)
                have hB9 : Below W1.heap.size W1 w9 := (HB8.out.alloc hw18 _).grown hgrow9 (by simp; omega) (fun k hk => by have := own_from HR8.out k hk; have := HBt.out.size; omega)
                have h9s : wt.heap.size ≤ w9.heap.size := by have := hgrow9.size; simp at this; omega
                go_roundw
                case rel => exact ⟨i + 1, by omega, by go_num, by rw [HBS.out], hM9, hrow9, hB9, h9s⟩
                case measure => simp [intV]; omega
        · obtain rfl : i = N := by omega
          have i1 : ¬ (i : Int) < (i : Int) := by omega
          have hM := HMi.out
          rw [mixQ_all, mixQ_all] at hM
          obtain ⟨gr, cr, hu, hgr, hgr2⟩ := own_open HRi.out (by omega)
          have hR := HRi.out
          rw [hu] at hR
          subst hu
          obtain ⟨e0, he0⟩ : ∃ e0 : Option Addr × Nat × List ByteArray, e0 = (some ⟨gr, 0, none⟩, cr, (List.range i).map (nT t)) := ⟨_, rfl⟩
          have he1 : e0.2.2 = (List.range i).map (nT t) := by rw [he0]
          have he2 : e0.2.2.length = i := by rw [he1]; simp
          have he3 : slV e0 = .slice (some ⟨gr, 0, none⟩) i cr := by unfold slV; rw [he2, he0]
          have he4 : (kSl.flat [e0]).toArray = #[.slice (some ⟨gr, 0, none⟩) i cr] := by rw [kSl_flat]; simp only [List.map_cons, List.map_nil]; rw [show Value.slice e0.1 e0.2.2.length e0.2.1 = slV e0 from rfl, he3]
          have hP : (slV e0).ownBlock ≠ (Value.slice (some ⟨gp, 0, none⟩) i cp).ownBlock := by
            rw [he3]
            have := HLIM.out.2.2.1 gp rfl
            intro e
            simp only [Value.ownBlock, Option.some.injEq] at e
            omega
          have hO : (slV e0).ownBlock = none ∨ (slV e0).ownBlock ≠ u6.ownBlock := by
            refine .inr fun e => ?_
            rw [he3] at e
            have := HLIM.out.2.1 gr e.symm
            omega
          have hrow : wr.ownsRow W1.heap.size 9 1 (slV e0) i (kStr.flat e0.2.2) := by
            rw [he3, he1]
            exact own_low hR HBt.out.size
          have HE := hidden (And.intro he1 (And.intro he2 (And.intro he3 (And.intro he4 (And.intro hP (And.intro hO hrow))))))
          have HM2 := hidden hM
          have hws := HBi.out.size
          have htl : t ≤ 5000 := by omega
          have HSZ := hidden (rangeB_sz i (fun i => dgE (nE t i)))
          have hsvl := HSV.out
          clear hM hR he0 he1 he2 he3 he4 hP hO hrow hgr hgr2
          have c0 := blk_cell HKi.out
          have l0 := blk_lt HKi.out
          generalize hbs : ba ((List.range i).map fun i => dgE (nE t i)) = bs at *
          have HBSQ := hidden hbs
          clear hbs
          go_wp2_with (at_builtin; refine kSl.wpList_append _ rfl (.tmp 120) (.tmp 122) 70 rfl W1.heap.size 25 m0 (.slice none 0 0) 24 Try.underlying70 hm hx0 hx1 hx2 rfl u5 svs.length _ rfl (HM2.out.told.alloc _) (.slice (some ⟨wr.heap.size, 0, none⟩) 1 1) [e0] rfl (Kind.Lies.of_block (K := kSl) (t := 25) (es := [e0]) (by rw [HE.out.2.2.2.1]; exact heap_alloc_new wr _) (by simp [maxLen])) (by simp only [maxLen, List.length_singleton]; omega) (by simp only [List.length_singleton]; omega) (by simp; omega) ?_; intro v7 w7 hown7 hgrow7 _; refine Hid.out ?_)
          have hM7 := (HM2.out.below (ballc wr _)).tell e0 HE.out.2.1 (own_below HE.out.2.2.2.2.2.2 (ballc wr _)) HE.out.2.2.2.2.1 HE.out.2.2.2.2.2.1 hgrow7 hown7
          have hB7 : Below W1.heap.size W1 w7 := (HBi.out.alloc hws _).grown hgrow7 (by simp; omega) (fun k hk => (HM2.out.told.lt k hk).1)
          have HM7 := hidden hM7
          have HB7 := hidden hB7
          have hw7 := hB7.size
          have hol := HOL.out
          clear hown7 hgrow7 hM7 hB7
          refine hidden ?_
          go_wp2_with (at_builtin; refine kStr.wpList_append _ rfl (.tmp 124) (.tmp 126) 25 rfl W1.heap.size 9 i0 (.string noB) 16 Try.underlying25 hi hz0 hz1 hz2 rfl u6 (q t).out.length _ rfl (HM7.out.outr.alloc _) (.slice (some ⟨w7.heap.size, 0, none⟩) 1 1) [bs] rfl (Kind.Lies.of_block (K := kStr) (es := [bs]) (heap_alloc_new w7 _) (by simp [maxLen])) (by simp only [maxLen, List.length_singleton]; omega) (by simp only [List.length_singleton]; omega) (by simp; omega) ?_; intro v9 w9 hown9 hgrow9 hbl9)
          have hM9 := (HM7.out.below (ballc w7 _)).beat bs hgrow9 hown9 hbl9 ⟨gp, rfl⟩ (own_some hown9 (by simp only [List.length_singleton]; omega))
          have hB9 : Below W1.heap.size W1 w9 := (HB7.out.alloc hw7 _).grown hgrow9 (by simp; omega) (fun k hk => (HM7.out.outr.lt k hk).1)
          have hq := HSt.out
          go_roundw
          case rel =>
            refine ⟨t + 1, svs ++ [e0], by omega, by go_num, ?_, ?_, ?_, ?_, hB9⟩
            · rw [hq]; exact hM9
            · rw [hq, List.map_append, HTD.out, ← HE.out.1]; rfl
            · rw [List.length_append, hsvl]; rfl
            · rw [hq, List.length_append, hol]; rfl
          case measure => simp [intV]; omega
    · obtain rfl : t = ticks := by omega
      have t1 : ¬ (t : Int) < (t : Int) := by omega
      obtain ⟨ax, cx, hu⟩ := own_slice HM.out.outr
      have hown := HM.out.outr
      have hlies : kStr.Lies wr.heap.size wr u6 (q t).out := Kind.Lies.of_own (K := kStr) (base := W1.heap.size) (e := 9) hown
      rw [HOL.out] at hu
      subst hu
      have HL := hidden hlies
      have HBZ := hidden (bthen HB0.out HBt.out)
      clear hown hlies
      go_wp2
      go_ret
      exact ⟨_, _, rfl, HL.out, HBZ.out⟩
end Go.Proofs.Ytohgmliafidalaa

/- The document's call In of layer 14 tells whether a number is in a row, and leaves all as it was; conditions: the row lies where it says, and lengths fit int. -/
namespace Go.Proofs.Ytohgmliafidalaa
open Go.ChangeShapes Go.WideShapes Go.ChangeAt Go.RowKit
set_option linter.unusedVariables false
attribute [local go_sem] cell_rg

set_option maxHeartbeats 1000000 in
theorem rIn_any (n : Int) (a2 : Option Addr) (c2 : Nat) (vs : List Int) (hlv : vs.length ≤ 9223372036854775807) (w : World) (hV : kInt.Lies w.heap.size w (.slice a2 vs.length c2) vs) :
    Calls Try.prog 13 #[.slice a2 vs.length c2, .int .i64 n] w fun e w' => e = .returned (.bool (decide (n ∈ vs))) ∧ w = w' := by
  go_enter Try.func13, Try.ntmps13
  go_wp2
  go_loop [5] (fun i => ∃ k : Nat, k ≤ vs.length ∧ i = .int .i64 k ∧ n ∉ vs.take k) (fun i => vs.length - (intV i).toNat)
  case atStart => exact ⟨0, Nat.zero_le _, rfl, by simp⟩
  case round =>
    obtain ⟨k, hk, rfl, hn⟩ := hrel
    by_cases hlt : k < vs.length
    · obtain ⟨b, off, rfl, hbl, e0⟩ := kInt_at hV k hlt
      have HS := hidden (take_snocV vs hlt)
      have HM : Hid (vs[k] ∈ vs) := List.getElem_mem hlt
      have HN := hidden hn
      have i1 : (0 : Int) ≤ (k : Int) := by omega
      have i2 : (k : Int) < (vs.length : Int) := by omega
      clear hV hn
      generalize vs[k] = z at *
      by_cases h : z = n
      · subst h
        have j : (z == z) = true := by simp
        have HD : Hid (decide (z ∈ vs) = true) := decide_eq_true HM.out
        go_wp2
        go_ret
        exact ⟨ret_b HD.out.symm, rfl⟩
      · have j : (z == n) = false := by simp [h]
        have HN2 : Hid (n ∉ vs.take (k + 1)) := by
          show ¬ _
          rw [HS.out, List.mem_append, List.mem_singleton]
          exact fun hh => hh.elim HN.out (fun e => h e.symm)
        go_wp2
        go_round
        case rel => exact ⟨k + 1, by omega, by go_num, HN2.out⟩
        case measure => simp [intV]; omega
    · obtain rfl : k = vs.length := by omega
      rw [List.take_length] at hn
      have HD : Hid (decide (n ∈ vs) = false) := decide_eq_false hn
      clear hn
      go_wp2
      go_ret
      exact ⟨ret_b HD.out.symm, rfl⟩
end Go.Proofs.Ytohgmliafidalaa

/- The statements' own method runs of a cluster returns, tick by tick, the pulses of a plain function's run, and makes at most new memory; conditions: a plain configuration, rows lie where they say, lengths fit int, at most five thousand ticks. -/
namespace Go.Proofs.Ytohgmliafidalaa
open Go.ChangeShapes Go.WideShapes Go.ChangeAt Go.RowKit
set_option linter.unusedVariables false

theorem getD_mem_size (l : List ByteArray) (i : Nat) (h : ∀ t ∈ l, t.size ≤ 9223372036854775807) : (l.getD i noB).size ≤ 9223372036854775807 := by
  by_cases hi : i < l.length
  · rw [List.getD_eq_getElem?_getD, List.getElem?_eq_getElem hi, Option.getD_some]
    exact h _ (List.getElem_mem hi)
  · rw [List.getD_eq_getElem?_getD, List.getElem?_eq_none (by omega)]
    decide
theorem getD_mem_bd (l : List Int) (i : Nat) (h : ∀ z ∈ l, -9223372036854775808 ≤ z ∧ z ≤ 9223372036854775807) : -9223372036854775808 ≤ l.getD i 0 ∧ l.getD i 0 ≤ 9223372036854775807 := by
  by_cases hi : i < l.length
  · rw [List.getD_eq_getElem?_getD, List.getElem?_eq_getElem hi, Option.getD_some]
    exact h _ (List.getElem_mem hi)
  · rw [List.getD_eq_getElem?_getD, List.getElem?_eq_none (by omega)]
    exact ⟨by decide, by decide⟩
theorem lieQ_size (lies : List ByteArray) (N t k i : Nat) (h : ∀ t ∈ lies, t.size ≤ 9223372036854775807) : (lieQ lies N t k i).size ≤ 9223372036854775807 := by
  unfold lieQ
  split
  · decide
  · exact getD_mem_size _ _ h
section
variable {N : Nat} {f d p r dr o sl md fr : Int} {ad : Option Addr} {cap : Nat} {zs : List Int} {D L R : Nat} {fa : Nat → Bool} {lies pipes : List ByteArray} {since : List Int}
theorem run_ps_size (hL : L ≤ 60) (hz1 : ∀ t ∈ pipes, t.size ≤ 9223372036854775807) (t i : Nat) (hi : i < N) : ((runQ N f d p r dr o sl md fr ad cap zs D L R fa lies pipes since t).ps.getD i noB).size ≤ 9223372036854775807 := by
  cases t with
  | zero => exact getD_mem_size _ _ hz1
  | succ t =>
    rw [rQ_ps t i hi]
    unfold tkP
    rw [ba_size, stpL_len, wellL_len]
    omega
theorem run_ss_bd (hp : p ≤ 9223372036854775807) (hz2 : ∀ z ∈ since, -9223372036854775808 ≤ z ∧ z ≤ 9223372036854775807) (i : Nat) (hi : i < N) : ∀ t, -9223372036854775808 ≤ (runQ N f d p r dr o sl md fr ad cap zs D L R fa lies pipes since t).ss.getD i 0 ∧ (runQ N f d p r dr o sl md fr ad cap zs D L R fa lies pipes since t).ss.getD i 0 ≤ 9223372036854775807
  | 0 => getD_mem_bd _ _ hz2
  | t + 1 => by
    rw [rQ_ss t i hi]
    exact nxt1_bd (run_ss_bd hp hz2 i hi t).2 hp
theorem run_vote_size (hR : R ≤ 15) (hz4 : ∀ t ∈ lies, t.size ≤ 9223372036854775807) (hD : 1 ≤ D) (t i k : Nat) : (voteQ fa lies N D (runQ N f d p r dr o sl md fr ad cap zs D L R fa lies pipes since t).told t i k).size ≤ 9223372036854775807 := by
  unfold voteQ
  split
  · exact lieQ_size _ _ _ _ _ hz4
  · rename_i h
    have ht : t - D < t := by omega
    rw [runQ_told_at t (t - D) ht]
    by_cases hk : k < N
    · rw [range_getD _ _ _ _ hk]
      unfold tkT
      rw [dgB_size]
      omega
    · rw [List.getD_eq_getElem?_getD, List.getElem?_eq_none (by simp; omega)]
      decide
end
set_option maxHeartbeats 4000000 in
theorem runs_any (N : Nat) (f d p r dr o sl md fr : Int) (ad : Option Addr) (cap : Nat) (zs : List Int) (D L R ticks : Nat) (a1 : Option Addr) (c1 : Nat) (pipes : List ByteArray) (a2 : Option Addr) (c2 : Nat) (since : List Int) (a3 : Option Addr) (c3 : Nat) (fs : List Int) (a4 : Option Addr) (c4 : Nat) (lies : List ByteArray) (w : World)
    (hl : zs.length ≤ 9223372036854775807) (hT : Tab w ad zs) (hR : gate (plainE (N : Int) f d p r dr o sl md fr zs) (3 * (f + 1)) = (R : Int)) (hL : gate (plainE (N : Int) f d p r dr o sl md fr zs) (3 * (f + 1) * d) = (L : Int)) (hR15 : R ≤ 15) (hL60 : L ≤ 60) (hLD : L = R * D)
    (hd : d = (D : Int)) (hD1 : 1 ≤ D) (hD4 : D ≤ 4) (htk : ticks ≤ 5000) (hN1 : 1 ≤ N) (hN : N ≤ 13) (hpp : p ≤ 400)
    (hp : pipes.length = N) (hV1 : kStr.Lies w.heap.size w (.slice a1 N c1) pipes) (hz1 : ∀ t ∈ pipes, t.size ≤ 9223372036854775807) (hsl : since.length = N) (hV2 : kInt.Lies w.heap.size w (.slice a2 N c2) since) (hz2 : ∀ z ∈ since, -9223372036854775808 ≤ z ∧ z ≤ 9223372036854775807)
    (hfl : fs.length ≤ 9223372036854775807) (hV3 : kInt.Lies w.heap.size w (.slice a3 fs.length c3) fs) (hll : lies.length ≤ 9223372036854775807) (hV4 : kStr.Lies w.heap.size w (.slice a4 lies.length c4) lies) (hz4 : ∀ t ∈ lies, t.size ≤ 9223372036854775807) :
    Calls Try.prog 12 #[.agg #[.int .i64 (N : Int), .int .i64 f, .int .i64 d, .int .i64 p, .int .i64 r, .int .i64 dr, .int .i64 o, .int .i64 sl, .int .i64 md, .int .i64 fr, .slice ad zs.length cap, .slice a1 N c1, .slice a2 N c2, .slice a3 fs.length c3, .slice a4 lies.length c4], .int .i64 (ticks : Int)] w fun e w' => ∃ a c, e = .returned (.slice a ticks c) ∧ kStr.Lies w'.heap.size w' (.slice a ticks c) (runQ N f d p r dr o sl md fr ad cap zs D L R (faI fs) lies pipes since ticks).out ∧ Below w.heap.size w w' := by
  refine runs_walk N f d p r dr o sl md fr ad cap zs D ticks fs.length lies.length a1 c1 pipes a2 c2 since a3 c3 a4 c4 w (faI fs) (runQ N f d p r dr o sl md fr ad cap zs D L R (faI fs) lies pipes since)
    (fun t => tkP N f d p r dr o sl md fr ad cap zs D L (faI fs) lies (runQ N f d p r dr o sl md fr ad cap zs D L R (faI fs) lies pipes since t) t) (fun t => tkS N f d p r dr o sl md fr ad cap zs D L (faI fs) lies (runQ N f d p r dr o sl md fr ad cap zs D L R (faI fs) lies pipes since t) t)
    (fun t i => stpR (N : Int) f d p r dr o sl md fr ad cap zs D L (votesQ (faI fs) lies N D (runQ N f d p r dr o sl md fr ad cap zs D L R (faI fs) lies pipes since t).told t i) (wellL L ((runQ N f d p r dr o sl md fr ad cap zs D L R (faI fs) lies pipes since t).ps.getD i noB)) ((runQ N f d p r dr o sl md fr ad cap zs D L R (faI fs) lies pipes since t).ss.getD i 0) 0)
    (fun t => tkE N f d p r dr o sl md fr ad cap zs D L (faI fs) lies (runQ N f d p r dr o sl md fr ad cap zs D L R (faI fs) lies pipes since t) t) (fun t => tkT N f d p r dr o sl md fr ad cap zs D L R (faI fs) lies (runQ N f d p r dr o sl md fr ad cap zs D L R (faI fs) lies pipes since t) t)
    (fun t i k => voteQ (faI fs) lies N D (runQ N f d p r dr o sl md fr ad cap zs D L R (faI fs) lies pipes since t).told t i k) (fun t k i => lieQ lies N t k i) lies fs hd hD1 hD4 htk hN1 hN hp hV1 hsl hV2 hT hV3 hV4 rfl (fun t => rfl)
    (fun t i k h => if_pos h) (fun t i k h1 h2 => if_neg (by rw [h2]; simp; omega)) ?_ ?_ ?_ ?_
  · intro t i ht hi V a c hTV hv
    have hlen : (votesQ (faI fs) lies N D (runQ N f d p r dr o sl md fr ad cap zs D L R (faI fs) lies pipes since t).told t i).length = N := votesQ_len _ _ _ _ _ _ _
    have z := BStep_any (N : Int) f d p r dr o sl md fr ad cap zs R D L ((runQ N f d p r dr o sl md fr ad cap zs D L R (faI fs) lies pipes since t).ps.getD i noB) (run_ps_size hL60 hz1 t i hi) ((runQ N f d p r dr o sl md fr ad cap zs D L R (faI fs) lies pipes since t).ss.getD i 0) 0 (run_ss_bd (by omega) hz2 i hi t) (by decide) a c (votesQ (faI fs) lies N D (runQ N f d p r dr o sl md fr ad cap zs D L R (faI fs) lies pipes since t).told t i) V hl hTV hR hL hR15 hL60 hLD (.inr ⟨hd, hD1, hD4⟩) (by rw [hlen]; omega) (by rw [hlen]; exact hv) (by
      intro s hs
      obtain ⟨k, _, rfl⟩ := List.mem_map.1 hs
      exact run_vote_size hR15 hz4 hD1 t i k)
    rw [hlen] at z
    exact z
  · intro t i ht hi V hTV
    exact Tell_any (N : Int) f d p r dr o sl md fr ad cap zs R D L (tkP N f d p r dr o sl md fr ad cap zs D L (faI fs) lies (runQ N f d p r dr o sl md fr ad cap zs D L R (faI fs) lies pipes since t) t i) (by unfold tkP; rw [ba_size, stpL_len, wellL_len]; omega) V hl hTV hR hL hR15 hL60 hLD (.inr ⟨hd, hD1, hD4⟩)
  · intro t k i ht hk hi V hv
    exact lie_any N f d p r dr o sl md fr ad cap zs a1 N c1 a2 N c2 a3 fs.length c3 a4 c4 lies ((t : Int) - d) t k i (by omega) (by omega) hN (by omega) (by omega) hll V hv
  · intro k hk V hv
    exact rIn_any (k : Int) a3 c3 fs hfl V hv
end Go.Proofs.Ytohgmliafidalaa

/- The fixed calls of the statements on package pipe come out as they must, and make at most new memory; no conditions. -/
namespace Go.Proofs.Ytohgmliafidalaa
open Go.ChangeShapes Go.WideShapes Go.ChangeAt Go.RowKit
set_option linter.unusedVariables false

theorem pval_s {a b : ByteArray} (h : a = b) : Value.string a = .string b := by rw [h]
theorem pval_t {a b : ByteArray} {i j : Int} (h : a = b) (k : i = j) : Value.tuple #[.string a, .int .i64 i] = .tuple #[.string b, .int .i64 j] := by rw [h, k]
theorem hrdF_small (ad : Option Addr) (votes : List ByteArray) : hrdF 4 1 1 20 64 1 64 190 10 3 ad 4 [0, 1, 2, 3] votes = hrdB 0 4 1 votes := by
  funext x b
  unfold hrdF
  rw [plainE_small]
theorem blank_small17 : ba (zerL 6) = ⟨#[48, 48, 48, 48, 48, 48]⟩ := by decide +kernel
theorem tell_small17 : dgB 6 (valG (ba (tellL 1 (wellL 6 ⟨#[48, 49, 51, 52, 53, 50]⟩) 6))) = ⟨#[48, 49, 48, 49, 50, 50]⟩ := by decide +kernel
theorem begin_small17 : ba ((wellL 6 ⟨#[50, 50, 50, 50, 50, 50]⟩).set 0 (begC8 1)) = ⟨#[49, 50, 50, 50, 50, 50]⟩ := by decide +kernel
theorem move_small17 : ba (newL (hrdB 0 4 1 [⟨#[49, 49, 49, 49, 49, 49]⟩, ⟨#[49, 49, 49, 49, 49, 49]⟩, ⟨#[49, 49, 49, 49, 49, 49]⟩]) 1 (wellL 6 ⟨#[48, 48, 48, 48, 48, 49]⟩)) = ⟨#[48, 49, 52, 49, 49, 52]⟩ := by decide +kernel
theorem end_small17 : endF (newB (hrdB 0 4 1 [⟨#[49, 49, 49, 49, 49, 49]⟩, ⟨#[49, 49, 49, 49, 49, 49]⟩, ⟨#[49, 49, 49, 49, 49, 49]⟩]) 1 (wellL 6 ⟨#[48, 48, 48, 48, 48, 49]⟩) 6) = 1 := by decide +kernel
theorem move17_any (g : Nat) (a2 : Option Addr) (w : World) (hT : Tab w (some ⟨g, 0, none⟩) [0, 1, 2, 3]) (hV : kStr.Lies w.heap.size w (.slice a2 3 3) [⟨#[49, 49, 49, 49, 49, 49]⟩, ⟨#[49, 49, 49, 49, 49, 49]⟩, ⟨#[49, 49, 49, 49, 49, 49]⟩]) :
    Calls Try.prog 78 #[.agg #[.int .i64 4, .int .i64 1, .int .i64 1, .int .i64 20, .int .i64 64, .int .i64 1, .int .i64 64, .int .i64 190, .int .i64 10, .int .i64 3, .slice (some ⟨g, 0, none⟩) 4 4], .string ⟨#[48, 48, 48, 48, 48, 49]⟩, .slice a2 3 3] w fun e w' => e = .returned (.tuple #[.string ⟨#[48, 49, 52, 49, 49, 52]⟩, .int .i64 1]) ∧ Below w.heap.size w w' :=
  Calls.ret_to (Move_any 4 1 1 20 64 1 64 190 10 3 (some ⟨g, 0, none⟩) 4 [0, 1, 2, 3] 6 1 6 ⟨#[48, 48, 48, 48, 48, 49]⟩ (by decide) a2 3 [⟨#[49, 49, 49, 49, 49, 49]⟩, ⟨#[49, 49, 49, 49, 49, 49]⟩, ⟨#[49, 49, 49, 49, 49, 49]⟩] w (by decide) hT (by rw [plainE_small]; rfl) (by rw [plainE_small]; rfl) (by decide) (by decide) (by decide) (.inr ⟨rfl, by decide, by decide⟩) (by decide) hV (by decide))
    (by rw [hrdF_small]; exact pval_t move_small17 end_small17)
end Go.Proofs.Ytohgmliafidalaa

/- The calls rowOf, ends and begin of package beat make, read and turn a row of ends; conditions: the table lies where it says, lengths fit int, the row is a block of its own. -/
namespace Go.Proofs.Ytohgmliafidalaa
open Go.ChangeShapes Go.WideShapes Go.ChangeAt Go.RowKit
set_option linter.unusedVariables false
attribute [local go_sem] cell_rg

/-- What comes of what was on its way: Since and ends, tick by tick. -/
def alL (P : Int) (L : Nat) (s0 : Int) (pend : Nat → Bool) : Nat → List Int
  | 0 => [s0]
  | k + 1 => alL P L s0 pend k ++ [nxF P ((alL P L s0 pend k).getD k 0) (if k < L then pend k else bgF P L ((alL P L s0 pend k).getD (k - L + 1) 0))]
def sF (P : Int) (L : Nat) (s0 : Int) (pend : Nat → Bool) (k : Nat) : Int := (alL P L s0 pend k).getD k 0
def eF (P : Int) (L : Nat) (s0 : Int) (pend : Nat → Bool) (k : Nat) : Bool := if k < L then pend k else bgF P L (sF P L s0 pend (k - L + 1))
section
variable {P : Int} {L : Nat} {s0 : Int} {pend : Nat → Bool}
theorem alL_len : ∀ k, (alL P L s0 pend k).length = k + 1
  | 0 => rfl
  | k + 1 => by
    show (alL P L s0 pend k ++ [_]).length = _
    rw [List.length_append, alL_len k]
    rfl
theorem alL_at (j : Nat) : ∀ k, j ≤ k → (alL P L s0 pend k).getD j 0 = sF P L s0 pend j
  | 0, h => by
    obtain rfl : j = 0 := by omega
    rfl
  | k + 1, h => by
    by_cases e : j = k + 1
    · subst e
      rfl
    · rw [← alL_at j k (by omega)]
      show (alL P L s0 pend k ++ [_]).getD j 0 = _
      rw [List.getD_eq_getElem?_getD, List.getElem?_append_left (by rw [alL_len]; omega), List.getD_eq_getElem?_getD]
theorem sF_0 : sF P L s0 pend 0 = s0 := rfl
theorem sF_s (hL : 1 ≤ L) (k : Nat) : sF P L s0 pend (k + 1) = nxF P (sF P L s0 pend k) (eF P L s0 pend k) := by
  have h : sF P L s0 pend (k + 1) = nxF P ((alL P L s0 pend k).getD k 0) (if k < L then pend k else bgF P L ((alL P L s0 pend k).getD (k - L + 1) 0)) := by
    show (alL P L s0 pend k ++ [_]).getD (k + 1) 0 = _
    rw [List.getD_eq_getElem?_getD, List.getElem?_append_right (by rw [alL_len]; omega), alL_len, Nat.sub_self]
    rfl
  rw [h, alL_at k k (Nat.le_refl _)]
  unfold eF
  by_cases hk : k < L
  · rw [if_pos hk, if_pos hk]
  · rw [if_neg hk, if_neg hk, alL_at _ k (by omega)]
end
/-- The row of ends behind k ticks. -/
def rgV (P : Int) (L : Nat) (s0 : Int) (pend : Nat → Bool) (k j : Nat) : Bool := if j < k then bgF P L (sF P L s0 pend (k - 1 - (k - 1 - j) % L + 1)) else pend j
def rgL (P : Int) (L : Nat) (s0 : Int) (pend : Nat → Bool) (k : Nat) : List Bool := (List.range L).map (rgV P L s0 pend k)
section
variable {P : Int} {L : Nat} {s0 : Int} {pend : Nat → Bool}
theorem rgL_len (k : Nat) : (rgL P L s0 pend k).length = L := by simp [rgL]
theorem rgL_at (k : Nat) {j : Nat} (hj : j < L) : (rgL P L s0 pend k).getD j false = rgV P L s0 pend k j := by
  rw [List.getD_eq_getElem?_getD]
  simp [rgL, hj]
theorem rg_now (hL : 1 ≤ L) (k : Nat) : (rgL P L s0 pend k).getD (k % L) false = eF P L s0 pend k := by
  have hm := Nat.mod_lt k (show 0 < L by omega)
  rw [rgL_at k hm]
  unfold rgV eF
  by_cases hk : k < L
  · rw [Nat.mod_eq_of_lt hk, if_neg (by omega), if_pos hk]
  · have hd := Nat.div_add_mod k L
    have h1 : k % L < k := by omega
    rw [if_pos h1, if_neg hk]
    congr 2
    have hq : 1 ≤ k / L := Nat.div_pos (by omega) (by omega)
    obtain ⟨q, hqq⟩ : ∃ q, k / L = q + 1 := ⟨k / L - 1, by omega⟩
    rw [hqq, Nat.mul_add, Nat.mul_one] at hd
    have e : k - 1 - k % L = (L - 1) + L * q := by omega
    rw [e, Nat.add_mul_mod_self_left, Nat.mod_eq_of_lt (by omega)]
    omega
theorem rg_next (hL : 1 ≤ L) (k : Nat) : (rgL P L s0 pend k).set (k % L) (bgF P L (sF P L s0 pend (k + 1))) = rgL P L s0 pend (k + 1) := by
  have hm := Nat.mod_lt k (show 0 < L by omega)
  apply List.ext_getElem
  · rw [List.length_set, rgL_len, rgL_len]
  · intro j h1 h2
    have hj : j < L := by rw [List.length_set, rgL_len] at h1; exact h1
    have hd := Nat.div_add_mod k L
    rw [List.getElem_set]
    have g2 : (rgL P L s0 pend (k + 1))[j] = rgV P L s0 pend (k + 1) j := by
      have := rgL_at (P := P) (s0 := s0) (pend := pend) (k + 1) hj
      rw [List.getD_eq_getElem?_getD, List.getElem?_eq_getElem h2] at this
      exact this
    rw [g2]
    by_cases e : k % L = j
    · rw [if_pos e]
      unfold rgV
      rw [if_pos (by have := Nat.mod_le k L; omega)]
      congr 2
      have e2 : (k + 1 - 1 - j) % L = 0 := by
        rw [Nat.add_sub_cancel, ← e, show k - k % L = L * (k / L) by omega, Nat.mul_mod_right]
      rw [e2]
      omega
    · rw [if_neg e]
      have h3 : j < (rgL P L s0 pend k).length := by rw [rgL_len]; exact hj
      have g1 : (rgL P L s0 pend k)[j] = rgV P L s0 pend k j := by
        have := rgL_at (P := P) (s0 := s0) (pend := pend) k hj
        rw [List.getD_eq_getElem?_getD, List.getElem?_eq_getElem h3] at this
        exact this
      rw [g1]
      unfold rgV
      by_cases hk : j < k
      · rw [if_pos hk, if_pos (by omega)]
        congr 2
        have h4 : (k - j) % L ≠ 0 := by
          intro h0
          have h5 := Nat.div_add_mod (k - j) L
          rw [h0, Nat.add_zero] at h5
          have h6 : k = j + L * ((k - j) / L) := by omega
          have h7 : k % L = j := by
            rw [h6, Nat.add_mul_mod_self_left, Nat.mod_eq_of_lt hj]
          exact e h7
        have h8 : (k - j) % L = (k - 1 - j) % L + 1 := by
          have h9 := Nat.div_add_mod (k - 1 - j) L
          have h10 := Nat.mod_lt (k - 1 - j) (show 0 < L by omega)
          have h11 : k - j = (k - 1 - j) % L + 1 + L * ((k - 1 - j) / L) := by omega
          by_cases h12 : (k - 1 - j) % L + 1 < L
          · rw [h11, Nat.add_mul_mod_self_left, Nat.mod_eq_of_lt h12]
          · exfalso
            apply h4
            rw [h11, Nat.add_mul_mod_self_left, show (k - 1 - j) % L + 1 = L by omega, Nat.mod_self]
        have h13 := Nat.mod_le (k - 1 - j) L
        rw [show k + 1 - 1 - j = k - j by omega, h8]
        omega
      · rw [if_neg hk, if_neg (by
          intro h4
          have : j = k := by omega
          subst this
          exact e (Nat.mod_eq_of_lt hj))]
end
end Go.Proofs.Ytohgmliafidalaa

/- The calls rowOf, ends and begin of package beat make, read and turn a row of ends; conditions: the table lies where it says, lengths fit int, the row is a block of its own. -/
namespace Go.Proofs.Ytohgmliafidalaa
open Go.ChangeShapes Go.WideShapes Go.ChangeAt Go.RowKit
set_option linter.unusedVariables false
attribute [local go_sem] cell_rg

/-- A row of bools that is a block of its own. -/
def bolV (l : List Bool) : Array Value := (l.map Value.bool).toArray
def LBlk (W : World) (g : Nat) (l : List Bool) : Prop := W.heap[g]? = some (.cells (bolV l) 4 (0, 0))
theorem bolV_at (l : List Bool) (i : Nat) (h : i < l.length) : (bolV l)[i]? = some (.bool (l.getD i false)) := by
  rw [List.getD_eq_getElem?_getD, List.getElem?_eq_getElem h, Option.getD_some]
  simp [bolV, h]
theorem bolV_set (l : List Bool) (i : Nat) (b : Bool) : (bolV l).setIfInBounds i (.bool b) = bolV (l.set i b) := by
  apply Array.ext'
  simp only [bolV, Array.toList_setIfInBounds, List.map_set]
theorem bolV_made (n : Nat) : madeCells #[Value.bool false] n = bolV (List.replicate n false) := by
  have h := toList_madeCells_one (Value.bool false) n
  apply Array.ext'
  rw [h]
  simp [bolV]
theorem infoBol : (Try.prog.info? 4).map (fun i => (i.zero, i.size, i.bytes)) = some (some (.bool false), 1, 1) := by kernel_rfl
theorem make_bols (n : Nat) (hn : n ≤ 100000) (w : World) : (Instr.makeSlice 93 (.int .i64 (n : Int)) (.int .i64 (n : Int))).run Try.prog w = .ok (.slice (some ⟨w.heap.size, 0, none⟩) n n) (w.alloc (.cells (bolV (List.replicate n false)) 4)) := by
  rw [← bolV_made]
  exact run_make_row' 93 4 (.bool false) 1 Try.underlying93 infoBol rfl .i64 .i64 n (by omega) (by omega) w
theorem LBlk.lt {W : World} {g : Nat} {l : List Bool} (h : LBlk W g l) : g < W.heap.size := (Array.getElem?_eq_some_iff.1 h).1
theorem LBlk.later {W W' : World} {g : Nat} {l : List Bool} (h : LBlk W g l) (hb : Below W.heap.size W W') : LBlk W' g l := (hb.block g h.lt).trans h
theorem LBlk.cell {W : World} {g : Nat} {l : List Bool} (h : LBlk W g l) (i : Nat) (hi : i < l.length) : W.cell? ⟨g, i, none⟩ = some (.bool (l.getD i false)) := by
  rw [← bolV_at l i hi]
  simp [World.cell?, show W.heap[g]? = _ from h]
theorem LBlk.open {W : World} {g : Nat} {l : List Bool} (h : LBlk W g l) (i : Nat) : W.frozen? ⟨g, i, none⟩ = false := by
  simp [World.frozen?, show W.heap[g]? = _ from h]
theorem LBlk.set {W : World} {g : Nat} {l : List Bool} (h : LBlk W g l) (i : Nat) (b : Bool) : LBlk (W.setCell ⟨g, i, none⟩ (.bool b)) g (l.set i b) := by
  have := heap_setCell_same W g i _ _ (.bool b) h
  rw [bolV_set] at this
  exact this
theorem LBlk.other {W : World} {g : Nat} {l : List Bool} (h : LBlk W g l) (a : Addr) (v : Value) (ha : g ≠ a.block) : LBlk (W.setCell a v) g l := (heap_setCell_other W a g v ha).trans h
/-- What is on its way, byte by byte. -/
def penF (s : ByteArray) (j : Nat) : Bool := if h : j < s.size then ((s[j]'h).toNat : Int) == 49 else false
theorem pen_fill (s : ByteArray) (L M : Nat) (hM : M = L ∨ M = s.size) (hML : M ≤ L) : fillL false L (penF s) M = (List.range L).map (penF s) := by
  unfold fillL
  apply List.map_congr_left
  intro j hj
  have hj := List.mem_range.1 hj
  by_cases h : j < M
  · rw [if_pos h]
  · rw [if_neg h]
    unfold penF
    rw [dif_neg (by omega)]
theorem rg_0 (P : Int) (L : Nat) (s0 : Int) (s : ByteArray) : rgL P L s0 (penF s) 0 = (List.range L).map (penF s) := by
  unfold rgL
  apply List.map_congr_left
  intro j _
  unfold rgV
  rw [if_neg (by omega)]

theorem read2B {w : World} {b : Nat} {z0 z1 : Value} {t : TypeId} (h : w.heap[b]? = some (.cells #[z0, z1] t (0, 0))) (v0 v1 : Value) :
    ((w.setCell ⟨b, 0, none⟩ v0).setCell ⟨b, 1, none⟩ v1).cell? ⟨b, 0, none⟩ = some v0 ∧ ((w.setCell ⟨b, 0, none⟩ v0).setCell ⟨b, 1, none⟩ v1).cell? ⟨b, 1, none⟩ = some v1 := by
  have h1 := heap_setCell_same _ b 0 _ _ v0 h
  have h2 := heap_setCell_same _ b 1 _ _ v1 h1
  constructor <;> (simp only [World.cell?, h2]; rfl)
set_option maxHeartbeats 2000000 in
theorem rowOf_any (n f d p r dr o sl md fr : Int) (ad : Option Addr) (cap : Nat) (zs : List Int) (L : Nat) (s : ByteArray) (hs : s.size ≤ 9223372036854775807) (w : World) (hl : zs.length ≤ 9223372036854775807) (hT : Tab w ad zs) (hL : gate (plainE n f d p r dr o sl md fr zs) (3 * (f + 1) * d) = (L : Int)) (hL60 : L ≤ 60) :
    Calls Try.prog 80 #[.agg #[.int .i64 n, .int .i64 f, .int .i64 d, .int .i64 p, .int .i64 r, .int .i64 dr, .int .i64 o, .int .i64 sl, .int .i64 md, .int .i64 fr, .slice ad zs.length cap], .string s] w fun e w' => ∃ g, e = .returned (.agg #[.slice (some ⟨g, 0, none⟩) L L, .int .i64 0]) ∧ LBlk w' g ((List.range L).map (penF s)) ∧ w.heap.size ≤ g ∧ Below w.heap.size w w' := by
  have HB0 := hidden (bthen (ballc w (.cells #[.int .i64 n, .int .i64 f, .int .i64 d, .int .i64 p, .int .i64 r, .int .i64 dr, .int .i64 o, .int .i64 sl, .int .i64 md, .int .i64 fr, .slice ad zs.length cap] 24)) (ballc _ (.cells #[.slice none 0 0, .int .i64 0] 95)))
  have HT := hidden (hT.below HB0.out)
  have CL := hidden (fun V h => Length_any n f d p r dr o sl md fr ad cap zs V hl h)
  rw [hL] at CL
  have HK := hidden (blk_newAt (w.alloc (.cells #[.int .i64 n, .int .i64 f, .int .i64 d, .int .i64 p, .int .i64 r, .int .i64 dr, .int .i64 o, .int .i64 sl, .int .i64 md, .int .i64 fr, .slice ad zs.length cap] 24)) #[.slice none 0 0, .int .i64 0] 95 (b := w.heap.size + 1) (by simp))
  have hmk := fun V => make_bols L (by omega) V
  clear hT hL
  obtain ⟨M, hmn, hML, hMs, hMor⟩ : ∃ M : Nat, min (L : Int) (s.size : Int) = (M : Int) ∧ M ≤ L ∧ M ≤ s.size ∧ (M = L ∨ M = s.size) := ⟨min L s.size, by omega, by omega, by omega, by omega⟩
  have HFL := hidden (pen_fill s L M hMor hML)
  clear hMor
  go_enter Try.func80, Try.ntmps80
  go_wp2_with fail
  refine (CL.out _ HT.out).mono ?_
  rintro e w2 ⟨rfl, hb⟩
  have HB2 := hidden (bthen HB0.out hb)
  have HK2 := hidden (blk_later HK.out hb)
  clear hb HT HK CL
  have HR2 := hidden (blk_later HK2.out (ballc w2 (.cells (bolV (List.replicate L false)) 4)))
  have HL2 : Hid (LBlk (w2.alloc (.cells (bolV (List.replicate L false)) 4)) w2.heap.size (fillL false L (penF s) 0)) := by
    show LBlk _ _ _
    rw [fillL_0]
    exact blk_nw w2 _ _
  have HB3 := hidden (bthen HB2.out (ballc w2 (.cells (bolV (List.replicate L false)) 4)))
  have hw2 : w.heap.size + 1 < w2.heap.size := blk_lt HK2.out
  clear HK2
  go_wp2
  clear hmk
  generalize w2.alloc (.cells (bolV (List.replicate L false)) 4) = W0 at *
  go_loopw [15] (fun i wr => ∃ k : Nat, k ≤ M ∧ i = .int .i64 k ∧ LBlk wr w2.heap.size (fillL false L (penF s) k) ∧ wr.heap[w.heap.size + 1]? = some (.cells #[.slice none 0 0, .int .i64 0] 95 (0, 0)) ∧ Below w.heap.size w wr) (fun i _ => M - (intV i).toNat)
  case atStart => exact ⟨0, Nat.zero_le _, rfl, HL2.out, HR2.out, HB3.out⟩
  case round =>
    obtain ⟨k, hk, rfl, hX, hR, hB⟩ := hrel
    clear HL2 HR2 HB3
    have HX := hidden hX
    have HR := hidden hR
    have HB := hidden hB
    by_cases hlt : k < M
    · have i1 : (0 : Int) ≤ (k : Int) := by omega
      have i2 : (k : Int) < (M : Int) := by omega
      have i3 : (k : Int) < (L : Int) := by omega
      have hj : k < s.size := by omega
      have i4 : (k : Int) < (s.size : Int) := by omega
      have HS : Hid ((fillL false L (penF s) k).set k (penF s k) = fillL false L (penF s) (k + 1)) := fillL_set false L (penF s) k (by omega)
      have HPN : Hid (penF s k = (((s[k]'hj).toNat : Int) == 49)) := dif_pos hj
      have c0 := hX.cell k (by rw [fillL_len]; omega)
      have f0 := hX.open k
      have l0 := hX.lt
      clear hX hR hB
      generalize (fillL false L (penF s) k).getD k false = y at *
      go_wp2
      have hset := HX.out.set k (penF s k)
      rw [HS.out, HPN.out] at hset
      go_roundw
      case rel => exact ⟨k + 1, by omega, by go_num, hset, (heap_setCell_other _ _ _ _ (by simp; omega)).trans HR.out, HB.out.setCell (p := ⟨w2.heap.size, k, none⟩) (by simp; omega) _⟩
      case measure => simp [intV]; omega
    · obtain rfl : k = M := by omega
      have i2 : ¬ (k : Int) < (k : Int) := by omega
      rw [HFL.out] at hX
      have HX := hidden hX
      have c0 := blk_cell hR
      have f0 := blk_frozen hR
      have l0 := blk_lt hR
      have h2 := hX.lt
      clear hX hR hB
      go_wp2
      obtain ⟨r0, r1⟩ := read2B HR.out (.slice (some ⟨w2.heap.size, 0, none⟩) L L) (.int .i64 0)
      exact bodyPost_ret (v := .agg #[.slice (some ⟨w2.heap.size, 0, none⟩) L L, .int .i64 0]) (by simp [results, Try.results80, go_sem, r0, r1]) rfl ⟨w2.heap.size, rfl, (HX.out.other ⟨w.heap.size + 1, 0, none⟩ _ (by simp; omega)).other ⟨w.heap.size + 1, 1, none⟩ _ (by simp; omega), by omega, (HB.out.setCell (p := ⟨w.heap.size + 1, 0, none⟩) (by simp) _).setCell (p := ⟨w.heap.size + 1, 1, none⟩) (by simp) _⟩
end Go.Proofs.Ytohgmliafidalaa

/- The calls ends, begin and tick of package beat read and turn a row of ends, and what stands around it; conditions: the table lies where it says, the row and what stands around it are blocks of their own. -/
namespace Go.Proofs.Ytohgmliafidalaa
open Go.ChangeShapes Go.WideShapes Go.ChangeAt Go.RowKit
set_option linter.unusedVariables false
attribute [local go_sem] cell_rg

/-- All but two blocks stays. -/
structure Two2 (b g : Nat) (X Y : World) : Prop where
  os : Y.os = X.os
  tape : Y.tape = X.tape
  output : Y.output = X.output
  size : X.heap.size ≤ Y.heap.size
  block : ∀ k, k < X.heap.size → k ≠ b → k ≠ g → Y.heap[k]? = X.heap[k]?
theorem Two2.of_below {b g : Nat} {X Y : World} (h : Below X.heap.size X Y) : Two2 b g X Y := ⟨h.os, h.tape, h.output, h.size, fun k hk _ _ => h.block k hk⟩
theorem Two2.trans {b g : Nat} {X Y Z : World} (h : Two2 b g X Y) (k : Two2 b g Y Z) : Two2 b g X Z := ⟨k.os.trans h.os, k.tape.trans h.tape, k.output.trans h.output, Nat.le_trans h.size k.size, fun i hi h1 h2 => (k.block i (Nat.lt_of_lt_of_le hi h.size) h1 h2).trans (h.block i hi h1 h2)⟩
theorem Two2.below {b g : Nat} {X Y Z : World} (h : Two2 b g X Y) (k : Below Y.heap.size Y Z) : Two2 b g X Z := h.trans (Two2.of_below k)
theorem Two2.setB {b g : Nat} {X Y : World} (h : Two2 b g X Y) (i : Nat) (v : Value) : Two2 b g X (Y.setCell ⟨b, i, none⟩ v) := ⟨h.os, h.tape, h.output, by simpa using h.size, fun k hk h1 h2 => (heap_setCell_other _ _ _ _ h1).trans (h.block k hk h1 h2)⟩
theorem Two2.setG {b g : Nat} {X Y : World} (h : Two2 b g X Y) (i : Nat) (v : Value) : Two2 b g X (Y.setCell ⟨g, i, none⟩ v) := ⟨h.os, h.tape, h.output, by simpa using h.size, fun k hk h1 h2 => (heap_setCell_other _ _ _ _ h2).trans (h.block k hk h1 h2)⟩
theorem Two2.drew {b g : Nat} {X Y : World} (h : Two2 b g X Y) : Two2 b g X Y.drew := ⟨h.os, h.tape, h.output, h.size, h.block⟩
theorem Two2.refl (b g : Nat) (X : World) : Two2 b g X X := ⟨rfl, rfl, rfl, Nat.le_refl _, fun _ _ _ _ => rfl⟩
theorem Two2.blk {b g k : Nat} {X Y : World} {o : Obj} (h : Two2 b g X Y) (hk : X.heap[k]? = some o) (h1 : k ≠ b) (h2 : k ≠ g) : Y.heap[k]? = some o := (h.block k (blk_lt hk) h1 h2).trans hk
theorem Two2.to_below {b g n : Nat} {X Y : World} (h : Two2 b g X Y) (hb : n ≤ b) (hg : n ≤ g) (hn : n ≤ X.heap.size) : Below n X Y := ⟨h.os, h.tape, h.output, h.size, fun k hk => h.block k (by omega) (by omega) (by omega)⟩

set_option maxHeartbeats 1000000 in
theorem ends_any (B g L now : Nat) (ps : List Bool) (t0 : TypeId) (C : Array Value) (w : World) (hB : w.heap[B]? = some (.cells C t0 (0, 0))) (h0 : C[0]? = some (.slice (some ⟨g, 0, none⟩) L L)) (h1 : C[1]? = some (.int .i64 (now : Int))) (hg : LBlk w g ps) (hL : ps.length = L) (hn : now < L) :
    Calls Try.prog 112 #[.pointer (some ⟨B, 0, none⟩)] w fun e w' => e = .returned (.bool (ps.getD now false)) ∧ Below w.heap.size w w' := by
  have c0 : w.cell? ⟨B, 0, none⟩ = some (.slice (some ⟨g, 0, none⟩) L L) := (blk_cell hB 0).trans h0
  have c1 : w.cell? ⟨B, 1, none⟩ = some (.int .i64 (now : Int)) := (blk_cell hB 1).trans h1
  have c2 := hg.cell now (by omega)
  have i1 : (0 : Int) ≤ (now : Int) := by omega
  have i2 : (now : Int) < (L : Int) := by omega
  clear hB h0 h1 hg hL
  generalize ps.getD now false = b at *
  go_enter Try.func112, Try.ntmps112
  go_wp2
  go_region
  all_goals
    go_wp2
    go_ret
    exact ⟨rfl, (Below.refl _ _).drew⟩
set_option maxHeartbeats 1000000 in
theorem begin_any (B g L now : Nat) (hBg : B ≠ g) (bit : Int) (ps : List Bool) (t0 : TypeId) (C : Array Value) (w : World) (hB : w.heap[B]? = some (.cells C t0 (0, 0))) (h0 : C[0]? = some (.slice (some ⟨g, 0, none⟩) L L)) (h1 : C[1]? = some (.int .i64 (now : Int))) (hg : LBlk w g ps) (hL : ps.length = L) (hL60 : L ≤ 60) (hn : now < L) :
    Calls Try.prog 113 #[.pointer (some ⟨B, 0, none⟩), .int .i64 bit] w fun e w' => e = .returned (.tuple #[]) ∧ w'.heap[B]? = some (.cells (C.setIfInBounds 1 (.int .i64 (((now + 1) % L : Nat) : Int))) t0 (0, 0)) ∧ LBlk w' g (ps.set now (bit == 1)) ∧ Two2 B g w w' := by
  have c0 : w.cell? ⟨B, 0, none⟩ = some (.slice (some ⟨g, 0, none⟩) L L) := (blk_cell hB 0).trans h0
  have c1 : w.cell? ⟨B, 1, none⟩ = some (.int .i64 (now : Int)) := (blk_cell hB 1).trans h1
  have f1 := blk_frozen hB 1
  have lB := blk_lt hB
  have c2 := hg.cell now (by omega)
  have f2 := hg.open now
  have lg := hg.lt
  have i1 : (0 : Int) ≤ (now : Int) := by omega
  have i2 : (now : Int) < (L : Int) := by omega
  have i3 : ¬ (L : Int) = 0 := by omega
  have i4 : (0 : Int) < (L : Int) := by omega
  have t1 : IntKind.i64.wrap ((now : Int) + 1) = (now : Int) + 1 := IntWalk.i64_in _ (by omega)
  have t2 : ((now : Int) + 1).tmod (L : Int) = (((now + 1) % L : Nat) : Int) := by
    rw [Int.tmod_eq_emod_of_nonneg (by omega)]
    simp
  have t3 : IntKind.i64.wrap ((((now + 1) % L : Nat) : Int)) = (((now + 1) % L : Nat) : Int) := IntWalk.i64_in _ (by have := Nat.mod_lt (now + 1) (show 0 < L by omega); omega)
  have HB := hidden hB
  have HG := hidden hg
  clear hB h0 h1 hg hL
  generalize ps.getD now false = b at *
  generalize hnx : (now + 1) % L = nx at *
  clear hnx
  go_enter Try.func113, Try.ntmps113
  go_wp2
  go_region
  go_wp2
  go_region
  go_wp2
  have hb1 := heap_setCell_same (w.setCell ⟨g, now, none⟩ (.bool (bit == 1))) B 1 C t0 (.int .i64 (nx : Int)) ((heap_setCell_other _ _ _ _ hBg).trans HB.out)
  have hg1 := (HG.out.set now (bit == 1)).other ⟨B, 1, none⟩ (.int .i64 (nx : Int)) (fun e => hBg e.symm)
  refine bodyPost_end (results_none rfl _ _ _) rfl ⟨rfl, hb1, hg1, ((((Two2.refl B g w).setG now (.bool (bit == 1))).setB 1 (.int .i64 (nx : Int))).drew).drew⟩
/-- A pulse that goes on by itself, in memory. -/
def betC (L g now : Nat) (n f d p r dr o sl md fr : Int) (ad : Option Addr) (cap : Nat) (zs : List Int) (s : Int) : Array Value := #[.slice (some ⟨g, 0, none⟩) L L, .int .i64 (now : Int), .int .i64 n, .int .i64 f, .int .i64 d, .int .i64 p, .int .i64 r, .int .i64 dr, .int .i64 o, .int .i64 sl, .int .i64 md, .int .i64 fr, .slice ad zs.length cap, .int .i64 s]
theorem bit_one {P L s : Int} : (bitI 0 P L s == 1) = bgF P L s := by
  unfold bitI
  rw [if_pos rfl]
  cases h : bgF P L s <;> simp

set_option maxRecDepth 100000 in
set_option maxHeartbeats 4000000 in
theorem tick_any (n f d p r dr o sl md fr : Int) (ad : Option Addr) (cap : Nat) (zs : List Int) (B g L now : Nat) (hBg : B ≠ g) (s : Int) (ps : List Bool) (w : World) (hl : zs.length ≤ 9223372036854775807) (hT : Tab w ad zs) (hE : plainE n f d p r dr o sl md fr zs = 0) (hLL : gate (plainE n f d p r dr o sl md fr zs) (3 * (f + 1) * d) = (L : Int)) (hL60 : L ≤ 60) (hs : -9223372036854775808 ≤ s ∧ s ≤ 9223372036854775807) (n0 : Nat) (hT0 : ∀ V, Below n0 w V → Tab V ad zs) (hn0 : n0 ≤ B ∧ n0 ≤ g)
    (hB : w.heap[B]? = some (.cells (betC L g now n f d p r dr o sl md fr ad cap zs s) 98 (0, 0))) (hg : LBlk w g ps) (hL : ps.length = L) (hn : now < L) :
    Calls Try.prog 81 #[.pointer (some ⟨B, 0, none⟩)] w fun e w' => e = .returned (.bool (ps.getD now false)) ∧ w'.heap[B]? = some (.cells (betC L g ((now + 1) % L) n f d p r dr o sl md fr ad cap zs (nxF p s (ps.getD now false))) 98 (0, 0)) ∧ LBlk w' g (ps.set now (bgF p L (nxF p s (ps.getD now false)))) ∧ Two2 B g w w' := by
  have CE := hidden (ends_any B g L now ps 98 _ w hB rfl rfl hg hL hn)
  have hp4 : p ≤ 400 := by obtain ⟨_, _, _, _, _, _, _, _, hp2, _⟩ := plainE_ok hE; exact hp2
  generalize ps.getD now false = e1 at *
  have CN := hidden (fun V h => BNext_any n f d p r dr o sl md fr ad cap zs s 0 e1 V hl h hs (by decide))
  have hsb := nxt1_bd (E := 0) (P := p) (b := e1) hs.2 (by omega)
  have hnx : Hid (nxt1 0 p s e1 = nxF p s e1) := if_pos rfl
  have CB := hidden (fun V h => BBit_any n f d p r dr o sl md fr ad cap zs L (nxt1 0 p s e1) V hl h hLL hL60 hsb)
  rw [hE] at CN CB
  rw [hnx.out] at CN CB
  have hbo := hidden (bit_one (P := p) (L := (L : Int)) (s := nxF p s e1))
  have CG := hidden (fun V h1 h2 => begin_any B g L now hBg (bitI 0 p L (nxF p s e1)) ps 98 (betC L g now n f d p r dr o sl md fr ad cap zs (nxF p s e1)) V h1 rfl rfl h2 hL hL60 hn)
  rw [hbo.out] at CG
  have HB := hidden hB
  have HG := hidden hg
  have HT0 := hidden hT0
  clear hbo hnx hsb hE hLL hT hT0
  generalize nxF p s e1 = s2 at *
  generalize bitI 0 p L s2 = bi at *
  generalize bgF p L s2 = bo at *
  generalize nxt2 0 p s 0 e1 = q2 at *
  go_enter Try.func81, Try.ntmps81
  go_wp2_with fail
  refine CE.out.mono ?_
  rintro e w2 ⟨rfl, hb⟩
  have HB2 := hidden (blk_later HB.out hb)
  have HG2 := hidden (HG.out.later hb)
  have HW2 := hidden hb
  have c0 := blk_cell HB2.out
  have f0 := blk_frozen HB2.out
  have l0 := blk_lt HB2.out
  have hB0 := blk_lt HB.out
  clear hb CE
  unfold betC at c0
  go_wp2
  have HD2 := hidden (show w2.drew.heap[B]? = _ from HB2.out)
  have HGD := hidden (show LBlk w2.drew g ps from HG2.out)
  have HW2t := hidden ((Two2.of_below HW2.out : Two2 B g w w2).drew)
  have HV2 := hidden (HW2t.out.to_below hn0.1 hn0.2 (show n0 ≤ w.heap.size by omega))
  have HD2 := hidden (show w2.drew.heap[B]? = _ from HB2.out)
  have HGD := hidden (show LBlk w2.drew g ps from HG2.out)
  have HW2t := hidden ((Two2.of_below HW2.out : Two2 B g w w2).drew)
  have HV2 := hidden (HW2t.out.to_below hn0.1 hn0.2 (show n0 ≤ w.heap.size by omega))
  have HD2 := hidden (show w2.drew.heap[B]? = _ from HB2.out)
  have HGD := hidden (show LBlk w2.drew g ps from HG2.out)
  have HW2t := hidden ((Two2.of_below HW2.out : Two2 B g w w2).drew)
  have HV2 := hidden (HW2t.out.to_below hn0.1 hn0.2 (show n0 ≤ w.heap.size by omega))
  have HD2 := hidden (show w2.drew.heap[B]? = _ from HB2.out)
  have HGD := hidden (show LBlk w2.drew g ps from HG2.out)
  have HW2t := hidden ((Two2.of_below HW2.out : Two2 B g w w2).drew)
  have HV2 := hidden (HW2t.out.to_below hn0.1 hn0.2 (show n0 ≤ w.heap.size by omega))
  have hmix : Try.prog.follows .mixedOrders = true := by kernel_rfl
  refine wp_region_any hmix ?_
  change wpAny _ _ _ _ _ _ _ w2.drew
  refine wpAny_take (i := 0) (v := .pointer (some ⟨B, 0, none⟩)) rfl (by kernel_rfl) (by kernel_rfl) (by kernel_rfl) (fun _ _ _ h => h) (Or.inl ⟨by rfl, fun X => by go_simp⟩) ?_
  refine wpAny_take (i := 1) (v := .pointer (some ⟨B, 0, none⟩)) rfl (by kernel_rfl) (by kernel_rfl) (by kernel_rfl) (fun _ _ _ h => h) (Or.inl ⟨by rfl, fun X => by go_simp⟩) ?_
  refine wpAny_take (i := 2) (v := .pointer (some ⟨B, 0, none⟩)) rfl (by kernel_rfl) (by kernel_rfl) (by kernel_rfl) (fun _ _ _ h => h) (Or.inl ⟨by rfl, fun X => by go_simp⟩) ?_
  refine wpAny_take (i := 3) (v := .pointer (some ⟨B, 2, none⟩)) rfl (by kernel_rfl) (by kernel_rfl) (by kernel_rfl) (fun _ _ _ h => h) (Or.inl ⟨by rfl, fun X => by go_simp⟩) ?_
  refine wpAny_take (i := 5) (v := .pointer (some ⟨B, 0, none⟩)) rfl (by kernel_rfl) (by kernel_rfl) (by kernel_rfl) (fun _ _ _ h => h) (Or.inl ⟨by rfl, fun X => by go_simp⟩) ?_
  refine wpAny_take (i := 6) (v := .pointer (some ⟨B, 0, none⟩)) rfl (by kernel_rfl) (by kernel_rfl) (by kernel_rfl) (fun _ _ _ h => h) (Or.inl ⟨by rfl, fun X => by go_simp⟩) ?_
  refine wpAny_take (i := 7) (v := .pointer (some ⟨B, 13, none⟩)) rfl (by kernel_rfl) (by kernel_rfl) (by kernel_rfl) (fun _ _ _ h => h) (Or.inl ⟨by rfl, fun X => by go_simp⟩) ?_
  refine wpAny_take (i := 9) (v := .bool e1) rfl (by kernel_rfl) (by kernel_rfl) (by kernel_rfl) (fun _ _ _ h => h) (Or.inl ⟨by rfl, fun X => by go_simp⟩) ?_
  refine wpAny_ready (rs := [4, 8]) (by kernel_rfl) (by simp) ?_
  refine AllReady.cons rfl (fun K hK => ?_) ?_
  · rw [if_pos (by rfl)]
    go_simp
    refine hK _ _ ?_
    clear hK K
    refine wpAny_ready (rs := [8]) (by kernel_rfl) (by simp) ?_
    refine AllReady.cons rfl (fun K hK => ?_) AllReady.nil
    rw [if_pos (by rfl)]
    go_simp
    refine hK _ _ ?_
    clear hK K c0 f0
    refine wpAny_ready (rs := [10]) (by kernel_rfl) (by simp) ?_
    refine AllReady.cons rfl (fun K hK => ?_) AllReady.nil
    rw [if_pos (by rfl)]
    go_simp
    refine (CN.out _ (HT0.out _ HV2.out)).mono ?_
    rintro e w3 ⟨rfl, hb3⟩
    refine hK _ _ ?_
    clear hK K
    refine wpAny_take (i := 11) (v := .tuple #[.int .i64 s2, .int .i64 q2]) rfl (by kernel_rfl) (by kernel_rfl) (by kernel_rfl) (fun _ _ _ h => h) (Or.inl ⟨by rfl, fun X => by go_simp⟩) ?_
    refine wpAny_take (i := 12) (v := .int .i64 s2) rfl (by kernel_rfl) (by kernel_rfl) (by kernel_rfl) (fun _ _ _ h => h) (Or.inl ⟨by rfl, fun X => by go_simp⟩) ?_
    refine wpAny_take (i := 13) (v := .int .i64 q2) rfl (by kernel_rfl) (by kernel_rfl) (by kernel_rfl) (fun _ _ _ h => h) (Or.inl ⟨by rfl, fun X => by go_simp⟩) ?_
    refine wpAny_take (i := 14) (v := .pointer (some ⟨B, 0, none⟩)) rfl (by kernel_rfl) (by kernel_rfl) (by kernel_rfl) (fun _ _ _ h => h) (Or.inl ⟨by rfl, fun X => by go_simp⟩) ?_
    refine wpAny_take (i := 15) (v := .pointer (some ⟨B, 13, none⟩)) rfl (by kernel_rfl) (by kernel_rfl) (by kernel_rfl) (fun _ _ _ h => h) (Or.inl ⟨by rfl, fun X => by go_simp⟩) ?_
    refine wpAny_ready (rs := [16]) (by kernel_rfl) (by simp) ?_
    have c0 := blk_cell (blk_later HD2.out hb3)
    have f0 := blk_frozen (blk_later HD2.out hb3)
    refine AllReady.cons rfl (fun K hK => ?_) AllReady.nil
    rw [if_pos (by rfl)]
    go_simp
    refine hK _ _ ?_
    clear hK K
    refine wpAny_done (by kernel_rfl) ?_ _
    clear c0 f0
    have HB4 := hidden (show (w3.setCell ⟨B, 13, none⟩ (.int .i64 s2)).drew.heap[B]? = some (.cells (betC L g now n f d p r dr o sl md fr ad cap zs s2) 98 (0, 0)) from heap_setCell_same w3 B 13 _ _ (.int .i64 s2) (blk_later HD2.out hb3))
    have HG4 := hidden (show LBlk (w3.setCell ⟨B, 13, none⟩ (.int .i64 s2)).drew g ps from (HGD.out.later hb3).other ⟨B, 13, none⟩ (.int .i64 s2) (fun e => hBg e.symm))
    have HW4 := (((HW2t.out.below hb3).setB 13 (.int .i64 s2))).drew
    have HV4 := hidden (HW4.to_below hn0.1 hn0.2 (show n0 ≤ w.heap.size by omega))
    have c0 := blk_cell HB4.out
    have f0 := blk_frozen HB4.out
    unfold betC at c0
    clear hb3
    go_wp2
    refine wp_region_any hmix ?_
    change wpAny _ _ _ _ _ _ _ (w3.setCell ⟨B, 13, none⟩ (.int .i64 s2)).drew
    generalize (w3.setCell ⟨B, 13, none⟩ (.int .i64 s2)).drew = w4 at *
    refine wpAny_take (i := 0) (v := .pointer (some ⟨B, 0, none⟩)) rfl (by kernel_rfl) (by kernel_rfl) (by kernel_rfl) (fun _ _ _ h => h) (Or.inl ⟨by rfl, fun X => by go_simp⟩) ?_
    refine wpAny_take (i := 1) (v := .pointer (some ⟨B, 0, none⟩)) rfl (by kernel_rfl) (by kernel_rfl) (by kernel_rfl) (fun _ _ _ h => h) (Or.inl ⟨by rfl, fun X => by go_simp⟩) ?_
    refine wpAny_take (i := 2) (v := .pointer (some ⟨B, 0, none⟩)) rfl (by kernel_rfl) (by kernel_rfl) (by kernel_rfl) (fun _ _ _ h => h) (Or.inl ⟨by rfl, fun X => by go_simp⟩) ?_
    refine wpAny_take (i := 3) (v := .pointer (some ⟨B, 0, none⟩)) rfl (by kernel_rfl) (by kernel_rfl) (by kernel_rfl) (fun _ _ _ h => h) (Or.inl ⟨by rfl, fun X => by go_simp⟩) ?_
    refine wpAny_take (i := 4) (v := .pointer (some ⟨B, 0, none⟩)) rfl (by kernel_rfl) (by kernel_rfl) (by kernel_rfl) (fun _ _ _ h => h) (Or.inl ⟨by rfl, fun X => by go_simp⟩) ?_
    refine wpAny_take (i := 5) (v := .pointer (some ⟨B, 2, none⟩)) rfl (by kernel_rfl) (by kernel_rfl) (by kernel_rfl) (fun _ _ _ h => h) (Or.inl ⟨by rfl, fun X => by go_simp⟩) ?_
    refine wpAny_take (i := 7) (v := .pointer (some ⟨B, 0, none⟩)) rfl (by kernel_rfl) (by kernel_rfl) (by kernel_rfl) (fun _ _ _ h => h) (Or.inl ⟨by rfl, fun X => by go_simp⟩) ?_
    refine wpAny_take (i := 8) (v := .pointer (some ⟨B, 0, none⟩)) rfl (by kernel_rfl) (by kernel_rfl) (by kernel_rfl) (fun _ _ _ h => h) (Or.inl ⟨by rfl, fun X => by go_simp⟩) ?_
    refine wpAny_take (i := 9) (v := .pointer (some ⟨B, 13, none⟩)) rfl (by kernel_rfl) (by kernel_rfl) (by kernel_rfl) (fun _ _ _ h => h) (Or.inl ⟨by rfl, fun X => by go_simp⟩) ?_
    refine wpAny_ready (rs := [6, 10]) (by kernel_rfl) (by simp) ?_
    refine AllReady.cons rfl (fun K hK => ?_) ?_
    · rw [if_pos (by rfl)]
      go_simp
      refine hK _ _ ?_
      clear hK K
      refine wpAny_ready (rs := [10]) (by kernel_rfl) (by simp) ?_
      refine AllReady.cons rfl (fun K hK => ?_) AllReady.nil
      rw [if_pos (by rfl)]
      go_simp
      refine hK _ _ ?_
      clear hK K c0 f0
      refine wpAny_ready (rs := [11]) (by kernel_rfl) (by simp) ?_
      refine AllReady.cons rfl (fun K hK => ?_) AllReady.nil
      rw [if_pos (by rfl)]
      go_simp
      refine (CB.out _ (HT0.out _ HV4.out)).mono ?_
      rintro e w5 ⟨rfl, hb5⟩
      refine hK _ _ ?_
      clear hK K
      refine wpAny_ready (rs := [12]) (by kernel_rfl) (by simp) ?_
      refine AllReady.cons rfl (fun K hK => ?_) AllReady.nil
      rw [if_pos (by rfl)]
      go_simp
      refine (CG.out _ (blk_later HB4.out hb5) (HG4.out.later hb5)).mono ?_
      rintro e w6 ⟨rfl, q1, q2, q3⟩
      have HF := hidden (And.intro q1 (And.intro q2 ((HW4.below hb5).trans q3)))
      clear q1 q2 q3 hb5
      refine hK _ _ ?_
      clear hK K
      refine wpAny_done (by kernel_rfl) ?_ _
      go_wp2
      go_ret
      exact ⟨rfl, HF.out⟩
    · refine AllReady.cons rfl (fun K hK => ?_) AllReady.nil
      rw [if_pos (by rfl)]
      go_simp
      refine hK _ _ ?_
      clear hK K
      refine wpAny_ready (rs := [6]) (by kernel_rfl) (by simp) ?_
      refine AllReady.cons rfl (fun K hK => ?_) AllReady.nil
      rw [if_pos (by rfl)]
      go_simp
      refine hK _ _ ?_
      clear hK K c0 f0
      refine wpAny_ready (rs := [11]) (by kernel_rfl) (by simp) ?_
      refine AllReady.cons rfl (fun K hK => ?_) AllReady.nil
      rw [if_pos (by rfl)]
      go_simp
      refine (CB.out _ (HT0.out _ HV4.out)).mono ?_
      rintro e w5 ⟨rfl, hb5⟩
      refine hK _ _ ?_
      clear hK K
      refine wpAny_ready (rs := [12]) (by kernel_rfl) (by simp) ?_
      refine AllReady.cons rfl (fun K hK => ?_) AllReady.nil
      rw [if_pos (by rfl)]
      go_simp
      refine (CG.out _ (blk_later HB4.out hb5) (HG4.out.later hb5)).mono ?_
      rintro e w6 ⟨rfl, q1, q2, q3⟩
      have HF := hidden (And.intro q1 (And.intro q2 ((HW4.below hb5).trans q3)))
      clear q1 q2 q3 hb5
      refine hK _ _ ?_
      clear hK K
      refine wpAny_done (by kernel_rfl) ?_ _
      go_wp2
      go_ret
      exact ⟨rfl, HF.out⟩
  · refine AllReady.cons rfl (fun K hK => ?_) AllReady.nil
    rw [if_pos (by rfl)]
    go_simp
    refine hK _ _ ?_
    clear hK K
    refine wpAny_ready (rs := [4]) (by kernel_rfl) (by simp) ?_
    refine AllReady.cons rfl (fun K hK => ?_) AllReady.nil
    rw [if_pos (by rfl)]
    go_simp
    refine hK _ _ ?_
    clear hK K c0 f0
    refine wpAny_ready (rs := [10]) (by kernel_rfl) (by simp) ?_
    refine AllReady.cons rfl (fun K hK => ?_) AllReady.nil
    rw [if_pos (by rfl)]
    go_simp
    refine (CN.out _ (HT0.out _ HV2.out)).mono ?_
    rintro e w3 ⟨rfl, hb3⟩
    refine hK _ _ ?_
    clear hK K
    refine wpAny_take (i := 11) (v := .tuple #[.int .i64 s2, .int .i64 q2]) rfl (by kernel_rfl) (by kernel_rfl) (by kernel_rfl) (fun _ _ _ h => h) (Or.inl ⟨by rfl, fun X => by go_simp⟩) ?_
    refine wpAny_take (i := 12) (v := .int .i64 s2) rfl (by kernel_rfl) (by kernel_rfl) (by kernel_rfl) (fun _ _ _ h => h) (Or.inl ⟨by rfl, fun X => by go_simp⟩) ?_
    refine wpAny_take (i := 13) (v := .int .i64 q2) rfl (by kernel_rfl) (by kernel_rfl) (by kernel_rfl) (fun _ _ _ h => h) (Or.inl ⟨by rfl, fun X => by go_simp⟩) ?_
    refine wpAny_take (i := 14) (v := .pointer (some ⟨B, 0, none⟩)) rfl (by kernel_rfl) (by kernel_rfl) (by kernel_rfl) (fun _ _ _ h => h) (Or.inl ⟨by rfl, fun X => by go_simp⟩) ?_
    refine wpAny_take (i := 15) (v := .pointer (some ⟨B, 13, none⟩)) rfl (by kernel_rfl) (by kernel_rfl) (by kernel_rfl) (fun _ _ _ h => h) (Or.inl ⟨by rfl, fun X => by go_simp⟩) ?_
    refine wpAny_ready (rs := [16]) (by kernel_rfl) (by simp) ?_
    have c0 := blk_cell (blk_later HD2.out hb3)
    have f0 := blk_frozen (blk_later HD2.out hb3)
    refine AllReady.cons rfl (fun K hK => ?_) AllReady.nil
    rw [if_pos (by rfl)]
    go_simp
    refine hK _ _ ?_
    clear hK K
    refine wpAny_done (by kernel_rfl) ?_ _
    clear c0 f0
    have HB4 := hidden (show (w3.setCell ⟨B, 13, none⟩ (.int .i64 s2)).drew.heap[B]? = some (.cells (betC L g now n f d p r dr o sl md fr ad cap zs s2) 98 (0, 0)) from heap_setCell_same w3 B 13 _ _ (.int .i64 s2) (blk_later HD2.out hb3))
    have HG4 := hidden (show LBlk (w3.setCell ⟨B, 13, none⟩ (.int .i64 s2)).drew g ps from (HGD.out.later hb3).other ⟨B, 13, none⟩ (.int .i64 s2) (fun e => hBg e.symm))
    have HW4 := (((HW2t.out.below hb3).setB 13 (.int .i64 s2))).drew
    have HV4 := hidden (HW4.to_below hn0.1 hn0.2 (show n0 ≤ w.heap.size by omega))
    have c0 := blk_cell HB4.out
    have f0 := blk_frozen HB4.out
    unfold betC at c0
    clear hb3
    go_wp2
    refine wp_region_any hmix ?_
    change wpAny _ _ _ _ _ _ _ (w3.setCell ⟨B, 13, none⟩ (.int .i64 s2)).drew
    generalize (w3.setCell ⟨B, 13, none⟩ (.int .i64 s2)).drew = w4 at *
    refine wpAny_take (i := 0) (v := .pointer (some ⟨B, 0, none⟩)) rfl (by kernel_rfl) (by kernel_rfl) (by kernel_rfl) (fun _ _ _ h => h) (Or.inl ⟨by rfl, fun X => by go_simp⟩) ?_
    refine wpAny_take (i := 1) (v := .pointer (some ⟨B, 0, none⟩)) rfl (by kernel_rfl) (by kernel_rfl) (by kernel_rfl) (fun _ _ _ h => h) (Or.inl ⟨by rfl, fun X => by go_simp⟩) ?_
    refine wpAny_take (i := 2) (v := .pointer (some ⟨B, 0, none⟩)) rfl (by kernel_rfl) (by kernel_rfl) (by kernel_rfl) (fun _ _ _ h => h) (Or.inl ⟨by rfl, fun X => by go_simp⟩) ?_
    refine wpAny_take (i := 3) (v := .pointer (some ⟨B, 0, none⟩)) rfl (by kernel_rfl) (by kernel_rfl) (by kernel_rfl) (fun _ _ _ h => h) (Or.inl ⟨by rfl, fun X => by go_simp⟩) ?_
    refine wpAny_take (i := 4) (v := .pointer (some ⟨B, 0, none⟩)) rfl (by kernel_rfl) (by kernel_rfl) (by kernel_rfl) (fun _ _ _ h => h) (Or.inl ⟨by rfl, fun X => by go_simp⟩) ?_
    refine wpAny_take (i := 5) (v := .pointer (some ⟨B, 2, none⟩)) rfl (by kernel_rfl) (by kernel_rfl) (by kernel_rfl) (fun _ _ _ h => h) (Or.inl ⟨by rfl, fun X => by go_simp⟩) ?_
    refine wpAny_take (i := 7) (v := .pointer (some ⟨B, 0, none⟩)) rfl (by kernel_rfl) (by kernel_rfl) (by kernel_rfl) (fun _ _ _ h => h) (Or.inl ⟨by rfl, fun X => by go_simp⟩) ?_
    refine wpAny_take (i := 8) (v := .pointer (some ⟨B, 0, none⟩)) rfl (by kernel_rfl) (by kernel_rfl) (by kernel_rfl) (fun _ _ _ h => h) (Or.inl ⟨by rfl, fun X => by go_simp⟩) ?_
    refine wpAny_take (i := 9) (v := .pointer (some ⟨B, 13, none⟩)) rfl (by kernel_rfl) (by kernel_rfl) (by kernel_rfl) (fun _ _ _ h => h) (Or.inl ⟨by rfl, fun X => by go_simp⟩) ?_
    refine wpAny_ready (rs := [6, 10]) (by kernel_rfl) (by simp) ?_
    refine AllReady.cons rfl (fun K hK => ?_) ?_
    · rw [if_pos (by rfl)]
      go_simp
      refine hK _ _ ?_
      clear hK K
      refine wpAny_ready (rs := [10]) (by kernel_rfl) (by simp) ?_
      refine AllReady.cons rfl (fun K hK => ?_) AllReady.nil
      rw [if_pos (by rfl)]
      go_simp
      refine hK _ _ ?_
      clear hK K c0 f0
      refine wpAny_ready (rs := [11]) (by kernel_rfl) (by simp) ?_
      refine AllReady.cons rfl (fun K hK => ?_) AllReady.nil
      rw [if_pos (by rfl)]
      go_simp
      refine (CB.out _ (HT0.out _ HV4.out)).mono ?_
      rintro e w5 ⟨rfl, hb5⟩
      refine hK _ _ ?_
      clear hK K
      refine wpAny_ready (rs := [12]) (by kernel_rfl) (by simp) ?_
      refine AllReady.cons rfl (fun K hK => ?_) AllReady.nil
      rw [if_pos (by rfl)]
      go_simp
      refine (CG.out _ (blk_later HB4.out hb5) (HG4.out.later hb5)).mono ?_
      rintro e w6 ⟨rfl, q1, q2, q3⟩
      have HF := hidden (And.intro q1 (And.intro q2 ((HW4.below hb5).trans q3)))
      clear q1 q2 q3 hb5
      refine hK _ _ ?_
      clear hK K
      refine wpAny_done (by kernel_rfl) ?_ _
      go_wp2
      go_ret
      exact ⟨rfl, HF.out⟩
    · refine AllReady.cons rfl (fun K hK => ?_) AllReady.nil
      rw [if_pos (by rfl)]
      go_simp
      refine hK _ _ ?_
      clear hK K
      refine wpAny_ready (rs := [6]) (by kernel_rfl) (by simp) ?_
      refine AllReady.cons rfl (fun K hK => ?_) AllReady.nil
      rw [if_pos (by rfl)]
      go_simp
      refine hK _ _ ?_
      clear hK K c0 f0
      refine wpAny_ready (rs := [11]) (by kernel_rfl) (by simp) ?_
      refine AllReady.cons rfl (fun K hK => ?_) AllReady.nil
      rw [if_pos (by rfl)]
      go_simp
      refine (CB.out _ (HT0.out _ HV4.out)).mono ?_
      rintro e w5 ⟨rfl, hb5⟩
      refine hK _ _ ?_
      clear hK K
      refine wpAny_ready (rs := [12]) (by kernel_rfl) (by simp) ?_
      refine AllReady.cons rfl (fun K hK => ?_) AllReady.nil
      rw [if_pos (by rfl)]
      go_simp
      refine (CG.out _ (blk_later HB4.out hb5) (HG4.out.later hb5)).mono ?_
      rintro e w6 ⟨rfl, q1, q2, q3⟩
      have HF := hidden (And.intro q1 (And.intro q2 ((HW4.below hb5).trans q3)))
      clear q1 q2 q3 hb5
      refine hK _ _ ?_
      clear hK K
      refine wpAny_done (by kernel_rfl) ?_ _
      go_wp2
      go_ret
      exact ⟨rfl, HF.out⟩
end Go.Proofs.Ytohgmliafidalaa

/- Laws on operations of regions whose order is drawn, at whole rows: a load of a struct that lies in a block, a store of a struct into its block; no conditions. -/
namespace Go.Proofs.Ytohgmliafidalaa
open Go.ChangeShapes Go.WideShapes Go.ChangeAt Go.RowKit
set_option linter.unusedVariables false

/-- A load of a struct that lies in a block, in every world that meets S. -/
theorem yieldsIf_load_row {P : Program} {ops : Array Oper} {S : World → Prop} {op : Oper} {a : Act} (hw : Region.wanted op (yielded ops a.tmps) = true) (ty : TypeId) (x : Operand) (ho : op.op = .load ty x)
    (g : Nat) (hx : a.eval x = .pointer (some ⟨g, 0, none⟩)) (t : TypeId) (cs : Array Value) (fr : Nat × Nat) (d : TypeDesc) (hS : ∀ w, S w → w.heap[g]? = some (.cells cs t fr))
    (hu : P.underlying ty = some d) (hd : (match d with | .struct _ | .array _ _ => true | _ => false) = true) (hi : (P.info? ty).map (·.size) = some cs.size) : YieldsIf P ops S op (.agg cs) a :=
  .inl ⟨hw, fun w hw' => by
    unfold execOp
    simp only [ho, hx, Instr.loadAt, Instr.sureAddr, Sem.run_bind, Sem.run_pure, Result.andThen_ok, run_loadVar_row w g t ty cs fr d (hS w hw') hu hd hi]⟩
theorem yieldsIf_move {P : Program} {ops : Array Oper} {S : World → Prop} {op : Oper} {a : Act} (hw : Region.wanted op (yielded ops a.tmps) = true) (x : Operand) (ho : op.op = .move x) {v : Value} (hx : a.eval x = v) : YieldsIf P ops S op v a :=
  .inl ⟨hw, fun w hw' => by
    unfold execOp
    simp only [ho, hx]
    rfl⟩
theorem yieldsIf_build {P : Program} {ops : Array Oper} {S : World → Prop} {op : Oper} {a : Act} (hw : Region.wanted op (yielded ops a.tmps) = true) {v : Value} (h : ∀ w, (execOp a.eval op).run P w = .ok (.value v) w) : YieldsIf P ops S op v a := .inl ⟨hw, fun w _ => h w⟩
theorem Chn.row {n g : Nat} {w w' : World} (h : Chn n w w') (hg : n ≤ g) (cs : Array Value) : Chn n w (w'.setRow g cs) := ⟨below_setRow h.1 hg cs, by rw [size_setRow]; exact h.2⟩
theorem row_same {w : World} {g : Nat} {old : Array Value} {t : TypeId} {fr : Nat × Nat} (h : w.heap[g]? = some (.cells old t fr)) (cs : Array Value) : (w.setRow g cs).heap[g]? = some (.cells cs t fr) := setRow_heap w g old cs t fr h
theorem row_other {w : World} {g k : Nat} {o : Obj} (h : w.heap[k]? = some o) (hk : k ≠ g) (cs : Array Value) : (w.setRow g cs).heap[k]? = some o := (setRow_other w g k cs hk).trans h
theorem blk_ne {w : World} {g k : Nat} {A B : Array Value} {t u : TypeId} {p q : Nat × Nat} (h : w.heap[g]? = some (.cells A t p)) (k' : w.heap[k]? = some (.cells B u q)) (ht : t ≠ u) : g ≠ k := by
  intro e
  subst e
  rw [h] at k'
  simp at k'
  exact ht k'.2.1
end Go.Proofs.Ytohgmliafidalaa

/- The call Alone of package beat returns the digits that plain functions give, and makes at most new memory; conditions: the table lies where it says, lengths fit int. -/
namespace Go.Proofs.Ytohgmliafidalaa
open Go.ChangeShapes Go.WideShapes Go.ChangeAt Go.RowKit
set_option linter.unusedVariables false
set_option linter.unusedSimpArgs false
attribute [local go_sem] cell_rg

theorem sF_bd {P : Int} {L : Nat} {s0 : Int} {pend : Nat → Bool} (hL : 1 ≤ L) (h0 : -9223372036854775808 ≤ s0 ∧ s0 ≤ 9223372036854775807) (hP : 0 ≤ P ∧ P ≤ 400) : ∀ k, -9223372036854775808 ≤ sF P L s0 pend k ∧ sF P L s0 pend k ≤ 9223372036854775807
  | 0 => h0
  | k + 1 => by
    rw [sF_s hL]
    have := satF_bd (s := sF P L s0 pend k) (P := P) (sF_bd hL h0 hP k).2 (by omega)
    unfold nxF
    split <;> omega
def digB (b : Bool) : UInt8 := if b = true then 49 else 48
def aloL (P : Int) (L : Nat) (s0 : Int) (pend : Nat → Bool) (M : Nat) : List UInt8 := (List.range M).map fun k => digB (eF P L s0 pend k)
def aloT (E P : Int) (L : Nat) (s0 : Int) (pend : Nat → Bool) (M : Nat) : ByteArray := if E = 0 then ba (aloL P L s0 pend M) else ba []
/-- A tick of the pulse that goes on by itself, counted. -/
theorem tick_k (n f d p r dr o sl md fr : Int) (ad : Option Addr) (cap : Nat) (zs : List Int) (B g L : Nat) (hL1 : 1 ≤ L) (hBg : B ≠ g) (si : Int) (pend : Nat → Bool) (k : Nat) (w : World) (hl : zs.length ≤ 9223372036854775807) (hT : Tab w ad zs) (hE : plainE n f d p r dr o sl md fr zs = 0) (hLL : gate (plainE n f d p r dr o sl md fr zs) (3 * (f + 1) * d) = (L : Int)) (hL60 : L ≤ 60) (hs : -9223372036854775808 ≤ si ∧ si ≤ 9223372036854775807) (n0 : Nat) (hT0 : ∀ V, Below n0 w V → Tab V ad zs) (hn0 : n0 ≤ B ∧ n0 ≤ g)
    (hB : w.heap[B]? = some (.cells (betC L g (k % L) n f d p r dr o sl md fr ad cap zs (sF p L si pend k)) 98 (0, 0))) (hg : LBlk w g (rgL p L si pend k)) :
    Calls Try.prog 81 #[.pointer (some ⟨B, 0, none⟩)] w fun e w' => e = .returned (.bool (eF p L si pend k)) ∧ w'.heap[B]? = some (.cells (betC L g ((k + 1) % L) n f d p r dr o sl md fr ad cap zs (sF p L si pend (k + 1))) 98 (0, 0)) ∧ LBlk w' g (rgL p L si pend (k + 1)) ∧ Two2 B g w w' := by
  obtain ⟨_, _, _, _, _, _, _, hp1, hp2, _⟩ := plainE_ok hE
  have hp0 : 0 ≤ p := by
    have := plainE_ok hE
    have : 0 ≤ (f + 1) * d := Int.mul_nonneg (by omega) (by omega)
    omega
  refine (tick_any n f d p r dr o sl md fr ad cap zs B g L (k % L) hBg (sF p L si pend k) (rgL p L si pend k) w hl hT hE hLL hL60 (sF_bd hL1 hs ⟨hp0, hp2⟩ k) n0 hT0 hn0 hB hg (rgL_len k) (Nat.mod_lt k (by omega))).mono ?_
  rintro e w' ⟨rfl, q1, q2, q3⟩
  rw [rg_now hL1] at q1 q2 ⊢
  rw [← sF_s hL1] at q1 q2
  rw [rg_next hL1] at q2
  rw [Nat.mod_add_mod] at q1
  exact ⟨rfl, q1, q2, q3⟩

/-- Fourteen cells set, one after another. -/
theorem set14 {w : World} {b : Nat} {c0 c1 c2 c3 c4 c5 c6 c7 c8 c9 c10 c11 c12 c13 : Value} {t : TypeId} (h : w.heap[b]? = some (.cells #[c0, c1, c2, c3, c4, c5, c6, c7, c8, c9, c10, c11, c12, c13] t (0, 0))) (v0 v1 v2 v3 v4 v5 v6 v7 v8 v9 v10 v11 v12 v13 : Value) :
    ((((((((((((((w.setCell ⟨b, 0, none⟩ v0).setCell ⟨b, 1, none⟩ v1).setCell ⟨b, 2, none⟩ v2).setCell ⟨b, 3, none⟩ v3).setCell ⟨b, 4, none⟩ v4).setCell ⟨b, 5, none⟩ v5).setCell ⟨b, 6, none⟩ v6).setCell ⟨b, 7, none⟩ v7).setCell ⟨b, 8, none⟩ v8).setCell ⟨b, 9, none⟩ v9).setCell ⟨b, 10, none⟩ v10).setCell ⟨b, 11, none⟩ v11).setCell ⟨b, 12, none⟩ v12).setCell ⟨b, 13, none⟩ v13).heap[b]? = some (.cells #[v0, v1, v2, v3, v4, v5, v6, v7, v8, v9, v10, v11, v12, v13] t (0, 0)) := by
  have h0 := heap_setCell_same _ b 0 _ _ v0 h
  simp only [List.setIfInBounds_toArray, List.set_cons_zero, List.set_cons_succ] at h0
  have h1 := heap_setCell_same _ b 1 _ _ v1 h0
  simp only [List.setIfInBounds_toArray, List.set_cons_zero, List.set_cons_succ] at h1
  have h2 := heap_setCell_same _ b 2 _ _ v2 h1
  simp only [List.setIfInBounds_toArray, List.set_cons_zero, List.set_cons_succ] at h2
  have h3 := heap_setCell_same _ b 3 _ _ v3 h2
  simp only [List.setIfInBounds_toArray, List.set_cons_zero, List.set_cons_succ] at h3
  have h4 := heap_setCell_same _ b 4 _ _ v4 h3
  simp only [List.setIfInBounds_toArray, List.set_cons_zero, List.set_cons_succ] at h4
  have h5 := heap_setCell_same _ b 5 _ _ v5 h4
  simp only [List.setIfInBounds_toArray, List.set_cons_zero, List.set_cons_succ] at h5
  have h6 := heap_setCell_same _ b 6 _ _ v6 h5
  simp only [List.setIfInBounds_toArray, List.set_cons_zero, List.set_cons_succ] at h6
  have h7 := heap_setCell_same _ b 7 _ _ v7 h6
  simp only [List.setIfInBounds_toArray, List.set_cons_zero, List.set_cons_succ] at h7
  have h8 := heap_setCell_same _ b 8 _ _ v8 h7
  simp only [List.setIfInBounds_toArray, List.set_cons_zero, List.set_cons_succ] at h8
  have h9 := heap_setCell_same _ b 9 _ _ v9 h8
  simp only [List.setIfInBounds_toArray, List.set_cons_zero, List.set_cons_succ] at h9
  have h10 := heap_setCell_same _ b 10 _ _ v10 h9
  simp only [List.setIfInBounds_toArray, List.set_cons_zero, List.set_cons_succ] at h10
  have h11 := heap_setCell_same _ b 11 _ _ v11 h10
  simp only [List.setIfInBounds_toArray, List.set_cons_zero, List.set_cons_succ] at h11
  have h12 := heap_setCell_same _ b 12 _ _ v12 h11
  simp only [List.setIfInBounds_toArray, List.set_cons_zero, List.set_cons_succ] at h12
  have h13 := heap_setCell_same _ b 13 _ _ v13 h12
  simp only [List.setIfInBounds_toArray, List.set_cons_zero, List.set_cons_succ] at h13
  exact h13
theorem LBlk.other14 {w : World} {b g : Nat} {l : List Bool} (h : LBlk w g l) (hb : g ≠ b) (v0 v1 v2 v3 v4 v5 v6 v7 v8 v9 v10 v11 v12 v13 : Value) :
    LBlk ((((((((((((((w.setCell ⟨b, 0, none⟩ v0).setCell ⟨b, 1, none⟩ v1).setCell ⟨b, 2, none⟩ v2).setCell ⟨b, 3, none⟩ v3).setCell ⟨b, 4, none⟩ v4).setCell ⟨b, 5, none⟩ v5).setCell ⟨b, 6, none⟩ v6).setCell ⟨b, 7, none⟩ v7).setCell ⟨b, 8, none⟩ v8).setCell ⟨b, 9, none⟩ v9).setCell ⟨b, 10, none⟩ v10).setCell ⟨b, 11, none⟩ v11).setCell ⟨b, 12, none⟩ v12).setCell ⟨b, 13, none⟩ v13) g l := by
  have h0 := h.other ⟨b, 0, none⟩ v0 hb
  have h1 := h0.other ⟨b, 1, none⟩ v1 hb
  have h2 := h1.other ⟨b, 2, none⟩ v2 hb
  have h3 := h2.other ⟨b, 3, none⟩ v3 hb
  have h4 := h3.other ⟨b, 4, none⟩ v4 hb
  have h5 := h4.other ⟨b, 5, none⟩ v5 hb
  have h6 := h5.other ⟨b, 6, none⟩ v6 hb
  have h7 := h6.other ⟨b, 7, none⟩ v7 hb
  have h8 := h7.other ⟨b, 8, none⟩ v8 hb
  have h9 := h8.other ⟨b, 9, none⟩ v9 hb
  have h10 := h9.other ⟨b, 10, none⟩ v10 hb
  have h11 := h10.other ⟨b, 11, none⟩ v11 hb
  have h12 := h11.other ⟨b, 12, none⟩ v12 hb
  have h13 := h12.other ⟨b, 13, none⟩ v13 hb
  exact h13
set_option maxRecDepth 100000 in
set_option maxHeartbeats 4000000 in
theorem Alone_any (n f d p r dr o sl md fr : Int) (ad : Option Addr) (cap : Nat) (zs : List Int) (L : Nat) (si : Int) (hsi : -9223372036854775808 ≤ si ∧ si ≤ 9223372036854775807) (pd : ByteArray) (hpd : pd.size ≤ 9223372036854775807) (tk : Int) (M : Nat) (hM : clampF tk 0 2000 = (M : Int)) (w : World) (hl : zs.length ≤ 9223372036854775807) (hT : Tab w ad zs) (hL : gate (plainE n f d p r dr o sl md fr zs) (3 * (f + 1) * d) = (L : Int)) (hL60 : L ≤ 60) :
    Calls Try.prog 42 #[.agg #[.int .i64 n, .int .i64 f, .int .i64 d, .int .i64 p, .int .i64 r, .int .i64 dr, .int .i64 o, .int .i64 sl, .int .i64 md, .int .i64 fr, .slice ad zs.length cap], .int .i64 si, .string pd, .int .i64 tk] w fun e w' => e = .returned (.string (aloT (plainE n f d p r dr o sl md fr zs) p L si (penF pd) M)) ∧ Below w.heap.size w w' := by
  have HB0 := hidden (ballc w (.cells #[.int .i64 n, .int .i64 f, .int .i64 d, .int .i64 p, .int .i64 r, .int .i64 dr, .int .i64 o, .int .i64 sl, .int .i64 md, .int .i64 fr, .slice ad zs.length cap] 24))
  have HT := hidden (hT.below HB0.out)
  have HK := hidden (blk_nw w #[.int .i64 n, .int .i64 f, .int .i64 d, .int .i64 p, .int .i64 r, .int .i64 dr, .int .i64 o, .int .i64 sl, .int .i64 md, .int .i64 fr, .slice ad zs.length cap] 24)
  have HP := hidden (plain_any n f d p r dr o sl md fr ad cap zs (w.alloc (.cells #[.int .i64 n, .int .i64 f, .int .i64 d, .int .i64 p, .int .i64 r, .int .i64 dr, .int .i64 o, .int .i64 sl, .int .i64 md, .int .i64 fr, .slice ad zs.length cap] 24)) hl HT.out)
  by_cases hE : plainE n f d p r dr o sl md fr zs = 0
  · have CR := hidden (fun V h => rowOf_any n f d p r dr o sl md fr ad cap zs L pd hpd V hl h hL hL60)
    have CC := hidden (fun V => clamp_any tk 0 2000 V)
    rw [hM] at CC
    have hL1 : 1 ≤ L := by
      have := plainE_ok hE
      rw [hE] at hL
      have h1 : (1 : Int) * 1 ≤ (f + 1) * d := Int.mul_le_mul (by omega) (by omega) (by omega) (by omega)
      have h2 : gate 0 (3 * (f + 1) * d) = 3 * (f + 1) * d := rfl
      rw [h2, Int.mul_assoc] at hL
      omega
    have hM2 : M ≤ 2000 := by
      unfold clampF at hM
      split at hM
      · omega
      · split at hM <;> omega
    have CT := hidden (fun (W V : World) (B g k : Nat) (h0 : Tab W ad zs) (h1 : B ≠ g) (h2 : Below W.heap.size W V) (h3 : W.heap.size ≤ B ∧ W.heap.size ≤ g) h4 h5 => tick_k n f d p r dr o sl md fr ad cap zs B g L hL1 h1 si (penF pd) k V hl (h0.below h2) hE hL hL60 hsi W.heap.size (fun X hX => h0.below (h2.trans hX)) h3 h4 h5)
    have hr0 := hidden (rg_0 p L si pd)
    have hrT : Hid (aloT (plainE n f d p r dr o sl md fr zs) p L si (penF pd) M = ba (aloL p L si (penF pd) M)) := if_pos hE
    rw [hrT.out]
    rw [hE] at HP
    have hmk := fun V => make_bytes M (by omega) V
    clear hT hL hE hM hrT
    go_enter Try.func42, Try.ntmps42
    go_wp2_with fail
    refine HP.out.mono ?_
    rintro e w2 ⟨rfl, hb⟩
    have HB2 := hidden (bthen HB0.out hb)
    have HT2 := hidden (HT.out.below hb)
    have HK2 := hidden (blk_later HK.out hb)
    have hsz2 : w.heap.size < w2.heap.size := blk_lt HK2.out
    clear hb HT HK HP
    have hC0 : Chn w2.heap.size w2 w2 := Chn.refl (Nat.le_refl _)
    have hS : ∀ V, Chn w2.heap.size w2 V → V.cell? ⟨w.heap.size, 0, none⟩ = some (.int .i64 n) ∧ V.cell? ⟨w.heap.size, 1, none⟩ = some (.int .i64 f) ∧ V.cell? ⟨w.heap.size, 2, none⟩ = some (.int .i64 d) ∧ V.cell? ⟨w.heap.size, 3, none⟩ = some (.int .i64 p) ∧ V.cell? ⟨w.heap.size, 4, none⟩ = some (.int .i64 r) ∧ V.cell? ⟨w.heap.size, 5, none⟩ = some (.int .i64 dr) ∧ V.cell? ⟨w.heap.size, 6, none⟩ = some (.int .i64 o) ∧ V.cell? ⟨w.heap.size, 7, none⟩ = some (.int .i64 sl) ∧ V.cell? ⟨w.heap.size, 8, none⟩ = some (.int .i64 md) ∧ V.cell? ⟨w.heap.size, 9, none⟩ = some (.int .i64 fr) ∧ V.cell? ⟨w.heap.size, 10, none⟩ = some (.slice ad zs.length cap) := fun V hV => by
      have l1 := blk_cell (blk_later HK2.out hV.1)
      exact ⟨l1 0, l1 1, l1 2, l1 3, l1 4, l1 5, l1 6, l1 7, l1 8, l1 9, l1 10⟩
    go_wp2
    go_cut [9] (fun p1 wx => ∃ B g : Nat, p1 = .pointer (some ⟨B, 0, none⟩) ∧ wx.heap[B]? = some (.cells (betC L g (0 % L) n f d p r dr o sl md fr ad cap zs (sF p L si (penF pd) 0)) 98 (0, 0)) ∧ LBlk wx g (rgL p L si (penF pd) 0) ∧ B ≠ g ∧ w2.heap.size ≤ B ∧ w2.heap.size ≤ g ∧ Chn w2.heap.size w2 wx)
    case first =>
      go_region_held3 (fun V => V.cell? ⟨w.heap.size, 0, none⟩ = some (.int .i64 n) ∧ V.cell? ⟨w.heap.size, 1, none⟩ = some (.int .i64 f) ∧ V.cell? ⟨w.heap.size, 2, none⟩ = some (.int .i64 d) ∧ V.cell? ⟨w.heap.size, 3, none⟩ = some (.int .i64 p) ∧ V.cell? ⟨w.heap.size, 4, none⟩ = some (.int .i64 r) ∧ V.cell? ⟨w.heap.size, 5, none⟩ = some (.int .i64 dr) ∧ V.cell? ⟨w.heap.size, 6, none⟩ = some (.int .i64 o) ∧ V.cell? ⟨w.heap.size, 7, none⟩ = some (.int .i64 sl) ∧ V.cell? ⟨w.heap.size, 8, none⟩ = some (.int .i64 md) ∧ V.cell? ⟨w.heap.size, 9, none⟩ = some (.int .i64 fr) ∧ V.cell? ⟨w.heap.size, 10, none⟩ = some (.slice ad zs.length cap)) (first | exact hS _ (by repeat (first | with_reducible assumption | with_reducible refine Chn.drew ?_ | with_reducible refine Chn.alloc ?_ _ | with_reducible refine Chn.set ?_ _ _ (Nat.le_refl _) _)))
        (first
        | (go_at_call 80; refine (CR.out _ (HT2.out.below (Chn.out (by repeat (first | with_reducible assumption | with_reducible refine Chn.drew ?_ | with_reducible refine Chn.alloc ?_ _ | with_reducible refine Chn.set ?_ _ _ (Nat.le_refl _) _))))).mono ?_; rintro e w4 ⟨g4, rfl, hk4, hg4, hb4⟩; have hC4 := Chn.below (show Chn w2.heap.size w2 _ from (by repeat (first | with_reducible assumption | with_reducible refine Chn.drew ?_ | with_reducible refine Chn.alloc ?_ _ | with_reducible refine Chn.set ?_ _ _ (Nat.le_refl _) _))) hb4; have hx4 := hidden (fun (b : Nat) (o : Obj) h => blk_later (b := b) (o := o) h hb4); (first | (have kx4 := hx4.out _ _ (heap_alloc_new w2.drew _); have ky4 := blk_cell kx4; have kz4 := blk_frozen kx4; (try simp only [World.size_drew] at kx4 ky4 kz4)) | skip); clear hb4))
      all_goals
        have lk4 := hk4.lt
        simp only [World.size_alloc, World.size_drew] at hg4
        go_wp2_with fail
        go_meet
        case rel =>
          refine ⟨_, g4, rfl, ?_, ?_, ?_, ?_, ?_, (by repeat (first | with_reducible assumption | with_reducible refine Chn.drew ?_ | with_reducible refine Chn.alloc ?_ _ | with_reducible refine Chn.set ?_ _ _ (Nat.le_refl _) _))⟩
          · rw [Nat.zero_mod, sF_0]
            unfold betC
            first
            | (have hq := set14 kx4 (.slice (some ⟨g4, 0, none⟩) L L) (.int .i64 0) (.int .i64 n) (.int .i64 f) (.int .i64 d) (.int .i64 p) (.int .i64 r) (.int .i64 dr) (.int .i64 o) (.int .i64 sl) (.int .i64 md) (.int .i64 fr) (.slice ad zs.length cap) (.int .i64 si)
               exact hq)
            | exact heap_alloc_new w4 _
          · rw [hr0.out]
            first
            | (have hne : g4 ≠ w2.heap.size := by have := kx4; omega
               have hq := LBlk.other14 (b := w2.heap.size) hk4 hne (.slice (some ⟨g4, 0, none⟩) L L) (.int .i64 0) (.int .i64 n) (.int .i64 f) (.int .i64 d) (.int .i64 p) (.int .i64 r) (.int .i64 dr) (.int .i64 o) (.int .i64 sl) (.int .i64 md) (.int .i64 fr) (.slice ad zs.length cap) (.int .i64 si)
               exact hq)
            | with_reducible exact LBlk.later hk4 (ballc w4 _)
          · omega
          · first
            | with_reducible exact Nat.le_refl _
            | with_reducible exact Chn.le hC4
          · omega
    case rest =>
      obtain ⟨B, g, rfl, hBB, hGG, hne, hB2, hg2, hCC⟩ := hcut
      have hBl := blk_lt hBB
      have hgl := hGG.lt
      have HBB := hidden (blk_later hBB (ballc wc (.cells (bvals (List.replicate M 0)) 5)))
      have HGG := hidden (hGG.later (ballc wc (.cells (bvals (List.replicate M 0)) 5)))
      have HCC := hidden (hCC.alloc (.cells (bvals (List.replicate M 0)) 5))
      have HO : Hid ((wc.alloc (.cells (bvals (List.replicate M 0)) 5)).heap[wc.heap.size]? = some (.cells (bvals (fillL 0 M (fun k => digB (eF p L si (penF pd) k)) 0)) 5 (0, 0))) := by
        show _ = _
        rw [fillL_0]
        exact heap_alloc_new wc _
      have HFA : Hid (fillL 0 M (fun k => digB (eF p L si (penF pd) k)) M = aloL p L si (penF pd) M) := fillL_all _ _ _
      clear hBB hGG hCC hr0 hC0 hS CR
      go_wp2_with fail
      refine (CC.out _).mono ?_
      rintro e w5 ⟨rfl, rfl⟩
      clear CC
      go_wp2
      clear hmk
      generalize hW0 : wc.alloc (.cells (bvals (List.replicate M 0)) 5) = W0 at *
      clear hW0
      go_loopw [26] (fun i wr => ∃ k : Nat, k ≤ M ∧ i = .int .i64 k ∧ wr.heap[wc.heap.size]? = some (.cells (bvals (fillL 0 M (fun k => digB (eF p L si (penF pd) k)) k)) 5 (0, 0)) ∧ wr.heap[B]? = some (.cells (betC L g (k % L) n f d p r dr o sl md fr ad cap zs (sF p L si (penF pd) k)) 98 (0, 0)) ∧ LBlk wr g (rgL p L si (penF pd) k) ∧ Chn w2.heap.size w2 wr) (fun i _ => M - (intV i).toNat)
      case atStart => exact ⟨0, Nat.zero_le _, rfl, HO.out, HBB.out, HGG.out, HCC.out⟩
      case round =>
        obtain ⟨k, hk, rfl, hO, hB, hG, hC⟩ := hrel
        clear HO HBB HGG HCC
        by_cases hlt : k < M
        · have i1 : (0 : Int) ≤ (k : Int) := by omega
          have i2 : (k : Int) < (M : Int) := by omega
          have hS0 := fillL_set 0 M (fun k => digB (eF p L si (penF pd) k)) k hlt
          have hlen : (fillL 0 M (fun k => digB (eF p L si (penF pd) k)) k).length = M := fillL_len _ _ _ _
          have o1 := heap_setCell_same wr wc.heap.size k _ _ (.int .u8 48) hO
          rw [show (bvals (fillL 0 M (fun k => digB (eF p L si (penF pd) k)) k)).setIfInBounds k (Value.int .u8 48) = _ from bvals_set _ k 48 (by decide)] at o1
          have b1 := (heap_setCell_other wr ⟨wc.heap.size, k, none⟩ B (.int .u8 48) (by simp; omega)).trans hB
          have g1 := hG.other ⟨wc.heap.size, k, none⟩ (.int .u8 48) (by simp; omega)
          have C1 := hC.set wc.heap.size k (by have := hC.2; omega) (.int .u8 48)
          have CK := hidden (CT.out w2 _ B g k HT2.out hne C1.1 ⟨hB2, hg2⟩ b1 g1)
          obtain ⟨y0, c0⟩ : ∃ y, wr.cell? ⟨wc.heap.size, k, none⟩ = some (.int .u8 y) := ⟨_, (blk_cell hO k).trans (bvals_at _ k (by rw [hlen]; exact hlt))⟩
          have f0 := blk_frozen hO k
          have l0 := blk_lt hO
          have HS0 := hidden hS0
          have HL0 := hidden (show k < (fillL 0 M (fun k => digB (eF p L si (penF pd) k)) k).length by rw [hlen]; exact hlt)
          have HC1 := hidden C1
          have HO1 := hidden o1
          clear hS0 hlen o1 b1 g1 C1 hO hB hG hC
          generalize fillL 0 M (fun k => digB (eF p L si (penF pd) k)) k = F0 at *
          cases hek : eF p L si (penF pd) k
          · have HS1 : Hid (F0.set k (UInt8.ofNat 48) = fillL 0 M (fun k => digB (eF p L si (penF pd) k)) (k + 1)) := by
              have := HS0.out
              rw [hek] at this
              exact this
            rw [hek] at CK
            clear HS0 hek
            go_wp2_with fail
            refine CK.out.mono ?_
            rintro e w6 ⟨rfl, q1, q2, q3⟩
            have HQ := hidden (And.intro ((q3.block wc.heap.size (blk_lt HO1.out) (by omega) (by omega)).trans HO1.out) (And.intro q1 (And.intro q2 (show Chn w2.heap.size w2 w6 from ⟨HC1.out.1.trans (q3.to_below hB2 hg2 HC1.out.2), Nat.le_trans HC1.out.2 q3.size⟩))))
            rw [HS1.out] at HQ
            clear q1 q2 q3
            go_wp2
            go_roundw
            case rel => exact ⟨k + 1, by omega, by go_num, HQ.out⟩
            case measure => simp [intV]; omega
          · have HS1 : Hid ((F0.set k (UInt8.ofNat 48)).set k (UInt8.ofNat 49) = fillL 0 M (fun k => digB (eF p L si (penF pd) k)) (k + 1)) := by
              have := HS0.out
              rw [hek] at this
              show _ = _
              rw [List.set_set]
              exact this
            rw [hek] at CK
            clear HS0 hek
            go_wp2_with fail
            refine CK.out.mono ?_
            rintro e w6 ⟨rfl, q1, q2, q3⟩
            have o6 := (q3.block wc.heap.size (blk_lt HO1.out) (by omega) (by omega)).trans HO1.out
            have HC6 := hidden (show Chn w2.heap.size w2 w6 from ⟨HC1.out.1.trans (q3.to_below hB2 hg2 HC1.out.2), Nat.le_trans HC1.out.2 q3.size⟩)
            have o7 := heap_setCell_same w6 wc.heap.size k _ _ (.int .u8 49) o6
            rw [show (bvals (F0.set k (UInt8.ofNat 48))).setIfInBounds k (Value.int .u8 49) = _ from bvals_set _ k 49 (by decide), HS1.out] at o7
            have HQ := hidden (And.intro o7 (And.intro ((heap_setCell_other w6 ⟨wc.heap.size, k, none⟩ B (.int .u8 49) (by simp; omega)).trans q1) (And.intro (q2.other ⟨wc.heap.size, k, none⟩ (.int .u8 49) (by simp; omega)) (HC6.out.set wc.heap.size k (by have := HC6.out.2; omega) (.int .u8 49)))))
            obtain ⟨y6, c6⟩ : ∃ y, w6.cell? ⟨wc.heap.size, k, none⟩ = some (.int .u8 y) := ⟨_, (blk_cell o6 k).trans (bvals_at _ k (by rw [List.length_set]; exact HL0.out))⟩
            have f0 := blk_frozen o6 k
            have l0 := blk_lt o6
            clear q1 q2 q3 o6 o7
            go_wp2
            go_roundw
            case rel => exact ⟨k + 1, by omega, by go_num, HQ.out⟩
            case measure => simp [intV]; omega
        · obtain rfl : k = M := by omega
          have i2 : ¬ (k : Int) < (k : Int) := by omega
          rw [HFA.out] at hO
          have hcv := conv_blk hO
          rw [show (aloL p L si (penF pd) k).length = k by simp [aloL]] at hcv
          have HB5 := hidden (bthen HB2.out hC.1)
          clear hO hB hG hC HFA
          generalize hal : aloL p L si (penF pd) k = al at *
          have HAL := hidden hal
          clear hal
          go_wp2
          go_ret
          exact ⟨by rw [HAL.out]; rfl, HB5.out⟩
  · have hr : Hid (aloT (plainE n f d p r dr o sl md fr zs) p L si (penF pd) M = ba []) := if_neg hE
    have j1 : (plainE n f d p r dr o sl md fr zs != 0) = true := bne_iff_ne.2 hE
    rw [hr.out]
    generalize plainE n f d p r dr o sl md fr zs = E at *
    clear hE hT hL hM hr
    go_enter Try.func42, Try.ntmps42
    go_wp2_with fail
    refine HP.out.mono ?_
    rintro e w2 ⟨rfl, hb⟩
    have HB2 := hidden (bthen HB0.out hb)
    clear hb HP
    go_wp2
    go_ret
    exact ⟨rfl, HB2.out⟩
end Go.Proofs.Ytohgmliafidalaa
