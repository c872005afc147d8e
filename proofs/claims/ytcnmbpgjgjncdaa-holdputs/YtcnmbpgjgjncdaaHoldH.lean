/- The call Put of package hold returns what a plain function gives, in memory of its own, and makes at most new memory; conditions: the table and the row lie where they say, and their lengths fit int. -/
import Derived.Test.YtcnmbpgjgjncdaaHoldG
namespace Go.Proofs.Ytcnmbpgjgjncdaa
open Go.ChangeShapes Go.WideShapes Go.ChangeAt Go.RowKit
set_option linter.unusedVariables false

theorem putF_wrong {E n d fm ag : Int} {s : ByteArray} {hs : List ByteArray} (h : ¬ wrE E n d hs.length fm ag s = 0) : putF E n d fm ag s hs = ([], wrE E n d hs.length fm ag s) := if_neg h
theorem putF_full {E n d fm ag : Int} {s : ByteArray} {hs : List ByteArray} (h : wrE E n d hs.length fm ag s = 0) (h2 : ¬ emt (hs.getD (putAt d fm ag) noB) = true) : putF E n d fm ag s hs = ([], 13) := (if_pos h).trans (if_neg h2)
theorem putF_good {E n d fm ag : Int} {s : ByteArray} {hs : List ByteArray} (h : wrE E n d hs.length fm ag s = 0) (h2 : emt (hs.getD (putAt d fm ag) noB) = true) : putF E n d fm ag s hs = (hs.set (putAt d fm ag) s, 0) := (if_pos h).trans (if_pos h2)
theorem wr_ok {E n d len fm ag : Int} {s : ByteArray} (h : wrE E n d len fm ag s = 0) : E = 0 ∧ len = n * d ∧ ¬ (fm < 0 ∨ n ≤ fm) ∧ ¬ (ag < 1 ∨ d < ag) := by
  by_cases e : E = 0
  · by_cases h1 : len = n * d
    · by_cases h2 : fm < 0 ∨ n ≤ fm
      · rw [wr_2 e h1 h2] at h; omega
      · by_cases h3 : ag < 1 ∨ d < ag
        · rw [wr_3 e h1 h2 h3] at h; omega
        · exact ⟨e, h1, h2, h3⟩
    · rw [wr_1 e h1] at h; omega
  · rw [wr_0 e] at h; exact absurd h e
theorem splice_full (L cs : List ByteArray) (h : L.length = cs.length) : splice L 0 cs = cs := by
  unfold splice
  rw [Nat.zero_add, ← h, List.drop_length]
  simp
set_option maxHeartbeats 4000000 in
theorem Put_late (N : Nat) (f : Int) (D : Nat) (p r dr o sl md fr : Int) (ad : Option Addr) (cap : Nat) (zs : List Int) (a2 : Option Addr) (len c2 : Nat) (hs : List ByteArray) (i g : Nat) (s : ByteArray) (w : World) (hl : zs.length ≤ 9223372036854775807) (hT : Tab w ad zs) (hE : plainE (N : Int) f (D : Int) p r dr o sl md fr zs = 0) (hf : hs.length = N * D) (hi : i < N) (hg1 : 1 ≤ g) (hg2 : g ≤ D) (hwr : wrE 0 N D hs.length i g s = 0) (hsz : s.size ≤ 9223372036854775807) (hL : kStr.Lies w.heap.size w (.slice a2 len c2) hs) :
    Calls Try.prog 18 #[.agg #[.int .i64 (N : Int), .int .i64 f, .int .i64 (D : Int), .int .i64 p, .int .i64 r, .int .i64 dr, .int .i64 o, .int .i64 sl, .int .i64 md, .int .i64 fr, .slice ad zs.length cap], .slice a2 len c2, .int .i64 (i : Int), .int .i64 (g : Int), .string s] w fun e w' =>
      (emt (hs.getD (i * D + (D - g)) noB) = false → e = .returned (.tuple #[.slice none 0 0, .int .i64 13])) ∧
      (emt (hs.getD (i * D + (D - g)) noB) = true → ∃ G, e = .returned (.tuple #[.slice (some ⟨G, 0, none⟩) (N * D) (N * D), .int .i64 0]) ∧ SBlk w' G (hs.set (i * D + (D - g)) s)) ∧ Below w.heap.size w w' := by
  obtain ⟨n1, n2, d1, d2⟩ := ND_caps N f D p r dr o sl md fr ad cap zs hE
  have hm := mul_cast n2 d2
  obtain rfl := hL.len
  have hpos : 0 < hs.length := by rw [hf]; exact Nat.mul_pos (by omega) (by omega)
  obtain ⟨hc1, hc2⟩ := kStr_caps hL
  obtain ⟨b, off, rfl, hbl, _⟩ := kStr_at hL 0 hpos
  have C1 := fun V h => wrong_any (N : Int) f (D : Int) p r dr o sl md fr ad cap zs (some ⟨b, off, none⟩) hs.length c2 (i : Int) (g : Int) s V hl h (by omega) hsz
  rw [hE, hwr] at C1
  have C4 := fun V => ofNode_any N f D p r dr o sl md fr ad cap zs b off hs.length c2 i V n2 d2 d1 hi hf hc1 hc2
  have C5 := fun G V => ofNode_any N f D p r dr o sl md fr ad cap zs G 0 hs.length hs.length i V n2 d2 d1 hi hf (Nat.le_refl _) (by omega)
  have hp : i * D + (D - g) < hs.length := by rw [hf]; exact mul_lt_place hi (by omega)
  obtain ⟨b', off', hbo, _, hx⟩ := kStr_at hL (i * D + (D - g)) hp
  obtain ⟨rfl, rfl⟩ : b = b' ∧ off = off' := by simpa using hbo
  have hmk := fun w => make_strs hs.length (by omega) w
  have hsrc : ∀ V, Below w.heap.size w V → ∀ j v, (hs.map Value.string)[j]? = some v → V.cell? ((⟨b, off, none⟩ : Addr).add j) = some v := by
    intro V hV j v hv
    rw [List.getElem?_map] at hv
    have hj : j < hs.length := by
      by_cases h : j < hs.length
      · exact h
      · rw [List.getElem?_eq_none (by omega)] at hv; cases hv
    obtain ⟨b', off', hbo, _, hx⟩ := kStr_at hL j hj
    obtain ⟨rfl, rfl⟩ : b = b' ∧ off = off' := by simpa using hbo
    rw [add_plain, hV.cell (p := ⟨b, off + j, none⟩) hbl, hx, ← hv, List.getD_eq_getElem?_getD, List.getElem?_eq_getElem hj]
    rfl
  have HSRC := hidden hsrc
  obtain ⟨k, hk⟩ : ∃ k, k = D - g := ⟨_, rfl⟩
  rw [← hk] at hp hx ⊢
  have ek : (D : Int) - (g : Int) = (k : Int) := by omega
  have hkD : k < D := by omega
  have j0 : (0 : Int) ≤ (k : Int) := by omega
  have j1 : (k : Int) < (D : Int) := by omega
  have HT := hidden (hT.below (ballc w (.cells #[.int .i64 (N : Int), .int .i64 f, .int .i64 (D : Int), .int .i64 p, .int .i64 r, .int .i64 dr, .int .i64 o, .int .i64 sl, .int .i64 md, .int .i64 fr, .slice ad zs.length cap] 24)))
  have HF := hidden hf
  have HP := hidden hp
  clear hT hE hf hL hk hwr hbo hsrc hp
  have hx0 : w.cell? ⟨b, off + i * D + k, none⟩ = some (.string (hs.getD (i * D + k) noB)) := by rw [Nat.add_assoc]; exact hx
  clear hx
  have HX : Hid (hs.getD (i * D + k) noB = hs.getD (i * D + k) noB) := rfl
  generalize hs.getD (i * D + k) noB = X at hx0 ⊢
  go_enter Try.func18, Try.ntmps18
  go_wp2_with fail
  refine (C1 _ HT.out).mono ?_
  rintro e w1 ⟨rfl, hb⟩
  obtain ⟨hbox, hsz1⟩ := box_at hb
  have HB1 := hidden hb
  clear hb C1
  go_wp2_with fail
  refine (C4 _).mono ?_
  rintro e w2 ⟨rfl, hb⟩
  have hb2 := bthen HB1.out hb
  have HB2 := hidden hb2
  clear hbox hsz1
  obtain ⟨hbox, hsz1⟩ := box_at hb2
  have hx2 := ((bthen (ballc w _) hb2).cell (p := ⟨b, off + i * D + k, none⟩) hbl).trans hx0
  clear hb hb2 C4 HB1 hx0
  cases hX : emt X
  · have e1 : X.toList.isEmpty = false := hX
    have HXX := hidden hX
    clear hX
    go_wp2
    go_ret2
    exact ⟨fun _ => rfl, fun h => by rw [HXX.out] at h; (cases h), bthen (ballc w _) HB2.out⟩
  · have e1 : X.toList.isEmpty = true := hX
    have HXX := hidden hX
    clear hX
    obtain ⟨w3, hrun, hg3, hgr3⟩ := copy_run (P := Try.prog) (w2.alloc (.cells (svals (List.replicate hs.length noB)) 9)) 39 39 3 9 Try.underlying39 infoStr1 (some ⟨w2.heap.size, 0, none⟩) (some ⟨b, off, none⟩) hs.length hs.length hs.length c2 w2.heap.size 0 ((List.replicate hs.length noB).map Value.string) 9 (heap_alloc_new w2 _) (hs.map Value.string) (by rw [List.length_map]; exact (Nat.min_eq_left (Nat.le_refl _)).symm) (fun _ => ⟨rfl, _, rfl, HSRC.out _ (bthen (ballc w _) (bthen HB2.out (ballc _ _)))⟩) (by simp) (strs_one _)
    rw [splice_map, splice_full _ _ (by simp)] at hg3
    have hk3 : SBlk w3 w2.heap.size hs := hg3
    have hC3 : Chn w2.heap.size w2 w3 := Chn.grown (Chn.alloc (Chn.refl (Nat.le_refl _)) _) hgr3 (Nat.le_refl _)
    have hbx3 := blk_cell ((hC3.1.block w.heap.size hsz1).trans ((HB2.out.block w.heap.size (by simp)).trans (heap_alloc_new w _)))
    have HK3 := hidden hk3
    have HC3 := hidden hC3
    clear hg3 hgr3 hk3 hC3
    go_wp2_with fail
    refine (C5 w2.heap.size _).mono ?_
    rintro e w4 ⟨rfl, hb⟩
    have hk4 := HK3.out.later hb
    have hC4 := HC3.out.below hb
    have c4 := hk4.cell (i * D + k) HP.out
    have f4 := hk4.open (i * D + k)
    have HK4 := hidden (hk4.set (i * D + k) s)
    have HC4 := hidden (hC4.set w2.heap.size (i * D + k) (Nat.le_refl _) (.string s))
    generalize hs.getD (i * D + k) noB = Xo at c4
    clear hb hk4 hC4 hbx3 HK3 HC3
    go_wp2
    go_ret2
    refine ⟨fun h => ?_, fun _ => ⟨w2.heap.size, by rw [HF.out]; rfl, HK4.out⟩, bthen (ballc w _) (bthen HB2.out HC4.out.1)⟩
    rw [HXX.out] at h
    cases h
theorem Put_any (n f d p r dr o sl md fr : Int) (ad : Option Addr) (cap : Nat) (zs : List Int) (a2 : Option Addr) (len c2 : Nat) (hs : List ByteArray) (fm ag : Int) (s : ByteArray) (w : World) (hl : zs.length ≤ 9223372036854775807) (hT : Tab w ad zs) (hlen : hs.length ≤ 9223372036854775807) (hsz : s.size ≤ 9223372036854775807) (hL : kStr.Lies w.heap.size w (.slice a2 len c2) hs) :
    Calls Try.prog 18 #[.agg #[.int .i64 n, .int .i64 f, .int .i64 d, .int .i64 p, .int .i64 r, .int .i64 dr, .int .i64 o, .int .i64 sl, .int .i64 md, .int .i64 fr, .slice ad zs.length cap], .slice a2 len c2, .int .i64 fm, .int .i64 ag, .string s] w fun e w' => ∃ a c, e = .returned (.tuple #[.slice a (putF (plainE n f d p r dr o sl md fr zs) n d fm ag s hs).1.length c, .int .i64 (putF (plainE n f d p r dr o sl md fr zs) n d fm ag s hs).2]) ∧ kStr.Lies w'.heap.size w' (.slice a (putF (plainE n f d p r dr o sl md fr zs) n d fm ag s hs).1.length c) (putF (plainE n f d p r dr o sl md fr zs) n d fm ag s hs).1 ∧ Below w.heap.size w w' := by
  obtain rfl := hL.len
  by_cases hwr : wrE (plainE n f d p r dr o sl md fr zs) n d hs.length fm ag s = 0
  · obtain ⟨hE, h1, h2, h3⟩ := wr_ok hwr
    have hk := plainE_ok hE
    obtain ⟨N, rfl⟩ : ∃ N : Nat, n = (N : Int) := ⟨n.toNat, by omega⟩
    obtain ⟨D, rfl⟩ : ∃ D : Nat, d = (D : Int) := ⟨d.toNat, by omega⟩
    obtain ⟨i, rfl⟩ : ∃ i : Nat, fm = (i : Int) := ⟨fm.toNat, by omega⟩
    obtain ⟨g, rfl⟩ : ∃ g : Nat, ag = (g : Int) := ⟨ag.toNat, by omega⟩
    have hf := len_cast.1 h1
    have hpa : putAt D i g = i * D + (D - g) := rfl
    have hwr' := hwr
    rw [hE] at hwr'
    refine (Put_late N f D p r dr o sl md fr ad cap zs a2 _ c2 hs i g s w hl hT hE hf (by omega) (by omega) (by omega) hwr' hsz hL).mono ?_
    rintro e w' ⟨k1, k2, hb⟩
    cases hX : emt (hs.getD (i * D + (D - g)) noB)
    · rw [putF_full hwr (by rw [hpa, hX]; decide)]
      exact ⟨none, 0, k1 hX, Kind.Lies.nil _ _, hb⟩
    · rw [putF_good hwr (by rw [hpa, hX])]
      obtain ⟨G, e1, e2⟩ := k2 hX
      have hln : (hs.set (putAt D i g) s).length = N * D := by rw [List.length_set, hf]
      have hm := mul_cast (show N ≤ 13 by omega) (show D ≤ 4 by omega)
      refine ⟨some ⟨G, 0, none⟩, N * D, ?_, ?_, hb⟩
      · dsimp only
        rw [hln]; exact e1
      · have := e2.lies (by rw [List.length_set, hf]; unfold maxLen; omega)
        dsimp only
        rw [hln]
        rw [List.length_set, hf] at this
        exact this
  · rw [putF_wrong hwr]
    have C1 := fun V h => wrong_any n f d p r dr o sl md fr ad cap zs a2 hs.length c2 fm ag s V hl h hlen hsz
    generalize wrE (plainE n f d p r dr o sl md fr zs) n d hs.length fm ag s = X at *
    have hX' : (X != 0) = true := by simp [hwr]
    have HT := hidden (hT.below (ballc w (.cells #[.int .i64 n, .int .i64 f, .int .i64 d, .int .i64 p, .int .i64 r, .int .i64 dr, .int .i64 o, .int .i64 sl, .int .i64 md, .int .i64 fr, .slice ad zs.length cap] 24)))
    have HL := hidden hL
    clear hT hL hwr
    go_enter Try.func18, Try.ntmps18
    go_wp2_with fail
    refine (C1 _ HT.out).mono ?_
    rintro e w1 ⟨rfl, hb⟩
    go_wp2
    go_ret2
    exact ⟨none, 0, rfl, Kind.Lies.nil _ _, bthen (ballc w _) hb⟩
end Go.Proofs.Ytcnmbpgjgjncdaa
