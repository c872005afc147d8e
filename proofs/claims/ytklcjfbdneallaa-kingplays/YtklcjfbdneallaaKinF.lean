/- The call Play of package king returns what each node has in the end of an instance, in memory of its own, and makes at most new memory; conditions: rows lie where they say, and lengths fit int. -/
import Derived.Test.YtklcjfbdneallaaKinE
import Derived.Test.YtklcjfbdneallaaReg
import Derived.Deep.DeepCutAuto
import Derived.Laws.EntriesVeiled
namespace Go.Proofs.Ytklcjfbdneallaa
open Go.ChangeShapes Go.WideShapes Go.ChangeAt Go.RowKit
set_option linter.unusedVariables false

theorem Play_no (n f d p r dr o sl md fr : Int) (ad : Option Addr) (cap : Nat) (zs : List Int) (a1 : Option Addr) (l1 c1 : Nat) (a2 : Option Addr) (l2 c2 : Nat) (a3 : Option Addr) (l3 c3 : Nat) (w : World) (hl : zs.length ≤ 9223372036854775807) (hT : Tab w ad zs) (hE : ¬ plainE n f d p r dr o sl md fr zs = 0) :
    Calls Try.prog 34 #[.agg #[.int .i64 n, .int .i64 f, .int .i64 d, .int .i64 p, .int .i64 r, .int .i64 dr, .int .i64 o, .int .i64 sl, .int .i64 md, .int .i64 fr, .slice ad zs.length cap], .slice a1 l1 c1, .slice a2 l2 c2, .slice a3 l3 c3] w fun e w' => e = .returned (.slice none 0 0) ∧ Below w.heap.size w w' := by
  have HQ := hidden (plain_any n f d p r dr o sl md fr ad cap zs (w.alloc (.cells #[.int .i64 n, .int .i64 f, .int .i64 d, .int .i64 p, .int .i64 r, .int .i64 dr, .int .i64 o, .int .i64 sl, .int .i64 md, .int .i64 fr, .slice ad zs.length cap] 24)) hl (hT.below (ballc _ _)))
  clear hT
  generalize plainE n f d p r dr o sl md fr zs = E at HQ hE
  go_enter Try.func34, Try.ntmps34
  go_wp2_with fail
  refine HQ.out.mono ?_
  rintro e w2 ⟨rfl, hb⟩
  have HB2 := hidden (bthen (ballc w _) hb)
  have j : (E == 0) = false := by simp [hE]
  clear hb HQ
  go_wp2
  go_ret
  exact ⟨rfl, HB2.out⟩
set_option maxRecDepth 100000 in
set_option maxHeartbeats 4000000 in
theorem Play_ok (N : Nat) (f d p r dr o sl md fr : Int) (ad : Option Addr) (cap : Nat) (zs : List Int) (F : Nat) (hf : f = (F : Int)) (a1 : Option Addr) (c1 : Nat) (bits : List Int) (a2 : Option Addr) (c2 : Nat) (fs : List Int) (a3 : Option Addr) (c3 : Nat) (vs : List Int) (w : World) (hl : zs.length ≤ 9223372036854775807) (hT : Tab w ad zs) (hE : plainE (N : Int) f d p r dr o sl md fr zs = 0)
    (h1 : bits.length ≤ 9223372036854775807) (h2 : fs.length ≤ 9223372036854775807) (h3 : vs.length ≤ 9223372036854775807) (hV1 : kInt.Lies w.heap.size w (.slice a1 bits.length c1) bits) (hV2 : kInt.Lies w.heap.size w (.slice a2 fs.length c2) fs) (hV3 : kInt.Lies w.heap.size w (.slice a3 vs.length c3) vs) :
    Calls Try.prog 34 #[.agg #[.int .i64 (N : Int), .int .i64 f, .int .i64 d, .int .i64 p, .int .i64 r, .int .i64 dr, .int .i64 o, .int .i64 sl, .int .i64 md, .int .i64 fr, .slice ad zs.length cap], .slice a1 bits.length c1, .slice a2 fs.length c2, .slice a3 vs.length c3] w fun e w' => ∃ g, e = .returned (.slice (some ⟨g, 0, none⟩) N N) ∧ IBlk w' g (endsL (faB N fs) N (playL (faB N fs) vs N f bits (3 * (F + 1)))) ∧ Below w.heap.size w w' := by
  have HQ := hidden (plain_any (N : Int) f d p r dr o sl md fr ad cap zs (w.alloc (.cells #[.int .i64 (N : Int), .int .i64 f, .int .i64 d, .int .i64 p, .int .i64 r, .int .i64 dr, .int .i64 o, .int .i64 sl, .int .i64 md, .int .i64 fr, .slice ad zs.length cap] 24)) hl (hT.below (ballc _ _)))
  rw [hE] at HQ
  obtain ⟨n1, n2, f1, f2, fn, d1, d2, _⟩ := plainE_ok hE
  have hN2 : N ≤ 13 := by omega
  have HF := hidden hf
  have HE := hidden hE
  have HFN : Hid (3 * F + 1 ≤ N) := by show _ ≤ _; omega
  have HT0 := hidden hT
  have HW1 := hidden hV1
  have HW2 := hidden hV2
  have HW3 := hidden hV3
  clear hT hV1 hV2 hV3 hE n1 n2 f1 f2 fn d1 d2 hf
  go_enter Try.func34, Try.ntmps34
  go_wp2_with fail
  refine HQ.out.mono ?_
  rintro e w2 ⟨rfl, hb⟩
  have HK := hidden (blk_later (blk_nw w #[.int .i64 (N : Int), .int .i64 f, .int .i64 d, .int .i64 p, .int .i64 r, .int .i64 dr, .int .i64 o, .int .i64 sl, .int .i64 md, .int .i64 fr, .slice ad zs.length cap] 24) hb)
  have HB2 := hidden (bthen (ballc w _) hb)
  have j : ((0 : Int) == 0) = true := rfl
  have HT := hidden (HT0.out.below HB2.out)
  have HV1 := hidden (HW1.out.later HB2.out)
  have HV2 := hidden (HW2.out.later HB2.out)
  have HV3 := hidden (HW3.out.later HB2.out)
  have c0 := fun i => blk_cell HK.out i
  have l0 := blk_lt HK.out
  clear hb HQ HT0 HW1 HW2 HW3
  have CM : ∀ V, Chn w2.heap.size w2 V → _ := fun V hC => marked_any N f d p r dr o sl md fr ad cap zs hN2 a2 c2 fs V h2 (HV2.out.later hC.out)
  have CL : ∀ V, Chn w2.heap.size w2 V → _ := fun V hC => liar_any N f d p r dr o sl md fr ad cap zs a3 c3 vs V
  have CS : ∀ V, Chn w2.heap.size w2 V → _ := fun V hC => started_any N f d p r dr o sl md fr ad cap zs hN2 a1 c1 bits V h1 (HV1.out.later hC.out)
  have HCM := hidden CM
  have HCL := hidden CL
  have HCS := hidden CS
  clear CM CL CS
  go_wp2_with fail
  go_cut [9] (fun pt wx => ∃ g gl gc gb : Nat, pt = .pointer (some ⟨g, 0, none⟩) ∧ InsB wx g N f d p r dr o sl md fr ad cap zs (faB N fs) gl gc gb ∧ wx.heap[gl]? = some (.cells #[.slice a3 vs.length c3] 22 (0, 0)) ∧ wx.heap[gc]? = some (.cells #[.int .i64 (N : Int), .int .i64 f, .int .i64 d, .int .i64 p, .int .i64 r, .int .i64 dr, .int .i64 o, .int .i64 sl, .int .i64 md, .int .i64 fr, .slice ad zs.length cap] 24 (0, 0)) ∧ BBlk wx gb (startL N bits) ∧ w2.heap.size ≤ g ∧ gl ≠ g ∧ gc ≠ g ∧ Chn w2.heap.size w2 wx)
  case first =>
    refine wp_region_held_drew (S := fun V => V.heap[w.heap.size]? = some (.cells #[.int .i64 (N : Int), .int .i64 f, .int .i64 d, .int .i64 p, .int .i64 r, .int .i64 dr, .int .i64 o, .int .i64 sl, .int .i64 md, .int .i64 fr, .slice ad zs.length cap] 24 (0, 0))) (by kernel_rfl) (HK.out) (fun hHeld => ?_)
    have hC0 := (Chn.refl (n := w2.heap.size) (w := w2) (Nat.le_refl _)).drew
    refine wpAnyH_take (i := 0) (oi := { dst := some 14, op := Op.load 24 (Operand.tmp 4), type := 24, pos := "king.go:88", after := #[], guard := none }) (v := .agg #[.int .i64 (N : Int), .int .i64 f, .int .i64 d, .int .i64 p, .int .i64 r, .int .i64 dr, .int .i64 o, .int .i64 sl, .int .i64 md, .int .i64 fr, .slice ad zs.length cap]) rfl (by kernel_rfl) (by kernel_rfl) (by kernel_rfl) (fun _ _ _ h => h) (yieldsIf_load_row (by rfl) 24 (.tmp 4) rfl w.heap.size rfl 24 #[.int .i64 (N : Int), .int .i64 f, .int .i64 d, .int .i64 p, .int .i64 r, .int .i64 dr, .int .i64 o, .int .i64 sl, .int .i64 md, .int .i64 fr, .slice ad zs.length cap] (0, 0) _ (fun _ h => h) Try.underlying24 rfl (by kernel_rfl)) hHeld ?_
    try simp only [Act.put, List.setIfInBounds_toArray, List.set_cons_zero, List.set_cons_succ]
    refine wpAnyH_take (i := 1) (oi := { dst := some 15, op := Op.load 24 (Operand.tmp 4), type := 24, pos := "king.go:88", after := #[], guard := none }) (v := .agg #[.int .i64 (N : Int), .int .i64 f, .int .i64 d, .int .i64 p, .int .i64 r, .int .i64 dr, .int .i64 o, .int .i64 sl, .int .i64 md, .int .i64 fr, .slice ad zs.length cap]) rfl (by kernel_rfl) (by kernel_rfl) (by kernel_rfl) (fun _ _ _ h => h) (yieldsIf_load_row (by rfl) 24 (.tmp 4) rfl w.heap.size rfl 24 #[.int .i64 (N : Int), .int .i64 f, .int .i64 d, .int .i64 p, .int .i64 r, .int .i64 dr, .int .i64 o, .int .i64 sl, .int .i64 md, .int .i64 fr, .slice ad zs.length cap] (0, 0) _ (fun _ h => h) Try.underlying24 rfl (by kernel_rfl)) hHeld ?_
    try simp only [Act.put, List.setIfInBounds_toArray, List.set_cons_zero, List.set_cons_succ]
    refine wpAnyH_take (i := 4) (oi := { dst := some 18, op := Op.load 24 (Operand.tmp 4), type := 24, pos := "king.go:88", after := #[], guard := none }) (v := .agg #[.int .i64 (N : Int), .int .i64 f, .int .i64 d, .int .i64 p, .int .i64 r, .int .i64 dr, .int .i64 o, .int .i64 sl, .int .i64 md, .int .i64 fr, .slice ad zs.length cap]) rfl (by kernel_rfl) (by kernel_rfl) (by kernel_rfl) (fun _ _ _ h => h) (yieldsIf_load_row (by rfl) 24 (.tmp 4) rfl w.heap.size rfl 24 #[.int .i64 (N : Int), .int .i64 f, .int .i64 d, .int .i64 p, .int .i64 r, .int .i64 dr, .int .i64 o, .int .i64 sl, .int .i64 md, .int .i64 fr, .slice ad zs.length cap] (0, 0) _ (fun _ h => h) Try.underlying24 rfl (by kernel_rfl)) hHeld ?_
    try simp only [Act.put, List.setIfInBounds_toArray, List.set_cons_zero, List.set_cons_succ]
    refine wpAnyH_take (i := 7) (oi := { dst := some 21, op := Op.load 24 (Operand.tmp 4), type := 24, pos := "king.go:88", after := #[], guard := none }) (v := .agg #[.int .i64 (N : Int), .int .i64 f, .int .i64 d, .int .i64 p, .int .i64 r, .int .i64 dr, .int .i64 o, .int .i64 sl, .int .i64 md, .int .i64 fr, .slice ad zs.length cap]) rfl (by kernel_rfl) (by kernel_rfl) (by kernel_rfl) (fun _ _ _ h => h) (yieldsIf_load_row (by rfl) 24 (.tmp 4) rfl w.heap.size rfl 24 #[.int .i64 (N : Int), .int .i64 f, .int .i64 d, .int .i64 p, .int .i64 r, .int .i64 dr, .int .i64 o, .int .i64 sl, .int .i64 md, .int .i64 fr, .slice ad zs.length cap] (0, 0) _ (fun _ h => h) Try.underlying24 rfl (by kernel_rfl)) hHeld ?_
    try simp only [Act.put, List.setIfInBounds_toArray, List.set_cons_zero, List.set_cons_succ]
    refine wpAnyH_take (i := 2) (oi := { dst := some 16, op := Op.move (Operand.tmp 2), type := 22, pos := "king.go:88", after := #[], guard := none }) (v := .slice a2 fs.length c2) rfl (by kernel_rfl) (by kernel_rfl) (by kernel_rfl) (fun _ _ _ h => h) (yieldsIf_move (by rfl) (.tmp 2) rfl rfl) hHeld ?_
    try simp only [Act.put, List.setIfInBounds_toArray, List.set_cons_zero, List.set_cons_succ]
    refine wpAnyH_take (i := 5) (oi := { dst := some 19, op := Op.move (Operand.tmp 3), type := 22, pos := "king.go:88", after := #[], guard := none }) (v := .slice a3 vs.length c3) rfl (by kernel_rfl) (by kernel_rfl) (by kernel_rfl) (fun _ _ _ h => h) (yieldsIf_move (by rfl) (.tmp 3) rfl rfl) hHeld ?_
    try simp only [Act.put, List.setIfInBounds_toArray, List.set_cons_zero, List.set_cons_succ]
    refine wpAnyH_take (i := 8) (oi := { dst := some 22, op := Op.move (Operand.tmp 1), type := 22, pos := "king.go:88", after := #[], guard := none }) (v := .slice a1 bits.length c1) rfl (by kernel_rfl) (by kernel_rfl) (by kernel_rfl) (fun _ _ _ h => h) (yieldsIf_move (by rfl) (.tmp 1) rfl rfl) hHeld ?_
    try simp only [Act.put, List.setIfInBounds_toArray, List.set_cons_zero, List.set_cons_succ]
    refine wpAnyH_ready (rs := [3, 11]) (by kernel_rfl) (by simp) ?_
    refine AllReadyH.cons (o := { dst := some 17, op := Op.call { callee := Callee.value (Operand.func 49), args := #[Operand.tmp 15, Operand.tmp 16], argTypes := #[24, 22] }, type := 59, pos := "king.go:88", after := #[{ on := 1, ground := Ground.data }, { on := 2, ground := Ground.data }], guard := none }) rfl (fun K hK => ?_) ?_
    · rw [if_pos (by rfl)]
      go_simp
      go_at_call 49
      refine (HCM.out _ hC0).mono ?_
      rintro e w5 ⟨rfl, hb⟩
      have hC5 := Chn.below hC0 hb
      go_wp2_with fail
      refine hK.out _ _ (blk_later HK.out hC5.out) (fun hHeld => ?_)
      clear hK K
      try simp only [Act.put, List.setIfInBounds_toArray, List.set_cons_zero, List.set_cons_succ]
      refine wpAnyH_ready (rs := [6, 11]) (by kernel_rfl) (by simp) ?_
      refine AllReadyH.cons (o := { dst := some 20, op := Op.call { callee := Callee.value (Operand.func 50), args := #[Operand.tmp 18, Operand.tmp 19], argTypes := #[24, 22] }, type := 61, pos := "king.go:88", after := #[{ on := 4, ground := Ground.data }, { on := 5, ground := Ground.data }, { on := 3, ground := Ground.chain }], guard := none }) rfl (fun K hK => ?_) ?_
      · rw [if_pos (by rfl)]
        go_simp
        go_at_call 50
        refine (HCL.out _ hC5).mono ?_
        rintro e w6 ⟨gl, gc, rfl, hgl, hgc, hb⟩
        have hC6 := Chn.below hC5 hb
        go_wp2_with fail
        refine hK.out _ _ (blk_later HK.out hC6.out) (fun hHeld => ?_)
        clear hK K
        try simp only [Act.put, List.setIfInBounds_toArray, List.set_cons_zero, List.set_cons_succ]
        refine wpAnyH_ready (rs := [9, 11]) (by kernel_rfl) (by simp) ?_
        refine AllReadyH.cons (o := { dst := some 23, op := Op.call { callee := Callee.value (Operand.func 51), args := #[Operand.tmp 21, Operand.tmp 22], argTypes := #[24, 22] }, type := 63, pos := "king.go:88", after := #[{ on := 7, ground := Ground.data }, { on := 8, ground := Ground.data }, { on := 6, ground := Ground.chain }], guard := none }) rfl (fun K hK => ?_) ?_
        · rw [if_pos (by rfl)]
          go_simp
          go_at_call 51
          refine (HCS.out _ hC6).mono ?_
          rintro e w7 ⟨gb, rfl, hgb, hge, hb⟩
          have hC7 := Chn.below hC6 hb
          have hgl := blk_later hgl hb
          have hgc := blk_later hgc hb
          go_wp2_with fail
          refine hK.out _ _ (blk_later HK.out hC7.out) (fun hHeld => ?_)
          clear hK K
          try simp only [Act.put, List.setIfInBounds_toArray, List.set_cons_zero, List.set_cons_succ]
          refine wpAnyH_take (i := 10) (oi := { dst := some 24, op := Op.build 66 #[(0, Operand.tmp 14), (1, Operand.tmp 17), (2, Operand.tmp 20), (3, Operand.tmp 23)], type := 66, pos := "king.go:88", after := #[{ on := 0, ground := Ground.data }, { on := 3, ground := Ground.data }, { on := 6, ground := Ground.data }, { on := 9, ground := Ground.data }], guard := none }) (v := .agg #[.int .i64 (N : Int), .int .i64 f, .int .i64 d, .int .i64 p, .int .i64 r, .int .i64 dr, .int .i64 o, .int .i64 sl, .int .i64 md, .int .i64 fr, .slice ad zs.length cap, .bool (faB N fs 0), .bool (faB N fs 1), .bool (faB N fs 2), .bool (faB N fs 3), .bool (faB N fs 4), .bool (faB N fs 5), .bool (faB N fs 6), .bool (faB N fs 7), .bool (faB N fs 8), .bool (faB N fs 9), .bool (faB N fs 10), .bool (faB N fs 11), .bool (faB N fs 12), .func (.func 61) #[] #[.pointer (some ⟨gl, 0, none⟩), .pointer (some ⟨gc, 0, none⟩)], .slice (some ⟨gb, 0, none⟩) N N]) rfl (by kernel_rfl) (by kernel_rfl) (by kernel_rfl) (fun _ _ _ h => h) (yieldsIf_build (by rfl) (fun _ => by go_simp)) hHeld ?_
          try simp only [Act.put, List.setIfInBounds_toArray, List.set_cons_zero, List.set_cons_succ]
          refine wpAnyH_ready (rs := [11]) (by kernel_rfl) (by simp) ?_
          refine AllReadyH.cons (o := { dst := some 9, op := Op.alloc 66, type := 0, pos := "king.go:88", after := #[], guard := none }) rfl (fun K hK => ?_) ?_
          · rw [if_pos (by rfl)]
            go_simp
            have kx := blk_nw w7 #[.int .i64 0, .int .i64 0, .int .i64 0, .int .i64 0, .int .i64 0, .int .i64 0, .int .i64 0, .int .i64 0, .int .i64 0, .int .i64 0, .slice none 0 0, .bool false, .bool false, .bool false, .bool false, .bool false, .bool false, .bool false, .bool false, .bool false, .bool false, .bool false, .bool false, .bool false, .nilFunc, .slice none 0 0] 66
            have hCa := Chn.alloc hC7 (.cells #[.int .i64 0, .int .i64 0, .int .i64 0, .int .i64 0, .int .i64 0, .int .i64 0, .int .i64 0, .int .i64 0, .int .i64 0, .int .i64 0, .slice none 0 0, .bool false, .bool false, .bool false, .bool false, .bool false, .bool false, .bool false, .bool false, .bool false, .bool false, .bool false, .bool false, .bool false, .nilFunc, .slice none 0 0] 66)
            have hgl := blk_later hgl (ballc _ (.cells #[.int .i64 0, .int .i64 0, .int .i64 0, .int .i64 0, .int .i64 0, .int .i64 0, .int .i64 0, .int .i64 0, .int .i64 0, .int .i64 0, .slice none 0 0, .bool false, .bool false, .bool false, .bool false, .bool false, .bool false, .bool false, .bool false, .bool false, .bool false, .bool false, .bool false, .bool false, .nilFunc, .slice none 0 0] 66))
            have hgc := blk_later hgc (ballc _ (.cells #[.int .i64 0, .int .i64 0, .int .i64 0, .int .i64 0, .int .i64 0, .int .i64 0, .int .i64 0, .int .i64 0, .int .i64 0, .int .i64 0, .slice none 0 0, .bool false, .bool false, .bool false, .bool false, .bool false, .bool false, .bool false, .bool false, .bool false, .bool false, .bool false, .bool false, .bool false, .nilFunc, .slice none 0 0] 66))
            have hgb := hgb.later (ballc _ (.cells #[.int .i64 0, .int .i64 0, .int .i64 0, .int .i64 0, .int .i64 0, .int .i64 0, .int .i64 0, .int .i64 0, .int .i64 0, .int .i64 0, .slice none 0 0, .bool false, .bool false, .bool false, .bool false, .bool false, .bool false, .bool false, .bool false, .bool false, .bool false, .bool false, .bool false, .bool false, .nilFunc, .slice none 0 0] 66))
            refine hK.out _ _ (blk_later HK.out hCa.out) (fun hHeld => ?_)
            clear hK K
            try simp only [Act.put, List.setIfInBounds_toArray, List.set_cons_zero, List.set_cons_succ]
            refine wpAnyH_ready (rs := [12]) (by kernel_rfl) (by simp) ?_
            refine AllReadyH.cons (o := { dst := none, op := Op.store 66 (Operand.tmp 9) (Operand.tmp 24), type := 0, pos := "king.go:88", after := #[{ on := 11, ground := Ground.data }, { on := 10, ground := Ground.data }, { on := 9, ground := Ground.chain }, { on := 0, ground := Ground.phase }, { on := 1, ground := Ground.phase }, { on := 2, ground := Ground.phase }, { on := 3, ground := Ground.phase }, { on := 4, ground := Ground.phase }, { on := 5, ground := Ground.phase }, { on := 6, ground := Ground.phase }, { on := 7, ground := Ground.phase }, { on := 8, ground := Ground.phase }, { on := 9, ground := Ground.phase }, { on := 10, ground := Ground.phase }, { on := 11, ground := Ground.phase }], guard := none }) rfl (fun K hK => ?_) ?_
            · rw [if_pos (by rfl)]
              refine wp_store_row 66 (.tmp 9) (.tmp 24) rfl w7.heap.size #[.int .i64 (N : Int), .int .i64 f, .int .i64 d, .int .i64 p, .int .i64 r, .int .i64 dr, .int .i64 o, .int .i64 sl, .int .i64 md, .int .i64 fr, .slice ad zs.length cap, .bool (faB N fs 0), .bool (faB N fs 1), .bool (faB N fs 2), .bool (faB N fs 3), .bool (faB N fs 4), .bool (faB N fs 5), .bool (faB N fs 6), .bool (faB N fs 7), .bool (faB N fs 8), .bool (faB N fs 9), .bool (faB N fs 10), .bool (faB N fs 11), .bool (faB N fs 12), .func (.func 61) #[] #[.pointer (some ⟨gl, 0, none⟩), .pointer (some ⟨gc, 0, none⟩)], .slice (some ⟨gb, 0, none⟩) N N] rfl rfl 66 _ kx (by kernel_rfl) rfl (by simp [Value.oneCell']) ?_
              have hge : w2.heap.size ≤ w7.heap.size := Chn.le hC7
              have hn1 := blk_ne hgl kx (by decide)
              have hn2 := blk_ne hgc kx (by decide)
              have hn3 := blk_ne hgb kx (by decide)
              have hCr := Chn.row hCa hge #[.int .i64 (N : Int), .int .i64 f, .int .i64 d, .int .i64 p, .int .i64 r, .int .i64 dr, .int .i64 o, .int .i64 sl, .int .i64 md, .int .i64 fr, .slice ad zs.length cap, .bool (faB N fs 0), .bool (faB N fs 1), .bool (faB N fs 2), .bool (faB N fs 3), .bool (faB N fs 4), .bool (faB N fs 5), .bool (faB N fs 6), .bool (faB N fs 7), .bool (faB N fs 8), .bool (faB N fs 9), .bool (faB N fs 10), .bool (faB N fs 11), .bool (faB N fs 12), .func (.func 61) #[] #[.pointer (some ⟨gl, 0, none⟩), .pointer (some ⟨gc, 0, none⟩)], .slice (some ⟨gb, 0, none⟩) N N]
              have kr := row_same kx #[.int .i64 (N : Int), .int .i64 f, .int .i64 d, .int .i64 p, .int .i64 r, .int .i64 dr, .int .i64 o, .int .i64 sl, .int .i64 md, .int .i64 fr, .slice ad zs.length cap, .bool (faB N fs 0), .bool (faB N fs 1), .bool (faB N fs 2), .bool (faB N fs 3), .bool (faB N fs 4), .bool (faB N fs 5), .bool (faB N fs 6), .bool (faB N fs 7), .bool (faB N fs 8), .bool (faB N fs 9), .bool (faB N fs 10), .bool (faB N fs 11), .bool (faB N fs 12), .func (.func 61) #[] #[.pointer (some ⟨gl, 0, none⟩), .pointer (some ⟨gc, 0, none⟩)], .slice (some ⟨gb, 0, none⟩) N N]
              have hgl := row_other hgl hn1 #[.int .i64 (N : Int), .int .i64 f, .int .i64 d, .int .i64 p, .int .i64 r, .int .i64 dr, .int .i64 o, .int .i64 sl, .int .i64 md, .int .i64 fr, .slice ad zs.length cap, .bool (faB N fs 0), .bool (faB N fs 1), .bool (faB N fs 2), .bool (faB N fs 3), .bool (faB N fs 4), .bool (faB N fs 5), .bool (faB N fs 6), .bool (faB N fs 7), .bool (faB N fs 8), .bool (faB N fs 9), .bool (faB N fs 10), .bool (faB N fs 11), .bool (faB N fs 12), .func (.func 61) #[] #[.pointer (some ⟨gl, 0, none⟩), .pointer (some ⟨gc, 0, none⟩)], .slice (some ⟨gb, 0, none⟩) N N]
              have hgc := row_other hgc hn2 #[.int .i64 (N : Int), .int .i64 f, .int .i64 d, .int .i64 p, .int .i64 r, .int .i64 dr, .int .i64 o, .int .i64 sl, .int .i64 md, .int .i64 fr, .slice ad zs.length cap, .bool (faB N fs 0), .bool (faB N fs 1), .bool (faB N fs 2), .bool (faB N fs 3), .bool (faB N fs 4), .bool (faB N fs 5), .bool (faB N fs 6), .bool (faB N fs 7), .bool (faB N fs 8), .bool (faB N fs 9), .bool (faB N fs 10), .bool (faB N fs 11), .bool (faB N fs 12), .func (.func 61) #[] #[.pointer (some ⟨gl, 0, none⟩), .pointer (some ⟨gc, 0, none⟩)], .slice (some ⟨gb, 0, none⟩) N N]
              have hgb : BBlk _ gb (startL N bits) := row_other hgb hn3 #[.int .i64 (N : Int), .int .i64 f, .int .i64 d, .int .i64 p, .int .i64 r, .int .i64 dr, .int .i64 o, .int .i64 sl, .int .i64 md, .int .i64 fr, .slice ad zs.length cap, .bool (faB N fs 0), .bool (faB N fs 1), .bool (faB N fs 2), .bool (faB N fs 3), .bool (faB N fs 4), .bool (faB N fs 5), .bool (faB N fs 6), .bool (faB N fs 7), .bool (faB N fs 8), .bool (faB N fs 9), .bool (faB N fs 10), .bool (faB N fs 11), .bool (faB N fs 12), .func (.func 61) #[] #[.pointer (some ⟨gl, 0, none⟩), .pointer (some ⟨gc, 0, none⟩)], .slice (some ⟨gb, 0, none⟩) N N]
              refine hK.out _ _ (blk_later HK.out hCr.out) (fun hHeld => ?_)
              clear hK K
              try simp only [Act.put]
              refine wpAnyH_done (by kernel_rfl) ?_ _
              go_wp2_with fail
              go_meet
              case rel => exact ⟨_, gl, gc, gb, rfl, kr, hgl, hgc, hgb, hge, hn1, hn2, hCr⟩
            · exact AllReadyH.nil
          exact AllReadyH.nil
        refine AllReadyH.cons (o := { dst := some 9, op := Op.alloc 66, type := 0, pos := "king.go:88", after := #[], guard := none }) rfl (fun K hK => ?_) ?_
        · rw [if_pos (by rfl)]
          go_simp
          have kx := blk_nw w6 #[.int .i64 0, .int .i64 0, .int .i64 0, .int .i64 0, .int .i64 0, .int .i64 0, .int .i64 0, .int .i64 0, .int .i64 0, .int .i64 0, .slice none 0 0, .bool false, .bool false, .bool false, .bool false, .bool false, .bool false, .bool false, .bool false, .bool false, .bool false, .bool false, .bool false, .bool false, .nilFunc, .slice none 0 0] 66
          have hCa := Chn.alloc hC6 (.cells #[.int .i64 0, .int .i64 0, .int .i64 0, .int .i64 0, .int .i64 0, .int .i64 0, .int .i64 0, .int .i64 0, .int .i64 0, .int .i64 0, .slice none 0 0, .bool false, .bool false, .bool false, .bool false, .bool false, .bool false, .bool false, .bool false, .bool false, .bool false, .bool false, .bool false, .bool false, .nilFunc, .slice none 0 0] 66)
          have hgl := blk_later hgl (ballc _ (.cells #[.int .i64 0, .int .i64 0, .int .i64 0, .int .i64 0, .int .i64 0, .int .i64 0, .int .i64 0, .int .i64 0, .int .i64 0, .int .i64 0, .slice none 0 0, .bool false, .bool false, .bool false, .bool false, .bool false, .bool false, .bool false, .bool false, .bool false, .bool false, .bool false, .bool false, .bool false, .nilFunc, .slice none 0 0] 66))
          have hgc := blk_later hgc (ballc _ (.cells #[.int .i64 0, .int .i64 0, .int .i64 0, .int .i64 0, .int .i64 0, .int .i64 0, .int .i64 0, .int .i64 0, .int .i64 0, .int .i64 0, .slice none 0 0, .bool false, .bool false, .bool false, .bool false, .bool false, .bool false, .bool false, .bool false, .bool false, .bool false, .bool false, .bool false, .bool false, .nilFunc, .slice none 0 0] 66))
          refine hK.out _ _ (blk_later HK.out hCa.out) (fun hHeld => ?_)
          clear hK K
          try simp only [Act.put, List.setIfInBounds_toArray, List.set_cons_zero, List.set_cons_succ]
          refine wpAnyH_ready (rs := [9]) (by kernel_rfl) (by simp) ?_
          refine AllReadyH.cons (o := { dst := some 23, op := Op.call { callee := Callee.value (Operand.func 51), args := #[Operand.tmp 21, Operand.tmp 22], argTypes := #[24, 22] }, type := 63, pos := "king.go:88", after := #[{ on := 7, ground := Ground.data }, { on := 8, ground := Ground.data }, { on := 6, ground := Ground.chain }], guard := none }) rfl (fun K hK => ?_) ?_
          · rw [if_pos (by rfl)]
            go_simp
            go_at_call 51
            refine (HCS.out _ hCa).mono ?_
            rintro e w7 ⟨gb, rfl, hgb, hge, hb⟩
            have hC7 := Chn.below hCa hb
            have kx7 := blk_later kx hb
            have hgl := blk_later hgl hb
            have hgc := blk_later hgc hb
            go_wp2_with fail
            refine hK.out _ _ (blk_later HK.out hC7.out) (fun hHeld => ?_)
            clear hK K
            try simp only [Act.put, List.setIfInBounds_toArray, List.set_cons_zero, List.set_cons_succ]
            refine wpAnyH_take (i := 10) (oi := { dst := some 24, op := Op.build 66 #[(0, Operand.tmp 14), (1, Operand.tmp 17), (2, Operand.tmp 20), (3, Operand.tmp 23)], type := 66, pos := "king.go:88", after := #[{ on := 0, ground := Ground.data }, { on := 3, ground := Ground.data }, { on := 6, ground := Ground.data }, { on := 9, ground := Ground.data }], guard := none }) (v := .agg #[.int .i64 (N : Int), .int .i64 f, .int .i64 d, .int .i64 p, .int .i64 r, .int .i64 dr, .int .i64 o, .int .i64 sl, .int .i64 md, .int .i64 fr, .slice ad zs.length cap, .bool (faB N fs 0), .bool (faB N fs 1), .bool (faB N fs 2), .bool (faB N fs 3), .bool (faB N fs 4), .bool (faB N fs 5), .bool (faB N fs 6), .bool (faB N fs 7), .bool (faB N fs 8), .bool (faB N fs 9), .bool (faB N fs 10), .bool (faB N fs 11), .bool (faB N fs 12), .func (.func 61) #[] #[.pointer (some ⟨gl, 0, none⟩), .pointer (some ⟨gc, 0, none⟩)], .slice (some ⟨gb, 0, none⟩) N N]) rfl (by kernel_rfl) (by kernel_rfl) (by kernel_rfl) (fun _ _ _ h => h) (yieldsIf_build (by rfl) (fun _ => by go_simp)) hHeld ?_
            try simp only [Act.put, List.setIfInBounds_toArray, List.set_cons_zero, List.set_cons_succ]
            refine wpAnyH_ready (rs := [12]) (by kernel_rfl) (by simp) ?_
            refine AllReadyH.cons (o := { dst := none, op := Op.store 66 (Operand.tmp 9) (Operand.tmp 24), type := 0, pos := "king.go:88", after := #[{ on := 11, ground := Ground.data }, { on := 10, ground := Ground.data }, { on := 9, ground := Ground.chain }, { on := 0, ground := Ground.phase }, { on := 1, ground := Ground.phase }, { on := 2, ground := Ground.phase }, { on := 3, ground := Ground.phase }, { on := 4, ground := Ground.phase }, { on := 5, ground := Ground.phase }, { on := 6, ground := Ground.phase }, { on := 7, ground := Ground.phase }, { on := 8, ground := Ground.phase }, { on := 9, ground := Ground.phase }, { on := 10, ground := Ground.phase }, { on := 11, ground := Ground.phase }], guard := none }) rfl (fun K hK => ?_) ?_
            · rw [if_pos (by rfl)]
              refine wp_store_row 66 (.tmp 9) (.tmp 24) rfl w6.heap.size #[.int .i64 (N : Int), .int .i64 f, .int .i64 d, .int .i64 p, .int .i64 r, .int .i64 dr, .int .i64 o, .int .i64 sl, .int .i64 md, .int .i64 fr, .slice ad zs.length cap, .bool (faB N fs 0), .bool (faB N fs 1), .bool (faB N fs 2), .bool (faB N fs 3), .bool (faB N fs 4), .bool (faB N fs 5), .bool (faB N fs 6), .bool (faB N fs 7), .bool (faB N fs 8), .bool (faB N fs 9), .bool (faB N fs 10), .bool (faB N fs 11), .bool (faB N fs 12), .func (.func 61) #[] #[.pointer (some ⟨gl, 0, none⟩), .pointer (some ⟨gc, 0, none⟩)], .slice (some ⟨gb, 0, none⟩) N N] rfl rfl 66 _ kx7 (by kernel_rfl) rfl (by simp [Value.oneCell']) ?_
              have hge : w2.heap.size ≤ w6.heap.size := Chn.le hC6
              have hn1 := blk_ne hgl kx7 (by decide)
              have hn2 := blk_ne hgc kx7 (by decide)
              have hn3 := blk_ne hgb kx7 (by decide)
              have hCr := Chn.row hC7 hge #[.int .i64 (N : Int), .int .i64 f, .int .i64 d, .int .i64 p, .int .i64 r, .int .i64 dr, .int .i64 o, .int .i64 sl, .int .i64 md, .int .i64 fr, .slice ad zs.length cap, .bool (faB N fs 0), .bool (faB N fs 1), .bool (faB N fs 2), .bool (faB N fs 3), .bool (faB N fs 4), .bool (faB N fs 5), .bool (faB N fs 6), .bool (faB N fs 7), .bool (faB N fs 8), .bool (faB N fs 9), .bool (faB N fs 10), .bool (faB N fs 11), .bool (faB N fs 12), .func (.func 61) #[] #[.pointer (some ⟨gl, 0, none⟩), .pointer (some ⟨gc, 0, none⟩)], .slice (some ⟨gb, 0, none⟩) N N]
              have kr := row_same kx7 #[.int .i64 (N : Int), .int .i64 f, .int .i64 d, .int .i64 p, .int .i64 r, .int .i64 dr, .int .i64 o, .int .i64 sl, .int .i64 md, .int .i64 fr, .slice ad zs.length cap, .bool (faB N fs 0), .bool (faB N fs 1), .bool (faB N fs 2), .bool (faB N fs 3), .bool (faB N fs 4), .bool (faB N fs 5), .bool (faB N fs 6), .bool (faB N fs 7), .bool (faB N fs 8), .bool (faB N fs 9), .bool (faB N fs 10), .bool (faB N fs 11), .bool (faB N fs 12), .func (.func 61) #[] #[.pointer (some ⟨gl, 0, none⟩), .pointer (some ⟨gc, 0, none⟩)], .slice (some ⟨gb, 0, none⟩) N N]
              have hgl := row_other hgl hn1 #[.int .i64 (N : Int), .int .i64 f, .int .i64 d, .int .i64 p, .int .i64 r, .int .i64 dr, .int .i64 o, .int .i64 sl, .int .i64 md, .int .i64 fr, .slice ad zs.length cap, .bool (faB N fs 0), .bool (faB N fs 1), .bool (faB N fs 2), .bool (faB N fs 3), .bool (faB N fs 4), .bool (faB N fs 5), .bool (faB N fs 6), .bool (faB N fs 7), .bool (faB N fs 8), .bool (faB N fs 9), .bool (faB N fs 10), .bool (faB N fs 11), .bool (faB N fs 12), .func (.func 61) #[] #[.pointer (some ⟨gl, 0, none⟩), .pointer (some ⟨gc, 0, none⟩)], .slice (some ⟨gb, 0, none⟩) N N]
              have hgc := row_other hgc hn2 #[.int .i64 (N : Int), .int .i64 f, .int .i64 d, .int .i64 p, .int .i64 r, .int .i64 dr, .int .i64 o, .int .i64 sl, .int .i64 md, .int .i64 fr, .slice ad zs.length cap, .bool (faB N fs 0), .bool (faB N fs 1), .bool (faB N fs 2), .bool (faB N fs 3), .bool (faB N fs 4), .bool (faB N fs 5), .bool (faB N fs 6), .bool (faB N fs 7), .bool (faB N fs 8), .bool (faB N fs 9), .bool (faB N fs 10), .bool (faB N fs 11), .bool (faB N fs 12), .func (.func 61) #[] #[.pointer (some ⟨gl, 0, none⟩), .pointer (some ⟨gc, 0, none⟩)], .slice (some ⟨gb, 0, none⟩) N N]
              have hgb : BBlk _ gb (startL N bits) := row_other hgb hn3 #[.int .i64 (N : Int), .int .i64 f, .int .i64 d, .int .i64 p, .int .i64 r, .int .i64 dr, .int .i64 o, .int .i64 sl, .int .i64 md, .int .i64 fr, .slice ad zs.length cap, .bool (faB N fs 0), .bool (faB N fs 1), .bool (faB N fs 2), .bool (faB N fs 3), .bool (faB N fs 4), .bool (faB N fs 5), .bool (faB N fs 6), .bool (faB N fs 7), .bool (faB N fs 8), .bool (faB N fs 9), .bool (faB N fs 10), .bool (faB N fs 11), .bool (faB N fs 12), .func (.func 61) #[] #[.pointer (some ⟨gl, 0, none⟩), .pointer (some ⟨gc, 0, none⟩)], .slice (some ⟨gb, 0, none⟩) N N]
              refine hK.out _ _ (blk_later HK.out hCr.out) (fun hHeld => ?_)
              clear hK K
              try simp only [Act.put]
              refine wpAnyH_done (by kernel_rfl) ?_ _
              go_wp2_with fail
              go_meet
              case rel => exact ⟨_, gl, gc, gb, rfl, kr, hgl, hgc, hgb, hge, hn1, hn2, hCr⟩
            · exact AllReadyH.nil
          exact AllReadyH.nil
        exact AllReadyH.nil
      refine AllReadyH.cons (o := { dst := some 9, op := Op.alloc 66, type := 0, pos := "king.go:88", after := #[], guard := none }) rfl (fun K hK => ?_) ?_
      · rw [if_pos (by rfl)]
        go_simp
        have kx := blk_nw w5 #[.int .i64 0, .int .i64 0, .int .i64 0, .int .i64 0, .int .i64 0, .int .i64 0, .int .i64 0, .int .i64 0, .int .i64 0, .int .i64 0, .slice none 0 0, .bool false, .bool false, .bool false, .bool false, .bool false, .bool false, .bool false, .bool false, .bool false, .bool false, .bool false, .bool false, .bool false, .nilFunc, .slice none 0 0] 66
        have hCa := Chn.alloc hC5 (.cells #[.int .i64 0, .int .i64 0, .int .i64 0, .int .i64 0, .int .i64 0, .int .i64 0, .int .i64 0, .int .i64 0, .int .i64 0, .int .i64 0, .slice none 0 0, .bool false, .bool false, .bool false, .bool false, .bool false, .bool false, .bool false, .bool false, .bool false, .bool false, .bool false, .bool false, .bool false, .nilFunc, .slice none 0 0] 66)
        refine hK.out _ _ (blk_later HK.out hCa.out) (fun hHeld => ?_)
        clear hK K
        try simp only [Act.put, List.setIfInBounds_toArray, List.set_cons_zero, List.set_cons_succ]
        refine wpAnyH_ready (rs := [6]) (by kernel_rfl) (by simp) ?_
        refine AllReadyH.cons (o := { dst := some 20, op := Op.call { callee := Callee.value (Operand.func 50), args := #[Operand.tmp 18, Operand.tmp 19], argTypes := #[24, 22] }, type := 61, pos := "king.go:88", after := #[{ on := 4, ground := Ground.data }, { on := 5, ground := Ground.data }, { on := 3, ground := Ground.chain }], guard := none }) rfl (fun K hK => ?_) ?_
        · rw [if_pos (by rfl)]
          go_simp
          go_at_call 50
          refine (HCL.out _ hCa).mono ?_
          rintro e w6 ⟨gl, gc, rfl, hgl, hgc, hb⟩
          have hC6 := Chn.below hCa hb
          have kx6 := blk_later kx hb
          go_wp2_with fail
          refine hK.out _ _ (blk_later HK.out hC6.out) (fun hHeld => ?_)
          clear hK K
          try simp only [Act.put, List.setIfInBounds_toArray, List.set_cons_zero, List.set_cons_succ]
          refine wpAnyH_ready (rs := [9]) (by kernel_rfl) (by simp) ?_
          refine AllReadyH.cons (o := { dst := some 23, op := Op.call { callee := Callee.value (Operand.func 51), args := #[Operand.tmp 21, Operand.tmp 22], argTypes := #[24, 22] }, type := 63, pos := "king.go:88", after := #[{ on := 7, ground := Ground.data }, { on := 8, ground := Ground.data }, { on := 6, ground := Ground.chain }], guard := none }) rfl (fun K hK => ?_) ?_
          · rw [if_pos (by rfl)]
            go_simp
            go_at_call 51
            refine (HCS.out _ hC6).mono ?_
            rintro e w7 ⟨gb, rfl, hgb, hge, hb⟩
            have hC7 := Chn.below hC6 hb
            have kx7 := blk_later kx6 hb
            have hgl := blk_later hgl hb
            have hgc := blk_later hgc hb
            go_wp2_with fail
            refine hK.out _ _ (blk_later HK.out hC7.out) (fun hHeld => ?_)
            clear hK K
            try simp only [Act.put, List.setIfInBounds_toArray, List.set_cons_zero, List.set_cons_succ]
            refine wpAnyH_take (i := 10) (oi := { dst := some 24, op := Op.build 66 #[(0, Operand.tmp 14), (1, Operand.tmp 17), (2, Operand.tmp 20), (3, Operand.tmp 23)], type := 66, pos := "king.go:88", after := #[{ on := 0, ground := Ground.data }, { on := 3, ground := Ground.data }, { on := 6, ground := Ground.data }, { on := 9, ground := Ground.data }], guard := none }) (v := .agg #[.int .i64 (N : Int), .int .i64 f, .int .i64 d, .int .i64 p, .int .i64 r, .int .i64 dr, .int .i64 o, .int .i64 sl, .int .i64 md, .int .i64 fr, .slice ad zs.length cap, .bool (faB N fs 0), .bool (faB N fs 1), .bool (faB N fs 2), .bool (faB N fs 3), .bool (faB N fs 4), .bool (faB N fs 5), .bool (faB N fs 6), .bool (faB N fs 7), .bool (faB N fs 8), .bool (faB N fs 9), .bool (faB N fs 10), .bool (faB N fs 11), .bool (faB N fs 12), .func (.func 61) #[] #[.pointer (some ⟨gl, 0, none⟩), .pointer (some ⟨gc, 0, none⟩)], .slice (some ⟨gb, 0, none⟩) N N]) rfl (by kernel_rfl) (by kernel_rfl) (by kernel_rfl) (fun _ _ _ h => h) (yieldsIf_build (by rfl) (fun _ => by go_simp)) hHeld ?_
            try simp only [Act.put, List.setIfInBounds_toArray, List.set_cons_zero, List.set_cons_succ]
            refine wpAnyH_ready (rs := [12]) (by kernel_rfl) (by simp) ?_
            refine AllReadyH.cons (o := { dst := none, op := Op.store 66 (Operand.tmp 9) (Operand.tmp 24), type := 0, pos := "king.go:88", after := #[{ on := 11, ground := Ground.data }, { on := 10, ground := Ground.data }, { on := 9, ground := Ground.chain }, { on := 0, ground := Ground.phase }, { on := 1, ground := Ground.phase }, { on := 2, ground := Ground.phase }, { on := 3, ground := Ground.phase }, { on := 4, ground := Ground.phase }, { on := 5, ground := Ground.phase }, { on := 6, ground := Ground.phase }, { on := 7, ground := Ground.phase }, { on := 8, ground := Ground.phase }, { on := 9, ground := Ground.phase }, { on := 10, ground := Ground.phase }, { on := 11, ground := Ground.phase }], guard := none }) rfl (fun K hK => ?_) ?_
            · rw [if_pos (by rfl)]
              refine wp_store_row 66 (.tmp 9) (.tmp 24) rfl w5.heap.size #[.int .i64 (N : Int), .int .i64 f, .int .i64 d, .int .i64 p, .int .i64 r, .int .i64 dr, .int .i64 o, .int .i64 sl, .int .i64 md, .int .i64 fr, .slice ad zs.length cap, .bool (faB N fs 0), .bool (faB N fs 1), .bool (faB N fs 2), .bool (faB N fs 3), .bool (faB N fs 4), .bool (faB N fs 5), .bool (faB N fs 6), .bool (faB N fs 7), .bool (faB N fs 8), .bool (faB N fs 9), .bool (faB N fs 10), .bool (faB N fs 11), .bool (faB N fs 12), .func (.func 61) #[] #[.pointer (some ⟨gl, 0, none⟩), .pointer (some ⟨gc, 0, none⟩)], .slice (some ⟨gb, 0, none⟩) N N] rfl rfl 66 _ kx7 (by kernel_rfl) rfl (by simp [Value.oneCell']) ?_
              have hge : w2.heap.size ≤ w5.heap.size := Chn.le hC5
              have hn1 := blk_ne hgl kx7 (by decide)
              have hn2 := blk_ne hgc kx7 (by decide)
              have hn3 := blk_ne hgb kx7 (by decide)
              have hCr := Chn.row hC7 hge #[.int .i64 (N : Int), .int .i64 f, .int .i64 d, .int .i64 p, .int .i64 r, .int .i64 dr, .int .i64 o, .int .i64 sl, .int .i64 md, .int .i64 fr, .slice ad zs.length cap, .bool (faB N fs 0), .bool (faB N fs 1), .bool (faB N fs 2), .bool (faB N fs 3), .bool (faB N fs 4), .bool (faB N fs 5), .bool (faB N fs 6), .bool (faB N fs 7), .bool (faB N fs 8), .bool (faB N fs 9), .bool (faB N fs 10), .bool (faB N fs 11), .bool (faB N fs 12), .func (.func 61) #[] #[.pointer (some ⟨gl, 0, none⟩), .pointer (some ⟨gc, 0, none⟩)], .slice (some ⟨gb, 0, none⟩) N N]
              have kr := row_same kx7 #[.int .i64 (N : Int), .int .i64 f, .int .i64 d, .int .i64 p, .int .i64 r, .int .i64 dr, .int .i64 o, .int .i64 sl, .int .i64 md, .int .i64 fr, .slice ad zs.length cap, .bool (faB N fs 0), .bool (faB N fs 1), .bool (faB N fs 2), .bool (faB N fs 3), .bool (faB N fs 4), .bool (faB N fs 5), .bool (faB N fs 6), .bool (faB N fs 7), .bool (faB N fs 8), .bool (faB N fs 9), .bool (faB N fs 10), .bool (faB N fs 11), .bool (faB N fs 12), .func (.func 61) #[] #[.pointer (some ⟨gl, 0, none⟩), .pointer (some ⟨gc, 0, none⟩)], .slice (some ⟨gb, 0, none⟩) N N]
              have hgl := row_other hgl hn1 #[.int .i64 (N : Int), .int .i64 f, .int .i64 d, .int .i64 p, .int .i64 r, .int .i64 dr, .int .i64 o, .int .i64 sl, .int .i64 md, .int .i64 fr, .slice ad zs.length cap, .bool (faB N fs 0), .bool (faB N fs 1), .bool (faB N fs 2), .bool (faB N fs 3), .bool (faB N fs 4), .bool (faB N fs 5), .bool (faB N fs 6), .bool (faB N fs 7), .bool (faB N fs 8), .bool (faB N fs 9), .bool (faB N fs 10), .bool (faB N fs 11), .bool (faB N fs 12), .func (.func 61) #[] #[.pointer (some ⟨gl, 0, none⟩), .pointer (some ⟨gc, 0, none⟩)], .slice (some ⟨gb, 0, none⟩) N N]
              have hgc := row_other hgc hn2 #[.int .i64 (N : Int), .int .i64 f, .int .i64 d, .int .i64 p, .int .i64 r, .int .i64 dr, .int .i64 o, .int .i64 sl, .int .i64 md, .int .i64 fr, .slice ad zs.length cap, .bool (faB N fs 0), .bool (faB N fs 1), .bool (faB N fs 2), .bool (faB N fs 3), .bool (faB N fs 4), .bool (faB N fs 5), .bool (faB N fs 6), .bool (faB N fs 7), .bool (faB N fs 8), .bool (faB N fs 9), .bool (faB N fs 10), .bool (faB N fs 11), .bool (faB N fs 12), .func (.func 61) #[] #[.pointer (some ⟨gl, 0, none⟩), .pointer (some ⟨gc, 0, none⟩)], .slice (some ⟨gb, 0, none⟩) N N]
              have hgb : BBlk _ gb (startL N bits) := row_other hgb hn3 #[.int .i64 (N : Int), .int .i64 f, .int .i64 d, .int .i64 p, .int .i64 r, .int .i64 dr, .int .i64 o, .int .i64 sl, .int .i64 md, .int .i64 fr, .slice ad zs.length cap, .bool (faB N fs 0), .bool (faB N fs 1), .bool (faB N fs 2), .bool (faB N fs 3), .bool (faB N fs 4), .bool (faB N fs 5), .bool (faB N fs 6), .bool (faB N fs 7), .bool (faB N fs 8), .bool (faB N fs 9), .bool (faB N fs 10), .bool (faB N fs 11), .bool (faB N fs 12), .func (.func 61) #[] #[.pointer (some ⟨gl, 0, none⟩), .pointer (some ⟨gc, 0, none⟩)], .slice (some ⟨gb, 0, none⟩) N N]
              refine hK.out _ _ (blk_later HK.out hCr.out) (fun hHeld => ?_)
              clear hK K
              try simp only [Act.put]
              refine wpAnyH_done (by kernel_rfl) ?_ _
              go_wp2_with fail
              go_meet
              case rel => exact ⟨_, gl, gc, gb, rfl, kr, hgl, hgc, hgb, hge, hn1, hn2, hCr⟩
            · exact AllReadyH.nil
          exact AllReadyH.nil
        exact AllReadyH.nil
      exact AllReadyH.nil
    refine AllReadyH.cons (o := { dst := some 9, op := Op.alloc 66, type := 0, pos := "king.go:88", after := #[], guard := none }) rfl (fun K hK => ?_) ?_
    · rw [if_pos (by rfl)]
      go_simp
      have kx := blk_nw w2.drew #[.int .i64 0, .int .i64 0, .int .i64 0, .int .i64 0, .int .i64 0, .int .i64 0, .int .i64 0, .int .i64 0, .int .i64 0, .int .i64 0, .slice none 0 0, .bool false, .bool false, .bool false, .bool false, .bool false, .bool false, .bool false, .bool false, .bool false, .bool false, .bool false, .bool false, .bool false, .nilFunc, .slice none 0 0] 66
      have hCa := Chn.alloc hC0 (.cells #[.int .i64 0, .int .i64 0, .int .i64 0, .int .i64 0, .int .i64 0, .int .i64 0, .int .i64 0, .int .i64 0, .int .i64 0, .int .i64 0, .slice none 0 0, .bool false, .bool false, .bool false, .bool false, .bool false, .bool false, .bool false, .bool false, .bool false, .bool false, .bool false, .bool false, .bool false, .nilFunc, .slice none 0 0] 66)
      refine hK.out _ _ (blk_later HK.out hCa.out) (fun hHeld => ?_)
      clear hK K
      try simp only [Act.put, List.setIfInBounds_toArray, List.set_cons_zero, List.set_cons_succ]
      refine wpAnyH_ready (rs := [3]) (by kernel_rfl) (by simp) ?_
      refine AllReadyH.cons (o := { dst := some 17, op := Op.call { callee := Callee.value (Operand.func 49), args := #[Operand.tmp 15, Operand.tmp 16], argTypes := #[24, 22] }, type := 59, pos := "king.go:88", after := #[{ on := 1, ground := Ground.data }, { on := 2, ground := Ground.data }], guard := none }) rfl (fun K hK => ?_) ?_
      · rw [if_pos (by rfl)]
        go_simp
        go_at_call 49
        refine (HCM.out _ hCa).mono ?_
        rintro e w5 ⟨rfl, hb⟩
        have hC5 := Chn.below hCa hb
        have kx5 := blk_later kx hb
        go_wp2_with fail
        refine hK.out _ _ (blk_later HK.out hC5.out) (fun hHeld => ?_)
        clear hK K
        try simp only [Act.put, List.setIfInBounds_toArray, List.set_cons_zero, List.set_cons_succ]
        refine wpAnyH_ready (rs := [6]) (by kernel_rfl) (by simp) ?_
        refine AllReadyH.cons (o := { dst := some 20, op := Op.call { callee := Callee.value (Operand.func 50), args := #[Operand.tmp 18, Operand.tmp 19], argTypes := #[24, 22] }, type := 61, pos := "king.go:88", after := #[{ on := 4, ground := Ground.data }, { on := 5, ground := Ground.data }, { on := 3, ground := Ground.chain }], guard := none }) rfl (fun K hK => ?_) ?_
        · rw [if_pos (by rfl)]
          go_simp
          go_at_call 50
          refine (HCL.out _ hC5).mono ?_
          rintro e w6 ⟨gl, gc, rfl, hgl, hgc, hb⟩
          have hC6 := Chn.below hC5 hb
          have kx6 := blk_later kx5 hb
          go_wp2_with fail
          refine hK.out _ _ (blk_later HK.out hC6.out) (fun hHeld => ?_)
          clear hK K
          try simp only [Act.put, List.setIfInBounds_toArray, List.set_cons_zero, List.set_cons_succ]
          refine wpAnyH_ready (rs := [9]) (by kernel_rfl) (by simp) ?_
          refine AllReadyH.cons (o := { dst := some 23, op := Op.call { callee := Callee.value (Operand.func 51), args := #[Operand.tmp 21, Operand.tmp 22], argTypes := #[24, 22] }, type := 63, pos := "king.go:88", after := #[{ on := 7, ground := Ground.data }, { on := 8, ground := Ground.data }, { on := 6, ground := Ground.chain }], guard := none }) rfl (fun K hK => ?_) ?_
          · rw [if_pos (by rfl)]
            go_simp
            go_at_call 51
            refine (HCS.out _ hC6).mono ?_
            rintro e w7 ⟨gb, rfl, hgb, hge, hb⟩
            have hC7 := Chn.below hC6 hb
            have kx7 := blk_later kx6 hb
            have hgl := blk_later hgl hb
            have hgc := blk_later hgc hb
            go_wp2_with fail
            refine hK.out _ _ (blk_later HK.out hC7.out) (fun hHeld => ?_)
            clear hK K
            try simp only [Act.put, List.setIfInBounds_toArray, List.set_cons_zero, List.set_cons_succ]
            refine wpAnyH_take (i := 10) (oi := { dst := some 24, op := Op.build 66 #[(0, Operand.tmp 14), (1, Operand.tmp 17), (2, Operand.tmp 20), (3, Operand.tmp 23)], type := 66, pos := "king.go:88", after := #[{ on := 0, ground := Ground.data }, { on := 3, ground := Ground.data }, { on := 6, ground := Ground.data }, { on := 9, ground := Ground.data }], guard := none }) (v := .agg #[.int .i64 (N : Int), .int .i64 f, .int .i64 d, .int .i64 p, .int .i64 r, .int .i64 dr, .int .i64 o, .int .i64 sl, .int .i64 md, .int .i64 fr, .slice ad zs.length cap, .bool (faB N fs 0), .bool (faB N fs 1), .bool (faB N fs 2), .bool (faB N fs 3), .bool (faB N fs 4), .bool (faB N fs 5), .bool (faB N fs 6), .bool (faB N fs 7), .bool (faB N fs 8), .bool (faB N fs 9), .bool (faB N fs 10), .bool (faB N fs 11), .bool (faB N fs 12), .func (.func 61) #[] #[.pointer (some ⟨gl, 0, none⟩), .pointer (some ⟨gc, 0, none⟩)], .slice (some ⟨gb, 0, none⟩) N N]) rfl (by kernel_rfl) (by kernel_rfl) (by kernel_rfl) (fun _ _ _ h => h) (yieldsIf_build (by rfl) (fun _ => by go_simp)) hHeld ?_
            try simp only [Act.put, List.setIfInBounds_toArray, List.set_cons_zero, List.set_cons_succ]
            refine wpAnyH_ready (rs := [12]) (by kernel_rfl) (by simp) ?_
            refine AllReadyH.cons (o := { dst := none, op := Op.store 66 (Operand.tmp 9) (Operand.tmp 24), type := 0, pos := "king.go:88", after := #[{ on := 11, ground := Ground.data }, { on := 10, ground := Ground.data }, { on := 9, ground := Ground.chain }, { on := 0, ground := Ground.phase }, { on := 1, ground := Ground.phase }, { on := 2, ground := Ground.phase }, { on := 3, ground := Ground.phase }, { on := 4, ground := Ground.phase }, { on := 5, ground := Ground.phase }, { on := 6, ground := Ground.phase }, { on := 7, ground := Ground.phase }, { on := 8, ground := Ground.phase }, { on := 9, ground := Ground.phase }, { on := 10, ground := Ground.phase }, { on := 11, ground := Ground.phase }], guard := none }) rfl (fun K hK => ?_) ?_
            · rw [if_pos (by rfl)]
              refine wp_store_row 66 (.tmp 9) (.tmp 24) rfl w2.drew.heap.size #[.int .i64 (N : Int), .int .i64 f, .int .i64 d, .int .i64 p, .int .i64 r, .int .i64 dr, .int .i64 o, .int .i64 sl, .int .i64 md, .int .i64 fr, .slice ad zs.length cap, .bool (faB N fs 0), .bool (faB N fs 1), .bool (faB N fs 2), .bool (faB N fs 3), .bool (faB N fs 4), .bool (faB N fs 5), .bool (faB N fs 6), .bool (faB N fs 7), .bool (faB N fs 8), .bool (faB N fs 9), .bool (faB N fs 10), .bool (faB N fs 11), .bool (faB N fs 12), .func (.func 61) #[] #[.pointer (some ⟨gl, 0, none⟩), .pointer (some ⟨gc, 0, none⟩)], .slice (some ⟨gb, 0, none⟩) N N] rfl rfl 66 _ kx7 (by kernel_rfl) rfl (by simp [Value.oneCell']) ?_
              have hge : w2.heap.size ≤ w2.drew.heap.size := Chn.le hC0
              have hn1 := blk_ne hgl kx7 (by decide)
              have hn2 := blk_ne hgc kx7 (by decide)
              have hn3 := blk_ne hgb kx7 (by decide)
              have hCr := Chn.row hC7 hge #[.int .i64 (N : Int), .int .i64 f, .int .i64 d, .int .i64 p, .int .i64 r, .int .i64 dr, .int .i64 o, .int .i64 sl, .int .i64 md, .int .i64 fr, .slice ad zs.length cap, .bool (faB N fs 0), .bool (faB N fs 1), .bool (faB N fs 2), .bool (faB N fs 3), .bool (faB N fs 4), .bool (faB N fs 5), .bool (faB N fs 6), .bool (faB N fs 7), .bool (faB N fs 8), .bool (faB N fs 9), .bool (faB N fs 10), .bool (faB N fs 11), .bool (faB N fs 12), .func (.func 61) #[] #[.pointer (some ⟨gl, 0, none⟩), .pointer (some ⟨gc, 0, none⟩)], .slice (some ⟨gb, 0, none⟩) N N]
              have kr := row_same kx7 #[.int .i64 (N : Int), .int .i64 f, .int .i64 d, .int .i64 p, .int .i64 r, .int .i64 dr, .int .i64 o, .int .i64 sl, .int .i64 md, .int .i64 fr, .slice ad zs.length cap, .bool (faB N fs 0), .bool (faB N fs 1), .bool (faB N fs 2), .bool (faB N fs 3), .bool (faB N fs 4), .bool (faB N fs 5), .bool (faB N fs 6), .bool (faB N fs 7), .bool (faB N fs 8), .bool (faB N fs 9), .bool (faB N fs 10), .bool (faB N fs 11), .bool (faB N fs 12), .func (.func 61) #[] #[.pointer (some ⟨gl, 0, none⟩), .pointer (some ⟨gc, 0, none⟩)], .slice (some ⟨gb, 0, none⟩) N N]
              have hgl := row_other hgl hn1 #[.int .i64 (N : Int), .int .i64 f, .int .i64 d, .int .i64 p, .int .i64 r, .int .i64 dr, .int .i64 o, .int .i64 sl, .int .i64 md, .int .i64 fr, .slice ad zs.length cap, .bool (faB N fs 0), .bool (faB N fs 1), .bool (faB N fs 2), .bool (faB N fs 3), .bool (faB N fs 4), .bool (faB N fs 5), .bool (faB N fs 6), .bool (faB N fs 7), .bool (faB N fs 8), .bool (faB N fs 9), .bool (faB N fs 10), .bool (faB N fs 11), .bool (faB N fs 12), .func (.func 61) #[] #[.pointer (some ⟨gl, 0, none⟩), .pointer (some ⟨gc, 0, none⟩)], .slice (some ⟨gb, 0, none⟩) N N]
              have hgc := row_other hgc hn2 #[.int .i64 (N : Int), .int .i64 f, .int .i64 d, .int .i64 p, .int .i64 r, .int .i64 dr, .int .i64 o, .int .i64 sl, .int .i64 md, .int .i64 fr, .slice ad zs.length cap, .bool (faB N fs 0), .bool (faB N fs 1), .bool (faB N fs 2), .bool (faB N fs 3), .bool (faB N fs 4), .bool (faB N fs 5), .bool (faB N fs 6), .bool (faB N fs 7), .bool (faB N fs 8), .bool (faB N fs 9), .bool (faB N fs 10), .bool (faB N fs 11), .bool (faB N fs 12), .func (.func 61) #[] #[.pointer (some ⟨gl, 0, none⟩), .pointer (some ⟨gc, 0, none⟩)], .slice (some ⟨gb, 0, none⟩) N N]
              have hgb : BBlk _ gb (startL N bits) := row_other hgb hn3 #[.int .i64 (N : Int), .int .i64 f, .int .i64 d, .int .i64 p, .int .i64 r, .int .i64 dr, .int .i64 o, .int .i64 sl, .int .i64 md, .int .i64 fr, .slice ad zs.length cap, .bool (faB N fs 0), .bool (faB N fs 1), .bool (faB N fs 2), .bool (faB N fs 3), .bool (faB N fs 4), .bool (faB N fs 5), .bool (faB N fs 6), .bool (faB N fs 7), .bool (faB N fs 8), .bool (faB N fs 9), .bool (faB N fs 10), .bool (faB N fs 11), .bool (faB N fs 12), .func (.func 61) #[] #[.pointer (some ⟨gl, 0, none⟩), .pointer (some ⟨gc, 0, none⟩)], .slice (some ⟨gb, 0, none⟩) N N]
              refine hK.out _ _ (blk_later HK.out hCr.out) (fun hHeld => ?_)
              clear hK K
              try simp only [Act.put]
              refine wpAnyH_done (by kernel_rfl) ?_ _
              go_wp2_with fail
              go_meet
              case rel => exact ⟨_, gl, gc, gb, rfl, kr, hgl, hgc, hgb, hge, hn1, hn2, hCr⟩
            · exact AllReadyH.nil
          exact AllReadyH.nil
        exact AllReadyH.nil
      exact AllReadyH.nil
    exact AllReadyH.nil
  case rest =>
    obtain ⟨g, gl, gc, gb, rfl, hI, hgl, hgc, hgb, hge, hn1, hn2, hC⟩ := hcut
    have HI := hidden hI
    have HGL := hidden hgl
    have HGC := hidden hgc
    have HGB := hidden hgb
    have HCH := hidden hC
    have hkc := blk_later HK.out hC.out
    have c0 := fun i => blk_cell hkc i
    have l0 := blk_lt hkc
    have HR := hidden (Rounds_any (N : Int) f d p r dr o sl md fr ad cap zs _ hl (HT.out.below hC.out))
    rw [HE.out, gate_ok] at HR
    have hR : 3 * (f + 1) = ((3 * (F + 1) : Nat) : Int) := by rw [HF.out]; omega
    rw [hR] at HR
    obtain ⟨R, hRR⟩ : ∃ R, R = 3 * (F + 1) := ⟨_, rfl⟩
    rw [← hRR] at HR
    have HRR := hidden hRR
    have hR100 : R ≤ 3 * N := by have := HFN.out; omega
    clear hI hgl hgc hgb hC hkc hR hRR
    go_wp2_with fail
    refine HR.out.mono ?_
    rintro e w8 ⟨rfl, hb8⟩
    have hC8 := HCH.out.below hb8
    have h8I := hidden (show InsB w8 g N f d p r dr o sl md fr ad cap zs (faB N fs) gl gc gb from blk_later HI.out hb8)
    have h8L := hidden (blk_later HGL.out hb8)
    have h8C := hidden (blk_later HGC.out hb8)
    have h8B := hidden (HGB.out.later hb8)
    have H8 := hidden hC8
    clear hb8 HI HGL HGC HGB HCH c0 l0 hC8 HR
    have hR15 : R ≤ 15 := by have := HFN.out; have := HRR.out; omega
    have HRN : Hid (∀ k, k < R → k / 3 < N) := by show ∀ _, _; intro k hk; have := HFN.out; have := HRR.out; omega
    clear hR100
    go_wp2_with fail
    go_loopw [27] (fun i wr => ∃ k gb' : Nat, k ≤ R ∧ i = .int .i64 k ∧ InsB wr g N f d p r dr o sl md fr ad cap zs (faB N fs) gl gc gb' ∧ wr.heap[gl]? = some (.cells #[.slice a3 vs.length c3] 22 (0, 0)) ∧ wr.heap[gc]? = some (.cells #[.int .i64 (N : Int), .int .i64 f, .int .i64 d, .int .i64 p, .int .i64 r, .int .i64 dr, .int .i64 o, .int .i64 sl, .int .i64 md, .int .i64 fr, .slice ad zs.length cap] 24 (0, 0)) ∧ BBlk wr gb' (playL (faB N fs) vs N f bits k) ∧ Chn w2.heap.size w2 wr) (fun i _ => R - (intV i).toNat)
    case atStart => exact ⟨0, gb, Nat.zero_le _, rfl, h8I.out, h8L.out, h8C.out, h8B.out, H8.out⟩
    case round =>
      obtain ⟨k, gb', hk, rfl, hI, hgl, hgc, hgb, hC⟩ := hrel
      have HIb := hidden (show wr.heap[g]? = some (.cells #[.int .i64 (N : Int), .int .i64 f, .int .i64 d, .int .i64 p, .int .i64 r, .int .i64 dr, .int .i64 o, .int .i64 sl, .int .i64 md, .int .i64 fr, .slice ad zs.length cap, .bool (faB N fs 0), .bool (faB N fs 1), .bool (faB N fs 2), .bool (faB N fs 3), .bool (faB N fs 4), .bool (faB N fs 5), .bool (faB N fs 6), .bool (faB N fs 7), .bool (faB N fs 8), .bool (faB N fs 9), .bool (faB N fs 10), .bool (faB N fs 11), .bool (faB N fs 12), .func (.func 61) #[] #[.pointer (some ⟨gl, 0, none⟩), .pointer (some ⟨gc, 0, none⟩)], .slice (some ⟨gb', 0, none⟩) N N] 66 (0, 0)) from hI)
      have hli := blk_lt hI
      clear h8I h8L h8C h8B H8
      by_cases hlt : k < R
      · have i2 : (k : Int) < (R : Int) := by omega
        have CE := hidden (exchange_any N f d p r dr o sl md fr ad cap zs hN2 (faB N fs) gl gc gb' a3 c3 vs _ (playL_len (faB N fs) vs N f bits k) k (by omega) (HRN.out k hlt) wr hl (HT.out.below hC.out) HE.out h3 (HV3.out.later hC.out) hgl hgc hgb)
        have HPS : Hid (exchL (faB N fs) vs N f k (playL (faB N fs) vs N f bits k) = playL (faB N fs) vs N f bits (k + 1)) := rfl
        have HGL := hidden hgl
        have HGC := hidden hgc
        have HC := hidden hC
        clear hI hgl hgc hgb hC
        go_wp2_with (refine wpList_load_row rfl 66 _ rfl g rfl _ _ _ _ HIb.out Try.underlying66 rfl (by kernel_rfl) ?_)
        refine CE.out.mono ?_
        rintro e w9 ⟨g', rfl, hB9, hg9, hb9⟩
        rw [HPS.out] at hB9
        have HI9 := hidden (blk_later HIb.out hb9)
        have c9 := fun i => blk_cell HI9.out i
        have f9 := fun i => blk_frozen HI9.out i
        have l9 := blk_lt HI9.out
        have HB9 := hidden hB9
        have HL9 := hidden (blk_later HGL.out hb9)
        have HG9 := hidden (blk_later HGC.out hb9)
        have HC9 := hidden (HC.out.below hb9)
        have HN9 : Hid (g' ≠ g) := by show _ ≠ _; omega
        clear hb9 hB9 CE HPS HGL HGC HC HIb
        go_wp2
        go_roundw
        case rel =>
          refine ⟨k + 1, g', by omega, by go_num, ?_, blk_other HL9.out ⟨g, 25, none⟩ _ hn1, blk_other HG9.out ⟨g, 25, none⟩ _ hn2, blk_other HB9.out ⟨g, 25, none⟩ _ HN9.out, Chn.set HC9.out g 25 hge _⟩
          have hh := heap_setCell_same w9 g 25 _ _ (.slice (some ⟨g', 0, none⟩) N N) HI9.out
          exact hh
        case measure => simp [intV]; omega
      · obtain rfl : k = R := by omega
        have CE := hidden (ends_any N f d p r dr o sl md fr ad cap zs hN2 (faB N fs) gl gc gb' _ (playL_len (faB N fs) vs N f bits k) wr hgb)
        rw [HRR.out] at CE
        have HC := hidden hC
        have i2 : ¬ (k : Int) < (k : Int) := by omega
        clear hI hgl hgc hgb hC
        go_wp2_with (refine wpList_load_row rfl 66 _ rfl g rfl _ _ _ _ HIb.out Try.underlying66 rfl (by kernel_rfl) ?_)
        refine CE.out.mono ?_
        rintro e w9 ⟨g', rfl, hB9, hb9⟩
        have HB9 := hidden hB9
        have HC9 := hidden (HC.out.below hb9)
        clear hB9 hb9 CE HIb
        go_wp2
        go_ret
        exact ⟨g', rfl, HB9.out, bthen HB2.out HC9.out.out⟩
end Go.Proofs.Ytklcjfbdneallaa
