/- The call Decode of package wire returns what a plain function decodes of bytes, and makes at most new memory; conditions: the table lies where it says, and lengths fit int. -/
import Derived.Test.YtcnmbpgjgjncdaaWireG
namespace Go.Proofs.Ytcnmbpgjgjncdaa
open Go.ChangeShapes Go.WideShapes Go.ChangeAt Go.RowKit
set_option linter.unusedVariables false

theorem encF_key {E R B L M : Int} {g : Pk} {s : ByteArray} : ((encF E R B L M g).2 = 0 ∧ (encF E R B L M g).1 = s) ↔ (pkR E R B L M g = 0 ∧ sealB g = s) := by
  unfold encF
  by_cases h : pkR E R B L M g = 0
  · rw [if_pos h]; simp [h]
  · rw [if_neg h]; simp [h]
set_option maxHeartbeats 2000000 in
theorem Decode_any (n f d p r dr o sl md fr : Int) (ad : Option Addr) (cap : Nat) (zs : List Int) (s : ByteArray) (w : World) (hl : zs.length ≤ 9223372036854775807) (hT : Tab w ad zs) (hs : s.size ≤ 9223372036854775807) :
    Calls Try.prog 14 #[.agg #[.int .i64 n, .int .i64 f, .int .i64 d, .int .i64 p, .int .i64 r, .int .i64 dr, .int .i64 o, .int .i64 sl, .int .i64 md, .int .i64 fr, .slice ad zs.length cap], .string s] w fun e w' => e = .returned (.tuple #[.agg #[.string (decP (plainE n f d p r dr o sl md fr zs) (3 * (f + 1)) (8 + n) zs.length md s).1.vo, .int .i64 (decP (plainE n f d p r dr o sl md fr zs) (3 * (f + 1)) (8 + n) zs.length md s).1.ex, .string (decP (plainE n f d p r dr o sl md fr zs) (3 * (f + 1)) (8 + n) zs.length md s).1.ve, .int .i64 (decP (plainE n f d p r dr o sl md fr zs) (3 * (f + 1)) (8 + n) zs.length md s).1.ps, .int .i64 (decP (plainE n f d p r dr o sl md fr zs) (3 * (f + 1)) (8 + n) zs.length md s).1.cy, .string (decP (plainE n f d p r dr o sl md fr zs) (3 * (f + 1)) (8 + n) zs.length md s).1.te], .int .i64 (decP (plainE n f d p r dr o sl md fr zs) (3 * (f + 1)) (8 + n) zs.length md s).2]) ∧ Below w.heap.size w w' := by
  by_cases hE : plainE n f d p r dr o sl md fr zs = 0
  · by_cases h40 : 40 < s.size
    · have e : decP (plainE n f d p r dr o sl md fr zs) (3 * (f + 1)) (8 + n) zs.length md s = (pk0, 6) := by unfold decP; rw [if_neg (not_not_intro hE), if_pos h40]
      have C1 := fun V h => plain_any n f d p r dr o sl md fr ad cap zs V hl h
      rw [e]
      rw [hE] at C1
      have HT := hidden (hT.below (bthen (ballc w (.cells #[.int .i64 n, .int .i64 f, .int .i64 d, .int .i64 p, .int .i64 r, .int .i64 dr, .int .i64 o, .int .i64 sl, .int .i64 md, .int .i64 fr, .slice ad zs.length cap] 24)) (ballc _ (.cells #[.string ⟨#[]⟩, .int .i64 0, .string ⟨#[]⟩, .int .i64 0, .int .i64 0, .string ⟨#[]⟩] 26))))
      have h40' : (40 : Int) < (s.size : Int) := by omega
      clear hT hE e
      go_enter Try.func14, Try.ntmps14
      go_wp2_with fail
      refine (C1 _ HT.out).mono ?_
      rintro e w1 ⟨rfl, hb⟩
      have hz := blk_second _ _ _ _ hb
      have kc := blk_cell hz
      have kf := blk_frozen hz
      have HZ := hidden hz
      have HB := hidden (bthen (bthen (ballc w _) (ballc _ _)) hb)
      clear hb hz C1
      go_wp2
      obtain ⟨r0, r1, r2, r3, r4, r5⟩ := read6T HZ.out (.string ⟨#[]⟩) (.int .i64 0) (.string ⟨#[]⟩) (.int .i64 0) (.int .i64 0) (.string ⟨#[]⟩)
      exact bodyPost_ret (v := .tuple #[.agg #[.string ⟨#[]⟩, .int .i64 0, .string ⟨#[]⟩, .int .i64 0, .int .i64 0, .string ⟨#[]⟩], .int .i64 6]) (by simp [results, Try.results14, go_sem, r0, r1, r2, r3, r4, r5]) rfl ⟨rfl, below6T HB.out (by omega) _ _ _ _ _ _⟩
    · by_cases ho : (openF s).2 = 0
      · have e : decP (plainE n f d p r dr o sl md fr zs) (3 * (f + 1)) (8 + n) zs.length md s = if (encF 0 (3 * (f + 1)) (8 + n) zs.length md (readF (bl (openF s).1) (3 * (f + 1)).toNat (8 + n).toNat)).2 = 0 ∧ (encF 0 (3 * (f + 1)) (8 + n) zs.length md (readF (bl (openF s).1) (3 * (f + 1)).toNat (8 + n).toNat)).1 = s then (readF (bl (openF s).1) (3 * (f + 1)).toNat (8 + n).toNat, (0 : Int)) else (pk0, 3) := by
          unfold decP
          rw [if_neg (not_not_intro hE), if_neg h40, if_neg (not_not_intro ho), hE]
          by_cases hk : pkR 0 (3 * (f + 1)) (8 + n) zs.length md (readF (bl (openF s).1) (3 * (f + 1)).toNat (8 + n).toNat) = 0 ∧ sealB (readF (bl (openF s).1) (3 * (f + 1)).toNat (8 + n).toNat) = s
          · rw [if_pos hk, if_pos (encF_key.2 hk)]
          · rw [if_neg hk, if_neg (fun k => hk (encF_key.1 k))]
        have hL := Decode_late n f d p r dr o sl md fr ad cap zs s w hl hT hE h40 ho _ rfl (decP (plainE n f d p r dr o sl md fr zs) (3 * (f + 1)) (8 + n) zs.length md s).1 (decP (plainE n f d p r dr o sl md fr zs) (3 * (f + 1)) (8 + n) zs.length md s).2 (e.symm)
        exact hL
      · have e : decP (plainE n f d p r dr o sl md fr zs) (3 * (f + 1)) (8 + n) zs.length md s = (pk0, (openF s).2) := by unfold decP; rw [if_neg (not_not_intro hE), if_neg h40, if_pos ho]
        have C1 := fun V h => plain_any n f d p r dr o sl md fr ad cap zs V hl h
        have C2 := fun V => open_any s V (by omega)
        rw [e]
        rw [hE] at C1
        have HT := hidden (hT.below (bthen (ballc w (.cells #[.int .i64 n, .int .i64 f, .int .i64 d, .int .i64 p, .int .i64 r, .int .i64 dr, .int .i64 o, .int .i64 sl, .int .i64 md, .int .i64 fr, .slice ad zs.length cap] 24)) (ballc _ (.cells #[.string ⟨#[]⟩, .int .i64 0, .string ⟨#[]⟩, .int .i64 0, .int .i64 0, .string ⟨#[]⟩] 26))))
        have h40' : ¬ (40 : Int) < (s.size : Int) := by omega
        clear hT hE e
        generalize openF s = O at *
        obtain ⟨O1, O2⟩ := O
        dsimp only at *
        have ho' : (O2 != 0) = true := by simp [ho]
        go_enter Try.func14, Try.ntmps14
        go_wp2_with fail
        refine (C1 _ HT.out).mono ?_
        rintro e w1 ⟨rfl, hb⟩
        have HB1 := hidden hb
        clear hb C1
        go_wp2_with fail
        refine (C2 _).mono ?_
        rintro e w2 ⟨rfl, hb⟩
        have hb := bthen HB1.out hb
        have hz := blk_second _ _ _ _ hb
        have kc := blk_cell hz
        have kf := blk_frozen hz
        have HZ := hidden hz
        have HB := hidden (bthen (bthen (ballc w _) (ballc _ _)) hb)
        clear hb hz C2 HB1
        go_wp2
        obtain ⟨r0, r1, r2, r3, r4, r5⟩ := read6T HZ.out (.string ⟨#[]⟩) (.int .i64 0) (.string ⟨#[]⟩) (.int .i64 0) (.int .i64 0) (.string ⟨#[]⟩)
        exact bodyPost_ret (v := .tuple #[.agg #[.string ⟨#[]⟩, .int .i64 0, .string ⟨#[]⟩, .int .i64 0, .int .i64 0, .string ⟨#[]⟩], .int .i64 O2]) (by simp [results, Try.results14, go_sem, r0, r1, r2, r3, r4, r5]) rfl ⟨rfl, below6T HB.out (by omega) _ _ _ _ _ _⟩
  · have e : decP (plainE n f d p r dr o sl md fr zs) (3 * (f + 1)) (8 + n) zs.length md s = (pk0, plainE n f d p r dr o sl md fr zs) := by unfold decP; rw [if_pos hE]
    have C1 := fun V h => plain_any n f d p r dr o sl md fr ad cap zs V hl h
    rw [e]
    clear e
    generalize plainE n f d p r dr o sl md fr zs = E at *
    have HT := hidden (hT.below (bthen (ballc w (.cells #[.int .i64 n, .int .i64 f, .int .i64 d, .int .i64 p, .int .i64 r, .int .i64 dr, .int .i64 o, .int .i64 sl, .int .i64 md, .int .i64 fr, .slice ad zs.length cap] 24)) (ballc _ (.cells #[.string ⟨#[]⟩, .int .i64 0, .string ⟨#[]⟩, .int .i64 0, .int .i64 0, .string ⟨#[]⟩] 26))))
    have hE' : (E != 0) = true := by simp [hE]
    clear hT
    go_enter Try.func14, Try.ntmps14
    go_wp2_with fail
    refine (C1 _ HT.out).mono ?_
    rintro e w1 ⟨rfl, hb⟩
    have hz := blk_second _ _ _ _ hb
    have kc := blk_cell hz
    have kf := blk_frozen hz
    have HZ := hidden hz
    have HB := hidden (bthen (bthen (ballc w _) (ballc _ _)) hb)
    clear hb hz C1
    go_wp2
    obtain ⟨r0, r1, r2, r3, r4, r5⟩ := read6T HZ.out (.string ⟨#[]⟩) (.int .i64 0) (.string ⟨#[]⟩) (.int .i64 0) (.int .i64 0) (.string ⟨#[]⟩)
    exact bodyPost_ret (v := .tuple #[.agg #[.string ⟨#[]⟩, .int .i64 0, .string ⟨#[]⟩, .int .i64 0, .int .i64 0, .string ⟨#[]⟩], .int .i64 E]) (by simp [results, Try.results14, go_sem, r0, r1, r2, r3, r4, r5]) rfl ⟨rfl, below6T HB.out (by omega) _ _ _ _ _ _⟩
end Go.Proofs.Ytcnmbpgjgjncdaa
