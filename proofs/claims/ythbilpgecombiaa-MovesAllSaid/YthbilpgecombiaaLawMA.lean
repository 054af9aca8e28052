/- gamehalllaw1.MovesAll: All and Legal return what the reference says. -/
import Derived.Test.YthbilpgecombiaaRefL
import Derived.Test.YthbilpgecombiaaRefE
import Derived.Test.YthbilpgecombiaaPlayL
import Derived.Test.YthbilpgecombiaaMovE
set_option maxRecDepth 100000
namespace Go.Proofs.Ythbilpgecombiaa
open Go.ChangeShapes Go.WideShapes Go.ChangeAt Go.RowKit

theorem legalE_bad {r : RulesD} {p : PlaceD} {m : MoveD} (h : placeE r p ≠ 0) : legalE r p m = false := by rw [legalE, decide_eq_false h]; rfl
theorem legalE_good {r : RulesD} {p : PlaceD} {m : MoveD} (h : placeE r p = 0) : legalE r p m = legalB r p m := by rw [legalE, decide_eq_true h]; rfl
set_option maxHeartbeats 8000000 in
theorem movesAll_full (r : RulesD) (p : PlaceD) (m : MoveD) (vp vs ve vc v0 v1 : Value) (w : World) (hr : RulesIn w r vp vs ve) (hf : LettersFit r.pieces) (hp : PlaceIn w p vc v0 v1) :
    Calls Try.prog 6 #[RulesV r vp vs ve, PlaceV p vc v0 v1, moveV m] w (BelPost (.bool true) w) := by
  obtain ⟨n, hn⟩ : ∃ n, n = p.cells.length := ⟨_, rfl⟩
  obtain ⟨ca, cc, rfl, hcc, _⟩ := hp.c.shape hn
  obtain ⟨V, hV, hB, hY, hX, hM, _⟩ := rpm_boxes w r p vp vs ve (.slice ca n cc) v0 v1 m
  have HRI : Hid (∀ W, Below V.heap.size V W → RulesIn W r vp vs ve) := Lib.hid (fun W hb => (hr.below hB (Nat.le_refl _)).below hb (Nat.le_refl _))
  have HPI : Hid (∀ W, Below V.heap.size V W → PlaceIn W p (.slice ca n cc) v0 v1) := Lib.hid (fun W hb => (hp.below hB (Nat.le_refl _)).below hb (Nat.le_refl _))
  obtain ⟨E, hE⟩ : ∃ E, E = placeE r p := ⟨_, rfl⟩
  have HPE : Hid (∀ W, Below V.heap.size V W → Calls Try.prog 22 #[RulesV r vp vs ve, PlaceV p (.slice ca n cc) v0 v1] W (BelPost (.int .i64 E) W)) := Lib.hid (fun W hb => by rw [hE]; exact placeErr_any r p vp vs ve _ v0 v1 W (HRI.out W hb) hf (HPI.out W hb))
  have HLE : Hid (∀ W, Below V.heap.size V W → Calls Try.prog 14 #[RulesV r vp vs ve, PlaceV p (.slice ca n cc) v0 v1, moveV m] W (LegPost (legalE r p m) E W)) := Lib.hid (fun W hb => by rw [hE]; exact legal_any r p vp vs ve _ v0 v1 m W (HRI.out W hb) (HPI.out W hb))
  have HB := Lib.hid hB
  have HX : Hid (∀ W, Below V.heap.size V W → BoxP W (w.heap.size + 1) p (.slice ca n cc) v0 v1) := Lib.hid (fun W hb => hX.below hb (Nat.le_refl _))
  have HY : Hid (∀ W, Below V.heap.size V W → BoxR W w.heap.size r vp vs ve) := Lib.hid (fun W hb => hY.below hb (Nat.le_refl _))
  have HM : Hid (∀ W, Below V.heap.size V W → W.cell? ⟨w.heap.size + 2, 0, none⟩ = some (.int .i64 m.1) ∧ W.cell? ⟨w.heap.size + 2, 1, none⟩ = some (.int .i64 m.2.1) ∧ W.cell? ⟨w.heap.size + 2, 2, none⟩ = some (.int .i64 m.2.2)) := Lib.hid (fun W hb => (hM.below hb (Nat.le_refl _)).parts)
  have HPL := Lib.hid plays_any
  unfold RulesCells PlaceCells at hV
  by_cases hz : E = 0
  · have hk := placeE_iff.1 (hE.symm.trans hz)
    rw [legalE_good (hE.symm.trans hz)] at HLE
    have HAL : Hid (∀ W, Below V.heap.size V W → Calls Try.prog 12 #[RulesV r vp vs ve, PlaceV p (.slice ca n cc) v0 v1] W (ListPost (allD r p) W)) := Lib.hid (fun W hb => all_ok r p vp vs ve _ v0 v1 W (HRI.out W hb) (HPI.out W hb) hk)
    have HAW : Hid (∀ W, Below V.heap.size V W → Calls Try.prog 23 #[RulesV r vp vs ve, PlaceV p (.slice ca n cc) v0 v1, moveV m] W (BelPost (.bool (legalB r p m)) W)) := Lib.hid (fun W hb => allowed_any r p vp vs ve _ v0 v1 m W (HRI.out W hb).1 (HPI.out W hb) hk)
    have HMV : Hid (∀ W, Below V.heap.size V W → Calls Try.prog 25 #[RulesV r vp vs ve, PlaceV p (.slice ca n cc) v0 v1] W (MovesPost (allD r p) W)) := Lib.hid (fun W hb => refMoves_any r p vp vs ve _ v0 v1 W (HRI.out W hb).1 (HPI.out W hb) hk)
    have hal := allD_length hk
    have hn64 := (cells_len hk).2
    rw [← hn] at hn64
    obtain ⟨L, hL⟩ : ∃ L, L = legalB r p m := ⟨_, rfl⟩
    obtain ⟨ms, hms⟩ : ∃ ms, ms = allD r p := ⟨_, rfl⟩
    rw [← hL] at HLE HAW
    rw [← hms] at HAL HMV hal
    have HLN := Lib.hid hal
    subst hz
    obtain ⟨m1, m2, m3⟩ := m
    unfold RulesV PlaceV PlaceCells at HPE HLE HAL HAW HMV
    unfold moveV at HLE HAW
    unfold RulesV PlaceV PlaceCells moveV
    dsimp only at hV HM HLE HAW ⊢
    clear hr hf hp hB hn hE hk hX hY hM HRI HPI hL hms hcc hal
    by_cases h20 : n ≤ 20
    · have hd : decide ((n : Int) > 20) = false := by simp; omega
      clear h20
      go_enter Try.func6, Try.ntmps6
      go_wp2_with fail
      rw [← hV]
      clear hV
      go_at_call 21; refine (HPL.out _).mono ?_; rintro e w1 ⟨rfl, hb1⟩
      have HB1 := Lib.hid hb1
      clear hb1 HPL
      obtain ⟨x0, x1, x2, x3, x4⟩ := HX.out w1 HB1.out
      obtain ⟨y0, y1, y2, y3, y4, y5, y6, y7, y8, y9, y10⟩ := HY.out w1 HB1.out
      go_wp2_with fail
      go_at_call 12; refine (HAL.out _ HB1.out).mono ?_; rintro e w2 ⟨la, ln, lc, rfl, hI2, hln, hb⟩
      have HB2 := Lib.hid (HB1.out.trans (hb.mono HB1.out.size))
      have HI2 := Lib.hid hI2
      clear hI2 hb HB1 HAL x0 x1 x2 x3 x4 y0 y1 y2 y3 y4 y5 y6 y7 y8 y9 y10
      obtain ⟨x0, x1, x2, x3, x4⟩ := HX.out w2 HB2.out
      obtain ⟨y0, y1, y2, y3, y4, y5, y6, y7, y8, y9, y10⟩ := HY.out w2 HB2.out
      obtain ⟨z0, z1, z2⟩ := HM.out w2 HB2.out
      have HLL := Lib.hid hln
      clear hln
      go_wp2_with fail
      go_at_call 14; refine (HLE.out _ HB2.out).mono ?_; rintro e w3 ⟨rfl, hb⟩
      have HB3 := Lib.hid (HB2.out.trans (hb.mono HB2.out.size))
      have HI3 := Lib.hid (HI2.out.below move_keeps hb (Nat.le_refl _))
      clear hb HB2 HI2 HLE x0 x1 x2 x3 x4 y0 y1 y2 y3 y4 y5 y6 y7 y8 y9 y10 z0 z1 z2
      obtain ⟨x0, x1, x2, x3, x4⟩ := HX.out w3 HB3.out
      obtain ⟨y0, y1, y2, y3, y4, y5, y6, y7, y8, y9, y10⟩ := HY.out w3 HB3.out
      go_wp2_with fail
      go_at_call 22; refine (HPE.out _ HB3.out).mono ?_; rintro e w4 ⟨rfl, hb⟩
      have HB4 := Lib.hid (HB3.out.trans (hb.mono HB3.out.size))
      have HI4 := Lib.hid (HI3.out.below move_keeps hb (Nat.le_refl _))
      clear hb HB3 HI3 HPE x0 x1 x2 x3 x4 y0 y1 y2 y3 y4 y5 y6 y7 y8 y9 y10
      obtain ⟨x0, x1, x2, x3, x4⟩ := HX.out w4 HB4.out
      obtain ⟨y0, y1, y2, y3, y4, y5, y6, y7, y8, y9, y10⟩ := HY.out w4 HB4.out
      obtain ⟨z0, z1, z2⟩ := HM.out w4 HB4.out
      have hLL : (L == L) = true := by simp
      go_wp2_with fail
      go_at_call 23; refine (HAW.out _ HB4.out).mono ?_; rintro e w5 ⟨rfl, hb⟩
      have HB5 := Lib.hid (HB4.out.trans (hb.mono HB4.out.size))
      have HI5 := Lib.hid (HI4.out.below move_keeps hb (Nat.le_refl _))
      clear hb HB4 HI4 HAW x0 x1 x2 x3 x4 y0 y1 y2 y3 y4 y5 y6 y7 y8 y9 y10 z0 z1 z2
      obtain ⟨x0, x1, x2, x3, x4⟩ := HX.out w5 HB5.out
      obtain ⟨y0, y1, y2, y3, y4, y5, y6, y7, y8, y9, y10⟩ := HY.out w5 HB5.out
      go_wp2_with fail
      go_at_call 25; refine (HMV.out _ HB5.out).mono ?_; rintro e w6 ⟨ra, rn, rc, rfl, hI6, hb⟩
      have HB6 := Lib.hid (HB5.out.trans (hb.mono HB5.out.size))
      have HI6 := Lib.hid (HI5.out.below move_keeps hb (Nat.le_refl _))
      have HJ6 := Lib.hid hI6
      clear hI6 hb HB5 HI5 HMV x0 x1 x2 x3 x4 y0 y1 y2 y3 y4 y5 y6 y7 y8 y9 y10
      go_wp2_with fail
      go_at_call 24; refine (sameMoves_same ms la ra ln rn lc rc w6 HI6.out HJ6.out (by have := HLN.out; omega)).mono ?_; rintro e w7 ⟨rfl, hb⟩
      have HBE := Lib.hid (HB.out.trans ((HB6.out.trans (hb.mono HB6.out.size)).mono HB.out.size))
      clear hb HB6 HI6 HJ6
      go_wp2_with fail
      go_ret
      exact ⟨rfl, HBE.out⟩
    · have hd : decide ((n : Int) > 20) = true := by simp; omega
      clear h20 HMV
      go_enter Try.func6, Try.ntmps6
      go_wp2_with fail
      rw [← hV]
      clear hV
      go_at_call 21; refine (HPL.out _).mono ?_; rintro e w1 ⟨rfl, hb1⟩
      have HB1 := Lib.hid hb1
      clear hb1 HPL
      obtain ⟨x0, x1, x2, x3, x4⟩ := HX.out w1 HB1.out
      obtain ⟨y0, y1, y2, y3, y4, y5, y6, y7, y8, y9, y10⟩ := HY.out w1 HB1.out
      go_wp2_with fail
      go_at_call 12; refine (HAL.out _ HB1.out).mono ?_; rintro e w2 ⟨la, ln, lc, rfl, _, hln, hb⟩
      have HB2 := Lib.hid (HB1.out.trans (hb.mono HB1.out.size))
      clear hb HB1 HAL x0 x1 x2 x3 x4 y0 y1 y2 y3 y4 y5 y6 y7 y8 y9 y10 hln
      obtain ⟨x0, x1, x2, x3, x4⟩ := HX.out w2 HB2.out
      obtain ⟨y0, y1, y2, y3, y4, y5, y6, y7, y8, y9, y10⟩ := HY.out w2 HB2.out
      obtain ⟨z0, z1, z2⟩ := HM.out w2 HB2.out
      go_wp2_with fail
      go_at_call 14; refine (HLE.out _ HB2.out).mono ?_; rintro e w3 ⟨rfl, hb⟩
      have HB3 := Lib.hid (HB2.out.trans (hb.mono HB2.out.size))
      clear hb HB2 HLE x0 x1 x2 x3 x4 y0 y1 y2 y3 y4 y5 y6 y7 y8 y9 y10 z0 z1 z2
      obtain ⟨x0, x1, x2, x3, x4⟩ := HX.out w3 HB3.out
      obtain ⟨y0, y1, y2, y3, y4, y5, y6, y7, y8, y9, y10⟩ := HY.out w3 HB3.out
      go_wp2_with fail
      go_at_call 22; refine (HPE.out _ HB3.out).mono ?_; rintro e w4 ⟨rfl, hb⟩
      have HB4 := Lib.hid (HB3.out.trans (hb.mono HB3.out.size))
      clear hb HB3 HPE x0 x1 x2 x3 x4 y0 y1 y2 y3 y4 y5 y6 y7 y8 y9 y10
      obtain ⟨x0, x1, x2, x3, x4⟩ := HX.out w4 HB4.out
      obtain ⟨y0, y1, y2, y3, y4, y5, y6, y7, y8, y9, y10⟩ := HY.out w4 HB4.out
      obtain ⟨z0, z1, z2⟩ := HM.out w4 HB4.out
      have hLL : (L == L) = true := by simp
      go_wp2_with fail
      go_at_call 23; refine (HAW.out _ HB4.out).mono ?_; rintro e w5 ⟨rfl, hb⟩
      have HB5 := Lib.hid (HB4.out.trans (hb.mono HB4.out.size))
      clear hb HB4 HAW x0 x1 x2 x3 x4 y0 y1 y2 y3 y4 y5 y6 y7 y8 y9 y10 z0 z1 z2
      obtain ⟨x0, x1, x2, x3, x4⟩ := HX.out w5 HB5.out
      have HBE := Lib.hid (HB.out.trans (HB5.out.mono HB.out.size))
      go_wp2_with fail
      go_ret
      exact ⟨rfl, HBE.out⟩
  · rw [legalE_bad (by rw [← hE]; exact hz)] at HLE
    have HAL : Hid (∀ W, Below V.heap.size V W → Calls Try.prog 12 #[RulesV r vp vs ve, PlaceV p (.slice ca n cc) v0 v1] W (ListBad E W)) := Lib.hid (fun W hb => by rw [hE]; exact all_bad r p vp vs ve _ v0 v1 W (HRI.out W hb) (HPI.out W hb) (by rw [← hE]; exact hz))
    have hne : (E != 0) = true := by simpa using hz
    have hEE : (E == E) = true := by simp
    obtain ⟨m1, m2, m3⟩ := m
    unfold RulesV PlaceV PlaceCells at HPE HLE HAL
    unfold moveV at HLE
    unfold RulesV PlaceV PlaceCells moveV
    dsimp only at hV HM HLE ⊢
    clear hr hf hp hB hn hE hX hY hM HRI HPI hcc hz
    go_enter Try.func6, Try.ntmps6
    go_wp2_with fail
    rw [← hV]
    clear hV
    go_at_call 21; refine (HPL.out _).mono ?_; rintro e w1 ⟨rfl, hb1⟩
    have HB1 := Lib.hid hb1
    clear hb1 HPL
    obtain ⟨x0, x1, x2, x3, x4⟩ := HX.out w1 HB1.out
    obtain ⟨y0, y1, y2, y3, y4, y5, y6, y7, y8, y9, y10⟩ := HY.out w1 HB1.out
    go_wp2_with fail
    go_at_call 12; refine (HAL.out _ HB1.out).mono ?_; rintro e w2 ⟨rfl, hb⟩
    have HB2 := Lib.hid (HB1.out.trans (hb.mono HB1.out.size))
    clear hb HB1 HAL x0 x1 x2 x3 x4 y0 y1 y2 y3 y4 y5 y6 y7 y8 y9 y10
    obtain ⟨x0, x1, x2, x3, x4⟩ := HX.out w2 HB2.out
    obtain ⟨y0, y1, y2, y3, y4, y5, y6, y7, y8, y9, y10⟩ := HY.out w2 HB2.out
    obtain ⟨z0, z1, z2⟩ := HM.out w2 HB2.out
    go_wp2_with fail
    go_at_call 14; refine (HLE.out _ HB2.out).mono ?_; rintro e w3 ⟨rfl, hb⟩
    have HB3 := Lib.hid (HB2.out.trans (hb.mono HB2.out.size))
    clear hb HB2 HLE x0 x1 x2 x3 x4 y0 y1 y2 y3 y4 y5 y6 y7 y8 y9 y10 z0 z1 z2
    obtain ⟨x0, x1, x2, x3, x4⟩ := HX.out w3 HB3.out
    obtain ⟨y0, y1, y2, y3, y4, y5, y6, y7, y8, y9, y10⟩ := HY.out w3 HB3.out
    go_wp2_with fail
    go_at_call 22; refine (HPE.out _ HB3.out).mono ?_; rintro e w4 ⟨rfl, hb⟩
    have HBE := Lib.hid (HB.out.trans ((HB3.out.trans (hb.mono HB3.out.size)).mono HB.out.size))
    clear hb HB3 HPE x0 x1 x2 x3 x4 y0 y1 y2 y3 y4 y5 y6 y7 y8 y9 y10
    go_wp2_with fail
    go_ret
    exact ⟨rfl, HBE.out⟩
end Go.Proofs.Ythbilpgecombiaa
