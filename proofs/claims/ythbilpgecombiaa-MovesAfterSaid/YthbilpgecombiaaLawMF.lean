/- gamehalllaw1.MovesAfter: After returns the position of the reference. -/
import Derived.Test.YthbilpgecombiaaRefA
import Derived.Test.YthbilpgecombiaaRefE
import Derived.Test.YthbilpgecombiaaPlayL
import Derived.Test.YthbilpgecombiaaMovH
set_option maxRecDepth 100000
namespace Go.Proofs.Ythbilpgecombiaa
open Go.ChangeShapes Go.WideShapes Go.ChangeAt Go.RowKit

set_option maxHeartbeats 16000000 in
theorem movesAfter_full (r : RulesD) (p : PlaceD) (m : MoveD) (vp vs ve vc v0 v1 : Value) (w : World) (hr : RulesIn w r vp vs ve) (hf : LettersFit r.pieces) (hp : PlaceIn w p vc v0 v1) :
    Calls Try.prog 7 #[RulesV r vp vs ve, PlaceV p vc v0 v1, moveV m] w (BelPost (.bool true) w) := by
  obtain ⟨V, hV, hB, hY, hX, hM, _⟩ := rpm_boxes w r p vp vs ve vc v0 v1 m
  have HRI : Hid (∀ W, Below V.heap.size V W → RulesIn W r vp vs ve) := Lib.hid (fun W hb => (hr.below hB (Nat.le_refl _)).below hb (Nat.le_refl _))
  have HPI : Hid (∀ W, Below V.heap.size V W → PlaceIn W p vc v0 v1) := Lib.hid (fun W hb => (hp.below hB (Nat.le_refl _)).below hb (Nat.le_refl _))
  obtain ⟨E, hE⟩ : ∃ E, E = placeE r p := ⟨_, rfl⟩
  have HPE : Hid (∀ W, Below V.heap.size V W → Calls Try.prog 22 #[RulesV r vp vs ve, PlaceV p vc v0 v1] W (BelPost (.int .i64 E) W)) := Lib.hid (fun W hb => by rw [hE]; exact placeErr_any r p vp vs ve _ v0 v1 W (HRI.out W hb) hf (HPI.out W hb))
  have HAF : Hid (∀ W, Below V.heap.size V W → Calls Try.prog 13 #[RulesV r vp vs ve, PlaceV p vc v0 v1, moveV m] W (AftPost r p m W)) := Lib.hid (fun W hb => After_any r p vp vs ve vc v0 v1 m W (HRI.out W hb) (HPI.out W hb))
  have HB := Lib.hid hB
  have HX : Hid (∀ W, Below V.heap.size V W → BoxP W (w.heap.size + 1) p vc v0 v1) := Lib.hid (fun W hb => hX.below hb (Nat.le_refl _))
  have HY : Hid (∀ W, Below V.heap.size V W → BoxR W w.heap.size r vp vs ve) := Lib.hid (fun W hb => hY.below hb (Nat.le_refl _))
  have HM : Hid (∀ W, Below V.heap.size V W → W.cell? ⟨w.heap.size + 2, 0, none⟩ = some (.int .i64 m.1) ∧ W.cell? ⟨w.heap.size + 2, 1, none⟩ = some (.int .i64 m.2.1) ∧ W.cell? ⟨w.heap.size + 2, 2, none⟩ = some (.int .i64 m.2.2)) := Lib.hid (fun W hb => (hM.below hb (Nat.le_refl _)).parts)
  have HPL := Lib.hid plays_any
  unfold RulesCells PlaceCells at hV
  by_cases hz : E = 0
  · have hpe : placeE r p = 0 := hE.symm.trans hz
    have hk := placeE_iff.1 hpe
    have HAW : Hid (∀ W, Below V.heap.size V W → Calls Try.prog 23 #[RulesV r vp vs ve, PlaceV p vc v0 v1, moveV m] W (BelPost (.bool (legalB r p m)) W)) := Lib.hid (fun W hb => allowed_any r p vp vs ve _ v0 v1 m W (HRI.out W hb).1 (HPI.out W hb) hk)
    subst hz
    cases hL : legalB r p m
    · have he : afterE r p m = 13 := by rw [afterE, if_pos hpe, if_neg (by rw [hL]; simp)]
      have HAB : Hid (∀ W, Below V.heap.size V W → Calls Try.prog 13 #[RulesV r vp vs ve, PlaceV p vc v0 v1, moveV m] W (PBad 13 W)) := Lib.hid (fun W hb => (HAF.out W hb).mono fun e w' h => by
        rcases h with ⟨h, _⟩ | ⟨_, h⟩
        · rw [he] at h; exact absurd h (by decide)
        · rw [he] at h; exact h)
      rw [hL] at HAW
      obtain ⟨m1, m2, m3⟩ := m
      unfold RulesV PlaceV PlaceCells at HPE HAB HAW
      unfold moveV at HAB HAW
      unfold RulesV PlaceV PlaceCells moveV
      dsimp only at hV HM HAB HAW ⊢
      clear hr hf hp hB hE hk hpe hX hY hM HRI HPI he hL HAF
      go_enter Try.func7, Try.ntmps7
      go_wp2_with fail
      rw [← hV]
      clear hV
      go_at_call 21; refine (HPL.out _).mono ?_; rintro e w1 ⟨rfl, hb1⟩
      have HB1 := Lib.hid hb1
      clear hb1 HPL
      obtain ⟨x0, x1, x2, x3, x4⟩ := HX.out w1 HB1.out
      obtain ⟨y0, y1, y2, y3, y4, y5, y6, y7, y8, y9, y10⟩ := HY.out w1 HB1.out
      obtain ⟨z0, z1, z2⟩ := HM.out w1 HB1.out
      go_wp2_with fail
      go_at_call 13; refine (HAB.out _ HB1.out).mono ?_; rintro e w2 ⟨rfl, hb⟩
      have hal := (Below.refl w2.heap.size w2).alloc (Nat.le_refl _) (.cells #[.slice none 0 0, .slice none 0 0, .slice none 0 0, .int .i64 0, .int .i64 0] 29)
      have hb2 := HB1.out.trans (hb.mono HB1.out.size)
      have HB2 := Lib.hid (hb2.trans (hal.mono hb2.size))
      have HQ := Lib.hid (PBox.new w2 29 zeroP (.slice none 0 0) (.slice none 0 0) (.slice none 0 0))
      have hx2 := HX.out _ HB2.out
      have hy2 := HY.out _ HB2.out
      clear hb hb2 hal HB1 HAB x0 x1 x2 x3 x4 y0 y1 y2 y3 y4 y5 y6 y7 y8 y9 y10 z0 z1 z2
      obtain ⟨x0, x1, x2, x3, x4⟩ := hx2
      obtain ⟨y0, y1, y2, y3, y4, y5, y6, y7, y8, y9, y10⟩ := hy2
      go_wp2_with fail
      go_at_call 22; refine (HPE.out _ HB2.out).mono ?_; rintro e w4 ⟨rfl, hb⟩
      have HB4 := Lib.hid (HB2.out.trans (hb.mono HB2.out.size))
      have HQ4 := Lib.hid (HQ.out.below hb HQ.out.lt)
      clear hb HB2 HQ HPE x0 x1 x2 x3 x4 y0 y1 y2 y3 y4 y5 y6 y7 y8 y9 y10
      obtain ⟨x0, x1, x2, x3, x4⟩ := HX.out w4 HB4.out
      obtain ⟨y0, y1, y2, y3, y4, y5, y6, y7, y8, y9, y10⟩ := HY.out w4 HB4.out
      obtain ⟨z0, z1, z2⟩ := HM.out w4 HB4.out
      go_wp2_with fail
      go_at_call 23; refine (HAW.out _ HB4.out).mono ?_; rintro e w5 ⟨rfl, hb⟩
      have HBE := Lib.hid (HB.out.trans ((HB4.out.trans (hb.mono HB4.out.size)).mono HB.out.size))
      have HQ5 := Lib.hid (HQ4.out.below hb HQ4.out.lt)
      clear hb HB4 HQ4 HAW x0 x1 x2 x3 x4 y0 y1 y2 y3 y4 y5 y6 y7 y8 y9 y10 z0 z1 z2
      obtain ⟨⟨q0, _, _, _, _⟩, _⟩ := HQ5.out.facts
      go_wp2_with fail
      go_ret
      exact ⟨rfl, HBE.out⟩
    · have he : afterE r p m = 0 := by rw [afterE, if_pos hpe, if_pos hL]
      obtain ⟨A, hA⟩ : ∃ A, A = afterD r p m := ⟨_, rfl⟩
      have HAB : Hid (∀ W, Below V.heap.size V W → Calls Try.prog 13 #[RulesV r vp vs ve, PlaceV p vc v0 v1, moveV m] W (MadeP A W)) := Lib.hid (fun W hb => (HAF.out W hb).mono fun e w' h => by
        rcases h with ⟨_, h⟩ | ⟨h, _⟩
        · rw [hA]; exact h
        · exact absurd he h)
      have HRF : Hid (∀ W, Below V.heap.size V W → Calls Try.prog 27 #[RulesV r vp vs ve, PlaceV p vc v0 v1, moveV m] W (RefAft A W)) := Lib.hid (fun W hb => by rw [hA]; exact refAfter_any r p vp vs ve vc v0 v1 m W (HPI.out W hb) hk hL)
      have hsh : Short A := by rw [hA]; exact (after_ok hk (legal_ok hk hL)).short
      have HSP : Hid (∀ uc u0 u1 tc t0 t1 W, PlaceIn W A uc u0 u1 → PlaceIn W A tc t0 t1 → Calls Try.prog 26 #[PlaceV A uc u0 u1, PlaceV A tc t0 t1] W (BelPost (.bool true) W)) := Lib.hid (fun uc u0 u1 tc t0 t1 W h1 h2 => samePlace_eq A uc u0 u1 tc t0 t1 W h1 h2 hsh)
      rw [hL] at HAW
      obtain ⟨m1, m2, m3⟩ := m
      unfold RulesV PlaceV PlaceCells at HPE HAB HAW HRF
      unfold PlaceV PlaceCells at HSP
      unfold moveV at HAB HAW HRF
      unfold RulesV PlaceV PlaceCells moveV
      dsimp only at hV HM HAB HAW HRF ⊢
      clear hr hf hp hB hE hk hpe hX hY hM HRI HPI he hL HAF hA hsh
      go_enter Try.func7, Try.ntmps7
      go_wp2_with fail
      rw [← hV]
      clear hV
      go_at_call 21; refine (HPL.out _).mono ?_; rintro e w1 ⟨rfl, hb1⟩
      have HB1 := Lib.hid hb1
      clear hb1 HPL
      obtain ⟨x0, x1, x2, x3, x4⟩ := HX.out w1 HB1.out
      obtain ⟨y0, y1, y2, y3, y4, y5, y6, y7, y8, y9, y10⟩ := HY.out w1 HB1.out
      obtain ⟨z0, z1, z2⟩ := HM.out w1 HB1.out
      go_wp2_with fail
      go_at_call 13; refine (HAB.out _ HB1.out).mono ?_; rintro e w2 ⟨ca, cn, cc, a0, n0, c0, a1, n1, c1, rfl, hpf, hb⟩
      have hal := (Below.refl w2.heap.size w2).alloc (Nat.le_refl _) (.cells #[.slice ca cn cc, .slice a0 n0 c0, .slice a1 n1 c1, .int .i64 A.turn, .int .i64 A.quiet] 29)
      have hb2 := HB1.out.trans (hb.mono HB1.out.size)
      have HB2 := Lib.hid (hb2.trans (hal.mono hb2.size))
      have HQ := Lib.hid (PBox.new w2 29 A (.slice ca cn cc) (.slice a0 n0 c0) (.slice a1 n1 c1))
      have HN := Lib.hid (hpf.plain.below hal (Nat.le_refl _))
      have hx2 := HX.out _ HB2.out
      have hy2 := HY.out _ HB2.out
      obtain ⟨qb, hqb⟩ : ∃ qb, qb = w2.heap.size := ⟨_, rfl⟩
      clear hb hb2 hal hpf HB1 HAB x0 x1 x2 x3 x4 y0 y1 y2 y3 y4 y5 y6 y7 y8 y9 y10 z0 z1 z2
      obtain ⟨x0, x1, x2, x3, x4⟩ := hx2
      obtain ⟨y0, y1, y2, y3, y4, y5, y6, y7, y8, y9, y10⟩ := hy2
      go_wp2_with fail
      go_at_call 22; refine (HPE.out _ HB2.out).mono ?_; rintro e w4 ⟨rfl, hb⟩
      have HB4 := Lib.hid (HB2.out.trans (hb.mono HB2.out.size))
      have HQ4 := Lib.hid (HQ.out.below hb HQ.out.lt)
      have HN4 := Lib.hid (HN.out.below hb (Nat.le_refl _))
      rw [← hqb] at HQ4 ⊢
      clear hqb hb HB2 HQ HN HPE x0 x1 x2 x3 x4 y0 y1 y2 y3 y4 y5 y6 y7 y8 y9 y10
      obtain ⟨x0, x1, x2, x3, x4⟩ := HX.out w4 HB4.out
      obtain ⟨y0, y1, y2, y3, y4, y5, y6, y7, y8, y9, y10⟩ := HY.out w4 HB4.out
      obtain ⟨z0, z1, z2⟩ := HM.out w4 HB4.out
      go_wp2_with fail
      go_at_call 23; refine (HAW.out _ HB4.out).mono ?_; rintro e w5 ⟨rfl, hb⟩
      have HB5 := Lib.hid (HB4.out.trans (hb.mono HB4.out.size))
      have HQ5 := Lib.hid (HQ4.out.below hb HQ4.out.lt)
      have HN5 := Lib.hid (HN4.out.below hb (Nat.le_refl _))
      clear hb HB4 HQ4 HN4 HAW x0 x1 x2 x3 x4 y0 y1 y2 y3 y4 y5 y6 y7 y8 y9 y10 z0 z1 z2
      go_wp2_with fail
      have HQF := Lib.hid HQ5.out.facts.1
      have HX5 := Lib.hid (HX.out w5 HB5.out)
      have HY5 := Lib.hid (HY.out w5 HB5.out)
      have HM5 : Hid (∀ W, Below w5.heap.size w5 W → W.cell? ⟨w.heap.size + 2, 0, none⟩ = some (.int .i64 m1) ∧ W.cell? ⟨w.heap.size + 2, 1, none⟩ = some (.int .i64 m2) ∧ W.cell? ⟨w.heap.size + 2, 2, none⟩ = some (.int .i64 m3)) := Lib.hid (fun W hb => HM.out W (HB5.out.trans (hb.mono HB5.out.size)))
      have HRF5 : Hid (∀ W, Below w5.heap.size w5 W → _) := Lib.hid (fun W hb => HRF.out W (HB5.out.trans (hb.mono HB5.out.size)))
      have hBc : Below w5.heap.size w5 w5.drew := (Below.refl _ _).drew
      clear HRF HM HX HY HQ5
      go_region_held3 (fun w' => (w'.cell? ⟨w.heap.size, 0, none⟩ = some (.string r.name) ∧ w'.cell? ⟨w.heap.size, 1, none⟩ = some (.int .i64 r.width) ∧ w'.cell? ⟨w.heap.size, 2, none⟩ = some (.int .i64 r.height) ∧ w'.cell? ⟨w.heap.size, 3, none⟩ = some vp ∧ w'.cell? ⟨w.heap.size, 4, none⟩ = some vs ∧ w'.cell? ⟨w.heap.size, 5, none⟩ = some (.bool r.falls) ∧ w'.cell? ⟨w.heap.size, 6, none⟩ = some (.bool r.keeps) ∧ w'.cell? ⟨w.heap.size, 7, none⟩ = some ve ∧ w'.cell? ⟨w.heap.size, 8, none⟩ = some (.int .i64 r.blocked) ∧ w'.cell? ⟨w.heap.size, 9, none⟩ = some (.int .i64 r.quiet) ∧ w'.cell? ⟨w.heap.size, 10, none⟩ = some (.int .i64 r.rep)) ∧
        (w'.cell? ⟨w.heap.size + 1, 0, none⟩ = some vc ∧ w'.cell? ⟨w.heap.size + 1, 1, none⟩ = some v0 ∧ w'.cell? ⟨w.heap.size + 1, 2, none⟩ = some v1 ∧ w'.cell? ⟨w.heap.size + 1, 3, none⟩ = some (.int .i64 p.turn) ∧ w'.cell? ⟨w.heap.size + 1, 4, none⟩ = some (.int .i64 p.quiet)) ∧
        (w'.cell? ⟨w.heap.size + 2, 0, none⟩ = some (.int .i64 m1) ∧ w'.cell? ⟨w.heap.size + 2, 1, none⟩ = some (.int .i64 m2) ∧ w'.cell? ⟨w.heap.size + 2, 2, none⟩ = some (.int .i64 m3)) ∧
        (w'.cell? ⟨qb, 0, none⟩ = some (.slice ca cn cc) ∧ w'.cell? ⟨qb, 1, none⟩ = some (.slice a0 n0 c0) ∧ w'.cell? ⟨qb, 2, none⟩ = some (.slice a1 n1 c1) ∧ w'.cell? ⟨qb, 3, none⟩ = some (.int .i64 A.turn) ∧ w'.cell? ⟨qb, 4, none⟩ = some (.int .i64 A.quiet))) (exact ⟨HY5.out.below hBc (Nat.le_refl _), HX5.out.below hBc (Nat.le_refl _), HM5.out _ hBc, HQF.out.below hBc (Nat.le_refl _)⟩) (first
        | (go_at_call 27; refine (HRF5.out _ hBc).mono ?_; rintro e w6 ⟨da, dn, dc, d0, k0, e0, d1, k1, e1, rfl, hpi, hb⟩; have hBc := hBc.trans (hb.mono hBc.size); clear hb)
        | (go_at_call 26; refine (HSP.out _ _ _ _ _ _ _ (HN5.out.below hBc (Nat.le_refl _)) hpi).mono ?_; rintro e w7 ⟨rfl, hb⟩; have hBc := hBc.trans (hb.mono hBc.size); clear hb))
      have HBE := Lib.hid (HB.out.trans ((HB5.out.trans (hBc.mono HB5.out.size)).mono HB.out.size))
      clear hBc hpi
      go_wp2_with fail
      go_ret
      exact ⟨rfl, HBE.out⟩
  · have hpe : placeE r p ≠ 0 := by rw [← hE]; exact hz
    have he : afterE r p m = E := by rw [afterE, if_neg hpe, hE]
    have HAB : Hid (∀ W, Below V.heap.size V W → Calls Try.prog 13 #[RulesV r vp vs ve, PlaceV p vc v0 v1, moveV m] W (PBad E W)) := Lib.hid (fun W hb => (HAF.out W hb).mono fun e w' h => by
      rcases h with ⟨h, _⟩ | ⟨_, h⟩
      · rw [he] at h; exact absurd h hz
      · rw [he] at h; exact h)
    have hne : (E != 0) = true := by simpa using hz
    have heq0 : (E == 0) = false := by simpa using hz
    have hEE : (E == E) = true := by simp
    obtain ⟨m1, m2, m3⟩ := m
    unfold RulesV PlaceV PlaceCells at HPE HAB
    unfold moveV at HAB
    unfold RulesV PlaceV PlaceCells moveV
    dsimp only at hV HM HAB ⊢
    clear hr hf hp hB hE hpe hX hY hM HRI HPI he hz HAF
    go_enter Try.func7, Try.ntmps7
    go_wp2_with fail
    rw [← hV]
    clear hV
    go_at_call 21; refine (HPL.out _).mono ?_; rintro e w1 ⟨rfl, hb1⟩
    have HB1 := Lib.hid hb1
    clear hb1 HPL
    obtain ⟨x0, x1, x2, x3, x4⟩ := HX.out w1 HB1.out
    obtain ⟨y0, y1, y2, y3, y4, y5, y6, y7, y8, y9, y10⟩ := HY.out w1 HB1.out
    obtain ⟨z0, z1, z2⟩ := HM.out w1 HB1.out
    go_wp2_with fail
    go_at_call 13; refine (HAB.out _ HB1.out).mono ?_; rintro e w2 ⟨rfl, hb⟩
    have hal := (Below.refl w2.heap.size w2).alloc (Nat.le_refl _) (.cells #[.slice none 0 0, .slice none 0 0, .slice none 0 0, .int .i64 0, .int .i64 0] 29)
    have hb2 := HB1.out.trans (hb.mono HB1.out.size)
    have HB2 := Lib.hid (hb2.trans (hal.mono hb2.size))
    have HQ := Lib.hid (PBox.new w2 29 zeroP (.slice none 0 0) (.slice none 0 0) (.slice none 0 0))
    have hx2 := HX.out _ HB2.out
    have hy2 := HY.out _ HB2.out
    clear hb hb2 hal HB1 HAB x0 x1 x2 x3 x4 y0 y1 y2 y3 y4 y5 y6 y7 y8 y9 y10 z0 z1 z2
    obtain ⟨x0, x1, x2, x3, x4⟩ := hx2
    obtain ⟨y0, y1, y2, y3, y4, y5, y6, y7, y8, y9, y10⟩ := hy2
    go_wp2_with fail
    go_at_call 22; refine (HPE.out _ HB2.out).mono ?_; rintro e w4 ⟨rfl, hb⟩
    have HBE := Lib.hid (HB.out.trans ((HB2.out.trans (hb.mono HB2.out.size)).mono HB.out.size))
    have HQ4 := Lib.hid (HQ.out.below hb HQ.out.lt)
    clear hb HB2 HQ HPE x0 x1 x2 x3 x4 y0 y1 y2 y3 y4 y5 y6 y7 y8 y9 y10
    obtain ⟨⟨q0, _, _, _, _⟩, _⟩ := HQ4.out.facts
    go_wp2_with fail
    go_ret
    exact ⟨rfl, HBE.out⟩
end Go.Proofs.Ythbilpgecombiaa
