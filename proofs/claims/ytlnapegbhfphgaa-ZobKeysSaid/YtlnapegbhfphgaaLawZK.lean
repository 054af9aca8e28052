/- The law ZobKeys: Mix, Key and Change return the sums of the reference. -/
import Derived.Test.YtlnapegbhfphgaaZobC
import Derived.Test.YtlnapegbhfphgaaRefK
import Derived.Test.YtlnapegbhfphgaaRefA
import Derived.Test.YtlnapegbhfphgaaRefE
import Derived.Test.YtlnapegbhfphgaaWonL
import Derived.Test.YtlnapegbhfphgaaOpnA
set_option maxRecDepth 100000
namespace Go.Proofs.Ytlnapegbhfphgaa
open Go.ChangeShapes Go.WideShapes Go.ChangeAt Go.RowKit

set_option maxHeartbeats 16000000 in
theorem zobKeys_full (r : RulesD) (p : PlaceD) (m : MoveD) (vp vs ve vc v0 v1 : Value) (n : Int) (w : World) (hr : RulesIn w r vp vs ve) (hf : LettersFit r.pieces) (hp : PlaceIn w p vc v0 v1) :
    Calls Try.prog 5 #[RulesV r vp vs ve, PlaceV p vc v0 v1, moveV m, .int .i64 n] w (BelPost (.bool true) w) := by
  obtain ⟨V, hV, hB, hY, hX, hM, _⟩ := rpm_boxes w r p vp vs ve vc v0 v1 m
  have HB := Lib.hid hB
  have HIR : Hid (∀ W, Below V.heap.size V W → RulesIn W r vp vs ve) := Lib.hid (fun W h => (hr.below hB (Nat.le_refl _)).below h (Nat.le_refl _))
  have HIP : Hid (∀ W, Below V.heap.size V W → PlaceIn W p vc v0 v1) := Lib.hid (fun W h => (hp.below hB (Nat.le_refl _)).below h (Nat.le_refl _))
  obtain ⟨c, hc⟩ : ∃ c, c = placeE r p := ⟨_, rfl⟩
  obtain ⟨d, hd⟩ : ∃ d, d = afterE r p m := ⟨_, rfl⟩
  obtain ⟨K, hK⟩ : ∃ K, K = keyI r p := ⟨_, rfl⟩
  obtain ⟨C, hC⟩ : ∃ C, C = changeI r p m := ⟨_, rfl⟩
  obtain ⟨k0, hk0⟩ : ∃ k, k = keyZ p := ⟨_, rfl⟩
  obtain ⟨k9, hk9⟩ : ∃ k, k = keyZ wonL := ⟨_, rfl⟩
  obtain ⟨A, hA⟩ : ∃ A, A = afterD r p m := ⟨_, rfl⟩
  obtain ⟨kA, hkA⟩ : ∃ k, k = keyZ A := ⟨_, rfl⟩
  obtain ⟨L, hL⟩ : ∃ L, L = legalB r p m := ⟨_, rfl⟩
  obtain ⟨M, hMn⟩ : ∃ M, M = mixZ n := ⟨_, rfl⟩
  obtain ⟨Z, hZ⟩ : ∃ M, M = mixZ 0 := ⟨_, rfl⟩
  have HOK : Hid (c = 0 → POkay r p) := Lib.hid (fun h => placeE_iff.1 (by rw [← hc]; exact h))
  have HKB : Hid (c ≠ 0 → K = 0 ∧ d = c ∧ C = 0) := Lib.hid (fun h => by
    have h1 : placeE r p ≠ 0 := by rw [← hc]; exact h
    have h2 : afterE r p m = c := by rw [afterE, if_neg h1, hc]
    exact ⟨by rw [hK, keyI, if_neg h1], by rw [hd, h2], by rw [hC, changeI, if_neg (by rw [h2]; exact h)]⟩)
  have HKG : Hid (c = 0 → K = (k0.toNat : Int)) := Lib.hid (fun h => by rw [hK, keyI, if_pos (by rw [← hc]; exact h), hk0])
  have HKN : Hid (c = 0 → L = false → d = 13 ∧ C = 0) := Lib.hid (fun h hl => by
    have h2 : afterE r p m = 13 := by rw [afterE, if_pos (by rw [← hc]; exact h), if_neg (by rw [← hL, hl]; simp)]
    exact ⟨by rw [hd, h2], by rw [hC, changeI, if_neg (by rw [h2]; decide)]⟩)
  have HKL : Hid (c = 0 → L = true → d = 0 ∧ C = (kA.toNat : Int)) := Lib.hid (fun h hl => by
    have h2 : afterE r p m = 0 := by rw [afterE, if_pos (by rw [← hc]; exact h), if_pos (by rw [← hL]; exact hl)]
    exact ⟨by rw [hd, h2], by rw [hC, changeI, if_pos h2, hkA, hA]⟩)
  have HKY : Hid (∀ W, Below V.heap.size V W → Calls Try.prog 11 #[RulesV r vp vs ve, PlaceV p vc v0 v1] W (KPost K c W)) := Lib.hid (fun W h => by rw [hK, hc]; exact key_any r p vp vs ve vc v0 v1 W (HIR.out W h) (HIP.out W h))
  have HCH : Hid (∀ W, Below V.heap.size V W → Calls Try.prog 12 #[RulesV r vp vs ve, PlaceV p vc v0 v1, moveV m] W (KPost C d W)) := Lib.hid (fun W h => by rw [hC, hd]; exact change_any r p vp vs ve vc v0 v1 m W (HIR.out W h) (HIP.out W h))
  have HK9 : Hid (∀ vp vs ve vc v0 v1 W, RulesIn W three9 vp vs ve → PlaceIn W wonL vc v0 v1 → Calls Try.prog 11 #[RulesV three9 vp vs ve, PlaceV wonL vc v0 v1] W (KPost (k9.toNat : Int) 0 W)) := Lib.hid (fun vp vs ve vc v0 v1 W h1 h2 => by
    have h := key_any three9 wonL vp vs ve vc v0 v1 W h1 h2
    have hz : placeE three9 wonL = 0 := placeE_iff.2 wonL_ok
    rwa [keyI, if_pos hz, hz, ← hk9] at h)
  have HR9 : Hid (∀ vc v0 v1 W, PlaceIn W wonL vc v0 v1 → Calls Try.prog 17 #[PlaceV wonL vc v0 v1] W (BelPost (.int .u64 (k9.toNat : Int)) W)) := Lib.hid (fun vc v0 v1 W h => by rw [hk9]; exact refKey_any wonL vc v0 v1 W h wonL_ok.kfit)
  have HRK : Hid (c = 0 → ∀ W, Below V.heap.size V W → Calls Try.prog 17 #[PlaceV p vc v0 v1] W (BelPost (.int .u64 (k0.toNat : Int)) W)) := Lib.hid (fun hz W h => by rw [hk0]; exact refKey_any p vc v0 v1 W (HIP.out W h) (HOK.out hz).kfit)
  have HRA : Hid (c = 0 → L = true → ∀ uc u0 u1 W, PlaceIn W A uc u0 u1 → Calls Try.prog 17 #[PlaceV A uc u0 u1] W (BelPost (.int .u64 (kA.toNat : Int)) W)) := Lib.hid (fun hz hl uc u0 u1 W h => by rw [hkA]; exact refKey_any A uc u0 u1 W h (by rw [hA]; exact (after_ok (HOK.out hz) (legal_ok (HOK.out hz) (by rw [← hL]; exact hl))).kfit))
  have HRF : Hid (c = 0 → L = true → ∀ W, Below V.heap.size V W → Calls Try.prog 21 #[RulesV r vp vs ve, PlaceV p vc v0 v1, moveV m] W (RefAft A W)) := Lib.hid (fun hz hl W hb => by rw [hA]; exact refAfter_any r p vp vs ve vc v0 v1 m W (HIP.out W hb) (HOK.out hz) (by rw [← hL]; exact hl))
  have HPE : Hid (∀ W, Below V.heap.size V W → Calls Try.prog 19 #[RulesV r vp vs ve, PlaceV p vc v0 v1] W (BelPost (.int .i64 c) W)) := Lib.hid (fun W hb => by rw [hc]; exact placeErr_any r p vp vs ve _ v0 v1 W (HIR.out W hb) hf (HIP.out W hb))
  have HAW : Hid (c = 0 → ∀ W, Below V.heap.size V W → Calls Try.prog 20 #[RulesV r vp vs ve, PlaceV p vc v0 v1, moveV m] W (BelPost (.bool L) W)) := Lib.hid (fun hz W hb => by rw [hL]; exact allowed_any r p vp vs ve _ v0 v1 m W (HIR.out W hb).1 (HIP.out W hb) (HOK.out hz))
  have HM0 : Hid (∀ W, Calls Try.prog 14 #[.int .i64 0] W fun e w' => e = .returned (.int .u64 (Z.toNat : Int)) ∧ W = w') := Lib.hid (fun W => by rw [hZ]; exact turned (mix_any _ W))
  have HX0 : Hid (∀ W, Calls Try.prog 18 #[.int .i64 0] W fun e w' => e = .returned (.int .u64 (Z.toNat : Int)) ∧ W = w') := Lib.hid (fun W => by rw [hZ]; exact turned (mixed_any _ W))
  have HMN : Hid (∀ W, Calls Try.prog 14 #[.int .i64 n] W fun e w' => e = .returned (.int .u64 (M.toNat : Int)) ∧ W = w') := Lib.hid (fun W => by rw [hMn]; exact turned (mix_any _ W))
  have HXN : Hid (∀ W, Calls Try.prog 18 #[.int .i64 n] W fun e w' => e = .returned (.int .u64 (M.toNat : Int)) ∧ W = w') := Lib.hid (fun W => by rw [hMn]; exact turned (mixed_any _ W))
  have HX : Hid (∀ W, Below V.heap.size V W → BoxP W (w.heap.size + 1) p vc v0 v1) := Lib.hid (fun W hb => hX.below hb (Nat.le_refl _))
  have HY : Hid (∀ W, Below V.heap.size V W → BoxR W w.heap.size r vp vs ve) := Lib.hid (fun W hb => hY.below hb (Nat.le_refl _))
  have HM : Hid (∀ W, Below V.heap.size V W → W.cell? ⟨w.heap.size + 2, 0, none⟩ = some (.int .i64 m.1) ∧ W.cell? ⟨w.heap.size + 2, 1, none⟩ = some (.int .i64 m.2.1) ∧ W.cell? ⟨w.heap.size + 2, 2, none⟩ = some (.int .i64 m.2.2)) := Lib.hid (fun W hb => (hM.below hb (Nat.le_refl _)).parts)
  have s9 : ((k9.toNat : Int) != (k9.toNat : Int)) = false := by simp
  have sZ : ((Z.toNat : Int) != (Z.toNat : Int)) = false := by simp
  have sM : ((M.toNat : Int) != (M.toNat : Int)) = false := by simp
  have s0 : ((k0.toNat : Int) != (k0.toNat : Int)) = false := by simp
  have sA : ((kA.toNat : Int) == (kA.toNat : Int)) = true := by simp
  obtain ⟨m1, m2, m3⟩ := m
  unfold RulesCells PlaceCells at hV
  unfold RulesV PlaceV PlaceCells at HKY HPE
  unfold RulesV PlaceV PlaceCells moveV at HCH HAW HRF
  unfold PlaceV PlaceCells at HRK HRA HR9
  unfold RulesV PlaceV PlaceCells moveV
  dsimp only at hV HM HCH HAW HRF ⊢
  clear hr hf hp hc hd hK hC hk0 hk9 hA hkA hL hMn hZ hB hX hY hM
  go_enter Try.func5, Try.ntmps5
  go_wp2_with fail
  rw [← hV]
  clear hV
  go_at_call 15; refine (three_law _).mono ?_; rintro e u1 ⟨vp1, vs1, ve1, rfl, hin, hb⟩
  have HB1 := Lib.hid hb
  have HI1 := Lib.hid hin
  clear hb hin
  go_wp2_with fail
  go_at_call 16; refine (won_any _).mono ?_; rintro e u2 ⟨uc, u0, u3, rfl, hpn, hb⟩
  have HB2 := Lib.hid (HB1.out.trans (hb.mono HB1.out.size))
  have HI2 := Lib.hid (HI1.out.below hb (Nat.le_refl _))
  have HN2 := Lib.hid hpn
  clear hb hpn HB1 HI1
  go_wp2_with fail
  go_at_call 11; refine (HK9.out _ _ _ _ _ _ _ HI2.out HN2.out).mono ?_; rintro e u4 ⟨rfl, hb⟩
  have HB3 := Lib.hid (HB2.out.trans (hb.mono HB2.out.size))
  clear hb HB2 HI2 HN2 HK9
  go_wp2_with fail
  go_at_call 16; refine (won_any _).mono ?_; rintro e u5 ⟨tc, t0, t1, rfl, hpn, hb⟩
  have HB4 := Lib.hid (HB3.out.trans (hb.mono HB3.out.size))
  have HN4 := Lib.hid hpn
  clear hb hpn HB3
  go_wp2_with fail
  go_at_call 17; refine (HR9.out _ _ _ _ HN4.out).mono ?_; rintro e u6 ⟨rfl, hb⟩
  have HB5 := Lib.hid (HB4.out.trans (hb.mono HB4.out.size))
  clear hb HB4 HN4 HR9
  go_wp2_with fail
  go_at_call 14; refine (HM0.out _).mono ?_; rintro e w' ⟨rfl, rfl⟩
  go_wp2_with fail
  go_at_call 18; refine (HX0.out _).mono ?_; rintro e w' ⟨rfl, rfl⟩
  obtain ⟨x0, x1, x2, x3, x4⟩ := HX.out _ HB5.out
  obtain ⟨y0, y1, y2, y3, y4, y5, y6, y7, y8, y9, y10⟩ := HY.out _ HB5.out
  clear HM0 HX0
  go_wp2_with fail
  go_at_call 11; refine (HKY.out _ HB5.out).mono ?_; rintro e u7 ⟨rfl, hb⟩
  have HB6 := Lib.hid (HB5.out.trans (hb.mono HB5.out.size))
  clear hb HB5 HKY x0 x1 x2 x3 x4 y0 y1 y2 y3 y4 y5 y6 y7 y8 y9 y10
  obtain ⟨x0, x1, x2, x3, x4⟩ := HX.out _ HB6.out
  obtain ⟨y0, y1, y2, y3, y4, y5, y6, y7, y8, y9, y10⟩ := HY.out _ HB6.out
  obtain ⟨z0, z1, z2⟩ := HM.out _ HB6.out
  go_wp2_with fail
  go_at_call 12; refine (HCH.out _ HB6.out).mono ?_; rintro e u8 ⟨rfl, hb⟩
  have HB7 := Lib.hid (HB6.out.trans (hb.mono HB6.out.size))
  clear hb HB6 HCH x0 x1 x2 x3 x4 y0 y1 y2 y3 y4 y5 y6 y7 y8 y9 y10 z0 z1 z2
  obtain ⟨x0, x1, x2, x3, x4⟩ := HX.out _ HB7.out
  obtain ⟨y0, y1, y2, y3, y4, y5, y6, y7, y8, y9, y10⟩ := HY.out _ HB7.out
  go_wp2_with fail
  go_at_call 14; refine (HMN.out _).mono ?_; rintro e w' ⟨rfl, rfl⟩
  go_wp2_with fail
  go_at_call 18; refine (HXN.out _).mono ?_; rintro e w' ⟨rfl, rfl⟩
  clear HMN HXN
  go_wp2_with fail
  go_at_call 19; refine (HPE.out _ HB7.out).mono ?_; rintro e u9 ⟨rfl, hb⟩
  have HB8 := Lib.hid (HB7.out.trans (hb.mono HB7.out.size))
  clear hb HB7 HPE x0 x1 x2 x3 x4 y0 y1 y2 y3 y4 y5 y6 y7 y8 y9 y10
  by_cases hz : c = 0
  · obtain rfl := HKG.out hz
    have HRK1 := Lib.hid (HRK.out hz)
    have HAW1 := Lib.hid (HAW.out hz)
    have HKN1 := Lib.hid (HKN.out hz)
    have HKL1 := Lib.hid (HKL.out hz)
    have HRA1 := Lib.hid (HRA.out hz)
    have HRF1 := Lib.hid (HRF.out hz)
    subst hz
    clear HKG HKB HRK HAW HKN HKL HRA HRF HOK
    obtain ⟨x0, x1, x2, x3, x4⟩ := HX.out _ HB8.out
    go_wp2_with fail
    go_at_call 17; refine (HRK1.out _ HB8.out).mono ?_; rintro e u10 ⟨rfl, hb⟩
    have HB9 := Lib.hid (HB8.out.trans (hb.mono HB8.out.size))
    clear hb HB8 HRK1 x0 x1 x2 x3 x4
    obtain ⟨x0, x1, x2, x3, x4⟩ := HX.out _ HB9.out
    obtain ⟨y0, y1, y2, y3, y4, y5, y6, y7, y8, y9, y10⟩ := HY.out _ HB9.out
    obtain ⟨z0, z1, z2⟩ := HM.out _ HB9.out
    go_wp2_with fail
    go_at_call 20; refine (HAW1.out _ HB9.out).mono ?_; rintro e u11 ⟨rfl, hb⟩
    have HB10 := Lib.hid (HB9.out.trans (hb.mono HB9.out.size))
    clear hb HB9 HAW1 x0 x1 x2 x3 x4 y0 y1 y2 y3 y4 y5 y6 y7 y8 y9 y10 z0 z1 z2
    cases L with
    | false =>
      obtain ⟨rfl, rfl⟩ := HKN1.out rfl
      have HBE := Lib.hid (HB.out.trans (HB10.out.mono HB.out.size))
      clear HKN1 HKL1 HRA1 HRF1 HB10
      go_wp2_with fail
      go_ret
      exact ⟨rfl, HBE.out⟩
    | true =>
      obtain ⟨rfl, rfl⟩ := HKL1.out rfl
      have HRA2 := Lib.hid (HRA1.out rfl)
      have HRF2 := Lib.hid (HRF1.out rfl)
      clear HKN1 HKL1 HRA1 HRF1
      obtain ⟨x0, x1, x2, x3, x4⟩ := HX.out _ HB10.out
      obtain ⟨y0, y1, y2, y3, y4, y5, y6, y7, y8, y9, y10⟩ := HY.out _ HB10.out
      obtain ⟨z0, z1, z2⟩ := HM.out _ HB10.out
      go_wp2_with fail
      go_at_call 21; refine (HRF2.out _ HB10.out).mono ?_; rintro e u12 ⟨da, dn, dc, d0, j0, e0, d1, j1, e1, rfl, hpi, hb⟩
      have HB11 := Lib.hid (HB10.out.trans (hb.mono HB10.out.size))
      have HPI := Lib.hid hpi
      clear hb hpi HB10 HRF2 x0 x1 x2 x3 x4 y0 y1 y2 y3 y4 y5 y6 y7 y8 y9 y10 z0 z1 z2
      go_wp2_with fail
      go_at_call 17; refine (HRA2.out _ _ _ _ HPI.out).mono ?_; rintro e u13 ⟨rfl, hb⟩
      have HBE := Lib.hid (HB.out.trans ((HB11.out.trans (hb.mono HB11.out.size)).mono HB.out.size))
      clear hb HB11 HPI HRA2
      go_wp2_with fail
      go_ret
      exact ⟨rfl, HBE.out⟩
  · obtain ⟨rfl, rfl, rfl⟩ := HKB.out hz
    have hne : (d != 0) = true := by simpa using hz
    have hee : (d == d) = true := by simp
    have HBE := Lib.hid (HB.out.trans (HB8.out.mono HB.out.size))
    clear HKG HKB HRK HAW HKN HKL HRA HRF HOK HB8
    go_wp2_with fail
    go_ret
    exact ⟨rfl, HBE.out⟩
end Go.Proofs.Ytlnapegbhfphgaa
