/- The law PerftCounts: Count, Divide and Tree count the sequences of the reference. (Written by genlawpc.py.) -/
import Derived.Test.YtdhhdkbnlddnbaaGreatDoorPftL
import Derived.Test.YtdhhdkbnlddnbaaGreatDoorOpnA
set_option maxRecDepth 100000
namespace Go.Proofs.YtdhhdkbnlddnbaaGreatDoor
open Go.ChangeShapes Go.WideShapes Go.ChangeAt Go.RowKit

/-- What the calls answer together. -/
theorem counts_cases (r : RulesD) (p : PlaceD) (x : Int) :
    (pftE r p 0 x ≠ 0 ∧ pftE r p 1 x = pftE r p 0 x ∧ treI r p 0 x = 0 ∧ cntI r p x = 0 ∧ dvdI r p 1 x = []) ∨
    (pftE r p 0 x = 0 ∧ pftE r p 1 x = 1 ∧ x = 0 ∧ POkay r p ∧ treI r p 0 x = (treD r 0 p : Int) ∧ cntI r p x = (cntD r 0 p : Int) ∧ dvdI r p 1 x = []) ∨
    (pftE r p 0 x = 0 ∧ pftE r p 1 x = 0 ∧ POkay r p ∧ ∃ d : Nat, x = (d : Int) + 1 ∧ d ≤ 11 ∧ treD r (d + 1) p ≤ 50000 ∧ treI r p 0 x = (treD r (d + 1) p : Int) ∧ cntI r p x = (cntD r (d + 1) p : Int) ∧ dvdI r p 1 x = partsD r d p) := by
  by_cases h : pftE r p 0 x = 0
  · obtain ⟨hk, h0, h1, h2⟩ := pftE_in h
    have hz := placeE_iff.2 hk
    by_cases hx : x = 0
    · subst hx
      have e1 : pftE r p 1 0 = 1 := by unfold pftE; rw [if_neg (by simpa using hz), if_pos (by omega)]
      exact .inr (.inl ⟨h, e1, rfl, hk, by rw [treI, if_pos h]; rfl, by rw [cntI, if_pos h]; rfl, dvdI_bad (by rw [e1]; decide)⟩)
    · have e1 : pftE r p 1 x = 0 := by unfold pftE; rw [if_neg (by simpa using hz), if_neg (by omega), if_neg (by omega)]
      obtain ⟨d, hd⟩ : ∃ d : Nat, x.toNat = d + 1 := ⟨x.toNat - 1, by omega⟩
      rw [hd] at h2
      exact .inr (.inr ⟨h, e1, hk, d, by omega, by omega, h2, by rw [treI, if_pos h, hd], by rw [cntI, if_pos h, hd], by rw [dvdI, if_pos e1, hd]; rfl⟩)
  · have e1 : pftE r p 1 x = pftE r p 0 x := by
      unfold pftE at h ⊢
      by_cases hz : placeE r p ≠ 0
      · rw [if_pos hz, if_pos hz]
      · rw [if_neg hz] at h ⊢
        rw [if_neg hz]
        by_cases hx : x < 0 ∨ 12 < x
        · rw [if_pos (by omega), if_pos hx]
        · rw [if_neg hx] at h ⊢
          by_cases ht : 50000 < treD r x.toNat p
          · by_cases hx0 : x = 0
            · subst hx0
              exact absurd (show 50000 < 1 from ht) (by omega)
            · rw [if_neg (by omega)]
          · exact absurd (if_neg ht) h
    exact .inl ⟨h, e1, if_neg h, if_neg h, dvdI_bad (by rw [e1]; exact h)⟩
set_option maxHeartbeats 16000000 in
theorem perftCounts_full (r : RulesD) (vp vs ve : Value) (p : PlaceD) (vc v0 v1 : Value) (x : Int) (w : World) (hr : RulesIn w r vp vs ve) (hf : LettersFit r.pieces) (hp : PlaceIn w p vc v0 v1) (hT : Dir w) :
    Calls Tryz.prog 5 #[RulesV r vp vs ve, PlaceV p vc v0 v1, .int .i64 x] w fun e w' => e = .returned (.bool true) ∧ Below w.heap.size w w' := by
  obtain ⟨V, hV⟩ : ∃ V, V = (w.alloc (.cells (RulesCells r vp vs ve) 26)).alloc (.cells (PlaceCells p vc v0 v1) 29) := ⟨_, rfl⟩
  obtain ⟨hB, hY, hX⟩ := rp_boxes w r p vp vs ve vc v0 v1
  rw [← hV] at hB hY hX
  have HB := Lib.hid hB
  have HIR : Hid (∀ W, Below V.heap.size V W → RulesIn W r vp vs ve) := Lib.hid (fun W h => (hr.below hB (Nat.le_refl _)).below h (Nat.le_refl _))
  have HIP : Hid (∀ W, Below V.heap.size V W → PlaceIn W p vc v0 v1) := Lib.hid (fun W h => (hp.below hB (Nat.le_refl _)).below h (Nat.le_refl _))
  have HT : Hid (∀ W, Below V.heap.size V W → Dir W) := Lib.hid (fun W h => (hT.below hB (Nat.le_refl _)).below h (Nat.le_refl _))
  have HX : Hid (∀ W, Below V.heap.size V W → BoxP W (w.heap.size + 1) p vc v0 v1) := Lib.hid (fun W hb => hX.below hb (Nat.le_refl _))
  have HY : Hid (∀ W, Below V.heap.size V W → BoxR W w.heap.size r vp vs ve) := Lib.hid (fun W hb => hY.below hb (Nat.le_refl _))
  have HLT : Hid (∀ W, Below V.heap.size V W → Calls Tryz.prog 22 #[RulesV r vp vs ve, PlaceV p vc v0 v1, .int .i64 x] W (BelPost (.bool (lightB r p x)) W)) := Lib.hid (fun W h => light_any r p vp vs ve vc v0 v1 x W (HIR.out W h) hf (HIP.out W h))
  have HTE : Hid (lightB r p x = true → ∀ W, Below V.heap.size V W → Calls Tryz.prog 23 #[RulesV r vp vs ve, PlaceV p vc v0 v1, .int .i64 x] W (BelPost (.int .i64 (pftE r p 0 x)) W)) := Lib.hid (fun hl W h => treeErr_any r p vp vs ve vc v0 v1 x W (HIR.out W h) hf (HIP.out W h) hl)
  have HTR : Hid (∀ W, Below V.heap.size V W → Calls Tryz.prog 12 #[RulesV r vp vs ve, PlaceV p vc v0 v1, .int .i64 x] W (BelPost (.tuple #[.int .i64 (treI r p 0 x), .int .i64 (pftE r p 0 x)]) W)) := Lib.hid (fun W h => tree_any r p vp vs ve vc v0 v1 x W (HIR.out W h) (HIP.out W h) (HT.out W h))
  have HDV : Hid (∀ W, Below V.heap.size V W → Calls Tryz.prog 6 #[RulesV r vp vs ve, PlaceV p vc v0 v1, .int .i64 x] W (DvdPost r p x W)) := Lib.hid (fun W h => divide_any r p vp vs ve vc v0 v1 x W (HIR.out W h) (HIP.out W h) (HT.out W h))
  have HCX : Hid (∀ W, Below V.heap.size V W → Calls Tryz.prog 13 #[RulesV r vp vs ve, PlaceV p vc v0 v1, .int .i64 x] W (BelPost (.tuple #[.int .i64 (cntI r p x), .int .i64 (pftE r p 0 x)]) W)) := Lib.hid (fun W h => count_any r p vp vs ve vc v0 v1 x W (HIR.out W h) (HIP.out W h) (HT.out W h))
  have HRC : Hid (∀ (d : Nat) (q : PlaceD) (uc u0 u1 : Value) (y : Int) (W : World), Below V.heap.size V W → y = (d : Int) → d ≤ 40 → POkay r q → treD r d q ≤ 60000 → PlaceIn W q uc u0 u1 → Calls Tryz.prog 24 #[RulesV r vp vs ve, PlaceV q uc u0 u1, .int .i64 y] W (BelPost (.int .i64 (cntD r d q : Int)) W)) := Lib.hid (fun d q uc u0 u1 y W h hy hd hk ht hi => refcnt_all d hd r q vp vs ve uc u0 u1 y W hy (HIR.out W h).1 hi hk ht)
  have HRT : Hid (∀ (d : Nat) (y : Int) (W : World), Below V.heap.size V W → y = (d : Int) → d ≤ 40 → POkay r p → treD r d p ≤ 50000 → Calls Tryz.prog 25 #[RulesV r vp vs ve, PlaceV p vc v0 v1, .int .i64 y] W (BelPost (.int .i64 (treD r d p : Int)) W)) := Lib.hid (fun d y W h hy hd hk ht => reftre_all d hd r p vp vs ve vc v0 v1 y W hy (HIR.out W h).1 (HIP.out W h) hk ht)
  have HRS : Hid (POkay r p → ∀ W, Below V.heap.size V W → Calls Tryz.prog 26 #[RulesV r vp vs ve, PlaceV p vc v0 v1] W (BelPost (.int .i64 (resultD r p)) W)) := Lib.hid (fun hk W h => result_any r p vp vs ve vc v0 v1 W (HIR.out W h).1 (HIP.out W h) hk)
  have HMV : Hid (POkay r p → ∀ W, Below V.heap.size V W → Calls Tryz.prog 27 #[RulesV r vp vs ve, PlaceV p vc v0 v1] W (MovesPost (allD r p) W)) := Lib.hid (fun hk W h => refMoves_any r p vp vs ve vc v0 v1 W (HIR.out W h).1 (HIP.out W h) hk)
  have HAF : Hid (POkay r p → ∀ (W : World) (m : MoveD), Below V.heap.size V W → legalB r p m = true → Calls Tryz.prog 28 #[RulesV r vp vs ve, PlaceV p vc v0 v1, moveV m] W (RefAft (afterD r p m) W)) := Lib.hid (fun hk W m h hl => refAfter_any r p vp vs ve vc v0 v1 m W (HIP.out W h) hk hl)
  unfold DvdPost at HDV
  have HCS := Lib.hid (counts_cases r p x)
  obtain ⟨E, hE⟩ : ∃ E, E = pftE r p 0 x := ⟨_, rfl⟩
  obtain ⟨F, hF⟩ : ∃ F, F = pftE r p 1 x := ⟨_, rfl⟩
  obtain ⟨T, hTT⟩ : ∃ T, T = treI r p 0 x := ⟨_, rfl⟩
  obtain ⟨C, hC⟩ : ∃ C, C = cntI r p x := ⟨_, rfl⟩
  obtain ⟨L, hL⟩ : ∃ L, L = dvdI r p 1 x := ⟨_, rfl⟩
  obtain ⟨H, hH⟩ : ∃ H, H = lightB r p x := ⟨_, rfl⟩
  rw [← hE, ← hTT] at HTR
  rw [← hE, ← hC] at HCX
  rw [← hF, ← hL] at HDV
  rw [← hE, ← hF, ← hTT, ← hC, ← hL] at HCS
  rw [← hH] at HLT
  rw [← hH, ← hE] at HTE
  have hV' := hV
  unfold RulesCells PlaceCells at hV'
  unfold RulesV PlaceV PlaceCells at HLT HTE HTR HDV HCX HRC HRT HRS HMV HAF
  unfold moveV at HAF
  unfold RulesV PlaceV PlaceCells
  clear hr hp hB hX hY hT hV hE hF hTT hC hL hH HIR hf
  go_enter Tryz.func5, Tryz.ntmps5
  go_wp2_with fail
  rw [← hV']
  clear hV'
  go_at_call 18; refine (three_law _).mono ?_; rintro e w1 ⟨vp', vs', ve', rfl, hin, hb⟩
  have HB1 := Lib.hid hb
  have HI1 := Lib.hid hin
  clear hb hin
  go_wp2_with fail
  go_at_call 19; refine (near_law _).mono ?_; rintro e w2 ⟨vc', v0', v1', rfl, hp', hb⟩
  have HB2 := Lib.hid (HB1.out.trans (hb.mono HB1.out.size))
  have HD2 := Lib.hid (divide_any three9 nearD vp' vs' ve' vc' v0' v1' 1 w2 (HI1.out.below hb (Nat.le_refl _)) hp' (HT.out w2 HB2.out))
  unfold DvdPost at HD2
  rw [nearL_l, nearL_e] at HD2
  clear hb hp' HB1 HI1
  go_wp2_with fail
  go_at_call 6; refine HD2.out.mono ?_; rintro e w3 ⟨a3, n3, c3, rfl, hI3, rfl, hb⟩
  have HB3 := Lib.hid (HB2.out.trans (hb.mono HB2.out.size))
  clear hb HB2 HD2
  rcases hI3 with ⟨h, _⟩ | ⟨g3, o3, cap3, e3, _, hc3, _, hq3⟩
  · cases h
  simp only [Value.slice.injEq] at e3
  obtain ⟨rfl, -, rfl⟩ := e3
  obtain ⟨k0, k1, k2, k3⟩ := hq3 0 _ rfl
  rw [Nat.zero_mul, Nat.add_zero] at k0 k1 k2 k3
  have HS : Hid (∀ W, Below w3.heap.size w3 W → W.cell? ⟨g3, o3, none⟩ = some (.int .i64 (-1)) ∧ W.cell? ⟨g3, o3 + 1, none⟩ = some (.int .i64 2) ∧ W.cell? ⟨g3, o3 + 2, none⟩ = some (.int .i64 0) ∧ W.cell? ⟨g3, o3 + 3, none⟩ = some (.int .i64 1)) := by
    have h0 := Lib.hid k0
    have h1 := Lib.hid k1
    have h2 := Lib.hid k2
    have h3 := Lib.hid k3
    exact Lib.hid (fun W h => ⟨cell_keeps h (Nat.le_refl _) h0.out, cell_keeps h (Nat.le_refl _) h1.out, cell_keeps h (Nat.le_refl _) h2.out, cell_keeps h (Nat.le_refl _) h3.out⟩)
  have hlc3 : 5 ≤ c3 := by simpa using hc3
  clear hq3 hc3 k0 k1 k2 k3
  simp only [List.length_cons, List.length_nil]
  obtain ⟨k0, k1, k2, k3⟩ := HS.out w3 (Below.refl _ _)
  go_wp2_with fail
  have hBc : Below w3.heap.size w3 w3.drew := (Below.refl _ _).drew
  go_region_held3 (fun w' => w'.cell? ⟨g3, o3, none⟩ = some (.int .i64 (-1)) ∧ w'.cell? ⟨g3, o3 + 1, none⟩ = some (.int .i64 2) ∧ w'.cell? ⟨g3, o3 + 2, none⟩ = some (.int .i64 0) ∧ w'.cell? ⟨g3, o3 + 3, none⟩ = some (.int .i64 1)) (with_reducible exact HS.out _ hBc) (first
    | (go_at_call 20; refine (put_law _ _).mono ?_; rintro e w5 ⟨rfl, hb⟩; have hB5 := hBc.trans (hb.mono hBc.size); have hBc := hB5; clear hb hB5)
    | (go_at_call 21; refine (counted_law _ (HT.out _ (HB3.out.trans (hBc.mono HB3.out.size)))).mono ?_; rintro e w5 ⟨rfl, hb⟩; have hB5 := hBc.trans (hb.mono hBc.size); have hBc := hB5; clear hb hB5))
  all_goals
    have HB5 := Lib.hid (HB3.out.trans (hBc.mono HB3.out.size))
    clear hBc k0 k1 k2 k3 HS
    obtain ⟨x0, x1, x2, x3, x4⟩ := HX.out _ HB5.out
    obtain ⟨y0, y1, y2, y3, y4, y5, y6, y7, y8, y9, y10⟩ := HY.out _ HB5.out
    go_wp2_with fail
    go_at_call 22; refine (HLT.out _ HB5.out).mono ?_; rintro e w6 ⟨rfl, hb⟩
    have HB6 := Lib.hid (HB5.out.trans (hb.mono HB5.out.size))
    clear hb HB5 HLT x0 x1 x2 x3 x4 y0 y1 y2 y3 y4 y5 y6 y7 y8 y9 y10
    cases H
    · go_wp2_with fail
      go_ret
      exact ⟨rfl, HB.out.trans (HB6.out.mono HB.out.size)⟩
    have HTQ := Lib.hid (HTE.out (by first | rfl | trivial))
    clear HTE
    obtain ⟨x0, x1, x2, x3, x4⟩ := HX.out _ HB6.out
    obtain ⟨y0, y1, y2, y3, y4, y5, y6, y7, y8, y9, y10⟩ := HY.out _ HB6.out
    go_wp2_with fail
    go_at_call 13; refine (HCX.out _ HB6.out).mono ?_; rintro e w7 ⟨rfl, hb⟩
    have HB7 := Lib.hid (HB6.out.trans (hb.mono HB6.out.size))
    clear hb HB6 HCX x0 x1 x2 x3 x4 y0 y1 y2 y3 y4 y5 y6 y7 y8 y9 y10
    obtain ⟨x0, x1, x2, x3, x4⟩ := HX.out _ HB7.out
    obtain ⟨y0, y1, y2, y3, y4, y5, y6, y7, y8, y9, y10⟩ := HY.out _ HB7.out
    go_wp2_with fail
    go_at_call 12; refine (HTR.out _ HB7.out).mono ?_; rintro e w8 ⟨rfl, hb⟩
    have HB8 := Lib.hid (HB7.out.trans (hb.mono HB7.out.size))
    clear hb HB7 HTR x0 x1 x2 x3 x4 y0 y1 y2 y3 y4 y5 y6 y7 y8 y9 y10
    obtain ⟨x0, x1, x2, x3, x4⟩ := HX.out _ HB8.out
    obtain ⟨y0, y1, y2, y3, y4, y5, y6, y7, y8, y9, y10⟩ := HY.out _ HB8.out
    go_wp2_with fail
    go_at_call 6; refine (HDV.out _ HB8.out).mono ?_; rintro e w9 ⟨la, ln, lc, rfl, hI, hln, hb⟩
    have HB9 := Lib.hid (HB8.out.trans (hb.mono HB8.out.size))
    have HI9 := Lib.hid hI
    have HLN := Lib.hid hln
    clear hb HB8 HDV hI hln x0 x1 x2 x3 x4 y0 y1 y2 y3 y4 y5 y6 y7 y8 y9 y10
    obtain ⟨x0, x1, x2, x3, x4⟩ := HX.out _ HB9.out
    obtain ⟨y0, y1, y2, y3, y4, y5, y6, y7, y8, y9, y10⟩ := HY.out _ HB9.out
    go_wp2_with fail
    go_at_call 23; refine (HTQ.out _ HB9.out).mono ?_; rintro e w10 ⟨rfl, hb⟩
    have HB10 := Lib.hid (HB9.out.trans (hb.mono HB9.out.size))
    have HI10 := Lib.hid (HI9.out.below part_keeps hb (Nat.le_refl _))
    clear hb HB9 HTQ HI9 x0 x1 x2 x3 x4 y0 y1 y2 y3 y4 y5 y6 y7 y8 y9 y10
    rcases HCS.out with ⟨hE, rfl, rfl, rfl, rfl⟩ | ⟨rfl, rfl, rfl, hk, rfl, rfl, rfl⟩ | ⟨rfl, rfl, hk, d, rfl, hd11, ht5, rfl, rfl, rfl⟩
    · clear HCS
      have hE1 : (F != 0) = true := by simpa using hE
      have hE2 : (F == F) = true := by simp
      obtain rfl : ln = 0 := by simpa using HLN.out
      go_wp2_with fail
      go_ret
      exact ⟨rfl, HB.out.trans (HB10.out.mono HB.out.size)⟩
    · clear HCS
      obtain rfl : ln = 0 := by simpa using HLN.out
      have HR1 := Lib.hid (fun W h => HRC.out 0 p vc v0 v1 0 W h rfl (by omega) hk (by show 1 ≤ 60000; omega) (HIP.out W h))
      have HR2 := Lib.hid (fun W h => HRT.out 0 0 W h rfl (by omega) hk (by show 1 ≤ 50000; omega))
      have hc0 : cntD r 0 p = 1 := rfl
      have ht0 : treD r 0 p = 1 := rfl
      rw [hc0] at HR1
      rw [ht0] at HR2
      rw [hc0, ht0]
      clear HRC HRT HRS HMV HAF hc0 ht0
      obtain ⟨x0, x1, x2, x3, x4⟩ := HX.out _ HB10.out
      obtain ⟨y0, y1, y2, y3, y4, y5, y6, y7, y8, y9, y10⟩ := HY.out _ HB10.out
      go_wp2_with fail
      go_at_call 24; refine (HR1.out _ HB10.out).mono ?_; rintro e w11 ⟨rfl, hb⟩
      have HB11 := Lib.hid (HB10.out.trans (hb.mono HB10.out.size))
      clear hb HB10 HR1 x0 x1 x2 x3 x4 y0 y1 y2 y3 y4 y5 y6 y7 y8 y9 y10
      obtain ⟨x0, x1, x2, x3, x4⟩ := HX.out _ HB11.out
      obtain ⟨y0, y1, y2, y3, y4, y5, y6, y7, y8, y9, y10⟩ := HY.out _ HB11.out
      go_wp2_with fail
      go_at_call 25; refine (HR2.out _ HB11.out).mono ?_; rintro e w12 ⟨rfl, hb⟩
      have HB12 := Lib.hid (HB11.out.trans (hb.mono HB11.out.size))
      clear hb HB11 HR2 x0 x1 x2 x3 x4 y0 y1 y2 y3 y4 y5 y6 y7 y8 y9 y10
      go_wp2_with fail
      go_ret
      exact ⟨rfl, HB.out.trans (HB12.out.mono HB.out.size)⟩
    · clear HCS
      have HR1 := Lib.hid (fun W h => HRC.out (d + 1) p vc v0 v1 ((d : Int) + 1) W h (by push_cast; rfl) (by omega) hk (by omega) (HIP.out W h))
      have HR2 := Lib.hid (fun W h => HRT.out (d + 1) ((d : Int) + 1) W h (by push_cast; rfl) (by omega) hk ht5)
      have HR3 := Lib.hid (HRS.out hk)
      have HR4 := Lib.hid (HMV.out hk)
      have HR5 := Lib.hid (HAF.out hk)
      have HK := Lib.hid hk
      have HT5 := Lib.hid ht5
      have HCNT : Hid (cntD r (d + 1) p = cntD r (d + 1) p) := Lib.hid rfl
      clear HRT HRS HMV HAF hk ht5
      generalize cntD r (d + 1) p = C at HR1
      generalize treD r (d + 1) p = T at HR2
      have hcc : ((C : Int) != (C : Int)) = false := by simp
      have htt : ((T : Int) != (T : Int)) = false := by simp
      have hdz : (((d : Int) + 1) == 0) = false := by simp; omega
      obtain ⟨x0, x1, x2, x3, x4⟩ := HX.out _ HB10.out
      obtain ⟨y0, y1, y2, y3, y4, y5, y6, y7, y8, y9, y10⟩ := HY.out _ HB10.out
      go_wp2_with fail
      go_at_call 24; refine (HR1.out _ HB10.out).mono ?_; rintro e w11 ⟨rfl, hb⟩
      have HB11 := Lib.hid (HB10.out.trans (hb.mono HB10.out.size))
      have HI11 := Lib.hid (HI10.out.below part_keeps hb (Nat.le_refl _))
      clear hb HB10 HI10 HR1 x0 x1 x2 x3 x4 y0 y1 y2 y3 y4 y5 y6 y7 y8 y9 y10
      obtain ⟨x0, x1, x2, x3, x4⟩ := HX.out _ HB11.out
      obtain ⟨y0, y1, y2, y3, y4, y5, y6, y7, y8, y9, y10⟩ := HY.out _ HB11.out
      go_wp2_with fail
      go_at_call 25; refine (HR2.out _ HB11.out).mono ?_; rintro e w12 ⟨rfl, hb⟩
      have HB12 := Lib.hid (HB11.out.trans (hb.mono HB11.out.size))
      have HI12 := Lib.hid (HI11.out.below part_keeps hb (Nat.le_refl _))
      clear hb HB11 HI11 HR2 x0 x1 x2 x3 x4 y0 y1 y2 y3 y4 y5 y6 y7 y8 y9 y10
      obtain ⟨x0, x1, x2, x3, x4⟩ := HX.out _ HB12.out
      obtain ⟨y0, y1, y2, y3, y4, y5, y6, y7, y8, y9, y10⟩ := HY.out _ HB12.out
      obtain ⟨e0, he0⟩ : ∃ e0, e0 = resultD r p := ⟨_, rfl⟩
      have HE0 := Lib.hid he0
      rw [← he0] at HR3
      clear he0
      go_wp2_with fail
      go_at_call 26; refine (HR3.out _ HB12.out).mono ?_; rintro e w13 ⟨rfl, hb⟩
      have HB13 := Lib.hid (HB12.out.trans (hb.mono HB12.out.size))
      have HI13 := Lib.hid (HI12.out.below part_keeps hb (Nat.le_refl _))
      clear hb HB12 HI12 HR3 x0 x1 x2 x3 x4 y0 y1 y2 y3 y4 y5 y6 y7 y8 y9 y10
      by_cases h0 : e0 = 0
      · have HST : Hid (stepsD r p = allD r p) := Lib.hid (steps_open (by rw [← HE0.out]; exact h0))
        rw [← HST.out] at HR4
        subst h0
        obtain ⟨x0, x1, x2, x3, x4⟩ := HX.out _ HB13.out
        obtain ⟨y0, y1, y2, y3, y4, y5, y6, y7, y8, y9, y10⟩ := HY.out _ HB13.out
        go_wp2_with fail
        go_at_call 27; refine (HR4.out _ HB13.out).mono ?_; rintro e w14 ⟨ma, mn, mc', rfl, hIM, hb⟩
        have HB14 := Lib.hid (HB13.out.trans (hb.mono HB13.out.size))
        have HI14 := Lib.hid (HI13.out.below part_keeps hb (Nat.le_refl _))
        have hmn : mn = ln := by rw [hIM.len, HLN.out, partsD, List.length_map]
        subst hmn
        have HLE : Hid (mn = (stepsD r p).length) := Lib.hid hIM.len
        obtain ⟨a', lc', e1, hlc, hls⟩ := HI14.out.shape HLN.out
        simp only [Value.slice.injEq, true_and] at e1
        obtain ⟨rfl, rfl⟩ := e1
        obtain ⟨a', lc', e1, hlc2, hls2⟩ := hIM.shape HLE.out
        simp only [Value.slice.injEq, true_and] at e1
        obtain ⟨rfl, rfl⟩ := e1
        have HLS : Hid (∀ W, Below w14.heap.size w14 W → ∀ k, k < mn → ∃ g o g2 o2 m1 m2 m3, ∃ c : Nat, la = some ⟨g, o, none⟩ ∧ ma = some ⟨g2, o2, none⟩ ∧ (stepsD r p)[k]? = some (m1, m2, m3) ∧ c = cntD r d (afterD r p (m1, m2, m3)) ∧ (W.cell? ⟨g, o + k * 4, none⟩ = some (.int .i64 m1) ∧ W.cell? ⟨g, o + k * 4 + 1, none⟩ = some (.int .i64 m2) ∧ W.cell? ⟨g, o + k * 4 + 2, none⟩ = some (.int .i64 m3) ∧ W.cell? ⟨g, o + k * 4 + 3, none⟩ = some (.int .i64 (c : Int))) ∧ W.cell? ⟨g2, o2 + k * 3, none⟩ = some (.int .i64 m1) ∧ W.cell? ⟨g2, o2 + k * 3 + 1, none⟩ = some (.int .i64 m2) ∧ W.cell? ⟨g2, o2 + k * 3 + 2, none⟩ = some (.int .i64 m3)) := Lib.hid (fun W h k hk => by
          obtain ⟨g, o, ⟨⟨m1, m2, m3⟩, c⟩, i1, i2, i3⟩ := hls k hk
          obtain ⟨g2, o2, ⟨m1', m2', m3'⟩, j1, j2, j3⟩ := hls2 k hk
          have i4 : (partsD r d p)[k]? = some ((m1', m2', m3'), cntD r d (afterD r p (m1', m2', m3'))) := by rw [partsD, List.getElem?_map, j2]; rfl
          rw [i4] at i2
          simp only [Option.some.injEq, Prod.mk.injEq] at i2
          obtain ⟨⟨rfl, rfl, rfl⟩, rfl⟩ := i2
          obtain ⟨d0, d1, d2⟩ := move_keeps _ _ _ _ _ _ h (Nat.le_refl _) j3
          exact ⟨g, o, g2, o2, _, _, _, _, i1, j1, j2, rfl, part_keeps _ _ _ _ _ _ h (Nat.le_refl _) i3, d0, d1, d2⟩)
        have HMN5 : Hid (mn ≤ 5000) := Lib.hid (by rw [HLE.out]; exact steps_length HK.out)
        have hmn5 := HMN5.out
        have hnn : ((mn : Int) != (mn : Int)) = false := by simp
        clear hb hls hls2 hIM HB13 HI13 HI14 HR4 HMN5 HST x0 x1 x2 x3 x4 y0 y1 y2 y3 y4 y5 y6 y7 y8 y9 y10
        go_wp2_with fail
        go_loopw [17, 18, 158] (fun _ _ i wr => ∃ k : Nat, k ≤ mn ∧ i = .int .i64 (k : Int) ∧ Hid (Below w14.heap.size w14 wr)) (fun _ _ i _ => mn - (intOf i).toNat)
        case atStart => exact ⟨0, by omega, rfl, Lib.hid (Below.refl _ _)⟩
        case round =>
          obtain ⟨k, hk, rfl, hBr⟩ := hrel
          have HBV := Lib.hid (HB14.out.trans (hBr.out.mono HB14.out.size))
          by_cases hlt : k < mn
          · obtain ⟨g, o, g2, o2, m1, m2, m3, c, rfl, rfl, hm, hc, ⟨c0, c1, c2, c3⟩, d0, d1, d2⟩ := HLS.out wr hBr.out k hlt
            have hal := (Below.refl wr.heap.size wr).alloc (Nat.le_refl _) (.cells #[.int .i64 m1, .int .i64 m2, .int .i64 m3, .int .i64 (c : Int)] 39)
            have hmb := heap_alloc_new wr (.cells #[.int .i64 m1, .int .i64 m2, .int .i64 m3, .int .i64 (c : Int)] 39)
            obtain ⟨mb, hmbe⟩ : ∃ mb, mb = wr.heap.size := ⟨_, rfl⟩
            obtain ⟨wx, hwx⟩ : ∃ wx, wx = wr.alloc (.cells #[.int .i64 m1, .int .i64 m2, .int .i64 m3, .int .i64 (c : Int)] 39) := ⟨_, rfl⟩
            rw [← hwx] at hal hmb
            rw [← hmbe] at hmb
            have hBV3 := HBV.out.trans (hal.mono HBV.out.size)
            have HBV3 := Lib.hid hBV3
            have HBr3 := Lib.hid (hBr.out.trans (hal.mono hBr.out.size))
            have hdm : MoveAt wr g2 (o2 + k * 3) (m1, m2, m3) := ⟨d0, d1, d2⟩
            have HG : Hid (∀ w' : World, Below wx.heap.size wx w' → w'.cell? ⟨w.heap.size, 0, none⟩ = some (.string r.name) ∧ w'.cell? ⟨w.heap.size, 1, none⟩ = some (.int .i64 r.width) ∧ w'.cell? ⟨w.heap.size, 2, none⟩ = some (.int .i64 r.height) ∧ w'.cell? ⟨w.heap.size, 3, none⟩ = some vp ∧ w'.cell? ⟨w.heap.size, 4, none⟩ = some vs ∧ w'.cell? ⟨w.heap.size, 5, none⟩ = some (.bool r.falls) ∧ w'.cell? ⟨w.heap.size, 6, none⟩ = some (.bool r.keeps) ∧ w'.cell? ⟨w.heap.size, 7, none⟩ = some ve ∧ w'.cell? ⟨w.heap.size, 8, none⟩ = some (.int .i64 r.blocked) ∧ w'.cell? ⟨w.heap.size, 9, none⟩ = some (.int .i64 r.quiet) ∧ w'.cell? ⟨w.heap.size, 10, none⟩ = some (.int .i64 r.rep) ∧ w'.cell? ⟨w.heap.size + 1, 0, none⟩ = some vc ∧ w'.cell? ⟨w.heap.size + 1, 1, none⟩ = some v0 ∧ w'.cell? ⟨w.heap.size + 1, 2, none⟩ = some v1 ∧ w'.cell? ⟨w.heap.size + 1, 3, none⟩ = some (.int .i64 p.turn) ∧ w'.cell? ⟨w.heap.size + 1, 4, none⟩ = some (.int .i64 p.quiet) ∧ w'.cell? ⟨mb, 0, none⟩ = some (.int .i64 m1) ∧ w'.cell? ⟨mb, 1, none⟩ = some (.int .i64 m2) ∧ w'.cell? ⟨mb, 2, none⟩ = some (.int .i64 m3) ∧ w'.cell? ⟨mb, 3, none⟩ = some (.int .i64 (c : Int)) ∧ w'.cell? ⟨g2, o2 + k * 3, none⟩ = some (.int .i64 m1) ∧ w'.cell? ⟨g2, o2 + k * 3 + 1, none⟩ = some (.int .i64 m2) ∧ w'.cell? ⟨g2, o2 + k * 3 + 2, none⟩ = some (.int .i64 m3)) := Lib.hid (fun w' h => by
              have hv := HBV3.out.trans (h.mono HBV3.out.size)
              obtain ⟨x0, x1, x2, x3, x4⟩ := HX.out w' hv
              obtain ⟨y0, y1, y2, y3, y4, y5, y6, y7, y8, y9, y10⟩ := HY.out w' hv
              have h1 := (h.block mb (Array.getElem?_eq_some_iff.1 hmb).1).trans hmb
              obtain ⟨e0, e1, e2⟩ := move_keeps _ _ _ _ _ _ (hal.trans (h.mono hal.size)) (Nat.le_refl _) hdm
              exact ⟨y0, y1, y2, y3, y4, y5, y6, y7, y8, y9, y10, x0, x1, x2, x3, x4, cell_of_row w' _ 0 _ _ (0, 0) h1, cell_of_row w' _ 1 _ _ (0, 0) h1, cell_of_row w' _ 2 _ _ (0, 0) h1, cell_of_row w' _ 3 _ _ (0, 0) h1, e0, e1, e2⟩)
            obtain ⟨y0, y1, y2, y3, y4, y5, y6, y7, y8, y9, y10, x0, x1, x2, x3, x4, n0, n1, n2, n3, e0, e1, e2⟩ := HG.out wx (Below.refl _ _)
            have HML : Hid ((m1, m2, m3) ∈ stepsD r p) := Lib.hid (List.mem_of_getElem? hm)
            have HAQ : Hid (∀ W, Below wx.heap.size wx W → Calls Tryz.prog 28 #[.agg #[.string r.name, .int .i64 r.width, .int .i64 r.height, vp, vs, .bool r.falls, .bool r.keeps, ve, .int .i64 r.blocked, .int .i64 r.quiet, .int .i64 r.rep], .agg #[vc, v0, v1, .int .i64 p.turn, .int .i64 p.quiet], .agg #[.int .i64 m1, .int .i64 m2, .int .i64 m3]] W (RefAft (afterD r p (m1, m2, m3)) W)) := Lib.hid (fun W h => HR5.out W (m1, m2, m3) (HBV3.out.trans (h.mono HBV3.out.size)) (steps_legal HML.out).2)
            have HRQ : Hid (∀ (uc u0 u1 : Value) (y : Int) (W : World), Below wx.heap.size wx W → y = (d : Int) → PlaceIn W (afterD r p (m1, m2, m3)) uc u0 u1 → Calls Tryz.prog 24 #[.agg #[.string r.name, .int .i64 r.width, .int .i64 r.height, vp, vs, .bool r.falls, .bool r.keeps, ve, .int .i64 r.blocked, .int .i64 r.quiet, .int .i64 r.rep], .agg #[uc, u0, u1, .int .i64 (afterD r p (m1, m2, m3)).turn, .int .i64 (afterD r p (m1, m2, m3)).quiet], .int .i64 y] W (BelPost (.int .i64 (c : Int)) W)) := Lib.hid (fun uc u0 u1 y W h hy hi => by
              have h1 := HRC.out d (afterD r p (m1, m2, m3)) uc u0 u1 y W (HBV3.out.trans (h.mono HBV3.out.size)) hy (by omega) (steps_okay HK.out HML.out) (by have := tre_after (d := d) HML.out; have := HT5.out; omega) hi
              rw [← hc] at h1
              exact h1)
            obtain ⟨q2, hq2⟩ : ∃ q2, q2 = afterD r p (m1, m2, m3) := ⟨_, rfl⟩
            rw [← hq2] at HAQ HRQ
            have hnq := neqMove
            have hgd := guardMove
            have hsm : sameM (m1, m2, m3) (m1, m2, m3) = true := sameM_eq rfl
            have hcq : ((c : Int) != (c : Int)) = false := by simp
            rw [hwx] at y0 y1 y2 y3 y4 y5 y6 y7 y8 y9 y10 x0 x1 x2 x3 x4 n0 n1 n2 n3 e0 e1 e2
            rw [hmbe] at n0 n1 n2 n3
            clear hal hm hc hq2 hmb hBV3 hdm d0 d1 d2
            go_wp2_with fail
            rw [← hwx, ← hmbe]
            rw [← hwx] at y0 y1 y2 y3 y4 y5 y6 y7 y8 y9 y10 x0 x1 x2 x3 x4 n0 n1 n2 n3 e0 e1 e2
            rw [← hmbe] at n0 n1 n2 n3
            clear hwx hmbe c0 c1 c2 c3
            have hBc : Below wx.heap.size wx wx.drew := (Below.refl _ _).drew
            go_region_held3 (fun w' => w'.cell? ⟨w.heap.size, 0, none⟩ = some (.string r.name) ∧ w'.cell? ⟨w.heap.size, 1, none⟩ = some (.int .i64 r.width) ∧ w'.cell? ⟨w.heap.size, 2, none⟩ = some (.int .i64 r.height) ∧ w'.cell? ⟨w.heap.size, 3, none⟩ = some vp ∧ w'.cell? ⟨w.heap.size, 4, none⟩ = some vs ∧ w'.cell? ⟨w.heap.size, 5, none⟩ = some (.bool r.falls) ∧ w'.cell? ⟨w.heap.size, 6, none⟩ = some (.bool r.keeps) ∧ w'.cell? ⟨w.heap.size, 7, none⟩ = some ve ∧ w'.cell? ⟨w.heap.size, 8, none⟩ = some (.int .i64 r.blocked) ∧ w'.cell? ⟨w.heap.size, 9, none⟩ = some (.int .i64 r.quiet) ∧ w'.cell? ⟨w.heap.size, 10, none⟩ = some (.int .i64 r.rep) ∧ w'.cell? ⟨w.heap.size + 1, 0, none⟩ = some vc ∧ w'.cell? ⟨w.heap.size + 1, 1, none⟩ = some v0 ∧ w'.cell? ⟨w.heap.size + 1, 2, none⟩ = some v1 ∧ w'.cell? ⟨w.heap.size + 1, 3, none⟩ = some (.int .i64 p.turn) ∧ w'.cell? ⟨w.heap.size + 1, 4, none⟩ = some (.int .i64 p.quiet) ∧ w'.cell? ⟨mb, 0, none⟩ = some (.int .i64 m1) ∧ w'.cell? ⟨mb, 1, none⟩ = some (.int .i64 m2) ∧ w'.cell? ⟨mb, 2, none⟩ = some (.int .i64 m3) ∧ w'.cell? ⟨mb, 3, none⟩ = some (.int .i64 (c : Int)) ∧ w'.cell? ⟨g2, o2 + k * 3, none⟩ = some (.int .i64 m1) ∧ w'.cell? ⟨g2, o2 + k * 3 + 1, none⟩ = some (.int .i64 m2) ∧ w'.cell? ⟨g2, o2 + k * 3 + 2, none⟩ = some (.int .i64 m3)) (with_reducible exact HG.out _ hBc) (first
              | (go_at_call 28; refine (HAQ.out _ hBc).mono ?_; rintro e w5 ⟨ca, cn, cc, a0, an0, ac0, a1, an1, ac1, rfl, hi2, hb⟩; have hB5 := hBc.trans (hb.mono hBc.size); have hBc := hB5; clear hb hB5)
              | (go_at_call 24; refine (HRQ.out _ _ _ _ _ hBc (by first | omega | (rw [IntKind.wrap_i64]; omega)) hi2).mono ?_; rintro e w5 ⟨rfl, hb⟩; have hB5 := hBc.trans (hb.mono hBc.size); have hBc := hB5; clear hb hB5))
            have HB5 := Lib.hid (HBr3.out.trans (hBc.mono HBr3.out.size))
            clear hBc hi2 HAQ HRQ HG y0 y1 y2 y3 y4 y5 y6 y7 y8 y9 y10 x0 x1 x2 x3 x4 n0 n1 n2 n3 e0 e1 e2
            go_wp2_with fail
            go_roundw
            case rel => exact ⟨k + 1, by omega, by go_num, HB5⟩
            case measure => simp [intOf]; omega
          · obtain rfl : k = mn := by omega
            go_wp2_with fail
            go_ret
            exact ⟨rfl, HB.out.trans (HBV.out.mono HB.out.size)⟩
      · have hST : stepsD r p = [] := steps_over (by rw [← HE0.out]; exact h0)
        obtain rfl : ln = 0 := by rw [HLN.out, partsD, hST]; rfl
        have hne : (e0 != 0) = true := by simpa using h0
        clear hST h0
        go_wp2_with fail
        go_ret
        exact ⟨rfl, HB.out.trans (HB13.out.mono HB.out.size)⟩
end Go.Proofs.YtdhhdkbnlddnbaaGreatDoor
