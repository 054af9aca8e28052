/- gamehalltop: bSame of equal positions; bPlayed: that a game works. (Written by genpldt.py.) -/
import Derived.Test.YtomclohfppbegaaGreatDoorGmeT
import Derived.Test.YtomclohfppbegaaGreatDoorTopK
import Derived.Test.YtomclohfppbegaaGreatDoorFinT
import Derived.Test.YtomclohfppbegaaGreatDoorSamA
set_option maxRecDepth 100000
namespace Go.Proofs.YtomclohfppbegaaGreatDoor
open Go.ChangeShapes Go.WideShapes Go.ChangeAt Go.RowKit

theorem sameB_self (q : PlaceD) : sameB q q = true := by simp [sameB]
set_option maxHeartbeats 4000000 in
theorem bsame_eq (q : PlaceD) (vc v0 v1 uc u0 u1 : Value) (w : World) (h1 : PlaceIn w q vc v0 v1) (h2 : PlaceIn w q uc u0 u1) (hs : Short q) :
    Calls Tryz.prog 14 #[PlaceV q vc v0 v1, PlaceV q uc u0 u1] w (BelPost (.bool true) w) := by
  obtain ⟨V, hV⟩ : ∃ V, V = (w.alloc (.cells (PlaceCells q vc v0 v1) 43)).alloc (.cells (PlaceCells q uc u0 u1) 43) := ⟨_, rfl⟩
  obtain ⟨hB, hX, hY⟩ := two_boxes w q q vc v0 v1 uc u0 u1 43
  rw [← hV] at hB hX hY
  have HB := Lib.hid hB
  have HS := Lib.hid (Same_any q q vc v0 v1 uc u0 u1 V (h1.below hB (Nat.le_refl _)) (h2.below hB (Nat.le_refl _)) hs)
  rw [sameB_self] at HS
  have HX : Hid (∀ W, Below V.heap.size V W → BoxP W w.heap.size q vc v0 v1) := Lib.hid (fun W h => hX.below h (Nat.le_refl _))
  have HY : Hid (∀ W, Below V.heap.size V W → BoxP W (w.heap.size + 1) q uc u0 u1) := Lib.hid (fun W h => hY.below h (Nat.le_refl _))
  obtain ⟨x0, x1, x2, x3, x4⟩ := hX
  obtain ⟨y0, y1, y2, y3, y4⟩ := hY
  have hV' := hV
  unfold PlaceCells at hV'
  unfold PlaceV PlaceCells at HS ⊢
  rw [hV] at x0 x1 x2 x3 x4 y0 y1 y2 y3 y4
  have hqq : (q.quiet == q.quiet) = true := by simp
  clear h1 h2 hB hs hV
  go_enter Tryz.func14, Tryz.ntmps14
  go_wp2_with fail
  rw [← hV']
  clear hV' x0 x1 x2 x3 x4 y0 y1 y2 y3 y4
  go_at_call 33; refine HS.out.mono ?_; rintro e w1 ⟨rfl, hb⟩
  obtain ⟨-, -, -, -, x4⟩ := HX.out _ hb
  obtain ⟨-, -, -, -, y4⟩ := HY.out _ hb
  have HBE := Lib.hid (HB.out.trans (hb.mono HB.out.size))
  clear hb HB
  go_wp2_with fail
  go_ret
  exact ⟨rfl, HBE.out⟩
theorem near_all5 : (allD three9 nearD).length = 5 := by decide +kernel
theorem begin_len9 : (beginD three9).cells.length = 9 := by decide +kernel
theorem begin9_ok : POkay three9 (beginD three9) := beginD_ok rules9
theorem all_near (vp vs ve vc v0 v1 : Value) (w : World) (hr : RulesIn w three9 vp vs ve) (hp : PlaceIn w nearD vc v0 v1) : Calls Tryz.prog 10 #[RulesV three9 vp vs ve, PlaceV nearD vc v0 v1] w (fun e w' => ∃ a c, e = .returned (.tuple #[.slice a 5 c, .int .i64 0]) ∧ Below w.heap.size w w') :=
  (all_ok three9 nearD vp vs ve vc v0 v1 w hr hp near_ok).mono fun _ _ ⟨a, n, c, h1, _, h2, h3⟩ => ⟨a, c, by rw [h1, h2, near_all5], h3⟩
set_option maxHeartbeats 8000000 in
theorem bplayed_any (w : World) (hT : Dir w) : Calls Tryz.prog 8 #[] w (BelPost (.bool true) w) := by
  have HT : Hid (∀ W, Below w.heap.size w W → Dir W) := Lib.hid (fun W h => hT.below h (Nat.le_refl _))
  clear hT
  go_enter Tryz.func8, Tryz.ntmps8
  go_wp2_with fail
  go_at_call 5; refine (three_top _).mono ?_; rintro e w1 ⟨vp1, vs1, ve1, rfl, hin, hb⟩
  have HB1 := Lib.hid hb
  have HI1 := Lib.hid hin
  clear hb hin
  go_wp2_with fail
  go_at_call 30; refine (put_top _ _).mono ?_; rintro e w2 ⟨rfl, hb⟩
  have HB2 := Lib.hid (HB1.out.trans (hb.mono HB1.out.size))
  have HI2 := Lib.hid (HI1.out.below hb (Nat.le_refl _))
  clear hb HB1 HI1
  go_wp2_with fail
  go_at_call 30; refine (put_top _ _).mono ?_; rintro e w3 ⟨rfl, hb⟩
  have HB3 := Lib.hid (HB2.out.trans (hb.mono HB2.out.size))
  have HI3 := Lib.hid (HI2.out.below hb (Nat.le_refl _))
  clear hb HB2 HI2
  go_wp2_with fail
  go_at_call 30; refine (put_top _ _).mono ?_; rintro e w4 ⟨rfl, hb⟩
  have HB4 := Lib.hid (HB3.out.trans (hb.mono HB3.out.size))
  have HI4 := Lib.hid (HI3.out.below hb (Nat.le_refl _))
  clear hb HB3 HI3
  go_wp2_with fail
  go_at_call 30; refine (put_top _ _).mono ?_; rintro e w5 ⟨rfl, hb⟩
  have HB5 := Lib.hid (HB4.out.trans (hb.mono HB4.out.size))
  have HI5 := Lib.hid (HI4.out.below hb (Nat.le_refl _))
  clear hb HB4 HI4
  go_wp2_with fail
  go_at_call 30; refine (put_top _ _).mono ?_; rintro e w6 ⟨rfl, hb⟩
  have HB6 := Lib.hid (HB5.out.trans (hb.mono HB5.out.size))
  have HI6 := Lib.hid (HI5.out.below hb (Nat.le_refl _))
  clear hb HB5 HI5
  go_wp2_with fail
  have hal := (Below.refl w6.heap.size w6).alloc (Nat.le_refl _) (.cells fiveV 47)
  have hnw := heap_alloc_new w6 (.cells fiveV 47)
  have HB7 := Lib.hid (HB6.out.trans (hal.mono HB6.out.size))
  have HRN := Lib.hid (run_five vp1 vs1 ve1 w6.heap.size _ (HI6.out.below hal (Nat.le_refl _)) (HT.out _ HB7.out) hnw)
  unfold fiveV at HB7 HRN
  clear hal hnw HB6 HI6
  go_at_call 29; refine HRN.out.mono ?_; rintro e w8 ⟨q, hq9, ca, cn, cc, a0, n0, c0, a1, n1, c1, rfl, hpf, hb⟩
  have hcn : cn = 9 := by
    have := hpf.plain.c.shape rfl
    obtain ⟨b, cap, e1, _, _⟩ := this
    simp only [Value.slice.injEq] at e1
    omega
  subst hcn
  have hb8 := HB7.out.trans (hb.mono HB7.out.size)
  have hX := boxP_new w8 q (.slice ca 9 cc) (.slice a0 n0 c0) (.slice a1 n1 c1) 43
  have hal := (Below.refl w8.heap.size w8).alloc (Nat.le_refl _) (.cells (PlaceCells q (.slice ca 9 cc) (.slice a0 n0 c0) (.slice a1 n1 c1)) 43)
  have hlt9 : w8.heap.size < (w8.alloc (.cells (PlaceCells q (.slice ca 9 cc) (.slice a0 n0 c0) (.slice a1 n1 c1)) 43)).heap.size := by simp
  have HB9 := Lib.hid (hb8.trans (hal.mono hb8.size))
  have HX9 : Hid (∀ W, Below (w8.alloc (.cells (PlaceCells q (.slice ca 9 cc) (.slice a0 n0 c0) (.slice a1 n1 c1)) 43)).heap.size (w8.alloc (.cells (PlaceCells q (.slice ca 9 cc) (.slice a0 n0 c0) (.slice a1 n1 c1)) 43)) W → W.cell? ⟨w8.heap.size, 0, none⟩ = some (.slice ca 9 cc)) := Lib.hid (fun W h => (hX.below h (Nat.le_refl _)).1)
  unfold PlaceCells at HB9 HX9 hlt9
  clear hb hb8 hX hal hpf hq9 HB7 HRN
  go_wp2_with fail
  generalize w8.alloc (.cells #[.slice ca 9 cc, .slice a0 n0 c0, .slice a1 n1 c1, .int .i64 q.turn, .int .i64 q.quiet] 43) = w9 at HB9 HX9 hlt9 ⊢
  generalize w8.heap.size = pb at HX9 hlt9 ⊢
  go_at_call 5; refine (three_top _).mono ?_; rintro e w10 ⟨vp2, vs2, ve2, rfl, hin, hb⟩
  have HK10 := Lib.hid hb
  have HI10 := Lib.hid hin
  clear hb hin
  go_wp2_with fail
  go_at_call 31; refine (near_top _).mono ?_; rintro e w11 ⟨uc, u0, u1, rfl, hpn, hb⟩
  have HK11 := Lib.hid (HK10.out.trans (hb.mono HK10.out.size))
  have HAL := Lib.hid (all_near vp2 vs2 ve2 uc u0 u1 _ (HI10.out.below hb (Nat.le_refl _)) hpn)
  clear hb hpn HK10 HI10
  go_wp2_with fail
  go_at_call 10; refine HAL.out.mono ?_; rintro e w12 ⟨la, lc, rfl, hb⟩
  have HK12 := Lib.hid (HK11.out.trans (hb.mono HK11.out.size))
  clear hb HK11 HAL
  go_wp2_with fail
  go_at_call 5; refine (three_top _).mono ?_; rintro e w13 ⟨vp3, vs3, ve3, rfl, hin, hb⟩
  have HK13 := Lib.hid (HK12.out.trans (hb.mono HK12.out.size))
  have HBG := Lib.hid (begin_fresh three9 vp3 vs3 ve3 _ hin rules9)
  obtain ⟨qb, hqb⟩ : ∃ qb, qb = beginD three9 := ⟨_, rfl⟩
  have HQL : Hid (qb.cells.length = 9) := Lib.hid (by rw [hqb]; exact begin_len9)
  have HQO : Hid (Short qb) := Lib.hid (by rw [hqb]; exact begin9_ok.short)
  rw [← hqb] at HBG
  clear hb hin HK12 hqb
  go_wp2_with fail
  go_at_call 32; refine HBG.out.mono ?_; rintro e w14 ⟨da, dn, dc, d0, dn0, dc0, d1, dn1, dc1, rfl, hpf, hb⟩
  have hdn : dn = 9 := by
    obtain ⟨b, cap, e1, _, _⟩ := hpf.plain.c.shape (n := 9) HQL.out.symm
    simp only [Value.slice.injEq] at e1
    omega
  subst hdn
  have hb14 := HK13.out.trans (hb.mono HK13.out.size)
  have hX := boxP_new w14 qb (.slice da 9 dc) (.slice d0 dn0 dc0) (.slice d1 dn1 dc1) 43
  have hal := (Below.refl w14.heap.size w14).alloc (Nat.le_refl _) (.cells (PlaceCells qb (.slice da 9 dc) (.slice d0 dn0 dc0) (.slice d1 dn1 dc1)) 43)
  have HK15 := Lib.hid (hb14.trans (hal.mono hb14.size))
  have HPB := Lib.hid (hpf.plain.below hal (Nat.le_refl _))
  have HXB := Lib.hid hX
  have HSZ : Hid (w14.heap.size + 1 = (w14.alloc (.cells (PlaceCells qb (.slice da 9 dc) (.slice d0 dn0 dc0) (.slice d1 dn1 dc1)) 43)).heap.size) := Lib.hid (by simp)
  unfold PlaceCells at HK15 HPB HXB HSZ
  clear hb hb14 hX hal hpf HBG HK13
  go_wp2_with fail
  generalize w14.alloc (.cells #[.slice da 9 dc, .slice d0 dn0 dc0, .slice d1 dn1 dc1, .int .i64 qb.turn, .int .i64 qb.quiet] 43) = w15 at HK15 HPB HXB HSZ ⊢
  generalize w14.heap.size = pb2 at HXB HSZ ⊢
  go_at_call 7; refine (fine3T w15 _ HSZ.out).mono ?_; rintro e w16 ⟨rfl, hb⟩
  have x0 := HX9.out _ (HK15.out.trans (hb.mono HK15.out.size))
  obtain ⟨y0, y1, y2, y3, y4⟩ := HXB.out.below hb (Nat.le_refl _)
  have HB16 := Lib.hid (HB9.out.trans ((HK15.out.trans (hb.mono HK15.out.size)).mono HB9.out.size))
  have HSM := Lib.hid (Same_any qb qb _ _ _ _ _ _ _ (HPB.out.below hb (Nat.le_refl _)) (HPB.out.below hb (Nat.le_refl _)) HQO.out)
  rw [sameB_self] at HSM
  unfold PlaceV PlaceCells at HSM
  clear hb HPB HXB HK15 HB9 HX9
  go_wp2_with fail
  go_at_call 33; refine HSM.out.mono ?_; rintro e w17 ⟨rfl, hb⟩
  have HBE := Lib.hid (HB16.out.trans (hb.mono HB16.out.size))
  clear hb HB16 HSM x0 y0 y1 y2 y3 y4
  go_wp2_with fail
  go_ret
  exact ⟨rfl, HBE.out⟩
end Go.Proofs.YtomclohfppbegaaGreatDoor
