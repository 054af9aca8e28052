/- The law ZobChanges: the key after a move is that of the position after it. -/
import Derived.Test.YtlnapegbhfphgaaKeyed
import Derived.Test.YtlnapegbhfphgaaSomeM
import Derived.Test.YtlnapegbhfphgaaOpnA
set_option maxRecDepth 100000
namespace Go.Proofs.Ytlnapegbhfphgaa
open Go.ChangeShapes Go.WideShapes Go.ChangeAt Go.RowKit

set_option maxHeartbeats 16000000 in
theorem zobChanges_full (r : RulesD) (vp vs ve : Value) (p : PlaceD) (vc v0 v1 : Value) (n : Int) (w : World) (hr : RulesIn w r vp vs ve) (hp : PlaceIn w p vc v0 v1) :
    Calls Try.prog 3 #[RulesV r vp vs ve, PlaceV p vc v0 v1, .int .i64 n] w fun e w' => e = .returned (.bool true) ∧ Below w.heap.size w w' := by
  obtain ⟨V, hV⟩ : ∃ V, V = (w.alloc (.cells (RulesCells r vp vs ve) 26)).alloc (.cells (PlaceCells p vc v0 v1) 29) := ⟨_, rfl⟩
  obtain ⟨hB, hY, hX⟩ := rp_boxes w r p vp vs ve vc v0 v1
  rw [← hV] at hB hY hX
  have HB := Lib.hid hB
  have HIR : Hid (∀ W, Below V.heap.size V W → RulesIn W r vp vs ve) := Lib.hid (fun W h => (hr.below hB (Nat.le_refl _)).below h (Nat.le_refl _))
  have HIP : Hid (∀ W, Below V.heap.size V W → PlaceIn W p vc v0 v1) := Lib.hid (fun W h => (hp.below hB (Nat.le_refl _)).below h (Nat.le_refl _))
  obtain ⟨c, hc⟩ : ∃ c, c = placeE r p := ⟨_, rfl⟩
  have HOK : Hid (c = 0 → POkay r p) := Lib.hid (fun h => placeE_iff.1 (by rw [← hc]; exact h))
  have HLB : Hid (c ≠ 0 → ∀ W, Below V.heap.size V W → Calls Try.prog 8 #[RulesV r vp vs ve, PlaceV p vc v0 v1] W (ListBad c W)) := Lib.hid (fun hz W h => by rw [hc]; exact all_bad r p vp vs ve vc v0 v1 W (HIR.out W h) (HIP.out W h) (by rw [← hc]; exact hz))
  have HLG : Hid (c = 0 → ∀ W, Below V.heap.size V W → Calls Try.prog 8 #[RulesV r vp vs ve, PlaceV p vc v0 v1] W (ListPost (allD r p) W)) := Lib.hid (fun hz W h => all_ok r p vp vs ve vc v0 v1 W (HIR.out W h) (HIP.out W h) (HOK.out hz))
  have HAF : Hid (c = 0 → ∀ x : MoveD, legalB r p x = true → ∀ W, Below V.heap.size V W → Calls Try.prog 10 #[RulesV r vp vs ve, PlaceV p vc v0 v1, moveV x] W (MadeP (afterD r p x) W)) := Lib.hid (fun hz x hl W h => (After_any r p vp vs ve vc v0 v1 x W (HIR.out W h) (HIP.out W h)).mono fun _ _ h2 => by
    rcases h2 with ⟨_, h2⟩ | ⟨h2, _⟩
    · exact h2
    · exact absurd (by rw [afterE, if_pos (placeE_iff.2 (HOK.out hz)), if_pos hl]) h2)
  have HKQ : Hid (c = 0 → ∀ x : MoveD, legalB r p x = true → ∀ uc u0 u1 W, Below V.heap.size V W → PlaceIn W (afterD r p x) uc u0 u1 → Calls Try.prog 11 #[RulesV r vp vs ve, PlaceV (afterD r p x) uc u0 u1] W (KPost ((keyZ (afterD r p x)).toNat : Int) 0 W)) := Lib.hid (fun hz x hl uc u0 u1 W h hpi => by
    have hf := placeE_iff.2 (after_ok (HOK.out hz) (legal_ok (HOK.out hz) hl))
    have h1 := key_any r (afterD r p x) vp vs ve uc u0 u1 W (HIR.out W h) hpi
    rwa [keyI, if_pos hf, hf] at h1)
  have HCH : Hid (c = 0 → ∀ x : MoveD, legalB r p x = true → ∀ W, Below V.heap.size V W → Calls Try.prog 12 #[RulesV r vp vs ve, PlaceV p vc v0 v1, moveV x] W (KPost ((keyZ (afterD r p x)).toNat : Int) 0 W)) := Lib.hid (fun hz x hl W h => by
    have he : afterE r p x = 0 := by rw [afterE, if_pos (placeE_iff.2 (HOK.out hz)), if_pos hl]
    have h1 := change_any r p vp vs ve vc v0 v1 x W (HIR.out W h) (HIP.out W h)
    rwa [changeI, if_pos he, he] at h1)
  have HX : Hid (∀ W, Below V.heap.size V W → BoxP W (w.heap.size + 1) p vc v0 v1) := Lib.hid (fun W hb => hX.below hb (Nat.le_refl _))
  have HY : Hid (∀ W, Below V.heap.size V W → BoxR W w.heap.size r vp vs ve) := Lib.hid (fun W hb => hY.below hb (Nat.le_refl _))
  have HALL : Hid (∀ x, x ∈ allD r p → legalB r p x = true) := Lib.hid (fun x h => legalB_all.2 h)
  have HLN : Hid (c = 0 → (allD r p).length ≤ 5000) := Lib.hid (fun hz => allD_length (HOK.out hz))
  obtain ⟨L, hL⟩ : ∃ L, L = allD r p := ⟨_, rfl⟩
  rw [← hL] at HLG HALL HLN
  unfold RulesCells PlaceCells at hV
  unfold RulesV PlaceV PlaceCells at HLB HLG HAF HKQ HCH
  unfold moveV at HAF HCH
  unfold RulesV PlaceV PlaceCells
  clear hr hp hc hL hB hX hY
  go_enter Try.func3, Try.ntmps3
  go_wp2_with fail
  rw [← hV]
  clear hV
  go_at_call 6; refine (keyed_any _).mono ?_; rintro e w1 ⟨rfl, hb⟩
  have HB1 := Lib.hid hb
  clear hb
  go_wp2_with fail
  go_at_call 7; refine (plays_any _).mono ?_; rintro e w2 ⟨rfl, hb⟩
  have HB2 := Lib.hid (HB1.out.trans (hb.mono HB1.out.size))
  clear hb HB1
  obtain ⟨x0, x1, x2, x3, x4⟩ := HX.out _ HB2.out
  obtain ⟨y0, y1, y2, y3, y4, y5, y6, y7, y8, y9, y10⟩ := HY.out _ HB2.out
  go_wp2_with fail
  by_cases hz : c = 0
  · have HLG1 := Lib.hid (HLG.out hz)
    have HAF1 := Lib.hid (HAF.out hz)
    have HKQ1 := Lib.hid (HKQ.out hz)
    have HCH1 := Lib.hid (HCH.out hz)
    have hln := HLN.out hz
    clear HLG HAF HKQ HCH HLN HLB HOK hz
    go_at_call 8; refine (HLG1.out _ HB2.out).mono ?_; rintro e w5 ⟨la, ln, lc, rfl, hI, hll, hb⟩
    have HB5 := Lib.hid (HB2.out.trans (hb.mono HB2.out.size))
    have HI5 := Lib.hid hI
    have HLL := Lib.hid hll
    have hln2 : ln ≤ 5000 := by rw [hll]; exact hln
    clear hb hI hll HB2 HLG1 hln x0 x1 x2 x3 x4 y0 y1 y2 y3 y4 y5 y6 y7 y8 y9 y10
    by_cases h0 : ln = 0
    · subst h0
      have HBE := Lib.hid (HB.out.trans (HB5.out.mono HB.out.size))
      clear HB5 HI5 HLL
      go_wp2_with fail
      go_ret
      exact ⟨rfl, HBE.out⟩
    · have hne : ((ln : Int) == 0) = false := by simp; omega
      have h1 : 1 ≤ ln := by omega
      have HSM := Lib.hid (someM_any L la ln lc n w5 HI5.out HLL.out h1 hln2)
      clear HI5 HLL h0
      go_wp2_with fail
      go_at_call 9; refine HSM.out.mono ?_; rintro e w6 ⟨m1, m2, m3, hm, rfl, hb⟩
      have hal := (Below.refl w6.heap.size w6).alloc (Nat.le_refl _) (.cells #[.int .i64 m1, .int .i64 m2, .int .i64 m3] 36)
      have HB7 := Lib.hid (HB5.out.trans ((hb.trans (hal.mono hb.size)).mono HB5.out.size))
      have hMM : MoveAt (w6.alloc (.cells #[.int .i64 m1, .int .i64 m2, .int .i64 m3] 36)) w6.heap.size 0 (m1, m2, m3) := by
        refine ⟨?_, ?_, ?_⟩ <;> (rw [World.cell?_alloc_at (hn := rfl)]; rfl)
      have HMM := Lib.hid hMM
      have hl := HALL.out _ hm
      have HAF2 := Lib.hid (HAF1.out _ hl)
      have HKQ2 := Lib.hid (HKQ1.out _ hl)
      have HCH2 := Lib.hid (HCH1.out _ hl)
      obtain ⟨q, hq⟩ : ∃ q, q = afterD r p (m1, m2, m3) := ⟨_, rfl⟩
      rw [← hq] at HAF2 HKQ2 HCH2
      obtain ⟨K, hK⟩ : ∃ K, K = keyZ q := ⟨_, rfl⟩
      rw [← hK] at HKQ2 HCH2
      dsimp only at HAF2 HCH2
      clear hb hal hm hl hMM HAF1 HKQ1 HCH1 HALL HSM HB5 hq hK
      obtain ⟨x0, x1, x2, x3, x4⟩ := HX.out _ HB7.out
      obtain ⟨y0, y1, y2, y3, y4, y5, y6, y7, y8, y9, y10⟩ := HY.out _ HB7.out
      obtain ⟨z0, z1, z2⟩ := moveAt_parts HMM.out
      dsimp only at z0 z1 z2
      go_wp2_with fail
      go_at_call 10; refine (HAF2.out _ HB7.out).mono ?_; rintro e w8 ⟨ca, cn, cc, a0, n0, c0, a1, n1, c1, rfl, hpf, hb⟩
      have hal := (Below.refl w8.heap.size w8).alloc (Nat.le_refl _) (.cells #[.slice ca cn cc, .slice a0 n0 c0, .slice a1 n1 c1, .int .i64 q.turn, .int .i64 q.quiet] 29)
      have hba := hb.trans (hal.mono hb.size)
      have HB9 := Lib.hid (HB7.out.trans (hba.mono HB7.out.size))
      have HN := Lib.hid (hpf.plain.below hal (Nat.le_refl _))
      have HMM9 := Lib.hid (MoveAt.below HMM.out hba (Nat.le_refl _))
      have hQ := boxP_new w8 q (.slice ca cn cc) (.slice a0 n0 c0) (.slice a1 n1 c1) 29
      unfold PlaceCells at hQ
      have hqlt : w8.heap.size < (w8.alloc (.cells #[.slice ca cn cc, .slice a0 n0 c0, .slice a1 n1 c1, .int .i64 q.turn, .int .i64 q.quiet] 29)).heap.size := by simp
      clear hb hal hba hpf HB7 HAF2 HMM x0 x1 x2 x3 x4 y0 y1 y2 y3 y4 y5 y6 y7 y8 y9 y10 z0 z1 z2
      obtain ⟨q0, q1, q2, q3, q4⟩ := hQ
      obtain ⟨y0, y1, y2, y3, y4, y5, y6, y7, y8, y9, y10⟩ := HY.out _ HB9.out
      go_wp2_with fail
      go_at_call 11; refine (HKQ2.out _ _ _ _ HB9.out HN.out).mono ?_; rintro e w10 ⟨rfl, hb⟩
      have HB10 := Lib.hid (HB9.out.trans (hb.mono HB9.out.size))
      have HMM10 := Lib.hid (MoveAt.below HMM9.out hb (Nat.le_refl _))
      clear hb HB9 HKQ2 HN HMM9 hqlt q0 q1 q2 q3 q4 y0 y1 y2 y3 y4 y5 y6 y7 y8 y9 y10
      obtain ⟨x0, x1, x2, x3, x4⟩ := HX.out _ HB10.out
      obtain ⟨y0, y1, y2, y3, y4, y5, y6, y7, y8, y9, y10⟩ := HY.out _ HB10.out
      obtain ⟨z0, z1, z2⟩ := moveAt_parts HMM10.out
      dsimp only at z0 z1 z2
      go_wp2_with fail
      go_at_call 12; refine (HCH2.out _ HB10.out).mono ?_; rintro e w11 ⟨rfl, hb⟩
      have HB11 := Lib.hid (HB10.out.trans (hb.mono HB10.out.size))
      clear hb HB10 HCH2 HMM10 x0 x1 x2 x3 x4 y0 y1 y2 y3 y4 y5 y6 y7 y8 y9 y10 z0 z1 z2
      have hkk : ((K.toNat : Int) == (K.toNat : Int)) = true := by simp
      go_wp2_with fail
      go_at_call 13; refine (fine3 w11 _ rfl).mono ?_; rintro e w12 ⟨rfl, hb⟩
      have HBE := Lib.hid (HB.out.trans ((HB11.out.trans (hb.mono HB11.out.size)).mono HB.out.size))
      clear hb HB11
      go_wp2_with fail
      go_ret
      exact ⟨rfl, HBE.out⟩
  · have HLB1 := Lib.hid (HLB.out hz)
    have hne : (c != 0) = true := by simpa using hz
    clear HLG HAF HKQ HCH HLN HLB HOK hz
    go_at_call 8; refine (HLB1.out _ HB2.out).mono ?_; rintro e w5 ⟨rfl, hb⟩
    have HBE := Lib.hid (HB.out.trans ((HB2.out.trans (hb.mono HB2.out.size)).mono HB.out.size))
    clear hb HB2 HLB1
    go_wp2_with fail
    go_ret
    exact ⟨rfl, HBE.out⟩
end Go.Proofs.Ytlnapegbhfphgaa
