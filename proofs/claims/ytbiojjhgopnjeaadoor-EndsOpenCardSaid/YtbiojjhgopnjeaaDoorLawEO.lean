/- The law EndsOpen: a position that is not over has a legal move, and one without a legal move is over. -/
import Derived.Test.YtbiojjhgopnjeaaDoorEndN
import Derived.Test.YtbiojjhgopnjeaaDoorPlayK
import Derived.Test.YtbiojjhgopnjeaaDoorOpnA
set_option maxRecDepth 100000
namespace Go.Proofs.YtbiojjhgopnjeaaDoor
open Go.ChangeShapes Go.WideShapes Go.ChangeAt Go.RowKit

set_option maxHeartbeats 16000000 in
theorem endsOpen_full (r : RulesD) (vp vs ve : Value) (p : PlaceD) (vc v0 v1 : Value) (w : World) (hr : RulesIn w r vp vs ve) (hp : PlaceIn w p vc v0 v1) (hT : Dir w) :
    Calls Tryd.prog 4 #[RulesV r vp vs ve, PlaceV p vc v0 v1] w fun e w' => e = .returned (.bool true) ∧ Below w.heap.size w w' := by
  have H9 := Lib.hid of_won9
  have HN := Lib.hid of_near
  have HPL := Lib.hid plays_any
  obtain ⟨V, hV⟩ : ∃ V, V = (w.alloc (.cells (RulesCells r vp vs ve) 26)).alloc (.cells (PlaceCells p vc v0 v1) 29) := ⟨_, rfl⟩
  obtain ⟨hB, hY, hX⟩ := rp_boxes w r p vp vs ve vc v0 v1
  rw [← hV] at hB hY hX
  have HB := Lib.hid hB
  have HIR : Hid (∀ W, Below V.heap.size V W → RulesIn W r vp vs ve) := Lib.hid (fun W h => (hr.below hB (Nat.le_refl _)).below h (Nat.le_refl _))
  have HIP : Hid (∀ W, Below V.heap.size V W → PlaceIn W p vc v0 v1) := Lib.hid (fun W h => (hp.below hB (Nat.le_refl _)).below h (Nat.le_refl _))
  have HT : Hid (∀ W, Below V.heap.size V W → Dir W) := Lib.hid (fun W h => (hT.below hB (Nat.le_refl _)).below h (Nat.le_refl _))
  obtain ⟨c, hc⟩ : ∃ c, c = placeE r p := ⟨_, rfl⟩
  have HOK : Hid (c = 0 → POkay r p) := Lib.hid (fun h => placeE_iff.1 (by rw [← hc]; exact h))
  obtain ⟨x, hx⟩ : ∃ x, x = resultD r p := ⟨_, rfl⟩
  have HXI : Hid (c = 0 → 0 ≤ x ∧ x ≤ 3) := Lib.hid (fun h => by rw [hx]; exact result_in (HOK.out h))
  have HXO : Hid (c = 0 → x = 0 → allD r p ≠ []) := Lib.hid (fun h h0 => result_open (HOK.out h) (by rw [← hx]; exact h0))
  have HFB : Hid (c ≠ 0 → ∀ W, Below V.heap.size V W → Calls Tryd.prog 7 #[RulesV r vp vs ve, PlaceV p vc v0 v1] W (OfPost 0 c W)) := Lib.hid (fun hz W h => by rw [hc]; exact of_bad r p vp vs ve vc v0 v1 W (HIR.out W h) (HIP.out W h) (by rw [← hc]; exact hz))
  have HFG : Hid (c = 0 → ∀ W, Below V.heap.size V W → Calls Tryd.prog 7 #[RulesV r vp vs ve, PlaceV p vc v0 v1] W (OfPost x 0 W)) := Lib.hid (fun hz W h => by rw [hx]; exact of_ok r p vp vs ve vc v0 v1 W (HIR.out W h) (HIP.out W h) (HOK.out hz) (HT.out W h))
  have HLB : Hid (c ≠ 0 → ∀ W, Below V.heap.size V W → Calls Tryd.prog 12 #[RulesV r vp vs ve, PlaceV p vc v0 v1] W (ListBad c W)) := Lib.hid (fun hz W h => by rw [hc]; exact all_bad r p vp vs ve vc v0 v1 W (HIR.out W h) (HIP.out W h) (by rw [← hc]; exact hz))
  have HLG : Hid (c = 0 → ∀ W, Below V.heap.size V W → Calls Tryd.prog 12 #[RulesV r vp vs ve, PlaceV p vc v0 v1] W (ListPost (allD r p) W)) := Lib.hid (fun hz W h => all_ok r p vp vs ve vc v0 v1 W (HIR.out W h) (HIP.out W h) (HOK.out hz))
  have HLL : Hid (c = 0 → (allD r p).length ≤ 5000) := Lib.hid (fun hz => allD_length (HOK.out hz))
  obtain ⟨L, hL⟩ : ∃ L, L = allD r p := ⟨_, rfl⟩
  rw [← hL] at HXO HLG HLL
  have HX : Hid (∀ W, Below V.heap.size V W → BoxP W (w.heap.size + 1) p vc v0 v1) := Lib.hid (fun W hb => hX.below hb (Nat.le_refl _))
  have HY : Hid (∀ W, Below V.heap.size V W → BoxR W w.heap.size r vp vs ve) := Lib.hid (fun W hb => hY.below hb (Nat.le_refl _))
  unfold RulesCells PlaceCells at hV
  unfold RulesV at HFB HFG HLB HLG ⊢
  unfold PlaceV PlaceCells at HFB HFG HLB HLG ⊢
  unfold PlaceV PlaceCells won9 at H9
  dsimp only at H9
  clear hr hp hc hx hL hB hX hY hT
  go_enter Tryd.func4, Tryd.ntmps4
  go_wp2_with fail
  rw [← hV]
  clear hV
  go_at_call 8; refine (three_keep _).mono ?_; rintro e u1 ⟨vp1, vs1, ve1, rfl, hin, hb⟩
  have HB1 := Lib.hid hb
  have HI1 := Lib.hid hin
  clear hb hin
  go_wp2_with fail
  go_at_call 6; refine (near_any _).mono ?_; rintro e u2 ⟨uc, u0, u3, rfl, hpn, hb⟩
  have HB2 := Lib.hid (HB1.out.trans (hb.mono HB1.out.size))
  have HI2 := Lib.hid (HI1.out.below hb (Nat.le_refl _))
  have HN2 := Lib.hid hpn
  clear hb hpn HB1 HI1
  go_wp2_with fail
  go_at_call 7; refine (HN.out _ _ _ _ _ _ _ HI2.out HN2.out (HT.out _ HB2.out)).mono ?_; rintro e u4 ⟨rfl, hb⟩
  have HB3 := Lib.hid (HB2.out.trans (hb.mono HB2.out.size))
  clear hb HB2 HI2 HN2 HN
  go_wp2_with fail
  go_at_call 11; refine (HPL.out _).mono ?_; rintro e u5 ⟨rfl, hb⟩
  have HB4 := Lib.hid (HB3.out.trans (hb.mono HB3.out.size))
  clear hb HB3 HPL
  go_wp2_with fail
  go_at_call 6; refine (near_own _).mono ?_; rintro e w1 ⟨g, a, b, rfl, ho⟩
  have HO := Lib.hid ho
  obtain ⟨s0, s1, s2, s3⟩ := won_store ho
  clear ho
  go_wp2_with fail
  generalize hU : ((w1.alloc (.cells #[.slice (some ⟨g, 0, none⟩) 9 9, .slice (some ⟨a, 0, none⟩) 1 1, .slice (some ⟨b, 0, none⟩) 1 1, .int .i64 0, .int .i64 0] 29)).setCell ⟨g, 2, none⟩ (.int .i64 1)).setCell ⟨w1.heap.size, 3, none⟩ (.int .i64 1) = U
  obtain ⟨hb, hbx, hpi⟩ := won_made HO.out hU.symm
  have HBU := Lib.hid (HB4.out.trans (hb.mono HB4.out.size))
  have HQU := Lib.hid hbx
  have HNU := Lib.hid hpi
  unfold won9 at HQU
  unfold BoxP at HQU
  dsimp only at HQU
  clear hb hbx hpi hU s0 s1 s2 s3 HO HB4
  generalize w1.heap.size = qb at HQU ⊢
  obtain ⟨q0, q1, q2, q3, q4⟩ := HQU.out
  have hBc : Below U.heap.size U U.drew := (Below.refl _ _).drew
  go_region_held3 (fun w' => w'.cell? ⟨qb, 0, none⟩ = some (.slice (some ⟨g, 0, none⟩) 9 9) ∧ w'.cell? ⟨qb, 1, none⟩ = some (.slice (some ⟨a, 0, none⟩) 1 1) ∧ w'.cell? ⟨qb, 2, none⟩ = some (.slice (some ⟨b, 0, none⟩) 1 1) ∧ w'.cell? ⟨qb, 3, none⟩ = some (.int .i64 1) ∧ w'.cell? ⟨qb, 4, none⟩ = some (.int .i64 0)) (exact ⟨cell_keeps hBc (Nat.le_refl _) HQU.out.1, cell_keeps hBc (Nat.le_refl _) HQU.out.2.1, cell_keeps hBc (Nat.le_refl _) HQU.out.2.2.1, cell_keeps hBc (Nat.le_refl _) HQU.out.2.2.2.1, cell_keeps hBc (Nat.le_refl _) HQU.out.2.2.2.2⟩) (first
    | (go_at_call 8; refine (three_keep _).mono ?_; rintro e w4 ⟨vp4, vs4, ve4, rfl, hin, hb⟩; have hBc := hBc.trans (hb.mono hBc.size); clear hb)
    | (go_at_call 7; refine (H9.out _ _ _ _ _ _ _ hin (HNU.out.below hBc (Nat.le_refl _)) (HT.out _ (HBU.out.trans (hBc.mono HBU.out.size)))).mono ?_; rintro e w5 ⟨rfl, hb⟩; have hBc := hBc.trans (hb.mono hBc.size); clear hb))
  have HB5 := Lib.hid (HBU.out.trans (hBc.mono HBU.out.size))
  clear hBc hin HBU HQU HNU H9 q0 q1 q2 q3 q4
  obtain ⟨x0, x1, x2, x3, x4⟩ := HX.out _ HB5.out
  obtain ⟨y0, y1, y2, y3, y4, y5, y6, y7, y8, y9, y10⟩ := HY.out _ HB5.out
  go_wp2_with fail
  by_cases hz : c = 0
  · have HFG1 := Lib.hid (HFG.out hz)
    have HLG1 := Lib.hid (HLG.out hz)
    have HXO1 := Lib.hid (HXO.out hz)
    have hl5 := HLL.out hz
    have HXX : Hid (x = 0 ∨ x = 1 ∨ x = 2 ∨ x = 3) := Lib.hid (by have := HXI.out hz; omega)
    clear HFB HFG HLB HLG HOK HXI HXO HLL hz
    go_at_call 7; refine (HFG1.out _ HB5.out).mono ?_; rintro e w9 ⟨rfl, hb⟩
    have HB9 := Lib.hid (HB5.out.trans (hb.mono HB5.out.size))
    clear hb HB5 HFG1 x0 x1 x2 x3 x4 y0 y1 y2 y3 y4 y5 y6 y7 y8 y9 y10
    obtain ⟨x0, x1, x2, x3, x4⟩ := HX.out _ HB9.out
    obtain ⟨y0, y1, y2, y3, y4, y5, y6, y7, y8, y9, y10⟩ := HY.out _ HB9.out
    go_wp2_with fail
    go_at_call 12; refine (HLG1.out _ HB9.out).mono ?_; rintro e w10 ⟨la, ln, lc, rfl, -, hln, hb⟩
    have HBE := Lib.hid (HB.out.trans ((HB9.out.trans (hb.mono HB9.out.size)).mono HB.out.size))
    have HLN := Lib.hid hln
    have hl6 : ln ≤ 5000 := by omega
    clear hb hln HB9 HLG1 x0 x1 x2 x3 x4 y0 y1 y2 y3 y4 y5 y6 y7 y8 y9 y10
    rcases HXX.out with rfl | rfl | rfl | rfl
    · have h1 : 1 ≤ ln := by
        rcases Nat.eq_zero_or_pos ln with h | h
        · exact absurd (List.eq_nil_of_length_eq_zero (by rw [← HLN.out]; exact h)) (HXO1.out rfl)
        · exact h
      have hd3 : decide ((ln : Int) > 0) = true := by simp; omega
      have hd4 : decide (0 < ln) = true := by simp; omega
      clear hl5
      go_wp2_with fail
      go_ret
      exact ⟨rfl, HBE.out⟩
    all_goals
      by_cases h0 : ln = 0
      · subst h0
        clear hl5
        go_wp2_with fail
        go_ret
        exact ⟨rfl, HBE.out⟩
      · have hd3 : decide ((ln : Int) > 0) = true := by simp; omega
        have hd4 : decide (0 < ln) = true := by simp; omega
        clear hl5
        go_wp2_with fail
        go_ret
        exact ⟨rfl, HBE.out⟩
  · have HFB1 := Lib.hid (HFB.out hz)
    have HLB1 := Lib.hid (HLB.out hz)
    have hne : (c != 0) = true := by simpa using hz
    have hee : (c == c) = true := by simp
    clear HFB HFG HLB HLG HOK HXI HXO HLL hz
    go_at_call 7; refine (HFB1.out _ HB5.out).mono ?_; rintro e w9 ⟨rfl, hb⟩
    have HB9 := Lib.hid (HB5.out.trans (hb.mono HB5.out.size))
    clear hb HB5 HFB1 x0 x1 x2 x3 x4 y0 y1 y2 y3 y4 y5 y6 y7 y8 y9 y10
    obtain ⟨x0, x1, x2, x3, x4⟩ := HX.out _ HB9.out
    obtain ⟨y0, y1, y2, y3, y4, y5, y6, y7, y8, y9, y10⟩ := HY.out _ HB9.out
    go_wp2_with fail
    go_at_call 12; refine (HLB1.out _ HB9.out).mono ?_; rintro e w10 ⟨rfl, hb⟩
    have HBE := Lib.hid (HB.out.trans ((HB9.out.trans (hb.mono HB9.out.size)).mono HB.out.size))
    clear hb HB9 HLB1 x0 x1 x2 x3 x4 y0 y1 y2 y3 y4 y5 y6 y7 y8 y9 y10
    go_wp2_with fail
    go_ret
    exact ⟨rfl, HBE.out⟩
end Go.Proofs.YtbiojjhgopnjeaaDoor
