/- The law EndsOf: Of returns the result of the reference. -/
import Derived.Test.YtbiojjhgopnjeaaDoorEndN
import Derived.Test.YtbiojjhgopnjeaaDoorRefS
import Derived.Test.YtbiojjhgopnjeaaDoorRefE
import Derived.Test.YtbiojjhgopnjeaaDoorOpnA
set_option maxRecDepth 100000
namespace Go.Proofs.YtbiojjhgopnjeaaDoor
open Go.ChangeShapes Go.WideShapes Go.ChangeAt Go.RowKit

set_option maxHeartbeats 16000000 in
theorem endsOf_full (r : RulesD) (vp vs ve : Value) (p : PlaceD) (vc v0 v1 : Value) (w : World) (hr : RulesIn w r vp vs ve) (hf : LettersFit r.pieces) (hp : PlaceIn w p vc v0 v1) (hT : Dir w) :
    Calls Tryd.prog 5 #[RulesV r vp vs ve, PlaceV p vc v0 v1] w fun e w' => e = .returned (.bool true) ∧ Below w.heap.size w w' := by
  have H9 := Lib.hid of_wonL
  obtain ⟨n, hn⟩ : ∃ n, n = p.cells.length := ⟨_, rfl⟩
  obtain ⟨ca, cc, rfl, hcc, _⟩ := hp.c.shape hn
  obtain ⟨V, hV⟩ : ∃ V, V = (w.alloc (.cells (RulesCells r vp vs ve) 26)).alloc (.cells (PlaceCells p (.slice ca n cc) v0 v1) 29) := ⟨_, rfl⟩
  obtain ⟨hB, hY, hX⟩ := rp_boxes w r p vp vs ve (.slice ca n cc) v0 v1
  rw [← hV] at hB hY hX
  have HB := Lib.hid hB
  have HIR : Hid (∀ W, Below V.heap.size V W → RulesIn W r vp vs ve) := Lib.hid (fun W h => (hr.below hB (Nat.le_refl _)).below h (Nat.le_refl _))
  have HIP : Hid (∀ W, Below V.heap.size V W → PlaceIn W p (.slice ca n cc) v0 v1) := Lib.hid (fun W h => (hp.below hB (Nat.le_refl _)).below h (Nat.le_refl _))
  have HT : Hid (∀ W, Below V.heap.size V W → Dir W) := Lib.hid (fun W h => (hT.below hB (Nat.le_refl _)).below h (Nat.le_refl _))
  obtain ⟨c, hc⟩ : ∃ c, c = placeE r p := ⟨_, rfl⟩
  have HOK : Hid (c = 0 → POkay r p) := Lib.hid (fun h => placeE_iff.1 (by rw [← hc]; exact h))
  obtain ⟨x, hx⟩ : ∃ x, x = resultD r p := ⟨_, rfl⟩
  have HFB : Hid (c ≠ 0 → ∀ W, Below V.heap.size V W → Calls Tryd.prog 7 #[RulesV r vp vs ve, PlaceV p (.slice ca n cc) v0 v1] W (OfPost 0 c W)) := Lib.hid (fun hz W h => by rw [hc]; exact of_bad r p vp vs ve _ v0 v1 W (HIR.out W h) (HIP.out W h) (by rw [← hc]; exact hz))
  have HFG : Hid (c = 0 → ∀ W, Below V.heap.size V W → Calls Tryd.prog 7 #[RulesV r vp vs ve, PlaceV p (.slice ca n cc) v0 v1] W (OfPost x 0 W)) := Lib.hid (fun hz W h => by rw [hx]; exact of_ok r p vp vs ve _ v0 v1 W (HIR.out W h) (HIP.out W h) (HOK.out hz) (HT.out W h))
  have HRE : Hid (c = 0 → ∀ W, Below V.heap.size V W → Calls Tryd.prog 16 #[RulesV r vp vs ve, PlaceV p (.slice ca n cc) v0 v1] W (BelPost (.int .i64 x) W)) := Lib.hid (fun hz W h => by rw [hx]; exact result_any r p vp vs ve _ v0 v1 W (HIR.out W h).1 (HIP.out W h) (HOK.out hz))
  have HPE : Hid (∀ W, Below V.heap.size V W → Calls Tryd.prog 15 #[RulesV r vp vs ve, PlaceV p (.slice ca n cc) v0 v1] W (BelPost (.int .i64 c) W)) := Lib.hid (fun W hb => by rw [hc]; exact placeErr_any r p vp vs ve _ v0 v1 W (HIR.out W hb) hf (HIP.out W hb))
  have HX : Hid (∀ W, Below V.heap.size V W → BoxP W (w.heap.size + 1) p (.slice ca n cc) v0 v1) := Lib.hid (fun W hb => hX.below hb (Nat.le_refl _))
  have HY : Hid (∀ W, Below V.heap.size V W → BoxR W w.heap.size r vp vs ve) := Lib.hid (fun W hb => hY.below hb (Nat.le_refl _))
  have hfit : n ≤ 9223372036854775807 := by rw [hn]; exact hp.c.fit
  unfold RulesCells PlaceCells at hV
  unfold RulesV PlaceV PlaceCells at HFB HFG HRE HPE
  unfold RulesV PlaceV PlaceCells
  clear hr hf hp hc hx hB hX hY hT hn hcc
  go_enter Tryd.func5, Tryd.ntmps5
  go_wp2_with fail
  rw [← hV]
  clear hV
  go_at_call 13; refine (three_law _).mono ?_; rintro e u1 ⟨vp1, vs1, ve1, rfl, hin, hb⟩
  have HB1 := Lib.hid hb
  have HI1 := Lib.hid hin
  clear hb hin
  go_wp2_with fail
  go_at_call 14; refine (won_any _).mono ?_; rintro e u2 ⟨uc, u0, u3, rfl, hpn, hb⟩
  have HB2 := Lib.hid (HB1.out.trans (hb.mono HB1.out.size))
  have HI2 := Lib.hid (HI1.out.below hb (Nat.le_refl _))
  have HN2 := Lib.hid hpn
  clear hb hpn HB1 HI1
  go_wp2_with fail
  go_at_call 7; refine (H9.out _ _ _ _ _ _ _ HI2.out HN2.out (HT.out _ HB2.out)).mono ?_; rintro e u4 ⟨rfl, hb⟩
  have HB3 := Lib.hid (HB2.out.trans (hb.mono HB2.out.size))
  clear hb HB2 HI2 HN2 H9
  obtain ⟨x0, x1, x2, x3, x4⟩ := HX.out _ HB3.out
  obtain ⟨y0, y1, y2, y3, y4, y5, y6, y7, y8, y9, y10⟩ := HY.out _ HB3.out
  go_wp2_with fail
  by_cases hz : c = 0
  · have HFG1 := Lib.hid (HFG.out hz)
    have HRE1 := Lib.hid (HRE.out hz)
    clear HFB HFG HRE HOK
    subst hz
    go_at_call 7; refine (HFG1.out _ HB3.out).mono ?_; rintro e u5 ⟨rfl, hb⟩
    have HB4 := Lib.hid (HB3.out.trans (hb.mono HB3.out.size))
    clear hb HB3 HFG1 x0 x1 x2 x3 x4 y0 y1 y2 y3 y4 y5 y6 y7 y8 y9 y10
    obtain ⟨x0, x1, x2, x3, x4⟩ := HX.out _ HB4.out
    obtain ⟨y0, y1, y2, y3, y4, y5, y6, y7, y8, y9, y10⟩ := HY.out _ HB4.out
    go_wp2_with fail
    go_at_call 15; refine (HPE.out _ HB4.out).mono ?_; rintro e u6 ⟨rfl, hb⟩
    have HB5 := Lib.hid (HB4.out.trans (hb.mono HB4.out.size))
    clear hb HB4 HPE x0 x1 x2 x3 x4 y0 y1 y2 y3 y4 y5 y6 y7 y8 y9 y10
    obtain ⟨x0, x1, x2, x3, x4⟩ := HX.out _ HB5.out
    obtain ⟨y0, y1, y2, y3, y4, y5, y6, y7, y8, y9, y10⟩ := HY.out _ HB5.out
    by_cases h20 : n ≤ 20
    · have hd : decide ((n : Int) > 20) = false := by simp; omega
      have hxx : (x == x) = true := by simp
      clear h20
      go_wp2_with fail
      go_at_call 16; refine (HRE1.out _ HB5.out).mono ?_; rintro e u7 ⟨rfl, hb⟩
      have HBE := Lib.hid (HB.out.trans ((HB5.out.trans (hb.mono HB5.out.size)).mono HB.out.size))
      clear hb HB5 HRE1 x0 x1 x2 x3 x4 y0 y1 y2 y3 y4 y5 y6 y7 y8 y9 y10
      go_wp2_with fail
      go_ret
      exact ⟨rfl, HBE.out⟩
    · have hd : decide ((n : Int) > 20) = true := by simp; omega
      have HBE := Lib.hid (HB.out.trans (HB5.out.mono HB.out.size))
      clear h20 HRE1
      go_wp2_with fail
      go_ret
      exact ⟨rfl, HBE.out⟩
  · have HFB1 := Lib.hid (HFB.out hz)
    have hne : (c != 0) = true := by simpa using hz
    have hee : (c == c) = true := by simp
    clear HFB HFG HRE HOK hz
    go_at_call 7; refine (HFB1.out _ HB3.out).mono ?_; rintro e u5 ⟨rfl, hb⟩
    have HB4 := Lib.hid (HB3.out.trans (hb.mono HB3.out.size))
    clear hb HB3 HFB1 x0 x1 x2 x3 x4 y0 y1 y2 y3 y4 y5 y6 y7 y8 y9 y10
    obtain ⟨x0, x1, x2, x3, x4⟩ := HX.out _ HB4.out
    obtain ⟨y0, y1, y2, y3, y4, y5, y6, y7, y8, y9, y10⟩ := HY.out _ HB4.out
    go_wp2_with fail
    go_at_call 15; refine (HPE.out _ HB4.out).mono ?_; rintro e u6 ⟨rfl, hb⟩
    have HBE := Lib.hid (HB.out.trans ((HB4.out.trans (hb.mono HB4.out.size)).mono HB.out.size))
    clear hb HB4 HPE x0 x1 x2 x3 x4 y0 y1 y2 y3 y4 y5 y6 y7 y8 y9 y10
    go_wp2_with fail
    go_ret
    exact ⟨rfl, HBE.out⟩
end Go.Proofs.YtbiojjhgopnjeaaDoor
