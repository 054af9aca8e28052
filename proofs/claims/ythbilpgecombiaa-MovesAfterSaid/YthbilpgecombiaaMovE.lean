/- moves.Legal. -/
import Derived.Test.YthbilpgecombiaaMovL
import Derived.Test.YthbilpgecombiaaMovG
set_option maxRecDepth 100000
namespace Go.Proofs.Ythbilpgecombiaa
open Go.ChangeShapes Go.WideShapes Go.ChangeAt Go.RowKit

/-- What Legal returns: whether the move is legal, and the error of the position. -/
def legalE (r : RulesD) (p : PlaceD) (m : MoveD) : Bool := decide (placeE r p = 0) && legalB r p m
def LegPost (b : Bool) (c : Int) (w : World) (e : Ending) (w' : World) : Prop := e = .returned (.tuple #[.bool b, .int .i64 c]) ∧ Below w.heap.size w w'
set_option maxHeartbeats 8000000 in
theorem legal_any (r : RulesD) (p : PlaceD) (vp vs ve vc v0 v1 : Value) (m : MoveD) (w : World) (hr : RulesIn w r vp vs ve) (hp : PlaceIn w p vc v0 v1) :
    Calls Try.prog 14 #[RulesV r vp vs ve, PlaceV p vc v0 v1, moveV m] w (LegPost (legalE r p m) (placeE r p) w) := by
  obtain ⟨V, hV, hB, hY, hX, hM, _⟩ := rpm_boxes w r p vp vs ve vc v0 v1 m
  obtain ⟨c, hc⟩ : ∃ c : Int, c = placeE r p := ⟨_, rfl⟩
  have HCK : Hid (Calls Try.prog 9 #[RulesV r vp vs ve, PlaceV p vc v0 v1] V (BelPost (.int .i64 c) V)) := Lib.hid (by rw [hc]; exact pcheck_any r p vp vs ve vc v0 v1 V (hr.below hB (Nat.le_refl _)) (hp.below hB (Nat.le_refl _)))
  have HIL : Hid (c = 0 → ∀ W, Below w.heap.size w W → Calls Try.prog 34 #[RulesV r vp vs ve, PlaceV p vc v0 v1, moveV m] W (BelPost (.bool (legalB r p m)) W)) := Lib.hid (fun hz W hb => isLegal_any r p vp vs ve vc v0 v1 m W (hr.1.below hb (Nat.le_refl _)) (hp.below hb (Nat.le_refl _)) (placeE_iff.1 (by rw [← hc]; exact hz)))
  have HB := Lib.hid hB
  have HX := Lib.hid hX
  have HY := Lib.hid hY
  have HM := Lib.hid hM
  obtain ⟨bb, hbb⟩ : ∃ bb, bb = legalE r p m := ⟨_, rfl⟩
  have HLE : Hid (bb = (decide (c = 0) && legalB r p m)) := Lib.hid (by rw [hbb, legalE, hc])
  rw [← hc, ← hbb]
  obtain ⟨m1, m2, m3⟩ := m
  obtain ⟨x0, x1, x2, x3, x4⟩ := hX
  obtain ⟨y0, y1, y2, y3, y4, y5, y6, y7, y8, y9, y10⟩ := hY
  rw [hV] at x0 x1 x2 x3 x4 y0 y1 y2 y3 y4 y5 y6 y7 y8 y9 y10
  unfold RulesCells PlaceCells at hV x0 x1 x2 x3 x4 y0 y1 y2 y3 y4 y5 y6 y7 y8 y9 y10
  unfold RulesV at HCK HIL ⊢
  unfold PlaceV PlaceCells at HCK HIL ⊢
  unfold moveV at HIL ⊢
  unfold MoveAt at HM
  dsimp only at hV HIL HM x0 x1 x2 x3 x4 y0 y1 y2 y3 y4 y5 y6 y7 y8 y9 y10 ⊢
  clear hr hp hc hB hM hbb
  go_enter Try.func14, Try.ntmps14
  go_wp2_with fail
  rw [← hV]
  clear hV x0 x1 x2 x3 x4 y0 y1 y2 y3 y4 y5 y6 y7 y8 y9 y10
  go_at_call 9; refine HCK.out.mono ?_; rintro e w1 ⟨rfl, hb⟩
  have HB1 := Lib.hid (HB.out.trans (hb.mono HB.out.size))
  by_cases hz : c = 0
  · have HIL1 := Lib.hid (HIL.out hz _ HB1.out)
    have KE : Hid (legalB r p (m1, m2, m3) = bb) := Lib.hid (by rw [HLE.out, hz]; rfl)
    rw [KE.out] at HIL1
    subst hz
    obtain ⟨x0, x1, x2, x3, x4⟩ := HX.out.below hb (Nat.le_refl _)
    obtain ⟨y0, y1, y2, y3, y4, y5, y6, y7, y8, y9, y10⟩ := HY.out.below hb (Nat.le_refl _)
    have z0 := cell_keeps hb (Nat.le_refl _) HM.out.1
    have z1 := cell_keeps hb (Nat.le_refl _) HM.out.2.1
    have z2 := cell_keeps hb (Nat.le_refl _) HM.out.2.2
    clear HB HCK HIL HX HY HM HLE hb
    go_wp2_with fail
    go_at_call 34; refine HIL1.out.mono ?_; rintro e w2 ⟨rfl, hb2⟩
    have HB2 := Lib.hid (HB1.out.trans (hb2.mono HB1.out.size))
    clear hb2 HB1 HIL1 x0 x1 x2 x3 x4 y0 y1 y2 y3 y4 y5 y6 y7 y8 y9 y10 z0 z1 z2
    go_wp2_with fail
    go_ret2
    exact ⟨rfl, HB2.out⟩
  · have KE : Hid (bb = false) := Lib.hid (by rw [HLE.out, decide_eq_false hz]; rfl)
    have hne : (c != 0) = true := by simpa using hz
    clear HB HCK HIL HX HY HM HLE hb hz
    go_wp2_with fail
    go_ret2
    exact ⟨by rw [KE.out]; rfl, HB1.out⟩
end Go.Proofs.Ythbilpgecombiaa
