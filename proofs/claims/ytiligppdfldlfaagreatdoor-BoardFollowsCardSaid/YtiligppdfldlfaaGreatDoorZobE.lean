/- zob.Key: the key of a position, or what is wrong with it. -/
import Derived.Test.YtiligppdfldlfaaGreatDoorZobK
import Derived.Test.YtiligppdfldlfaaGreatDoorMvA
set_option maxRecDepth 100000
namespace Go.Proofs.YtiligppdfldlfaaGreatDoor
open Go.ChangeShapes Go.WideShapes Go.ChangeAt Go.RowKit

/-- A key and an error. -/
def KPost (k c : Int) (w : World) (e : Ending) (w' : World) : Prop := e = .returned (.tuple #[.int .u64 k, .int .i64 c]) ∧ Below w.heap.size w w'
/-- What Key answers. -/
def keyI (r : RulesD) (p : PlaceD) : Int := if placeE r p = 0 then ((keyZ p).toNat : Int) else 0
set_option maxHeartbeats 4000000 in
theorem key_any (r : RulesD) (p : PlaceD) (vp vs ve vc v0 v1 : Value) (w : World) (hr : RulesIn w r vp vs ve) (hp : PlaceIn w p vc v0 v1) :
    Calls Tryz.prog 19 #[RulesV r vp vs ve, PlaceV p vc v0 v1] w (KPost (keyI r p) (placeE r p) w) := by
  obtain ⟨V, hV⟩ : ∃ V, V = (w.alloc (.cells (RulesCells r vp vs ve) 26)).alloc (.cells (PlaceCells p vc v0 v1) 29) := ⟨_, rfl⟩
  obtain ⟨hB, hY, hX⟩ := rp_boxes w r p vp vs ve vc v0 v1
  rw [← hV] at hB hY hX
  have HB := Lib.hid hB
  obtain ⟨c, hc⟩ : ∃ c, c = placeE r p := ⟨_, rfl⟩
  obtain ⟨K, hK⟩ : ∃ K, K = keyI r p := ⟨_, rfl⟩
  have HK0 : Hid (c ≠ 0 → K = 0) := Lib.hid (fun h => by rw [hK, keyI, if_neg (by rw [← hc]; exact h)])
  have HCK : Hid (Calls Tryz.prog 52 #[RulesV r vp vs ve, PlaceV p vc v0 v1] V (BelPost (.int .i64 c) V)) := Lib.hid (by rw [hc]; exact pcheck_any r p vp vs ve vc v0 v1 V (hr.below hB (Nat.le_refl _)) (hp.below hB (Nat.le_refl _)))
  have HKO : Hid (c = 0 → ∀ W, Below V.heap.size V W → Calls Tryz.prog 53 #[PlaceV p vc v0 v1] W (BelPost (.int .u64 K) W)) := Lib.hid (fun hz W h => by
    have hk : placeE r p = 0 := by rw [← hc]; exact hz
    rw [hK, keyI, if_pos hk]
    exact keyOf_any p vc v0 v1 W ((hp.below hB (Nat.le_refl _)).below h (Nat.le_refl _)) (placeE_iff.1 hk).kfit)
  have HX : Hid (∀ W, Below V.heap.size V W → BoxP W (w.heap.size + 1) p vc v0 v1) := Lib.hid (fun W hb => hX.below hb (Nat.le_refl _))
  have HKP : Hid (∀ a b : Int, a = K → b = c → ∀ W, Below w.heap.size w W → KPost (keyI r p) (placeE r p) w (.returned (.tuple #[.int .u64 a, .int .i64 b])) W) := Lib.hid (fun a b ha hb' W h => ⟨by rw [ha, hb', hK, hc], h⟩)
  obtain ⟨x0, x1, x2, x3, x4⟩ := hX
  obtain ⟨y0, y1, y2, y3, y4, y5, y6, y7, y8, y9, y10⟩ := hY
  have hV' := hV
  unfold RulesCells PlaceCells at hV'
  unfold RulesV at HCK ⊢
  unfold PlaceV PlaceCells at HCK HKO ⊢
  rw [hV] at x0 x1 x2 x3 x4 y0 y1 y2 y3 y4 y5 y6 y7 y8 y9 y10
  clear hr hp hc hK hB hV x0 x1 x2 x3 x4 y0 y1 y2 y3 y4 y5 y6 y7 y8 y9 y10
  go_enter Tryz.func19, Tryz.ntmps19
  go_wp2_with fail
  rw [← hV']
  clear hV'
  go_at_call 52; refine HCK.out.mono ?_; rintro e w1 ⟨rfl, hb⟩
  have HB1 := Lib.hid (HB.out.trans (hb.mono HB.out.size))
  by_cases hz : c = 0
  · have HKO1 := Lib.hid (HKO.out hz _ hb)
    obtain ⟨x0, x1, x2, x3, x4⟩ := HX.out w1 hb
    have hce : (c != 0) = false := by simpa using hz
    have HZ := Lib.hid hz
    clear HB HCK HKO HX hb hz HK0
    go_wp2_with fail
    go_at_call 53; refine HKO1.out.mono ?_; rintro e w2 ⟨rfl, hb⟩
    have HB2 := Lib.hid (HB1.out.trans (hb.mono HB1.out.size))
    clear hb
    go_wp2_with fail
    go_ret2
    exact HKP.out _ _ rfl HZ.out.symm _ HB2.out
  · have hne : (c != 0) = true := by simpa using hz
    have HZ := Lib.hid (HK0.out hz)
    clear HB HCK HKO HX hb hz HK0
    go_wp2_with fail
    go_ret2
    exact HKP.out _ _ HZ.out.symm rfl _ HB1.out
end Go.Proofs.YtiligppdfldlfaaGreatDoor
