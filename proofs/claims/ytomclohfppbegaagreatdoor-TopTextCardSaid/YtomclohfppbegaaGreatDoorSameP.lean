/- place.Same and the statements' same, at the same position twice. -/
import Derived.Test.YtomclohfppbegaaGreatDoorPlcA
import Derived.Test.YtomclohfppbegaaGreatDoorEqR
set_option maxRecDepth 100000
namespace Go.Proofs.YtomclohfppbegaaGreatDoor
open Go.ChangeShapes Go.WideShapes Go.ChangeAt Go.RowKit

theorem eq_ints {xs : List Int} {v1 v2 : Value} {w : World} (h1 : IsSl IntAt 1 w v1 xs) (h2 : IsSl IntAt 1 w v2 xs) (hl : xs.length ≤ 100) : Calls Tryz.prog 67 #[v1, v2] w (BelPost (.bool true) w) := by
  have h := equal_any xs xs v1 v2 w (row_of h1) (row_of h2) (by omega)
  rw [decide_eq_true (rfl : xs = xs)] at h
  exact h
set_option maxHeartbeats 4000000 in
theorem Same_eq (p : PlaceD) (vc v0 v1 uc u0 u1 : Value) (w : World) (h1 : PlaceIn w p vc v0 v1) (h2 : PlaceIn w p uc u0 u1) (hs : Short p) :
    Calls Tryz.prog 33 #[PlaceV p vc v0 v1, PlaceV p uc u0 u1] w (BelPost (.bool true) w) := by
  have HC : Hid (∀ W, Below w.heap.size w W → Calls Tryz.prog 67 #[vc, uc] W (BelPost (.bool true) W)) := Lib.hid (fun W h => eq_ints (h1.below h (Nat.le_refl _)).c (h2.below h (Nat.le_refl _)).c hs.c)
  have H0 : Hid (∀ W, Below w.heap.size w W → Calls Tryz.prog 67 #[v0, u0] W (BelPost (.bool true) W)) := Lib.hid (fun W h => eq_ints (h1.below h (Nat.le_refl _)).a (h2.below h (Nat.le_refl _)).a hs.a)
  have H1 : Hid (∀ W, Below w.heap.size w W → Calls Tryz.prog 67 #[v1, u1] W (BelPost (.bool true) W)) := Lib.hid (fun W h => eq_ints (h1.below h (Nat.le_refl _)).b (h2.below h (Nat.le_refl _)).b hs.b)
  obtain ⟨hB, hX, hY⟩ := two_boxes w p p vc v0 v1 uc u0 u1 43
  have HB := Lib.hid hB
  have HX := Lib.hid hX
  have HY := Lib.hid hY
  unfold PlaceCells at HB HX HY
  unfold PlaceV PlaceCells
  clear h1 h2 hB hX hY hs
  go_enter Tryz.func33, Tryz.ntmps33
  go_wp2_with fail
  go_at_call 67; refine (H0.out _ HB.out).mono ?_; rintro e w1 ⟨rfl, hb⟩
  have HB1 := Lib.hid (HB.out.trans (hb.mono HB.out.size))
  have HX1 := Lib.hid (HX.out.below hb (Nat.le_refl _))
  have HY1 := Lib.hid (HY.out.below hb (Nat.le_refl _))
  clear hb HB HX HY
  obtain ⟨x0, x1, x2, x3, x4⟩ := HX1.out
  obtain ⟨y0, y1, y2, y3, y4⟩ := HY1.out
  go_wp2_with fail
  go_at_call 67; refine (H1.out _ HB1.out).mono ?_; rintro e w2 ⟨rfl, hb⟩
  have HB2 := Lib.hid (HB1.out.trans (hb.mono HB1.out.size))
  have HX2 := Lib.hid (HX1.out.below hb (Nat.le_refl _))
  have HY2 := Lib.hid (HY1.out.below hb (Nat.le_refl _))
  clear hb HB1 HX1 HY1 x0 x1 x2 x3 x4 y0 y1 y2 y3 y4
  obtain ⟨x0, x1, x2, x3, x4⟩ := HX2.out
  obtain ⟨y0, y1, y2, y3, y4⟩ := HY2.out
  go_wp2_with fail
  go_at_call 67; refine (HC.out _ HB2.out).mono ?_; rintro e w3 ⟨rfl, hb⟩
  have HB3 := Lib.hid (HB2.out.trans (hb.mono HB2.out.size))
  have HX3 := Lib.hid (HX2.out.below hb (Nat.le_refl _))
  have HY3 := Lib.hid (HY2.out.below hb (Nat.le_refl _))
  clear hb HB2 HX2 HY2 x0 x1 x2 x3 x4 y0 y1 y2 y3 y4
  obtain ⟨x0, x1, x2, x3, x4⟩ := HX3.out
  obtain ⟨y0, y1, y2, y3, y4⟩ := HY3.out
  go_wp2_with fail
  go_ret
  exact ⟨rfl, HB3.out⟩
end Go.Proofs.YtomclohfppbegaaGreatDoor
