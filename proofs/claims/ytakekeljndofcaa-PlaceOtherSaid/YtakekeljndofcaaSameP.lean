/- place.Same and the statements' same, at the same position twice. -/
import Derived.Test.YtakekeljndofcaaPlc
import Derived.Test.YtakekeljndofcaaEqR
set_option maxRecDepth 100000
namespace Go.Proofs.Ytakekeljndofcaa
open Go.ChangeShapes Go.WideShapes Go.ChangeAt Go.RowKit

theorem eq_ints {xs : List Int} {v1 v2 : Value} {w : World} (h1 : IsSl IntAt 1 w v1 xs) (h2 : IsSl IntAt 1 w v2 xs) (hl : xs.length ≤ 100) : Calls Try.prog 7 #[v1, v2] w (BelPost (.bool true) w) := by
  have h := equal_any xs xs v1 v2 w (row_of h1) (row_of h2) (by omega)
  rw [decide_eq_true (rfl : xs = xs)] at h
  exact h
/-- No list of a position is long. -/
structure Short (p : PlaceD) : Prop where
  c : p.cells.length ≤ 100
  a : p.h0.length ≤ 100
  b : p.h1.length ≤ 100
theorem POkay.short {r : RulesD} {p : PlaceD} (h : POkay r p) : Short p := by
  obtain ⟨_, hw, hh, hps, _⟩ := rulesE_ok h.e
  have hn6 := (piecesE_ok hps).2
  rw [inB_iff] at hw hh
  have hA2 : r.width * r.height ≤ 64 := by have := Int.mul_le_mul hw.2 hh.2 (by omega) (by omega); simpa using this
  have := h.cl
  exact ⟨by omega, by have := h.l0; omega, by have := h.l1; omega⟩
theorem two_boxes (w : World) (p q : PlaceD) (vc v0 v1 uc u0 u1 : Value) (t : TypeId) :
    Below w.heap.size w ((w.alloc (.cells (PlaceCells p vc v0 v1) t)).alloc (.cells (PlaceCells q uc u0 u1) t)) ∧ BoxP ((w.alloc (.cells (PlaceCells p vc v0 v1) t)).alloc (.cells (PlaceCells q uc u0 u1) t)) w.heap.size p vc v0 v1 ∧ BoxP ((w.alloc (.cells (PlaceCells p vc v0 v1) t)).alloc (.cells (PlaceCells q uc u0 u1) t)) (w.heap.size + 1) q uc u0 u1 := by
  refine ⟨((Below.refl _ _).alloc (Nat.le_refl _) _).alloc (by simp) _, (boxP_new w p vc v0 v1 t).below ((Below.refl _ _).alloc (Nat.le_refl _) _) (Nat.le_refl _), ?_⟩
  have h := boxP_new (w.alloc (.cells (PlaceCells p vc v0 v1) t)) q uc u0 u1 t
  rwa [World.size_alloc] at h
set_option maxHeartbeats 4000000 in
theorem Same_eq (p : PlaceD) (vc v0 v1 uc u0 u1 : Value) (w : World) (h1 : PlaceIn w p vc v0 v1) (h2 : PlaceIn w p uc u0 u1) (hs : Short p) :
    Calls Try.prog 8 #[PlaceV p vc v0 v1, PlaceV p uc u0 u1] w (BelPost (.bool true) w) := by
  have HC : Hid (∀ W, Below w.heap.size w W → Calls Try.prog 7 #[vc, uc] W (BelPost (.bool true) W)) := Lib.hid (fun W h => eq_ints (h1.below h (Nat.le_refl _)).c (h2.below h (Nat.le_refl _)).c hs.c)
  have H0 : Hid (∀ W, Below w.heap.size w W → Calls Try.prog 7 #[v0, u0] W (BelPost (.bool true) W)) := Lib.hid (fun W h => eq_ints (h1.below h (Nat.le_refl _)).a (h2.below h (Nat.le_refl _)).a hs.a)
  have H1 : Hid (∀ W, Below w.heap.size w W → Calls Try.prog 7 #[v1, u1] W (BelPost (.bool true) W)) := Lib.hid (fun W h => eq_ints (h1.below h (Nat.le_refl _)).b (h2.below h (Nat.le_refl _)).b hs.b)
  obtain ⟨hB, hX, hY⟩ := two_boxes w p p vc v0 v1 uc u0 u1 29
  have HB := Lib.hid hB
  have HX := Lib.hid hX
  have HY := Lib.hid hY
  unfold PlaceCells at HB HX HY
  unfold PlaceV PlaceCells
  clear h1 h2 hB hX hY hs
  go_enter Try.func8, Try.ntmps8
  go_wp2_with fail
  go_at_call 7; refine (H0.out _ HB.out).mono ?_; rintro e w1 ⟨rfl, hb⟩
  have HB1 := Lib.hid (HB.out.trans (hb.mono HB.out.size))
  have HX1 := Lib.hid (HX.out.below hb (Nat.le_refl _))
  have HY1 := Lib.hid (HY.out.below hb (Nat.le_refl _))
  clear hb HB HX HY
  obtain ⟨x0, x1, x2, x3, x4⟩ := HX1.out
  obtain ⟨y0, y1, y2, y3, y4⟩ := HY1.out
  go_wp2_with fail
  go_at_call 7; refine (H1.out _ HB1.out).mono ?_; rintro e w2 ⟨rfl, hb⟩
  have HB2 := Lib.hid (HB1.out.trans (hb.mono HB1.out.size))
  have HX2 := Lib.hid (HX1.out.below hb (Nat.le_refl _))
  have HY2 := Lib.hid (HY1.out.below hb (Nat.le_refl _))
  clear hb HB1 HX1 HY1 x0 x1 x2 x3 x4 y0 y1 y2 y3 y4
  obtain ⟨x0, x1, x2, x3, x4⟩ := HX2.out
  obtain ⟨y0, y1, y2, y3, y4⟩ := HY2.out
  go_wp2_with fail
  go_at_call 7; refine (HC.out _ HB2.out).mono ?_; rintro e w3 ⟨rfl, hb⟩
  have HB3 := Lib.hid (HB2.out.trans (hb.mono HB2.out.size))
  have HX3 := Lib.hid (HX2.out.below hb (Nat.le_refl _))
  have HY3 := Lib.hid (HY2.out.below hb (Nat.le_refl _))
  clear hb HB2 HX2 HY2 x0 x1 x2 x3 x4 y0 y1 y2 y3 y4
  obtain ⟨x0, x1, x2, x3, x4⟩ := HX3.out
  obtain ⟨y0, y1, y2, y3, y4⟩ := HY3.out
  go_wp2_with fail
  go_ret
  exact ⟨rfl, HB3.out⟩
set_option maxHeartbeats 4000000 in
theorem same_eq (p : PlaceD) (vc v0 v1 uc u0 u1 : Value) (w : World) (h1 : PlaceIn w p vc v0 v1) (h2 : PlaceIn w p uc u0 u1) (hs : Short p) :
    Calls Try.prog 12 #[PlaceV p vc v0 v1, PlaceV p uc u0 u1] w (BelPost (.bool true) w) := by
  have HC : Hid (∀ W, Below w.heap.size w W → Calls Try.prog 7 #[vc, uc] W (BelPost (.bool true) W)) := Lib.hid (fun W h => eq_ints (h1.below h (Nat.le_refl _)).c (h2.below h (Nat.le_refl _)).c hs.c)
  have H0 : Hid (∀ W, Below w.heap.size w W → Calls Try.prog 7 #[v0, u0] W (BelPost (.bool true) W)) := Lib.hid (fun W h => eq_ints (h1.below h (Nat.le_refl _)).a (h2.below h (Nat.le_refl _)).a hs.a)
  have H1 : Hid (∀ W, Below w.heap.size w W → Calls Try.prog 7 #[v1, u1] W (BelPost (.bool true) W)) := Lib.hid (fun W h => eq_ints (h1.below h (Nat.le_refl _)).b (h2.below h (Nat.le_refl _)).b hs.b)
  obtain ⟨hB, hX, hY⟩ := two_boxes w p p vc v0 v1 uc u0 u1 29
  have HB := Lib.hid hB
  have HX := Lib.hid hX
  have HY := Lib.hid hY
  unfold PlaceCells at HB HX HY
  unfold PlaceV PlaceCells
  clear h1 h2 hB hX hY hs
  go_enter Try.func12, Try.ntmps12
  go_wp2_with fail
  go_at_call 7; refine (HC.out _ HB.out).mono ?_; rintro e w1 ⟨rfl, hb⟩
  have HB1 := Lib.hid (HB.out.trans (hb.mono HB.out.size))
  have HX1 := Lib.hid (HX.out.below hb (Nat.le_refl _))
  have HY1 := Lib.hid (HY.out.below hb (Nat.le_refl _))
  clear hb HB HX HY
  obtain ⟨x0, x1, x2, x3, x4⟩ := HX1.out
  obtain ⟨y0, y1, y2, y3, y4⟩ := HY1.out
  go_wp2_with fail
  go_at_call 7; refine (H0.out _ HB1.out).mono ?_; rintro e w2 ⟨rfl, hb⟩
  have HB2 := Lib.hid (HB1.out.trans (hb.mono HB1.out.size))
  have HX2 := Lib.hid (HX1.out.below hb (Nat.le_refl _))
  have HY2 := Lib.hid (HY1.out.below hb (Nat.le_refl _))
  clear hb HB1 HX1 HY1 x0 x1 x2 x3 x4 y0 y1 y2 y3 y4
  obtain ⟨x0, x1, x2, x3, x4⟩ := HX2.out
  obtain ⟨y0, y1, y2, y3, y4⟩ := HY2.out
  go_wp2_with fail
  go_at_call 7; refine (H1.out _ HB2.out).mono ?_; rintro e w3 ⟨rfl, hb⟩
  have HB3 := Lib.hid (HB2.out.trans (hb.mono HB2.out.size))
  clear hb HB2 HX2 HY2 x0 x1 x2 x3 x4 y0 y1 y2 y3 y4
  go_wp2_with fail
  go_ret
  exact ⟨rfl, HB3.out⟩
def nearD : PlaceD := ⟨[1, 1, 0, 2, 2, 0, 0, 0, 0], [3], [3], 0, 0⟩
def PlacePost (p : PlaceD) (w : World) (e : Ending) (w' : World) : Prop := ∃ vc v0 v1, e = .returned (PlaceV p vc v0 v1) ∧ PlaceIn w' p vc v0 v1 ∧ Below w.heap.size w w'
set_option maxHeartbeats 2000000 in
theorem near_any (w : World) : Calls Try.prog 6 #[] w (PlacePost nearD w) := by
  go_enter Try.func6, Try.ntmps6
  go_wp2_with fail
  refine bodyPost_ret (v := PlaceV nearD (.slice (some ⟨w.heap.size + 1, 0, none⟩) 9 9) (.slice (some ⟨w.heap.size + 1 + 1, 0, none⟩) 1 1) (.slice (some ⟨w.heap.size + 1 + 1 + 1, 0, none⟩) 1 1)) (by simp [results, Try.results6, go_sem, PlaceV, PlaceCells, nearD]) rfl ⟨_, _, _, rfl, ⟨?_, ?_, ?_⟩, ?_⟩
  · refine .inr ⟨_, 0, 9, rfl, by simp [nearD], by simp [nearD], by decide, fun i x hx => ?_⟩
    have hi : i < 9 := (List.getElem?_eq_some_iff.1 hx).1
    match i, hi, hx with
    | 0, _, hx | 1, _, hx | 2, _, hx | 3, _, hx | 4, _, hx | 5, _, hx | 6, _, hx | 7, _, hx | 8, _, hx => obtain rfl := Option.some.inj hx; simp [IntAt, go_sem]
  · refine .inr ⟨_, 0, 1, rfl, by simp [nearD], by simp [nearD], by decide, fun i x hx => ?_⟩
    have hi : i < 1 := (List.getElem?_eq_some_iff.1 hx).1
    match i, hi, hx with
    | 0, _, hx => obtain rfl := Option.some.inj hx; simp [IntAt, go_sem]
  · refine .inr ⟨_, 0, 1, rfl, by simp [nearD], by simp [nearD], by decide, fun i x hx => ?_⟩
    have hi : i < 1 := (List.getElem?_eq_some_iff.1 hx).1
    match i, hi, hx with
    | 0, _, hx => obtain rfl := Option.some.inj hx; simp [IntAt, go_sem]
  · simp only [World.alloc]
    exact ((((Below.refl _ _).alloc (by simp) _).alloc (by simp <;> omega) _).alloc (by simp <;> omega) _).alloc (by simp <;> omega) _
end Go.Proofs.Ytakekeljndofcaa
