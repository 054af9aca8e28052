/- The position of three in a row with which the statements begin. -/
import Derived.Test.YthbilpgecombiaaPlc
import Derived.Test.YthbilpgecombiaaPFill
set_option maxRecDepth 100000
namespace Go.Proofs.Ythbilpgecombiaa
open Go.ChangeShapes Go.WideShapes Go.ChangeAt Go.RowKit

def nearD : PlaceD := ⟨[1, 1, 0, 2, 2, 0, 0, 0, 0], [3], [3], 0, 0⟩
def PlacePost (p : PlaceD) (w : World) (e : Ending) (w' : World) : Prop := ∃ vc v0 v1, e = .returned (PlaceV p vc v0 v1) ∧ PlaceIn w' p vc v0 v1 ∧ Below w.heap.size w w'
set_option maxHeartbeats 2000000 in
theorem near_any (w : World) : Calls Try.prog 11 #[] w (PlacePost nearD w) := by
  go_enter Try.func11, Try.ntmps11
  go_wp2_with fail
  refine bodyPost_ret (v := PlaceV nearD (.slice (some ⟨w.heap.size + 1, 0, none⟩) 9 9) (.slice (some ⟨w.heap.size + 1 + 1, 0, none⟩) 1 1) (.slice (some ⟨w.heap.size + 1 + 1 + 1, 0, none⟩) 1 1)) (by simp [results, Try.results11, go_sem, PlaceV, PlaceCells, nearD]) rfl ⟨_, _, _, rfl, ⟨?_, ?_, ?_⟩, ?_⟩
  · refine .inr ⟨_, 0, 9, rfl, by simp [nearD], by simp [nearD], by decide, fun i x hx => ?_⟩
    have hi : i < 9 := (List.getElem?_eq_some_iff.1 hx).1
    match i, hi, hx with
    | 0, _, hx | 1, _, hx | 2, _, hx | 3, _, hx | 4, _, hx | 5, _, hx | 6, _, hx | 7, _, hx | 8, _, hx => obtain rfl := Option.some.inj hx; simp [IntAt, go_sem]
  · refine .inr ⟨_, 0, 1, rfl, by simp [nearD], by simp [nearD], by decide, fun i x hx => ?_⟩
    have hi : i < 1 := (List.getElem?_eq_some_iff.1 hx).1
    match i, hi, hx with
    | 0, _, hx => obtain rfl := Option.some.inj hx; simp [IntAt, go_sem]
  · refine .inr ⟨_, 0, 1, rfl, by simp [nearD], by simp [nearD], by decide, fun i x hx => ?_⟩
    have hi : i < 1 := (List.getElem?_eq_some_iff.1 hx).1
    match i, hi, hx with
    | 0, _, hx => obtain rfl := Option.some.inj hx; simp [IntAt, go_sem]
  · simp only [World.alloc]
    exact ((((Below.refl _ _).alloc (by simp) _).alloc (by simp <;> omega) _).alloc (by simp <;> omega) _).alloc (by simp <;> omega) _
end Go.Proofs.Ythbilpgecombiaa
