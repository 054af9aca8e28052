/- The position of three in a row, already won, with which the statements of gamehalllaw1 begin. -/
import Derived.Test.YtiligppdfldlfaaGreatDoorPlayD
import Derived.Test.YtiligppdfldlfaaGreatDoorPlcA
set_option maxRecDepth 100000
namespace Go.Proofs.YtiligppdfldlfaaGreatDoor
open Go.ChangeShapes Go.WideShapes Go.ChangeAt Go.RowKit

def wonL : PlaceD := ⟨[1, 1, 1, 2, 2, 0, 0, 0, 0], [2], [3], 1, 0⟩
theorem wonL_ok : POkay three9 wonL := placeE_iff.1 (by decide +kernel)
set_option maxHeartbeats 2000000 in
theorem won_any (w : World) : Calls Tryz.prog 26 #[] w (PlacePost wonL w) := by
  go_enter Tryz.func26, Tryz.ntmps26
  go_wp2_with fail
  refine bodyPost_ret (v := PlaceV wonL (.slice (some ⟨w.heap.size + 1, 0, none⟩) 9 9) (.slice (some ⟨w.heap.size + 1 + 1, 0, none⟩) 1 1) (.slice (some ⟨w.heap.size + 1 + 1 + 1, 0, none⟩) 1 1)) (by simp [results, Tryz.results26, go_sem, PlaceV, PlaceCells, wonL]) rfl ⟨_, _, _, rfl, ⟨?_, ?_, ?_⟩, ?_⟩
  · refine .inr ⟨_, 0, 9, rfl, by simp [wonL], by simp [wonL], by decide, fun i x hx => ?_⟩
    have hi : i < 9 := (List.getElem?_eq_some_iff.1 hx).1
    match i, hi, hx with
    | 0, _, hx | 1, _, hx | 2, _, hx | 3, _, hx | 4, _, hx | 5, _, hx | 6, _, hx | 7, _, hx | 8, _, hx => obtain rfl := Option.some.inj hx; simp [IntAt, go_sem]
  · refine .inr ⟨_, 0, 1, rfl, by simp [wonL], by simp [wonL], by decide, fun i x hx => ?_⟩
    have hi : i < 1 := (List.getElem?_eq_some_iff.1 hx).1
    match i, hi, hx with
    | 0, _, hx => obtain rfl := Option.some.inj hx; simp [IntAt, go_sem]
  · refine .inr ⟨_, 0, 1, rfl, by simp [wonL], by simp [wonL], by decide, fun i x hx => ?_⟩
    have hi : i < 1 := (List.getElem?_eq_some_iff.1 hx).1
    match i, hi, hx with
    | 0, _, hx => obtain rfl := Option.some.inj hx; simp [IntAt, go_sem]
  · simp only [World.alloc]
    exact ((((Below.refl _ _).alloc (by simp) _).alloc (by simp <;> omega) _).alloc (by simp <;> omega) _).alloc (by simp <;> omega) _
end Go.Proofs.YtiligppdfldlfaaGreatDoor
