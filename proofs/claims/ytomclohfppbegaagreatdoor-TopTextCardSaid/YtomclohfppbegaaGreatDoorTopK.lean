/- gamehalltop: bThree, bNear, bPut. -/
import Derived.Test.YtomclohfppbegaaGreatDoorOthA
import Derived.Test.YtomclohfppbegaaGreatDoorThreeR
import Derived.Test.YtomclohfppbegaaGreatDoorPlayD
set_option maxRecDepth 100000
namespace Go.Proofs.YtomclohfppbegaaGreatDoor
open Go.ChangeShapes Go.WideShapes Go.ChangeAt Go.RowKit

set_option maxHeartbeats 1000000 in
theorem three_top (w : World) : Calls Tryz.prog 5 #[] w (RulesPost (threeD [0, 0, 0, 0, 0, 0, 0, 0, 0]) w) := by
  have hmk := make9
  go_enter Tryz.func5, Tryz.ntmps5
  go_wp2_with fail
  refine bodyPost_ret (v := RulesV (threeD [0, 0, 0, 0, 0, 0, 0, 0, 0]) (.slice (some ⟨w.heap.size + 1, 0, none⟩) 1 1) (.slice (some ⟨w.heap.size + 1 + 1, 0, none⟩) 9 9) (.slice (some ⟨w.heap.size + 1 + 1 + 1, 0, none⟩) 1 1)) (by simp [results, Tryz.results5, go_sem, RulesV, threeD]) rfl ⟨_, _, _, rfl, ⟨⟨?_, ?_, ?_⟩, by decide⟩, ?_⟩
  · refine .inr ⟨_, 0, 1, rfl, by simp [threeD], by simp [threeD], by decide, fun i x hx => ?_⟩
    match i, hx with
    | 0, hx =>
      obtain rfl := Option.some.inj hx
      exact ⟨.slice none 0 0, by simp [go_sem], by simp [go_sem], by simp [go_sem], by simp [go_sem], .inl ⟨rfl, none, 0, rfl⟩⟩
    | i + 1, hx => simp [threeD] at hx
  · refine .inr ⟨_, 0, 9, rfl, by simp [threeD], by simp [threeD], by decide, fun i x hx => ?_⟩
    have hi : i < 9 := (List.getElem?_eq_some_iff.1 hx).1
    obtain rfl : 0 = x := by
      match i, hi, hx with
      | 0, _, hx | 1, _, hx | 2, _, hx | 3, _, hx | 4, _, hx | 5, _, hx | 6, _, hx | 7, _, hx | 8, _, hx => exact Option.some.inj hx
    match i, hi with
    | 0, _ | 1, _ | 2, _ | 3, _ | 4, _ | 5, _ | 6, _ | 7, _ | 8, _ => simp [IntAt, go_sem]
  · refine .inr ⟨_, 0, 1, rfl, by simp [threeD], by simp [threeD], by decide, fun i x hx => ?_⟩
    match i, hx with
    | 0, hx =>
      obtain rfl := Option.some.inj hx
      exact ⟨by simp [go_sem], by simp [go_sem], by simp [go_sem], by simp [go_sem]⟩
    | i + 1, hx => simp [threeD] at hx
  · exact ((((Below.refl _ _).alloc (by simp) _).alloc (by simp <;> omega) _).alloc (by simp <;> omega) _).alloc (by simp <;> omega) _
set_option maxHeartbeats 2000000 in
theorem near_top (w : World) : Calls Tryz.prog 31 #[] w (PlacePost nearD w) := by
  go_enter Tryz.func31, Tryz.ntmps31
  go_wp2_with fail
  refine bodyPost_ret (v := PlaceV nearD (.slice (some ⟨w.heap.size + 1, 0, none⟩) 9 9) (.slice (some ⟨w.heap.size + 1 + 1, 0, none⟩) 1 1) (.slice (some ⟨w.heap.size + 1 + 1 + 1, 0, none⟩) 1 1)) (by simp [results, Tryz.results31, go_sem, PlaceV, PlaceCells, nearD]) rfl ⟨_, _, _, rfl, ⟨?_, ?_, ?_⟩, ?_⟩
  · refine .inr ⟨_, 0, 9, rfl, by simp [nearD], by simp [nearD], by decide, fun i x hx => ?_⟩
    have hi : i < 9 := (List.getElem?_eq_some_iff.1 hx).1
    match i, hi, hx with
    | 0, _, hx | 1, _, hx | 2, _, hx | 3, _, hx | 4, _, hx | 5, _, hx | 6, _, hx | 7, _, hx | 8, _, hx => obtain rfl := Option.some.inj hx; simp [IntAt, go_sem]
  · refine .inr ⟨_, 0, 1, rfl, by simp [nearD], by simp [nearD], by decide, fun i x hx => ?_⟩
    have hi : i < 1 := (List.getElem?_eq_some_iff.1 hx).1
    match i, hi, hx with
    | 0, _, hx => obtain rfl := Option.some.inj hx; simp [IntAt, go_sem]
  · refine .inr ⟨_, 0, 1, rfl, by simp [nearD], by simp [nearD], by decide, fun i x hx => ?_⟩
    have hi : i < 1 := (List.getElem?_eq_some_iff.1 hx).1
    match i, hi, hx with
    | 0, _, hx => obtain rfl := Option.some.inj hx; simp [IntAt, go_sem]
  · simp only [World.alloc]
    exact ((((Below.refl _ _).alloc (by simp) _).alloc (by simp <;> omega) _).alloc (by simp <;> omega) _).alloc (by simp <;> omega) _
theorem put_top (s : Int) (w : World) : Calls Tryz.prog 30 #[.int .i64 s] w fun e w' => e = .returned (.agg #[.int .i64 (-1), .int .i64 s, .int .i64 0]) ∧ Below w.heap.size w w' := by
  go_enter Tryz.func30, Tryz.ntmps30
  go_wp2_with fail
  refine bodyPost_ret (results_cell_row rfl _ _ w.heap.size 47 _ (0, 0) _ rfl (heap_alloc_new w (.cells #[.int .i64 (-1), .int .i64 s, .int .i64 0] 47)) Tryz.underlying47 rfl (by kernel_rfl)) rfl ?_
  exact ⟨rfl, (Below.refl _ _).alloc (Nat.le_refl _) _⟩
end Go.Proofs.YtomclohfppbegaaGreatDoor
