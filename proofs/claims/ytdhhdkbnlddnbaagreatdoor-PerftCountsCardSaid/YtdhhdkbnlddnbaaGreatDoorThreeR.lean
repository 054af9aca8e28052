/- three: the rules that the statements begin with. -/
import Derived.Test.YtdhhdkbnlddnbaaGreatDoorRulA
namespace Go.Proofs.YtdhhdkbnlddnbaaGreatDoor
open Go.ChangeShapes Go.WideShapes Go.ChangeAt Go.RowKit

def threeD (st : List Int) : RulesD := { name := ⟨#[84, 73, 67]⟩, width := 3, height := 3, pieces := [⟨65, 5, 0, []⟩], start := st, falls := false, keeps := false, ends := [⟨0, 0, 3, false⟩], blocked := 2, quiet := 0, rep := 0 }
def RulesPost (r : RulesD) (w : World) (e : Ending) (w' : World) : Prop := ∃ vp vs ve, e = .returned (RulesV r vp vs ve) ∧ RulesIn w' r vp vs ve ∧ Below w.heap.size w w'
theorem make9 : ∀ w : World, Sem.run Tryz.prog (Instr.makeSlice 23 (.int .i64 9) (.int .i64 9)) w = .ok (.slice (some ⟨w.heap.size, 0, none⟩) 9 9) (w.alloc (.cells #[.int .i64 0, .int .i64 0, .int .i64 0, .int .i64 0, .int .i64 0, .int .i64 0, .int .i64 0, .int .i64 0, .int .i64 0] 3)) := fun _ => by kernel_rfl
set_option maxHeartbeats 1000000 in
theorem three_law (w : World) : Calls Tryz.prog 18 #[] w (RulesPost (threeD [0, 0, 0, 0, 0, 0, 0, 0, 0]) w) := by
  have hmk := make9
  go_enter Tryz.func18, Tryz.ntmps18
  go_wp2_with fail
  refine bodyPost_ret (v := RulesV (threeD [0, 0, 0, 0, 0, 0, 0, 0, 0]) (.slice (some ⟨w.heap.size + 1, 0, none⟩) 1 1) (.slice (some ⟨w.heap.size + 1 + 1, 0, none⟩) 9 9) (.slice (some ⟨w.heap.size + 1 + 1 + 1, 0, none⟩) 1 1)) (by simp [results, Tryz.results18, go_sem, RulesV, threeD]) rfl ⟨_, _, _, rfl, ⟨⟨?_, ?_, ?_⟩, by decide⟩, ?_⟩
  · refine .inr ⟨_, 0, 1, rfl, by simp [threeD], by simp [threeD], by decide, fun i x hx => ?_⟩
    match i, hx with
    | 0, hx =>
      obtain rfl := Option.some.inj hx
      exact ⟨.slice none 0 0, by simp [go_sem], by simp [go_sem], by simp [go_sem], by simp [go_sem], .inl ⟨rfl, none, 0, rfl⟩⟩
    | i + 1, hx => simp [threeD] at hx
  · refine .inr ⟨_, 0, 9, rfl, by simp [threeD], by simp [threeD], by decide, fun i x hx => ?_⟩
    have hi : i < 9 := (List.getElem?_eq_some_iff.1 hx).1
    obtain rfl : 0 = x := by
      match i, hi, hx with
      | 0, _, hx | 1, _, hx | 2, _, hx | 3, _, hx | 4, _, hx | 5, _, hx | 6, _, hx | 7, _, hx | 8, _, hx => exact Option.some.inj hx
    match i, hi with
    | 0, _ | 1, _ | 2, _ | 3, _ | 4, _ | 5, _ | 6, _ | 7, _ | 8, _ => simp [IntAt, go_sem]
  · refine .inr ⟨_, 0, 1, rfl, by simp [threeD], by simp [threeD], by decide, fun i x hx => ?_⟩
    match i, hx with
    | 0, hx =>
      obtain rfl := Option.some.inj hx
      exact ⟨by simp [go_sem], by simp [go_sem], by simp [go_sem], by simp [go_sem]⟩
    | i + 1, hx => simp [threeD] at hx
  · exact ((((Below.refl _ _).alloc (by simp) _).alloc (by simp <;> omega) _).alloc (by simp <;> omega) _).alloc (by simp <;> omega) _
set_option maxHeartbeats 1000000 in
theorem three_keep (w : World) : Calls Tryz.prog 7 #[] w (RulesPost (threeD [0, 0, 0, 0, 0, 0, 0, 0, 0]) w) := by
  have hmk := make9
  go_enter Tryz.func7, Tryz.ntmps7
  go_wp2_with fail
  refine bodyPost_ret (v := RulesV (threeD [0, 0, 0, 0, 0, 0, 0, 0, 0]) (.slice (some ⟨w.heap.size + 1, 0, none⟩) 1 1) (.slice (some ⟨w.heap.size + 1 + 1, 0, none⟩) 9 9) (.slice (some ⟨w.heap.size + 1 + 1 + 1, 0, none⟩) 1 1)) (by simp [results, Tryz.results7, go_sem, RulesV, threeD]) rfl ⟨_, _, _, rfl, ⟨⟨?_, ?_, ?_⟩, by decide⟩, ?_⟩
  · refine .inr ⟨_, 0, 1, rfl, by simp [threeD], by simp [threeD], by decide, fun i x hx => ?_⟩
    match i, hx with
    | 0, hx =>
      obtain rfl := Option.some.inj hx
      exact ⟨.slice none 0 0, by simp [go_sem], by simp [go_sem], by simp [go_sem], by simp [go_sem], .inl ⟨rfl, none, 0, rfl⟩⟩
    | i + 1, hx => simp [threeD] at hx
  · refine .inr ⟨_, 0, 9, rfl, by simp [threeD], by simp [threeD], by decide, fun i x hx => ?_⟩
    have hi : i < 9 := (List.getElem?_eq_some_iff.1 hx).1
    obtain rfl : 0 = x := by
      match i, hi, hx with
      | 0, _, hx | 1, _, hx | 2, _, hx | 3, _, hx | 4, _, hx | 5, _, hx | 6, _, hx | 7, _, hx | 8, _, hx => exact Option.some.inj hx
    match i, hi with
    | 0, _ | 1, _ | 2, _ | 3, _ | 4, _ | 5, _ | 6, _ | 7, _ | 8, _ => simp [IntAt, go_sem]
  · refine .inr ⟨_, 0, 1, rfl, by simp [threeD], by simp [threeD], by decide, fun i x hx => ?_⟩
    match i, hx with
    | 0, hx =>
      obtain rfl := Option.some.inj hx
      exact ⟨by simp [go_sem], by simp [go_sem], by simp [go_sem], by simp [go_sem]⟩
    | i + 1, hx => simp [threeD] at hx
  · exact ((((Below.refl _ _).alloc (by simp) _).alloc (by simp <;> omega) _).alloc (by simp <;> omega) _).alloc (by simp <;> omega) _
end Go.Proofs.YtdhhdkbnlddnbaaGreatDoor
