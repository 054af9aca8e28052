/- What good rules are. -/
import Derived.Test.YthbilpgecombiaaCheckR
namespace Go.Proofs.Ythbilpgecombiaa
open Go.ChangeShapes Go.WideShapes Go.ChangeAt Go.RowKit

theorem rulesE_ok {r : RulesD} (h : rulesE r = 0) : nameB r.name.data.toList = true ∧ inB r.width 1 8 = true ∧ inB r.height 1 8 = true ∧ piecesE r.pieces = 0 ∧ startE r = 0 ∧ endsE r = 0 ∧ otherE r = 0 := by
  unfold rulesE at h
  cases h1 : nameB r.name.data.toList
  · rw [h1] at h; simp at h
  · rw [h1, if_neg (by simp)] at h
    cases h2 : (inB r.width 1 8 && inB r.height 1 8)
    · rw [h2] at h; simp at h
    · rw [h2, if_neg (by simp)] at h
      rw [Bool.and_eq_true] at h2
      by_cases h3 : piecesE r.pieces = 0
      · rw [if_neg (by simpa using h3)] at h
        by_cases h4 : startE r = 0
        · rw [if_neg (by simpa using h4)] at h
          by_cases h5 : endsE r = 0
          · rw [if_neg (by simpa using h5)] at h
            exact ⟨rfl, h2.1, h2.2, h3, h4, h5, h⟩
          · rw [if_pos h5] at h; exact absurd h h5
        · rw [if_pos h4] at h; exact absurd h h4
      · rw [if_pos h3] at h; exact absurd h h3
theorem startE_ok {r : RulesD} (h : startE r = 0) : (r.start.length : Int) = r.width * r.height ∧ r.start.all (fun c => inB c 0 (2 * r.pieces.length)) = true := by
  unfold startE at h
  split at h
  · cases h
  · rename_i h1
    split at h
    · rename_i h2; exact ⟨by simpa using h1, h2⟩
    · cases h
end Go.Proofs.Ythbilpgecombiaa
