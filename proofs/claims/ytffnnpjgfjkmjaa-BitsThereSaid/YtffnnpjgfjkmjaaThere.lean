/- BitsThere: the walk of the law. -/
import Derived.Test.YtffnnpjgfjkmjaaRay
import Derived.RowKit3
namespace Go.Proofs.Ytffnnpjgfjkmjaa
open Go.ChangeShapes Go.WideShapes Go.ChangeAt Go.RowKit
theorem tmod9 (a : Int) : -8 ≤ a.tmod 9 ∧ a.tmod 9 ≤ 8 := by
  by_cases h : 0 ≤ a
  · rw [Int.tmod_eq_emod_of_nonneg h]; omega
  · have e : a.tmod 9 = -((-a).tmod 9) := by rw [Int.neg_tmod, Int.neg_neg]
    rw [e, Int.tmod_eq_emod_of_nonneg (by omega)]; omega
theorem there_walk (b : BitVec 64) (a1 a2 : Int) (w : World) :
    Calls Try.prog 3 #[.int .u64 (b.toNat : Int), .int .i64 a1, .int .i64 a2] w fun e w' => e = .returned (.bool true) ∧ w' = w := by
  have h1 : -8 ≤ a1.tmod 9 ∧ a1.tmod 9 ≤ 8 := tmod9 a1
  have h2 : -8 ≤ a2.tmod 9 ∧ a2.tmod 9 ≤ 8 := tmod9 a2
  obtain ⟨h1a, h1b⟩ := h1
  obtain ⟨h2a, h2b⟩ := h2
  go_enter Try.func3, Try.ntmps3
  go_wp2_with (first
    | (go_at_call 7; refine (shifts_any _).mono ?_; rintro e w' ⟨rfl, rfl⟩)
    | (go_at_call 8; refine (count_513 _).mono ?_; rintro e w' ⟨rfl, rfl⟩))
  have hd1 : -4 ≤ a1.tmod 9 % 9 - 4 ∧ a1.tmod 9 % 9 - 4 ≤ 4 := by omega
  have hd2 : -4 ≤ a2.tmod 9 % 9 - 4 ∧ a2.tmod 9 % 9 - 4 ≤ 4 := by omega
  clear h1a h1b h2a h2b
  generalize a1.tmod 9 % 9 - 4 = d1 at *
  generalize a2.tmod 9 % 9 - 4 = d2 at *
  obtain ⟨h1a, h1b⟩ := hd1
  obtain ⟨h2a, h2b⟩ := hd2
  have hst : (bits BinOp.andNot IntKind.u64 ((shiftV (shiftV b d1 d2) (-d1) (-d2)).toNat : Int) (b.toNat : Int) == 0) = true := by
    rw [b_andNot, stay_zero]; rfl
  have hcn : ((cnt (shiftV (shiftV b d1 d2) (-d1) (-d2)) : Int) == (cnt (shiftV b d1 d2) : Int)) = true := by
    rw [cnt_back]; simp
  have hag : (((shiftV (shiftV (shiftV b d1 d2) (-d1) (-d2)) d1 d2).toNat : Int) == ((shiftV b d1 d2).toNat : Int)) = true := by
    rw [there_again]; simp
  go_at_call 9; refine (shift_any b d1 d2 _).mono ?_; rintro e w' ⟨rfl, rfl⟩
  go_wp2_with fail
  go_at_call 9; refine (shift_any (shiftV b d1 d2) (-d1) (-d2) _).mono ?_; rintro e w' ⟨rfl, rfl⟩
  go_wp2_with fail
  go_at_call 8; refine (count_any (shiftV (shiftV b d1 d2) (-d1) (-d2)) _).mono ?_; rintro e w' ⟨rfl, rfl⟩
  go_wp2_with fail
  go_at_call 8; refine (count_any (shiftV b d1 d2) _).mono ?_; rintro e w' ⟨rfl, rfl⟩
  go_wp2_with fail
  go_at_call 9; refine (shift_any (shiftV (shiftV b d1 d2) (-d1) (-d2)) d1 d2 _).mono ?_; rintro e w' ⟨rfl, rfl⟩
  go_wp2_with fail
  go_ret
  exact ⟨rfl, rfl⟩
theorem there_full (a0 a1 a2 : Int) (w0 : (Lit.int .u64 a0).wf = true) (w : World) :
    Calls Try.prog 3 #[.int .u64 a0, .int .i64 a1, .int .i64 a2] w fun e w' => e = .returned (.bool true) ∧ Grown w w' := by
  obtain ⟨b, rfl⟩ := word_of w0
  exact (there_walk b a1 a2 w).mono fun e w' h => ⟨h.1, by rw [h.2]; exact Grown.refl _⟩
end Go.Proofs.Ytffnnpjgfjkmjaa
