/- What the small tests of package rules and of the reference return. -/
import Derived.Test.YtakekeljndofcaaGreatDoorRules
namespace Go.Proofs.YtakekeljndofcaaGreatDoor
open Go.ChangeShapes Go.WideShapes Go.ChangeAt Go.RowKit

theorem isWithin_any (x a b : Int) (w : World) :
    Calls Tryz.prog 31 #[.int .i64 x, .int .i64 a, .int .i64 b] w fun e w' => e = .returned (.bool (inB x a b)) ∧ w' = w := by
  unfold inB
  go_enter Tryz.func31, Tryz.ntmps31
  go_wp2
  all_goals
    go_ret
    refine ⟨ret_bool ?_, rfl⟩
    first | (simp_all; done) | (simp_all; omega)
theorem isCapital_any (x : Int) (w : World) :
    Calls Tryz.prog 48 #[.int .u8 x] w fun e w' => e = .returned (.bool (capB x)) ∧ w' = w := by
  unfold capB inB
  go_enter Tryz.func48, Tryz.ntmps48
  go_wp2
  all_goals
    go_ret
    refine ⟨ret_bool ?_, rfl⟩
    first | (simp_all; done) | (simp_all; omega)
theorem isDigit_any (x : Int) (w : World) :
    Calls Tryz.prog 49 #[.int .u8 x] w fun e w' => e = .returned (.bool (digB x)) ∧ w' = w := by
  unfold digB inB
  go_enter Tryz.func49, Tryz.ntmps49
  go_wp2
  all_goals
    go_ret
    refine ⟨ret_bool ?_, rfl⟩
    first | (simp_all; done) | (simp_all; omega)
end Go.Proofs.YtakekeljndofcaaGreatDoor
