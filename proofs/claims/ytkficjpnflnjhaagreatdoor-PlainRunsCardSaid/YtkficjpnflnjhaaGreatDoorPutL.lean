/- gamehalllaw1: three, put. -/
import Derived.Test.YtkficjpnflnjhaaGreatDoorOthA
import Derived.Test.YtkficjpnflnjhaaGreatDoorThreeR
import Derived.Test.YtkficjpnflnjhaaGreatDoorMvB
set_option maxRecDepth 100000
namespace Go.Proofs.YtkficjpnflnjhaaGreatDoor
open Go.ChangeShapes Go.WideShapes Go.ChangeAt Go.RowKit

theorem put_law (s : Int) (w : World) : Calls Tryz.prog 24 #[.int .i64 s] w fun e w' => e = .returned (.agg #[.int .i64 (-1), .int .i64 s, .int .i64 0]) ∧ Below w.heap.size w w' := by
  go_enter Tryz.func24, Tryz.ntmps24
  go_wp2_with fail
  refine bodyPost_ret (results_cell_row rfl _ _ w.heap.size 43 _ (0, 0) _ rfl (heap_alloc_new w (.cells #[.int .i64 (-1), .int .i64 s, .int .i64 0] 43)) Tryz.underlying43 rfl (by kernel_rfl)) rfl ?_
  exact ⟨rfl, (Below.refl _ _).alloc (Nat.le_refl _) _⟩
end Go.Proofs.YtkficjpnflnjhaaGreatDoor
