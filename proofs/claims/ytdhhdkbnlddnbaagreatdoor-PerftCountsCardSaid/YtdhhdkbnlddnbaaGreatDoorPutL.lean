/- gamehalllaw1: three, put. -/
import Derived.Test.YtdhhdkbnlddnbaaGreatDoorOthA
import Derived.Test.YtdhhdkbnlddnbaaGreatDoorThreeR
import Derived.Test.YtdhhdkbnlddnbaaGreatDoorMvB
set_option maxRecDepth 100000
namespace Go.Proofs.YtdhhdkbnlddnbaaGreatDoor
open Go.ChangeShapes Go.WideShapes Go.ChangeAt Go.RowKit

theorem put_law (s : Int) (w : World) : Calls Tryz.prog 20 #[.int .i64 s] w fun e w' => e = .returned (.agg #[.int .i64 (-1), .int .i64 s, .int .i64 0]) ∧ Below w.heap.size w w' := by
  go_enter Tryz.func20, Tryz.ntmps20
  go_wp2_with fail
  refine bodyPost_ret (results_cell_row rfl _ _ w.heap.size 37 _ (0, 0) _ rfl (heap_alloc_new w (.cells #[.int .i64 (-1), .int .i64 s, .int .i64 0] 37)) Tryz.underlying37 rfl (by kernel_rfl)) rfl ?_
  exact ⟨rfl, (Below.refl _ _).alloc (Nat.le_refl _) _⟩
end Go.Proofs.YtdhhdkbnlddnbaaGreatDoor
