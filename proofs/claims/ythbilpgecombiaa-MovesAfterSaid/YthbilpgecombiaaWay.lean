/- rules.isWay, all at ways: whether all ways of a type are right. -/
import Derived.Test.YthbilpgecombiaaSmallR
namespace Go.Proofs.Ythbilpgecombiaa
open Go.ChangeShapes Go.WideShapes Go.ChangeAt Go.RowKit

set_option maxHeartbeats 1000000 in
theorem isWay_any (x : WayD) (w : World) :
    Calls Try.prog 93 #[.agg #[.int .i64 x.dx, .int .i64 x.dy, .int .i64 x.most, .int .i64 x.take]] w fun e w' => e = .returned (.bool (wayB x)) ∧ Below w.heap.size w w' := by
  obtain ⟨dx, dy, most, take⟩ := x
  have K : Hid (wayB ⟨dx, dy, most, take⟩ = (inB dx (-7) 7 && (inB dy (-7) 7 && (!(decide (dx = 0) && decide (dy = 0)) && (inB most 1 7 && inB take 0 2))))) := Lib.hid rfl
  go_enter Try.func93, Try.ntmps93
  go_wp2_with (go_at_call 50; refine (turned (isWithin_any _ _ _ _)).mono ?_; rintro e w' ⟨rfl, rfl⟩)
  all_goals
    go_ret
    refine ⟨ret_bool (Eq.trans ?_ K.out.symm), (Below.refl _ _).alloc (Nat.le_refl _) _⟩
    simp_all
end Go.Proofs.Ythbilpgecombiaa
