/- The library's table of powers of ten, kept below a block; strconv.Itoa over it. -/
import Derived.Test.YtakekeljndofcaaGreatDoorDec
import Derived.Test.YtakekeljndofcaaGreatDoorShelf
import Derived.Test.YtakekeljndofcaaGreatDoorPow
set_option maxRecDepth 100000
namespace Go.Proofs.YtakekeljndofcaaGreatDoor
open Go.ChangeShapes Go.WideShapes Go.ChangeAt Go.RowKit

/-- The library's table of powers of ten, in every world that has kept what lies below block B. -/
def Tb (B : Nat) (w : World) : Prop := Lib.TabBelow Tryz.prog B w powName .u64 Lib.pow10Tab
theorem Tb.below {B : Nat} {w w' : World} (h : Tb B w) (hb : Below B w w') : Tb B w' := fun w2 h2 => h w2 (hb.trans h2)
theorem Tb.up {B B' : Nat} {w w' : World} (h : Tb B w) (hb : Below B w w') (hB : B ≤ B') : Tb B' w' := fun w2 h2 => h w2 (hb.trans (h2.mono hB))
theorem itoa_any {B : Nat} (n : Int) (h0 : -7 ≤ n) (h1 : n ≤ 2000) (w : World) (hT : Tb B w) :
    Calls Tryz.prog 14 #[.int .i64 n] w fun e w' => e = .returned (.string (numS n)) ∧ Below w.heap.size w w' := by
  refine (Tryz.strconv_Itoa n (by omega) (by omega) w hT.here).mono ?_
  rintro e w' ⟨rfl, k, os, rfl⟩
  exact ⟨rfl, Lib.below_grow _ _ (Nat.le_refl _) k os⟩
end Go.Proofs.YtakekeljndofcaaGreatDoor
