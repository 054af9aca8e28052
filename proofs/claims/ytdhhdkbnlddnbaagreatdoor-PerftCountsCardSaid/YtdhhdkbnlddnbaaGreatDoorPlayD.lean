/- The game of three in a row that the statements begin with, as data: its moves and what one of them leads to. -/
import Derived.Test.YtdhhdkbnlddnbaaGreatDoorAftA
import Derived.Test.YtdhhdkbnlddnbaaGreatDoorThreeR
import Derived.Test.YtdhhdkbnlddnbaaGreatDoorPBegin
set_option maxRecDepth 100000
namespace Go.Proofs.YtdhhdkbnlddnbaaGreatDoor
open Go.RowKit

def three9 : RulesD := threeD [0, 0, 0, 0, 0, 0, 0, 0, 0]
theorem three9_ok : rulesE three9 = 0 := by decide +kernel
theorem near_ok : POkay three9 nearD := placeE_iff.1 (by decide +kernel)
def b9 : PlaceD := ⟨[0, 0, 0, 0, 0, 0, 0, 0, 0], [5], [5], 0, 0⟩
def q9 : PlaceD := ⟨[0, 0, 0, 0, 1, 0, 0, 0, 0], [4], [5], 1, 0⟩
def l9 : List MoveD := [(-1, 0, 0), (-1, 1, 0), (-1, 2, 0), (-1, 3, 0), (-1, 4, 0), (-1, 5, 0), (-1, 6, 0), (-1, 7, 0), (-1, 8, 0)]
theorem b9_eq : beginD three9 = b9 := rfl
theorem b9_ok : POkay three9 b9 := placeE_iff.1 (by decide +kernel)
theorem l9_eq : allD three9 b9 = l9 := by decide +kernel
theorem q9_cells : (afterD three9 b9 (-1, 4, 0)).cells = q9.cells := by decide +kernel
theorem q9_h0 : (afterD three9 b9 (-1, 4, 0)).h0 = q9.h0 := by decide +kernel
theorem q9_h1 : (afterD three9 b9 (-1, 4, 0)).h1 = q9.h1 := by decide +kernel
theorem q9_t : (afterD three9 b9 (-1, 4, 0)).turn = q9.turn := by decide +kernel
theorem q9_q : (afterD three9 b9 (-1, 4, 0)).quiet = q9.quiet := by decide +kernel
theorem q9_eq : afterD three9 b9 (-1, 4, 0) = q9 := by
  have h1 := q9_cells
  have h2 := q9_h0
  have h3 := q9_h1
  have h4 := q9_t
  have h5 := q9_q
  generalize afterD three9 b9 (-1, 4, 0) = x at h1 h2 h3 h4 h5 ⊢
  obtain ⟨a, b, c, d, e⟩ := x
  dsimp only at h1 h2 h3 h4 h5
  rw [h1, h2, h3, h4, h5]
theorem a9_eq : afterE three9 b9 (-1, 4, 0) = 0 := by decide +kernel
theorem i9_eq : legalE three9 b9 (-1, 9, 0) = false := by decide +kernel
theorem e9_eq : placeE three9 b9 = 0 := by decide +kernel
end Go.Proofs.YtdhhdkbnlddnbaaGreatDoor
