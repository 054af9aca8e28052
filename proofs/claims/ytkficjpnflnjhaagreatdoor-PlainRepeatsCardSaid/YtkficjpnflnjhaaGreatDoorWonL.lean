/- The position of three in a row, already won, with which the statements of gamehalllaw1 begin. -/
import Derived.Test.YtkficjpnflnjhaaGreatDoorPlayD
import Derived.Test.YtkficjpnflnjhaaGreatDoorPlcA
set_option maxRecDepth 100000
namespace Go.Proofs.YtkficjpnflnjhaaGreatDoor
open Go.ChangeShapes Go.WideShapes Go.ChangeAt Go.RowKit

def wonL : PlaceD := ⟨[1, 1, 1, 2, 2, 0, 0, 0, 0], [2], [3], 1, 0⟩
theorem wonL_ok : POkay three9 wonL := placeE_iff.1 (by decide +kernel)
end Go.Proofs.YtkficjpnflnjhaaGreatDoor
