/- The name of the library's table of powers of ten, as the given row has it. -/
import Derived.Test.YtomclohfppbegaaGreatDoorRows
namespace Go.Proofs.YtomclohfppbegaaGreatDoor

def powName : String := Rows.topTextRow.named.headD Rows.topTextRow.func
end Go.Proofs.YtomclohfppbegaaGreatDoor
