/- The name of the library's table of powers of ten, as the given row has it. -/
import Derived.Test.YtjfkecadfnepjaaGreatDoorRows
namespace Go.Proofs.YtjfkecadfnepjaaGreatDoor

def powName : String := Rows.ruletextBackRow.named.headD Rows.ruletextBackRow.func
end Go.Proofs.YtjfkecadfnepjaaGreatDoor
