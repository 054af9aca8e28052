/- The name of the library's table of powers of ten, as the given row has it. -/
import Derived.Test.YtakekeljndofcaaGreatDoorRows
namespace Go.Proofs.YtakekeljndofcaaGreatDoor

def powName : String := Rows.placeBackRow.named.headD Rows.placeBackRow.func
end Go.Proofs.YtakekeljndofcaaGreatDoor
