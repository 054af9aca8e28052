/- The name of the library's table of powers of ten, as the given row has it. -/
import Derived.Test.YtakekeljndofcaaDoorRows
namespace Go.Proofs.YtakekeljndofcaaDoor

def powName : String := Rows.placeChecksRow.named.headD Rows.placeChecksRow.func
end Go.Proofs.YtakekeljndofcaaDoor
