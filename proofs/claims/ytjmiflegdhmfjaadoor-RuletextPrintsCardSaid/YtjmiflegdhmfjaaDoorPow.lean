/- The name of the library's table of powers of ten, as the given row has it. -/
import Derived.Test.YtjmiflegdhmfjaaDoorRows
namespace Go.Proofs.YtjmiflegdhmfjaaDoor

def powName : String := Rows.ruletextPrintsRow.named.headD Rows.ruletextPrintsRow.func
end Go.Proofs.YtjmiflegdhmfjaaDoor
