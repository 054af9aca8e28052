/- A block of rules in memory: what CloneR says of it. -/
import Derived.Test.YthbilpgecombiaaCloneR
namespace Go.Proofs.Ythbilpgecombiaa
end Go.Proofs.Ythbilpgecombiaa
