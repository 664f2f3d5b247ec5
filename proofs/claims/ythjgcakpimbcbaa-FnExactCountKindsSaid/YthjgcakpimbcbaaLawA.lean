/- Contracts of the comparisons that the exact laws use. -/
import Derived.Test.YthjgcakpimbcbaaBase
import Derived.Deep.QuietTactic
import Derived.BigQuiet
namespace Go.Proofs.Ythjgcakpimbcbaa
open Go.RowKit
end Go.Proofs.Ythjgcakpimbcbaa
