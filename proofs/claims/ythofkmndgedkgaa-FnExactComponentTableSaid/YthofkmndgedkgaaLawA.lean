/- Contracts of the comparisons that the exact laws use. -/
import Derived.Test.YthofkmndgedkgaaBase
import Derived.Deep.QuietTactic
import Derived.BigQuiet
namespace Go.Proofs.Ythofkmndgedkgaa
open Go.RowKit
end Go.Proofs.Ythofkmndgedkgaa
