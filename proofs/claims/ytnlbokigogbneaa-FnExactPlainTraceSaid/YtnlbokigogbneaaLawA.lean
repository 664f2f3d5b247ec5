/- Contracts of the comparisons that the exact laws use. -/
import Derived.Test.YtnlbokigogbneaaBase
import Derived.Deep.QuietTactic
import Derived.BigQuiet
namespace Go.Proofs.Ytnlbokigogbneaa
open Go.RowKit
end Go.Proofs.Ytnlbokigogbneaa
