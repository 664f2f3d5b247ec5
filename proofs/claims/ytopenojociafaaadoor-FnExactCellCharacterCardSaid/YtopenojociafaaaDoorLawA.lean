/- Contracts of the comparisons that the exact laws use. -/
import Derived.Test.YtopenojociafaaaDoorBase
import Derived.Deep.QuietTactic
import Derived.BigQuiet
namespace Go.Proofs.YtopenojociafaaaDoor
open Go.RowKit
end Go.Proofs.YtopenojociafaaaDoor
