/- Contracts of the comparisons that the exact laws use. -/
import Derived.Test.YtjecafjdlfdpcaaBase
import Derived.Deep.QuietTactic
import Derived.BigQuiet
namespace Go.Proofs.Ytjecafjdlfdpcaa
open Go.RowKit
end Go.Proofs.Ytjecafjdlfdpcaa
