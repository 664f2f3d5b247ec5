/- Contracts of the comparisons that the exact laws use. -/
import Derived.Test.YtbpecjfiilkobaaBase
import Derived.Deep.QuietTactic
import Derived.BigQuiet
namespace Go.Proofs.Ytbpecjfiilkobaa
open Go.RowKit
end Go.Proofs.Ytbpecjfiilkobaa
