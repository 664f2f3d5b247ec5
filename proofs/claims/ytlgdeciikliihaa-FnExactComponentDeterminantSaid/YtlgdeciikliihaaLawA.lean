/- Contracts of the comparisons that the exact laws use. -/
import Derived.Test.YtlgdeciikliihaaBase
import Derived.Deep.QuietTactic
import Derived.BigQuiet
namespace Go.Proofs.Ytlgdeciikliihaa
open Go.RowKit
end Go.Proofs.Ytlgdeciikliihaa
