/- Contracts of the comparisons that the exact laws use. -/
import Derived.Test.YtonlbelcpdfjhaaBase
import Derived.Deep.QuietTactic
import Derived.BigQuiet
namespace Go.Proofs.Ytonlbelcpdfjhaa
open Go.RowKit
end Go.Proofs.Ytonlbelcpdfjhaa
