/- The walks of the laws over partitions. -/
import Derived.Test.YthjgcakpimbcbaaPii
namespace Go.Proofs.Ythjgcakpimbcbaa
open Go.RowKit
set_option linter.unusedVariables false
end Go.Proofs.Ythjgcakpimbcbaa
