/- The contract of the model's parts of points with labels. -/
import Derived.Test.YthjgcakpimbcbaaLawPw
namespace Go.Proofs.Ythjgcakpimbcbaa
open Go.RowKit
set_option linter.unusedVariables false
end Go.Proofs.Ythjgcakpimbcbaa
