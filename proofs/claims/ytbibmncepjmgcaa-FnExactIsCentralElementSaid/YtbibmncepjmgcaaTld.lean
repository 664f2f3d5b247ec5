/- The model's l02Told: an element, or the error of too many terms. -/
import Derived.Test.YtbibmncepjmgcaaCpr
import Derived.Test.YtbibmncepjmgcaaKi
namespace Go.Proofs.Ytbibmncepjmgcaa
open Go.RowKit Go.Lib
set_option linter.unusedVariables false
set_option linter.unusedSimpArgs false
end Go.Proofs.Ytbibmncepjmgcaa
