/- ScaleElement: the program and the model. -/
import Derived.Test.YtbibmncepjmgcaaSms
import Derived.Test.YtbibmncepjmgcaaElL
import Derived.Test.YtbibmncepjmgcaaElA
namespace Go.Proofs.Ytbibmncepjmgcaa
open Go.RowKit Go.Lib
set_option linter.unusedVariables false
set_option linter.unusedSimpArgs false
end Go.Proofs.Ytbibmncepjmgcaa
