/- MultiplyElements: both sides. (Written by genmuc.py.) -/
import Derived.Test.YtbibmncepjmgcaaAdc
import Derived.Test.YtbibmncepjmgcaaPos
namespace Go.Proofs.Ytbibmncepjmgcaa
open Go.RowKit Go.Lib
set_option linter.unusedVariables false
set_option linter.unusedSimpArgs false
end Go.Proofs.Ytbibmncepjmgcaa
