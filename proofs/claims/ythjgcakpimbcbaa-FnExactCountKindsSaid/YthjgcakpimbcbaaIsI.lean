/- The contract of the program's IsDiagram. -/
import Derived.Test.YthjgcakpimbcbaaText
import Derived.Test.YthjgcakpimbcbaaEq
namespace Go.Proofs.Ythjgcakpimbcbaa
open Go.RowKit
/-- Whether a size and mates are a diagram, as the program asks it. -/
def isD (n : Int) (ms : List Int) : Bool := decide (1 ≤ n ∧ n ≤ 8) && decide (parse (textS n ms).data.toList = some (n, ms))
end Go.Proofs.Ythjgcakpimbcbaa
