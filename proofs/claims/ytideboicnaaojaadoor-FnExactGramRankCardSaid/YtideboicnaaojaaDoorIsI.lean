/- The contract of the program's IsDiagram. -/
import Derived.Test.YtideboicnaaojaaDoorText
import Derived.Test.YtideboicnaaojaaDoorEq
namespace Go.Proofs.YtideboicnaaojaaDoor
open Go.RowKit
/-- Whether a size and mates are a diagram, as the program asks it. -/
def isD (n : Int) (ms : List Int) : Bool := decide (1 ≤ n ∧ n ≤ 8) && decide (parse (textS n ms).data.toList = some (n, ms))
end Go.Proofs.YtideboicnaaojaaDoor
