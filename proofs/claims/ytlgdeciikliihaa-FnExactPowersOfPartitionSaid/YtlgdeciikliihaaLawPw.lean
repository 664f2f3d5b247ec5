/- The walks of the laws over partitions. -/
import Derived.Test.YtlgdeciikliihaaPii
namespace Go.Proofs.Ytlgdeciikliihaa
open Go.RowKit
set_option linter.unusedVariables false
theorem isPIb_any (n : Int) (ms : List Int) (hms : ms.length = 8) (hb : Bytes ms) (w : World) :
    Calls Try.prog 30 #[.agg (dcells n ms)] w fun e w' => e = .returned (.bool (isP n ms)) ∧ Below w.heap.size w w' := isPI_any n ms hms w
end Go.Proofs.Ytlgdeciikliihaa
