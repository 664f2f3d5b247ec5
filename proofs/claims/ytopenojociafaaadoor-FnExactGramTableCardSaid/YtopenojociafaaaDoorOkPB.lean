/- The pairings of half diagrams of eight points, one by one. -/
import Derived.Test.YtopenojociafaaaDoorPairM
namespace Go.Proofs.YtopenojociafaaaDoor
set_option maxRecDepth 1000000
theorem okp8_1 : okPs 8 H8p1 H8 = true := by decide +kernel
theorem okp8_2 : okPs 8 H8p2 H8 = true := by decide +kernel
end Go.Proofs.YtopenojociafaaaDoor
