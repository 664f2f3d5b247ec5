/- The pairings of half diagrams of eight points, one by one. -/
import Derived.Test.YtopenojociafaaaDoorPairM
namespace Go.Proofs.YtopenojociafaaaDoor
set_option maxRecDepth 1000000
theorem okp8_3 : okPs 8 H8p3 H8 = true := by decide +kernel
theorem okp8_4 : okPs 8 H8p4 H8 = true := by decide +kernel
end Go.Proofs.YtopenojociafaaaDoor
