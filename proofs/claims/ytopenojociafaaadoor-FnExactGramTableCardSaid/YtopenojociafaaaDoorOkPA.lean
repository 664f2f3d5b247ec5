/- The pairings of half diagrams, one by one. -/
import Derived.Test.YtopenojociafaaaDoorPairM
namespace Go.Proofs.YtopenojociafaaaDoor
set_option maxRecDepth 1000000
theorem okp_1 : okPs 1 H1 H1 = true := by decide +kernel
theorem okp_2 : okPs 2 H2 H2 = true := by decide +kernel
theorem okp_3 : okPs 3 H3 H3 = true := by decide +kernel
theorem okp_4 : okPs 4 H4 H4 = true := by decide +kernel
theorem okp_5 : okPs 5 H5 H5 = true := by decide +kernel
theorem okp_6 : okPs 6 H6 H6 = true := by decide +kernel
theorem okp_7 : okPs 7 H7 H7 = true := by decide +kernel
theorem okp8_0 : okPs 8 H8p0 H8 = true := by decide +kernel
end Go.Proofs.YtopenojociafaaaDoor
