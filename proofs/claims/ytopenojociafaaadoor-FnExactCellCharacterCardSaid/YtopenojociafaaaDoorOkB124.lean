/- The texts of eight letters, one by one. -/
import Derived.Test.YtopenojociafaaaDoorTexts
namespace Go.Proofs.YtopenojociafaaaDoor
set_option maxRecDepth 1000000
theorem ok8_124_40 : ((texts 6).all fun t => okE (124 :: 40 :: t)) = true := by decide +kernel
theorem ok8_124_41 : ((texts 6).all fun t => okE (124 :: 41 :: t)) = true := by decide +kernel
theorem ok8_124_124 : ((texts 6).all fun t => okE (124 :: 124 :: t)) = true := by decide +kernel
end Go.Proofs.YtopenojociafaaaDoor
