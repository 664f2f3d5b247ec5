/- The texts of eight letters, one by one. -/
import Derived.Test.YtopenojociafaaaDoorTexts
namespace Go.Proofs.YtopenojociafaaaDoor
set_option maxRecDepth 1000000
theorem ok8_41_40 : ((texts 6).all fun t => okE (41 :: 40 :: t)) = true := by decide +kernel
theorem ok8_41_41 : ((texts 6).all fun t => okE (41 :: 41 :: t)) = true := by decide +kernel
theorem ok8_41_124 : ((texts 6).all fun t => okE (41 :: 124 :: t)) = true := by decide +kernel
end Go.Proofs.YtopenojociafaaaDoor
