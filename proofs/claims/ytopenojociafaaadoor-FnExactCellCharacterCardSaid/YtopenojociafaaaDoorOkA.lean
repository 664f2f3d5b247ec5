/- The texts of up to seven letters, one by one. -/
import Derived.Test.YtopenojociafaaaDoorTexts
namespace Go.Proofs.YtopenojociafaaaDoor
set_option maxRecDepth 1000000
theorem ok_1 : ((texts 1).all okE) = true := by decide +kernel
theorem ok_2 : ((texts 2).all okE) = true := by decide +kernel
theorem ok_3 : ((texts 3).all okE) = true := by decide +kernel
theorem ok_4 : ((texts 4).all okE) = true := by decide +kernel
theorem ok_5 : ((texts 5).all okE) = true := by decide +kernel
theorem ok_6 : ((texts 6).all okE) = true := by decide +kernel
theorem ok7_40 : ((texts 6).all fun t => okE (40 :: t)) = true := by decide +kernel
theorem ok7_41 : ((texts 6).all fun t => okE (41 :: t)) = true := by decide +kernel
theorem ok7_124 : ((texts 6).all fun t => okE (124 :: t)) = true := by decide +kernel
end Go.Proofs.YtopenojociafaaaDoor
