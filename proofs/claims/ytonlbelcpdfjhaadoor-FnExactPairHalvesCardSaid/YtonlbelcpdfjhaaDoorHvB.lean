/- The half diagrams of eight points. -/
import Derived.Test.YtonlbelcpdfjhaaDoorHv
namespace Go.Proofs.YtonlbelcpdfjhaaDoor
set_option maxRecDepth 1000000
theorem in8_40 : ((texts 7).all fun t => inL H8 (40 :: t)) = true := by decide +kernel
theorem in8_41 : ((texts 7).all fun t => inL H8 (41 :: t)) = true := by decide +kernel
theorem in8_124 : ((texts 7).all fun t => inL H8 (124 :: t)) = true := by decide +kernel
end Go.Proofs.YtonlbelcpdfjhaaDoor
