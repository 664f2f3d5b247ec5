/- The diagrams of pairs of half diagrams of eight points. -/
import Derived.Test.YtonlbelcpdfjhaaDoorHv
namespace Go.Proofs.YtonlbelcpdfjhaaDoor
set_option maxRecDepth 1000000
theorem okd8_0 : okDs H8p0 H8 = true := by decide +kernel
theorem okd8_1 : okDs H8p1 H8 = true := by decide +kernel
theorem okd8_2 : okDs H8p2 H8 = true := by decide +kernel
end Go.Proofs.YtonlbelcpdfjhaaDoor
