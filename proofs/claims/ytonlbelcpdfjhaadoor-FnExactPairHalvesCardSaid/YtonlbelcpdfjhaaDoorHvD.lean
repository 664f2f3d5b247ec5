/- The diagrams of pairs of half diagrams of eight points. -/
import Derived.Test.YtonlbelcpdfjhaaDoorHv
namespace Go.Proofs.YtonlbelcpdfjhaaDoor
set_option maxRecDepth 1000000
theorem okd8_3 : okDs H8p3 H8 = true := by decide +kernel
theorem okd8_4 : okDs H8p4 H8 = true := by decide +kernel
end Go.Proofs.YtonlbelcpdfjhaaDoor
