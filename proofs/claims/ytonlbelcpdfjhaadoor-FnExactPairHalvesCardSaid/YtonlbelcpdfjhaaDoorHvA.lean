/- The half diagrams of up to seven points, and the diagrams of their pairs. -/
import Derived.Test.YtonlbelcpdfjhaaDoorHv
namespace Go.Proofs.YtonlbelcpdfjhaaDoor
set_option maxRecDepth 1000000
theorem in_1 : ((texts 1).all (inL H1)) = true := by decide +kernel
theorem in_2 : ((texts 2).all (inL H2)) = true := by decide +kernel
theorem in_3 : ((texts 3).all (inL H3)) = true := by decide +kernel
theorem in_4 : ((texts 4).all (inL H4)) = true := by decide +kernel
theorem in_5 : ((texts 5).all (inL H5)) = true := by decide +kernel
theorem in_6 : ((texts 6).all (inL H6)) = true := by decide +kernel
theorem in_7 : ((texts 7).all (inL H7)) = true := by decide +kernel
theorem okd_1 : okDs H1 H1 = true := by decide +kernel
theorem okd_2 : okDs H2 H2 = true := by decide +kernel
theorem okd_3 : okDs H3 H3 = true := by decide +kernel
theorem okd_4 : okDs H4 H4 = true := by decide +kernel
theorem okd_5 : okDs H5 H5 = true := by decide +kernel
theorem okd_6 : okDs H6 H6 = true := by decide +kernel
theorem okd_7 : okDs H7 H7 = true := by decide +kernel
end Go.Proofs.YtonlbelcpdfjhaaDoor
