/- A region's frame, its slots that do not matter made variables. -/
import Derived.Test.YtbibmncepjmgcaaKc
namespace Go.Proofs.Ytbibmncepjmgcaa
open Go.RowKit Go.Lib
theorem gen_fr {P : Program} {c : Code} {Q : Exit → Act → World → Prop} {a : Act} {w : World} (fr : (Nat → Value) → Act) (h : ∀ x, c.wp P Q (fr x) w) (e : fr (sl a) = a) : c.wp P Q a w := e ▸ h _
end Go.Proofs.Ytbibmncepjmgcaa
