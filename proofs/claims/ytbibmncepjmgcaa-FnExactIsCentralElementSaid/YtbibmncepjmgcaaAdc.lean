/- AddElements: both sides. (Written by genadc.py.) -/
import Derived.Test.YtbibmncepjmgcaaTld
import Derived.Test.YtbibmncepjmgcaaAdp
import Derived.Test.YtbibmncepjmgcaaScl
namespace Go.Proofs.Ytbibmncepjmgcaa
open Go.RowKit Go.Lib
set_option linter.unusedVariables false
set_option linter.unusedSimpArgs false
theorem MnT.onl {w w' : World} {B g b : Nat} {L : List Tm} (h : MnT w B g L) (hN : Only b w w') (hb : b ≠ g) : MnT w' B g L := by
  obtain ⟨h0, sp, ho⟩ := h
  exact ⟨h0, sp, ho.only hN (fun e => hb e.symm)⟩
end Go.Proofs.Ytbibmncepjmgcaa
