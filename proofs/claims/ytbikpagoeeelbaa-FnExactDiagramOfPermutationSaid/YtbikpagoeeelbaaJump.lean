/- What a walk with jumps leaves as it was; arrays of eight yes-or-nos. -/
import Derived.Test.YtbikpagoeeelbaaProdM
import Derived.Test.YtbikpagoeeelbaaJmp
import Derived.Test.YtbikpagoeeelbaaBl
namespace Go.Proofs.Ytbikpagoeeelbaa
open Go.RowKit
theorem Most.setCell {g : Nat} {w w' : World} (h : Most g w w') (i : Nat) (v : Value) : Most g w (w'.setCell ⟨g, i, none⟩ v) :=
  h.trans (Only.set g i w' v).most
theorem Most.alloc {g : Nat} {w w' : World} (h : Most g w w') (o : Obj) : Most g w (w'.alloc o) :=
  h.trans (most_of_below ((Below.refl _ _).alloc (Nat.le_refl _) _))
end Go.Proofs.Ytbikpagoeeelbaa
