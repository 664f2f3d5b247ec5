/- Rows of yes-or-nos. -/
import Derived.Test.YtbpecjfiilkobaaBase
namespace Go.Proofs.Ytbpecjfiilkobaa
open Go.RowKit
def bcells (mb : List Bool) : Array Value := (mb.map Value.bool).toArray
theorem bcells_get (mb : List Bool) (i : Nat) (h : i < mb.length) : (bcells mb)[i]? = some (.bool (mb.getD i true)) := by simp [bcells, h]
theorem bcells_set (mb : List Bool) (i : Nat) (x : Bool) : (bcells mb).setIfInBounds i (.bool x) = bcells (mb.set i x) := by simp [bcells, List.map_set]
end Go.Proofs.Ytbpecjfiilkobaa
