/- Letters as numbers, and as a string. -/
import Derived.Test.YtbpecjfiilkobaaBase
namespace Go.Proofs.Ytbpecjfiilkobaa
open Go.RowKit
/-- Letters as numbers, and as a string. -/
def MI (l : List UInt8) : List Int := l.map (fun c : UInt8 => ((c.toNat : Nat) : Int))
theorem MI_len (l : List UInt8) : (MI l).length = l.length := by simp [MI]
theorem MI_app (a b : List UInt8) : MI (a ++ b) = MI a ++ MI b := by simp [MI]
theorem MI_str (l : List UInt8) : strOfNums (MI l) = ⟨l.toArray⟩ := by
  unfold strOfNums MI
  congr 1
  apply Array.toList_inj.1
  simp [List.map_map, Function.comp_def]
end Go.Proofs.Ytbpecjfiilkobaa
