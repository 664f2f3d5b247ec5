/- Plain mathematics: all texts of n letters, and the half diagrams among them. -/
import Derived.Test.YthofkmndgedkgaaArcM
import Derived.Test.YthofkmndgedkgaaExM
namespace Go.Proofs.Ythofkmndgedkgaa
open Go.RowKit
set_option linter.unusedVariables false
def tx3 : Nat → List (List UInt8)
  | 0 => [[]]
  | n + 1 => (tx3 n).flatMap (fun t => [t ++ [40], t ++ [41], t ++ [124]])
def okH (k : Nat) (t : List UInt8) : Bool := (arcO t).isSome && (t.count 124 == k)
set_option maxRecDepth 1000000 in
set_option maxHeartbeats 0 in
theorem tx3_all (n k : Nat) (h1 : 1 ≤ n) (h8 : n ≤ 8) (hk : k ≤ n) (he : (n - k) % 2 = 0) : (tx3 n).filter (okH k) = allH n k := by
  have h : n = 1 ∨ n = 2 ∨ n = 3 ∨ n = 4 ∨ n = 5 ∨ n = 6 ∨ n = 7 ∨ n = 8 := by omega
  have h2 : k = 0 ∨ k = 1 ∨ k = 2 ∨ k = 3 ∨ k = 4 ∨ k = 5 ∨ k = 6 ∨ k = 7 ∨ k = 8 := by omega
  rcases h with rfl | rfl | rfl | rfl | rfl | rfl | rfl | rfl <;> rcases h2 with rfl | rfl | rfl | rfl | rfl | rfl | rfl | rfl | rfl <;> first | omega | decide +kernel
end Go.Proofs.Ythofkmndgedkgaa
