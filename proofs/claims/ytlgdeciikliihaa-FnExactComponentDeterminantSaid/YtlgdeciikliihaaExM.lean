/- Plain mathematics: the half diagrams that begin with some letters, in the order of the search. -/
import Derived.Test.YtlgdeciikliihaaMi
namespace Go.Proofs.Ytlgdeciikliihaa
open Go.RowKit
set_option linter.unusedVariables false
set_option linter.unusedSimpArgs false
/-- With r letters behind, in which b brackets are to be closed and o points open. -/
def exH : Nat → Nat → Nat → List UInt8 → List (List UInt8)
  | 0, _, _, pre => [pre]
  | r + 1, b, o, pre => (if b + o < r + 1 then exH r (b + 1) o (pre ++ [40]) else []) ++ (if 0 < b then exH r (b - 1) o (pre ++ [41]) else if o = 0 then [] else exH r 0 (o - 1) (pre ++ [124]))
theorem exH_zero (b o : Nat) (pre : List UInt8) : exH 0 b o pre = [pre] := rfl
theorem exH_step (r b o : Nat) (pre : List UInt8) : exH (r + 1) b o pre = (if b + o < r + 1 then exH r (b + 1) o (pre ++ [40]) else []) ++ (if 0 < b then exH r (b - 1) o (pre ++ [41]) else if o = 0 then [] else exH r 0 (o - 1) (pre ++ [124])) := rfl
/-- All half diagrams of n points with o open ones. -/
def allH (n o : Nat) : List (List UInt8) := exH n 0 o []
end Go.Proofs.Ytlgdeciikliihaa
