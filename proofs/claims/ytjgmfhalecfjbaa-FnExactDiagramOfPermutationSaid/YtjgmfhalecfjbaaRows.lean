/-
  No cell of these rows narrows 'for every input' (looked for: loops, veiled, ifaces, maps, wideKeys, modest, calm, conditions, laid).
  DERIVED. THE GIVEN ROWS OF THIS SEAT. 4 by the template 'for every input the law returns true; each argument reads behind the call as it read before'; 0 by the template 'total and deterministic' (their statements: YtjgmfhalecfjbaaTotals.lean).
  GIVEN WITH THE SEED: the statements are not yours to turn. If you find one false, say at which input.
  Laid BY PROGRAM, IN A SANDBOX (cutbox-rows.mjs): the forced cells as the released guide's own fill.sh prints them over the translation 081c37caa15f6a2f… (all of the seat's roots in one cut). By AI agents, Wed Nov 11 2026. No macro, syntax, notation, axiom, sorry.
-/
import Derived.Test.YtjgmfhalecfjbaaChecked
import GoSem.Claim
import GoSem.ClaimJoined
import GoSem.ClaimMapViews
import Derived.JoinedTies
import Derived.KernelRfl
namespace Go.Proofs.Ytjgmfhalecfjbaa
/- THE CELL 'sum', in the pinned program and in every row, IS THE sha256 OF THE DUMP (.gsa) THAT YtjgmfhalecfjbaaProg.lean LOADS. Nothing in Lean hashes anything: it is a label: what it is worth is what the hold of that sum in a sandbox is worth. -/
noncomputable def Try.pinned : Pinned := { name := "ytjgmfhalecfjbaa", sum := "081c37caa15f6a2f66fc11cb9a9608242a2e0e0eaff2043efd3246bdc0ea281e", checked := Try.checked }
namespace Rows
def none {H : Type} : Left H := { results := [], args := [] }

/-- 'laws.FnExactDiagramOfPermutation': WHATEVER THE INPUT: true; the input reads as it did. -/
def fnExactDiagramOfPermutationSpec : ChangeSpec := { name := "fnExactDiagramOfPermutation", fn := fun _ => fun
  | [d] => { results := [.lit (.bool true)], args := [d] }
  | _ => none }
def fnExactDiagramOfPermutationRow : OpenClaim := { program := "ytjgmfhalecfjbaa", sum := "081c37caa15f6a2f66fc11cb9a9608242a2e0e0eaff2043efd3246bdc0ea281e", func := "loop.example/g01251/laws.FnExactDiagramOfPermutation", spec := "fnExactDiagramOfPermutation", unfollowed := true, recurses := true, apart := false }
def FnExactDiagramOfPermutationSaid : Prop := fnExactDiagramOfPermutationRow.holds Try.pinned (OpenSpec.ofChange fnExactDiagramOfPermutationSpec)

/-- ITS FALSE NEIGHBOUR: 'it returns false'. Refute it at one input. -/
def fnExactDiagramOfPermutationWrong : ChangeSpec := { name := "fnExactDiagramOfPermutation", fn := fun _ => fun
  | [d] => { results := [.lit (.bool false)], args := [d] }
  | _ => none }
def FnExactDiagramOfPermutationWrongFalsely : Prop := fnExactDiagramOfPermutationRow.holds Try.pinned (OpenSpec.ofChange fnExactDiagramOfPermutationWrong)

/-- 'laws.FnExactIsShort': WHATEVER THE INPUT: true; the input reads as it did. -/
def fnExactIsShortSpec : ChangeSpec := { name := "fnExactIsShort", fn := fun _ => fun
  | [d] => { results := [.lit (.bool true)], args := [d] }
  | _ => none }
def fnExactIsShortRow : OpenClaim := { program := "ytjgmfhalecfjbaa", sum := "081c37caa15f6a2f66fc11cb9a9608242a2e0e0eaff2043efd3246bdc0ea281e", func := "loop.example/g01251/laws.FnExactIsShort", spec := "fnExactIsShort", unfollowed := true, recurses := true, apart := false }
def FnExactIsShortSaid : Prop := fnExactIsShortRow.holds Try.pinned (OpenSpec.ofChange fnExactIsShortSpec)

/-- ITS FALSE NEIGHBOUR: 'it returns false'. Refute it at one input. -/
def fnExactIsShortWrong : ChangeSpec := { name := "fnExactIsShort", fn := fun _ => fun
  | [d] => { results := [.lit (.bool false)], args := [d] }
  | _ => none }
def FnExactIsShortWrongFalsely : Prop := fnExactIsShortRow.holds Try.pinned (OpenSpec.ofChange fnExactIsShortWrong)

/-- 'laws.FnExactValueOfWord': WHATEVER THE INPUT: true; the input reads as it did. -/
def fnExactValueOfWordSpec : ChangeSpec := { name := "fnExactValueOfWord", fn := fun _ => fun
  | [d1, d2] => { results := [.lit (.bool true)], args := [d1, d2] }
  | _ => none }
def fnExactValueOfWordRow : OpenClaim := { program := "ytjgmfhalecfjbaa", sum := "081c37caa15f6a2f66fc11cb9a9608242a2e0e0eaff2043efd3246bdc0ea281e", func := "loop.example/g01251/laws.FnExactValueOfWord", spec := "fnExactValueOfWord", apart := false }
def FnExactValueOfWordSaid : Prop := fnExactValueOfWordRow.holds Try.pinned (OpenSpec.ofChange fnExactValueOfWordSpec)

/-- ITS FALSE NEIGHBOUR: 'it returns false'. Refute it at one input. -/
def fnExactValueOfWordWrong : ChangeSpec := { name := "fnExactValueOfWord", fn := fun _ => fun
  | [d1, d2] => { results := [.lit (.bool false)], args := [d1, d2] }
  | _ => none }
def FnExactValueOfWordWrongFalsely : Prop := fnExactValueOfWordRow.holds Try.pinned (OpenSpec.ofChange fnExactValueOfWordWrong)

/-- 'laws.FnExactMultiplyDiagrams': WHATEVER THE INPUT: true; the input reads as it did. -/
def fnExactMultiplyDiagramsSpec : ChangeSpec := { name := "fnExactMultiplyDiagrams", fn := fun _ => fun
  | [d1, d2] => { results := [.lit (.bool true)], args := [d1, d2] }
  | _ => none }
def fnExactMultiplyDiagramsRow : OpenClaim := { program := "ytjgmfhalecfjbaa", sum := "081c37caa15f6a2f66fc11cb9a9608242a2e0e0eaff2043efd3246bdc0ea281e", func := "loop.example/g01251/laws.FnExactMultiplyDiagrams", spec := "fnExactMultiplyDiagrams", apart := false }
def FnExactMultiplyDiagramsSaid : Prop := fnExactMultiplyDiagramsRow.holds Try.pinned (OpenSpec.ofChange fnExactMultiplyDiagramsSpec)

/-- ITS FALSE NEIGHBOUR: 'it returns false'. Refute it at one input. -/
def fnExactMultiplyDiagramsWrong : ChangeSpec := { name := "fnExactMultiplyDiagrams", fn := fun _ => fun
  | [d1, d2] => { results := [.lit (.bool false)], args := [d1, d2] }
  | _ => none }
def FnExactMultiplyDiagramsWrongFalsely : Prop := fnExactMultiplyDiagramsRow.holds Try.pinned (OpenSpec.ofChange fnExactMultiplyDiagramsWrong)

/- THE SECOND FORM. 'bulk': how many values and letters a reading holds, each counted each time it is reached (what is shared counts as often as it is met; a slice's spare places count too). A statement '..UptoSaid' is the law's where the arguments, and the package variables that the reading takes, are together of bulk at most 1048576: NARROWER than '..Said'. Prove '..Said' where nothing that the law and all that it calls make is longer than what came in: it says more and counts as full. Else prove '..UptoSaid'. A law counts once. -/
mutual
def uptoBulk {H : Type} : DataW H → Nat
  | .lit (.string bytes) => bytes.length + 1
  | .lit _ => 1
  | .nil => 1
  | .ptr d => uptoBulk d + 1
  | .slice elems spare => uptoBulkAll elems + uptoBulkAll spare + 1
  | .agg parts => uptoBulkAll parts + 1
  | .iface _ d => uptoBulk d + 1
  | .map entries => uptoBulkEntries entries + 1
  | .held _ => 1
def uptoBulkAll {H : Type} : List (DataW H) → Nat
  | [] => 0
  | d :: r => uptoBulk d + uptoBulkAll r
def uptoBulkEntries {H : Type} : List (Lit × DataW H) → Nat
  | [] => 0
  | x :: r => uptoBulkEntry x + uptoBulkEntries r
def uptoBulkEntry {H : Type} : Lit × DataW H → Nat
  | (.string bytes, d) => bytes.length + uptoBulk d + 1
  | (_, d) => uptoBulk d + 1
 end
def uptoSmall : (H : Type) → List (DataW H) → Bool := fun _ ds => decide (uptoBulkAll ds ≤ 1048576)
def OpenSpec.upto (s : _root_.Go.ChangeSpec) : _root_.Go.OpenSpec := { _root_.Go.OpenSpec.ofChange s with cond := some uptoSmall }

/-- 'laws.FnExactDiagramOfPermutation', WHERE WHAT IT READS IS OF BULK AT MOST 1048576: true; the input reads as it did. -/
def fnExactDiagramOfPermutationUptoRow : OpenClaim := { program := "ytjgmfhalecfjbaa", sum := "081c37caa15f6a2f66fc11cb9a9608242a2e0e0eaff2043efd3246bdc0ea281e", func := "loop.example/g01251/laws.FnExactDiagramOfPermutation", spec := "fnExactDiagramOfPermutation", unfollowed := true, recurses := true, apart := false, narrowed := true }
def FnExactDiagramOfPermutationUptoSaid : Prop := fnExactDiagramOfPermutationUptoRow.holds Try.pinned (OpenSpec.upto fnExactDiagramOfPermutationSpec)

/-- 'laws.FnExactIsShort', WHERE WHAT IT READS IS OF BULK AT MOST 1048576: true; the input reads as it did. -/
def fnExactIsShortUptoRow : OpenClaim := { program := "ytjgmfhalecfjbaa", sum := "081c37caa15f6a2f66fc11cb9a9608242a2e0e0eaff2043efd3246bdc0ea281e", func := "loop.example/g01251/laws.FnExactIsShort", spec := "fnExactIsShort", unfollowed := true, recurses := true, apart := false, narrowed := true }
def FnExactIsShortUptoSaid : Prop := fnExactIsShortUptoRow.holds Try.pinned (OpenSpec.upto fnExactIsShortSpec)

/-- 'laws.FnExactValueOfWord', WHERE WHAT IT READS IS OF BULK AT MOST 1048576: true; the input reads as it did. -/
def fnExactValueOfWordUptoRow : OpenClaim := { program := "ytjgmfhalecfjbaa", sum := "081c37caa15f6a2f66fc11cb9a9608242a2e0e0eaff2043efd3246bdc0ea281e", func := "loop.example/g01251/laws.FnExactValueOfWord", spec := "fnExactValueOfWord", apart := false, narrowed := true }
def FnExactValueOfWordUptoSaid : Prop := fnExactValueOfWordUptoRow.holds Try.pinned (OpenSpec.upto fnExactValueOfWordSpec)

/-- 'laws.FnExactMultiplyDiagrams', WHERE WHAT IT READS IS OF BULK AT MOST 1048576: true; the input reads as it did. -/
def fnExactMultiplyDiagramsUptoRow : OpenClaim := { program := "ytjgmfhalecfjbaa", sum := "081c37caa15f6a2f66fc11cb9a9608242a2e0e0eaff2043efd3246bdc0ea281e", func := "loop.example/g01251/laws.FnExactMultiplyDiagrams", spec := "fnExactMultiplyDiagrams", apart := false, narrowed := true }
def FnExactMultiplyDiagramsUptoSaid : Prop := fnExactMultiplyDiagramsUptoRow.holds Try.pinned (OpenSpec.upto fnExactMultiplyDiagramsSpec)

end Rows
end Go.Proofs.Ytjgmfhalecfjbaa
