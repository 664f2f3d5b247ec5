/-
  No cell of these rows narrows 'for every input' (looked for: loops, veiled, ifaces, maps, wideKeys, modest, calm, conditions, laid).
  DERIVED. THE GIVEN ROWS OF THIS SEAT. 7 by the template 'for every input the law returns true; each argument reads behind the call as it read before'; 0 by the template 'total and deterministic' (their statements: YtfhplhnaijhjlaaTotals.lean).
  GIVEN WITH THE SEED: the statements are not yours to turn. If you find one false, say at which input.
  Laid BY PROGRAM, IN A SANDBOX (cutbox-rows.mjs): the forced cells as the released guide's own fill.sh prints them over the translation 76267f57300c6ce0… (all of the seat's roots in one cut). By AI agents, Wed Nov 11 2026. No macro, syntax, notation, axiom, sorry.
-/
import Derived.Test.YtfhplhnaijhjlaaChecked
import GoSem.Claim
import GoSem.ClaimJoined
import GoSem.ClaimMapViews
import Derived.JoinedTies
import Derived.KernelRfl
namespace Go.Proofs.Ytfhplhnaijhjlaa
/- THE CELL 'sum', in the pinned program and in every row, IS THE sha256 OF THE DUMP (.gsa) THAT YtfhplhnaijhjlaaProg.lean LOADS. Nothing in Lean hashes anything: it is a label: what it is worth is what the hold of that sum in a sandbox is worth. -/
noncomputable def Try.pinned : Pinned := { name := "ytfhplhnaijhjlaa", sum := "76267f57300c6ce047787c4772a7cfb4047c60440d4e3f6ad56abd2166b831f4", checked := Try.checked }
namespace Rows
def none {H : Type} : Left H := { results := [], args := [] }

/-- 'laws.FnExactLoopValue': WHATEVER THE INPUT: true; the input reads as it did. -/
def fnExactLoopValueSpec : ChangeSpec := { name := "fnExactLoopValue", fn := fun _ => fun
  | [d1, d2] => { results := [.lit (.bool true)], args := [d1, d2] }
  | _ => none }
def fnExactLoopValueRow : OpenClaim := { program := "ytfhplhnaijhjlaa", sum := "76267f57300c6ce047787c4772a7cfb4047c60440d4e3f6ad56abd2166b831f4", func := "loop.example/g01251/laws.FnExactLoopValue", spec := "fnExactLoopValue", apart := false }
def FnExactLoopValueSaid : Prop := fnExactLoopValueRow.holds Try.pinned (OpenSpec.ofChange fnExactLoopValueSpec)

/-- ITS FALSE NEIGHBOUR: 'it returns false'. Refute it at one input. -/
def fnExactLoopValueWrong : ChangeSpec := { name := "fnExactLoopValue", fn := fun _ => fun
  | [d1, d2] => { results := [.lit (.bool false)], args := [d1, d2] }
  | _ => none }
def FnExactLoopValueWrongFalsely : Prop := fnExactLoopValueRow.holds Try.pinned (OpenSpec.ofChange fnExactLoopValueWrong)

/-- 'laws.FnExactWritheOf': WHATEVER THE INPUT: true; the input reads as it did. -/
def fnExactWritheOfSpec : ChangeSpec := { name := "fnExactWritheOf", fn := fun _ => fun
  | [d1, d2] => { results := [.lit (.bool true)], args := [d1, d2] }
  | _ => none }
def fnExactWritheOfRow : OpenClaim := { program := "ytfhplhnaijhjlaa", sum := "76267f57300c6ce047787c4772a7cfb4047c60440d4e3f6ad56abd2166b831f4", func := "loop.example/g01251/laws.FnExactWritheOf", spec := "fnExactWritheOf", apart := false }
def FnExactWritheOfSaid : Prop := fnExactWritheOfRow.holds Try.pinned (OpenSpec.ofChange fnExactWritheOfSpec)

/-- ITS FALSE NEIGHBOUR: 'it returns false'. Refute it at one input. -/
def fnExactWritheOfWrong : ChangeSpec := { name := "fnExactWritheOf", fn := fun _ => fun
  | [d1, d2] => { results := [.lit (.bool false)], args := [d1, d2] }
  | _ => none }
def FnExactWritheOfWrongFalsely : Prop := fnExactWritheOfRow.holds Try.pinned (OpenSpec.ofChange fnExactWritheOfWrong)

/-- 'laws.FnExactBraidPermutation': WHATEVER THE INPUT: true; the input reads as it did. -/
def fnExactBraidPermutationSpec : ChangeSpec := { name := "fnExactBraidPermutation", fn := fun _ => fun
  | [d1, d2] => { results := [.lit (.bool true)], args := [d1, d2] }
  | _ => none }
def fnExactBraidPermutationRow : OpenClaim := { program := "ytfhplhnaijhjlaa", sum := "76267f57300c6ce047787c4772a7cfb4047c60440d4e3f6ad56abd2166b831f4", func := "loop.example/g01251/laws.FnExactBraidPermutation", spec := "fnExactBraidPermutation", apart := false }
def FnExactBraidPermutationSaid : Prop := fnExactBraidPermutationRow.holds Try.pinned (OpenSpec.ofChange fnExactBraidPermutationSpec)

/-- ITS FALSE NEIGHBOUR: 'it returns false'. Refute it at one input. -/
def fnExactBraidPermutationWrong : ChangeSpec := { name := "fnExactBraidPermutation", fn := fun _ => fun
  | [d1, d2] => { results := [.lit (.bool false)], args := [d1, d2] }
  | _ => none }
def FnExactBraidPermutationWrongFalsely : Prop := fnExactBraidPermutationRow.holds Try.pinned (OpenSpec.ofChange fnExactBraidPermutationWrong)

/-- 'laws.FnExactComponentsOf': WHATEVER THE INPUT: true; the input reads as it did. -/
def fnExactComponentsOfSpec : ChangeSpec := { name := "fnExactComponentsOf", fn := fun _ => fun
  | [d1, d2] => { results := [.lit (.bool true)], args := [d1, d2] }
  | _ => none }
def fnExactComponentsOfRow : OpenClaim := { program := "ytfhplhnaijhjlaa", sum := "76267f57300c6ce047787c4772a7cfb4047c60440d4e3f6ad56abd2166b831f4", func := "loop.example/g01251/laws.FnExactComponentsOf", spec := "fnExactComponentsOf", apart := false }
def FnExactComponentsOfSaid : Prop := fnExactComponentsOfRow.holds Try.pinned (OpenSpec.ofChange fnExactComponentsOfSpec)

/-- ITS FALSE NEIGHBOUR: 'it returns false'. Refute it at one input. -/
def fnExactComponentsOfWrong : ChangeSpec := { name := "fnExactComponentsOf", fn := fun _ => fun
  | [d1, d2] => { results := [.lit (.bool false)], args := [d1, d2] }
  | _ => none }
def FnExactComponentsOfWrongFalsely : Prop := fnExactComponentsOfRow.holds Try.pinned (OpenSpec.ofChange fnExactComponentsOfWrong)

/-- 'laws.FnExactMirrorWord': WHATEVER THE INPUT: true; the input reads as it did. -/
def fnExactMirrorWordSpec : ChangeSpec := { name := "fnExactMirrorWord", fn := fun _ => fun
  | [d1, d2] => { results := [.lit (.bool true)], args := [d1, d2] }
  | _ => none }
def fnExactMirrorWordRow : OpenClaim := { program := "ytfhplhnaijhjlaa", sum := "76267f57300c6ce047787c4772a7cfb4047c60440d4e3f6ad56abd2166b831f4", func := "loop.example/g01251/laws.FnExactMirrorWord", spec := "fnExactMirrorWord", apart := false }
def FnExactMirrorWordSaid : Prop := fnExactMirrorWordRow.holds Try.pinned (OpenSpec.ofChange fnExactMirrorWordSpec)

/-- ITS FALSE NEIGHBOUR: 'it returns false'. Refute it at one input. -/
def fnExactMirrorWordWrong : ChangeSpec := { name := "fnExactMirrorWord", fn := fun _ => fun
  | [d1, d2] => { results := [.lit (.bool false)], args := [d1, d2] }
  | _ => none }
def FnExactMirrorWordWrongFalsely : Prop := fnExactMirrorWordRow.holds Try.pinned (OpenSpec.ofChange fnExactMirrorWordWrong)

/-- 'laws.FnExactConjugateWord': WHATEVER THE INPUT: true; the input reads as it did. -/
def fnExactConjugateWordSpec : ChangeSpec := { name := "fnExactConjugateWord", fn := fun _ => fun
  | [d1, d2, d3] => { results := [.lit (.bool true)], args := [d1, d2, d3] }
  | _ => none }
def fnExactConjugateWordRow : OpenClaim := { program := "ytfhplhnaijhjlaa", sum := "76267f57300c6ce047787c4772a7cfb4047c60440d4e3f6ad56abd2166b831f4", func := "loop.example/g01251/laws.FnExactConjugateWord", spec := "fnExactConjugateWord", apart := false }
def FnExactConjugateWordSaid : Prop := fnExactConjugateWordRow.holds Try.pinned (OpenSpec.ofChange fnExactConjugateWordSpec)

/-- ITS FALSE NEIGHBOUR: 'it returns false'. Refute it at one input. -/
def fnExactConjugateWordWrong : ChangeSpec := { name := "fnExactConjugateWord", fn := fun _ => fun
  | [d1, d2, d3] => { results := [.lit (.bool false)], args := [d1, d2, d3] }
  | _ => none }
def FnExactConjugateWordWrongFalsely : Prop := fnExactConjugateWordRow.holds Try.pinned (OpenSpec.ofChange fnExactConjugateWordWrong)

/-- 'laws.FnExactStabilizeWord': WHATEVER THE INPUT: true; the input reads as it did. -/
def fnExactStabilizeWordSpec : ChangeSpec := { name := "fnExactStabilizeWord", fn := fun _ => fun
  | [d1, d2, d3] => { results := [.lit (.bool true)], args := [d1, d2, d3] }
  | _ => none }
def fnExactStabilizeWordRow : OpenClaim := { program := "ytfhplhnaijhjlaa", sum := "76267f57300c6ce047787c4772a7cfb4047c60440d4e3f6ad56abd2166b831f4", func := "loop.example/g01251/laws.FnExactStabilizeWord", spec := "fnExactStabilizeWord", apart := false }
def FnExactStabilizeWordSaid : Prop := fnExactStabilizeWordRow.holds Try.pinned (OpenSpec.ofChange fnExactStabilizeWordSpec)

/-- ITS FALSE NEIGHBOUR: 'it returns false'. Refute it at one input. -/
def fnExactStabilizeWordWrong : ChangeSpec := { name := "fnExactStabilizeWord", fn := fun _ => fun
  | [d1, d2, d3] => { results := [.lit (.bool false)], args := [d1, d2, d3] }
  | _ => none }
def FnExactStabilizeWordWrongFalsely : Prop := fnExactStabilizeWordRow.holds Try.pinned (OpenSpec.ofChange fnExactStabilizeWordWrong)

/- THE SECOND FORM. 'bulk': how many values and letters a reading holds, each counted each time it is reached (what is shared counts as often as it is met; a slice's spare places count too). A statement '..UptoSaid' is the law's where the arguments, and the package variables that the reading takes, are together of bulk at most 1048576: NARROWER than '..Said'. Prove '..Said' where nothing that the law and all that it calls make is longer than what came in: it says more and counts as full. Else prove '..UptoSaid'. A law counts once. -/
mutual
def uptoBulk {H : Type} : DataW H → Nat
  | .lit (.string bytes) => bytes.length + 1
  | .lit _ => 1
  | .nil => 1
  | .ptr d => uptoBulk d + 1
  | .slice elems spare => uptoBulkAll elems + uptoBulkAll spare + 1
  | .agg parts => uptoBulkAll parts + 1
  | .iface _ d => uptoBulk d + 1
  | .map entries => uptoBulkEntries entries + 1
  | .held _ => 1
def uptoBulkAll {H : Type} : List (DataW H) → Nat
  | [] => 0
  | d :: r => uptoBulk d + uptoBulkAll r
def uptoBulkEntries {H : Type} : List (Lit × DataW H) → Nat
  | [] => 0
  | x :: r => uptoBulkEntry x + uptoBulkEntries r
def uptoBulkEntry {H : Type} : Lit × DataW H → Nat
  | (.string bytes, d) => bytes.length + uptoBulk d + 1
  | (_, d) => uptoBulk d + 1
 end
def uptoSmall : (H : Type) → List (DataW H) → Bool := fun _ ds => decide (uptoBulkAll ds ≤ 1048576)
def OpenSpec.upto (s : _root_.Go.ChangeSpec) : _root_.Go.OpenSpec := { _root_.Go.OpenSpec.ofChange s with cond := some uptoSmall }

/-- 'laws.FnExactLoopValue', WHERE WHAT IT READS IS OF BULK AT MOST 1048576: true; the input reads as it did. -/
def fnExactLoopValueUptoRow : OpenClaim := { program := "ytfhplhnaijhjlaa", sum := "76267f57300c6ce047787c4772a7cfb4047c60440d4e3f6ad56abd2166b831f4", func := "loop.example/g01251/laws.FnExactLoopValue", spec := "fnExactLoopValue", apart := false, narrowed := true }
def FnExactLoopValueUptoSaid : Prop := fnExactLoopValueUptoRow.holds Try.pinned (OpenSpec.upto fnExactLoopValueSpec)

/-- 'laws.FnExactWritheOf', WHERE WHAT IT READS IS OF BULK AT MOST 1048576: true; the input reads as it did. -/
def fnExactWritheOfUptoRow : OpenClaim := { program := "ytfhplhnaijhjlaa", sum := "76267f57300c6ce047787c4772a7cfb4047c60440d4e3f6ad56abd2166b831f4", func := "loop.example/g01251/laws.FnExactWritheOf", spec := "fnExactWritheOf", apart := false, narrowed := true }
def FnExactWritheOfUptoSaid : Prop := fnExactWritheOfUptoRow.holds Try.pinned (OpenSpec.upto fnExactWritheOfSpec)

/-- 'laws.FnExactBraidPermutation', WHERE WHAT IT READS IS OF BULK AT MOST 1048576: true; the input reads as it did. -/
def fnExactBraidPermutationUptoRow : OpenClaim := { program := "ytfhplhnaijhjlaa", sum := "76267f57300c6ce047787c4772a7cfb4047c60440d4e3f6ad56abd2166b831f4", func := "loop.example/g01251/laws.FnExactBraidPermutation", spec := "fnExactBraidPermutation", apart := false, narrowed := true }
def FnExactBraidPermutationUptoSaid : Prop := fnExactBraidPermutationUptoRow.holds Try.pinned (OpenSpec.upto fnExactBraidPermutationSpec)

/-- 'laws.FnExactComponentsOf', WHERE WHAT IT READS IS OF BULK AT MOST 1048576: true; the input reads as it did. -/
def fnExactComponentsOfUptoRow : OpenClaim := { program := "ytfhplhnaijhjlaa", sum := "76267f57300c6ce047787c4772a7cfb4047c60440d4e3f6ad56abd2166b831f4", func := "loop.example/g01251/laws.FnExactComponentsOf", spec := "fnExactComponentsOf", apart := false, narrowed := true }
def FnExactComponentsOfUptoSaid : Prop := fnExactComponentsOfUptoRow.holds Try.pinned (OpenSpec.upto fnExactComponentsOfSpec)

/-- 'laws.FnExactMirrorWord', WHERE WHAT IT READS IS OF BULK AT MOST 1048576: true; the input reads as it did. -/
def fnExactMirrorWordUptoRow : OpenClaim := { program := "ytfhplhnaijhjlaa", sum := "76267f57300c6ce047787c4772a7cfb4047c60440d4e3f6ad56abd2166b831f4", func := "loop.example/g01251/laws.FnExactMirrorWord", spec := "fnExactMirrorWord", apart := false, narrowed := true }
def FnExactMirrorWordUptoSaid : Prop := fnExactMirrorWordUptoRow.holds Try.pinned (OpenSpec.upto fnExactMirrorWordSpec)

/-- 'laws.FnExactConjugateWord', WHERE WHAT IT READS IS OF BULK AT MOST 1048576: true; the input reads as it did. -/
def fnExactConjugateWordUptoRow : OpenClaim := { program := "ytfhplhnaijhjlaa", sum := "76267f57300c6ce047787c4772a7cfb4047c60440d4e3f6ad56abd2166b831f4", func := "loop.example/g01251/laws.FnExactConjugateWord", spec := "fnExactConjugateWord", apart := false, narrowed := true }
def FnExactConjugateWordUptoSaid : Prop := fnExactConjugateWordUptoRow.holds Try.pinned (OpenSpec.upto fnExactConjugateWordSpec)

/-- 'laws.FnExactStabilizeWord', WHERE WHAT IT READS IS OF BULK AT MOST 1048576: true; the input reads as it did. -/
def fnExactStabilizeWordUptoRow : OpenClaim := { program := "ytfhplhnaijhjlaa", sum := "76267f57300c6ce047787c4772a7cfb4047c60440d4e3f6ad56abd2166b831f4", func := "loop.example/g01251/laws.FnExactStabilizeWord", spec := "fnExactStabilizeWord", apart := false, narrowed := true }
def FnExactStabilizeWordUptoSaid : Prop := fnExactStabilizeWordUptoRow.holds Try.pinned (OpenSpec.upto fnExactStabilizeWordSpec)

end Rows
end Go.Proofs.Ytfhplhnaijhjlaa
