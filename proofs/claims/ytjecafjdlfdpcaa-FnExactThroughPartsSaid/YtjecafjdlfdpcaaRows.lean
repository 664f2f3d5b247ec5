/-
  No cell of these rows narrows 'for every input' (looked for: loops, veiled, ifaces, maps, wideKeys, modest, calm, conditions, laid).
  DERIVED. THE GIVEN ROWS OF THIS SEAT. 10 by the template 'for every input the law returns true; each argument reads behind the call as it read before'; 0 by the template 'total and deterministic' (their statements: YtjecafjdlfdpcaaTotals.lean).
  GIVEN WITH THE SEED: the statements are not yours to turn. If you find one false, say at which input.
  Laid BY PROGRAM, IN A SANDBOX (cutbox-rows.mjs): the forced cells as the released guide's own fill.sh prints them over the translation 3645aff6a2043ad1… (all of the seat's roots in one cut). By AI agents, Wed Nov 11 2026. No macro, syntax, notation, axiom, sorry.
-/
import Derived.Test.YtjecafjdlfdpcaaChecked
import GoSem.Claim
import GoSem.ClaimJoined
import GoSem.ClaimMapViews
import Derived.JoinedTies
import Derived.KernelRfl
namespace Go.Proofs.Ytjecafjdlfdpcaa
/- THE CELL 'sum', in the pinned program and in every row, IS THE sha256 OF THE DUMP (.gsa) THAT YtjecafjdlfdpcaaProg.lean LOADS. Nothing in Lean hashes anything: it is a label: what it is worth is what the hold of that sum in a sandbox is worth. -/
noncomputable def Try.pinned : Pinned := { name := "ytjecafjdlfdpcaa", sum := "3645aff6a2043ad1564a4188275c26f8de2a42eb51f1ed630e0d1fbdc74378f3", checked := Try.checked }
namespace Rows
def none {H : Type} : Left H := { results := [], args := [] }

/-- 'laws.FnExactIsPartition': WHATEVER THE INPUT: true; the input reads as it did. -/
def fnExactIsPartitionSpec : ChangeSpec := { name := "fnExactIsPartition", fn := fun _ => fun
  | [d] => { results := [.lit (.bool true)], args := [d] }
  | _ => none }
def fnExactIsPartitionRow : OpenClaim := { program := "ytjecafjdlfdpcaa", sum := "3645aff6a2043ad1564a4188275c26f8de2a42eb51f1ed630e0d1fbdc74378f3", func := "loop.example/g01251/laws.FnExactIsPartition", spec := "fnExactIsPartition", apart := false }
def FnExactIsPartitionSaid : Prop := fnExactIsPartitionRow.holds Try.pinned (OpenSpec.ofChange fnExactIsPartitionSpec)

/-- ITS FALSE NEIGHBOUR: 'it returns false'. Refute it at one input. -/
def fnExactIsPartitionWrong : ChangeSpec := { name := "fnExactIsPartition", fn := fun _ => fun
  | [d] => { results := [.lit (.bool false)], args := [d] }
  | _ => none }
def FnExactIsPartitionWrongFalsely : Prop := fnExactIsPartitionRow.holds Try.pinned (OpenSpec.ofChange fnExactIsPartitionWrong)

/-- 'laws.FnExactPartitionText': WHATEVER THE INPUT: true; the input reads as it did. -/
def fnExactPartitionTextSpec : ChangeSpec := { name := "fnExactPartitionText", fn := fun _ => fun
  | [d] => { results := [.lit (.bool true)], args := [d] }
  | _ => none }
def fnExactPartitionTextRow : OpenClaim := { program := "ytjecafjdlfdpcaa", sum := "3645aff6a2043ad1564a4188275c26f8de2a42eb51f1ed630e0d1fbdc74378f3", func := "loop.example/g01251/laws.FnExactPartitionText", spec := "fnExactPartitionText", recurses := true, apart := false }
def FnExactPartitionTextSaid : Prop := fnExactPartitionTextRow.holds Try.pinned (OpenSpec.ofChange fnExactPartitionTextSpec)

/-- ITS FALSE NEIGHBOUR: 'it returns false'. Refute it at one input. -/
def fnExactPartitionTextWrong : ChangeSpec := { name := "fnExactPartitionText", fn := fun _ => fun
  | [d] => { results := [.lit (.bool false)], args := [d] }
  | _ => none }
def FnExactPartitionTextWrongFalsely : Prop := fnExactPartitionTextRow.holds Try.pinned (OpenSpec.ofChange fnExactPartitionTextWrong)

/-- 'laws.FnExactParsePartition': WHATEVER THE INPUT: true; the input reads as it did. -/
def fnExactParsePartitionSpec : ChangeSpec := { name := "fnExactParsePartition", fn := fun _ => fun
  | [d] => { results := [.lit (.bool true)], args := [d] }
  | _ => none }
def fnExactParsePartitionRow : OpenClaim := { program := "ytjecafjdlfdpcaa", sum := "3645aff6a2043ad1564a4188275c26f8de2a42eb51f1ed630e0d1fbdc74378f3", func := "loop.example/g01251/laws.FnExactParsePartition", spec := "fnExactParsePartition", apart := false }
def FnExactParsePartitionSaid : Prop := fnExactParsePartitionRow.holds Try.pinned (OpenSpec.ofChange fnExactParsePartitionSpec)

/-- ITS FALSE NEIGHBOUR: 'it returns false'. Refute it at one input. -/
def fnExactParsePartitionWrong : ChangeSpec := { name := "fnExactParsePartition", fn := fun _ => fun
  | [d] => { results := [.lit (.bool false)], args := [d] }
  | _ => none }
def FnExactParsePartitionWrongFalsely : Prop := fnExactParsePartitionRow.holds Try.pinned (OpenSpec.ofChange fnExactParsePartitionWrong)

/-- 'laws.FnExactUnitPartition': WHATEVER THE INPUT: true; the input reads as it did. -/
def fnExactUnitPartitionSpec : ChangeSpec := { name := "fnExactUnitPartition", fn := fun _ => fun
  | [d] => { results := [.lit (.bool true)], args := [d] }
  | _ => none }
def fnExactUnitPartitionRow : OpenClaim := { program := "ytjecafjdlfdpcaa", sum := "3645aff6a2043ad1564a4188275c26f8de2a42eb51f1ed630e0d1fbdc74378f3", func := "loop.example/g01251/laws.FnExactUnitPartition", spec := "fnExactUnitPartition", apart := false }
def FnExactUnitPartitionSaid : Prop := fnExactUnitPartitionRow.holds Try.pinned (OpenSpec.ofChange fnExactUnitPartitionSpec)

/-- ITS FALSE NEIGHBOUR: 'it returns false'. Refute it at one input. -/
def fnExactUnitPartitionWrong : ChangeSpec := { name := "fnExactUnitPartition", fn := fun _ => fun
  | [d] => { results := [.lit (.bool false)], args := [d] }
  | _ => none }
def FnExactUnitPartitionWrongFalsely : Prop := fnExactUnitPartitionRow.holds Try.pinned (OpenSpec.ofChange fnExactUnitPartitionWrong)

/-- 'laws.FnExactFlipPartition': WHATEVER THE INPUT: true; the input reads as it did. -/
def fnExactFlipPartitionSpec : ChangeSpec := { name := "fnExactFlipPartition", fn := fun _ => fun
  | [d] => { results := [.lit (.bool true)], args := [d] }
  | _ => none }
def fnExactFlipPartitionRow : OpenClaim := { program := "ytjecafjdlfdpcaa", sum := "3645aff6a2043ad1564a4188275c26f8de2a42eb51f1ed630e0d1fbdc74378f3", func := "loop.example/g01251/laws.FnExactFlipPartition", spec := "fnExactFlipPartition", apart := false }
def FnExactFlipPartitionSaid : Prop := fnExactFlipPartitionRow.holds Try.pinned (OpenSpec.ofChange fnExactFlipPartitionSpec)

/-- ITS FALSE NEIGHBOUR: 'it returns false'. Refute it at one input. -/
def fnExactFlipPartitionWrong : ChangeSpec := { name := "fnExactFlipPartition", fn := fun _ => fun
  | [d] => { results := [.lit (.bool false)], args := [d] }
  | _ => none }
def FnExactFlipPartitionWrongFalsely : Prop := fnExactFlipPartitionRow.holds Try.pinned (OpenSpec.ofChange fnExactFlipPartitionWrong)

/-- 'laws.FnExactUnionPartition': WHATEVER THE INPUT: true; the input reads as it did. -/
def fnExactUnionPartitionSpec : ChangeSpec := { name := "fnExactUnionPartition", fn := fun _ => fun
  | [d1, d2] => { results := [.lit (.bool true)], args := [d1, d2] }
  | _ => none }
def fnExactUnionPartitionRow : OpenClaim := { program := "ytjecafjdlfdpcaa", sum := "3645aff6a2043ad1564a4188275c26f8de2a42eb51f1ed630e0d1fbdc74378f3", func := "loop.example/g01251/laws.FnExactUnionPartition", spec := "fnExactUnionPartition", apart := false }
def FnExactUnionPartitionSaid : Prop := fnExactUnionPartitionRow.holds Try.pinned (OpenSpec.ofChange fnExactUnionPartitionSpec)

/-- ITS FALSE NEIGHBOUR: 'it returns false'. Refute it at one input. -/
def fnExactUnionPartitionWrong : ChangeSpec := { name := "fnExactUnionPartition", fn := fun _ => fun
  | [d1, d2] => { results := [.lit (.bool false)], args := [d1, d2] }
  | _ => none }
def FnExactUnionPartitionWrongFalsely : Prop := fnExactUnionPartitionRow.holds Try.pinned (OpenSpec.ofChange fnExactUnionPartitionWrong)

/-- 'laws.FnExactThroughParts': WHATEVER THE INPUT: true; the input reads as it did. -/
def fnExactThroughPartsSpec : ChangeSpec := { name := "fnExactThroughParts", fn := fun _ => fun
  | [d] => { results := [.lit (.bool true)], args := [d] }
  | _ => none }
def fnExactThroughPartsRow : OpenClaim := { program := "ytjecafjdlfdpcaa", sum := "3645aff6a2043ad1564a4188275c26f8de2a42eb51f1ed630e0d1fbdc74378f3", func := "loop.example/g01251/laws.FnExactThroughParts", spec := "fnExactThroughParts", apart := false }
def FnExactThroughPartsSaid : Prop := fnExactThroughPartsRow.holds Try.pinned (OpenSpec.ofChange fnExactThroughPartsSpec)

/-- ITS FALSE NEIGHBOUR: 'it returns false'. Refute it at one input. -/
def fnExactThroughPartsWrong : ChangeSpec := { name := "fnExactThroughParts", fn := fun _ => fun
  | [d] => { results := [.lit (.bool false)], args := [d] }
  | _ => none }
def FnExactThroughPartsWrongFalsely : Prop := fnExactThroughPartsRow.holds Try.pinned (OpenSpec.ofChange fnExactThroughPartsWrong)

/-- 'laws.FnExactPartitionOfDiagram': WHATEVER THE INPUT: true; the input reads as it did. -/
def fnExactPartitionOfDiagramSpec : ChangeSpec := { name := "fnExactPartitionOfDiagram", fn := fun _ => fun
  | [d] => { results := [.lit (.bool true)], args := [d] }
  | _ => none }
def fnExactPartitionOfDiagramRow : OpenClaim := { program := "ytjecafjdlfdpcaa", sum := "3645aff6a2043ad1564a4188275c26f8de2a42eb51f1ed630e0d1fbdc74378f3", func := "loop.example/g01251/laws.FnExactPartitionOfDiagram", spec := "fnExactPartitionOfDiagram", apart := false }
def FnExactPartitionOfDiagramSaid : Prop := fnExactPartitionOfDiagramRow.holds Try.pinned (OpenSpec.ofChange fnExactPartitionOfDiagramSpec)

/-- ITS FALSE NEIGHBOUR: 'it returns false'. Refute it at one input. -/
def fnExactPartitionOfDiagramWrong : ChangeSpec := { name := "fnExactPartitionOfDiagram", fn := fun _ => fun
  | [d] => { results := [.lit (.bool false)], args := [d] }
  | _ => none }
def FnExactPartitionOfDiagramWrongFalsely : Prop := fnExactPartitionOfDiagramRow.holds Try.pinned (OpenSpec.ofChange fnExactPartitionOfDiagramWrong)

/-- 'laws.FnExactMultiplyPartitions': WHATEVER THE INPUT: true; the input reads as it did. -/
def fnExactMultiplyPartitionsSpec : ChangeSpec := { name := "fnExactMultiplyPartitions", fn := fun _ => fun
  | [d1, d2] => { results := [.lit (.bool true)], args := [d1, d2] }
  | _ => none }
def fnExactMultiplyPartitionsRow : OpenClaim := { program := "ytjecafjdlfdpcaa", sum := "3645aff6a2043ad1564a4188275c26f8de2a42eb51f1ed630e0d1fbdc74378f3", func := "loop.example/g01251/laws.FnExactMultiplyPartitions", spec := "fnExactMultiplyPartitions", apart := false }
def FnExactMultiplyPartitionsSaid : Prop := fnExactMultiplyPartitionsRow.holds Try.pinned (OpenSpec.ofChange fnExactMultiplyPartitionsSpec)

/-- ITS FALSE NEIGHBOUR: 'it returns false'. Refute it at one input. -/
def fnExactMultiplyPartitionsWrong : ChangeSpec := { name := "fnExactMultiplyPartitions", fn := fun _ => fun
  | [d1, d2] => { results := [.lit (.bool false)], args := [d1, d2] }
  | _ => none }
def FnExactMultiplyPartitionsWrongFalsely : Prop := fnExactMultiplyPartitionsRow.holds Try.pinned (OpenSpec.ofChange fnExactMultiplyPartitionsWrong)

/-- 'laws.FnExactPowersOfPartition': WHATEVER THE INPUT: true; the input reads as it did. -/
def fnExactPowersOfPartitionSpec : ChangeSpec := { name := "fnExactPowersOfPartition", fn := fun _ => fun
  | [d] => { results := [.lit (.bool true)], args := [d] }
  | _ => none }
def fnExactPowersOfPartitionRow : OpenClaim := { program := "ytjecafjdlfdpcaa", sum := "3645aff6a2043ad1564a4188275c26f8de2a42eb51f1ed630e0d1fbdc74378f3", func := "loop.example/g01251/laws.FnExactPowersOfPartition", spec := "fnExactPowersOfPartition", apart := false }
def FnExactPowersOfPartitionSaid : Prop := fnExactPowersOfPartitionRow.holds Try.pinned (OpenSpec.ofChange fnExactPowersOfPartitionSpec)

/-- ITS FALSE NEIGHBOUR: 'it returns false'. Refute it at one input. -/
def fnExactPowersOfPartitionWrong : ChangeSpec := { name := "fnExactPowersOfPartition", fn := fun _ => fun
  | [d] => { results := [.lit (.bool false)], args := [d] }
  | _ => none }
def FnExactPowersOfPartitionWrongFalsely : Prop := fnExactPowersOfPartitionRow.holds Try.pinned (OpenSpec.ofChange fnExactPowersOfPartitionWrong)

/- THE SECOND FORM. 'bulk': how many values and letters a reading holds, each counted each time it is reached (what is shared counts as often as it is met; a slice's spare places count too). A statement '..UptoSaid' is the law's where the arguments, and the package variables that the reading takes, are together of bulk at most 1048576: NARROWER than '..Said'. Prove '..Said' where nothing that the law and all that it calls make is longer than what came in: it says more and counts as full. Else prove '..UptoSaid'. A law counts once. -/
mutual
def uptoBulk {H : Type} : DataW H → Nat
  | .lit (.string bytes) => bytes.length + 1
  | .lit _ => 1
  | .nil => 1
  | .ptr d => uptoBulk d + 1
  | .slice elems spare => uptoBulkAll elems + uptoBulkAll spare + 1
  | .agg parts => uptoBulkAll parts + 1
  | .iface _ d => uptoBulk d + 1
  | .map entries => uptoBulkEntries entries + 1
  | .held _ => 1
def uptoBulkAll {H : Type} : List (DataW H) → Nat
  | [] => 0
  | d :: r => uptoBulk d + uptoBulkAll r
def uptoBulkEntries {H : Type} : List (Lit × DataW H) → Nat
  | [] => 0
  | x :: r => uptoBulkEntry x + uptoBulkEntries r
def uptoBulkEntry {H : Type} : Lit × DataW H → Nat
  | (.string bytes, d) => bytes.length + uptoBulk d + 1
  | (_, d) => uptoBulk d + 1
 end
def uptoSmall : (H : Type) → List (DataW H) → Bool := fun _ ds => decide (uptoBulkAll ds ≤ 1048576)
def OpenSpec.upto (s : _root_.Go.ChangeSpec) : _root_.Go.OpenSpec := { _root_.Go.OpenSpec.ofChange s with cond := some uptoSmall }

/-- 'laws.FnExactIsPartition', WHERE WHAT IT READS IS OF BULK AT MOST 1048576: true; the input reads as it did. -/
def fnExactIsPartitionUptoRow : OpenClaim := { program := "ytjecafjdlfdpcaa", sum := "3645aff6a2043ad1564a4188275c26f8de2a42eb51f1ed630e0d1fbdc74378f3", func := "loop.example/g01251/laws.FnExactIsPartition", spec := "fnExactIsPartition", apart := false, narrowed := true }
def FnExactIsPartitionUptoSaid : Prop := fnExactIsPartitionUptoRow.holds Try.pinned (OpenSpec.upto fnExactIsPartitionSpec)

/-- 'laws.FnExactPartitionText', WHERE WHAT IT READS IS OF BULK AT MOST 1048576: true; the input reads as it did. -/
def fnExactPartitionTextUptoRow : OpenClaim := { program := "ytjecafjdlfdpcaa", sum := "3645aff6a2043ad1564a4188275c26f8de2a42eb51f1ed630e0d1fbdc74378f3", func := "loop.example/g01251/laws.FnExactPartitionText", spec := "fnExactPartitionText", recurses := true, apart := false, narrowed := true }
def FnExactPartitionTextUptoSaid : Prop := fnExactPartitionTextUptoRow.holds Try.pinned (OpenSpec.upto fnExactPartitionTextSpec)

/-- 'laws.FnExactParsePartition', WHERE WHAT IT READS IS OF BULK AT MOST 1048576: true; the input reads as it did. -/
def fnExactParsePartitionUptoRow : OpenClaim := { program := "ytjecafjdlfdpcaa", sum := "3645aff6a2043ad1564a4188275c26f8de2a42eb51f1ed630e0d1fbdc74378f3", func := "loop.example/g01251/laws.FnExactParsePartition", spec := "fnExactParsePartition", apart := false, narrowed := true }
def FnExactParsePartitionUptoSaid : Prop := fnExactParsePartitionUptoRow.holds Try.pinned (OpenSpec.upto fnExactParsePartitionSpec)

/-- 'laws.FnExactUnitPartition', WHERE WHAT IT READS IS OF BULK AT MOST 1048576: true; the input reads as it did. -/
def fnExactUnitPartitionUptoRow : OpenClaim := { program := "ytjecafjdlfdpcaa", sum := "3645aff6a2043ad1564a4188275c26f8de2a42eb51f1ed630e0d1fbdc74378f3", func := "loop.example/g01251/laws.FnExactUnitPartition", spec := "fnExactUnitPartition", apart := false, narrowed := true }
def FnExactUnitPartitionUptoSaid : Prop := fnExactUnitPartitionUptoRow.holds Try.pinned (OpenSpec.upto fnExactUnitPartitionSpec)

/-- 'laws.FnExactFlipPartition', WHERE WHAT IT READS IS OF BULK AT MOST 1048576: true; the input reads as it did. -/
def fnExactFlipPartitionUptoRow : OpenClaim := { program := "ytjecafjdlfdpcaa", sum := "3645aff6a2043ad1564a4188275c26f8de2a42eb51f1ed630e0d1fbdc74378f3", func := "loop.example/g01251/laws.FnExactFlipPartition", spec := "fnExactFlipPartition", apart := false, narrowed := true }
def FnExactFlipPartitionUptoSaid : Prop := fnExactFlipPartitionUptoRow.holds Try.pinned (OpenSpec.upto fnExactFlipPartitionSpec)

/-- 'laws.FnExactUnionPartition', WHERE WHAT IT READS IS OF BULK AT MOST 1048576: true; the input reads as it did. -/
def fnExactUnionPartitionUptoRow : OpenClaim := { program := "ytjecafjdlfdpcaa", sum := "3645aff6a2043ad1564a4188275c26f8de2a42eb51f1ed630e0d1fbdc74378f3", func := "loop.example/g01251/laws.FnExactUnionPartition", spec := "fnExactUnionPartition", apart := false, narrowed := true }
def FnExactUnionPartitionUptoSaid : Prop := fnExactUnionPartitionUptoRow.holds Try.pinned (OpenSpec.upto fnExactUnionPartitionSpec)

/-- 'laws.FnExactThroughParts', WHERE WHAT IT READS IS OF BULK AT MOST 1048576: true; the input reads as it did. -/
def fnExactThroughPartsUptoRow : OpenClaim := { program := "ytjecafjdlfdpcaa", sum := "3645aff6a2043ad1564a4188275c26f8de2a42eb51f1ed630e0d1fbdc74378f3", func := "loop.example/g01251/laws.FnExactThroughParts", spec := "fnExactThroughParts", apart := false, narrowed := true }
def FnExactThroughPartsUptoSaid : Prop := fnExactThroughPartsUptoRow.holds Try.pinned (OpenSpec.upto fnExactThroughPartsSpec)

/-- 'laws.FnExactPartitionOfDiagram', WHERE WHAT IT READS IS OF BULK AT MOST 1048576: true; the input reads as it did. -/
def fnExactPartitionOfDiagramUptoRow : OpenClaim := { program := "ytjecafjdlfdpcaa", sum := "3645aff6a2043ad1564a4188275c26f8de2a42eb51f1ed630e0d1fbdc74378f3", func := "loop.example/g01251/laws.FnExactPartitionOfDiagram", spec := "fnExactPartitionOfDiagram", apart := false, narrowed := true }
def FnExactPartitionOfDiagramUptoSaid : Prop := fnExactPartitionOfDiagramUptoRow.holds Try.pinned (OpenSpec.upto fnExactPartitionOfDiagramSpec)

/-- 'laws.FnExactMultiplyPartitions', WHERE WHAT IT READS IS OF BULK AT MOST 1048576: true; the input reads as it did. -/
def fnExactMultiplyPartitionsUptoRow : OpenClaim := { program := "ytjecafjdlfdpcaa", sum := "3645aff6a2043ad1564a4188275c26f8de2a42eb51f1ed630e0d1fbdc74378f3", func := "loop.example/g01251/laws.FnExactMultiplyPartitions", spec := "fnExactMultiplyPartitions", apart := false, narrowed := true }
def FnExactMultiplyPartitionsUptoSaid : Prop := fnExactMultiplyPartitionsUptoRow.holds Try.pinned (OpenSpec.upto fnExactMultiplyPartitionsSpec)

/-- 'laws.FnExactPowersOfPartition', WHERE WHAT IT READS IS OF BULK AT MOST 1048576: true; the input reads as it did. -/
def fnExactPowersOfPartitionUptoRow : OpenClaim := { program := "ytjecafjdlfdpcaa", sum := "3645aff6a2043ad1564a4188275c26f8de2a42eb51f1ed630e0d1fbdc74378f3", func := "loop.example/g01251/laws.FnExactPowersOfPartition", spec := "fnExactPowersOfPartition", apart := false, narrowed := true }
def FnExactPowersOfPartitionUptoSaid : Prop := fnExactPowersOfPartitionUptoRow.holds Try.pinned (OpenSpec.upto fnExactPowersOfPartitionSpec)

end Rows
end Go.Proofs.Ytjecafjdlfdpcaa
