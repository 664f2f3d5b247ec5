/-
  No cell of these rows narrows 'for every input' (looked for: loops, veiled, ifaces, maps, wideKeys, modest, calm, conditions, laid).
  DERIVED. THE GIVEN ROWS OF THIS SEAT. 10 by the template 'for every input the law returns true; each argument reads behind the call as it read before'; 0 by the template 'total and deterministic' (their statements: YtblbnlpbefmieaaTotals.lean).
  GIVEN WITH THE SEED: the statements are not yours to turn. If you find one false, say at which input.
  Laid BY PROGRAM, IN A SANDBOX (cutbox-rows.mjs): the forced cells as the released guide's own fill.sh prints them over the translation 7657208dc14f1b00… (all of the seat's roots in one cut). By AI agents, Wed Nov 11 2026. No macro, syntax, notation, axiom, sorry.
-/
import Derived.Test.YtblbnlpbefmieaaChecked
import GoSem.Claim
import GoSem.ClaimJoined
import GoSem.ClaimMapViews
import Derived.JoinedTies
import Derived.KernelRfl
namespace Go.Proofs.Ytblbnlpbefmieaa
/- THE CELL 'sum', in the pinned program and in every row, IS THE sha256 OF THE DUMP (.gsa) THAT YtblbnlpbefmieaaProg.lean LOADS. Nothing in Lean hashes anything: it is a label: what it is worth is what the hold of that sum in a sandbox is worth. -/
noncomputable def Try.pinned : Pinned := { name := "ytblbnlpbefmieaa", sum := "7657208dc14f1b0043eda063cb1203f0a997708dae450ab8c81b2ebec4f31d9d", checked := Try.checked }
namespace Rows
def none {H : Type} : Left H := { results := [], args := [] }

/-- 'laws.FnExactKindsOf': WHATEVER THE INPUT: true; the input reads as it did. -/
def fnExactKindsOfSpec : ChangeSpec := { name := "fnExactKindsOf", fn := fun _ => fun
  | [d] => { results := [.lit (.bool true)], args := [d] }
  | _ => none }
def fnExactKindsOfRow : OpenClaim := { program := "ytblbnlpbefmieaa", sum := "7657208dc14f1b0043eda063cb1203f0a997708dae450ab8c81b2ebec4f31d9d", func := "loop.example/g01251/laws.FnExactKindsOf", spec := "fnExactKindsOf", unfollowed := true, recurses := true, plainKeys := false, apart := false }
def FnExactKindsOfSaid : Prop := fnExactKindsOfRow.holds Try.pinned (OpenSpec.ofChange fnExactKindsOfSpec)

/-- ITS FALSE NEIGHBOUR: 'it returns false'. Refute it at one input. -/
def fnExactKindsOfWrong : ChangeSpec := { name := "fnExactKindsOf", fn := fun _ => fun
  | [d] => { results := [.lit (.bool false)], args := [d] }
  | _ => none }
def FnExactKindsOfWrongFalsely : Prop := fnExactKindsOfRow.holds Try.pinned (OpenSpec.ofChange fnExactKindsOfWrong)

/-- 'laws.FnExactDiagramOfPartition': WHATEVER THE INPUT: true; the input reads as it did. -/
def fnExactDiagramOfPartitionSpec : ChangeSpec := { name := "fnExactDiagramOfPartition", fn := fun _ => fun
  | [d] => { results := [.lit (.bool true)], args := [d] }
  | _ => none }
def fnExactDiagramOfPartitionRow : OpenClaim := { program := "ytblbnlpbefmieaa", sum := "7657208dc14f1b0043eda063cb1203f0a997708dae450ab8c81b2ebec4f31d9d", func := "loop.example/g01251/laws.FnExactDiagramOfPartition", spec := "fnExactDiagramOfPartition", unfollowed := true, recurses := true, plainKeys := false, apart := false }
def FnExactDiagramOfPartitionSaid : Prop := fnExactDiagramOfPartitionRow.holds Try.pinned (OpenSpec.ofChange fnExactDiagramOfPartitionSpec)

/-- ITS FALSE NEIGHBOUR: 'it returns false'. Refute it at one input. -/
def fnExactDiagramOfPartitionWrong : ChangeSpec := { name := "fnExactDiagramOfPartition", fn := fun _ => fun
  | [d] => { results := [.lit (.bool false)], args := [d] }
  | _ => none }
def FnExactDiagramOfPartitionWrongFalsely : Prop := fnExactDiagramOfPartitionRow.holds Try.pinned (OpenSpec.ofChange fnExactDiagramOfPartitionWrong)

/-- 'laws.FnExactSurroundingDiagram': WHATEVER THE INPUT: true; the input reads as it did. -/
def fnExactSurroundingDiagramSpec : ChangeSpec := { name := "fnExactSurroundingDiagram", fn := fun _ => fun
  | [d] => { results := [.lit (.bool true)], args := [d] }
  | _ => none }
def fnExactSurroundingDiagramRow : OpenClaim := { program := "ytblbnlpbefmieaa", sum := "7657208dc14f1b0043eda063cb1203f0a997708dae450ab8c81b2ebec4f31d9d", func := "loop.example/g01251/laws.FnExactSurroundingDiagram", spec := "fnExactSurroundingDiagram", plainKeys := false, apart := false }
def FnExactSurroundingDiagramSaid : Prop := fnExactSurroundingDiagramRow.holds Try.pinned (OpenSpec.ofChange fnExactSurroundingDiagramSpec)

/-- ITS FALSE NEIGHBOUR: 'it returns false'. Refute it at one input. -/
def fnExactSurroundingDiagramWrong : ChangeSpec := { name := "fnExactSurroundingDiagram", fn := fun _ => fun
  | [d] => { results := [.lit (.bool false)], args := [d] }
  | _ => none }
def FnExactSurroundingDiagramWrongFalsely : Prop := fnExactSurroundingDiagramRow.holds Try.pinned (OpenSpec.ofChange fnExactSurroundingDiagramWrong)

/-- 'laws.FnExactAllPartitions': WHATEVER THE INPUT: true; the input reads as it did. -/
def fnExactAllPartitionsSpec : ChangeSpec := { name := "fnExactAllPartitions", fn := fun _ => fun
  | [d] => { results := [.lit (.bool true)], args := [d] }
  | _ => none }
def fnExactAllPartitionsRow : OpenClaim := { program := "ytblbnlpbefmieaa", sum := "7657208dc14f1b0043eda063cb1203f0a997708dae450ab8c81b2ebec4f31d9d", func := "loop.example/g01251/laws.FnExactAllPartitions", spec := "fnExactAllPartitions", recurses := true, plainKeys := false, apart := false }
def FnExactAllPartitionsSaid : Prop := fnExactAllPartitionsRow.holds Try.pinned (OpenSpec.ofChange fnExactAllPartitionsSpec)

/-- ITS FALSE NEIGHBOUR: 'it returns false'. Refute it at one input. -/
def fnExactAllPartitionsWrong : ChangeSpec := { name := "fnExactAllPartitions", fn := fun _ => fun
  | [d] => { results := [.lit (.bool false)], args := [d] }
  | _ => none }
def FnExactAllPartitionsWrongFalsely : Prop := fnExactAllPartitionsRow.holds Try.pinned (OpenSpec.ofChange fnExactAllPartitionsWrong)

/-- 'laws.FnExactCountKinds': WHATEVER THE INPUT: true; the input reads as it did. -/
def fnExactCountKindsSpec : ChangeSpec := { name := "fnExactCountKinds", fn := fun _ => fun
  | [d] => { results := [.lit (.bool true)], args := [d] }
  | _ => none }
def fnExactCountKindsRow : OpenClaim := { program := "ytblbnlpbefmieaa", sum := "7657208dc14f1b0043eda063cb1203f0a997708dae450ab8c81b2ebec4f31d9d", func := "loop.example/g01251/laws.FnExactCountKinds", spec := "fnExactCountKinds", unfollowed := true, recurses := true, plainKeys := false, apart := false }
def FnExactCountKindsSaid : Prop := fnExactCountKindsRow.holds Try.pinned (OpenSpec.ofChange fnExactCountKindsSpec)

/-- ITS FALSE NEIGHBOUR: 'it returns false'. Refute it at one input. -/
def fnExactCountKindsWrong : ChangeSpec := { name := "fnExactCountKinds", fn := fun _ => fun
  | [d] => { results := [.lit (.bool false)], args := [d] }
  | _ => none }
def FnExactCountKindsWrongFalsely : Prop := fnExactCountKindsRow.holds Try.pinned (OpenSpec.ofChange fnExactCountKindsWrong)

/-- 'laws.FnTop': WHATEVER THE INPUT: true; the input reads as it did. -/
def fnTopSpec : ChangeSpec := { name := "fnTop", fn := fun _ => fun
  | [d] => { results := [.lit (.bool true)], args := [d] }
  | _ => none }
def fnTopRow : OpenClaim := { program := "ytblbnlpbefmieaa", sum := "7657208dc14f1b0043eda063cb1203f0a997708dae450ab8c81b2ebec4f31d9d", func := "loop.example/g01251/laws.FnTop", spec := "fnTop", unfollowed := true, recurses := true, plainKeys := false, apart := false }
def FnTopSaid : Prop := fnTopRow.holds Try.pinned (OpenSpec.ofChange fnTopSpec)

/-- ITS FALSE NEIGHBOUR: 'it returns false'. Refute it at one input. -/
def fnTopWrong : ChangeSpec := { name := "fnTop", fn := fun _ => fun
  | [d] => { results := [.lit (.bool false)], args := [d] }
  | _ => none }
def FnTopWrongFalsely : Prop := fnTopRow.holds Try.pinned (OpenSpec.ofChange fnTopWrong)

/-- 'laws.FnPromiseOfAll': WHATEVER THE INPUT: true; the input reads as it did. -/
def fnPromiseOfAllSpec : ChangeSpec := { name := "fnPromiseOfAll", fn := fun _ => fun
  | [d1, d2] => { results := [.lit (.bool true)], args := [d1, d2] }
  | _ => none }
def fnPromiseOfAllRow : OpenClaim := { program := "ytblbnlpbefmieaa", sum := "7657208dc14f1b0043eda063cb1203f0a997708dae450ab8c81b2ebec4f31d9d", func := "loop.example/g01251/laws.FnPromiseOfAll", spec := "fnPromiseOfAll", unfollowed := true, recurses := true, plainKeys := false, apart := false }
def FnPromiseOfAllSaid : Prop := fnPromiseOfAllRow.holds Try.pinned (OpenSpec.ofChange fnPromiseOfAllSpec)

/-- ITS FALSE NEIGHBOUR: 'it returns false'. Refute it at one input. -/
def fnPromiseOfAllWrong : ChangeSpec := { name := "fnPromiseOfAll", fn := fun _ => fun
  | [d1, d2] => { results := [.lit (.bool false)], args := [d1, d2] }
  | _ => none }
def FnPromiseOfAllWrongFalsely : Prop := fnPromiseOfAllRow.holds Try.pinned (OpenSpec.ofChange fnPromiseOfAllWrong)

/-- 'laws.FnPartitions': WHATEVER THE INPUT: true; the input reads as it did. -/
def fnPartitionsSpec : ChangeSpec := { name := "fnPartitions", fn := fun _ => fun
  | [d] => { results := [.lit (.bool true)], args := [d] }
  | _ => none }
def fnPartitionsRow : OpenClaim := { program := "ytblbnlpbefmieaa", sum := "7657208dc14f1b0043eda063cb1203f0a997708dae450ab8c81b2ebec4f31d9d", func := "loop.example/g01251/laws.FnPartitions", spec := "fnPartitions", unfollowed := true, recurses := true, plainKeys := false, apart := false }
def FnPartitionsSaid : Prop := fnPartitionsRow.holds Try.pinned (OpenSpec.ofChange fnPartitionsSpec)

/-- ITS FALSE NEIGHBOUR: 'it returns false'. Refute it at one input. -/
def fnPartitionsWrong : ChangeSpec := { name := "fnPartitions", fn := fun _ => fun
  | [d] => { results := [.lit (.bool false)], args := [d] }
  | _ => none }
def FnPartitionsWrongFalsely : Prop := fnPartitionsRow.holds Try.pinned (OpenSpec.ofChange fnPartitionsWrong)

/-- 'laws.FnSurroundings': WHATEVER THE INPUT: true; the input reads as it did. -/
def fnSurroundingsSpec : ChangeSpec := { name := "fnSurroundings", fn := fun _ => fun
  | [d] => { results := [.lit (.bool true)], args := [d] }
  | _ => none }
def fnSurroundingsRow : OpenClaim := { program := "ytblbnlpbefmieaa", sum := "7657208dc14f1b0043eda063cb1203f0a997708dae450ab8c81b2ebec4f31d9d", func := "loop.example/g01251/laws.FnSurroundings", spec := "fnSurroundings", unfollowed := true, recurses := true, plainKeys := false, apart := false }
def FnSurroundingsSaid : Prop := fnSurroundingsRow.holds Try.pinned (OpenSpec.ofChange fnSurroundingsSpec)

/-- ITS FALSE NEIGHBOUR: 'it returns false'. Refute it at one input. -/
def fnSurroundingsWrong : ChangeSpec := { name := "fnSurroundings", fn := fun _ => fun
  | [d] => { results := [.lit (.bool false)], args := [d] }
  | _ => none }
def FnSurroundingsWrongFalsely : Prop := fnSurroundingsRow.holds Try.pinned (OpenSpec.ofChange fnSurroundingsWrong)

/-- 'laws.FnPartitionTexts': WHATEVER THE INPUT: true; the input reads as it did. -/
def fnPartitionTextsSpec : ChangeSpec := { name := "fnPartitionTexts", fn := fun _ => fun
  | [d] => { results := [.lit (.bool true)], args := [d] }
  | _ => none }
def fnPartitionTextsRow : OpenClaim := { program := "ytblbnlpbefmieaa", sum := "7657208dc14f1b0043eda063cb1203f0a997708dae450ab8c81b2ebec4f31d9d", func := "loop.example/g01251/laws.FnPartitionTexts", spec := "fnPartitionTexts", recurses := true, plainKeys := false, apart := false }
def FnPartitionTextsSaid : Prop := fnPartitionTextsRow.holds Try.pinned (OpenSpec.ofChange fnPartitionTextsSpec)

/-- ITS FALSE NEIGHBOUR: 'it returns false'. Refute it at one input. -/
def fnPartitionTextsWrong : ChangeSpec := { name := "fnPartitionTexts", fn := fun _ => fun
  | [d] => { results := [.lit (.bool false)], args := [d] }
  | _ => none }
def FnPartitionTextsWrongFalsely : Prop := fnPartitionTextsRow.holds Try.pinned (OpenSpec.ofChange fnPartitionTextsWrong)

/- THE SECOND FORM. 'bulk': how many values and letters a reading holds, each counted each time it is reached (what is shared counts as often as it is met; a slice's spare places count too). A statement '..UptoSaid' is the law's where the arguments, and the package variables that the reading takes, are together of bulk at most 1048576: NARROWER than '..Said'. Prove '..Said' where nothing that the law and all that it calls make is longer than what came in: it says more and counts as full. Else prove '..UptoSaid'. A law counts once. -/
mutual
def uptoBulk {H : Type} : DataW H → Nat
  | .lit (.string bytes) => bytes.length + 1
  | .lit _ => 1
  | .nil => 1
  | .ptr d => uptoBulk d + 1
  | .slice elems spare => uptoBulkAll elems + uptoBulkAll spare + 1
  | .agg parts => uptoBulkAll parts + 1
  | .iface _ d => uptoBulk d + 1
  | .map entries => uptoBulkEntries entries + 1
  | .held _ => 1
def uptoBulkAll {H : Type} : List (DataW H) → Nat
  | [] => 0
  | d :: r => uptoBulk d + uptoBulkAll r
def uptoBulkEntries {H : Type} : List (Lit × DataW H) → Nat
  | [] => 0
  | x :: r => uptoBulkEntry x + uptoBulkEntries r
def uptoBulkEntry {H : Type} : Lit × DataW H → Nat
  | (.string bytes, d) => bytes.length + uptoBulk d + 1
  | (_, d) => uptoBulk d + 1
 end
def uptoSmall : (H : Type) → List (DataW H) → Bool := fun _ ds => decide (uptoBulkAll ds ≤ 1048576)
def OpenSpec.upto (s : _root_.Go.ChangeSpec) : _root_.Go.OpenSpec := { _root_.Go.OpenSpec.ofChange s with cond := some uptoSmall }

/-- 'laws.FnExactKindsOf', WHERE WHAT IT READS IS OF BULK AT MOST 1048576: true; the input reads as it did. -/
def fnExactKindsOfUptoRow : OpenClaim := { program := "ytblbnlpbefmieaa", sum := "7657208dc14f1b0043eda063cb1203f0a997708dae450ab8c81b2ebec4f31d9d", func := "loop.example/g01251/laws.FnExactKindsOf", spec := "fnExactKindsOf", unfollowed := true, recurses := true, plainKeys := false, apart := false, narrowed := true }
def FnExactKindsOfUptoSaid : Prop := fnExactKindsOfUptoRow.holds Try.pinned (OpenSpec.upto fnExactKindsOfSpec)

/-- 'laws.FnExactDiagramOfPartition', WHERE WHAT IT READS IS OF BULK AT MOST 1048576: true; the input reads as it did. -/
def fnExactDiagramOfPartitionUptoRow : OpenClaim := { program := "ytblbnlpbefmieaa", sum := "7657208dc14f1b0043eda063cb1203f0a997708dae450ab8c81b2ebec4f31d9d", func := "loop.example/g01251/laws.FnExactDiagramOfPartition", spec := "fnExactDiagramOfPartition", unfollowed := true, recurses := true, plainKeys := false, apart := false, narrowed := true }
def FnExactDiagramOfPartitionUptoSaid : Prop := fnExactDiagramOfPartitionUptoRow.holds Try.pinned (OpenSpec.upto fnExactDiagramOfPartitionSpec)

/-- 'laws.FnExactSurroundingDiagram', WHERE WHAT IT READS IS OF BULK AT MOST 1048576: true; the input reads as it did. -/
def fnExactSurroundingDiagramUptoRow : OpenClaim := { program := "ytblbnlpbefmieaa", sum := "7657208dc14f1b0043eda063cb1203f0a997708dae450ab8c81b2ebec4f31d9d", func := "loop.example/g01251/laws.FnExactSurroundingDiagram", spec := "fnExactSurroundingDiagram", plainKeys := false, apart := false, narrowed := true }
def FnExactSurroundingDiagramUptoSaid : Prop := fnExactSurroundingDiagramUptoRow.holds Try.pinned (OpenSpec.upto fnExactSurroundingDiagramSpec)

/-- 'laws.FnExactAllPartitions', WHERE WHAT IT READS IS OF BULK AT MOST 1048576: true; the input reads as it did. -/
def fnExactAllPartitionsUptoRow : OpenClaim := { program := "ytblbnlpbefmieaa", sum := "7657208dc14f1b0043eda063cb1203f0a997708dae450ab8c81b2ebec4f31d9d", func := "loop.example/g01251/laws.FnExactAllPartitions", spec := "fnExactAllPartitions", recurses := true, plainKeys := false, apart := false, narrowed := true }
def FnExactAllPartitionsUptoSaid : Prop := fnExactAllPartitionsUptoRow.holds Try.pinned (OpenSpec.upto fnExactAllPartitionsSpec)

/-- 'laws.FnExactCountKinds', WHERE WHAT IT READS IS OF BULK AT MOST 1048576: true; the input reads as it did. -/
def fnExactCountKindsUptoRow : OpenClaim := { program := "ytblbnlpbefmieaa", sum := "7657208dc14f1b0043eda063cb1203f0a997708dae450ab8c81b2ebec4f31d9d", func := "loop.example/g01251/laws.FnExactCountKinds", spec := "fnExactCountKinds", unfollowed := true, recurses := true, plainKeys := false, apart := false, narrowed := true }
def FnExactCountKindsUptoSaid : Prop := fnExactCountKindsUptoRow.holds Try.pinned (OpenSpec.upto fnExactCountKindsSpec)

/-- 'laws.FnTop', WHERE WHAT IT READS IS OF BULK AT MOST 1048576: true; the input reads as it did. -/
def fnTopUptoRow : OpenClaim := { program := "ytblbnlpbefmieaa", sum := "7657208dc14f1b0043eda063cb1203f0a997708dae450ab8c81b2ebec4f31d9d", func := "loop.example/g01251/laws.FnTop", spec := "fnTop", unfollowed := true, recurses := true, plainKeys := false, apart := false, narrowed := true }
def FnTopUptoSaid : Prop := fnTopUptoRow.holds Try.pinned (OpenSpec.upto fnTopSpec)

/-- 'laws.FnPromiseOfAll', WHERE WHAT IT READS IS OF BULK AT MOST 1048576: true; the input reads as it did. -/
def fnPromiseOfAllUptoRow : OpenClaim := { program := "ytblbnlpbefmieaa", sum := "7657208dc14f1b0043eda063cb1203f0a997708dae450ab8c81b2ebec4f31d9d", func := "loop.example/g01251/laws.FnPromiseOfAll", spec := "fnPromiseOfAll", unfollowed := true, recurses := true, plainKeys := false, apart := false, narrowed := true }
def FnPromiseOfAllUptoSaid : Prop := fnPromiseOfAllUptoRow.holds Try.pinned (OpenSpec.upto fnPromiseOfAllSpec)

/-- 'laws.FnPartitions', WHERE WHAT IT READS IS OF BULK AT MOST 1048576: true; the input reads as it did. -/
def fnPartitionsUptoRow : OpenClaim := { program := "ytblbnlpbefmieaa", sum := "7657208dc14f1b0043eda063cb1203f0a997708dae450ab8c81b2ebec4f31d9d", func := "loop.example/g01251/laws.FnPartitions", spec := "fnPartitions", unfollowed := true, recurses := true, plainKeys := false, apart := false, narrowed := true }
def FnPartitionsUptoSaid : Prop := fnPartitionsUptoRow.holds Try.pinned (OpenSpec.upto fnPartitionsSpec)

/-- 'laws.FnSurroundings', WHERE WHAT IT READS IS OF BULK AT MOST 1048576: true; the input reads as it did. -/
def fnSurroundingsUptoRow : OpenClaim := { program := "ytblbnlpbefmieaa", sum := "7657208dc14f1b0043eda063cb1203f0a997708dae450ab8c81b2ebec4f31d9d", func := "loop.example/g01251/laws.FnSurroundings", spec := "fnSurroundings", unfollowed := true, recurses := true, plainKeys := false, apart := false, narrowed := true }
def FnSurroundingsUptoSaid : Prop := fnSurroundingsUptoRow.holds Try.pinned (OpenSpec.upto fnSurroundingsSpec)

/-- 'laws.FnPartitionTexts', WHERE WHAT IT READS IS OF BULK AT MOST 1048576: true; the input reads as it did. -/
def fnPartitionTextsUptoRow : OpenClaim := { program := "ytblbnlpbefmieaa", sum := "7657208dc14f1b0043eda063cb1203f0a997708dae450ab8c81b2ebec4f31d9d", func := "loop.example/g01251/laws.FnPartitionTexts", spec := "fnPartitionTexts", recurses := true, plainKeys := false, apart := false, narrowed := true }
def FnPartitionTextsUptoSaid : Prop := fnPartitionTextsUptoRow.holds Try.pinned (OpenSpec.upto fnPartitionTextsSpec)

end Rows
end Go.Proofs.Ytblbnlpbefmieaa
