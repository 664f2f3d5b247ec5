/-
  No cell of these rows narrows 'for every input' (looked for: loops, veiled, ifaces, maps, wideKeys, modest, calm, conditions, laid).
  DERIVED. THE GIVEN ROWS OF THIS SEAT. 12 by the template 'for every input the law returns true; each argument reads behind the call as it read before'; 0 by the template 'total and deterministic' (their statements: YtfbocodkelmemaaTotals.lean).
  GIVEN WITH THE SEED: the statements are not yours to turn. If you find one false, say at which input.
  Laid BY PROGRAM, IN A SANDBOX (cutbox-rows.mjs): the forced cells as the released guide's own fill.sh prints them over the translation da77461db5e9723a… (all of the seat's roots in one cut). By AI agents, Wed Nov 11 2026. No macro, syntax, notation, axiom, sorry.
-/
import Derived.Test.YtfbocodkelmemaaChecked
import GoSem.Claim
import GoSem.ClaimJoined
import GoSem.ClaimMapViews
import Derived.JoinedTies
import Derived.KernelRfl
namespace Go.Proofs.Ytfbocodkelmemaa
/- THE CELL 'sum', in the pinned program and in every row, IS THE sha256 OF THE DUMP (.gsa) THAT YtfbocodkelmemaaProg.lean LOADS. Nothing in Lean hashes anything: it is a label: what it is worth is what the hold of that sum in a sandbox is worth. -/
noncomputable def Try.pinned : Pinned := { name := "ytfbocodkelmemaa", sum := "da77461db5e9723aaf38a2d675e01cd2e5202819ecedc74efb0d2c2de0068123", checked := Try.checked }
namespace Rows
def none {H : Type} : Left H := { results := [], args := [] }

/-- 'laws.FnProducts': WHATEVER THE INPUT: true; the input reads as it did. -/
def fnProductsSpec : ChangeSpec := { name := "fnProducts", fn := fun _ => fun
  | [d] => { results := [.lit (.bool true)], args := [d] }
  | _ => none }
def fnProductsRow : OpenClaim := { program := "ytfbocodkelmemaa", sum := "da77461db5e9723aaf38a2d675e01cd2e5202819ecedc74efb0d2c2de0068123", func := "loop.example/g01251/laws.FnProducts", spec := "fnProducts", unfollowed := true, recurses := true, plainKeys := false, apart := false }
def FnProductsSaid : Prop := fnProductsRow.holds Try.pinned (OpenSpec.ofChange fnProductsSpec)

/-- ITS FALSE NEIGHBOUR: 'it returns false'. Refute it at one input. -/
def fnProductsWrong : ChangeSpec := { name := "fnProducts", fn := fun _ => fun
  | [d] => { results := [.lit (.bool false)], args := [d] }
  | _ => none }
def FnProductsWrongFalsely : Prop := fnProductsRow.holds Try.pinned (OpenSpec.ofChange fnProductsWrong)

/-- 'laws.FnShapes': WHATEVER THE INPUT: true; the input reads as it did. -/
def fnShapesSpec : ChangeSpec := { name := "fnShapes", fn := fun _ => fun
  | [d] => { results := [.lit (.bool true)], args := [d] }
  | _ => none }
def fnShapesRow : OpenClaim := { program := "ytfbocodkelmemaa", sum := "da77461db5e9723aaf38a2d675e01cd2e5202819ecedc74efb0d2c2de0068123", func := "loop.example/g01251/laws.FnShapes", spec := "fnShapes", unfollowed := true, recurses := true, plainKeys := false, apart := false }
def FnShapesSaid : Prop := fnShapesRow.holds Try.pinned (OpenSpec.ofChange fnShapesSpec)

/-- ITS FALSE NEIGHBOUR: 'it returns false'. Refute it at one input. -/
def fnShapesWrong : ChangeSpec := { name := "fnShapes", fn := fun _ => fun
  | [d] => { results := [.lit (.bool false)], args := [d] }
  | _ => none }
def FnShapesWrongFalsely : Prop := fnShapesRow.holds Try.pinned (OpenSpec.ofChange fnShapesWrong)

/-- 'laws.FnLists': WHATEVER THE INPUT: true; the input reads as it did. -/
def fnListsSpec : ChangeSpec := { name := "fnLists", fn := fun _ => fun
  | [d] => { results := [.lit (.bool true)], args := [d] }
  | _ => none }
def fnListsRow : OpenClaim := { program := "ytfbocodkelmemaa", sum := "da77461db5e9723aaf38a2d675e01cd2e5202819ecedc74efb0d2c2de0068123", func := "loop.example/g01251/laws.FnLists", spec := "fnLists", recurses := true, plainKeys := false, apart := false }
def FnListsSaid : Prop := fnListsRow.holds Try.pinned (OpenSpec.ofChange fnListsSpec)

/-- ITS FALSE NEIGHBOUR: 'it returns false'. Refute it at one input. -/
def fnListsWrong : ChangeSpec := { name := "fnLists", fn := fun _ => fun
  | [d] => { results := [.lit (.bool false)], args := [d] }
  | _ => none }
def FnListsWrongFalsely : Prop := fnListsRow.holds Try.pinned (OpenSpec.ofChange fnListsWrong)

/-- 'laws.FnExactIsDiagram': WHATEVER THE INPUT: true; the input reads as it did. -/
def fnExactIsDiagramSpec : ChangeSpec := { name := "fnExactIsDiagram", fn := fun _ => fun
  | [d] => { results := [.lit (.bool true)], args := [d] }
  | _ => none }
def fnExactIsDiagramRow : OpenClaim := { program := "ytfbocodkelmemaa", sum := "da77461db5e9723aaf38a2d675e01cd2e5202819ecedc74efb0d2c2de0068123", func := "loop.example/g01251/laws.FnExactIsDiagram", spec := "fnExactIsDiagram", plainKeys := false, apart := false }
def FnExactIsDiagramSaid : Prop := fnExactIsDiagramRow.holds Try.pinned (OpenSpec.ofChange fnExactIsDiagramSpec)

/-- ITS FALSE NEIGHBOUR: 'it returns false'. Refute it at one input. -/
def fnExactIsDiagramWrong : ChangeSpec := { name := "fnExactIsDiagram", fn := fun _ => fun
  | [d] => { results := [.lit (.bool false)], args := [d] }
  | _ => none }
def FnExactIsDiagramWrongFalsely : Prop := fnExactIsDiagramRow.holds Try.pinned (OpenSpec.ofChange fnExactIsDiagramWrong)

/-- 'laws.FnExactDiagramText': WHATEVER THE INPUT: true; the input reads as it did. -/
def fnExactDiagramTextSpec : ChangeSpec := { name := "fnExactDiagramText", fn := fun _ => fun
  | [d] => { results := [.lit (.bool true)], args := [d] }
  | _ => none }
def fnExactDiagramTextRow : OpenClaim := { program := "ytfbocodkelmemaa", sum := "da77461db5e9723aaf38a2d675e01cd2e5202819ecedc74efb0d2c2de0068123", func := "loop.example/g01251/laws.FnExactDiagramText", spec := "fnExactDiagramText", plainKeys := false, apart := false }
def FnExactDiagramTextSaid : Prop := fnExactDiagramTextRow.holds Try.pinned (OpenSpec.ofChange fnExactDiagramTextSpec)

/-- ITS FALSE NEIGHBOUR: 'it returns false'. Refute it at one input. -/
def fnExactDiagramTextWrong : ChangeSpec := { name := "fnExactDiagramText", fn := fun _ => fun
  | [d] => { results := [.lit (.bool false)], args := [d] }
  | _ => none }
def FnExactDiagramTextWrongFalsely : Prop := fnExactDiagramTextRow.holds Try.pinned (OpenSpec.ofChange fnExactDiagramTextWrong)

/-- 'laws.FnExactParseDiagram': WHATEVER THE INPUT: true; the input reads as it did. -/
def fnExactParseDiagramSpec : ChangeSpec := { name := "fnExactParseDiagram", fn := fun _ => fun
  | [d] => { results := [.lit (.bool true)], args := [d] }
  | _ => none }
def fnExactParseDiagramRow : OpenClaim := { program := "ytfbocodkelmemaa", sum := "da77461db5e9723aaf38a2d675e01cd2e5202819ecedc74efb0d2c2de0068123", func := "loop.example/g01251/laws.FnExactParseDiagram", spec := "fnExactParseDiagram", plainKeys := false, apart := false }
def FnExactParseDiagramSaid : Prop := fnExactParseDiagramRow.holds Try.pinned (OpenSpec.ofChange fnExactParseDiagramSpec)

/-- ITS FALSE NEIGHBOUR: 'it returns false'. Refute it at one input. -/
def fnExactParseDiagramWrong : ChangeSpec := { name := "fnExactParseDiagram", fn := fun _ => fun
  | [d] => { results := [.lit (.bool false)], args := [d] }
  | _ => none }
def FnExactParseDiagramWrongFalsely : Prop := fnExactParseDiagramRow.holds Try.pinned (OpenSpec.ofChange fnExactParseDiagramWrong)

/-- 'laws.FnExactUnitDiagram': WHATEVER THE INPUT: true; the input reads as it did. -/
def fnExactUnitDiagramSpec : ChangeSpec := { name := "fnExactUnitDiagram", fn := fun _ => fun
  | [d] => { results := [.lit (.bool true)], args := [d] }
  | _ => none }
def fnExactUnitDiagramRow : OpenClaim := { program := "ytfbocodkelmemaa", sum := "da77461db5e9723aaf38a2d675e01cd2e5202819ecedc74efb0d2c2de0068123", func := "loop.example/g01251/laws.FnExactUnitDiagram", spec := "fnExactUnitDiagram", plainKeys := false, apart := false }
def FnExactUnitDiagramSaid : Prop := fnExactUnitDiagramRow.holds Try.pinned (OpenSpec.ofChange fnExactUnitDiagramSpec)

/-- ITS FALSE NEIGHBOUR: 'it returns false'. Refute it at one input. -/
def fnExactUnitDiagramWrong : ChangeSpec := { name := "fnExactUnitDiagram", fn := fun _ => fun
  | [d] => { results := [.lit (.bool false)], args := [d] }
  | _ => none }
def FnExactUnitDiagramWrongFalsely : Prop := fnExactUnitDiagramRow.holds Try.pinned (OpenSpec.ofChange fnExactUnitDiagramWrong)

/-- 'laws.FnExactGeneratorDiagram': WHATEVER THE INPUT: true; the input reads as it did. -/
def fnExactGeneratorDiagramSpec : ChangeSpec := { name := "fnExactGeneratorDiagram", fn := fun _ => fun
  | [d1, d2] => { results := [.lit (.bool true)], args := [d1, d2] }
  | _ => none }
def fnExactGeneratorDiagramRow : OpenClaim := { program := "ytfbocodkelmemaa", sum := "da77461db5e9723aaf38a2d675e01cd2e5202819ecedc74efb0d2c2de0068123", func := "loop.example/g01251/laws.FnExactGeneratorDiagram", spec := "fnExactGeneratorDiagram", plainKeys := false, apart := false }
def FnExactGeneratorDiagramSaid : Prop := fnExactGeneratorDiagramRow.holds Try.pinned (OpenSpec.ofChange fnExactGeneratorDiagramSpec)

/-- ITS FALSE NEIGHBOUR: 'it returns false'. Refute it at one input. -/
def fnExactGeneratorDiagramWrong : ChangeSpec := { name := "fnExactGeneratorDiagram", fn := fun _ => fun
  | [d1, d2] => { results := [.lit (.bool false)], args := [d1, d2] }
  | _ => none }
def FnExactGeneratorDiagramWrongFalsely : Prop := fnExactGeneratorDiagramRow.holds Try.pinned (OpenSpec.ofChange fnExactGeneratorDiagramWrong)

/-- 'laws.FnExactMultiplyDiagrams': WHATEVER THE INPUT: true; the input reads as it did. -/
def fnExactMultiplyDiagramsSpec : ChangeSpec := { name := "fnExactMultiplyDiagrams", fn := fun _ => fun
  | [d1, d2] => { results := [.lit (.bool true)], args := [d1, d2] }
  | _ => none }
def fnExactMultiplyDiagramsRow : OpenClaim := { program := "ytfbocodkelmemaa", sum := "da77461db5e9723aaf38a2d675e01cd2e5202819ecedc74efb0d2c2de0068123", func := "loop.example/g01251/laws.FnExactMultiplyDiagrams", spec := "fnExactMultiplyDiagrams", plainKeys := false, apart := false }
def FnExactMultiplyDiagramsSaid : Prop := fnExactMultiplyDiagramsRow.holds Try.pinned (OpenSpec.ofChange fnExactMultiplyDiagramsSpec)

/-- ITS FALSE NEIGHBOUR: 'it returns false'. Refute it at one input. -/
def fnExactMultiplyDiagramsWrong : ChangeSpec := { name := "fnExactMultiplyDiagrams", fn := fun _ => fun
  | [d1, d2] => { results := [.lit (.bool false)], args := [d1, d2] }
  | _ => none }
def FnExactMultiplyDiagramsWrongFalsely : Prop := fnExactMultiplyDiagramsRow.holds Try.pinned (OpenSpec.ofChange fnExactMultiplyDiagramsWrong)

/-- 'laws.FnExactFlipDiagram': WHATEVER THE INPUT: true; the input reads as it did. -/
def fnExactFlipDiagramSpec : ChangeSpec := { name := "fnExactFlipDiagram", fn := fun _ => fun
  | [d] => { results := [.lit (.bool true)], args := [d] }
  | _ => none }
def fnExactFlipDiagramRow : OpenClaim := { program := "ytfbocodkelmemaa", sum := "da77461db5e9723aaf38a2d675e01cd2e5202819ecedc74efb0d2c2de0068123", func := "loop.example/g01251/laws.FnExactFlipDiagram", spec := "fnExactFlipDiagram", unfollowed := true, recurses := true, plainKeys := false, apart := false }
def FnExactFlipDiagramSaid : Prop := fnExactFlipDiagramRow.holds Try.pinned (OpenSpec.ofChange fnExactFlipDiagramSpec)

/-- ITS FALSE NEIGHBOUR: 'it returns false'. Refute it at one input. -/
def fnExactFlipDiagramWrong : ChangeSpec := { name := "fnExactFlipDiagram", fn := fun _ => fun
  | [d] => { results := [.lit (.bool false)], args := [d] }
  | _ => none }
def FnExactFlipDiagramWrongFalsely : Prop := fnExactFlipDiagramRow.holds Try.pinned (OpenSpec.ofChange fnExactFlipDiagramWrong)

/-- 'laws.FnExactMirrorDiagram': WHATEVER THE INPUT: true; the input reads as it did. -/
def fnExactMirrorDiagramSpec : ChangeSpec := { name := "fnExactMirrorDiagram", fn := fun _ => fun
  | [d] => { results := [.lit (.bool true)], args := [d] }
  | _ => none }
def fnExactMirrorDiagramRow : OpenClaim := { program := "ytfbocodkelmemaa", sum := "da77461db5e9723aaf38a2d675e01cd2e5202819ecedc74efb0d2c2de0068123", func := "loop.example/g01251/laws.FnExactMirrorDiagram", spec := "fnExactMirrorDiagram", unfollowed := true, recurses := true, plainKeys := false, apart := false }
def FnExactMirrorDiagramSaid : Prop := fnExactMirrorDiagramRow.holds Try.pinned (OpenSpec.ofChange fnExactMirrorDiagramSpec)

/-- ITS FALSE NEIGHBOUR: 'it returns false'. Refute it at one input. -/
def fnExactMirrorDiagramWrong : ChangeSpec := { name := "fnExactMirrorDiagram", fn := fun _ => fun
  | [d] => { results := [.lit (.bool false)], args := [d] }
  | _ => none }
def FnExactMirrorDiagramWrongFalsely : Prop := fnExactMirrorDiagramRow.holds Try.pinned (OpenSpec.ofChange fnExactMirrorDiagramWrong)

/-- 'laws.FnExactTurnDiagram': WHATEVER THE INPUT: true; the input reads as it did. -/
def fnExactTurnDiagramSpec : ChangeSpec := { name := "fnExactTurnDiagram", fn := fun _ => fun
  | [d] => { results := [.lit (.bool true)], args := [d] }
  | _ => none }
def fnExactTurnDiagramRow : OpenClaim := { program := "ytfbocodkelmemaa", sum := "da77461db5e9723aaf38a2d675e01cd2e5202819ecedc74efb0d2c2de0068123", func := "loop.example/g01251/laws.FnExactTurnDiagram", spec := "fnExactTurnDiagram", unfollowed := true, recurses := true, plainKeys := false, apart := false }
def FnExactTurnDiagramSaid : Prop := fnExactTurnDiagramRow.holds Try.pinned (OpenSpec.ofChange fnExactTurnDiagramSpec)

/-- ITS FALSE NEIGHBOUR: 'it returns false'. Refute it at one input. -/
def fnExactTurnDiagramWrong : ChangeSpec := { name := "fnExactTurnDiagram", fn := fun _ => fun
  | [d] => { results := [.lit (.bool false)], args := [d] }
  | _ => none }
def FnExactTurnDiagramWrongFalsely : Prop := fnExactTurnDiagramRow.holds Try.pinned (OpenSpec.ofChange fnExactTurnDiagramWrong)

/- THE SECOND FORM. 'bulk': how many values and letters a reading holds, each counted each time it is reached (what is shared counts as often as it is met; a slice's spare places count too). A statement '..UptoSaid' is the law's where the arguments, and the package variables that the reading takes, are together of bulk at most 1048576: NARROWER than '..Said'. Prove '..Said' where nothing that the law and all that it calls make is longer than what came in: it says more and counts as full. Else prove '..UptoSaid'. A law counts once. -/
mutual
def uptoBulk {H : Type} : DataW H → Nat
  | .lit (.string bytes) => bytes.length + 1
  | .lit _ => 1
  | .nil => 1
  | .ptr d => uptoBulk d + 1
  | .slice elems spare => uptoBulkAll elems + uptoBulkAll spare + 1
  | .agg parts => uptoBulkAll parts + 1
  | .iface _ d => uptoBulk d + 1
  | .map entries => uptoBulkEntries entries + 1
  | .held _ => 1
def uptoBulkAll {H : Type} : List (DataW H) → Nat
  | [] => 0
  | d :: r => uptoBulk d + uptoBulkAll r
def uptoBulkEntries {H : Type} : List (Lit × DataW H) → Nat
  | [] => 0
  | x :: r => uptoBulkEntry x + uptoBulkEntries r
def uptoBulkEntry {H : Type} : Lit × DataW H → Nat
  | (.string bytes, d) => bytes.length + uptoBulk d + 1
  | (_, d) => uptoBulk d + 1
 end
def uptoSmall : (H : Type) → List (DataW H) → Bool := fun _ ds => decide (uptoBulkAll ds ≤ 1048576)
def OpenSpec.upto (s : _root_.Go.ChangeSpec) : _root_.Go.OpenSpec := { _root_.Go.OpenSpec.ofChange s with cond := some uptoSmall }

/-- 'laws.FnProducts', WHERE WHAT IT READS IS OF BULK AT MOST 1048576: true; the input reads as it did. -/
def fnProductsUptoRow : OpenClaim := { program := "ytfbocodkelmemaa", sum := "da77461db5e9723aaf38a2d675e01cd2e5202819ecedc74efb0d2c2de0068123", func := "loop.example/g01251/laws.FnProducts", spec := "fnProducts", unfollowed := true, recurses := true, plainKeys := false, apart := false, narrowed := true }
def FnProductsUptoSaid : Prop := fnProductsUptoRow.holds Try.pinned (OpenSpec.upto fnProductsSpec)

/-- 'laws.FnShapes', WHERE WHAT IT READS IS OF BULK AT MOST 1048576: true; the input reads as it did. -/
def fnShapesUptoRow : OpenClaim := { program := "ytfbocodkelmemaa", sum := "da77461db5e9723aaf38a2d675e01cd2e5202819ecedc74efb0d2c2de0068123", func := "loop.example/g01251/laws.FnShapes", spec := "fnShapes", unfollowed := true, recurses := true, plainKeys := false, apart := false, narrowed := true }
def FnShapesUptoSaid : Prop := fnShapesUptoRow.holds Try.pinned (OpenSpec.upto fnShapesSpec)

/-- 'laws.FnLists', WHERE WHAT IT READS IS OF BULK AT MOST 1048576: true; the input reads as it did. -/
def fnListsUptoRow : OpenClaim := { program := "ytfbocodkelmemaa", sum := "da77461db5e9723aaf38a2d675e01cd2e5202819ecedc74efb0d2c2de0068123", func := "loop.example/g01251/laws.FnLists", spec := "fnLists", recurses := true, plainKeys := false, apart := false, narrowed := true }
def FnListsUptoSaid : Prop := fnListsUptoRow.holds Try.pinned (OpenSpec.upto fnListsSpec)

/-- 'laws.FnExactIsDiagram', WHERE WHAT IT READS IS OF BULK AT MOST 1048576: true; the input reads as it did. -/
def fnExactIsDiagramUptoRow : OpenClaim := { program := "ytfbocodkelmemaa", sum := "da77461db5e9723aaf38a2d675e01cd2e5202819ecedc74efb0d2c2de0068123", func := "loop.example/g01251/laws.FnExactIsDiagram", spec := "fnExactIsDiagram", plainKeys := false, apart := false, narrowed := true }
def FnExactIsDiagramUptoSaid : Prop := fnExactIsDiagramUptoRow.holds Try.pinned (OpenSpec.upto fnExactIsDiagramSpec)

/-- 'laws.FnExactDiagramText', WHERE WHAT IT READS IS OF BULK AT MOST 1048576: true; the input reads as it did. -/
def fnExactDiagramTextUptoRow : OpenClaim := { program := "ytfbocodkelmemaa", sum := "da77461db5e9723aaf38a2d675e01cd2e5202819ecedc74efb0d2c2de0068123", func := "loop.example/g01251/laws.FnExactDiagramText", spec := "fnExactDiagramText", plainKeys := false, apart := false, narrowed := true }
def FnExactDiagramTextUptoSaid : Prop := fnExactDiagramTextUptoRow.holds Try.pinned (OpenSpec.upto fnExactDiagramTextSpec)

/-- 'laws.FnExactParseDiagram', WHERE WHAT IT READS IS OF BULK AT MOST 1048576: true; the input reads as it did. -/
def fnExactParseDiagramUptoRow : OpenClaim := { program := "ytfbocodkelmemaa", sum := "da77461db5e9723aaf38a2d675e01cd2e5202819ecedc74efb0d2c2de0068123", func := "loop.example/g01251/laws.FnExactParseDiagram", spec := "fnExactParseDiagram", plainKeys := false, apart := false, narrowed := true }
def FnExactParseDiagramUptoSaid : Prop := fnExactParseDiagramUptoRow.holds Try.pinned (OpenSpec.upto fnExactParseDiagramSpec)

/-- 'laws.FnExactUnitDiagram', WHERE WHAT IT READS IS OF BULK AT MOST 1048576: true; the input reads as it did. -/
def fnExactUnitDiagramUptoRow : OpenClaim := { program := "ytfbocodkelmemaa", sum := "da77461db5e9723aaf38a2d675e01cd2e5202819ecedc74efb0d2c2de0068123", func := "loop.example/g01251/laws.FnExactUnitDiagram", spec := "fnExactUnitDiagram", plainKeys := false, apart := false, narrowed := true }
def FnExactUnitDiagramUptoSaid : Prop := fnExactUnitDiagramUptoRow.holds Try.pinned (OpenSpec.upto fnExactUnitDiagramSpec)

/-- 'laws.FnExactGeneratorDiagram', WHERE WHAT IT READS IS OF BULK AT MOST 1048576: true; the input reads as it did. -/
def fnExactGeneratorDiagramUptoRow : OpenClaim := { program := "ytfbocodkelmemaa", sum := "da77461db5e9723aaf38a2d675e01cd2e5202819ecedc74efb0d2c2de0068123", func := "loop.example/g01251/laws.FnExactGeneratorDiagram", spec := "fnExactGeneratorDiagram", plainKeys := false, apart := false, narrowed := true }
def FnExactGeneratorDiagramUptoSaid : Prop := fnExactGeneratorDiagramUptoRow.holds Try.pinned (OpenSpec.upto fnExactGeneratorDiagramSpec)

/-- 'laws.FnExactMultiplyDiagrams', WHERE WHAT IT READS IS OF BULK AT MOST 1048576: true; the input reads as it did. -/
def fnExactMultiplyDiagramsUptoRow : OpenClaim := { program := "ytfbocodkelmemaa", sum := "da77461db5e9723aaf38a2d675e01cd2e5202819ecedc74efb0d2c2de0068123", func := "loop.example/g01251/laws.FnExactMultiplyDiagrams", spec := "fnExactMultiplyDiagrams", plainKeys := false, apart := false, narrowed := true }
def FnExactMultiplyDiagramsUptoSaid : Prop := fnExactMultiplyDiagramsUptoRow.holds Try.pinned (OpenSpec.upto fnExactMultiplyDiagramsSpec)

/-- 'laws.FnExactFlipDiagram', WHERE WHAT IT READS IS OF BULK AT MOST 1048576: true; the input reads as it did. -/
def fnExactFlipDiagramUptoRow : OpenClaim := { program := "ytfbocodkelmemaa", sum := "da77461db5e9723aaf38a2d675e01cd2e5202819ecedc74efb0d2c2de0068123", func := "loop.example/g01251/laws.FnExactFlipDiagram", spec := "fnExactFlipDiagram", unfollowed := true, recurses := true, plainKeys := false, apart := false, narrowed := true }
def FnExactFlipDiagramUptoSaid : Prop := fnExactFlipDiagramUptoRow.holds Try.pinned (OpenSpec.upto fnExactFlipDiagramSpec)

/-- 'laws.FnExactMirrorDiagram', WHERE WHAT IT READS IS OF BULK AT MOST 1048576: true; the input reads as it did. -/
def fnExactMirrorDiagramUptoRow : OpenClaim := { program := "ytfbocodkelmemaa", sum := "da77461db5e9723aaf38a2d675e01cd2e5202819ecedc74efb0d2c2de0068123", func := "loop.example/g01251/laws.FnExactMirrorDiagram", spec := "fnExactMirrorDiagram", unfollowed := true, recurses := true, plainKeys := false, apart := false, narrowed := true }
def FnExactMirrorDiagramUptoSaid : Prop := fnExactMirrorDiagramUptoRow.holds Try.pinned (OpenSpec.upto fnExactMirrorDiagramSpec)

/-- 'laws.FnExactTurnDiagram', WHERE WHAT IT READS IS OF BULK AT MOST 1048576: true; the input reads as it did. -/
def fnExactTurnDiagramUptoRow : OpenClaim := { program := "ytfbocodkelmemaa", sum := "da77461db5e9723aaf38a2d675e01cd2e5202819ecedc74efb0d2c2de0068123", func := "loop.example/g01251/laws.FnExactTurnDiagram", spec := "fnExactTurnDiagram", unfollowed := true, recurses := true, plainKeys := false, apart := false, narrowed := true }
def FnExactTurnDiagramUptoSaid : Prop := fnExactTurnDiagramUptoRow.holds Try.pinned (OpenSpec.upto fnExactTurnDiagramSpec)

end Rows
end Go.Proofs.Ytfbocodkelmemaa
