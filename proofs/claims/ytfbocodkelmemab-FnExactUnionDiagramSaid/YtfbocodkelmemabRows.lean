/-
  No cell of these rows narrows 'for every input' (looked for: loops, veiled, ifaces, maps, wideKeys, modest, calm, conditions, laid).
  DERIVED. THE GIVEN ROWS OF THIS SEAT. 6 by the template 'for every input the law returns true; each argument reads behind the call as it read before'; 0 by the template 'total and deterministic' (their statements: YtfbocodkelmemabTotals.lean).
  GIVEN WITH THE SEED: the statements are not yours to turn. If you find one false, say at which input.
  Laid BY PROGRAM, IN A SANDBOX (cutbox-rows.mjs): the forced cells as the released guide's own fill.sh prints them over the translation 1a25999544637ed6… (all of the seat's roots in one cut). By AI agents, Wed Nov 11 2026. No macro, syntax, notation, axiom, sorry.
-/
import Derived.Test.YtfbocodkelmemabChecked
import GoSem.Claim
import GoSem.ClaimJoined
import GoSem.ClaimMapViews
import Derived.JoinedTies
import Derived.KernelRfl
namespace Go.Proofs.Ytfbocodkelmemab
/- THE CELL 'sum', in the pinned program and in every row, IS THE sha256 OF THE DUMP (.gsa) THAT YtfbocodkelmemabProg.lean LOADS. Nothing in Lean hashes anything: it is a label: what it is worth is what the hold of that sum in a sandbox is worth. -/
noncomputable def Try.pinned : Pinned := { name := "ytfbocodkelmemab", sum := "1a25999544637ed68e5a11ee25420bc63f21b3a7f3d57a9817359adee2d62443", checked := Try.checked }
namespace Rows
def none {H : Type} : Left H := { results := [], args := [] }

/-- 'laws.FnExactUnionDiagram': WHATEVER THE INPUT: true; the input reads as it did. -/
def fnExactUnionDiagramSpec : ChangeSpec := { name := "fnExactUnionDiagram", fn := fun _ => fun
  | [d1, d2] => { results := [.lit (.bool true)], args := [d1, d2] }
  | _ => none }
def fnExactUnionDiagramRow : OpenClaim := { program := "ytfbocodkelmemab", sum := "1a25999544637ed68e5a11ee25420bc63f21b3a7f3d57a9817359adee2d62443", func := "loop.example/g01251/laws.FnExactUnionDiagram", spec := "fnExactUnionDiagram", unfollowed := true, recurses := true, plainKeys := false, apart := false }
def FnExactUnionDiagramSaid : Prop := fnExactUnionDiagramRow.holds Try.pinned (OpenSpec.ofChange fnExactUnionDiagramSpec)

/-- ITS FALSE NEIGHBOUR: 'it returns false'. Refute it at one input. -/
def fnExactUnionDiagramWrong : ChangeSpec := { name := "fnExactUnionDiagram", fn := fun _ => fun
  | [d1, d2] => { results := [.lit (.bool false)], args := [d1, d2] }
  | _ => none }
def FnExactUnionDiagramWrongFalsely : Prop := fnExactUnionDiagramRow.holds Try.pinned (OpenSpec.ofChange fnExactUnionDiagramWrong)

/-- 'laws.FnExactThroughLines': WHATEVER THE INPUT: true; the input reads as it did. -/
def fnExactThroughLinesSpec : ChangeSpec := { name := "fnExactThroughLines", fn := fun _ => fun
  | [d] => { results := [.lit (.bool true)], args := [d] }
  | _ => none }
def fnExactThroughLinesRow : OpenClaim := { program := "ytfbocodkelmemab", sum := "1a25999544637ed68e5a11ee25420bc63f21b3a7f3d57a9817359adee2d62443", func := "loop.example/g01251/laws.FnExactThroughLines", spec := "fnExactThroughLines", plainKeys := false, apart := false }
def FnExactThroughLinesSaid : Prop := fnExactThroughLinesRow.holds Try.pinned (OpenSpec.ofChange fnExactThroughLinesSpec)

/-- ITS FALSE NEIGHBOUR: 'it returns false'. Refute it at one input. -/
def fnExactThroughLinesWrong : ChangeSpec := { name := "fnExactThroughLines", fn := fun _ => fun
  | [d] => { results := [.lit (.bool false)], args := [d] }
  | _ => none }
def FnExactThroughLinesWrongFalsely : Prop := fnExactThroughLinesRow.holds Try.pinned (OpenSpec.ofChange fnExactThroughLinesWrong)

/-- 'laws.FnExactClosureLoops': WHATEVER THE INPUT: true; the input reads as it did. -/
def fnExactClosureLoopsSpec : ChangeSpec := { name := "fnExactClosureLoops", fn := fun _ => fun
  | [d] => { results := [.lit (.bool true)], args := [d] }
  | _ => none }
def fnExactClosureLoopsRow : OpenClaim := { program := "ytfbocodkelmemab", sum := "1a25999544637ed68e5a11ee25420bc63f21b3a7f3d57a9817359adee2d62443", func := "loop.example/g01251/laws.FnExactClosureLoops", spec := "fnExactClosureLoops", plainKeys := false, apart := false }
def FnExactClosureLoopsSaid : Prop := fnExactClosureLoopsRow.holds Try.pinned (OpenSpec.ofChange fnExactClosureLoopsSpec)

/-- ITS FALSE NEIGHBOUR: 'it returns false'. Refute it at one input. -/
def fnExactClosureLoopsWrong : ChangeSpec := { name := "fnExactClosureLoops", fn := fun _ => fun
  | [d] => { results := [.lit (.bool false)], args := [d] }
  | _ => none }
def FnExactClosureLoopsWrongFalsely : Prop := fnExactClosureLoopsRow.holds Try.pinned (OpenSpec.ofChange fnExactClosureLoopsWrong)

/-- 'laws.FnExactAllDiagrams': WHATEVER THE INPUT: true; the input reads as it did. -/
def fnExactAllDiagramsSpec : ChangeSpec := { name := "fnExactAllDiagrams", fn := fun _ => fun
  | [d] => { results := [.lit (.bool true)], args := [d] }
  | _ => none }
def fnExactAllDiagramsRow : OpenClaim := { program := "ytfbocodkelmemab", sum := "1a25999544637ed68e5a11ee25420bc63f21b3a7f3d57a9817359adee2d62443", func := "loop.example/g01251/laws.FnExactAllDiagrams", spec := "fnExactAllDiagrams", recurses := true, plainKeys := false, apart := false }
def FnExactAllDiagramsSaid : Prop := fnExactAllDiagramsRow.holds Try.pinned (OpenSpec.ofChange fnExactAllDiagramsSpec)

/-- ITS FALSE NEIGHBOUR: 'it returns false'. Refute it at one input. -/
def fnExactAllDiagramsWrong : ChangeSpec := { name := "fnExactAllDiagrams", fn := fun _ => fun
  | [d] => { results := [.lit (.bool false)], args := [d] }
  | _ => none }
def FnExactAllDiagramsWrongFalsely : Prop := fnExactAllDiagramsRow.holds Try.pinned (OpenSpec.ofChange fnExactAllDiagramsWrong)

/-- 'laws.FnExactNumberOfDiagram': WHATEVER THE INPUT: true; the input reads as it did. -/
def fnExactNumberOfDiagramSpec : ChangeSpec := { name := "fnExactNumberOfDiagram", fn := fun _ => fun
  | [d] => { results := [.lit (.bool true)], args := [d] }
  | _ => none }
def fnExactNumberOfDiagramRow : OpenClaim := { program := "ytfbocodkelmemab", sum := "1a25999544637ed68e5a11ee25420bc63f21b3a7f3d57a9817359adee2d62443", func := "loop.example/g01251/laws.FnExactNumberOfDiagram", spec := "fnExactNumberOfDiagram", recurses := true, plainKeys := false, apart := false }
def FnExactNumberOfDiagramSaid : Prop := fnExactNumberOfDiagramRow.holds Try.pinned (OpenSpec.ofChange fnExactNumberOfDiagramSpec)

/-- ITS FALSE NEIGHBOUR: 'it returns false'. Refute it at one input. -/
def fnExactNumberOfDiagramWrong : ChangeSpec := { name := "fnExactNumberOfDiagram", fn := fun _ => fun
  | [d] => { results := [.lit (.bool false)], args := [d] }
  | _ => none }
def FnExactNumberOfDiagramWrongFalsely : Prop := fnExactNumberOfDiagramRow.holds Try.pinned (OpenSpec.ofChange fnExactNumberOfDiagramWrong)

/-- 'laws.FnExactDiagramOfNumber': WHATEVER THE INPUT: true; the input reads as it did. -/
def fnExactDiagramOfNumberSpec : ChangeSpec := { name := "fnExactDiagramOfNumber", fn := fun _ => fun
  | [d1, d2] => { results := [.lit (.bool true)], args := [d1, d2] }
  | _ => none }
def fnExactDiagramOfNumberRow : OpenClaim := { program := "ytfbocodkelmemab", sum := "1a25999544637ed68e5a11ee25420bc63f21b3a7f3d57a9817359adee2d62443", func := "loop.example/g01251/laws.FnExactDiagramOfNumber", spec := "fnExactDiagramOfNumber", recurses := true, plainKeys := false, apart := false }
def FnExactDiagramOfNumberSaid : Prop := fnExactDiagramOfNumberRow.holds Try.pinned (OpenSpec.ofChange fnExactDiagramOfNumberSpec)

/-- ITS FALSE NEIGHBOUR: 'it returns false'. Refute it at one input. -/
def fnExactDiagramOfNumberWrong : ChangeSpec := { name := "fnExactDiagramOfNumber", fn := fun _ => fun
  | [d1, d2] => { results := [.lit (.bool false)], args := [d1, d2] }
  | _ => none }
def FnExactDiagramOfNumberWrongFalsely : Prop := fnExactDiagramOfNumberRow.holds Try.pinned (OpenSpec.ofChange fnExactDiagramOfNumberWrong)

/- THE SECOND FORM. 'bulk': how many values and letters a reading holds, each counted each time it is reached (what is shared counts as often as it is met; a slice's spare places count too). A statement '..UptoSaid' is the law's where the arguments, and the package variables that the reading takes, are together of bulk at most 1048576: NARROWER than '..Said'. Prove '..Said' where nothing that the law and all that it calls make is longer than what came in: it says more and counts as full. Else prove '..UptoSaid'. A law counts once. -/
mutual
def uptoBulk {H : Type} : DataW H → Nat
  | .lit (.string bytes) => bytes.length + 1
  | .lit _ => 1
  | .nil => 1
  | .ptr d => uptoBulk d + 1
  | .slice elems spare => uptoBulkAll elems + uptoBulkAll spare + 1
  | .agg parts => uptoBulkAll parts + 1
  | .iface _ d => uptoBulk d + 1
  | .map entries => uptoBulkEntries entries + 1
  | .held _ => 1
def uptoBulkAll {H : Type} : List (DataW H) → Nat
  | [] => 0
  | d :: r => uptoBulk d + uptoBulkAll r
def uptoBulkEntries {H : Type} : List (Lit × DataW H) → Nat
  | [] => 0
  | x :: r => uptoBulkEntry x + uptoBulkEntries r
def uptoBulkEntry {H : Type} : Lit × DataW H → Nat
  | (.string bytes, d) => bytes.length + uptoBulk d + 1
  | (_, d) => uptoBulk d + 1
 end
def uptoSmall : (H : Type) → List (DataW H) → Bool := fun _ ds => decide (uptoBulkAll ds ≤ 1048576)
def OpenSpec.upto (s : _root_.Go.ChangeSpec) : _root_.Go.OpenSpec := { _root_.Go.OpenSpec.ofChange s with cond := some uptoSmall }

/-- 'laws.FnExactUnionDiagram', WHERE WHAT IT READS IS OF BULK AT MOST 1048576: true; the input reads as it did. -/
def fnExactUnionDiagramUptoRow : OpenClaim := { program := "ytfbocodkelmemab", sum := "1a25999544637ed68e5a11ee25420bc63f21b3a7f3d57a9817359adee2d62443", func := "loop.example/g01251/laws.FnExactUnionDiagram", spec := "fnExactUnionDiagram", unfollowed := true, recurses := true, plainKeys := false, apart := false, narrowed := true }
def FnExactUnionDiagramUptoSaid : Prop := fnExactUnionDiagramUptoRow.holds Try.pinned (OpenSpec.upto fnExactUnionDiagramSpec)

/-- 'laws.FnExactThroughLines', WHERE WHAT IT READS IS OF BULK AT MOST 1048576: true; the input reads as it did. -/
def fnExactThroughLinesUptoRow : OpenClaim := { program := "ytfbocodkelmemab", sum := "1a25999544637ed68e5a11ee25420bc63f21b3a7f3d57a9817359adee2d62443", func := "loop.example/g01251/laws.FnExactThroughLines", spec := "fnExactThroughLines", plainKeys := false, apart := false, narrowed := true }
def FnExactThroughLinesUptoSaid : Prop := fnExactThroughLinesUptoRow.holds Try.pinned (OpenSpec.upto fnExactThroughLinesSpec)

/-- 'laws.FnExactClosureLoops', WHERE WHAT IT READS IS OF BULK AT MOST 1048576: true; the input reads as it did. -/
def fnExactClosureLoopsUptoRow : OpenClaim := { program := "ytfbocodkelmemab", sum := "1a25999544637ed68e5a11ee25420bc63f21b3a7f3d57a9817359adee2d62443", func := "loop.example/g01251/laws.FnExactClosureLoops", spec := "fnExactClosureLoops", plainKeys := false, apart := false, narrowed := true }
def FnExactClosureLoopsUptoSaid : Prop := fnExactClosureLoopsUptoRow.holds Try.pinned (OpenSpec.upto fnExactClosureLoopsSpec)

/-- 'laws.FnExactAllDiagrams', WHERE WHAT IT READS IS OF BULK AT MOST 1048576: true; the input reads as it did. -/
def fnExactAllDiagramsUptoRow : OpenClaim := { program := "ytfbocodkelmemab", sum := "1a25999544637ed68e5a11ee25420bc63f21b3a7f3d57a9817359adee2d62443", func := "loop.example/g01251/laws.FnExactAllDiagrams", spec := "fnExactAllDiagrams", recurses := true, plainKeys := false, apart := false, narrowed := true }
def FnExactAllDiagramsUptoSaid : Prop := fnExactAllDiagramsUptoRow.holds Try.pinned (OpenSpec.upto fnExactAllDiagramsSpec)

/-- 'laws.FnExactNumberOfDiagram', WHERE WHAT IT READS IS OF BULK AT MOST 1048576: true; the input reads as it did. -/
def fnExactNumberOfDiagramUptoRow : OpenClaim := { program := "ytfbocodkelmemab", sum := "1a25999544637ed68e5a11ee25420bc63f21b3a7f3d57a9817359adee2d62443", func := "loop.example/g01251/laws.FnExactNumberOfDiagram", spec := "fnExactNumberOfDiagram", recurses := true, plainKeys := false, apart := false, narrowed := true }
def FnExactNumberOfDiagramUptoSaid : Prop := fnExactNumberOfDiagramUptoRow.holds Try.pinned (OpenSpec.upto fnExactNumberOfDiagramSpec)

/-- 'laws.FnExactDiagramOfNumber', WHERE WHAT IT READS IS OF BULK AT MOST 1048576: true; the input reads as it did. -/
def fnExactDiagramOfNumberUptoRow : OpenClaim := { program := "ytfbocodkelmemab", sum := "1a25999544637ed68e5a11ee25420bc63f21b3a7f3d57a9817359adee2d62443", func := "loop.example/g01251/laws.FnExactDiagramOfNumber", spec := "fnExactDiagramOfNumber", recurses := true, plainKeys := false, apart := false, narrowed := true }
def FnExactDiagramOfNumberUptoSaid : Prop := fnExactDiagramOfNumberUptoRow.holds Try.pinned (OpenSpec.upto fnExactDiagramOfNumberSpec)

end Rows
end Go.Proofs.Ytfbocodkelmemab
