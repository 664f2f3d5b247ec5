/-
  No cell of these rows narrows 'for every input' (looked for: loops, veiled, ifaces, maps, wideKeys, modest, calm, conditions, laid).
  DERIVED. THE GIVEN ROWS OF THIS SEAT. 5 by the template 'for every input the law returns true; each argument reads behind the call as it read before'; 0 by the template 'total and deterministic' (their statements: YtpjlienelkflhaaTotals.lean).
  GIVEN WITH THE SEED: the statements are not yours to turn. If you find one false, say at which input.
  Laid BY PROGRAM, IN A SANDBOX (cutbox-rows.mjs): the forced cells as the released guide's own fill.sh prints them over the translation 2dd16a5946102c4f… (all of the seat's roots in one cut). By AI agents, Wed Nov 11 2026. No macro, syntax, notation, axiom, sorry.
-/
import Derived.Test.YtpjlienelkflhaaChecked
import GoSem.Claim
import GoSem.ClaimJoined
import GoSem.ClaimMapViews
import Derived.JoinedTies
import Derived.KernelRfl
namespace Go.Proofs.Ytpjlienelkflhaa
/- THE CELL 'sum', in the pinned program and in every row, IS THE sha256 OF THE DUMP (.gsa) THAT YtpjlienelkflhaaProg.lean LOADS. Nothing in Lean hashes anything: it is a label: what it is worth is what the hold of that sum in a sandbox is worth. -/
noncomputable def Try.pinned : Pinned := { name := "ytpjlienelkflhaa", sum := "2dd16a5946102c4f754cd91dbdecfbf4746f37f6777a995a969be058f4483fba", checked := Try.checked }
namespace Rows
def none {H : Type} : Left H := { results := [], args := [] }

/-- 'laws.FnExactAllDiagrams': WHATEVER THE INPUT: true; the input reads as it did. -/
def fnExactAllDiagramsSpec : ChangeSpec := { name := "fnExactAllDiagrams", fn := fun _ => fun
  | [d] => { results := [.lit (.bool true)], args := [d] }
  | _ => none }
def fnExactAllDiagramsRow : OpenClaim := { program := "ytpjlienelkflhaa", sum := "2dd16a5946102c4f754cd91dbdecfbf4746f37f6777a995a969be058f4483fba", func := "loop.example/g01251/laws.FnExactAllDiagrams", spec := "fnExactAllDiagrams", recurses := true, plainKeys := false, apart := false }
def FnExactAllDiagramsSaid : Prop := fnExactAllDiagramsRow.holds Try.pinned (OpenSpec.ofChange fnExactAllDiagramsSpec)

/-- ITS FALSE NEIGHBOUR: 'it returns false'. Refute it at one input. -/
def fnExactAllDiagramsWrong : ChangeSpec := { name := "fnExactAllDiagrams", fn := fun _ => fun
  | [d] => { results := [.lit (.bool false)], args := [d] }
  | _ => none }
def FnExactAllDiagramsWrongFalsely : Prop := fnExactAllDiagramsRow.holds Try.pinned (OpenSpec.ofChange fnExactAllDiagramsWrong)

/-- 'laws.FnExactDiagramOfNumber': WHATEVER THE INPUT: true; the input reads as it did. -/
def fnExactDiagramOfNumberSpec : ChangeSpec := { name := "fnExactDiagramOfNumber", fn := fun _ => fun
  | [d1, d2] => { results := [.lit (.bool true)], args := [d1, d2] }
  | _ => none }
def fnExactDiagramOfNumberRow : OpenClaim := { program := "ytpjlienelkflhaa", sum := "2dd16a5946102c4f754cd91dbdecfbf4746f37f6777a995a969be058f4483fba", func := "loop.example/g01251/laws.FnExactDiagramOfNumber", spec := "fnExactDiagramOfNumber", recurses := true, plainKeys := false, apart := false }
def FnExactDiagramOfNumberSaid : Prop := fnExactDiagramOfNumberRow.holds Try.pinned (OpenSpec.ofChange fnExactDiagramOfNumberSpec)

/-- ITS FALSE NEIGHBOUR: 'it returns false'. Refute it at one input. -/
def fnExactDiagramOfNumberWrong : ChangeSpec := { name := "fnExactDiagramOfNumber", fn := fun _ => fun
  | [d1, d2] => { results := [.lit (.bool false)], args := [d1, d2] }
  | _ => none }
def FnExactDiagramOfNumberWrongFalsely : Prop := fnExactDiagramOfNumberRow.holds Try.pinned (OpenSpec.ofChange fnExactDiagramOfNumberWrong)

/-- 'laws.FnExactNumberOfDiagram': WHATEVER THE INPUT: true; the input reads as it did. -/
def fnExactNumberOfDiagramSpec : ChangeSpec := { name := "fnExactNumberOfDiagram", fn := fun _ => fun
  | [d] => { results := [.lit (.bool true)], args := [d] }
  | _ => none }
def fnExactNumberOfDiagramRow : OpenClaim := { program := "ytpjlienelkflhaa", sum := "2dd16a5946102c4f754cd91dbdecfbf4746f37f6777a995a969be058f4483fba", func := "loop.example/g01251/laws.FnExactNumberOfDiagram", spec := "fnExactNumberOfDiagram", recurses := true, plainKeys := false, apart := false }
def FnExactNumberOfDiagramSaid : Prop := fnExactNumberOfDiagramRow.holds Try.pinned (OpenSpec.ofChange fnExactNumberOfDiagramSpec)

/-- ITS FALSE NEIGHBOUR: 'it returns false'. Refute it at one input. -/
def fnExactNumberOfDiagramWrong : ChangeSpec := { name := "fnExactNumberOfDiagram", fn := fun _ => fun
  | [d] => { results := [.lit (.bool false)], args := [d] }
  | _ => none }
def FnExactNumberOfDiagramWrongFalsely : Prop := fnExactNumberOfDiagramRow.holds Try.pinned (OpenSpec.ofChange fnExactNumberOfDiagramWrong)

/-- 'laws.FnExactCountBlobbed': WHATEVER THE INPUT: true; the input reads as it did. -/
def fnExactCountBlobbedSpec : ChangeSpec := { name := "fnExactCountBlobbed", fn := fun _ => fun
  | [d] => { results := [.lit (.bool true)], args := [d] }
  | _ => none }
def fnExactCountBlobbedRow : OpenClaim := { program := "ytpjlienelkflhaa", sum := "2dd16a5946102c4f754cd91dbdecfbf4746f37f6777a995a969be058f4483fba", func := "loop.example/g01251/laws.FnExactCountBlobbed", spec := "fnExactCountBlobbed", recurses := true, plainKeys := false, apart := false }
def FnExactCountBlobbedSaid : Prop := fnExactCountBlobbedRow.holds Try.pinned (OpenSpec.ofChange fnExactCountBlobbedSpec)

/-- ITS FALSE NEIGHBOUR: 'it returns false'. Refute it at one input. -/
def fnExactCountBlobbedWrong : ChangeSpec := { name := "fnExactCountBlobbed", fn := fun _ => fun
  | [d] => { results := [.lit (.bool false)], args := [d] }
  | _ => none }
def FnExactCountBlobbedWrongFalsely : Prop := fnExactCountBlobbedRow.holds Try.pinned (OpenSpec.ofChange fnExactCountBlobbedWrong)

/-- 'laws.FnExactAllBlobbed': WHATEVER THE INPUT: true; the input reads as it did. -/
def fnExactAllBlobbedSpec : ChangeSpec := { name := "fnExactAllBlobbed", fn := fun _ => fun
  | [d] => { results := [.lit (.bool true)], args := [d] }
  | _ => none }
def fnExactAllBlobbedRow : OpenClaim := { program := "ytpjlienelkflhaa", sum := "2dd16a5946102c4f754cd91dbdecfbf4746f37f6777a995a969be058f4483fba", func := "loop.example/g01251/laws.FnExactAllBlobbed", spec := "fnExactAllBlobbed", recurses := true, plainKeys := false, apart := false }
def FnExactAllBlobbedSaid : Prop := fnExactAllBlobbedRow.holds Try.pinned (OpenSpec.ofChange fnExactAllBlobbedSpec)

/-- ITS FALSE NEIGHBOUR: 'it returns false'. Refute it at one input. -/
def fnExactAllBlobbedWrong : ChangeSpec := { name := "fnExactAllBlobbed", fn := fun _ => fun
  | [d] => { results := [.lit (.bool false)], args := [d] }
  | _ => none }
def FnExactAllBlobbedWrongFalsely : Prop := fnExactAllBlobbedRow.holds Try.pinned (OpenSpec.ofChange fnExactAllBlobbedWrong)

/- THE SECOND FORM. 'bulk': how many values and letters a reading holds, each counted each time it is reached (what is shared counts as often as it is met; a slice's spare places count too). A statement '..UptoSaid' is the law's where the arguments, and the package variables that the reading takes, are together of bulk at most 1048576: NARROWER than '..Said'. Prove '..Said' where nothing that the law and all that it calls make is longer than what came in: it says more and counts as full. Else prove '..UptoSaid'. A law counts once. -/
mutual
def uptoBulk {H : Type} : DataW H → Nat
  | .lit (.string bytes) => bytes.length + 1
  | .lit _ => 1
  | .nil => 1
  | .ptr d => uptoBulk d + 1
  | .slice elems spare => uptoBulkAll elems + uptoBulkAll spare + 1
  | .agg parts => uptoBulkAll parts + 1
  | .iface _ d => uptoBulk d + 1
  | .map entries => uptoBulkEntries entries + 1
  | .held _ => 1
def uptoBulkAll {H : Type} : List (DataW H) → Nat
  | [] => 0
  | d :: r => uptoBulk d + uptoBulkAll r
def uptoBulkEntries {H : Type} : List (Lit × DataW H) → Nat
  | [] => 0
  | x :: r => uptoBulkEntry x + uptoBulkEntries r
def uptoBulkEntry {H : Type} : Lit × DataW H → Nat
  | (.string bytes, d) => bytes.length + uptoBulk d + 1
  | (_, d) => uptoBulk d + 1
 end
def uptoSmall : (H : Type) → List (DataW H) → Bool := fun _ ds => decide (uptoBulkAll ds ≤ 1048576)
def OpenSpec.upto (s : _root_.Go.ChangeSpec) : _root_.Go.OpenSpec := { _root_.Go.OpenSpec.ofChange s with cond := some uptoSmall }

/-- 'laws.FnExactAllDiagrams', WHERE WHAT IT READS IS OF BULK AT MOST 1048576: true; the input reads as it did. -/
def fnExactAllDiagramsUptoRow : OpenClaim := { program := "ytpjlienelkflhaa", sum := "2dd16a5946102c4f754cd91dbdecfbf4746f37f6777a995a969be058f4483fba", func := "loop.example/g01251/laws.FnExactAllDiagrams", spec := "fnExactAllDiagrams", recurses := true, plainKeys := false, apart := false, narrowed := true }
def FnExactAllDiagramsUptoSaid : Prop := fnExactAllDiagramsUptoRow.holds Try.pinned (OpenSpec.upto fnExactAllDiagramsSpec)

/-- 'laws.FnExactDiagramOfNumber', WHERE WHAT IT READS IS OF BULK AT MOST 1048576: true; the input reads as it did. -/
def fnExactDiagramOfNumberUptoRow : OpenClaim := { program := "ytpjlienelkflhaa", sum := "2dd16a5946102c4f754cd91dbdecfbf4746f37f6777a995a969be058f4483fba", func := "loop.example/g01251/laws.FnExactDiagramOfNumber", spec := "fnExactDiagramOfNumber", recurses := true, plainKeys := false, apart := false, narrowed := true }
def FnExactDiagramOfNumberUptoSaid : Prop := fnExactDiagramOfNumberUptoRow.holds Try.pinned (OpenSpec.upto fnExactDiagramOfNumberSpec)

/-- 'laws.FnExactNumberOfDiagram', WHERE WHAT IT READS IS OF BULK AT MOST 1048576: true; the input reads as it did. -/
def fnExactNumberOfDiagramUptoRow : OpenClaim := { program := "ytpjlienelkflhaa", sum := "2dd16a5946102c4f754cd91dbdecfbf4746f37f6777a995a969be058f4483fba", func := "loop.example/g01251/laws.FnExactNumberOfDiagram", spec := "fnExactNumberOfDiagram", recurses := true, plainKeys := false, apart := false, narrowed := true }
def FnExactNumberOfDiagramUptoSaid : Prop := fnExactNumberOfDiagramUptoRow.holds Try.pinned (OpenSpec.upto fnExactNumberOfDiagramSpec)

/-- 'laws.FnExactCountBlobbed', WHERE WHAT IT READS IS OF BULK AT MOST 1048576: true; the input reads as it did. -/
def fnExactCountBlobbedUptoRow : OpenClaim := { program := "ytpjlienelkflhaa", sum := "2dd16a5946102c4f754cd91dbdecfbf4746f37f6777a995a969be058f4483fba", func := "loop.example/g01251/laws.FnExactCountBlobbed", spec := "fnExactCountBlobbed", recurses := true, plainKeys := false, apart := false, narrowed := true }
def FnExactCountBlobbedUptoSaid : Prop := fnExactCountBlobbedUptoRow.holds Try.pinned (OpenSpec.upto fnExactCountBlobbedSpec)

/-- 'laws.FnExactAllBlobbed', WHERE WHAT IT READS IS OF BULK AT MOST 1048576: true; the input reads as it did. -/
def fnExactAllBlobbedUptoRow : OpenClaim := { program := "ytpjlienelkflhaa", sum := "2dd16a5946102c4f754cd91dbdecfbf4746f37f6777a995a969be058f4483fba", func := "loop.example/g01251/laws.FnExactAllBlobbed", spec := "fnExactAllBlobbed", recurses := true, plainKeys := false, apart := false, narrowed := true }
def FnExactAllBlobbedUptoSaid : Prop := fnExactAllBlobbedUptoRow.holds Try.pinned (OpenSpec.upto fnExactAllBlobbedSpec)

end Rows
end Go.Proofs.Ytpjlienelkflhaa
