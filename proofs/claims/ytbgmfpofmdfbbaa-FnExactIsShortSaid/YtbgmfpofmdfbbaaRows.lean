/-
  No cell of these rows narrows 'for every input' (looked for: loops, veiled, ifaces, maps, wideKeys, modest, calm, conditions, laid).
  DERIVED. THE GIVEN ROWS OF THIS SEAT. 10 by the template 'for every input the law returns true; each argument reads behind the call as it read before'; 0 by the template 'total and deterministic' (their statements: YtbgmfpofmdfbbaaTotals.lean).
  GIVEN WITH THE SEED: the statements are not yours to turn. If you find one false, say at which input.
  Laid BY PROGRAM, IN A SANDBOX (cutbox-rows.mjs): the forced cells as the released guide's own fill.sh prints them over the translation 9e4534f077e80bc0… (all of the seat's roots in one cut). By AI agents, Wed Nov 11 2026. No macro, syntax, notation, axiom, sorry.
-/
import Derived.Test.YtbgmfpofmdfbbaaChecked
import GoSem.Claim
import GoSem.ClaimJoined
import GoSem.ClaimMapViews
import Derived.JoinedTies
import Derived.KernelRfl
namespace Go.Proofs.Ytbgmfpofmdfbbaa
/- THE CELL 'sum', in the pinned program and in every row, IS THE sha256 OF THE DUMP (.gsa) THAT YtbgmfpofmdfbbaaProg.lean LOADS. Nothing in Lean hashes anything: it is a label: what it is worth is what the hold of that sum in a sandbox is worth. -/
noncomputable def Try.pinned : Pinned := { name := "ytbgmfpofmdfbbaa", sum := "9e4534f077e80bc04de52703d36102fc9be7c7fe03d9d4e368424d08e16a3c05", checked := Try.checked }
namespace Rows
def none {H : Type} : Left H := { results := [], args := [] }

/-- 'laws.FnExactMultiplyDiagrams': WHATEVER THE INPUT: true; the input reads as it did. -/
def fnExactMultiplyDiagramsSpec : ChangeSpec := { name := "fnExactMultiplyDiagrams", fn := fun _ => fun
  | [d1, d2] => { results := [.lit (.bool true)], args := [d1, d2] }
  | _ => none }
def fnExactMultiplyDiagramsRow : OpenClaim := { program := "ytbgmfpofmdfbbaa", sum := "9e4534f077e80bc04de52703d36102fc9be7c7fe03d9d4e368424d08e16a3c05", func := "loop.example/g01251/laws.FnExactMultiplyDiagrams", spec := "fnExactMultiplyDiagrams", plainKeys := false, apart := false }
def FnExactMultiplyDiagramsSaid : Prop := fnExactMultiplyDiagramsRow.holds Try.pinned (OpenSpec.ofChange fnExactMultiplyDiagramsSpec)

/-- ITS FALSE NEIGHBOUR: 'it returns false'. Refute it at one input. -/
def fnExactMultiplyDiagramsWrong : ChangeSpec := { name := "fnExactMultiplyDiagrams", fn := fun _ => fun
  | [d1, d2] => { results := [.lit (.bool false)], args := [d1, d2] }
  | _ => none }
def FnExactMultiplyDiagramsWrongFalsely : Prop := fnExactMultiplyDiagramsRow.holds Try.pinned (OpenSpec.ofChange fnExactMultiplyDiagramsWrong)

/-- 'laws.FnExactAllDiagrams': WHATEVER THE INPUT: true; the input reads as it did. -/
def fnExactAllDiagramsSpec : ChangeSpec := { name := "fnExactAllDiagrams", fn := fun _ => fun
  | [d] => { results := [.lit (.bool true)], args := [d] }
  | _ => none }
def fnExactAllDiagramsRow : OpenClaim := { program := "ytbgmfpofmdfbbaa", sum := "9e4534f077e80bc04de52703d36102fc9be7c7fe03d9d4e368424d08e16a3c05", func := "loop.example/g01251/laws.FnExactAllDiagrams", spec := "fnExactAllDiagrams", recurses := true, plainKeys := false, apart := false }
def FnExactAllDiagramsSaid : Prop := fnExactAllDiagramsRow.holds Try.pinned (OpenSpec.ofChange fnExactAllDiagramsSpec)

/-- ITS FALSE NEIGHBOUR: 'it returns false'. Refute it at one input. -/
def fnExactAllDiagramsWrong : ChangeSpec := { name := "fnExactAllDiagrams", fn := fun _ => fun
  | [d] => { results := [.lit (.bool false)], args := [d] }
  | _ => none }
def FnExactAllDiagramsWrongFalsely : Prop := fnExactAllDiagramsRow.holds Try.pinned (OpenSpec.ofChange fnExactAllDiagramsWrong)

/-- 'laws.FnExactNumberOfDiagram': WHATEVER THE INPUT: true; the input reads as it did. -/
def fnExactNumberOfDiagramSpec : ChangeSpec := { name := "fnExactNumberOfDiagram", fn := fun _ => fun
  | [d] => { results := [.lit (.bool true)], args := [d] }
  | _ => none }
def fnExactNumberOfDiagramRow : OpenClaim := { program := "ytbgmfpofmdfbbaa", sum := "9e4534f077e80bc04de52703d36102fc9be7c7fe03d9d4e368424d08e16a3c05", func := "loop.example/g01251/laws.FnExactNumberOfDiagram", spec := "fnExactNumberOfDiagram", recurses := true, plainKeys := false, apart := false }
def FnExactNumberOfDiagramSaid : Prop := fnExactNumberOfDiagramRow.holds Try.pinned (OpenSpec.ofChange fnExactNumberOfDiagramSpec)

/-- ITS FALSE NEIGHBOUR: 'it returns false'. Refute it at one input. -/
def fnExactNumberOfDiagramWrong : ChangeSpec := { name := "fnExactNumberOfDiagram", fn := fun _ => fun
  | [d] => { results := [.lit (.bool false)], args := [d] }
  | _ => none }
def FnExactNumberOfDiagramWrongFalsely : Prop := fnExactNumberOfDiagramRow.holds Try.pinned (OpenSpec.ofChange fnExactNumberOfDiagramWrong)

/-- 'laws.FnExactDiagramOfNumber': WHATEVER THE INPUT: true; the input reads as it did. -/
def fnExactDiagramOfNumberSpec : ChangeSpec := { name := "fnExactDiagramOfNumber", fn := fun _ => fun
  | [d1, d2] => { results := [.lit (.bool true)], args := [d1, d2] }
  | _ => none }
def fnExactDiagramOfNumberRow : OpenClaim := { program := "ytbgmfpofmdfbbaa", sum := "9e4534f077e80bc04de52703d36102fc9be7c7fe03d9d4e368424d08e16a3c05", func := "loop.example/g01251/laws.FnExactDiagramOfNumber", spec := "fnExactDiagramOfNumber", recurses := true, plainKeys := false, apart := false }
def FnExactDiagramOfNumberSaid : Prop := fnExactDiagramOfNumberRow.holds Try.pinned (OpenSpec.ofChange fnExactDiagramOfNumberSpec)

/-- ITS FALSE NEIGHBOUR: 'it returns false'. Refute it at one input. -/
def fnExactDiagramOfNumberWrong : ChangeSpec := { name := "fnExactDiagramOfNumber", fn := fun _ => fun
  | [d1, d2] => { results := [.lit (.bool false)], args := [d1, d2] }
  | _ => none }
def FnExactDiagramOfNumberWrongFalsely : Prop := fnExactDiagramOfNumberRow.holds Try.pinned (OpenSpec.ofChange fnExactDiagramOfNumberWrong)

/-- 'laws.FnExactValueOfWord': WHATEVER THE INPUT: true; the input reads as it did. -/
def fnExactValueOfWordSpec : ChangeSpec := { name := "fnExactValueOfWord", fn := fun _ => fun
  | [d1, d2] => { results := [.lit (.bool true)], args := [d1, d2] }
  | _ => none }
def fnExactValueOfWordRow : OpenClaim := { program := "ytbgmfpofmdfbbaa", sum := "9e4534f077e80bc04de52703d36102fc9be7c7fe03d9d4e368424d08e16a3c05", func := "loop.example/g01251/laws.FnExactValueOfWord", spec := "fnExactValueOfWord", plainKeys := false, apart := false }
def FnExactValueOfWordSaid : Prop := fnExactValueOfWordRow.holds Try.pinned (OpenSpec.ofChange fnExactValueOfWordSpec)

/-- ITS FALSE NEIGHBOUR: 'it returns false'. Refute it at one input. -/
def fnExactValueOfWordWrong : ChangeSpec := { name := "fnExactValueOfWord", fn := fun _ => fun
  | [d1, d2] => { results := [.lit (.bool false)], args := [d1, d2] }
  | _ => none }
def FnExactValueOfWordWrongFalsely : Prop := fnExactValueOfWordRow.holds Try.pinned (OpenSpec.ofChange fnExactValueOfWordWrong)

/-- 'laws.FnExactIsShort': WHATEVER THE INPUT: true; the input reads as it did. -/
def fnExactIsShortSpec : ChangeSpec := { name := "fnExactIsShort", fn := fun _ => fun
  | [d] => { results := [.lit (.bool true)], args := [d] }
  | _ => none }
def fnExactIsShortRow : OpenClaim := { program := "ytbgmfpofmdfbbaa", sum := "9e4534f077e80bc04de52703d36102fc9be7c7fe03d9d4e368424d08e16a3c05", func := "loop.example/g01251/laws.FnExactIsShort", spec := "fnExactIsShort", unfollowed := true, recurses := true, plainKeys := false, apart := false }
def FnExactIsShortSaid : Prop := fnExactIsShortRow.holds Try.pinned (OpenSpec.ofChange fnExactIsShortSpec)

/-- ITS FALSE NEIGHBOUR: 'it returns false'. Refute it at one input. -/
def fnExactIsShortWrong : ChangeSpec := { name := "fnExactIsShort", fn := fun _ => fun
  | [d] => { results := [.lit (.bool false)], args := [d] }
  | _ => none }
def FnExactIsShortWrongFalsely : Prop := fnExactIsShortRow.holds Try.pinned (OpenSpec.ofChange fnExactIsShortWrong)

/-- 'laws.FnExactWordText': WHATEVER THE INPUT: true; the input reads as it did. -/
def fnExactWordTextSpec : ChangeSpec := { name := "fnExactWordText", fn := fun _ => fun
  | [d1, d2] => { results := [.lit (.bool true)], args := [d1, d2] }
  | _ => none }
def fnExactWordTextRow : OpenClaim := { program := "ytbgmfpofmdfbbaa", sum := "9e4534f077e80bc04de52703d36102fc9be7c7fe03d9d4e368424d08e16a3c05", func := "loop.example/g01251/laws.FnExactWordText", spec := "fnExactWordText", recurses := true, plainKeys := false, apart := false }
def FnExactWordTextSaid : Prop := fnExactWordTextRow.holds Try.pinned (OpenSpec.ofChange fnExactWordTextSpec)

/-- ITS FALSE NEIGHBOUR: 'it returns false'. Refute it at one input. -/
def fnExactWordTextWrong : ChangeSpec := { name := "fnExactWordText", fn := fun _ => fun
  | [d1, d2] => { results := [.lit (.bool false)], args := [d1, d2] }
  | _ => none }
def FnExactWordTextWrongFalsely : Prop := fnExactWordTextRow.holds Try.pinned (OpenSpec.ofChange fnExactWordTextWrong)

/-- 'laws.FnExactParseWord': WHATEVER THE INPUT: true; the input reads as it did. -/
def fnExactParseWordSpec : ChangeSpec := { name := "fnExactParseWord", fn := fun _ => fun
  | [d1, d2] => { results := [.lit (.bool true)], args := [d1, d2] }
  | _ => none }
def fnExactParseWordRow : OpenClaim := { program := "ytbgmfpofmdfbbaa", sum := "9e4534f077e80bc04de52703d36102fc9be7c7fe03d9d4e368424d08e16a3c05", func := "loop.example/g01251/laws.FnExactParseWord", spec := "fnExactParseWord", plainKeys := false, apart := false }
def FnExactParseWordSaid : Prop := fnExactParseWordRow.holds Try.pinned (OpenSpec.ofChange fnExactParseWordSpec)

/-- ITS FALSE NEIGHBOUR: 'it returns false'. Refute it at one input. -/
def fnExactParseWordWrong : ChangeSpec := { name := "fnExactParseWord", fn := fun _ => fun
  | [d1, d2] => { results := [.lit (.bool false)], args := [d1, d2] }
  | _ => none }
def FnExactParseWordWrongFalsely : Prop := fnExactParseWordRow.holds Try.pinned (OpenSpec.ofChange fnExactParseWordWrong)

/-- 'laws.FnExactDescentsOf': WHATEVER THE INPUT: true; the input reads as it did. -/
def fnExactDescentsOfSpec : ChangeSpec := { name := "fnExactDescentsOf", fn := fun _ => fun
  | [d] => { results := [.lit (.bool true)], args := [d] }
  | _ => none }
def fnExactDescentsOfRow : OpenClaim := { program := "ytbgmfpofmdfbbaa", sum := "9e4534f077e80bc04de52703d36102fc9be7c7fe03d9d4e368424d08e16a3c05", func := "loop.example/g01251/laws.FnExactDescentsOf", spec := "fnExactDescentsOf", plainKeys := false, apart := false }
def FnExactDescentsOfSaid : Prop := fnExactDescentsOfRow.holds Try.pinned (OpenSpec.ofChange fnExactDescentsOfSpec)

/-- ITS FALSE NEIGHBOUR: 'it returns false'. Refute it at one input. -/
def fnExactDescentsOfWrong : ChangeSpec := { name := "fnExactDescentsOf", fn := fun _ => fun
  | [d] => { results := [.lit (.bool false)], args := [d] }
  | _ => none }
def FnExactDescentsOfWrongFalsely : Prop := fnExactDescentsOfRow.holds Try.pinned (OpenSpec.ofChange fnExactDescentsOfWrong)

/-- 'laws.FnExactIsReducedWord': WHATEVER THE INPUT: true; the input reads as it did. -/
def fnExactIsReducedWordSpec : ChangeSpec := { name := "fnExactIsReducedWord", fn := fun _ => fun
  | [d1, d2] => { results := [.lit (.bool true)], args := [d1, d2] }
  | _ => none }
def fnExactIsReducedWordRow : OpenClaim := { program := "ytbgmfpofmdfbbaa", sum := "9e4534f077e80bc04de52703d36102fc9be7c7fe03d9d4e368424d08e16a3c05", func := "loop.example/g01251/laws.FnExactIsReducedWord", spec := "fnExactIsReducedWord", unfollowed := true, recurses := true, plainKeys := false, apart := false }
def FnExactIsReducedWordSaid : Prop := fnExactIsReducedWordRow.holds Try.pinned (OpenSpec.ofChange fnExactIsReducedWordSpec)

/-- ITS FALSE NEIGHBOUR: 'it returns false'. Refute it at one input. -/
def fnExactIsReducedWordWrong : ChangeSpec := { name := "fnExactIsReducedWord", fn := fun _ => fun
  | [d1, d2] => { results := [.lit (.bool false)], args := [d1, d2] }
  | _ => none }
def FnExactIsReducedWordWrongFalsely : Prop := fnExactIsReducedWordRow.holds Try.pinned (OpenSpec.ofChange fnExactIsReducedWordWrong)

/- THE SECOND FORM. 'bulk': how many values and letters a reading holds, each counted each time it is reached (what is shared counts as often as it is met; a slice's spare places count too). A statement '..UptoSaid' is the law's where the arguments, and the package variables that the reading takes, are together of bulk at most 1048576: NARROWER than '..Said'. Prove '..Said' where nothing that the law and all that it calls make is longer than what came in: it says more and counts as full. Else prove '..UptoSaid'. A law counts once. -/
mutual
def uptoBulk {H : Type} : DataW H → Nat
  | .lit (.string bytes) => bytes.length + 1
  | .lit _ => 1
  | .nil => 1
  | .ptr d => uptoBulk d + 1
  | .slice elems spare => uptoBulkAll elems + uptoBulkAll spare + 1
  | .agg parts => uptoBulkAll parts + 1
  | .iface _ d => uptoBulk d + 1
  | .map entries => uptoBulkEntries entries + 1
  | .held _ => 1
def uptoBulkAll {H : Type} : List (DataW H) → Nat
  | [] => 0
  | d :: r => uptoBulk d + uptoBulkAll r
def uptoBulkEntries {H : Type} : List (Lit × DataW H) → Nat
  | [] => 0
  | x :: r => uptoBulkEntry x + uptoBulkEntries r
def uptoBulkEntry {H : Type} : Lit × DataW H → Nat
  | (.string bytes, d) => bytes.length + uptoBulk d + 1
  | (_, d) => uptoBulk d + 1
 end
def uptoSmall : (H : Type) → List (DataW H) → Bool := fun _ ds => decide (uptoBulkAll ds ≤ 1048576)
def OpenSpec.upto (s : _root_.Go.ChangeSpec) : _root_.Go.OpenSpec := { _root_.Go.OpenSpec.ofChange s with cond := some uptoSmall }

/-- 'laws.FnExactMultiplyDiagrams', WHERE WHAT IT READS IS OF BULK AT MOST 1048576: true; the input reads as it did. -/
def fnExactMultiplyDiagramsUptoRow : OpenClaim := { program := "ytbgmfpofmdfbbaa", sum := "9e4534f077e80bc04de52703d36102fc9be7c7fe03d9d4e368424d08e16a3c05", func := "loop.example/g01251/laws.FnExactMultiplyDiagrams", spec := "fnExactMultiplyDiagrams", plainKeys := false, apart := false, narrowed := true }
def FnExactMultiplyDiagramsUptoSaid : Prop := fnExactMultiplyDiagramsUptoRow.holds Try.pinned (OpenSpec.upto fnExactMultiplyDiagramsSpec)

/-- 'laws.FnExactAllDiagrams', WHERE WHAT IT READS IS OF BULK AT MOST 1048576: true; the input reads as it did. -/
def fnExactAllDiagramsUptoRow : OpenClaim := { program := "ytbgmfpofmdfbbaa", sum := "9e4534f077e80bc04de52703d36102fc9be7c7fe03d9d4e368424d08e16a3c05", func := "loop.example/g01251/laws.FnExactAllDiagrams", spec := "fnExactAllDiagrams", recurses := true, plainKeys := false, apart := false, narrowed := true }
def FnExactAllDiagramsUptoSaid : Prop := fnExactAllDiagramsUptoRow.holds Try.pinned (OpenSpec.upto fnExactAllDiagramsSpec)

/-- 'laws.FnExactNumberOfDiagram', WHERE WHAT IT READS IS OF BULK AT MOST 1048576: true; the input reads as it did. -/
def fnExactNumberOfDiagramUptoRow : OpenClaim := { program := "ytbgmfpofmdfbbaa", sum := "9e4534f077e80bc04de52703d36102fc9be7c7fe03d9d4e368424d08e16a3c05", func := "loop.example/g01251/laws.FnExactNumberOfDiagram", spec := "fnExactNumberOfDiagram", recurses := true, plainKeys := false, apart := false, narrowed := true }
def FnExactNumberOfDiagramUptoSaid : Prop := fnExactNumberOfDiagramUptoRow.holds Try.pinned (OpenSpec.upto fnExactNumberOfDiagramSpec)

/-- 'laws.FnExactDiagramOfNumber', WHERE WHAT IT READS IS OF BULK AT MOST 1048576: true; the input reads as it did. -/
def fnExactDiagramOfNumberUptoRow : OpenClaim := { program := "ytbgmfpofmdfbbaa", sum := "9e4534f077e80bc04de52703d36102fc9be7c7fe03d9d4e368424d08e16a3c05", func := "loop.example/g01251/laws.FnExactDiagramOfNumber", spec := "fnExactDiagramOfNumber", recurses := true, plainKeys := false, apart := false, narrowed := true }
def FnExactDiagramOfNumberUptoSaid : Prop := fnExactDiagramOfNumberUptoRow.holds Try.pinned (OpenSpec.upto fnExactDiagramOfNumberSpec)

/-- 'laws.FnExactValueOfWord', WHERE WHAT IT READS IS OF BULK AT MOST 1048576: true; the input reads as it did. -/
def fnExactValueOfWordUptoRow : OpenClaim := { program := "ytbgmfpofmdfbbaa", sum := "9e4534f077e80bc04de52703d36102fc9be7c7fe03d9d4e368424d08e16a3c05", func := "loop.example/g01251/laws.FnExactValueOfWord", spec := "fnExactValueOfWord", plainKeys := false, apart := false, narrowed := true }
def FnExactValueOfWordUptoSaid : Prop := fnExactValueOfWordUptoRow.holds Try.pinned (OpenSpec.upto fnExactValueOfWordSpec)

/-- 'laws.FnExactIsShort', WHERE WHAT IT READS IS OF BULK AT MOST 1048576: true; the input reads as it did. -/
def fnExactIsShortUptoRow : OpenClaim := { program := "ytbgmfpofmdfbbaa", sum := "9e4534f077e80bc04de52703d36102fc9be7c7fe03d9d4e368424d08e16a3c05", func := "loop.example/g01251/laws.FnExactIsShort", spec := "fnExactIsShort", unfollowed := true, recurses := true, plainKeys := false, apart := false, narrowed := true }
def FnExactIsShortUptoSaid : Prop := fnExactIsShortUptoRow.holds Try.pinned (OpenSpec.upto fnExactIsShortSpec)

/-- 'laws.FnExactWordText', WHERE WHAT IT READS IS OF BULK AT MOST 1048576: true; the input reads as it did. -/
def fnExactWordTextUptoRow : OpenClaim := { program := "ytbgmfpofmdfbbaa", sum := "9e4534f077e80bc04de52703d36102fc9be7c7fe03d9d4e368424d08e16a3c05", func := "loop.example/g01251/laws.FnExactWordText", spec := "fnExactWordText", recurses := true, plainKeys := false, apart := false, narrowed := true }
def FnExactWordTextUptoSaid : Prop := fnExactWordTextUptoRow.holds Try.pinned (OpenSpec.upto fnExactWordTextSpec)

/-- 'laws.FnExactParseWord', WHERE WHAT IT READS IS OF BULK AT MOST 1048576: true; the input reads as it did. -/
def fnExactParseWordUptoRow : OpenClaim := { program := "ytbgmfpofmdfbbaa", sum := "9e4534f077e80bc04de52703d36102fc9be7c7fe03d9d4e368424d08e16a3c05", func := "loop.example/g01251/laws.FnExactParseWord", spec := "fnExactParseWord", plainKeys := false, apart := false, narrowed := true }
def FnExactParseWordUptoSaid : Prop := fnExactParseWordUptoRow.holds Try.pinned (OpenSpec.upto fnExactParseWordSpec)

/-- 'laws.FnExactDescentsOf', WHERE WHAT IT READS IS OF BULK AT MOST 1048576: true; the input reads as it did. -/
def fnExactDescentsOfUptoRow : OpenClaim := { program := "ytbgmfpofmdfbbaa", sum := "9e4534f077e80bc04de52703d36102fc9be7c7fe03d9d4e368424d08e16a3c05", func := "loop.example/g01251/laws.FnExactDescentsOf", spec := "fnExactDescentsOf", plainKeys := false, apart := false, narrowed := true }
def FnExactDescentsOfUptoSaid : Prop := fnExactDescentsOfUptoRow.holds Try.pinned (OpenSpec.upto fnExactDescentsOfSpec)

/-- 'laws.FnExactIsReducedWord', WHERE WHAT IT READS IS OF BULK AT MOST 1048576: true; the input reads as it did. -/
def fnExactIsReducedWordUptoRow : OpenClaim := { program := "ytbgmfpofmdfbbaa", sum := "9e4534f077e80bc04de52703d36102fc9be7c7fe03d9d4e368424d08e16a3c05", func := "loop.example/g01251/laws.FnExactIsReducedWord", spec := "fnExactIsReducedWord", unfollowed := true, recurses := true, plainKeys := false, apart := false, narrowed := true }
def FnExactIsReducedWordUptoSaid : Prop := fnExactIsReducedWordUptoRow.holds Try.pinned (OpenSpec.upto fnExactIsReducedWordSpec)

end Rows
end Go.Proofs.Ytbgmfpofmdfbbaa
