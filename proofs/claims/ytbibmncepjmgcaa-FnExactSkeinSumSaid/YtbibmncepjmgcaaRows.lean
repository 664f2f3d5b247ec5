/-
  No cell of these rows narrows 'for every input' (looked for: loops, veiled, ifaces, maps, wideKeys, modest, calm, conditions, laid).
  DERIVED. THE GIVEN ROWS OF THIS SEAT. 6 by the template 'for every input the law returns true; each argument reads behind the call as it read before'; 0 by the template 'total and deterministic' (their statements: YtbibmncepjmgcaaTotals.lean).
  GIVEN WITH THE SEED: the statements are not yours to turn. If you find one false, say at which input.
  Laid BY PROGRAM, IN A SANDBOX (cutbox-rows.mjs): the forced cells as the released guide's own fill.sh prints them over the translation e8c4804e5579d4cc… (all of the seat's roots in one cut). By AI agents, Wed Nov 11 2026. No macro, syntax, notation, axiom, sorry.
-/
import Derived.Test.YtbibmncepjmgcaaChecked
import GoSem.Claim
import GoSem.ClaimJoined
import GoSem.ClaimMapViews
import Derived.JoinedTies
import Derived.KernelRfl
namespace Go.Proofs.Ytbibmncepjmgcaa
/- THE CELL 'sum', in the pinned program and in every row, IS THE sha256 OF THE DUMP (.gsa) THAT YtbibmncepjmgcaaProg.lean LOADS. Nothing in Lean hashes anything: it is a label: what it is worth is what the hold of that sum in a sandbox is worth. -/
noncomputable def Try.pinned : Pinned := { name := "ytbibmncepjmgcaa", sum := "e8c4804e5579d4cc0993a035d2e85256431ce57854f2134a9a0e7df1b3bf5761", checked := Try.checked }
namespace Rows
def none {H : Type} : Left H := { results := [], args := [] }

/-- 'laws.FnExactIsCentralElement': WHATEVER THE INPUT: true; the input reads as it did. -/
def fnExactIsCentralElementSpec : ChangeSpec := { name := "fnExactIsCentralElement", fn := fun _ => fun
  | [d] => { results := [.lit (.bool true)], args := [d] }
  | _ => none }
def fnExactIsCentralElementRow : OpenClaim := { program := "ytbibmncepjmgcaa", sum := "e8c4804e5579d4cc0993a035d2e85256431ce57854f2134a9a0e7df1b3bf5761", func := "loop.example/g01251/laws.FnExactIsCentralElement", spec := "fnExactIsCentralElement", inPlace := ["internal/bytealg.abigen_runtime_cmpstring"], plainKeys := false, apart := false }
def FnExactIsCentralElementSaid : Prop := fnExactIsCentralElementRow.holds Try.pinned (OpenSpec.ofChange fnExactIsCentralElementSpec)

/-- ITS FALSE NEIGHBOUR: 'it returns false'. Refute it at one input. -/
def fnExactIsCentralElementWrong : ChangeSpec := { name := "fnExactIsCentralElement", fn := fun _ => fun
  | [d] => { results := [.lit (.bool false)], args := [d] }
  | _ => none }
def FnExactIsCentralElementWrongFalsely : Prop := fnExactIsCentralElementRow.holds Try.pinned (OpenSpec.ofChange fnExactIsCentralElementWrong)

/-- 'laws.FnExactBraidElement': WHATEVER THE INPUT: true; the input reads as it did. -/
def fnExactBraidElementSpec : ChangeSpec := { name := "fnExactBraidElement", fn := fun _ => fun
  | [d1, d2, d3, d4] => { results := [.lit (.bool true)], args := [d1, d2, d3, d4] }
  | _ => none }
def fnExactBraidElementRow : OpenClaim := { program := "ytbibmncepjmgcaa", sum := "e8c4804e5579d4cc0993a035d2e85256431ce57854f2134a9a0e7df1b3bf5761", func := "loop.example/g01251/laws.FnExactBraidElement", spec := "fnExactBraidElement", inPlace := ["internal/bytealg.abigen_runtime_cmpstring"], unfollowed := true, recurses := true, plainKeys := false, apart := false }
def FnExactBraidElementSaid : Prop := fnExactBraidElementRow.holds Try.pinned (OpenSpec.ofChange fnExactBraidElementSpec)

/-- ITS FALSE NEIGHBOUR: 'it returns false'. Refute it at one input. -/
def fnExactBraidElementWrong : ChangeSpec := { name := "fnExactBraidElement", fn := fun _ => fun
  | [d1, d2, d3, d4] => { results := [.lit (.bool false)], args := [d1, d2, d3, d4] }
  | _ => none }
def FnExactBraidElementWrongFalsely : Prop := fnExactBraidElementRow.holds Try.pinned (OpenSpec.ofChange fnExactBraidElementWrong)

/-- 'laws.FnExactBracketOf': WHATEVER THE INPUT: true; the input reads as it did. -/
def fnExactBracketOfSpec : ChangeSpec := { name := "fnExactBracketOf", fn := fun _ => fun
  | [d1, d2, d3, d4] => { results := [.lit (.bool true)], args := [d1, d2, d3, d4] }
  | _ => none }
def fnExactBracketOfRow : OpenClaim := { program := "ytbibmncepjmgcaa", sum := "e8c4804e5579d4cc0993a035d2e85256431ce57854f2134a9a0e7df1b3bf5761", func := "loop.example/g01251/laws.FnExactBracketOf", spec := "fnExactBracketOf", inPlace := ["internal/bytealg.abigen_runtime_cmpstring"], unfollowed := true, recurses := true, plainKeys := false, apart := false }
def FnExactBracketOfSaid : Prop := fnExactBracketOfRow.holds Try.pinned (OpenSpec.ofChange fnExactBracketOfSpec)

/-- ITS FALSE NEIGHBOUR: 'it returns false'. Refute it at one input. -/
def fnExactBracketOfWrong : ChangeSpec := { name := "fnExactBracketOf", fn := fun _ => fun
  | [d1, d2, d3, d4] => { results := [.lit (.bool false)], args := [d1, d2, d3, d4] }
  | _ => none }
def FnExactBracketOfWrongFalsely : Prop := fnExactBracketOfRow.holds Try.pinned (OpenSpec.ofChange fnExactBracketOfWrong)

/-- 'laws.FnExactJonesValue': WHATEVER THE INPUT: true; the input reads as it did. -/
def fnExactJonesValueSpec : ChangeSpec := { name := "fnExactJonesValue", fn := fun _ => fun
  | [d1, d2, d3, d4] => { results := [.lit (.bool true)], args := [d1, d2, d3, d4] }
  | _ => none }
def fnExactJonesValueRow : OpenClaim := { program := "ytbibmncepjmgcaa", sum := "e8c4804e5579d4cc0993a035d2e85256431ce57854f2134a9a0e7df1b3bf5761", func := "loop.example/g01251/laws.FnExactJonesValue", spec := "fnExactJonesValue", inPlace := ["internal/bytealg.abigen_runtime_cmpstring"], unfollowed := true, recurses := true, plainKeys := false, apart := false }
def FnExactJonesValueSaid : Prop := fnExactJonesValueRow.holds Try.pinned (OpenSpec.ofChange fnExactJonesValueSpec)

/-- ITS FALSE NEIGHBOUR: 'it returns false'. Refute it at one input. -/
def fnExactJonesValueWrong : ChangeSpec := { name := "fnExactJonesValue", fn := fun _ => fun
  | [d1, d2, d3, d4] => { results := [.lit (.bool false)], args := [d1, d2, d3, d4] }
  | _ => none }
def FnExactJonesValueWrongFalsely : Prop := fnExactJonesValueRow.holds Try.pinned (OpenSpec.ofChange fnExactJonesValueWrong)

/-- 'laws.FnExactSkeinSum': WHATEVER THE INPUT: true; the input reads as it did. -/
def fnExactSkeinSumSpec : ChangeSpec := { name := "fnExactSkeinSum", fn := fun _ => fun
  | [d1, d2, d3, d4, d5] => { results := [.lit (.bool true)], args := [d1, d2, d3, d4, d5] }
  | _ => none }
def fnExactSkeinSumRow : OpenClaim := { program := "ytbibmncepjmgcaa", sum := "e8c4804e5579d4cc0993a035d2e85256431ce57854f2134a9a0e7df1b3bf5761", func := "loop.example/g01251/laws.FnExactSkeinSum", spec := "fnExactSkeinSum", inPlace := ["internal/bytealg.abigen_runtime_cmpstring"], unfollowed := true, recurses := true, plainKeys := false, apart := false }
def FnExactSkeinSumSaid : Prop := fnExactSkeinSumRow.holds Try.pinned (OpenSpec.ofChange fnExactSkeinSumSpec)

/-- ITS FALSE NEIGHBOUR: 'it returns false'. Refute it at one input. -/
def fnExactSkeinSumWrong : ChangeSpec := { name := "fnExactSkeinSum", fn := fun _ => fun
  | [d1, d2, d3, d4, d5] => { results := [.lit (.bool false)], args := [d1, d2, d3, d4, d5] }
  | _ => none }
def FnExactSkeinSumWrongFalsely : Prop := fnExactSkeinSumRow.holds Try.pinned (OpenSpec.ofChange fnExactSkeinSumWrong)

/-- 'laws.FnExactAreEqualBraids': WHATEVER THE INPUT: true; the input reads as it did. -/
def fnExactAreEqualBraidsSpec : ChangeSpec := { name := "fnExactAreEqualBraids", fn := fun _ => fun
  | [d1, d2, d3, d4, d5] => { results := [.lit (.bool true)], args := [d1, d2, d3, d4, d5] }
  | _ => none }
def fnExactAreEqualBraidsRow : OpenClaim := { program := "ytbibmncepjmgcaa", sum := "e8c4804e5579d4cc0993a035d2e85256431ce57854f2134a9a0e7df1b3bf5761", func := "loop.example/g01251/laws.FnExactAreEqualBraids", spec := "fnExactAreEqualBraids", inPlace := ["internal/bytealg.abigen_runtime_cmpstring"], unfollowed := true, recurses := true, plainKeys := false, apart := false }
def FnExactAreEqualBraidsSaid : Prop := fnExactAreEqualBraidsRow.holds Try.pinned (OpenSpec.ofChange fnExactAreEqualBraidsSpec)

/-- ITS FALSE NEIGHBOUR: 'it returns false'. Refute it at one input. -/
def fnExactAreEqualBraidsWrong : ChangeSpec := { name := "fnExactAreEqualBraids", fn := fun _ => fun
  | [d1, d2, d3, d4, d5] => { results := [.lit (.bool false)], args := [d1, d2, d3, d4, d5] }
  | _ => none }
def FnExactAreEqualBraidsWrongFalsely : Prop := fnExactAreEqualBraidsRow.holds Try.pinned (OpenSpec.ofChange fnExactAreEqualBraidsWrong)

/- THE SECOND FORM. 'bulk': how many values and letters a reading holds, each counted each time it is reached (what is shared counts as often as it is met; a slice's spare places count too). A statement '..UptoSaid' is the law's where the arguments, and the package variables that the reading takes, are together of bulk at most 1048576: NARROWER than '..Said'. Prove '..Said' where nothing that the law and all that it calls make is longer than what came in: it says more and counts as full. Else prove '..UptoSaid'. A law counts once. -/
mutual
def uptoBulk {H : Type} : DataW H → Nat
  | .lit (.string bytes) => bytes.length + 1
  | .lit _ => 1
  | .nil => 1
  | .ptr d => uptoBulk d + 1
  | .slice elems spare => uptoBulkAll elems + uptoBulkAll spare + 1
  | .agg parts => uptoBulkAll parts + 1
  | .iface _ d => uptoBulk d + 1
  | .map entries => uptoBulkEntries entries + 1
  | .held _ => 1
def uptoBulkAll {H : Type} : List (DataW H) → Nat
  | [] => 0
  | d :: r => uptoBulk d + uptoBulkAll r
def uptoBulkEntries {H : Type} : List (Lit × DataW H) → Nat
  | [] => 0
  | x :: r => uptoBulkEntry x + uptoBulkEntries r
def uptoBulkEntry {H : Type} : Lit × DataW H → Nat
  | (.string bytes, d) => bytes.length + uptoBulk d + 1
  | (_, d) => uptoBulk d + 1
 end
def uptoSmall : (H : Type) → List (DataW H) → Bool := fun _ ds => decide (uptoBulkAll ds ≤ 1048576)
def OpenSpec.upto (s : _root_.Go.ChangeSpec) : _root_.Go.OpenSpec := { _root_.Go.OpenSpec.ofChange s with cond := some uptoSmall }

/-- 'laws.FnExactIsCentralElement', WHERE WHAT IT READS IS OF BULK AT MOST 1048576: true; the input reads as it did. -/
def fnExactIsCentralElementUptoRow : OpenClaim := { program := "ytbibmncepjmgcaa", sum := "e8c4804e5579d4cc0993a035d2e85256431ce57854f2134a9a0e7df1b3bf5761", func := "loop.example/g01251/laws.FnExactIsCentralElement", spec := "fnExactIsCentralElement", inPlace := ["internal/bytealg.abigen_runtime_cmpstring"], plainKeys := false, apart := false, narrowed := true }
def FnExactIsCentralElementUptoSaid : Prop := fnExactIsCentralElementUptoRow.holds Try.pinned (OpenSpec.upto fnExactIsCentralElementSpec)

/-- 'laws.FnExactBraidElement', WHERE WHAT IT READS IS OF BULK AT MOST 1048576: true; the input reads as it did. -/
def fnExactBraidElementUptoRow : OpenClaim := { program := "ytbibmncepjmgcaa", sum := "e8c4804e5579d4cc0993a035d2e85256431ce57854f2134a9a0e7df1b3bf5761", func := "loop.example/g01251/laws.FnExactBraidElement", spec := "fnExactBraidElement", inPlace := ["internal/bytealg.abigen_runtime_cmpstring"], unfollowed := true, recurses := true, plainKeys := false, apart := false, narrowed := true }
def FnExactBraidElementUptoSaid : Prop := fnExactBraidElementUptoRow.holds Try.pinned (OpenSpec.upto fnExactBraidElementSpec)

/-- 'laws.FnExactBracketOf', WHERE WHAT IT READS IS OF BULK AT MOST 1048576: true; the input reads as it did. -/
def fnExactBracketOfUptoRow : OpenClaim := { program := "ytbibmncepjmgcaa", sum := "e8c4804e5579d4cc0993a035d2e85256431ce57854f2134a9a0e7df1b3bf5761", func := "loop.example/g01251/laws.FnExactBracketOf", spec := "fnExactBracketOf", inPlace := ["internal/bytealg.abigen_runtime_cmpstring"], unfollowed := true, recurses := true, plainKeys := false, apart := false, narrowed := true }
def FnExactBracketOfUptoSaid : Prop := fnExactBracketOfUptoRow.holds Try.pinned (OpenSpec.upto fnExactBracketOfSpec)

/-- 'laws.FnExactJonesValue', WHERE WHAT IT READS IS OF BULK AT MOST 1048576: true; the input reads as it did. -/
def fnExactJonesValueUptoRow : OpenClaim := { program := "ytbibmncepjmgcaa", sum := "e8c4804e5579d4cc0993a035d2e85256431ce57854f2134a9a0e7df1b3bf5761", func := "loop.example/g01251/laws.FnExactJonesValue", spec := "fnExactJonesValue", inPlace := ["internal/bytealg.abigen_runtime_cmpstring"], unfollowed := true, recurses := true, plainKeys := false, apart := false, narrowed := true }
def FnExactJonesValueUptoSaid : Prop := fnExactJonesValueUptoRow.holds Try.pinned (OpenSpec.upto fnExactJonesValueSpec)

/-- 'laws.FnExactSkeinSum', WHERE WHAT IT READS IS OF BULK AT MOST 1048576: true; the input reads as it did. -/
def fnExactSkeinSumUptoRow : OpenClaim := { program := "ytbibmncepjmgcaa", sum := "e8c4804e5579d4cc0993a035d2e85256431ce57854f2134a9a0e7df1b3bf5761", func := "loop.example/g01251/laws.FnExactSkeinSum", spec := "fnExactSkeinSum", inPlace := ["internal/bytealg.abigen_runtime_cmpstring"], unfollowed := true, recurses := true, plainKeys := false, apart := false, narrowed := true }
def FnExactSkeinSumUptoSaid : Prop := fnExactSkeinSumUptoRow.holds Try.pinned (OpenSpec.upto fnExactSkeinSumSpec)

/-- 'laws.FnExactAreEqualBraids', WHERE WHAT IT READS IS OF BULK AT MOST 1048576: true; the input reads as it did. -/
def fnExactAreEqualBraidsUptoRow : OpenClaim := { program := "ytbibmncepjmgcaa", sum := "e8c4804e5579d4cc0993a035d2e85256431ce57854f2134a9a0e7df1b3bf5761", func := "loop.example/g01251/laws.FnExactAreEqualBraids", spec := "fnExactAreEqualBraids", inPlace := ["internal/bytealg.abigen_runtime_cmpstring"], unfollowed := true, recurses := true, plainKeys := false, apart := false, narrowed := true }
def FnExactAreEqualBraidsUptoSaid : Prop := fnExactAreEqualBraidsUptoRow.holds Try.pinned (OpenSpec.upto fnExactAreEqualBraidsSpec)

end Rows
end Go.Proofs.Ytbibmncepjmgcaa
