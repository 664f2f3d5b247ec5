/-
  No cell of these rows narrows 'for every input' (looked for: loops, veiled, ifaces, maps, wideKeys, modest, calm, conditions, laid).
  DERIVED. THE GIVEN ROWS OF THIS SEAT. 11 by the template 'for every input the law returns true; each argument reads behind the call as it read before'; 0 by the template 'total and deterministic' (their statements: YtpmcngmphkegnaaTotals.lean).
  GIVEN WITH THE SEED: the statements are not yours to turn. If you find one false, say at which input.
  Laid BY PROGRAM, IN A SANDBOX (cutbox-rows.mjs): the forced cells as the released guide's own fill.sh prints them over the translation e04f202291430aa0… (all of the seat's roots in one cut). By AI agents, Wed Nov 11 2026. No macro, syntax, notation, axiom, sorry.
-/
import Derived.Test.YtpmcngmphkegnaaChecked
import GoSem.Claim
import GoSem.ClaimJoined
import GoSem.ClaimMapViews
import Derived.JoinedTies
import Derived.KernelRfl
namespace Go.Proofs.Ytpmcngmphkegnaa
/- THE CELL 'sum', in the pinned program and in every row, IS THE sha256 OF THE DUMP (.gsa) THAT YtpmcngmphkegnaaProg.lean LOADS. Nothing in Lean hashes anything: it is a label: what it is worth is what the hold of that sum in a sandbox is worth. -/
noncomputable def Try.pinned : Pinned := { name := "ytpmcngmphkegnaa", sum := "e04f202291430aa0c8436ef3826d9d530a8d12121b2d7c22c28ace648aa95907", checked := Try.checked }
namespace Rows
def none {H : Type} : Left H := { results := [], args := [] }

/-- 'laws.FnExactAddElements': WHATEVER THE INPUT: true; the input reads as it did. -/
def fnExactAddElementsSpec : ChangeSpec := { name := "fnExactAddElements", fn := fun _ => fun
  | [d1, d2] => { results := [.lit (.bool true)], args := [d1, d2] }
  | _ => none }
def fnExactAddElementsRow : OpenClaim := { program := "ytpmcngmphkegnaa", sum := "e04f202291430aa0c8436ef3826d9d530a8d12121b2d7c22c28ace648aa95907", func := "loop.example/g01251/laws.FnExactAddElements", spec := "fnExactAddElements", inPlace := ["internal/bytealg.abigen_runtime_cmpstring"], unfollowed := true, recurses := true, plainKeys := false, apart := false }
def FnExactAddElementsSaid : Prop := fnExactAddElementsRow.holds Try.pinned (OpenSpec.ofChange fnExactAddElementsSpec)

/-- ITS FALSE NEIGHBOUR: 'it returns false'. Refute it at one input. -/
def fnExactAddElementsWrong : ChangeSpec := { name := "fnExactAddElements", fn := fun _ => fun
  | [d1, d2] => { results := [.lit (.bool false)], args := [d1, d2] }
  | _ => none }
def FnExactAddElementsWrongFalsely : Prop := fnExactAddElementsRow.holds Try.pinned (OpenSpec.ofChange fnExactAddElementsWrong)

/-- 'laws.FnExactScaleElement': WHATEVER THE INPUT: true; the input reads as it did. -/
def fnExactScaleElementSpec : ChangeSpec := { name := "fnExactScaleElement", fn := fun _ => fun
  | [d1, d2] => { results := [.lit (.bool true)], args := [d1, d2] }
  | _ => none }
def fnExactScaleElementRow : OpenClaim := { program := "ytpmcngmphkegnaa", sum := "e04f202291430aa0c8436ef3826d9d530a8d12121b2d7c22c28ace648aa95907", func := "loop.example/g01251/laws.FnExactScaleElement", spec := "fnExactScaleElement", inPlace := ["internal/bytealg.abigen_runtime_cmpstring"], unfollowed := true, recurses := true, plainKeys := false, apart := false }
def FnExactScaleElementSaid : Prop := fnExactScaleElementRow.holds Try.pinned (OpenSpec.ofChange fnExactScaleElementSpec)

/-- ITS FALSE NEIGHBOUR: 'it returns false'. Refute it at one input. -/
def fnExactScaleElementWrong : ChangeSpec := { name := "fnExactScaleElement", fn := fun _ => fun
  | [d1, d2] => { results := [.lit (.bool false)], args := [d1, d2] }
  | _ => none }
def FnExactScaleElementWrongFalsely : Prop := fnExactScaleElementRow.holds Try.pinned (OpenSpec.ofChange fnExactScaleElementWrong)

/-- 'laws.FnExactMultiplyElements': WHATEVER THE INPUT: true; the input reads as it did. -/
def fnExactMultiplyElementsSpec : ChangeSpec := { name := "fnExactMultiplyElements", fn := fun _ => fun
  | [d1, d2] => { results := [.lit (.bool true)], args := [d1, d2] }
  | _ => none }
def fnExactMultiplyElementsRow : OpenClaim := { program := "ytpmcngmphkegnaa", sum := "e04f202291430aa0c8436ef3826d9d530a8d12121b2d7c22c28ace648aa95907", func := "loop.example/g01251/laws.FnExactMultiplyElements", spec := "fnExactMultiplyElements", inPlace := ["internal/bytealg.abigen_runtime_cmpstring"], unfollowed := true, recurses := true, plainKeys := false, apart := false }
def FnExactMultiplyElementsSaid : Prop := fnExactMultiplyElementsRow.holds Try.pinned (OpenSpec.ofChange fnExactMultiplyElementsSpec)

/-- ITS FALSE NEIGHBOUR: 'it returns false'. Refute it at one input. -/
def fnExactMultiplyElementsWrong : ChangeSpec := { name := "fnExactMultiplyElements", fn := fun _ => fun
  | [d1, d2] => { results := [.lit (.bool false)], args := [d1, d2] }
  | _ => none }
def FnExactMultiplyElementsWrongFalsely : Prop := fnExactMultiplyElementsRow.holds Try.pinned (OpenSpec.ofChange fnExactMultiplyElementsWrong)

/-- 'laws.FnExactFlipElement': WHATEVER THE INPUT: true; the input reads as it did. -/
def fnExactFlipElementSpec : ChangeSpec := { name := "fnExactFlipElement", fn := fun _ => fun
  | [d] => { results := [.lit (.bool true)], args := [d] }
  | _ => none }
def fnExactFlipElementRow : OpenClaim := { program := "ytpmcngmphkegnaa", sum := "e04f202291430aa0c8436ef3826d9d530a8d12121b2d7c22c28ace648aa95907", func := "loop.example/g01251/laws.FnExactFlipElement", spec := "fnExactFlipElement", inPlace := ["internal/bytealg.abigen_runtime_cmpstring"], unfollowed := true, recurses := true, plainKeys := false, apart := false }
def FnExactFlipElementSaid : Prop := fnExactFlipElementRow.holds Try.pinned (OpenSpec.ofChange fnExactFlipElementSpec)

/-- ITS FALSE NEIGHBOUR: 'it returns false'. Refute it at one input. -/
def fnExactFlipElementWrong : ChangeSpec := { name := "fnExactFlipElement", fn := fun _ => fun
  | [d] => { results := [.lit (.bool false)], args := [d] }
  | _ => none }
def FnExactFlipElementWrongFalsely : Prop := fnExactFlipElementRow.holds Try.pinned (OpenSpec.ofChange fnExactFlipElementWrong)

/-- 'laws.FnExactPowerElement': WHATEVER THE INPUT: true; the input reads as it did. -/
def fnExactPowerElementSpec : ChangeSpec := { name := "fnExactPowerElement", fn := fun _ => fun
  | [d1, d2] => { results := [.lit (.bool true)], args := [d1, d2] }
  | _ => none }
def fnExactPowerElementRow : OpenClaim := { program := "ytpmcngmphkegnaa", sum := "e04f202291430aa0c8436ef3826d9d530a8d12121b2d7c22c28ace648aa95907", func := "loop.example/g01251/laws.FnExactPowerElement", spec := "fnExactPowerElement", inPlace := ["internal/bytealg.abigen_runtime_cmpstring"], unfollowed := true, recurses := true, plainKeys := false, apart := false }
def FnExactPowerElementSaid : Prop := fnExactPowerElementRow.holds Try.pinned (OpenSpec.ofChange fnExactPowerElementSpec)

/-- ITS FALSE NEIGHBOUR: 'it returns false'. Refute it at one input. -/
def fnExactPowerElementWrong : ChangeSpec := { name := "fnExactPowerElement", fn := fun _ => fun
  | [d1, d2] => { results := [.lit (.bool false)], args := [d1, d2] }
  | _ => none }
def FnExactPowerElementWrongFalsely : Prop := fnExactPowerElementRow.holds Try.pinned (OpenSpec.ofChange fnExactPowerElementWrong)

/-- 'laws.FnExactCommutatorElement': WHATEVER THE INPUT: true; the input reads as it did. -/
def fnExactCommutatorElementSpec : ChangeSpec := { name := "fnExactCommutatorElement", fn := fun _ => fun
  | [d1, d2] => { results := [.lit (.bool true)], args := [d1, d2] }
  | _ => none }
def fnExactCommutatorElementRow : OpenClaim := { program := "ytpmcngmphkegnaa", sum := "e04f202291430aa0c8436ef3826d9d530a8d12121b2d7c22c28ace648aa95907", func := "loop.example/g01251/laws.FnExactCommutatorElement", spec := "fnExactCommutatorElement", inPlace := ["internal/bytealg.abigen_runtime_cmpstring"], unfollowed := true, recurses := true, plainKeys := false, apart := false }
def FnExactCommutatorElementSaid : Prop := fnExactCommutatorElementRow.holds Try.pinned (OpenSpec.ofChange fnExactCommutatorElementSpec)

/-- ITS FALSE NEIGHBOUR: 'it returns false'. Refute it at one input. -/
def fnExactCommutatorElementWrong : ChangeSpec := { name := "fnExactCommutatorElement", fn := fun _ => fun
  | [d1, d2] => { results := [.lit (.bool false)], args := [d1, d2] }
  | _ => none }
def FnExactCommutatorElementWrongFalsely : Prop := fnExactCommutatorElementRow.holds Try.pinned (OpenSpec.ofChange fnExactCommutatorElementWrong)

/-- 'laws.FnExactPartialClosure': WHATEVER THE INPUT: true; the input reads as it did. -/
def fnExactPartialClosureSpec : ChangeSpec := { name := "fnExactPartialClosure", fn := fun _ => fun
  | [d] => { results := [.lit (.bool true)], args := [d] }
  | _ => none }
def fnExactPartialClosureRow : OpenClaim := { program := "ytpmcngmphkegnaa", sum := "e04f202291430aa0c8436ef3826d9d530a8d12121b2d7c22c28ace648aa95907", func := "loop.example/g01251/laws.FnExactPartialClosure", spec := "fnExactPartialClosure", inPlace := ["internal/bytealg.abigen_runtime_cmpstring"], unfollowed := true, recurses := true, plainKeys := false, apart := false }
def FnExactPartialClosureSaid : Prop := fnExactPartialClosureRow.holds Try.pinned (OpenSpec.ofChange fnExactPartialClosureSpec)

/-- ITS FALSE NEIGHBOUR: 'it returns false'. Refute it at one input. -/
def fnExactPartialClosureWrong : ChangeSpec := { name := "fnExactPartialClosure", fn := fun _ => fun
  | [d] => { results := [.lit (.bool false)], args := [d] }
  | _ => none }
def FnExactPartialClosureWrongFalsely : Prop := fnExactPartialClosureRow.holds Try.pinned (OpenSpec.ofChange fnExactPartialClosureWrong)

/-- 'laws.FnExactIncludeElement': WHATEVER THE INPUT: true; the input reads as it did. -/
def fnExactIncludeElementSpec : ChangeSpec := { name := "fnExactIncludeElement", fn := fun _ => fun
  | [d] => { results := [.lit (.bool true)], args := [d] }
  | _ => none }
def fnExactIncludeElementRow : OpenClaim := { program := "ytpmcngmphkegnaa", sum := "e04f202291430aa0c8436ef3826d9d530a8d12121b2d7c22c28ace648aa95907", func := "loop.example/g01251/laws.FnExactIncludeElement", spec := "fnExactIncludeElement", inPlace := ["internal/bytealg.abigen_runtime_cmpstring"], unfollowed := true, recurses := true, plainKeys := false, apart := false }
def FnExactIncludeElementSaid : Prop := fnExactIncludeElementRow.holds Try.pinned (OpenSpec.ofChange fnExactIncludeElementSpec)

/-- ITS FALSE NEIGHBOUR: 'it returns false'. Refute it at one input. -/
def fnExactIncludeElementWrong : ChangeSpec := { name := "fnExactIncludeElement", fn := fun _ => fun
  | [d] => { results := [.lit (.bool false)], args := [d] }
  | _ => none }
def FnExactIncludeElementWrongFalsely : Prop := fnExactIncludeElementRow.holds Try.pinned (OpenSpec.ofChange fnExactIncludeElementWrong)

/-- 'laws.FnExactIsCentralElement': WHATEVER THE INPUT: true; the input reads as it did. -/
def fnExactIsCentralElementSpec : ChangeSpec := { name := "fnExactIsCentralElement", fn := fun _ => fun
  | [d] => { results := [.lit (.bool true)], args := [d] }
  | _ => none }
def fnExactIsCentralElementRow : OpenClaim := { program := "ytpmcngmphkegnaa", sum := "e04f202291430aa0c8436ef3826d9d530a8d12121b2d7c22c28ace648aa95907", func := "loop.example/g01251/laws.FnExactIsCentralElement", spec := "fnExactIsCentralElement", inPlace := ["internal/bytealg.abigen_runtime_cmpstring"], plainKeys := false, apart := false }
def FnExactIsCentralElementSaid : Prop := fnExactIsCentralElementRow.holds Try.pinned (OpenSpec.ofChange fnExactIsCentralElementSpec)

/-- ITS FALSE NEIGHBOUR: 'it returns false'. Refute it at one input. -/
def fnExactIsCentralElementWrong : ChangeSpec := { name := "fnExactIsCentralElement", fn := fun _ => fun
  | [d] => { results := [.lit (.bool false)], args := [d] }
  | _ => none }
def FnExactIsCentralElementWrongFalsely : Prop := fnExactIsCentralElementRow.holds Try.pinned (OpenSpec.ofChange fnExactIsCentralElementWrong)

/-- 'laws.FnExactBraidElement': WHATEVER THE INPUT: true; the input reads as it did. -/
def fnExactBraidElementSpec : ChangeSpec := { name := "fnExactBraidElement", fn := fun _ => fun
  | [d1, d2, d3, d4] => { results := [.lit (.bool true)], args := [d1, d2, d3, d4] }
  | _ => none }
def fnExactBraidElementRow : OpenClaim := { program := "ytpmcngmphkegnaa", sum := "e04f202291430aa0c8436ef3826d9d530a8d12121b2d7c22c28ace648aa95907", func := "loop.example/g01251/laws.FnExactBraidElement", spec := "fnExactBraidElement", inPlace := ["internal/bytealg.abigen_runtime_cmpstring"], unfollowed := true, recurses := true, plainKeys := false, apart := false }
def FnExactBraidElementSaid : Prop := fnExactBraidElementRow.holds Try.pinned (OpenSpec.ofChange fnExactBraidElementSpec)

/-- ITS FALSE NEIGHBOUR: 'it returns false'. Refute it at one input. -/
def fnExactBraidElementWrong : ChangeSpec := { name := "fnExactBraidElement", fn := fun _ => fun
  | [d1, d2, d3, d4] => { results := [.lit (.bool false)], args := [d1, d2, d3, d4] }
  | _ => none }
def FnExactBraidElementWrongFalsely : Prop := fnExactBraidElementRow.holds Try.pinned (OpenSpec.ofChange fnExactBraidElementWrong)

/-- 'laws.FnExactBracketOf': WHATEVER THE INPUT: true; the input reads as it did. -/
def fnExactBracketOfSpec : ChangeSpec := { name := "fnExactBracketOf", fn := fun _ => fun
  | [d1, d2, d3, d4] => { results := [.lit (.bool true)], args := [d1, d2, d3, d4] }
  | _ => none }
def fnExactBracketOfRow : OpenClaim := { program := "ytpmcngmphkegnaa", sum := "e04f202291430aa0c8436ef3826d9d530a8d12121b2d7c22c28ace648aa95907", func := "loop.example/g01251/laws.FnExactBracketOf", spec := "fnExactBracketOf", inPlace := ["internal/bytealg.abigen_runtime_cmpstring"], unfollowed := true, recurses := true, plainKeys := false, apart := false }
def FnExactBracketOfSaid : Prop := fnExactBracketOfRow.holds Try.pinned (OpenSpec.ofChange fnExactBracketOfSpec)

/-- ITS FALSE NEIGHBOUR: 'it returns false'. Refute it at one input. -/
def fnExactBracketOfWrong : ChangeSpec := { name := "fnExactBracketOf", fn := fun _ => fun
  | [d1, d2, d3, d4] => { results := [.lit (.bool false)], args := [d1, d2, d3, d4] }
  | _ => none }
def FnExactBracketOfWrongFalsely : Prop := fnExactBracketOfRow.holds Try.pinned (OpenSpec.ofChange fnExactBracketOfWrong)

/- THE SECOND FORM. 'bulk': how many values and letters a reading holds, each counted each time it is reached (what is shared counts as often as it is met; a slice's spare places count too). A statement '..UptoSaid' is the law's where the arguments, and the package variables that the reading takes, are together of bulk at most 1048576: NARROWER than '..Said'. Prove '..Said' where nothing that the law and all that it calls make is longer than what came in: it says more and counts as full. Else prove '..UptoSaid'. A law counts once. -/
mutual
def uptoBulk {H : Type} : DataW H → Nat
  | .lit (.string bytes) => bytes.length + 1
  | .lit _ => 1
  | .nil => 1
  | .ptr d => uptoBulk d + 1
  | .slice elems spare => uptoBulkAll elems + uptoBulkAll spare + 1
  | .agg parts => uptoBulkAll parts + 1
  | .iface _ d => uptoBulk d + 1
  | .map entries => uptoBulkEntries entries + 1
  | .held _ => 1
def uptoBulkAll {H : Type} : List (DataW H) → Nat
  | [] => 0
  | d :: r => uptoBulk d + uptoBulkAll r
def uptoBulkEntries {H : Type} : List (Lit × DataW H) → Nat
  | [] => 0
  | x :: r => uptoBulkEntry x + uptoBulkEntries r
def uptoBulkEntry {H : Type} : Lit × DataW H → Nat
  | (.string bytes, d) => bytes.length + uptoBulk d + 1
  | (_, d) => uptoBulk d + 1
 end
def uptoSmall : (H : Type) → List (DataW H) → Bool := fun _ ds => decide (uptoBulkAll ds ≤ 1048576)
def OpenSpec.upto (s : _root_.Go.ChangeSpec) : _root_.Go.OpenSpec := { _root_.Go.OpenSpec.ofChange s with cond := some uptoSmall }

/-- 'laws.FnExactAddElements', WHERE WHAT IT READS IS OF BULK AT MOST 1048576: true; the input reads as it did. -/
def fnExactAddElementsUptoRow : OpenClaim := { program := "ytpmcngmphkegnaa", sum := "e04f202291430aa0c8436ef3826d9d530a8d12121b2d7c22c28ace648aa95907", func := "loop.example/g01251/laws.FnExactAddElements", spec := "fnExactAddElements", inPlace := ["internal/bytealg.abigen_runtime_cmpstring"], unfollowed := true, recurses := true, plainKeys := false, apart := false, narrowed := true }
def FnExactAddElementsUptoSaid : Prop := fnExactAddElementsUptoRow.holds Try.pinned (OpenSpec.upto fnExactAddElementsSpec)

/-- 'laws.FnExactScaleElement', WHERE WHAT IT READS IS OF BULK AT MOST 1048576: true; the input reads as it did. -/
def fnExactScaleElementUptoRow : OpenClaim := { program := "ytpmcngmphkegnaa", sum := "e04f202291430aa0c8436ef3826d9d530a8d12121b2d7c22c28ace648aa95907", func := "loop.example/g01251/laws.FnExactScaleElement", spec := "fnExactScaleElement", inPlace := ["internal/bytealg.abigen_runtime_cmpstring"], unfollowed := true, recurses := true, plainKeys := false, apart := false, narrowed := true }
def FnExactScaleElementUptoSaid : Prop := fnExactScaleElementUptoRow.holds Try.pinned (OpenSpec.upto fnExactScaleElementSpec)

/-- 'laws.FnExactMultiplyElements', WHERE WHAT IT READS IS OF BULK AT MOST 1048576: true; the input reads as it did. -/
def fnExactMultiplyElementsUptoRow : OpenClaim := { program := "ytpmcngmphkegnaa", sum := "e04f202291430aa0c8436ef3826d9d530a8d12121b2d7c22c28ace648aa95907", func := "loop.example/g01251/laws.FnExactMultiplyElements", spec := "fnExactMultiplyElements", inPlace := ["internal/bytealg.abigen_runtime_cmpstring"], unfollowed := true, recurses := true, plainKeys := false, apart := false, narrowed := true }
def FnExactMultiplyElementsUptoSaid : Prop := fnExactMultiplyElementsUptoRow.holds Try.pinned (OpenSpec.upto fnExactMultiplyElementsSpec)

/-- 'laws.FnExactFlipElement', WHERE WHAT IT READS IS OF BULK AT MOST 1048576: true; the input reads as it did. -/
def fnExactFlipElementUptoRow : OpenClaim := { program := "ytpmcngmphkegnaa", sum := "e04f202291430aa0c8436ef3826d9d530a8d12121b2d7c22c28ace648aa95907", func := "loop.example/g01251/laws.FnExactFlipElement", spec := "fnExactFlipElement", inPlace := ["internal/bytealg.abigen_runtime_cmpstring"], unfollowed := true, recurses := true, plainKeys := false, apart := false, narrowed := true }
def FnExactFlipElementUptoSaid : Prop := fnExactFlipElementUptoRow.holds Try.pinned (OpenSpec.upto fnExactFlipElementSpec)

/-- 'laws.FnExactPowerElement', WHERE WHAT IT READS IS OF BULK AT MOST 1048576: true; the input reads as it did. -/
def fnExactPowerElementUptoRow : OpenClaim := { program := "ytpmcngmphkegnaa", sum := "e04f202291430aa0c8436ef3826d9d530a8d12121b2d7c22c28ace648aa95907", func := "loop.example/g01251/laws.FnExactPowerElement", spec := "fnExactPowerElement", inPlace := ["internal/bytealg.abigen_runtime_cmpstring"], unfollowed := true, recurses := true, plainKeys := false, apart := false, narrowed := true }
def FnExactPowerElementUptoSaid : Prop := fnExactPowerElementUptoRow.holds Try.pinned (OpenSpec.upto fnExactPowerElementSpec)

/-- 'laws.FnExactCommutatorElement', WHERE WHAT IT READS IS OF BULK AT MOST 1048576: true; the input reads as it did. -/
def fnExactCommutatorElementUptoRow : OpenClaim := { program := "ytpmcngmphkegnaa", sum := "e04f202291430aa0c8436ef3826d9d530a8d12121b2d7c22c28ace648aa95907", func := "loop.example/g01251/laws.FnExactCommutatorElement", spec := "fnExactCommutatorElement", inPlace := ["internal/bytealg.abigen_runtime_cmpstring"], unfollowed := true, recurses := true, plainKeys := false, apart := false, narrowed := true }
def FnExactCommutatorElementUptoSaid : Prop := fnExactCommutatorElementUptoRow.holds Try.pinned (OpenSpec.upto fnExactCommutatorElementSpec)

/-- 'laws.FnExactPartialClosure', WHERE WHAT IT READS IS OF BULK AT MOST 1048576: true; the input reads as it did. -/
def fnExactPartialClosureUptoRow : OpenClaim := { program := "ytpmcngmphkegnaa", sum := "e04f202291430aa0c8436ef3826d9d530a8d12121b2d7c22c28ace648aa95907", func := "loop.example/g01251/laws.FnExactPartialClosure", spec := "fnExactPartialClosure", inPlace := ["internal/bytealg.abigen_runtime_cmpstring"], unfollowed := true, recurses := true, plainKeys := false, apart := false, narrowed := true }
def FnExactPartialClosureUptoSaid : Prop := fnExactPartialClosureUptoRow.holds Try.pinned (OpenSpec.upto fnExactPartialClosureSpec)

/-- 'laws.FnExactIncludeElement', WHERE WHAT IT READS IS OF BULK AT MOST 1048576: true; the input reads as it did. -/
def fnExactIncludeElementUptoRow : OpenClaim := { program := "ytpmcngmphkegnaa", sum := "e04f202291430aa0c8436ef3826d9d530a8d12121b2d7c22c28ace648aa95907", func := "loop.example/g01251/laws.FnExactIncludeElement", spec := "fnExactIncludeElement", inPlace := ["internal/bytealg.abigen_runtime_cmpstring"], unfollowed := true, recurses := true, plainKeys := false, apart := false, narrowed := true }
def FnExactIncludeElementUptoSaid : Prop := fnExactIncludeElementUptoRow.holds Try.pinned (OpenSpec.upto fnExactIncludeElementSpec)

/-- 'laws.FnExactIsCentralElement', WHERE WHAT IT READS IS OF BULK AT MOST 1048576: true; the input reads as it did. -/
def fnExactIsCentralElementUptoRow : OpenClaim := { program := "ytpmcngmphkegnaa", sum := "e04f202291430aa0c8436ef3826d9d530a8d12121b2d7c22c28ace648aa95907", func := "loop.example/g01251/laws.FnExactIsCentralElement", spec := "fnExactIsCentralElement", inPlace := ["internal/bytealg.abigen_runtime_cmpstring"], plainKeys := false, apart := false, narrowed := true }
def FnExactIsCentralElementUptoSaid : Prop := fnExactIsCentralElementUptoRow.holds Try.pinned (OpenSpec.upto fnExactIsCentralElementSpec)

/-- 'laws.FnExactBraidElement', WHERE WHAT IT READS IS OF BULK AT MOST 1048576: true; the input reads as it did. -/
def fnExactBraidElementUptoRow : OpenClaim := { program := "ytpmcngmphkegnaa", sum := "e04f202291430aa0c8436ef3826d9d530a8d12121b2d7c22c28ace648aa95907", func := "loop.example/g01251/laws.FnExactBraidElement", spec := "fnExactBraidElement", inPlace := ["internal/bytealg.abigen_runtime_cmpstring"], unfollowed := true, recurses := true, plainKeys := false, apart := false, narrowed := true }
def FnExactBraidElementUptoSaid : Prop := fnExactBraidElementUptoRow.holds Try.pinned (OpenSpec.upto fnExactBraidElementSpec)

/-- 'laws.FnExactBracketOf', WHERE WHAT IT READS IS OF BULK AT MOST 1048576: true; the input reads as it did. -/
def fnExactBracketOfUptoRow : OpenClaim := { program := "ytpmcngmphkegnaa", sum := "e04f202291430aa0c8436ef3826d9d530a8d12121b2d7c22c28ace648aa95907", func := "loop.example/g01251/laws.FnExactBracketOf", spec := "fnExactBracketOf", inPlace := ["internal/bytealg.abigen_runtime_cmpstring"], unfollowed := true, recurses := true, plainKeys := false, apart := false, narrowed := true }
def FnExactBracketOfUptoSaid : Prop := fnExactBracketOfUptoRow.holds Try.pinned (OpenSpec.upto fnExactBracketOfSpec)

end Rows
end Go.Proofs.Ytpmcngmphkegnaa
