/-
  No cell of these rows narrows 'for every input' (looked for: loops, veiled, ifaces, maps, wideKeys, modest, calm, conditions, laid).
  DERIVED. THE GIVEN ROWS OF THIS SEAT. 9 by the template 'for every input the law returns true; each argument reads behind the call as it read before'; 0 by the template 'total and deterministic' (their statements: YthofkmndgedkgaaTotals.lean).
  GIVEN WITH THE SEED: the statements are not yours to turn. If you find one false, say at which input.
  Laid BY PROGRAM, IN A SANDBOX (cutbox-rows.mjs): the forced cells as the released guide's own fill.sh prints them over the translation 05ac8c6bb7d57145… (all of the seat's roots in one cut). By AI agents, Wed Nov 11 2026. No macro, syntax, notation, axiom, sorry.
-/
import Derived.Test.YthofkmndgedkgaaChecked
import GoSem.Claim
import GoSem.ClaimJoined
import GoSem.ClaimMapViews
import Derived.JoinedTies
import Derived.KernelRfl
namespace Go.Proofs.Ythofkmndgedkgaa
/- THE CELL 'sum', in the pinned program and in every row, IS THE sha256 OF THE DUMP (.gsa) THAT YthofkmndgedkgaaProg.lean LOADS. Nothing in Lean hashes anything: it is a label: what it is worth is what the hold of that sum in a sandbox is worth. -/
noncomputable def Try.pinned : Pinned := { name := "ythofkmndgedkgaa", sum := "05ac8c6bb7d5714531c920f701c0734545efa0b8a3324cee59f40d3ff5370af7", checked := Try.checked }
namespace Rows
def none {H : Type} : Left H := { results := [], args := [] }

/-- 'laws.FnExactSystemsOf': WHATEVER THE INPUT: true; the input reads as it did. -/
def fnExactSystemsOfSpec : ChangeSpec := { name := "fnExactSystemsOf", fn := fun _ => fun
  | [d] => { results := [.lit (.bool true)], args := [d] }
  | _ => none }
def fnExactSystemsOfRow : OpenClaim := { program := "ythofkmndgedkgaa", sum := "05ac8c6bb7d5714531c920f701c0734545efa0b8a3324cee59f40d3ff5370af7", func := "loop.example/g01251/laws.FnExactSystemsOf", spec := "fnExactSystemsOf", unfollowed := true, recurses := true, apart := false }
def FnExactSystemsOfSaid : Prop := fnExactSystemsOfRow.holds Try.pinned (OpenSpec.ofChange fnExactSystemsOfSpec)

/-- ITS FALSE NEIGHBOUR: 'it returns false'. Refute it at one input. -/
def fnExactSystemsOfWrong : ChangeSpec := { name := "fnExactSystemsOf", fn := fun _ => fun
  | [d] => { results := [.lit (.bool false)], args := [d] }
  | _ => none }
def FnExactSystemsOfWrongFalsely : Prop := fnExactSystemsOfRow.holds Try.pinned (OpenSpec.ofChange fnExactSystemsOfWrong)

/-- 'laws.FnExactCountWithRainbow': WHATEVER THE INPUT: true; the input reads as it did. -/
def fnExactCountWithRainbowSpec : ChangeSpec := { name := "fnExactCountWithRainbow", fn := fun _ => fun
  | [d] => { results := [.lit (.bool true)], args := [d] }
  | _ => none }
def fnExactCountWithRainbowRow : OpenClaim := { program := "ythofkmndgedkgaa", sum := "05ac8c6bb7d5714531c920f701c0734545efa0b8a3324cee59f40d3ff5370af7", func := "loop.example/g01251/laws.FnExactCountWithRainbow", spec := "fnExactCountWithRainbow", unfollowed := true, recurses := true, apart := false }
def FnExactCountWithRainbowSaid : Prop := fnExactCountWithRainbowRow.holds Try.pinned (OpenSpec.ofChange fnExactCountWithRainbowSpec)

/-- ITS FALSE NEIGHBOUR: 'it returns false'. Refute it at one input. -/
def fnExactCountWithRainbowWrong : ChangeSpec := { name := "fnExactCountWithRainbow", fn := fun _ => fun
  | [d] => { results := [.lit (.bool false)], args := [d] }
  | _ => none }
def FnExactCountWithRainbowWrongFalsely : Prop := fnExactCountWithRainbowRow.holds Try.pinned (OpenSpec.ofChange fnExactCountWithRainbowWrong)

/-- 'laws.FnExactComponentTable': WHATEVER THE INPUT: true; the input reads as it did. -/
def fnExactComponentTableSpec : ChangeSpec := { name := "fnExactComponentTable", fn := fun _ => fun
  | [d] => { results := [.lit (.bool true)], args := [d] }
  | _ => none }
def fnExactComponentTableRow : OpenClaim := { program := "ythofkmndgedkgaa", sum := "05ac8c6bb7d5714531c920f701c0734545efa0b8a3324cee59f40d3ff5370af7", func := "loop.example/g01251/laws.FnExactComponentTable", spec := "fnExactComponentTable", unfollowed := true, recurses := true, apart := false }
def FnExactComponentTableSaid : Prop := fnExactComponentTableRow.holds Try.pinned (OpenSpec.ofChange fnExactComponentTableSpec)

/-- ITS FALSE NEIGHBOUR: 'it returns false'. Refute it at one input. -/
def fnExactComponentTableWrong : ChangeSpec := { name := "fnExactComponentTable", fn := fun _ => fun
  | [d] => { results := [.lit (.bool false)], args := [d] }
  | _ => none }
def FnExactComponentTableWrongFalsely : Prop := fnExactComponentTableRow.holds Try.pinned (OpenSpec.ofChange fnExactComponentTableWrong)

/-- 'laws.FnExactCountByComponents': WHATEVER THE INPUT: true; the input reads as it did. -/
def fnExactCountByComponentsSpec : ChangeSpec := { name := "fnExactCountByComponents", fn := fun _ => fun
  | [d] => { results := [.lit (.bool true)], args := [d] }
  | _ => none }
def fnExactCountByComponentsRow : OpenClaim := { program := "ythofkmndgedkgaa", sum := "05ac8c6bb7d5714531c920f701c0734545efa0b8a3324cee59f40d3ff5370af7", func := "loop.example/g01251/laws.FnExactCountByComponents", spec := "fnExactCountByComponents", unfollowed := true, recurses := true, apart := false }
def FnExactCountByComponentsSaid : Prop := fnExactCountByComponentsRow.holds Try.pinned (OpenSpec.ofChange fnExactCountByComponentsSpec)

/-- ITS FALSE NEIGHBOUR: 'it returns false'. Refute it at one input. -/
def fnExactCountByComponentsWrong : ChangeSpec := { name := "fnExactCountByComponents", fn := fun _ => fun
  | [d] => { results := [.lit (.bool false)], args := [d] }
  | _ => none }
def FnExactCountByComponentsWrongFalsely : Prop := fnExactCountByComponentsRow.holds Try.pinned (OpenSpec.ofChange fnExactCountByComponentsWrong)

/-- 'laws.FnExactComponentDeterminant': WHATEVER THE INPUT: true; the input reads as it did. -/
def fnExactComponentDeterminantSpec : ChangeSpec := { name := "fnExactComponentDeterminant", fn := fun _ => fun
  | [d1, d2, d3] => { results := [.lit (.bool true)], args := [d1, d2, d3] }
  | _ => none }
def fnExactComponentDeterminantRow : OpenClaim := { program := "ythofkmndgedkgaa", sum := "05ac8c6bb7d5714531c920f701c0734545efa0b8a3324cee59f40d3ff5370af7", func := "loop.example/g01251/laws.FnExactComponentDeterminant", spec := "fnExactComponentDeterminant", unfollowed := true, recurses := true, apart := false }
def FnExactComponentDeterminantSaid : Prop := fnExactComponentDeterminantRow.holds Try.pinned (OpenSpec.ofChange fnExactComponentDeterminantSpec)

/-- ITS FALSE NEIGHBOUR: 'it returns false'. Refute it at one input. -/
def fnExactComponentDeterminantWrong : ChangeSpec := { name := "fnExactComponentDeterminant", fn := fun _ => fun
  | [d1, d2, d3] => { results := [.lit (.bool false)], args := [d1, d2, d3] }
  | _ => none }
def FnExactComponentDeterminantWrongFalsely : Prop := fnExactComponentDeterminantRow.holds Try.pinned (OpenSpec.ofChange fnExactComponentDeterminantWrong)

/-- 'laws.FnExactHalvesOf': WHATEVER THE INPUT: true; the input reads as it did. -/
def fnExactHalvesOfSpec : ChangeSpec := { name := "fnExactHalvesOf", fn := fun _ => fun
  | [d1, d2] => { results := [.lit (.bool true)], args := [d1, d2] }
  | _ => none }
def fnExactHalvesOfRow : OpenClaim := { program := "ythofkmndgedkgaa", sum := "05ac8c6bb7d5714531c920f701c0734545efa0b8a3324cee59f40d3ff5370af7", func := "loop.example/g01251/laws.FnExactHalvesOf", spec := "fnExactHalvesOf", unfollowed := true, recurses := true, apart := false }
def FnExactHalvesOfSaid : Prop := fnExactHalvesOfRow.holds Try.pinned (OpenSpec.ofChange fnExactHalvesOfSpec)

/-- ITS FALSE NEIGHBOUR: 'it returns false'. Refute it at one input. -/
def fnExactHalvesOfWrong : ChangeSpec := { name := "fnExactHalvesOf", fn := fun _ => fun
  | [d1, d2] => { results := [.lit (.bool false)], args := [d1, d2] }
  | _ => none }
def FnExactHalvesOfWrongFalsely : Prop := fnExactHalvesOfRow.holds Try.pinned (OpenSpec.ofChange fnExactHalvesOfWrong)

/-- 'laws.FnExactCountHalves': WHATEVER THE INPUT: true; the input reads as it did. -/
def fnExactCountHalvesSpec : ChangeSpec := { name := "fnExactCountHalves", fn := fun _ => fun
  | [d1, d2] => { results := [.lit (.bool true)], args := [d1, d2] }
  | _ => none }
def fnExactCountHalvesRow : OpenClaim := { program := "ythofkmndgedkgaa", sum := "05ac8c6bb7d5714531c920f701c0734545efa0b8a3324cee59f40d3ff5370af7", func := "loop.example/g01251/laws.FnExactCountHalves", spec := "fnExactCountHalves", unfollowed := true, recurses := true, apart := false }
def FnExactCountHalvesSaid : Prop := fnExactCountHalvesRow.holds Try.pinned (OpenSpec.ofChange fnExactCountHalvesSpec)

/-- ITS FALSE NEIGHBOUR: 'it returns false'. Refute it at one input. -/
def fnExactCountHalvesWrong : ChangeSpec := { name := "fnExactCountHalves", fn := fun _ => fun
  | [d1, d2] => { results := [.lit (.bool false)], args := [d1, d2] }
  | _ => none }
def FnExactCountHalvesWrongFalsely : Prop := fnExactCountHalvesRow.holds Try.pinned (OpenSpec.ofChange fnExactCountHalvesWrong)

/-- 'laws.FnMeanders': WHATEVER THE INPUT: true; the input reads as it did. -/
def fnMeandersSpec : ChangeSpec := { name := "fnMeanders", fn := fun _ => fun
  | [d] => { results := [.lit (.bool true)], args := [d] }
  | _ => none }
def fnMeandersRow : OpenClaim := { program := "ythofkmndgedkgaa", sum := "05ac8c6bb7d5714531c920f701c0734545efa0b8a3324cee59f40d3ff5370af7", func := "loop.example/g01251/laws.FnMeanders", spec := "fnMeanders", recurses := true, apart := false }
def FnMeandersSaid : Prop := fnMeandersRow.holds Try.pinned (OpenSpec.ofChange fnMeandersSpec)

/-- ITS FALSE NEIGHBOUR: 'it returns false'. Refute it at one input. -/
def fnMeandersWrong : ChangeSpec := { name := "fnMeanders", fn := fun _ => fun
  | [d] => { results := [.lit (.bool false)], args := [d] }
  | _ => none }
def FnMeandersWrongFalsely : Prop := fnMeandersRow.holds Try.pinned (OpenSpec.ofChange fnMeandersWrong)

/-- 'laws.FnMeanderCounts': WHATEVER THE INPUT: true; the input reads as it did. -/
def fnMeanderCountsSpec : ChangeSpec := { name := "fnMeanderCounts", fn := fun _ => fun
  | [d] => { results := [.lit (.bool true)], args := [d] }
  | _ => none }
def fnMeanderCountsRow : OpenClaim := { program := "ythofkmndgedkgaa", sum := "05ac8c6bb7d5714531c920f701c0734545efa0b8a3324cee59f40d3ff5370af7", func := "loop.example/g01251/laws.FnMeanderCounts", spec := "fnMeanderCounts", unfollowed := true, recurses := true, apart := false }
def FnMeanderCountsSaid : Prop := fnMeanderCountsRow.holds Try.pinned (OpenSpec.ofChange fnMeanderCountsSpec)

/-- ITS FALSE NEIGHBOUR: 'it returns false'. Refute it at one input. -/
def fnMeanderCountsWrong : ChangeSpec := { name := "fnMeanderCounts", fn := fun _ => fun
  | [d] => { results := [.lit (.bool false)], args := [d] }
  | _ => none }
def FnMeanderCountsWrongFalsely : Prop := fnMeanderCountsRow.holds Try.pinned (OpenSpec.ofChange fnMeanderCountsWrong)

/- THE SECOND FORM. 'bulk': how many values and letters a reading holds, each counted each time it is reached (what is shared counts as often as it is met; a slice's spare places count too). A statement '..UptoSaid' is the law's where the arguments, and the package variables that the reading takes, are together of bulk at most 1048576: NARROWER than '..Said'. Prove '..Said' where nothing that the law and all that it calls make is longer than what came in: it says more and counts as full. Else prove '..UptoSaid'. A law counts once. -/
mutual
def uptoBulk {H : Type} : DataW H → Nat
  | .lit (.string bytes) => bytes.length + 1
  | .lit _ => 1
  | .nil => 1
  | .ptr d => uptoBulk d + 1
  | .slice elems spare => uptoBulkAll elems + uptoBulkAll spare + 1
  | .agg parts => uptoBulkAll parts + 1
  | .iface _ d => uptoBulk d + 1
  | .map entries => uptoBulkEntries entries + 1
  | .held _ => 1
def uptoBulkAll {H : Type} : List (DataW H) → Nat
  | [] => 0
  | d :: r => uptoBulk d + uptoBulkAll r
def uptoBulkEntries {H : Type} : List (Lit × DataW H) → Nat
  | [] => 0
  | x :: r => uptoBulkEntry x + uptoBulkEntries r
def uptoBulkEntry {H : Type} : Lit × DataW H → Nat
  | (.string bytes, d) => bytes.length + uptoBulk d + 1
  | (_, d) => uptoBulk d + 1
 end
def uptoSmall : (H : Type) → List (DataW H) → Bool := fun _ ds => decide (uptoBulkAll ds ≤ 1048576)
def OpenSpec.upto (s : _root_.Go.ChangeSpec) : _root_.Go.OpenSpec := { _root_.Go.OpenSpec.ofChange s with cond := some uptoSmall }

/-- 'laws.FnExactSystemsOf', WHERE WHAT IT READS IS OF BULK AT MOST 1048576: true; the input reads as it did. -/
def fnExactSystemsOfUptoRow : OpenClaim := { program := "ythofkmndgedkgaa", sum := "05ac8c6bb7d5714531c920f701c0734545efa0b8a3324cee59f40d3ff5370af7", func := "loop.example/g01251/laws.FnExactSystemsOf", spec := "fnExactSystemsOf", unfollowed := true, recurses := true, apart := false, narrowed := true }
def FnExactSystemsOfUptoSaid : Prop := fnExactSystemsOfUptoRow.holds Try.pinned (OpenSpec.upto fnExactSystemsOfSpec)

/-- 'laws.FnExactCountWithRainbow', WHERE WHAT IT READS IS OF BULK AT MOST 1048576: true; the input reads as it did. -/
def fnExactCountWithRainbowUptoRow : OpenClaim := { program := "ythofkmndgedkgaa", sum := "05ac8c6bb7d5714531c920f701c0734545efa0b8a3324cee59f40d3ff5370af7", func := "loop.example/g01251/laws.FnExactCountWithRainbow", spec := "fnExactCountWithRainbow", unfollowed := true, recurses := true, apart := false, narrowed := true }
def FnExactCountWithRainbowUptoSaid : Prop := fnExactCountWithRainbowUptoRow.holds Try.pinned (OpenSpec.upto fnExactCountWithRainbowSpec)

/-- 'laws.FnExactComponentTable', WHERE WHAT IT READS IS OF BULK AT MOST 1048576: true; the input reads as it did. -/
def fnExactComponentTableUptoRow : OpenClaim := { program := "ythofkmndgedkgaa", sum := "05ac8c6bb7d5714531c920f701c0734545efa0b8a3324cee59f40d3ff5370af7", func := "loop.example/g01251/laws.FnExactComponentTable", spec := "fnExactComponentTable", unfollowed := true, recurses := true, apart := false, narrowed := true }
def FnExactComponentTableUptoSaid : Prop := fnExactComponentTableUptoRow.holds Try.pinned (OpenSpec.upto fnExactComponentTableSpec)

/-- 'laws.FnExactCountByComponents', WHERE WHAT IT READS IS OF BULK AT MOST 1048576: true; the input reads as it did. -/
def fnExactCountByComponentsUptoRow : OpenClaim := { program := "ythofkmndgedkgaa", sum := "05ac8c6bb7d5714531c920f701c0734545efa0b8a3324cee59f40d3ff5370af7", func := "loop.example/g01251/laws.FnExactCountByComponents", spec := "fnExactCountByComponents", unfollowed := true, recurses := true, apart := false, narrowed := true }
def FnExactCountByComponentsUptoSaid : Prop := fnExactCountByComponentsUptoRow.holds Try.pinned (OpenSpec.upto fnExactCountByComponentsSpec)

/-- 'laws.FnExactComponentDeterminant', WHERE WHAT IT READS IS OF BULK AT MOST 1048576: true; the input reads as it did. -/
def fnExactComponentDeterminantUptoRow : OpenClaim := { program := "ythofkmndgedkgaa", sum := "05ac8c6bb7d5714531c920f701c0734545efa0b8a3324cee59f40d3ff5370af7", func := "loop.example/g01251/laws.FnExactComponentDeterminant", spec := "fnExactComponentDeterminant", unfollowed := true, recurses := true, apart := false, narrowed := true }
def FnExactComponentDeterminantUptoSaid : Prop := fnExactComponentDeterminantUptoRow.holds Try.pinned (OpenSpec.upto fnExactComponentDeterminantSpec)

/-- 'laws.FnExactHalvesOf', WHERE WHAT IT READS IS OF BULK AT MOST 1048576: true; the input reads as it did. -/
def fnExactHalvesOfUptoRow : OpenClaim := { program := "ythofkmndgedkgaa", sum := "05ac8c6bb7d5714531c920f701c0734545efa0b8a3324cee59f40d3ff5370af7", func := "loop.example/g01251/laws.FnExactHalvesOf", spec := "fnExactHalvesOf", unfollowed := true, recurses := true, apart := false, narrowed := true }
def FnExactHalvesOfUptoSaid : Prop := fnExactHalvesOfUptoRow.holds Try.pinned (OpenSpec.upto fnExactHalvesOfSpec)

/-- 'laws.FnExactCountHalves', WHERE WHAT IT READS IS OF BULK AT MOST 1048576: true; the input reads as it did. -/
def fnExactCountHalvesUptoRow : OpenClaim := { program := "ythofkmndgedkgaa", sum := "05ac8c6bb7d5714531c920f701c0734545efa0b8a3324cee59f40d3ff5370af7", func := "loop.example/g01251/laws.FnExactCountHalves", spec := "fnExactCountHalves", unfollowed := true, recurses := true, apart := false, narrowed := true }
def FnExactCountHalvesUptoSaid : Prop := fnExactCountHalvesUptoRow.holds Try.pinned (OpenSpec.upto fnExactCountHalvesSpec)

/-- 'laws.FnMeanders', WHERE WHAT IT READS IS OF BULK AT MOST 1048576: true; the input reads as it did. -/
def fnMeandersUptoRow : OpenClaim := { program := "ythofkmndgedkgaa", sum := "05ac8c6bb7d5714531c920f701c0734545efa0b8a3324cee59f40d3ff5370af7", func := "loop.example/g01251/laws.FnMeanders", spec := "fnMeanders", recurses := true, apart := false, narrowed := true }
def FnMeandersUptoSaid : Prop := fnMeandersUptoRow.holds Try.pinned (OpenSpec.upto fnMeandersSpec)

/-- 'laws.FnMeanderCounts', WHERE WHAT IT READS IS OF BULK AT MOST 1048576: true; the input reads as it did. -/
def fnMeanderCountsUptoRow : OpenClaim := { program := "ythofkmndgedkgaa", sum := "05ac8c6bb7d5714531c920f701c0734545efa0b8a3324cee59f40d3ff5370af7", func := "loop.example/g01251/laws.FnMeanderCounts", spec := "fnMeanderCounts", unfollowed := true, recurses := true, apart := false, narrowed := true }
def FnMeanderCountsUptoSaid : Prop := fnMeanderCountsUptoRow.holds Try.pinned (OpenSpec.upto fnMeanderCountsSpec)

end Rows
end Go.Proofs.Ythofkmndgedkgaa
