/-
  No cell of these rows narrows 'for every input' (looked for: loops, veiled, ifaces, maps, wideKeys, modest, calm, conditions, laid).
  DERIVED. THE GIVEN ROWS OF THIS SEAT. 5 by the template 'for every input the law returns true; each argument reads behind the call as it read before'; 0 by the template 'total and deterministic' (their statements: YtnlbokigogbneaaTotals.lean).
  GIVEN WITH THE SEED: the statements are not yours to turn. If you find one false, say at which input.
  Laid BY PROGRAM, IN A SANDBOX (cutbox-rows.mjs): the forced cells as the released guide's own fill.sh prints them over the translation 174bd5c7b3ef08bb… (all of the seat's roots in one cut). By AI agents, Wed Nov 11 2026. No macro, syntax, notation, axiom, sorry.
-/
import Derived.Test.YtnlbokigogbneaaChecked
import GoSem.Claim
import GoSem.ClaimJoined
import GoSem.ClaimMapViews
import Derived.JoinedTies
import Derived.KernelRfl
namespace Go.Proofs.Ytnlbokigogbneaa
/- THE CELL 'sum', in the pinned program and in every row, IS THE sha256 OF THE DUMP (.gsa) THAT YtnlbokigogbneaaProg.lean LOADS. Nothing in Lean hashes anything: it is a label: what it is worth is what the hold of that sum in a sandbox is worth. -/
noncomputable def Try.pinned : Pinned := { name := "ytnlbokigogbneaa", sum := "174bd5c7b3ef08bbde55b731f3d7d54bf8d9cf0d3ca5f3c2ccbc8b4c4061b1f0", checked := Try.checked }
namespace Rows
def none {H : Type} : Left H := { results := [], args := [] }

/-- 'laws.FnExactSpinLoop': WHATEVER THE INPUT: true; the input reads as it did. -/
def fnExactSpinLoopSpec : ChangeSpec := { name := "fnExactSpinLoop", fn := fun _ => fun
  | [d1, d2] => { results := [.lit (.bool true)], args := [d1, d2] }
  | _ => none }
def fnExactSpinLoopRow : OpenClaim := { program := "ytnlbokigogbneaa", sum := "174bd5c7b3ef08bbde55b731f3d7d54bf8d9cf0d3ca5f3c2ccbc8b4c4061b1f0", func := "loop.example/g01251/laws.FnExactSpinLoop", spec := "fnExactSpinLoop", apart := false }
def FnExactSpinLoopSaid : Prop := fnExactSpinLoopRow.holds Try.pinned (OpenSpec.ofChange fnExactSpinLoopSpec)

/-- ITS FALSE NEIGHBOUR: 'it returns false'. Refute it at one input. -/
def fnExactSpinLoopWrong : ChangeSpec := { name := "fnExactSpinLoop", fn := fun _ => fun
  | [d1, d2] => { results := [.lit (.bool false)], args := [d1, d2] }
  | _ => none }
def FnExactSpinLoopWrongFalsely : Prop := fnExactSpinLoopRow.holds Try.pinned (OpenSpec.ofChange fnExactSpinLoopWrong)

/-- 'laws.FnExactSpinEntry': WHATEVER THE INPUT: true; the input reads as it did. -/
def fnExactSpinEntrySpec : ChangeSpec := { name := "fnExactSpinEntry", fn := fun _ => fun
  | [d1, d2, d3, d4, d5] => { results := [.lit (.bool true)], args := [d1, d2, d3, d4, d5] }
  | _ => none }
def fnExactSpinEntryRow : OpenClaim := { program := "ytnlbokigogbneaa", sum := "174bd5c7b3ef08bbde55b731f3d7d54bf8d9cf0d3ca5f3c2ccbc8b4c4061b1f0", func := "loop.example/g01251/laws.FnExactSpinEntry", spec := "fnExactSpinEntry", apart := false }
def FnExactSpinEntrySaid : Prop := fnExactSpinEntryRow.holds Try.pinned (OpenSpec.ofChange fnExactSpinEntrySpec)

/-- ITS FALSE NEIGHBOUR: 'it returns false'. Refute it at one input. -/
def fnExactSpinEntryWrong : ChangeSpec := { name := "fnExactSpinEntry", fn := fun _ => fun
  | [d1, d2, d3, d4, d5] => { results := [.lit (.bool false)], args := [d1, d2, d3, d4, d5] }
  | _ => none }
def FnExactSpinEntryWrongFalsely : Prop := fnExactSpinEntryRow.holds Try.pinned (OpenSpec.ofChange fnExactSpinEntryWrong)

/-- 'laws.FnExactApplyToSpins': WHATEVER THE INPUT: true; the input reads as it did. -/
def fnExactApplyToSpinsSpec : ChangeSpec := { name := "fnExactApplyToSpins", fn := fun _ => fun
  | [d1, d2, d3, d4] => { results := [.lit (.bool true)], args := [d1, d2, d3, d4] }
  | _ => none }
def fnExactApplyToSpinsRow : OpenClaim := { program := "ytnlbokigogbneaa", sum := "174bd5c7b3ef08bbde55b731f3d7d54bf8d9cf0d3ca5f3c2ccbc8b4c4061b1f0", func := "loop.example/g01251/laws.FnExactApplyToSpins", spec := "fnExactApplyToSpins", inPlace := ["(*sync.WaitGroup).Add", "internal/race.ReleaseMerge", "internal/race.Disable", "internal/race.Enable", "internal/synctest.IsInBubble", "internal/synctest.Associate[sync.WaitGroup]", "sync.fatal", "sync/atomic.OrUint64", "sync/atomic.AddUint64", "internal/race.Read", "sync/atomic.LoadUint64", "sync/atomic.StoreUint64", "internal/synctest.Disassociate[sync.WaitGroup]", "sync.runtime_Semrelease", "(*sync.WaitGroup).Done", "(*sync.WaitGroup).Wait", "internal/race.Acquire", "internal/synctest.IsAssociated[sync.WaitGroup]", "sync/atomic.CompareAndSwapUint64", "internal/race.Write", "sync.runtime_SemacquireWaitGroup"], unfollowed := true, recurses := true, leaving := true, apart := false }
def FnExactApplyToSpinsSaid : Prop := fnExactApplyToSpinsRow.holds Try.pinned (OpenSpec.ofChange fnExactApplyToSpinsSpec)

/-- ITS FALSE NEIGHBOUR: 'it returns false'. Refute it at one input. -/
def fnExactApplyToSpinsWrong : ChangeSpec := { name := "fnExactApplyToSpins", fn := fun _ => fun
  | [d1, d2, d3, d4] => { results := [.lit (.bool false)], args := [d1, d2, d3, d4] }
  | _ => none }
def FnExactApplyToSpinsWrongFalsely : Prop := fnExactApplyToSpinsRow.holds Try.pinned (OpenSpec.ofChange fnExactApplyToSpinsWrong)

/-- 'laws.FnExactWeightedTrace': WHATEVER THE INPUT: true; the input reads as it did. -/
def fnExactWeightedTraceSpec : ChangeSpec := { name := "fnExactWeightedTrace", fn := fun _ => fun
  | [d1, d2, d3] => { results := [.lit (.bool true)], args := [d1, d2, d3] }
  | _ => none }
def fnExactWeightedTraceRow : OpenClaim := { program := "ytnlbokigogbneaa", sum := "174bd5c7b3ef08bbde55b731f3d7d54bf8d9cf0d3ca5f3c2ccbc8b4c4061b1f0", func := "loop.example/g01251/laws.FnExactWeightedTrace", spec := "fnExactWeightedTrace", apart := false }
def FnExactWeightedTraceSaid : Prop := fnExactWeightedTraceRow.holds Try.pinned (OpenSpec.ofChange fnExactWeightedTraceSpec)

/-- ITS FALSE NEIGHBOUR: 'it returns false'. Refute it at one input. -/
def fnExactWeightedTraceWrong : ChangeSpec := { name := "fnExactWeightedTrace", fn := fun _ => fun
  | [d1, d2, d3] => { results := [.lit (.bool false)], args := [d1, d2, d3] }
  | _ => none }
def FnExactWeightedTraceWrongFalsely : Prop := fnExactWeightedTraceRow.holds Try.pinned (OpenSpec.ofChange fnExactWeightedTraceWrong)

/-- 'laws.FnExactPlainTrace': WHATEVER THE INPUT: true; the input reads as it did. -/
def fnExactPlainTraceSpec : ChangeSpec := { name := "fnExactPlainTrace", fn := fun _ => fun
  | [d1, d2, d3] => { results := [.lit (.bool true)], args := [d1, d2, d3] }
  | _ => none }
def fnExactPlainTraceRow : OpenClaim := { program := "ytnlbokigogbneaa", sum := "174bd5c7b3ef08bbde55b731f3d7d54bf8d9cf0d3ca5f3c2ccbc8b4c4061b1f0", func := "loop.example/g01251/laws.FnExactPlainTrace", spec := "fnExactPlainTrace", apart := false }
def FnExactPlainTraceSaid : Prop := fnExactPlainTraceRow.holds Try.pinned (OpenSpec.ofChange fnExactPlainTraceSpec)

/-- ITS FALSE NEIGHBOUR: 'it returns false'. Refute it at one input. -/
def fnExactPlainTraceWrong : ChangeSpec := { name := "fnExactPlainTrace", fn := fun _ => fun
  | [d1, d2, d3] => { results := [.lit (.bool false)], args := [d1, d2, d3] }
  | _ => none }
def FnExactPlainTraceWrongFalsely : Prop := fnExactPlainTraceRow.holds Try.pinned (OpenSpec.ofChange fnExactPlainTraceWrong)

/- THE SECOND FORM. 'bulk': how many values and letters a reading holds, each counted each time it is reached (what is shared counts as often as it is met; a slice's spare places count too). A statement '..UptoSaid' is the law's where the arguments, and the package variables that the reading takes, are together of bulk at most 1048576: NARROWER than '..Said'. Prove '..Said' where nothing that the law and all that it calls make is longer than what came in: it says more and counts as full. Else prove '..UptoSaid'. A law counts once. -/
mutual
def uptoBulk {H : Type} : DataW H → Nat
  | .lit (.string bytes) => bytes.length + 1
  | .lit _ => 1
  | .nil => 1
  | .ptr d => uptoBulk d + 1
  | .slice elems spare => uptoBulkAll elems + uptoBulkAll spare + 1
  | .agg parts => uptoBulkAll parts + 1
  | .iface _ d => uptoBulk d + 1
  | .map entries => uptoBulkEntries entries + 1
  | .held _ => 1
def uptoBulkAll {H : Type} : List (DataW H) → Nat
  | [] => 0
  | d :: r => uptoBulk d + uptoBulkAll r
def uptoBulkEntries {H : Type} : List (Lit × DataW H) → Nat
  | [] => 0
  | x :: r => uptoBulkEntry x + uptoBulkEntries r
def uptoBulkEntry {H : Type} : Lit × DataW H → Nat
  | (.string bytes, d) => bytes.length + uptoBulk d + 1
  | (_, d) => uptoBulk d + 1
 end
def uptoSmall : (H : Type) → List (DataW H) → Bool := fun _ ds => decide (uptoBulkAll ds ≤ 1048576)
def OpenSpec.upto (s : _root_.Go.ChangeSpec) : _root_.Go.OpenSpec := { _root_.Go.OpenSpec.ofChange s with cond := some uptoSmall }

/-- 'laws.FnExactSpinLoop', WHERE WHAT IT READS IS OF BULK AT MOST 1048576: true; the input reads as it did. -/
def fnExactSpinLoopUptoRow : OpenClaim := { program := "ytnlbokigogbneaa", sum := "174bd5c7b3ef08bbde55b731f3d7d54bf8d9cf0d3ca5f3c2ccbc8b4c4061b1f0", func := "loop.example/g01251/laws.FnExactSpinLoop", spec := "fnExactSpinLoop", apart := false, narrowed := true }
def FnExactSpinLoopUptoSaid : Prop := fnExactSpinLoopUptoRow.holds Try.pinned (OpenSpec.upto fnExactSpinLoopSpec)

/-- 'laws.FnExactSpinEntry', WHERE WHAT IT READS IS OF BULK AT MOST 1048576: true; the input reads as it did. -/
def fnExactSpinEntryUptoRow : OpenClaim := { program := "ytnlbokigogbneaa", sum := "174bd5c7b3ef08bbde55b731f3d7d54bf8d9cf0d3ca5f3c2ccbc8b4c4061b1f0", func := "loop.example/g01251/laws.FnExactSpinEntry", spec := "fnExactSpinEntry", apart := false, narrowed := true }
def FnExactSpinEntryUptoSaid : Prop := fnExactSpinEntryUptoRow.holds Try.pinned (OpenSpec.upto fnExactSpinEntrySpec)

/-- 'laws.FnExactApplyToSpins', WHERE WHAT IT READS IS OF BULK AT MOST 1048576: true; the input reads as it did. -/
def fnExactApplyToSpinsUptoRow : OpenClaim := { program := "ytnlbokigogbneaa", sum := "174bd5c7b3ef08bbde55b731f3d7d54bf8d9cf0d3ca5f3c2ccbc8b4c4061b1f0", func := "loop.example/g01251/laws.FnExactApplyToSpins", spec := "fnExactApplyToSpins", inPlace := ["(*sync.WaitGroup).Add", "internal/race.ReleaseMerge", "internal/race.Disable", "internal/race.Enable", "internal/synctest.IsInBubble", "internal/synctest.Associate[sync.WaitGroup]", "sync.fatal", "sync/atomic.OrUint64", "sync/atomic.AddUint64", "internal/race.Read", "sync/atomic.LoadUint64", "sync/atomic.StoreUint64", "internal/synctest.Disassociate[sync.WaitGroup]", "sync.runtime_Semrelease", "(*sync.WaitGroup).Done", "(*sync.WaitGroup).Wait", "internal/race.Acquire", "internal/synctest.IsAssociated[sync.WaitGroup]", "sync/atomic.CompareAndSwapUint64", "internal/race.Write", "sync.runtime_SemacquireWaitGroup"], unfollowed := true, recurses := true, leaving := true, apart := false, narrowed := true }
def FnExactApplyToSpinsUptoSaid : Prop := fnExactApplyToSpinsUptoRow.holds Try.pinned (OpenSpec.upto fnExactApplyToSpinsSpec)

/-- 'laws.FnExactWeightedTrace', WHERE WHAT IT READS IS OF BULK AT MOST 1048576: true; the input reads as it did. -/
def fnExactWeightedTraceUptoRow : OpenClaim := { program := "ytnlbokigogbneaa", sum := "174bd5c7b3ef08bbde55b731f3d7d54bf8d9cf0d3ca5f3c2ccbc8b4c4061b1f0", func := "loop.example/g01251/laws.FnExactWeightedTrace", spec := "fnExactWeightedTrace", apart := false, narrowed := true }
def FnExactWeightedTraceUptoSaid : Prop := fnExactWeightedTraceUptoRow.holds Try.pinned (OpenSpec.upto fnExactWeightedTraceSpec)

/-- 'laws.FnExactPlainTrace', WHERE WHAT IT READS IS OF BULK AT MOST 1048576: true; the input reads as it did. -/
def fnExactPlainTraceUptoRow : OpenClaim := { program := "ytnlbokigogbneaa", sum := "174bd5c7b3ef08bbde55b731f3d7d54bf8d9cf0d3ca5f3c2ccbc8b4c4061b1f0", func := "loop.example/g01251/laws.FnExactPlainTrace", spec := "fnExactPlainTrace", apart := false, narrowed := true }
def FnExactPlainTraceUptoSaid : Prop := fnExactPlainTraceUptoRow.holds Try.pinned (OpenSpec.upto fnExactPlainTraceSpec)

end Rows
end Go.Proofs.Ytnlbokigogbneaa
