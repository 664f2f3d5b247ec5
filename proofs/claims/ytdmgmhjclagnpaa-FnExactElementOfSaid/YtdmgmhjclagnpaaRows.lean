/-
  No cell of these rows narrows 'for every input' (looked for: loops, veiled, ifaces, maps, wideKeys, modest, calm, conditions, laid).
  DERIVED. THE GIVEN ROWS OF THIS SEAT. 6 by the template 'for every input the law returns true; each argument reads behind the call as it read before'; 0 by the template 'total and deterministic' (their statements: YtdmgmhjclagnpaaTotals.lean).
  GIVEN WITH THE SEED: the statements are not yours to turn. If you find one false, say at which input.
  Laid BY PROGRAM, IN A SANDBOX (cutbox-rows.mjs): the forced cells as the released guide's own fill.sh prints them over the translation afa68ce679e870ba… (all of the seat's roots in one cut). By AI agents, Wed Nov 11 2026. No macro, syntax, notation, axiom, sorry.
-/
import Derived.Test.YtdmgmhjclagnpaaChecked
import GoSem.Claim
import GoSem.ClaimJoined
import GoSem.ClaimMapViews
import Derived.JoinedTies
import Derived.KernelRfl
namespace Go.Proofs.Ytdmgmhjclagnpaa
/- THE CELL 'sum', in the pinned program and in every row, IS THE sha256 OF THE DUMP (.gsa) THAT YtdmgmhjclagnpaaProg.lean LOADS. Nothing in Lean hashes anything: it is a label: what it is worth is what the hold of that sum in a sandbox is worth. -/
noncomputable def Try.pinned : Pinned := { name := "ytdmgmhjclagnpaa", sum := "afa68ce679e870ba65e0596eb841019350f5537118379d97654150589928c137", checked := Try.checked }
namespace Rows
def none {H : Type} : Left H := { results := [], args := [] }

/-- 'laws.FnExactNewDesk': WHATEVER THE INPUT: true; the input reads as it did. -/
def fnExactNewDeskSpec : ChangeSpec := { name := "fnExactNewDesk", fn := fun _ => fun
  | [] => { results := [.lit (.bool true)], args := [] }
  | _ => none }
def fnExactNewDeskRow : OpenClaim := { program := "ytdmgmhjclagnpaa", sum := "afa68ce679e870ba65e0596eb841019350f5537118379d97654150589928c137", func := "loop.example/g01251/laws.FnExactNewDesk", spec := "fnExactNewDesk", plainKeys := false, apart := false }
def FnExactNewDeskSaid : Prop := fnExactNewDeskRow.holds Try.pinned (OpenSpec.ofChange fnExactNewDeskSpec)

/-- ITS FALSE NEIGHBOUR: 'it returns false'. Refute it at one input. -/
def fnExactNewDeskWrong : ChangeSpec := { name := "fnExactNewDesk", fn := fun _ => fun
  | [] => { results := [.lit (.bool false)], args := [] }
  | _ => none }
def FnExactNewDeskWrongFalsely : Prop := fnExactNewDeskRow.holds Try.pinned (OpenSpec.ofChange fnExactNewDeskWrong)

/-- 'laws.FnExactIsDesk': WHATEVER THE INPUT: true; the input reads as it did. -/
def fnExactIsDeskSpec : ChangeSpec := { name := "fnExactIsDesk", fn := fun _ => fun
  | [d] => { results := [.lit (.bool true)], args := [d] }
  | _ => none }
def fnExactIsDeskRow : OpenClaim := { program := "ytdmgmhjclagnpaa", sum := "afa68ce679e870ba65e0596eb841019350f5537118379d97654150589928c137", func := "loop.example/g01251/laws.FnExactIsDesk", spec := "fnExactIsDesk", inPlace := ["internal/bytealg.abigen_runtime_cmpstring"], plainKeys := false, apart := false }
def FnExactIsDeskSaid : Prop := fnExactIsDeskRow.holds Try.pinned (OpenSpec.ofChange fnExactIsDeskSpec)

/-- ITS FALSE NEIGHBOUR: 'it returns false'. Refute it at one input. -/
def fnExactIsDeskWrong : ChangeSpec := { name := "fnExactIsDesk", fn := fun _ => fun
  | [d] => { results := [.lit (.bool false)], args := [d] }
  | _ => none }
def FnExactIsDeskWrongFalsely : Prop := fnExactIsDeskRow.holds Try.pinned (OpenSpec.ofChange fnExactIsDeskWrong)

/-- 'laws.FnExactFlipElement': WHATEVER THE INPUT: true; the input reads as it did. -/
def fnExactFlipElementSpec : ChangeSpec := { name := "fnExactFlipElement", fn := fun _ => fun
  | [d] => { results := [.lit (.bool true)], args := [d] }
  | _ => none }
def fnExactFlipElementRow : OpenClaim := { program := "ytdmgmhjclagnpaa", sum := "afa68ce679e870ba65e0596eb841019350f5537118379d97654150589928c137", func := "loop.example/g01251/laws.FnExactFlipElement", spec := "fnExactFlipElement", inPlace := ["internal/bytealg.abigen_runtime_cmpstring"], unfollowed := true, recurses := true, plainKeys := false, apart := false }
def FnExactFlipElementSaid : Prop := fnExactFlipElementRow.holds Try.pinned (OpenSpec.ofChange fnExactFlipElementSpec)

/-- ITS FALSE NEIGHBOUR: 'it returns false'. Refute it at one input. -/
def fnExactFlipElementWrong : ChangeSpec := { name := "fnExactFlipElement", fn := fun _ => fun
  | [d] => { results := [.lit (.bool false)], args := [d] }
  | _ => none }
def FnExactFlipElementWrongFalsely : Prop := fnExactFlipElementRow.holds Try.pinned (OpenSpec.ofChange fnExactFlipElementWrong)

/-- 'laws.FnExactScaleElement': WHATEVER THE INPUT: true; the input reads as it did. -/
def fnExactScaleElementSpec : ChangeSpec := { name := "fnExactScaleElement", fn := fun _ => fun
  | [d1, d2] => { results := [.lit (.bool true)], args := [d1, d2] }
  | _ => none }
def fnExactScaleElementRow : OpenClaim := { program := "ytdmgmhjclagnpaa", sum := "afa68ce679e870ba65e0596eb841019350f5537118379d97654150589928c137", func := "loop.example/g01251/laws.FnExactScaleElement", spec := "fnExactScaleElement", inPlace := ["internal/bytealg.abigen_runtime_cmpstring"], unfollowed := true, recurses := true, plainKeys := false, apart := false }
def FnExactScaleElementSaid : Prop := fnExactScaleElementRow.holds Try.pinned (OpenSpec.ofChange fnExactScaleElementSpec)

/-- ITS FALSE NEIGHBOUR: 'it returns false'. Refute it at one input. -/
def fnExactScaleElementWrong : ChangeSpec := { name := "fnExactScaleElement", fn := fun _ => fun
  | [d1, d2] => { results := [.lit (.bool false)], args := [d1, d2] }
  | _ => none }
def FnExactScaleElementWrongFalsely : Prop := fnExactScaleElementRow.holds Try.pinned (OpenSpec.ofChange fnExactScaleElementWrong)

/-- 'laws.FnExactElementOf': WHATEVER THE INPUT: true; the input reads as it did. -/
def fnExactElementOfSpec : ChangeSpec := { name := "fnExactElementOf", fn := fun _ => fun
  | [d1, d2, d3, d4] => { results := [.lit (.bool true)], args := [d1, d2, d3, d4] }
  | _ => none }
def fnExactElementOfRow : OpenClaim := { program := "ytdmgmhjclagnpaa", sum := "afa68ce679e870ba65e0596eb841019350f5537118379d97654150589928c137", func := "loop.example/g01251/laws.FnExactElementOf", spec := "fnExactElementOf", inPlace := ["internal/bytealg.abigen_runtime_cmpstring"], unfollowed := true, recurses := true, plainKeys := false, apart := false }
def FnExactElementOfSaid : Prop := fnExactElementOfRow.holds Try.pinned (OpenSpec.ofChange fnExactElementOfSpec)

/-- ITS FALSE NEIGHBOUR: 'it returns false'. Refute it at one input. -/
def fnExactElementOfWrong : ChangeSpec := { name := "fnExactElementOf", fn := fun _ => fun
  | [d1, d2, d3, d4] => { results := [.lit (.bool false)], args := [d1, d2, d3, d4] }
  | _ => none }
def FnExactElementOfWrongFalsely : Prop := fnExactElementOfRow.holds Try.pinned (OpenSpec.ofChange fnExactElementOfWrong)

/-- 'laws.FnExactAddElements': WHATEVER THE INPUT: true; the input reads as it did. -/
def fnExactAddElementsSpec : ChangeSpec := { name := "fnExactAddElements", fn := fun _ => fun
  | [d1, d2] => { results := [.lit (.bool true)], args := [d1, d2] }
  | _ => none }
def fnExactAddElementsRow : OpenClaim := { program := "ytdmgmhjclagnpaa", sum := "afa68ce679e870ba65e0596eb841019350f5537118379d97654150589928c137", func := "loop.example/g01251/laws.FnExactAddElements", spec := "fnExactAddElements", inPlace := ["internal/bytealg.abigen_runtime_cmpstring"], unfollowed := true, recurses := true, plainKeys := false, apart := false }
def FnExactAddElementsSaid : Prop := fnExactAddElementsRow.holds Try.pinned (OpenSpec.ofChange fnExactAddElementsSpec)

/-- ITS FALSE NEIGHBOUR: 'it returns false'. Refute it at one input. -/
def fnExactAddElementsWrong : ChangeSpec := { name := "fnExactAddElements", fn := fun _ => fun
  | [d1, d2] => { results := [.lit (.bool false)], args := [d1, d2] }
  | _ => none }
def FnExactAddElementsWrongFalsely : Prop := fnExactAddElementsRow.holds Try.pinned (OpenSpec.ofChange fnExactAddElementsWrong)

/- THE SECOND FORM. 'bulk': how many values and letters a reading holds, each counted each time it is reached (what is shared counts as often as it is met; a slice's spare places count too). A statement '..UptoSaid' is the law's where the arguments, and the package variables that the reading takes, are together of bulk at most 1048576: NARROWER than '..Said'. Prove '..Said' where nothing that the law and all that it calls make is longer than what came in: it says more and counts as full. Else prove '..UptoSaid'. A law counts once. -/
mutual
def uptoBulk {H : Type} : DataW H → Nat
  | .lit (.string bytes) => bytes.length + 1
  | .lit _ => 1
  | .nil => 1
  | .ptr d => uptoBulk d + 1
  | .slice elems spare => uptoBulkAll elems + uptoBulkAll spare + 1
  | .agg parts => uptoBulkAll parts + 1
  | .iface _ d => uptoBulk d + 1
  | .map entries => uptoBulkEntries entries + 1
  | .held _ => 1
def uptoBulkAll {H : Type} : List (DataW H) → Nat
  | [] => 0
  | d :: r => uptoBulk d + uptoBulkAll r
def uptoBulkEntries {H : Type} : List (Lit × DataW H) → Nat
  | [] => 0
  | x :: r => uptoBulkEntry x + uptoBulkEntries r
def uptoBulkEntry {H : Type} : Lit × DataW H → Nat
  | (.string bytes, d) => bytes.length + uptoBulk d + 1
  | (_, d) => uptoBulk d + 1
 end
def uptoSmall : (H : Type) → List (DataW H) → Bool := fun _ ds => decide (uptoBulkAll ds ≤ 1048576)
def OpenSpec.upto (s : _root_.Go.ChangeSpec) : _root_.Go.OpenSpec := { _root_.Go.OpenSpec.ofChange s with cond := some uptoSmall }

/-- 'laws.FnExactNewDesk', WHERE WHAT IT READS IS OF BULK AT MOST 1048576: true; the input reads as it did. -/
def fnExactNewDeskUptoRow : OpenClaim := { program := "ytdmgmhjclagnpaa", sum := "afa68ce679e870ba65e0596eb841019350f5537118379d97654150589928c137", func := "loop.example/g01251/laws.FnExactNewDesk", spec := "fnExactNewDesk", plainKeys := false, apart := false, narrowed := true }
def FnExactNewDeskUptoSaid : Prop := fnExactNewDeskUptoRow.holds Try.pinned (OpenSpec.upto fnExactNewDeskSpec)

/-- 'laws.FnExactIsDesk', WHERE WHAT IT READS IS OF BULK AT MOST 1048576: true; the input reads as it did. -/
def fnExactIsDeskUptoRow : OpenClaim := { program := "ytdmgmhjclagnpaa", sum := "afa68ce679e870ba65e0596eb841019350f5537118379d97654150589928c137", func := "loop.example/g01251/laws.FnExactIsDesk", spec := "fnExactIsDesk", inPlace := ["internal/bytealg.abigen_runtime_cmpstring"], plainKeys := false, apart := false, narrowed := true }
def FnExactIsDeskUptoSaid : Prop := fnExactIsDeskUptoRow.holds Try.pinned (OpenSpec.upto fnExactIsDeskSpec)

/-- 'laws.FnExactFlipElement', WHERE WHAT IT READS IS OF BULK AT MOST 1048576: true; the input reads as it did. -/
def fnExactFlipElementUptoRow : OpenClaim := { program := "ytdmgmhjclagnpaa", sum := "afa68ce679e870ba65e0596eb841019350f5537118379d97654150589928c137", func := "loop.example/g01251/laws.FnExactFlipElement", spec := "fnExactFlipElement", inPlace := ["internal/bytealg.abigen_runtime_cmpstring"], unfollowed := true, recurses := true, plainKeys := false, apart := false, narrowed := true }
def FnExactFlipElementUptoSaid : Prop := fnExactFlipElementUptoRow.holds Try.pinned (OpenSpec.upto fnExactFlipElementSpec)

/-- 'laws.FnExactScaleElement', WHERE WHAT IT READS IS OF BULK AT MOST 1048576: true; the input reads as it did. -/
def fnExactScaleElementUptoRow : OpenClaim := { program := "ytdmgmhjclagnpaa", sum := "afa68ce679e870ba65e0596eb841019350f5537118379d97654150589928c137", func := "loop.example/g01251/laws.FnExactScaleElement", spec := "fnExactScaleElement", inPlace := ["internal/bytealg.abigen_runtime_cmpstring"], unfollowed := true, recurses := true, plainKeys := false, apart := false, narrowed := true }
def FnExactScaleElementUptoSaid : Prop := fnExactScaleElementUptoRow.holds Try.pinned (OpenSpec.upto fnExactScaleElementSpec)

/-- 'laws.FnExactElementOf', WHERE WHAT IT READS IS OF BULK AT MOST 1048576: true; the input reads as it did. -/
def fnExactElementOfUptoRow : OpenClaim := { program := "ytdmgmhjclagnpaa", sum := "afa68ce679e870ba65e0596eb841019350f5537118379d97654150589928c137", func := "loop.example/g01251/laws.FnExactElementOf", spec := "fnExactElementOf", inPlace := ["internal/bytealg.abigen_runtime_cmpstring"], unfollowed := true, recurses := true, plainKeys := false, apart := false, narrowed := true }
def FnExactElementOfUptoSaid : Prop := fnExactElementOfUptoRow.holds Try.pinned (OpenSpec.upto fnExactElementOfSpec)

/-- 'laws.FnExactAddElements', WHERE WHAT IT READS IS OF BULK AT MOST 1048576: true; the input reads as it did. -/
def fnExactAddElementsUptoRow : OpenClaim := { program := "ytdmgmhjclagnpaa", sum := "afa68ce679e870ba65e0596eb841019350f5537118379d97654150589928c137", func := "loop.example/g01251/laws.FnExactAddElements", spec := "fnExactAddElements", inPlace := ["internal/bytealg.abigen_runtime_cmpstring"], unfollowed := true, recurses := true, plainKeys := false, apart := false, narrowed := true }
def FnExactAddElementsUptoSaid : Prop := fnExactAddElementsUptoRow.holds Try.pinned (OpenSpec.upto fnExactAddElementsSpec)

end Rows
end Go.Proofs.Ytdmgmhjclagnpaa
