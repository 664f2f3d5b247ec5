/-
  NARROWER THAN 'FOR EVERY INPUT', by the rows' own cells (each row's printed sentence says how): FnHalves: laid · FnGrams: laid · FnExactIsHalf: laid · FnExactDiagramOfHalves: laid · FnExactPairHalves: laid · FnExactActOnHalf: laid · FnExactCellTable: laid.
  DERIVED. THE GIVEN ROWS OF THIS SEAT. 7 by the template 'for every input the law returns true; each argument reads behind the call as it read before'; 0 by the template 'total and deterministic' (their statements: YtonlbelcpdfjhaaDoorTotals.lean).
  GIVEN WITH THE SEED: the statements are not yours to turn. If you find one false, say at which input.
  Laid BY PROGRAM, IN A SANDBOX (cutbox-rows.mjs): the forced cells as the released guide's own fill.sh prints them over the translation f1a747814ab09f14… (all of the seat's roots in one cut). By AI agents, Wed Nov 11 2026. No macro, syntax, notation, axiom, sorry.
-/
import Derived.Test.YtonlbelcpdfjhaaDoorChecked
import GoSem.PinnedTables
import GoSem.Claim
import GoSem.ClaimJoined
import GoSem.ClaimMapViews
import Derived.JoinedTies
import Derived.KernelRfl
namespace Go.Proofs.YtonlbelcpdfjhaaDoor
/- THE CELL 'sum', in the pinned program and in every row, IS THE sha256 OF THE DUMP (.gsa) THAT YtonlbelcpdfjhaaDoorProg.lean LOADS. Nothing in Lean hashes anything: it is a label: what it is worth is what the hold of that sum in a sandbox is worth. -/
noncomputable def Tryd.pinned : Pinned := { name := "ytonlbelcpdfjhaadoor", sum := "f1a747814ab09f144bab47987b90b1d67a5d3bb1e6737ea455b5ddd966818101", checked := Tryd.checked }
namespace Rows
def none {H : Type} : Left H := { results := [], args := [] }

/- WHAT THE LISTED PACKAGE-LEVEL VARIABLES READ AS WHEN THE CALL BEGINS. Each datum BY PROGRAM (the guide's laid-datum.mjs) off the statement by which the dump's own 'gosem.cut.vars' lays the variable. In a bare row this is a premise. The card (YtonlbelcpdfjhaaDoorCards.lean) ties it to the program's text. -/
def laid_unicode_utf8_acceptRanges {H : Type} : DataW H := .agg [.agg [.lit (.int .u8 128), .lit (.int .u8 191)], .agg [.lit (.int .u8 160), .lit (.int .u8 191)], .agg [.lit (.int .u8 128), .lit (.int .u8 159)], .agg [.lit (.int .u8 144), .lit (.int .u8 191)], .agg [.lit (.int .u8 128), .lit (.int .u8 143)], .agg [.lit (.int .u8 0), .lit (.int .u8 0)], .agg [.lit (.int .u8 0), .lit (.int .u8 0)], .agg [.lit (.int .u8 0), .lit (.int .u8 0)], .agg [.lit (.int .u8 0), .lit (.int .u8 0)], .agg [.lit (.int .u8 0), .lit (.int .u8 0)], .agg [.lit (.int .u8 0), .lit (.int .u8 0)], .agg [.lit (.int .u8 0), .lit (.int .u8 0)], .agg [.lit (.int .u8 0), .lit (.int .u8 0)], .agg [.lit (.int .u8 0), .lit (.int .u8 0)], .agg [.lit (.int .u8 0), .lit (.int .u8 0)], .agg [.lit (.int .u8 0), .lit (.int .u8 0)]]
/-- One of Go's own tables, pinned by name: the form's constant. -/
def laid_unicode_utf8_first : DataW Unit := Go.Pinned.utf8First

/-- 'laws.FnHalves': WHATEVER THE INPUT: true; the input reads as it did. -/
def fnHalvesSpec : ChangeSpec := { name := "fnHalves", fn := fun _ => fun
  | [d] => { results := [.lit (.bool true)], args := [d] }
  | _ => none }
def fnHalvesRow : OpenClaim := { program := "ytonlbelcpdfjhaadoor", sum := "f1a747814ab09f144bab47987b90b1d67a5d3bb1e6737ea455b5ddd966818101", func := "loop.example/g01251/laws.FnHalves", spec := "fnHalves", inPlace := ["internal/bytealg.CountString", "internal/bytealg.IndexByteString", "internal/bytealg.IndexString", "internal/abi.NoEscape", "internal/bytealg.MakeNoZero"], unfollowed := true, recurses := true, named := ["internal/bytealg.MaxLen", "unicode/utf8.first", "unicode/utf8.acceptRanges"], apart := false, laid := [("unicode/utf8.acceptRanges", laid_unicode_utf8_acceptRanges), ("unicode/utf8.first", laid_unicode_utf8_first)] }
def FnHalvesSaid : Prop := fnHalvesRow.holds Tryd.pinned (OpenSpec.ofChange fnHalvesSpec)

/-- ITS FALSE NEIGHBOUR: 'it returns false'. Refute it at one input. -/
def fnHalvesWrong : ChangeSpec := { name := "fnHalves", fn := fun _ => fun
  | [d] => { results := [.lit (.bool false)], args := [d] }
  | _ => none }
def FnHalvesWrongFalsely : Prop := fnHalvesRow.holds Tryd.pinned (OpenSpec.ofChange fnHalvesWrong)

/-- 'laws.FnGrams': WHATEVER THE INPUT: true; the input reads as it did. -/
def fnGramsSpec : ChangeSpec := { name := "fnGrams", fn := fun _ => fun
  | [d] => { results := [.lit (.bool true)], args := [d] }
  | _ => none }
def fnGramsRow : OpenClaim := { program := "ytonlbelcpdfjhaadoor", sum := "f1a747814ab09f144bab47987b90b1d67a5d3bb1e6737ea455b5ddd966818101", func := "loop.example/g01251/laws.FnGrams", spec := "fnGrams", inPlace := ["internal/bytealg.CountString", "internal/bytealg.IndexByteString", "internal/bytealg.IndexString", "internal/abi.NoEscape", "internal/bytealg.MakeNoZero"], unfollowed := true, recurses := true, named := ["internal/bytealg.MaxLen", "unicode/utf8.first", "unicode/utf8.acceptRanges"], apart := false, laid := [("unicode/utf8.acceptRanges", laid_unicode_utf8_acceptRanges), ("unicode/utf8.first", laid_unicode_utf8_first)] }
def FnGramsSaid : Prop := fnGramsRow.holds Tryd.pinned (OpenSpec.ofChange fnGramsSpec)

/-- ITS FALSE NEIGHBOUR: 'it returns false'. Refute it at one input. -/
def fnGramsWrong : ChangeSpec := { name := "fnGrams", fn := fun _ => fun
  | [d] => { results := [.lit (.bool false)], args := [d] }
  | _ => none }
def FnGramsWrongFalsely : Prop := fnGramsRow.holds Tryd.pinned (OpenSpec.ofChange fnGramsWrong)

/-- 'laws.FnExactIsHalf': WHATEVER THE INPUT: true; the input reads as it did. -/
def fnExactIsHalfSpec : ChangeSpec := { name := "fnExactIsHalf", fn := fun _ => fun
  | [d] => { results := [.lit (.bool true)], args := [d] }
  | _ => none }
def fnExactIsHalfRow : OpenClaim := { program := "ytonlbelcpdfjhaadoor", sum := "f1a747814ab09f144bab47987b90b1d67a5d3bb1e6737ea455b5ddd966818101", func := "loop.example/g01251/laws.FnExactIsHalf", spec := "fnExactIsHalf", inPlace := ["internal/bytealg.CountString", "internal/bytealg.IndexByteString", "internal/bytealg.IndexString", "internal/abi.NoEscape", "internal/bytealg.MakeNoZero"], named := ["internal/bytealg.MaxLen", "unicode/utf8.first", "unicode/utf8.acceptRanges"], apart := false, laid := [("unicode/utf8.acceptRanges", laid_unicode_utf8_acceptRanges), ("unicode/utf8.first", laid_unicode_utf8_first)] }
def FnExactIsHalfSaid : Prop := fnExactIsHalfRow.holds Tryd.pinned (OpenSpec.ofChange fnExactIsHalfSpec)

/-- ITS FALSE NEIGHBOUR: 'it returns false'. Refute it at one input. -/
def fnExactIsHalfWrong : ChangeSpec := { name := "fnExactIsHalf", fn := fun _ => fun
  | [d] => { results := [.lit (.bool false)], args := [d] }
  | _ => none }
def FnExactIsHalfWrongFalsely : Prop := fnExactIsHalfRow.holds Tryd.pinned (OpenSpec.ofChange fnExactIsHalfWrong)

/-- 'laws.FnExactDiagramOfHalves': WHATEVER THE INPUT: true; the input reads as it did. -/
def fnExactDiagramOfHalvesSpec : ChangeSpec := { name := "fnExactDiagramOfHalves", fn := fun _ => fun
  | [d1, d2] => { results := [.lit (.bool true)], args := [d1, d2] }
  | _ => none }
def fnExactDiagramOfHalvesRow : OpenClaim := { program := "ytonlbelcpdfjhaadoor", sum := "f1a747814ab09f144bab47987b90b1d67a5d3bb1e6737ea455b5ddd966818101", func := "loop.example/g01251/laws.FnExactDiagramOfHalves", spec := "fnExactDiagramOfHalves", inPlace := ["internal/bytealg.CountString", "internal/bytealg.IndexByteString", "internal/bytealg.IndexString", "internal/abi.NoEscape", "internal/bytealg.MakeNoZero"], named := ["internal/bytealg.MaxLen", "unicode/utf8.first", "unicode/utf8.acceptRanges"], apart := false, laid := [("unicode/utf8.acceptRanges", laid_unicode_utf8_acceptRanges), ("unicode/utf8.first", laid_unicode_utf8_first)] }
def FnExactDiagramOfHalvesSaid : Prop := fnExactDiagramOfHalvesRow.holds Tryd.pinned (OpenSpec.ofChange fnExactDiagramOfHalvesSpec)

/-- ITS FALSE NEIGHBOUR: 'it returns false'. Refute it at one input. -/
def fnExactDiagramOfHalvesWrong : ChangeSpec := { name := "fnExactDiagramOfHalves", fn := fun _ => fun
  | [d1, d2] => { results := [.lit (.bool false)], args := [d1, d2] }
  | _ => none }
def FnExactDiagramOfHalvesWrongFalsely : Prop := fnExactDiagramOfHalvesRow.holds Tryd.pinned (OpenSpec.ofChange fnExactDiagramOfHalvesWrong)

/-- 'laws.FnExactPairHalves': WHATEVER THE INPUT: true; the input reads as it did. -/
def fnExactPairHalvesSpec : ChangeSpec := { name := "fnExactPairHalves", fn := fun _ => fun
  | [d1, d2] => { results := [.lit (.bool true)], args := [d1, d2] }
  | _ => none }
def fnExactPairHalvesRow : OpenClaim := { program := "ytonlbelcpdfjhaadoor", sum := "f1a747814ab09f144bab47987b90b1d67a5d3bb1e6737ea455b5ddd966818101", func := "loop.example/g01251/laws.FnExactPairHalves", spec := "fnExactPairHalves", inPlace := ["internal/bytealg.CountString", "internal/bytealg.IndexByteString", "internal/bytealg.IndexString", "internal/abi.NoEscape", "internal/bytealg.MakeNoZero"], named := ["internal/bytealg.MaxLen", "unicode/utf8.first", "unicode/utf8.acceptRanges"], apart := false, laid := [("unicode/utf8.acceptRanges", laid_unicode_utf8_acceptRanges), ("unicode/utf8.first", laid_unicode_utf8_first)] }
def FnExactPairHalvesSaid : Prop := fnExactPairHalvesRow.holds Tryd.pinned (OpenSpec.ofChange fnExactPairHalvesSpec)

/-- ITS FALSE NEIGHBOUR: 'it returns false'. Refute it at one input. -/
def fnExactPairHalvesWrong : ChangeSpec := { name := "fnExactPairHalves", fn := fun _ => fun
  | [d1, d2] => { results := [.lit (.bool false)], args := [d1, d2] }
  | _ => none }
def FnExactPairHalvesWrongFalsely : Prop := fnExactPairHalvesRow.holds Tryd.pinned (OpenSpec.ofChange fnExactPairHalvesWrong)

/-- 'laws.FnExactActOnHalf': WHATEVER THE INPUT: true; the input reads as it did. -/
def fnExactActOnHalfSpec : ChangeSpec := { name := "fnExactActOnHalf", fn := fun _ => fun
  | [d1, d2] => { results := [.lit (.bool true)], args := [d1, d2] }
  | _ => none }
def fnExactActOnHalfRow : OpenClaim := { program := "ytonlbelcpdfjhaadoor", sum := "f1a747814ab09f144bab47987b90b1d67a5d3bb1e6737ea455b5ddd966818101", func := "loop.example/g01251/laws.FnExactActOnHalf", spec := "fnExactActOnHalf", inPlace := ["internal/bytealg.CountString", "internal/bytealg.IndexByteString", "internal/bytealg.IndexString", "internal/abi.NoEscape", "internal/bytealg.MakeNoZero"], named := ["internal/bytealg.MaxLen", "unicode/utf8.first", "unicode/utf8.acceptRanges"], apart := false, laid := [("unicode/utf8.acceptRanges", laid_unicode_utf8_acceptRanges), ("unicode/utf8.first", laid_unicode_utf8_first)] }
def FnExactActOnHalfSaid : Prop := fnExactActOnHalfRow.holds Tryd.pinned (OpenSpec.ofChange fnExactActOnHalfSpec)

/-- ITS FALSE NEIGHBOUR: 'it returns false'. Refute it at one input. -/
def fnExactActOnHalfWrong : ChangeSpec := { name := "fnExactActOnHalf", fn := fun _ => fun
  | [d1, d2] => { results := [.lit (.bool false)], args := [d1, d2] }
  | _ => none }
def FnExactActOnHalfWrongFalsely : Prop := fnExactActOnHalfRow.holds Tryd.pinned (OpenSpec.ofChange fnExactActOnHalfWrong)

/-- 'laws.FnExactCellTable': WHATEVER THE INPUT: true; the input reads as it did. -/
def fnExactCellTableSpec : ChangeSpec := { name := "fnExactCellTable", fn := fun _ => fun
  | [d1, d2, d3, d4] => { results := [.lit (.bool true)], args := [d1, d2, d3, d4] }
  | _ => none }
def fnExactCellTableRow : OpenClaim := { program := "ytonlbelcpdfjhaadoor", sum := "f1a747814ab09f144bab47987b90b1d67a5d3bb1e6737ea455b5ddd966818101", func := "loop.example/g01251/laws.FnExactCellTable", spec := "fnExactCellTable", inPlace := ["internal/bytealg.CountString", "internal/bytealg.IndexByteString", "internal/bytealg.IndexString", "internal/abi.NoEscape", "internal/bytealg.MakeNoZero"], unfollowed := true, recurses := true, named := ["internal/bytealg.MaxLen", "unicode/utf8.first", "unicode/utf8.acceptRanges"], apart := false, laid := [("unicode/utf8.acceptRanges", laid_unicode_utf8_acceptRanges), ("unicode/utf8.first", laid_unicode_utf8_first)] }
def FnExactCellTableSaid : Prop := fnExactCellTableRow.holds Tryd.pinned (OpenSpec.ofChange fnExactCellTableSpec)

/-- ITS FALSE NEIGHBOUR: 'it returns false'. Refute it at one input. -/
def fnExactCellTableWrong : ChangeSpec := { name := "fnExactCellTable", fn := fun _ => fun
  | [d1, d2, d3, d4] => { results := [.lit (.bool false)], args := [d1, d2, d3, d4] }
  | _ => none }
def FnExactCellTableWrongFalsely : Prop := fnExactCellTableRow.holds Tryd.pinned (OpenSpec.ofChange fnExactCellTableWrong)

/- THE SECOND FORM. 'bulk': how many values and letters a reading holds, each counted each time it is reached (what is shared counts as often as it is met; a slice's spare places count too). A statement '..UptoSaid' is the law's where the arguments, and the package variables that the reading takes, are together of bulk at most 1048576: NARROWER than '..Said'. Prove '..Said' where nothing that the law and all that it calls make is longer than what came in: it says more and counts as full. Else prove '..UptoSaid'. A law counts once. -/
mutual
def uptoBulk {H : Type} : DataW H → Nat
  | .lit (.string bytes) => bytes.length + 1
  | .lit _ => 1
  | .nil => 1
  | .ptr d => uptoBulk d + 1
  | .slice elems spare => uptoBulkAll elems + uptoBulkAll spare + 1
  | .agg parts => uptoBulkAll parts + 1
  | .iface _ d => uptoBulk d + 1
  | .map entries => uptoBulkEntries entries + 1
  | .held _ => 1
def uptoBulkAll {H : Type} : List (DataW H) → Nat
  | [] => 0
  | d :: r => uptoBulk d + uptoBulkAll r
def uptoBulkEntries {H : Type} : List (Lit × DataW H) → Nat
  | [] => 0
  | x :: r => uptoBulkEntry x + uptoBulkEntries r
def uptoBulkEntry {H : Type} : Lit × DataW H → Nat
  | (.string bytes, d) => bytes.length + uptoBulk d + 1
  | (_, d) => uptoBulk d + 1
 end
def uptoSmall : (H : Type) → List (DataW H) → Bool := fun _ ds => decide (uptoBulkAll ds ≤ 1048576)
def OpenSpec.upto (s : _root_.Go.ChangeSpec) : _root_.Go.OpenSpec := { _root_.Go.OpenSpec.ofChange s with cond := some uptoSmall }

/-- 'laws.FnHalves', WHERE WHAT IT READS IS OF BULK AT MOST 1048576: true; the input reads as it did. -/
def fnHalvesUptoRow : OpenClaim := { program := "ytonlbelcpdfjhaadoor", sum := "f1a747814ab09f144bab47987b90b1d67a5d3bb1e6737ea455b5ddd966818101", func := "loop.example/g01251/laws.FnHalves", spec := "fnHalves", inPlace := ["internal/bytealg.CountString", "internal/bytealg.IndexByteString", "internal/bytealg.IndexString", "internal/abi.NoEscape", "internal/bytealg.MakeNoZero"], unfollowed := true, recurses := true, named := ["internal/bytealg.MaxLen", "unicode/utf8.first", "unicode/utf8.acceptRanges"], apart := false, laid := [("unicode/utf8.acceptRanges", laid_unicode_utf8_acceptRanges), ("unicode/utf8.first", laid_unicode_utf8_first)], narrowed := true }
def FnHalvesUptoSaid : Prop := fnHalvesUptoRow.holds Tryd.pinned (OpenSpec.upto fnHalvesSpec)

/-- 'laws.FnGrams', WHERE WHAT IT READS IS OF BULK AT MOST 1048576: true; the input reads as it did. -/
def fnGramsUptoRow : OpenClaim := { program := "ytonlbelcpdfjhaadoor", sum := "f1a747814ab09f144bab47987b90b1d67a5d3bb1e6737ea455b5ddd966818101", func := "loop.example/g01251/laws.FnGrams", spec := "fnGrams", inPlace := ["internal/bytealg.CountString", "internal/bytealg.IndexByteString", "internal/bytealg.IndexString", "internal/abi.NoEscape", "internal/bytealg.MakeNoZero"], unfollowed := true, recurses := true, named := ["internal/bytealg.MaxLen", "unicode/utf8.first", "unicode/utf8.acceptRanges"], apart := false, laid := [("unicode/utf8.acceptRanges", laid_unicode_utf8_acceptRanges), ("unicode/utf8.first", laid_unicode_utf8_first)], narrowed := true }
def FnGramsUptoSaid : Prop := fnGramsUptoRow.holds Tryd.pinned (OpenSpec.upto fnGramsSpec)

/-- 'laws.FnExactIsHalf', WHERE WHAT IT READS IS OF BULK AT MOST 1048576: true; the input reads as it did. -/
def fnExactIsHalfUptoRow : OpenClaim := { program := "ytonlbelcpdfjhaadoor", sum := "f1a747814ab09f144bab47987b90b1d67a5d3bb1e6737ea455b5ddd966818101", func := "loop.example/g01251/laws.FnExactIsHalf", spec := "fnExactIsHalf", inPlace := ["internal/bytealg.CountString", "internal/bytealg.IndexByteString", "internal/bytealg.IndexString", "internal/abi.NoEscape", "internal/bytealg.MakeNoZero"], named := ["internal/bytealg.MaxLen", "unicode/utf8.first", "unicode/utf8.acceptRanges"], apart := false, laid := [("unicode/utf8.acceptRanges", laid_unicode_utf8_acceptRanges), ("unicode/utf8.first", laid_unicode_utf8_first)], narrowed := true }
def FnExactIsHalfUptoSaid : Prop := fnExactIsHalfUptoRow.holds Tryd.pinned (OpenSpec.upto fnExactIsHalfSpec)

/-- 'laws.FnExactDiagramOfHalves', WHERE WHAT IT READS IS OF BULK AT MOST 1048576: true; the input reads as it did. -/
def fnExactDiagramOfHalvesUptoRow : OpenClaim := { program := "ytonlbelcpdfjhaadoor", sum := "f1a747814ab09f144bab47987b90b1d67a5d3bb1e6737ea455b5ddd966818101", func := "loop.example/g01251/laws.FnExactDiagramOfHalves", spec := "fnExactDiagramOfHalves", inPlace := ["internal/bytealg.CountString", "internal/bytealg.IndexByteString", "internal/bytealg.IndexString", "internal/abi.NoEscape", "internal/bytealg.MakeNoZero"], named := ["internal/bytealg.MaxLen", "unicode/utf8.first", "unicode/utf8.acceptRanges"], apart := false, laid := [("unicode/utf8.acceptRanges", laid_unicode_utf8_acceptRanges), ("unicode/utf8.first", laid_unicode_utf8_first)], narrowed := true }
def FnExactDiagramOfHalvesUptoSaid : Prop := fnExactDiagramOfHalvesUptoRow.holds Tryd.pinned (OpenSpec.upto fnExactDiagramOfHalvesSpec)

/-- 'laws.FnExactPairHalves', WHERE WHAT IT READS IS OF BULK AT MOST 1048576: true; the input reads as it did. -/
def fnExactPairHalvesUptoRow : OpenClaim := { program := "ytonlbelcpdfjhaadoor", sum := "f1a747814ab09f144bab47987b90b1d67a5d3bb1e6737ea455b5ddd966818101", func := "loop.example/g01251/laws.FnExactPairHalves", spec := "fnExactPairHalves", inPlace := ["internal/bytealg.CountString", "internal/bytealg.IndexByteString", "internal/bytealg.IndexString", "internal/abi.NoEscape", "internal/bytealg.MakeNoZero"], named := ["internal/bytealg.MaxLen", "unicode/utf8.first", "unicode/utf8.acceptRanges"], apart := false, laid := [("unicode/utf8.acceptRanges", laid_unicode_utf8_acceptRanges), ("unicode/utf8.first", laid_unicode_utf8_first)], narrowed := true }
def FnExactPairHalvesUptoSaid : Prop := fnExactPairHalvesUptoRow.holds Tryd.pinned (OpenSpec.upto fnExactPairHalvesSpec)

/-- 'laws.FnExactActOnHalf', WHERE WHAT IT READS IS OF BULK AT MOST 1048576: true; the input reads as it did. -/
def fnExactActOnHalfUptoRow : OpenClaim := { program := "ytonlbelcpdfjhaadoor", sum := "f1a747814ab09f144bab47987b90b1d67a5d3bb1e6737ea455b5ddd966818101", func := "loop.example/g01251/laws.FnExactActOnHalf", spec := "fnExactActOnHalf", inPlace := ["internal/bytealg.CountString", "internal/bytealg.IndexByteString", "internal/bytealg.IndexString", "internal/abi.NoEscape", "internal/bytealg.MakeNoZero"], named := ["internal/bytealg.MaxLen", "unicode/utf8.first", "unicode/utf8.acceptRanges"], apart := false, laid := [("unicode/utf8.acceptRanges", laid_unicode_utf8_acceptRanges), ("unicode/utf8.first", laid_unicode_utf8_first)], narrowed := true }
def FnExactActOnHalfUptoSaid : Prop := fnExactActOnHalfUptoRow.holds Tryd.pinned (OpenSpec.upto fnExactActOnHalfSpec)

/-- 'laws.FnExactCellTable', WHERE WHAT IT READS IS OF BULK AT MOST 1048576: true; the input reads as it did. -/
def fnExactCellTableUptoRow : OpenClaim := { program := "ytonlbelcpdfjhaadoor", sum := "f1a747814ab09f144bab47987b90b1d67a5d3bb1e6737ea455b5ddd966818101", func := "loop.example/g01251/laws.FnExactCellTable", spec := "fnExactCellTable", inPlace := ["internal/bytealg.CountString", "internal/bytealg.IndexByteString", "internal/bytealg.IndexString", "internal/abi.NoEscape", "internal/bytealg.MakeNoZero"], unfollowed := true, recurses := true, named := ["internal/bytealg.MaxLen", "unicode/utf8.first", "unicode/utf8.acceptRanges"], apart := false, laid := [("unicode/utf8.acceptRanges", laid_unicode_utf8_acceptRanges), ("unicode/utf8.first", laid_unicode_utf8_first)], narrowed := true }
def FnExactCellTableUptoSaid : Prop := fnExactCellTableUptoRow.holds Tryd.pinned (OpenSpec.upto fnExactCellTableSpec)

end Rows
end Go.Proofs.YtonlbelcpdfjhaaDoor
