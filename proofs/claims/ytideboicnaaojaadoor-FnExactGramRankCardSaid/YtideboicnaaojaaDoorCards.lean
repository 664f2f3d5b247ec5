/-
  DERIVED. GIVEN WITH THE SEED: THE CARDS: each row of YtideboicnaaojaaDoorRows.lean that lists a variable, with what it lists TIED to the program's text (the seventh form; the later family's looks); each row that meets fmt, with fmt's text TOLD by the authors' own Lean function (tested against real Go, not proved from fmt's source: count such statements apart). THE CARD IS WHAT COUNTS. Prove the row's statement (the work); the ties are given (YtideboicnaaojaaDoorTie.lean); close each card by the builder's one call (the guide's Derived/Test/ToyasCard.lean, 'card_holds'). Laid BY PROGRAM, IN A SANDBOX (cutbox-door.mjs). By AI agents, Wed Nov 11 2026. No macro, syntax, notation, axiom, sorry.
-/
import Derived.Test.YtideboicnaaojaaDoorRows
import GoSem.ClaimSeven
namespace Go.Proofs.YtideboicnaaojaaDoor
namespace Rows

/-- THE TIED CARD OF 'laws.FnExactGramTable'. -/
def fnExactGramTableCard : Claim7 := { stood := { row := fnExactGramTableRow, standIns := [], harness := (true, "945e784c60ed23b993e4afad6ca007393220a11d8ef7da05850232a0c5015686"), looks := false }, kinds := [], alts := [], laidByText := true, laidKinds := [.data, .pinned], laidTests := true, laidLooks := .later }
def FnExactGramTableCardSaid : Prop := Claim7.holds Tryd.pinned (.plain (OpenSpec.ofChange fnExactGramTableSpec)) fnExactGramTableCard

/-- THE TIED CARD OF 'laws.FnExactGramDeterminant'. -/
def fnExactGramDeterminantCard : Claim7 := { stood := { row := fnExactGramDeterminantRow, standIns := [], harness := (true, "945e784c60ed23b993e4afad6ca007393220a11d8ef7da05850232a0c5015686"), looks := false }, kinds := [], alts := [], laidByText := true, laidKinds := [.data, .pinned], laidTests := true, laidLooks := .later }
def FnExactGramDeterminantCardSaid : Prop := Claim7.holds Tryd.pinned (.plain (OpenSpec.ofChange fnExactGramDeterminantSpec)) fnExactGramDeterminantCard

/-- THE TIED CARD OF 'laws.FnExactGramRank'. -/
def fnExactGramRankCard : Claim7 := { stood := { row := fnExactGramRankRow, standIns := [], harness := (true, "945e784c60ed23b993e4afad6ca007393220a11d8ef7da05850232a0c5015686"), looks := false }, kinds := [], alts := [], laidByText := true, laidKinds := [.data, .pinned], laidTests := true, laidLooks := .later }
def FnExactGramRankCardSaid : Prop := Claim7.holds Tryd.pinned (.plain (OpenSpec.ofChange fnExactGramRankSpec)) fnExactGramRankCard

/-- THE SECOND FORM's CARD OF 'laws.FnExactGramTable'. -/
def fnExactGramTableUptoCard : Claim7 := { stood := { row := fnExactGramTableUptoRow, standIns := [], harness := (true, "945e784c60ed23b993e4afad6ca007393220a11d8ef7da05850232a0c5015686"), looks := false }, kinds := [], alts := [], laidByText := true, laidKinds := [.data, .pinned], laidTests := true, laidLooks := .later }
def FnExactGramTableUptoCardSaid : Prop := Claim7.holds Tryd.pinned (.plain (OpenSpec.upto fnExactGramTableSpec)) fnExactGramTableUptoCard

/-- THE SECOND FORM's CARD OF 'laws.FnExactGramDeterminant'. -/
def fnExactGramDeterminantUptoCard : Claim7 := { stood := { row := fnExactGramDeterminantUptoRow, standIns := [], harness := (true, "945e784c60ed23b993e4afad6ca007393220a11d8ef7da05850232a0c5015686"), looks := false }, kinds := [], alts := [], laidByText := true, laidKinds := [.data, .pinned], laidTests := true, laidLooks := .later }
def FnExactGramDeterminantUptoCardSaid : Prop := Claim7.holds Tryd.pinned (.plain (OpenSpec.upto fnExactGramDeterminantSpec)) fnExactGramDeterminantUptoCard

/-- THE SECOND FORM's CARD OF 'laws.FnExactGramRank'. -/
def fnExactGramRankUptoCard : Claim7 := { stood := { row := fnExactGramRankUptoRow, standIns := [], harness := (true, "945e784c60ed23b993e4afad6ca007393220a11d8ef7da05850232a0c5015686"), looks := false }, kinds := [], alts := [], laidByText := true, laidKinds := [.data, .pinned], laidTests := true, laidLooks := .later }
def FnExactGramRankUptoCardSaid : Prop := Claim7.holds Tryd.pinned (.plain (OpenSpec.upto fnExactGramRankSpec)) fnExactGramRankUptoCard
end Rows
end Go.Proofs.YtideboicnaaojaaDoor
