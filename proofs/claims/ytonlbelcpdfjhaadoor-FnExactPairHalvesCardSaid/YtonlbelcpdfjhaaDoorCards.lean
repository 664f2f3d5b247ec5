/-
  DERIVED. GIVEN WITH THE SEED: THE CARDS: each row of YtonlbelcpdfjhaaDoorRows.lean that lists a variable, with what it lists TIED to the program's text (the seventh form; the later family's looks); each row that meets fmt, with fmt's text TOLD by the authors' own Lean function (tested against real Go, not proved from fmt's source: count such statements apart). THE CARD IS WHAT COUNTS. Prove the row's statement (the work); the ties are given (YtonlbelcpdfjhaaDoorTie.lean); close each card by the builder's one call (the guide's Derived/Test/ToyasCard.lean, 'card_holds'). Laid BY PROGRAM, IN A SANDBOX (cutbox-door.mjs). By AI agents, Wed Nov 11 2026. No macro, syntax, notation, axiom, sorry.
-/
import Derived.Test.YtonlbelcpdfjhaaDoorRows
import GoSem.ClaimSeven
namespace Go.Proofs.YtonlbelcpdfjhaaDoor
namespace Rows

/-- THE TIED CARD OF 'laws.FnHalves'. -/
def fnHalvesCard : Claim7 := { stood := { row := fnHalvesRow, standIns := [], harness := (true, "1cbeeef7f2e5643bf36d6b67ed9da1b73a1b51aca53538180b756f64feffc597"), looks := false }, kinds := [], alts := [], laidByText := true, laidKinds := [.data, .pinned], laidTests := true, laidLooks := .later }
def FnHalvesCardSaid : Prop := Claim7.holds Tryd.pinned (.plain (OpenSpec.ofChange fnHalvesSpec)) fnHalvesCard

/-- THE TIED CARD OF 'laws.FnGrams'. -/
def fnGramsCard : Claim7 := { stood := { row := fnGramsRow, standIns := [], harness := (true, "1cbeeef7f2e5643bf36d6b67ed9da1b73a1b51aca53538180b756f64feffc597"), looks := false }, kinds := [], alts := [], laidByText := true, laidKinds := [.data, .pinned], laidTests := true, laidLooks := .later }
def FnGramsCardSaid : Prop := Claim7.holds Tryd.pinned (.plain (OpenSpec.ofChange fnGramsSpec)) fnGramsCard

/-- THE TIED CARD OF 'laws.FnExactIsHalf'. -/
def fnExactIsHalfCard : Claim7 := { stood := { row := fnExactIsHalfRow, standIns := [], harness := (true, "1cbeeef7f2e5643bf36d6b67ed9da1b73a1b51aca53538180b756f64feffc597"), looks := false }, kinds := [], alts := [], laidByText := true, laidKinds := [.data, .pinned], laidTests := true, laidLooks := .later }
def FnExactIsHalfCardSaid : Prop := Claim7.holds Tryd.pinned (.plain (OpenSpec.ofChange fnExactIsHalfSpec)) fnExactIsHalfCard

/-- THE TIED CARD OF 'laws.FnExactDiagramOfHalves'. -/
def fnExactDiagramOfHalvesCard : Claim7 := { stood := { row := fnExactDiagramOfHalvesRow, standIns := [], harness := (true, "1cbeeef7f2e5643bf36d6b67ed9da1b73a1b51aca53538180b756f64feffc597"), looks := false }, kinds := [], alts := [], laidByText := true, laidKinds := [.data, .pinned], laidTests := true, laidLooks := .later }
def FnExactDiagramOfHalvesCardSaid : Prop := Claim7.holds Tryd.pinned (.plain (OpenSpec.ofChange fnExactDiagramOfHalvesSpec)) fnExactDiagramOfHalvesCard

/-- THE TIED CARD OF 'laws.FnExactPairHalves'. -/
def fnExactPairHalvesCard : Claim7 := { stood := { row := fnExactPairHalvesRow, standIns := [], harness := (true, "1cbeeef7f2e5643bf36d6b67ed9da1b73a1b51aca53538180b756f64feffc597"), looks := false }, kinds := [], alts := [], laidByText := true, laidKinds := [.data, .pinned], laidTests := true, laidLooks := .later }
def FnExactPairHalvesCardSaid : Prop := Claim7.holds Tryd.pinned (.plain (OpenSpec.ofChange fnExactPairHalvesSpec)) fnExactPairHalvesCard

/-- THE TIED CARD OF 'laws.FnExactActOnHalf'. -/
def fnExactActOnHalfCard : Claim7 := { stood := { row := fnExactActOnHalfRow, standIns := [], harness := (true, "1cbeeef7f2e5643bf36d6b67ed9da1b73a1b51aca53538180b756f64feffc597"), looks := false }, kinds := [], alts := [], laidByText := true, laidKinds := [.data, .pinned], laidTests := true, laidLooks := .later }
def FnExactActOnHalfCardSaid : Prop := Claim7.holds Tryd.pinned (.plain (OpenSpec.ofChange fnExactActOnHalfSpec)) fnExactActOnHalfCard

/-- THE TIED CARD OF 'laws.FnExactCellTable'. -/
def fnExactCellTableCard : Claim7 := { stood := { row := fnExactCellTableRow, standIns := [], harness := (true, "1cbeeef7f2e5643bf36d6b67ed9da1b73a1b51aca53538180b756f64feffc597"), looks := false }, kinds := [], alts := [], laidByText := true, laidKinds := [.data, .pinned], laidTests := true, laidLooks := .later }
def FnExactCellTableCardSaid : Prop := Claim7.holds Tryd.pinned (.plain (OpenSpec.ofChange fnExactCellTableSpec)) fnExactCellTableCard

/-- THE SECOND FORM's CARD OF 'laws.FnHalves'. -/
def fnHalvesUptoCard : Claim7 := { stood := { row := fnHalvesUptoRow, standIns := [], harness := (true, "1cbeeef7f2e5643bf36d6b67ed9da1b73a1b51aca53538180b756f64feffc597"), looks := false }, kinds := [], alts := [], laidByText := true, laidKinds := [.data, .pinned], laidTests := true, laidLooks := .later }
def FnHalvesUptoCardSaid : Prop := Claim7.holds Tryd.pinned (.plain (OpenSpec.upto fnHalvesSpec)) fnHalvesUptoCard

/-- THE SECOND FORM's CARD OF 'laws.FnGrams'. -/
def fnGramsUptoCard : Claim7 := { stood := { row := fnGramsUptoRow, standIns := [], harness := (true, "1cbeeef7f2e5643bf36d6b67ed9da1b73a1b51aca53538180b756f64feffc597"), looks := false }, kinds := [], alts := [], laidByText := true, laidKinds := [.data, .pinned], laidTests := true, laidLooks := .later }
def FnGramsUptoCardSaid : Prop := Claim7.holds Tryd.pinned (.plain (OpenSpec.upto fnGramsSpec)) fnGramsUptoCard

/-- THE SECOND FORM's CARD OF 'laws.FnExactIsHalf'. -/
def fnExactIsHalfUptoCard : Claim7 := { stood := { row := fnExactIsHalfUptoRow, standIns := [], harness := (true, "1cbeeef7f2e5643bf36d6b67ed9da1b73a1b51aca53538180b756f64feffc597"), looks := false }, kinds := [], alts := [], laidByText := true, laidKinds := [.data, .pinned], laidTests := true, laidLooks := .later }
def FnExactIsHalfUptoCardSaid : Prop := Claim7.holds Tryd.pinned (.plain (OpenSpec.upto fnExactIsHalfSpec)) fnExactIsHalfUptoCard

/-- THE SECOND FORM's CARD OF 'laws.FnExactDiagramOfHalves'. -/
def fnExactDiagramOfHalvesUptoCard : Claim7 := { stood := { row := fnExactDiagramOfHalvesUptoRow, standIns := [], harness := (true, "1cbeeef7f2e5643bf36d6b67ed9da1b73a1b51aca53538180b756f64feffc597"), looks := false }, kinds := [], alts := [], laidByText := true, laidKinds := [.data, .pinned], laidTests := true, laidLooks := .later }
def FnExactDiagramOfHalvesUptoCardSaid : Prop := Claim7.holds Tryd.pinned (.plain (OpenSpec.upto fnExactDiagramOfHalvesSpec)) fnExactDiagramOfHalvesUptoCard

/-- THE SECOND FORM's CARD OF 'laws.FnExactPairHalves'. -/
def fnExactPairHalvesUptoCard : Claim7 := { stood := { row := fnExactPairHalvesUptoRow, standIns := [], harness := (true, "1cbeeef7f2e5643bf36d6b67ed9da1b73a1b51aca53538180b756f64feffc597"), looks := false }, kinds := [], alts := [], laidByText := true, laidKinds := [.data, .pinned], laidTests := true, laidLooks := .later }
def FnExactPairHalvesUptoCardSaid : Prop := Claim7.holds Tryd.pinned (.plain (OpenSpec.upto fnExactPairHalvesSpec)) fnExactPairHalvesUptoCard

/-- THE SECOND FORM's CARD OF 'laws.FnExactActOnHalf'. -/
def fnExactActOnHalfUptoCard : Claim7 := { stood := { row := fnExactActOnHalfUptoRow, standIns := [], harness := (true, "1cbeeef7f2e5643bf36d6b67ed9da1b73a1b51aca53538180b756f64feffc597"), looks := false }, kinds := [], alts := [], laidByText := true, laidKinds := [.data, .pinned], laidTests := true, laidLooks := .later }
def FnExactActOnHalfUptoCardSaid : Prop := Claim7.holds Tryd.pinned (.plain (OpenSpec.upto fnExactActOnHalfSpec)) fnExactActOnHalfUptoCard

/-- THE SECOND FORM's CARD OF 'laws.FnExactCellTable'. -/
def fnExactCellTableUptoCard : Claim7 := { stood := { row := fnExactCellTableUptoRow, standIns := [], harness := (true, "1cbeeef7f2e5643bf36d6b67ed9da1b73a1b51aca53538180b756f64feffc597"), looks := false }, kinds := [], alts := [], laidByText := true, laidKinds := [.data, .pinned], laidTests := true, laidLooks := .later }
def FnExactCellTableUptoCardSaid : Prop := Claim7.holds Tryd.pinned (.plain (OpenSpec.upto fnExactCellTableSpec)) fnExactCellTableUptoCard
end Rows
end Go.Proofs.YtonlbelcpdfjhaaDoor
