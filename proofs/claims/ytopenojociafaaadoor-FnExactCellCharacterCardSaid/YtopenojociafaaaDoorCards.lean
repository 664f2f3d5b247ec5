/-
  DERIVED. GIVEN WITH THE SEED: THE CARDS: each row of YtopenojociafaaaDoorRows.lean that lists a variable, with what it lists TIED to the program's text (the seventh form; the later family's looks); each row that meets fmt, with fmt's text TOLD by the authors' own Lean function (tested against real Go, not proved from fmt's source: count such statements apart). THE CARD IS WHAT COUNTS. Prove the row's statement (the work); the ties are given (YtopenojociafaaaDoorTie.lean); close each card by the builder's one call (the guide's Derived/Test/ToyasCard.lean, 'card_holds'). Laid BY PROGRAM, IN A SANDBOX (cutbox-door.mjs). By AI agents, Wed Nov 11 2026. No macro, syntax, notation, axiom, sorry.
-/
import Derived.Test.YtopenojociafaaaDoorRows
import GoSem.ClaimSeven
namespace Go.Proofs.YtopenojociafaaaDoor
namespace Rows

/-- THE TIED CARD OF 'laws.FnExactGramTable'. -/
def fnExactGramTableCard : Claim7 := { stood := { row := fnExactGramTableRow, standIns := [], harness := (true, "bec6c0da53d9fa5b1e3fabdcb3f20201b2f7219ca41acfa059dd23bb49fd7d0b"), looks := false }, kinds := [], alts := [], laidByText := true, laidKinds := [.data, .pinned], laidTests := true, laidLooks := .later }
def FnExactGramTableCardSaid : Prop := Claim7.holds Tryd.pinned (.plain (OpenSpec.ofChange fnExactGramTableSpec)) fnExactGramTableCard

/-- THE TIED CARD OF 'laws.FnExactCellTable'. -/
def fnExactCellTableCard : Claim7 := { stood := { row := fnExactCellTableRow, standIns := [], harness := (true, "bec6c0da53d9fa5b1e3fabdcb3f20201b2f7219ca41acfa059dd23bb49fd7d0b"), looks := false }, kinds := [], alts := [], laidByText := true, laidKinds := [.data, .pinned], laidTests := true, laidLooks := .later }
def FnExactCellTableCardSaid : Prop := Claim7.holds Tryd.pinned (.plain (OpenSpec.ofChange fnExactCellTableSpec)) fnExactCellTableCard

/-- THE TIED CARD OF 'laws.FnExactCellCharacter'. -/
def fnExactCellCharacterCard : Claim7 := { stood := { row := fnExactCellCharacterRow, standIns := [], harness := (true, "bec6c0da53d9fa5b1e3fabdcb3f20201b2f7219ca41acfa059dd23bb49fd7d0b"), looks := false }, kinds := [], alts := [], laidByText := true, laidKinds := [.data, .pinned], laidTests := true, laidLooks := .later }
def FnExactCellCharacterCardSaid : Prop := Claim7.holds Tryd.pinned (.plain (OpenSpec.ofChange fnExactCellCharacterSpec)) fnExactCellCharacterCard

/-- THE TIED CARD OF 'laws.FnExactRadicalOf'. -/
def fnExactRadicalOfCard : Claim7 := { stood := { row := fnExactRadicalOfRow, standIns := [], harness := (true, "bec6c0da53d9fa5b1e3fabdcb3f20201b2f7219ca41acfa059dd23bb49fd7d0b"), looks := false }, kinds := [], alts := [], laidByText := true, laidKinds := [.data, .pinned], laidTests := true, laidLooks := .later }
def FnExactRadicalOfCardSaid : Prop := Claim7.holds Tryd.pinned (.plain (OpenSpec.ofChange fnExactRadicalOfSpec)) fnExactRadicalOfCard

/-- THE SECOND FORM's CARD OF 'laws.FnExactGramTable'. -/
def fnExactGramTableUptoCard : Claim7 := { stood := { row := fnExactGramTableUptoRow, standIns := [], harness := (true, "bec6c0da53d9fa5b1e3fabdcb3f20201b2f7219ca41acfa059dd23bb49fd7d0b"), looks := false }, kinds := [], alts := [], laidByText := true, laidKinds := [.data, .pinned], laidTests := true, laidLooks := .later }
def FnExactGramTableUptoCardSaid : Prop := Claim7.holds Tryd.pinned (.plain (OpenSpec.upto fnExactGramTableSpec)) fnExactGramTableUptoCard

/-- THE SECOND FORM's CARD OF 'laws.FnExactCellTable'. -/
def fnExactCellTableUptoCard : Claim7 := { stood := { row := fnExactCellTableUptoRow, standIns := [], harness := (true, "bec6c0da53d9fa5b1e3fabdcb3f20201b2f7219ca41acfa059dd23bb49fd7d0b"), looks := false }, kinds := [], alts := [], laidByText := true, laidKinds := [.data, .pinned], laidTests := true, laidLooks := .later }
def FnExactCellTableUptoCardSaid : Prop := Claim7.holds Tryd.pinned (.plain (OpenSpec.upto fnExactCellTableSpec)) fnExactCellTableUptoCard

/-- THE SECOND FORM's CARD OF 'laws.FnExactCellCharacter'. -/
def fnExactCellCharacterUptoCard : Claim7 := { stood := { row := fnExactCellCharacterUptoRow, standIns := [], harness := (true, "bec6c0da53d9fa5b1e3fabdcb3f20201b2f7219ca41acfa059dd23bb49fd7d0b"), looks := false }, kinds := [], alts := [], laidByText := true, laidKinds := [.data, .pinned], laidTests := true, laidLooks := .later }
def FnExactCellCharacterUptoCardSaid : Prop := Claim7.holds Tryd.pinned (.plain (OpenSpec.upto fnExactCellCharacterSpec)) fnExactCellCharacterUptoCard

/-- THE SECOND FORM's CARD OF 'laws.FnExactRadicalOf'. -/
def fnExactRadicalOfUptoCard : Claim7 := { stood := { row := fnExactRadicalOfUptoRow, standIns := [], harness := (true, "bec6c0da53d9fa5b1e3fabdcb3f20201b2f7219ca41acfa059dd23bb49fd7d0b"), looks := false }, kinds := [], alts := [], laidByText := true, laidKinds := [.data, .pinned], laidTests := true, laidLooks := .later }
def FnExactRadicalOfUptoCardSaid : Prop := Claim7.holds Tryd.pinned (.plain (OpenSpec.upto fnExactRadicalOfSpec)) fnExactRadicalOfUptoCard
end Rows
end Go.Proofs.YtopenojociafaaaDoor
