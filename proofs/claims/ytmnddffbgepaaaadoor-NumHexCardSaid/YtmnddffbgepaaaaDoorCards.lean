/-
  DERIVED. GIVEN WITH THE SEED: THE CARDS: each row of YtmnddffbgepaaaaDoorRows.lean that lists a variable, with what it lists TIED to the program's text (the seventh form; the later family's looks); each row that meets fmt, with fmt's text TOLD by the authors' own Lean function (tested against real Go, not proved from fmt's source: count such statements apart). THE CARD IS WHAT COUNTS. Prove the row's statement (the work); the ties are given (YtmnddffbgepaaaaDoorTie.lean); close each card by the builder's one call (the guide's Derived/Test/ToyasCard.lean, 'card_holds'). Laid BY PROGRAM, IN A SANDBOX (cutbox-door.mjs). By AI agents, Wed Nov 11 2026. No macro, syntax, notation, axiom, sorry.
-/
import Derived.Test.YtmnddffbgepaaaaDoorRows
import GoSem.ClaimSeven
namespace Go.Proofs.YtmnddffbgepaaaaDoor
namespace Rows

/-- THE TIED CARD OF 'larumlaw03.NumParse'. -/
def numParseCard : Claim7 := { stood := { row := numParseRow, standIns := [], harness := (true, "82340990d227bf5fe20f7dc4af694840f587261a5042f1b2ac394b3bce881acc"), looks := false }, kinds := [], alts := [], laidByText := true, laidKinds := [.data, .data, .data], laidTests := true, laidLooks := .later }
def NumParseCardSaid : Prop := Claim7.holds Tryd.pinned (.plain (OpenSpec.ofChange numParseSpec)) numParseCard

/-- THE TIED CARD OF 'larumlaw03.NumPrint'. -/
def numPrintCard : Claim7 := { stood := { row := numPrintRow, standIns := [], harness := (true, "82340990d227bf5fe20f7dc4af694840f587261a5042f1b2ac394b3bce881acc"), looks := false }, kinds := [], alts := [], laidByText := true, laidKinds := [.data, .data, .data], laidTests := true, laidLooks := .later }
def NumPrintCardSaid : Prop := Claim7.holds Tryd.pinned (.plain (OpenSpec.ofChange numPrintSpec)) numPrintCard

/-- THE TIED CARD OF 'larumlaw03.NumSize'. -/
def numSizeCard : Claim7 := { stood := { row := numSizeRow, standIns := [], harness := (true, "82340990d227bf5fe20f7dc4af694840f587261a5042f1b2ac394b3bce881acc"), looks := false }, kinds := [], alts := [], laidByText := true, laidKinds := [.data, .data, .data], laidTests := true, laidLooks := .later }
def NumSizeCardSaid : Prop := Claim7.holds Tryd.pinned (.plain (OpenSpec.ofChange numSizeSpec)) numSizeCard

/-- THE TIED CARD OF 'larumlaw03.NumHex'. -/
def numHexCard : Claim7 := { stood := { row := numHexRow, standIns := [], harness := (true, "82340990d227bf5fe20f7dc4af694840f587261a5042f1b2ac394b3bce881acc"), looks := false }, kinds := [], alts := [], laidByText := true, laidKinds := [.data, .data, .data], laidTests := true, laidLooks := .later }
def NumHexCardSaid : Prop := Claim7.holds Tryd.pinned (.plain (OpenSpec.ofChange numHexSpec)) numHexCard

/-- THE SECOND FORM's CARD OF 'larumlaw03.NumParse'. -/
def numParseUptoCard : Claim7 := { stood := { row := numParseUptoRow, standIns := [], harness := (true, "82340990d227bf5fe20f7dc4af694840f587261a5042f1b2ac394b3bce881acc"), looks := false }, kinds := [], alts := [], laidByText := true, laidKinds := [.data, .data, .data], laidTests := true, laidLooks := .later }
def NumParseUptoCardSaid : Prop := Claim7.holds Tryd.pinned (.plain (OpenSpec.upto numParseSpec)) numParseUptoCard

/-- THE SECOND FORM's CARD OF 'larumlaw03.NumPrint'. -/
def numPrintUptoCard : Claim7 := { stood := { row := numPrintUptoRow, standIns := [], harness := (true, "82340990d227bf5fe20f7dc4af694840f587261a5042f1b2ac394b3bce881acc"), looks := false }, kinds := [], alts := [], laidByText := true, laidKinds := [.data, .data, .data], laidTests := true, laidLooks := .later }
def NumPrintUptoCardSaid : Prop := Claim7.holds Tryd.pinned (.plain (OpenSpec.upto numPrintSpec)) numPrintUptoCard

/-- THE SECOND FORM's CARD OF 'larumlaw03.NumSize'. -/
def numSizeUptoCard : Claim7 := { stood := { row := numSizeUptoRow, standIns := [], harness := (true, "82340990d227bf5fe20f7dc4af694840f587261a5042f1b2ac394b3bce881acc"), looks := false }, kinds := [], alts := [], laidByText := true, laidKinds := [.data, .data, .data], laidTests := true, laidLooks := .later }
def NumSizeUptoCardSaid : Prop := Claim7.holds Tryd.pinned (.plain (OpenSpec.upto numSizeSpec)) numSizeUptoCard

/-- THE SECOND FORM's CARD OF 'larumlaw03.NumHex'. -/
def numHexUptoCard : Claim7 := { stood := { row := numHexUptoRow, standIns := [], harness := (true, "82340990d227bf5fe20f7dc4af694840f587261a5042f1b2ac394b3bce881acc"), looks := false }, kinds := [], alts := [], laidByText := true, laidKinds := [.data, .data, .data], laidTests := true, laidLooks := .later }
def NumHexUptoCardSaid : Prop := Claim7.holds Tryd.pinned (.plain (OpenSpec.upto numHexSpec)) numHexUptoCard
end Rows
end Go.Proofs.YtmnddffbgepaaaaDoor
