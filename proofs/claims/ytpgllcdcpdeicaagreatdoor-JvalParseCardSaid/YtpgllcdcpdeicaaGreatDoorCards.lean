/-
  DERIVED. GIVEN WITH THE SEED: THE CARDS: each row of YtpgllcdcpdeicaaGreatDoorRows.lean that lists a variable, with what it lists TIED to the program's text (the seventh form; the later family's looks); each row that meets fmt, with fmt's text TOLD by the authors' own Lean function (tested against real Go, not proved from fmt's source: count such statements apart). THE CARD IS WHAT COUNTS. Prove the row's statement (the work); the ties are given (YtpgllcdcpdeicaaGreatDoorTie.lean); close each card by the builder's one call (the guide's Derived/Test/ToyasCard.lean, 'card_holds'). Laid BY PROGRAM, IN A SANDBOX (cutbox-door.mjs). By AI agents, Wed Nov 11 2026. No macro, syntax, notation, axiom, sorry.
-/
import Derived.Test.YtpgllcdcpdeicaaGreatDoorRows
import GoSem.ClaimSeven
namespace Go.Proofs.YtpgllcdcpdeicaaGreatDoor
namespace Rows

/-- THE TIED CARD OF 'larumlaw06.JvalParse'. -/
def jvalParseCard : Claim7 := { stood := { row := jvalParseRow, standIns := [], harness := (true, "aa6d6b44f9de166434ab457a590e7ce7fc8075114cbbfe98d8f414e0ed36802e"), looks := true }, kinds := [], alts := [], laidByText := true, laidKinds := [.data, .data, .handle], laidTests := true, laidLooks := .later }
def JvalParseCardSaid : Prop := Claim7.holds Tryz.pinned (.plain (OpenSpec.ofChange jvalParseSpec)) jvalParseCard

/-- THE SECOND FORM's CARD OF 'larumlaw06.JvalParse'. -/
def jvalParseUptoCard : Claim7 := { stood := { row := jvalParseUptoRow, standIns := [], harness := (true, "aa6d6b44f9de166434ab457a590e7ce7fc8075114cbbfe98d8f414e0ed36802e"), looks := true }, kinds := [], alts := [], laidByText := true, laidKinds := [.data, .data, .handle], laidTests := true, laidLooks := .later }
def JvalParseUptoCardSaid : Prop := Claim7.holds Tryz.pinned (.plain (OpenSpec.upto jvalParseSpec)) jvalParseUptoCard
end Rows
end Go.Proofs.YtpgllcdcpdeicaaGreatDoor
