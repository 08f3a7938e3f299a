/-
  DERIVED. GIVEN WITH THE SEED: THE CARDS: each row of YtkphainopofejaaDoorRows.lean that lists a variable, with what it lists TIED to the program's text (the seventh form; the later family's looks); each row that meets fmt, with fmt's text TOLD by the authors' own Lean function (tested against real Go, not proved from fmt's source: count such statements apart). THE CARD IS WHAT COUNTS. Prove the row's statement (the work); the ties are given (YtkphainopofejaaDoorTie.lean); close each card by the builder's one call (the guide's Derived/Test/ToyasCard.lean, 'card_holds'). Laid BY PROGRAM, IN A SANDBOX (cutbox-door.mjs). By AI agents, Wed Nov 11 2026. No macro, syntax, notation, axiom, sorry.
-/
import Derived.Test.YtkphainopofejaaDoorRows
import GoSem.ClaimSeven
namespace Go.Proofs.YtkphainopofejaaDoor
namespace Rows

/-- THE TIED CARD OF 'larumlaw06.JvalShape'. -/
def jvalShapeCard : Claim7 := { stood := { row := jvalShapeRow, standIns := [], harness := (true, "e2b1a2e810321ecb99fc6b32f8166eac8ff14e102d2bdbcce0587c30929a2ffb"), looks := true }, kinds := [], alts := [], laidByText := true, laidKinds := [.data, .data, .handle], laidTests := true, laidLooks := .later }
def JvalShapeCardSaid : Prop := Claim7.holds Tryd.pinned (.plain (OpenSpec.ofChange jvalShapeSpec)) jvalShapeCard

/-- THE TIED CARD OF 'larumlaw06.JvalSame'. -/
def jvalSameCard : Claim7 := { stood := { row := jvalSameRow, standIns := [], harness := (true, "e2b1a2e810321ecb99fc6b32f8166eac8ff14e102d2bdbcce0587c30929a2ffb"), looks := true }, kinds := [], alts := [], laidByText := true, laidKinds := [.data, .data, .handle], laidTests := true, laidLooks := .later }
def JvalSameCardSaid : Prop := Claim7.holds Tryd.pinned (.plain (OpenSpec.ofChange jvalSameSpec)) jvalSameCard

/-- THE TIED CARD OF 'larumlaw06.JvalMakes'. -/
def jvalMakesCard : Claim7 := { stood := { row := jvalMakesRow, standIns := [], harness := (true, "e2b1a2e810321ecb99fc6b32f8166eac8ff14e102d2bdbcce0587c30929a2ffb"), looks := true }, kinds := [], alts := [], laidByText := true, laidKinds := [.data, .data, .handle], laidTests := true, laidLooks := .later }
def JvalMakesCardSaid : Prop := Claim7.holds Tryd.pinned (.plain (OpenSpec.ofChange jvalMakesSpec)) jvalMakesCard

/-- THE TIED CARD OF 'larumlaw06.JvalBlanks'. -/
def jvalBlanksCard : Claim7 := { stood := { row := jvalBlanksRow, standIns := [], harness := (true, "e2b1a2e810321ecb99fc6b32f8166eac8ff14e102d2bdbcce0587c30929a2ffb"), looks := true }, kinds := [], alts := [], laidByText := true, laidKinds := [.data, .data, .handle], laidTests := true, laidLooks := .later }
def JvalBlanksCardSaid : Prop := Claim7.holds Tryd.pinned (.plain (OpenSpec.ofChange jvalBlanksSpec)) jvalBlanksCard

/-- THE SECOND FORM's CARD OF 'larumlaw06.JvalShape'. -/
def jvalShapeUptoCard : Claim7 := { stood := { row := jvalShapeUptoRow, standIns := [], harness := (true, "e2b1a2e810321ecb99fc6b32f8166eac8ff14e102d2bdbcce0587c30929a2ffb"), looks := true }, kinds := [], alts := [], laidByText := true, laidKinds := [.data, .data, .handle], laidTests := true, laidLooks := .later }
def JvalShapeUptoCardSaid : Prop := Claim7.holds Tryd.pinned (.plain (OpenSpec.upto jvalShapeSpec)) jvalShapeUptoCard

/-- THE SECOND FORM's CARD OF 'larumlaw06.JvalSame'. -/
def jvalSameUptoCard : Claim7 := { stood := { row := jvalSameUptoRow, standIns := [], harness := (true, "e2b1a2e810321ecb99fc6b32f8166eac8ff14e102d2bdbcce0587c30929a2ffb"), looks := true }, kinds := [], alts := [], laidByText := true, laidKinds := [.data, .data, .handle], laidTests := true, laidLooks := .later }
def JvalSameUptoCardSaid : Prop := Claim7.holds Tryd.pinned (.plain (OpenSpec.upto jvalSameSpec)) jvalSameUptoCard

/-- THE SECOND FORM's CARD OF 'larumlaw06.JvalMakes'. -/
def jvalMakesUptoCard : Claim7 := { stood := { row := jvalMakesUptoRow, standIns := [], harness := (true, "e2b1a2e810321ecb99fc6b32f8166eac8ff14e102d2bdbcce0587c30929a2ffb"), looks := true }, kinds := [], alts := [], laidByText := true, laidKinds := [.data, .data, .handle], laidTests := true, laidLooks := .later }
def JvalMakesUptoCardSaid : Prop := Claim7.holds Tryd.pinned (.plain (OpenSpec.upto jvalMakesSpec)) jvalMakesUptoCard

/-- THE SECOND FORM's CARD OF 'larumlaw06.JvalBlanks'. -/
def jvalBlanksUptoCard : Claim7 := { stood := { row := jvalBlanksUptoRow, standIns := [], harness := (true, "e2b1a2e810321ecb99fc6b32f8166eac8ff14e102d2bdbcce0587c30929a2ffb"), looks := true }, kinds := [], alts := [], laidByText := true, laidKinds := [.data, .data, .handle], laidTests := true, laidLooks := .later }
def JvalBlanksUptoCardSaid : Prop := Claim7.holds Tryd.pinned (.plain (OpenSpec.upto jvalBlanksSpec)) jvalBlanksUptoCard
end Rows
end Go.Proofs.YtkphainopofejaaDoor
