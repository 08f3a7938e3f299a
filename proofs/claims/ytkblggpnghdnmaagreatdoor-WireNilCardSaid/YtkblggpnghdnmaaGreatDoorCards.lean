/-
  DERIVED. GIVEN WITH THE SEED: THE CARDS: each row of YtkblggpnghdnmaaGreatDoorRows.lean that lists a variable, with what it lists TIED to the program's text (the seventh form; the later family's looks); each row that meets fmt, with fmt's text TOLD by the authors' own Lean function (tested against real Go, not proved from fmt's source: count such statements apart). THE CARD IS WHAT COUNTS. Prove the row's statement (the work); the ties are given (YtkblggpnghdnmaaGreatDoorTie.lean); close each card by the builder's one call (the guide's Derived/Test/ToyasCard.lean, 'card_holds'). Laid BY PROGRAM, IN A SANDBOX (cutbox-door.mjs). By AI agents, Wed Nov 11 2026. No macro, syntax, notation, axiom, sorry.
-/
import Derived.Test.YtkblggpnghdnmaaGreatDoorRows
import GoSem.ClaimSeven
namespace Go.Proofs.YtkblggpnghdnmaaGreatDoor
namespace Rows

/-- THE TIED CARD OF 'larumlaw12.WireHolds'. -/
def wireHoldsCard : Claim7 := { stood := { row := wireHoldsRow, standIns := [], harness := (true, "9dad20f4dd4d94ea4cd3efb1de82b6cf55f5fea367363813b318bbf382019e4f"), looks := true }, kinds := [], alts := [], laidByText := true, laidKinds := [.data, .handle, .pinned], laidTests := true, laidLooks := .later }
def WireHoldsCardSaid : Prop := Claim7.holds Tryz.pinned (.plain (OpenSpec.ofChange wireHoldsSpec)) wireHoldsCard

/-- THE TIED CARD OF 'larumlaw12.WireNil'. -/
def wireNilCard : Claim7 := { stood := { row := wireNilRow, standIns := [], harness := (true, "9dad20f4dd4d94ea4cd3efb1de82b6cf55f5fea367363813b318bbf382019e4f"), looks := true }, kinds := [], alts := [], laidByText := true, laidKinds := [.data, .handle, .pinned], laidTests := true, laidLooks := .later }
def WireNilCardSaid : Prop := Claim7.holds Tryz.pinned (.plain (OpenSpec.ofChange wireNilSpec)) wireNilCard

/-- THE SECOND FORM's CARD OF 'larumlaw12.WireHolds'. -/
def wireHoldsUptoCard : Claim7 := { stood := { row := wireHoldsUptoRow, standIns := [], harness := (true, "9dad20f4dd4d94ea4cd3efb1de82b6cf55f5fea367363813b318bbf382019e4f"), looks := true }, kinds := [], alts := [], laidByText := true, laidKinds := [.data, .handle, .pinned], laidTests := true, laidLooks := .later }
def WireHoldsUptoCardSaid : Prop := Claim7.holds Tryz.pinned (.plain (OpenSpec.upto wireHoldsSpec)) wireHoldsUptoCard

/-- THE SECOND FORM's CARD OF 'larumlaw12.WireNil'. -/
def wireNilUptoCard : Claim7 := { stood := { row := wireNilUptoRow, standIns := [], harness := (true, "9dad20f4dd4d94ea4cd3efb1de82b6cf55f5fea367363813b318bbf382019e4f"), looks := true }, kinds := [], alts := [], laidByText := true, laidKinds := [.data, .handle, .pinned], laidTests := true, laidLooks := .later }
def WireNilUptoCardSaid : Prop := Claim7.holds Tryz.pinned (.plain (OpenSpec.upto wireNilSpec)) wireNilUptoCard
end Rows
end Go.Proofs.YtkblggpnghdnmaaGreatDoor
