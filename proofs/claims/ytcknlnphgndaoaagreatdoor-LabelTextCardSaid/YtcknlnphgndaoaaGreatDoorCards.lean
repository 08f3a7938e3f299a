/-
  DERIVED. GIVEN WITH THE SEED: THE CARDS: each row of YtcknlnphgndaoaaGreatDoorRows.lean that lists a variable, with what it lists TIED to the program's text (the seventh form; the later family's looks); each row that meets fmt, with fmt's text TOLD by the authors' own Lean function (tested against real Go, not proved from fmt's source: count such statements apart). THE CARD IS WHAT COUNTS. Prove the row's statement (the work); the ties are given (YtcknlnphgndaoaaGreatDoorTie.lean); close each card by the builder's one call (the guide's Derived/Test/ToyasCard.lean, 'card_holds'). Laid BY PROGRAM, IN A SANDBOX (cutbox-door.mjs). By AI agents, Wed Nov 11 2026. No macro, syntax, notation, axiom, sorry.
-/
import Derived.Test.YtcknlnphgndaoaaGreatDoorRows
import GoSem.ClaimSeven
namespace Go.Proofs.YtcknlnphgndaoaaGreatDoor
namespace Rows

/-- THE TIED CARD OF 'larumlaw14.LabelText'. -/
def labelTextCard : Claim7 := { stood := { row := labelTextRow, standIns := [], harness := (true, "5266f2b1d38c63158a0a48a7b6cffd9525223c0838050941c6cafbe1bd3a26c6"), looks := true }, kinds := [], alts := [], laidByText := true, laidKinds := [.data, .data, .data, .data, .data, .handle], laidTests := true, laidLooks := .later }
def LabelTextCardSaid : Prop := Claim7.holds Tryz.pinned (.plain (OpenSpec.ofChange labelTextSpec)) labelTextCard

/-- THE SECOND FORM's CARD OF 'larumlaw14.LabelText'. -/
def labelTextUptoCard : Claim7 := { stood := { row := labelTextUptoRow, standIns := [], harness := (true, "5266f2b1d38c63158a0a48a7b6cffd9525223c0838050941c6cafbe1bd3a26c6"), looks := true }, kinds := [], alts := [], laidByText := true, laidKinds := [.data, .data, .data, .data, .data, .handle], laidTests := true, laidLooks := .later }
def LabelTextUptoCardSaid : Prop := Claim7.holds Tryz.pinned (.plain (OpenSpec.upto labelTextSpec)) labelTextUptoCard
end Rows
end Go.Proofs.YtcknlnphgndaoaaGreatDoor
