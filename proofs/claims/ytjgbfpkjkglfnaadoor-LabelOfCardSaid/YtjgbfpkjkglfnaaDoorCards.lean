/-
  DERIVED. GIVEN WITH THE SEED: THE CARDS: each row of YtjgbfpkjkglfnaaDoorRows.lean that lists a variable, with what it lists TIED to the program's text (the seventh form; the later family's looks); each row that meets fmt, with fmt's text TOLD by the authors' own Lean function (tested against real Go, not proved from fmt's source: count such statements apart). THE CARD IS WHAT COUNTS. Prove the row's statement (the work); the ties are given (YtjgbfpkjkglfnaaDoorTie.lean); close each card by the builder's one call (the guide's Derived/Test/ToyasCard.lean, 'card_holds'). Laid BY PROGRAM, IN A SANDBOX (cutbox-door.mjs). By AI agents, Wed Nov 11 2026. No macro, syntax, notation, axiom, sorry.
-/
import Derived.Test.YtjgbfpkjkglfnaaDoorRows
import GoSem.ClaimSeven
namespace Go.Proofs.YtjgbfpkjkglfnaaDoor
namespace Rows

/-- THE TIED CARD OF 'larumlaw14.LabelOf'. -/
def labelOfCard : Claim7 := { stood := { row := labelOfRow, standIns := [], harness := (true, "352bcb9256b81efdd0224c05896d99e4b3294dd0d19cbaf5bdc365fbdd83670e"), looks := false }, kinds := [], alts := [], laidByText := true, laidKinds := [.data, .data, .data, .data, .data], laidTests := true, laidLooks := .later }
def LabelOfCardSaid : Prop := Claim7.holds Tryd.pinned (.plain (OpenSpec.ofChange labelOfSpec)) labelOfCard

/-- THE TIED CARD OF 'larumlaw14.LabelPick'. -/
def labelPickCard : Claim7 := { stood := { row := labelPickRow, standIns := [], harness := (true, "352bcb9256b81efdd0224c05896d99e4b3294dd0d19cbaf5bdc365fbdd83670e"), looks := false }, kinds := [], alts := [], laidByText := true, laidKinds := [.data, .data, .data, .data, .data], laidTests := true, laidLooks := .later }
def LabelPickCardSaid : Prop := Claim7.holds Tryd.pinned (.plain (OpenSpec.ofChange labelPickSpec)) labelPickCard

/-- THE TIED CARD OF 'larumlaw14.LabelOrder'. -/
def labelOrderCard : Claim7 := { stood := { row := labelOrderRow, standIns := [], harness := (true, "352bcb9256b81efdd0224c05896d99e4b3294dd0d19cbaf5bdc365fbdd83670e"), looks := false }, kinds := [], alts := [], laidByText := true, laidKinds := [.data, .data, .data, .data, .data], laidTests := true, laidLooks := .later }
def LabelOrderCardSaid : Prop := Claim7.holds Tryd.pinned (.plain (OpenSpec.ofChange labelOrderSpec)) labelOrderCard

/-- THE SECOND FORM's CARD OF 'larumlaw14.LabelOf'. -/
def labelOfUptoCard : Claim7 := { stood := { row := labelOfUptoRow, standIns := [], harness := (true, "352bcb9256b81efdd0224c05896d99e4b3294dd0d19cbaf5bdc365fbdd83670e"), looks := false }, kinds := [], alts := [], laidByText := true, laidKinds := [.data, .data, .data, .data, .data], laidTests := true, laidLooks := .later }
def LabelOfUptoCardSaid : Prop := Claim7.holds Tryd.pinned (.plain (OpenSpec.upto labelOfSpec)) labelOfUptoCard

/-- THE SECOND FORM's CARD OF 'larumlaw14.LabelPick'. -/
def labelPickUptoCard : Claim7 := { stood := { row := labelPickUptoRow, standIns := [], harness := (true, "352bcb9256b81efdd0224c05896d99e4b3294dd0d19cbaf5bdc365fbdd83670e"), looks := false }, kinds := [], alts := [], laidByText := true, laidKinds := [.data, .data, .data, .data, .data], laidTests := true, laidLooks := .later }
def LabelPickUptoCardSaid : Prop := Claim7.holds Tryd.pinned (.plain (OpenSpec.upto labelPickSpec)) labelPickUptoCard

/-- THE SECOND FORM's CARD OF 'larumlaw14.LabelOrder'. -/
def labelOrderUptoCard : Claim7 := { stood := { row := labelOrderUptoRow, standIns := [], harness := (true, "352bcb9256b81efdd0224c05896d99e4b3294dd0d19cbaf5bdc365fbdd83670e"), looks := false }, kinds := [], alts := [], laidByText := true, laidKinds := [.data, .data, .data, .data, .data], laidTests := true, laidLooks := .later }
def LabelOrderUptoCardSaid : Prop := Claim7.holds Tryd.pinned (.plain (OpenSpec.upto labelOrderSpec)) labelOrderUptoCard
end Rows
end Go.Proofs.YtjgbfpkjkglfnaaDoor
