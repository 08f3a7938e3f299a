/-
  DERIVED. GIVEN WITH THE SEED: THE CARDS: each row of YtbafjilhopgjmaaDoorRows.lean that lists a variable, with what it lists TIED to the program's text (the seventh form; the later family's looks); each row that meets fmt, with fmt's text TOLD by the authors' own Lean function (tested against real Go, not proved from fmt's source: count such statements apart). THE CARD IS WHAT COUNTS. Prove the row's statement (the work); the ties are given (YtbafjilhopgjmaaDoorTie.lean); close each card by the builder's one call (the guide's Derived/Test/ToyasCard.lean, 'card_holds'). Laid BY PROGRAM, IN A SANDBOX (cutbox-door.mjs). By AI agents, Wed Nov 11 2026. No macro, syntax, notation, axiom, sorry.
-/
import Derived.Test.YtbafjilhopgjmaaDoorRows
import GoSem.ClaimSeven
namespace Go.Proofs.YtbafjilhopgjmaaDoor
namespace Rows

/-- THE TIED CARD OF 'larumlaw27.PageCursor'. -/
def pageCursorCard : Claim7 := { stood := { row := pageCursorRow, standIns := [], harness := (true, "f8b7bf47e64dccec43ec7bdde84256bade5e47c6352ec8aad4e281ac632c9883"), looks := false }, kinds := [], alts := [], laidByText := true, laidKinds := [.data, .data, .data], laidTests := true, laidLooks := .later }
def PageCursorCardSaid : Prop := Claim7.holds Tryd.pinned (.plain (OpenSpec.ofChange pageCursorSpec)) pageCursorCard

/-- THE TIED CARD OF 'larumlaw27.PageNames'. -/
def pageNamesCard : Claim7 := { stood := { row := pageNamesRow, standIns := [], harness := (true, "f8b7bf47e64dccec43ec7bdde84256bade5e47c6352ec8aad4e281ac632c9883"), looks := false }, kinds := [], alts := [], laidByText := true, laidKinds := [.data, .data, .data, .data, .pinned], laidTests := true, laidLooks := .later }
def PageNamesCardSaid : Prop := Claim7.holds Tryd.pinned (.plain (OpenSpec.ofChange pageNamesSpec)) pageNamesCard

/-- THE SECOND FORM's CARD OF 'larumlaw27.PageCursor'. -/
def pageCursorUptoCard : Claim7 := { stood := { row := pageCursorUptoRow, standIns := [], harness := (true, "f8b7bf47e64dccec43ec7bdde84256bade5e47c6352ec8aad4e281ac632c9883"), looks := false }, kinds := [], alts := [], laidByText := true, laidKinds := [.data, .data, .data], laidTests := true, laidLooks := .later }
def PageCursorUptoCardSaid : Prop := Claim7.holds Tryd.pinned (.plain (OpenSpec.upto pageCursorSpec)) pageCursorUptoCard

/-- THE SECOND FORM's CARD OF 'larumlaw27.PageNames'. -/
def pageNamesUptoCard : Claim7 := { stood := { row := pageNamesUptoRow, standIns := [], harness := (true, "f8b7bf47e64dccec43ec7bdde84256bade5e47c6352ec8aad4e281ac632c9883"), looks := false }, kinds := [], alts := [], laidByText := true, laidKinds := [.data, .data, .data, .data, .pinned], laidTests := true, laidLooks := .later }
def PageNamesUptoCardSaid : Prop := Claim7.holds Tryd.pinned (.plain (OpenSpec.upto pageNamesSpec)) pageNamesUptoCard
end Rows
end Go.Proofs.YtbafjilhopgjmaaDoor
