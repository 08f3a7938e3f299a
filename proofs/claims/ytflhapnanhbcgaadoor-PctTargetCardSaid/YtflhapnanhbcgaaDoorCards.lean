/-
  DERIVED. GIVEN WITH THE SEED: THE CARDS: each row of YtflhapnanhbcgaaDoorRows.lean that lists a variable, with what it lists TIED to the program's text (the seventh form; the later family's looks); each row that meets fmt, with fmt's text TOLD by the authors' own Lean function (tested against real Go, not proved from fmt's source: count such statements apart). THE CARD IS WHAT COUNTS. Prove the row's statement (the work); the ties are given (YtflhapnanhbcgaaDoorTie.lean); close each card by the builder's one call (the guide's Derived/Test/ToyasCard.lean, 'card_holds'). Laid BY PROGRAM, IN A SANDBOX (cutbox-door.mjs). By AI agents, Wed Nov 11 2026. No macro, syntax, notation, axiom, sorry.
-/
import Derived.Test.YtflhapnanhbcgaaDoorRows
import GoSem.ClaimSeven
namespace Go.Proofs.YtflhapnanhbcgaaDoor
namespace Rows

/-- THE TIED CARD OF 'larumlaw08.PctTarget'. -/
def pctTargetCard : Claim7 := { stood := { row := pctTargetRow, standIns := [], harness := (true, "99517de2ac9ab69e7a30f8d92b0adb6d0f78787fae80b51e13ad8503a162eed3"), looks := false }, kinds := [], alts := [], laidByText := true, laidKinds := [.data, .pinned], laidTests := true, laidLooks := .later }
def PctTargetCardSaid : Prop := Claim7.holds Tryd.pinned (.plain (OpenSpec.ofChange pctTargetSpec)) pctTargetCard

/-- THE SECOND FORM's CARD OF 'larumlaw08.PctTarget'. -/
def pctTargetUptoCard : Claim7 := { stood := { row := pctTargetUptoRow, standIns := [], harness := (true, "99517de2ac9ab69e7a30f8d92b0adb6d0f78787fae80b51e13ad8503a162eed3"), looks := false }, kinds := [], alts := [], laidByText := true, laidKinds := [.data, .pinned], laidTests := true, laidLooks := .later }
def PctTargetUptoCardSaid : Prop := Claim7.holds Tryd.pinned (.plain (OpenSpec.upto pctTargetSpec)) pctTargetUptoCard
end Rows
end Go.Proofs.YtflhapnanhbcgaaDoor
