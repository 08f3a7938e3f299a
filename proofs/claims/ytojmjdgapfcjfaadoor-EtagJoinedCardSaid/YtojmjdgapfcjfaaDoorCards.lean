/-
  DERIVED. GIVEN WITH THE SEED: THE CARDS: each row of YtojmjdgapfcjfaaDoorRows.lean that lists a variable, with what it lists TIED to the program's text (the seventh form; the later family's looks); each row that meets fmt, with fmt's text TOLD by the authors' own Lean function (tested against real Go, not proved from fmt's source: count such statements apart). THE CARD IS WHAT COUNTS. Prove the row's statement (the work); the ties are given (YtojmjdgapfcjfaaDoorTie.lean); close each card by the builder's one call (the guide's Derived/Test/ToyasCard.lean, 'card_holds'). Laid BY PROGRAM, IN A SANDBOX (cutbox-door.mjs). By AI agents, Wed Nov 11 2026. No macro, syntax, notation, axiom, sorry.
-/
import Derived.Test.YtojmjdgapfcjfaaDoorRows
import GoSem.ClaimSeven
namespace Go.Proofs.YtojmjdgapfcjfaaDoor
namespace Rows

/-- THE TIED CARD OF 'larumlaw09.EtagPrint'. -/
def etagPrintCard : Claim7 := { stood := { row := etagPrintRow, standIns := [], harness := (true, "914a9bb9b9637a45452587cbd278f72a662e2d63687d4ca143f048852a48901a"), looks := false }, kinds := [], alts := [], laidByText := true, laidKinds := [.data, .data, .data], laidTests := true, laidLooks := .later }
def EtagPrintCardSaid : Prop := Claim7.holds Tryd.pinned (.plain (OpenSpec.ofChange etagPrintSpec)) etagPrintCard

/-- THE TIED CARD OF 'larumlaw09.EtagParse'. -/
def etagParseCard : Claim7 := { stood := { row := etagParseRow, standIns := [], harness := (true, "914a9bb9b9637a45452587cbd278f72a662e2d63687d4ca143f048852a48901a"), looks := false }, kinds := [], alts := [], laidByText := true, laidKinds := [.data, .data, .data], laidTests := true, laidLooks := .later }
def EtagParseCardSaid : Prop := Claim7.holds Tryd.pinned (.plain (OpenSpec.ofChange etagParseSpec)) etagParseCard

/-- THE TIED CARD OF 'larumlaw09.EtagHas'. -/
def etagHasCard : Claim7 := { stood := { row := etagHasRow, standIns := [], harness := (true, "914a9bb9b9637a45452587cbd278f72a662e2d63687d4ca143f048852a48901a"), looks := false }, kinds := [], alts := [], laidByText := true, laidKinds := [.data, .data, .data], laidTests := true, laidLooks := .later }
def EtagHasCardSaid : Prop := Claim7.holds Tryd.pinned (.plain (OpenSpec.ofChange etagHasSpec)) etagHasCard

/-- THE TIED CARD OF 'larumlaw09.EtagNumber'. -/
def etagNumberCard : Claim7 := { stood := { row := etagNumberRow, standIns := [], harness := (true, "914a9bb9b9637a45452587cbd278f72a662e2d63687d4ca143f048852a48901a"), looks := false }, kinds := [], alts := [], laidByText := true, laidKinds := [.data, .data, .data], laidTests := true, laidLooks := .later }
def EtagNumberCardSaid : Prop := Claim7.holds Tryd.pinned (.plain (OpenSpec.ofChange etagNumberSpec)) etagNumberCard

/-- THE TIED CARD OF 'larumlaw09.EtagJoined'. -/
def etagJoinedCard : Claim7 := { stood := { row := etagJoinedRow, standIns := [], harness := (true, "914a9bb9b9637a45452587cbd278f72a662e2d63687d4ca143f048852a48901a"), looks := false }, kinds := [], alts := [], laidByText := true, laidKinds := [.data, .data, .data], laidTests := true, laidLooks := .later }
def EtagJoinedCardSaid : Prop := Claim7.holds Tryd.pinned (.plain (OpenSpec.ofChange etagJoinedSpec)) etagJoinedCard

/-- THE SECOND FORM's CARD OF 'larumlaw09.EtagPrint'. -/
def etagPrintUptoCard : Claim7 := { stood := { row := etagPrintUptoRow, standIns := [], harness := (true, "914a9bb9b9637a45452587cbd278f72a662e2d63687d4ca143f048852a48901a"), looks := false }, kinds := [], alts := [], laidByText := true, laidKinds := [.data, .data, .data], laidTests := true, laidLooks := .later }
def EtagPrintUptoCardSaid : Prop := Claim7.holds Tryd.pinned (.plain (OpenSpec.upto etagPrintSpec)) etagPrintUptoCard

/-- THE SECOND FORM's CARD OF 'larumlaw09.EtagParse'. -/
def etagParseUptoCard : Claim7 := { stood := { row := etagParseUptoRow, standIns := [], harness := (true, "914a9bb9b9637a45452587cbd278f72a662e2d63687d4ca143f048852a48901a"), looks := false }, kinds := [], alts := [], laidByText := true, laidKinds := [.data, .data, .data], laidTests := true, laidLooks := .later }
def EtagParseUptoCardSaid : Prop := Claim7.holds Tryd.pinned (.plain (OpenSpec.upto etagParseSpec)) etagParseUptoCard

/-- THE SECOND FORM's CARD OF 'larumlaw09.EtagHas'. -/
def etagHasUptoCard : Claim7 := { stood := { row := etagHasUptoRow, standIns := [], harness := (true, "914a9bb9b9637a45452587cbd278f72a662e2d63687d4ca143f048852a48901a"), looks := false }, kinds := [], alts := [], laidByText := true, laidKinds := [.data, .data, .data], laidTests := true, laidLooks := .later }
def EtagHasUptoCardSaid : Prop := Claim7.holds Tryd.pinned (.plain (OpenSpec.upto etagHasSpec)) etagHasUptoCard

/-- THE SECOND FORM's CARD OF 'larumlaw09.EtagNumber'. -/
def etagNumberUptoCard : Claim7 := { stood := { row := etagNumberUptoRow, standIns := [], harness := (true, "914a9bb9b9637a45452587cbd278f72a662e2d63687d4ca143f048852a48901a"), looks := false }, kinds := [], alts := [], laidByText := true, laidKinds := [.data, .data, .data], laidTests := true, laidLooks := .later }
def EtagNumberUptoCardSaid : Prop := Claim7.holds Tryd.pinned (.plain (OpenSpec.upto etagNumberSpec)) etagNumberUptoCard

/-- THE SECOND FORM's CARD OF 'larumlaw09.EtagJoined'. -/
def etagJoinedUptoCard : Claim7 := { stood := { row := etagJoinedUptoRow, standIns := [], harness := (true, "914a9bb9b9637a45452587cbd278f72a662e2d63687d4ca143f048852a48901a"), looks := false }, kinds := [], alts := [], laidByText := true, laidKinds := [.data, .data, .data], laidTests := true, laidLooks := .later }
def EtagJoinedUptoCardSaid : Prop := Claim7.holds Tryd.pinned (.plain (OpenSpec.upto etagJoinedSpec)) etagJoinedUptoCard
end Rows
end Go.Proofs.YtojmjdgapfcjfaaDoor
