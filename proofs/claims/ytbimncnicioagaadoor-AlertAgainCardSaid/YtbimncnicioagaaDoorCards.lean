/-
  DERIVED. GIVEN WITH THE SEED: THE CARDS: each row of YtbimncnicioagaaDoorRows.lean that lists a variable, with what it lists TIED to the program's text (the seventh form; the later family's looks); each row that meets fmt, with fmt's text TOLD by the authors' own Lean function (tested against real Go, not proved from fmt's source: count such statements apart). THE CARD IS WHAT COUNTS. Prove the row's statement (the work); the ties are given (YtbimncnicioagaaDoorTie.lean); close each card by the builder's one call (the guide's Derived/Test/ToyasCard.lean, 'card_holds'). Laid BY PROGRAM, IN A SANDBOX (cutbox-door.mjs). By AI agents, Wed Nov 11 2026. No macro, syntax, notation, axiom, sorry.
-/
import Derived.Test.YtbimncnicioagaaDoorRows
import GoSem.ClaimSeven
namespace Go.Proofs.YtbimncnicioagaaDoor
namespace Rows

/-- THE TIED CARD OF 'larumlaw22.AlertIs'. -/
def alertIsCard : Claim7 := { stood := { row := alertIsRow, standIns := [], harness := (true, "841e9aa3514ea8f076d64115422f96764da6e82823f632f5322f8d1fdebcc8e8"), looks := false }, kinds := [], alts := [], laidByText := true, laidKinds := [.data, .data, .data, .data, .data], laidTests := true, laidLooks := .later }
def AlertIsCardSaid : Prop := Claim7.holds Tryd.pinned (.plain (OpenSpec.ofChange alertIsSpec)) alertIsCard

/-- THE TIED CARD OF 'larumlaw22.AlertMerge'. -/
def alertMergeCard : Claim7 := { stood := { row := alertMergeRow, standIns := [], harness := (true, "841e9aa3514ea8f076d64115422f96764da6e82823f632f5322f8d1fdebcc8e8"), looks := false }, kinds := [], alts := [], laidByText := true, laidKinds := [.data, .data, .data, .data, .data], laidTests := true, laidLooks := .later }
def AlertMergeCardSaid : Prop := Claim7.holds Tryd.pinned (.plain (OpenSpec.ofChange alertMergeSpec)) alertMergeCard

/-- THE TIED CARD OF 'larumlaw22.AlertAgain'. -/
def alertAgainCard : Claim7 := { stood := { row := alertAgainRow, standIns := [], harness := (true, "841e9aa3514ea8f076d64115422f96764da6e82823f632f5322f8d1fdebcc8e8"), looks := false }, kinds := [], alts := [], laidByText := true, laidKinds := [.data, .data, .data, .data, .data], laidTests := true, laidLooks := .later }
def AlertAgainCardSaid : Prop := Claim7.holds Tryd.pinned (.plain (OpenSpec.ofChange alertAgainSpec)) alertAgainCard

/-- THE SECOND FORM's CARD OF 'larumlaw22.AlertIs'. -/
def alertIsUptoCard : Claim7 := { stood := { row := alertIsUptoRow, standIns := [], harness := (true, "841e9aa3514ea8f076d64115422f96764da6e82823f632f5322f8d1fdebcc8e8"), looks := false }, kinds := [], alts := [], laidByText := true, laidKinds := [.data, .data, .data, .data, .data], laidTests := true, laidLooks := .later }
def AlertIsUptoCardSaid : Prop := Claim7.holds Tryd.pinned (.plain (OpenSpec.upto alertIsSpec)) alertIsUptoCard

/-- THE SECOND FORM's CARD OF 'larumlaw22.AlertMerge'. -/
def alertMergeUptoCard : Claim7 := { stood := { row := alertMergeUptoRow, standIns := [], harness := (true, "841e9aa3514ea8f076d64115422f96764da6e82823f632f5322f8d1fdebcc8e8"), looks := false }, kinds := [], alts := [], laidByText := true, laidKinds := [.data, .data, .data, .data, .data], laidTests := true, laidLooks := .later }
def AlertMergeUptoCardSaid : Prop := Claim7.holds Tryd.pinned (.plain (OpenSpec.upto alertMergeSpec)) alertMergeUptoCard

/-- THE SECOND FORM's CARD OF 'larumlaw22.AlertAgain'. -/
def alertAgainUptoCard : Claim7 := { stood := { row := alertAgainUptoRow, standIns := [], harness := (true, "841e9aa3514ea8f076d64115422f96764da6e82823f632f5322f8d1fdebcc8e8"), looks := false }, kinds := [], alts := [], laidByText := true, laidKinds := [.data, .data, .data, .data, .data], laidTests := true, laidLooks := .later }
def AlertAgainUptoCardSaid : Prop := Claim7.holds Tryd.pinned (.plain (OpenSpec.upto alertAgainSpec)) alertAgainUptoCard
end Rows
end Go.Proofs.YtbimncnicioagaaDoor
