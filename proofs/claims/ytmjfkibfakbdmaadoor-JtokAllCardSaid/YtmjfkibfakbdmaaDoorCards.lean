/-
  DERIVED. GIVEN WITH THE SEED: THE CARDS: each row of YtmjfkibfakbdmaaDoorRows.lean that lists a variable, with what it lists TIED to the program's text (the seventh form; the later family's looks); each row that meets fmt, with fmt's text TOLD by the authors' own Lean function (tested against real Go, not proved from fmt's source: count such statements apart). THE CARD IS WHAT COUNTS. Prove the row's statement (the work); the ties are given (YtmjfkibfakbdmaaDoorTie.lean); close each card by the builder's one call (the guide's Derived/Test/ToyasCard.lean, 'card_holds'). Laid BY PROGRAM, IN A SANDBOX (cutbox-door.mjs). By AI agents, Wed Nov 11 2026. No macro, syntax, notation, axiom, sorry.
-/
import Derived.Test.YtmjfkibfakbdmaaDoorRows
import GoSem.ClaimSeven
namespace Go.Proofs.YtmjfkibfakbdmaaDoor
namespace Rows

/-- THE TIED CARD OF 'larumlaw05.JtokNext'. -/
def jtokNextCard : Claim7 := { stood := { row := jtokNextRow, standIns := [], harness := (true, "2cbfe54769d386897f7fea380aeb517429f468c18f1297726d800113395f31c9"), looks := true }, kinds := [], alts := [], laidByText := true, laidKinds := [.data, .data, .handle], laidTests := true, laidLooks := .later }
def JtokNextCardSaid : Prop := Claim7.holds Tryd.pinned (.plain (OpenSpec.ofChange jtokNextSpec)) jtokNextCard

/-- THE TIED CARD OF 'larumlaw05.JtokAll'. -/
def jtokAllCard : Claim7 := { stood := { row := jtokAllRow, standIns := [], harness := (true, "2cbfe54769d386897f7fea380aeb517429f468c18f1297726d800113395f31c9"), looks := true }, kinds := [], alts := [], laidByText := true, laidKinds := [.data, .data, .handle], laidTests := true, laidLooks := .later }
def JtokAllCardSaid : Prop := Claim7.holds Tryd.pinned (.plain (OpenSpec.ofChange jtokAllSpec)) jtokAllCard

/-- THE TIED CARD OF 'larumlaw05.JtokQuote'. -/
def jtokQuoteCard : Claim7 := { stood := { row := jtokQuoteRow, standIns := [], harness := (true, "2cbfe54769d386897f7fea380aeb517429f468c18f1297726d800113395f31c9"), looks := true }, kinds := [], alts := [], laidByText := true, laidKinds := [.data, .data, .data, .data, .data, .handle], laidTests := true, laidLooks := .later }
def JtokQuoteCardSaid : Prop := Claim7.holds Tryd.pinned (.plain (OpenSpec.ofChange jtokQuoteSpec)) jtokQuoteCard

/-- THE TIED CARD OF 'larumlaw05.JtokUnquote'. -/
def jtokUnquoteCard : Claim7 := { stood := { row := jtokUnquoteRow, standIns := [], harness := (true, "2cbfe54769d386897f7fea380aeb517429f468c18f1297726d800113395f31c9"), looks := true }, kinds := [], alts := [], laidByText := true, laidKinds := [.data, .data, .handle], laidTests := true, laidLooks := .later }
def JtokUnquoteCardSaid : Prop := Claim7.holds Tryd.pinned (.plain (OpenSpec.ofChange jtokUnquoteSpec)) jtokUnquoteCard

/-- THE SECOND FORM's CARD OF 'larumlaw05.JtokNext'. -/
def jtokNextUptoCard : Claim7 := { stood := { row := jtokNextUptoRow, standIns := [], harness := (true, "2cbfe54769d386897f7fea380aeb517429f468c18f1297726d800113395f31c9"), looks := true }, kinds := [], alts := [], laidByText := true, laidKinds := [.data, .data, .handle], laidTests := true, laidLooks := .later }
def JtokNextUptoCardSaid : Prop := Claim7.holds Tryd.pinned (.plain (OpenSpec.upto jtokNextSpec)) jtokNextUptoCard

/-- THE SECOND FORM's CARD OF 'larumlaw05.JtokAll'. -/
def jtokAllUptoCard : Claim7 := { stood := { row := jtokAllUptoRow, standIns := [], harness := (true, "2cbfe54769d386897f7fea380aeb517429f468c18f1297726d800113395f31c9"), looks := true }, kinds := [], alts := [], laidByText := true, laidKinds := [.data, .data, .handle], laidTests := true, laidLooks := .later }
def JtokAllUptoCardSaid : Prop := Claim7.holds Tryd.pinned (.plain (OpenSpec.upto jtokAllSpec)) jtokAllUptoCard

/-- THE SECOND FORM's CARD OF 'larumlaw05.JtokQuote'. -/
def jtokQuoteUptoCard : Claim7 := { stood := { row := jtokQuoteUptoRow, standIns := [], harness := (true, "2cbfe54769d386897f7fea380aeb517429f468c18f1297726d800113395f31c9"), looks := true }, kinds := [], alts := [], laidByText := true, laidKinds := [.data, .data, .data, .data, .data, .handle], laidTests := true, laidLooks := .later }
def JtokQuoteUptoCardSaid : Prop := Claim7.holds Tryd.pinned (.plain (OpenSpec.upto jtokQuoteSpec)) jtokQuoteUptoCard

/-- THE SECOND FORM's CARD OF 'larumlaw05.JtokUnquote'. -/
def jtokUnquoteUptoCard : Claim7 := { stood := { row := jtokUnquoteUptoRow, standIns := [], harness := (true, "2cbfe54769d386897f7fea380aeb517429f468c18f1297726d800113395f31c9"), looks := true }, kinds := [], alts := [], laidByText := true, laidKinds := [.data, .data, .handle], laidTests := true, laidLooks := .later }
def JtokUnquoteUptoCardSaid : Prop := Claim7.holds Tryd.pinned (.plain (OpenSpec.upto jtokUnquoteSpec)) jtokUnquoteUptoCard
end Rows
end Go.Proofs.YtmjfkibfakbdmaaDoor
