/-
  DERIVED. GIVEN WITH THE SEED: THE CARDS: each row of YtolfenachbbjdaaDoorRows.lean that lists a variable, with what it lists TIED to the program's text (the seventh form; the later family's looks); each row that meets fmt, with fmt's text TOLD by the authors' own Lean function (tested against real Go, not proved from fmt's source: count such statements apart). THE CARD IS WHAT COUNTS. Prove the row's statement (the work); the ties are given (YtolfenachbbjdaaDoorTie.lean); close each card by the builder's one call (the guide's Derived/Test/ToyasCard.lean, 'card_holds'). Laid BY PROGRAM, IN A SANDBOX (cutbox-door.mjs). By AI agents, Wed Nov 11 2026. No macro, syntax, notation, axiom, sorry.
-/
import Derived.Test.YtolfenachbbjdaaDoorRows
import GoSem.ClaimSeven
namespace Go.Proofs.YtolfenachbbjdaaDoor
namespace Rows

/-- THE TIED CARD OF 'larumlaw13.ReplyEncodes'. -/
def replyEncodesCard : Claim7 := { stood := { row := replyEncodesRow, standIns := [], harness := (true, "4ce915328747d2f52caa82d8b1f3afc23a1a3d58f825b8a3da973658bafdb97f"), looks := false }, kinds := [], alts := [], laidByText := true, laidKinds := [.data, .data, .data], laidTests := true, laidLooks := .later }
def ReplyEncodesCardSaid : Prop := Claim7.holds Tryd.pinned (.plain (OpenSpec.ofChange replyEncodesSpec)) replyEncodesCard

/-- THE TIED CARD OF 'larumlaw13.ReplyBack'. -/
def replyBackCard : Claim7 := { stood := { row := replyBackRow, standIns := [], harness := (true, "4ce915328747d2f52caa82d8b1f3afc23a1a3d58f825b8a3da973658bafdb97f"), looks := false }, kinds := [], alts := [], laidByText := true, laidKinds := [.data, .data, .data, .data, .pinned], laidTests := true, laidLooks := .later }
def ReplyBackCardSaid : Prop := Claim7.holds Tryd.pinned (.plain (OpenSpec.ofChange replyBackSpec)) replyBackCard

/-- THE TIED CARD OF 'larumlaw13.ReplyParse'. -/
def replyParseCard : Claim7 := { stood := { row := replyParseRow, standIns := [], harness := (true, "4ce915328747d2f52caa82d8b1f3afc23a1a3d58f825b8a3da973658bafdb97f"), looks := false }, kinds := [], alts := [], laidByText := true, laidKinds := [.data, .data, .data, .data, .pinned], laidTests := true, laidLooks := .later }
def ReplyParseCardSaid : Prop := Claim7.holds Tryd.pinned (.plain (OpenSpec.ofChange replyParseSpec)) replyParseCard

/-- THE TIED CARD OF 'larumlaw13.ReplyWords'. -/
def replyWordsCard : Claim7 := { stood := { row := replyWordsRow, standIns := [], harness := (true, "4ce915328747d2f52caa82d8b1f3afc23a1a3d58f825b8a3da973658bafdb97f"), looks := false }, kinds := [], alts := [], laidByText := true, laidKinds := [.data, .data, .data], laidTests := true, laidLooks := .later }
def ReplyWordsCardSaid : Prop := Claim7.holds Tryd.pinned (.plain (OpenSpec.ofChange replyWordsSpec)) replyWordsCard

/-- THE TIED CARD OF 'larumlaw13.ReplyMany'. -/
def replyManyCard : Claim7 := { stood := { row := replyManyRow, standIns := [], harness := (true, "4ce915328747d2f52caa82d8b1f3afc23a1a3d58f825b8a3da973658bafdb97f"), looks := false }, kinds := [], alts := [], laidByText := true, laidKinds := [.data, .data, .data, .data, .pinned], laidTests := true, laidLooks := .later }
def ReplyManyCardSaid : Prop := Claim7.holds Tryd.pinned (.plain (OpenSpec.ofChange replyManySpec)) replyManyCard

/-- THE SECOND FORM's CARD OF 'larumlaw13.ReplyEncodes'. -/
def replyEncodesUptoCard : Claim7 := { stood := { row := replyEncodesUptoRow, standIns := [], harness := (true, "4ce915328747d2f52caa82d8b1f3afc23a1a3d58f825b8a3da973658bafdb97f"), looks := false }, kinds := [], alts := [], laidByText := true, laidKinds := [.data, .data, .data], laidTests := true, laidLooks := .later }
def ReplyEncodesUptoCardSaid : Prop := Claim7.holds Tryd.pinned (.plain (OpenSpec.upto replyEncodesSpec)) replyEncodesUptoCard

/-- THE SECOND FORM's CARD OF 'larumlaw13.ReplyBack'. -/
def replyBackUptoCard : Claim7 := { stood := { row := replyBackUptoRow, standIns := [], harness := (true, "4ce915328747d2f52caa82d8b1f3afc23a1a3d58f825b8a3da973658bafdb97f"), looks := false }, kinds := [], alts := [], laidByText := true, laidKinds := [.data, .data, .data, .data, .pinned], laidTests := true, laidLooks := .later }
def ReplyBackUptoCardSaid : Prop := Claim7.holds Tryd.pinned (.plain (OpenSpec.upto replyBackSpec)) replyBackUptoCard

/-- THE SECOND FORM's CARD OF 'larumlaw13.ReplyParse'. -/
def replyParseUptoCard : Claim7 := { stood := { row := replyParseUptoRow, standIns := [], harness := (true, "4ce915328747d2f52caa82d8b1f3afc23a1a3d58f825b8a3da973658bafdb97f"), looks := false }, kinds := [], alts := [], laidByText := true, laidKinds := [.data, .data, .data, .data, .pinned], laidTests := true, laidLooks := .later }
def ReplyParseUptoCardSaid : Prop := Claim7.holds Tryd.pinned (.plain (OpenSpec.upto replyParseSpec)) replyParseUptoCard

/-- THE SECOND FORM's CARD OF 'larumlaw13.ReplyWords'. -/
def replyWordsUptoCard : Claim7 := { stood := { row := replyWordsUptoRow, standIns := [], harness := (true, "4ce915328747d2f52caa82d8b1f3afc23a1a3d58f825b8a3da973658bafdb97f"), looks := false }, kinds := [], alts := [], laidByText := true, laidKinds := [.data, .data, .data], laidTests := true, laidLooks := .later }
def ReplyWordsUptoCardSaid : Prop := Claim7.holds Tryd.pinned (.plain (OpenSpec.upto replyWordsSpec)) replyWordsUptoCard

/-- THE SECOND FORM's CARD OF 'larumlaw13.ReplyMany'. -/
def replyManyUptoCard : Claim7 := { stood := { row := replyManyUptoRow, standIns := [], harness := (true, "4ce915328747d2f52caa82d8b1f3afc23a1a3d58f825b8a3da973658bafdb97f"), looks := false }, kinds := [], alts := [], laidByText := true, laidKinds := [.data, .data, .data, .data, .pinned], laidTests := true, laidLooks := .later }
def ReplyManyUptoCardSaid : Prop := Claim7.holds Tryd.pinned (.plain (OpenSpec.upto replyManySpec)) replyManyUptoCard
end Rows
end Go.Proofs.YtolfenachbbjdaaDoor
