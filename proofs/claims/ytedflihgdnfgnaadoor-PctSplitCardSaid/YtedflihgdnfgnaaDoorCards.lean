/-
  DERIVED. GIVEN WITH THE SEED: THE CARDS: each row of YtedflihgdnfgnaaDoorRows.lean that lists a variable, with what it lists TIED to the program's text (the seventh form; the later family's looks); each row that meets fmt, with fmt's text TOLD by the authors' own Lean function (tested against real Go, not proved from fmt's source: count such statements apart). THE CARD IS WHAT COUNTS. Prove the row's statement (the work); the ties are given (YtedflihgdnfgnaaDoorTie.lean); close each card by the builder's one call (the guide's Derived/Test/ToyasCard.lean, 'card_holds'). Laid BY PROGRAM, IN A SANDBOX (cutbox-door.mjs). By AI agents, Wed Nov 11 2026. No macro, syntax, notation, axiom, sorry.
-/
import Derived.Test.YtedflihgdnfgnaaDoorRows
import GoSem.ClaimSeven
namespace Go.Proofs.YtedflihgdnfgnaaDoor
namespace Rows

/-- THE TIED CARD OF 'larumlaw08.PctDecode'. -/
def pctDecodeCard : Claim7 := { stood := { row := pctDecodeRow, standIns := [], harness := (true, "dfc990a6499bc4064c696c79795bf3d4037fc153c18de73c2506420c5cec7308"), looks := false }, kinds := [], alts := [], laidByText := true, laidKinds := [.data, .pinned], laidTests := true, laidLooks := .later }
def PctDecodeCardSaid : Prop := Claim7.holds Tryd.pinned (.plain (OpenSpec.ofChange pctDecodeSpec)) pctDecodeCard

/-- THE TIED CARD OF 'larumlaw08.PctEncode'. -/
def pctEncodeCard : Claim7 := { stood := { row := pctEncodeRow, standIns := [], harness := (true, "dfc990a6499bc4064c696c79795bf3d4037fc153c18de73c2506420c5cec7308"), looks := false }, kinds := [], alts := [], laidByText := true, laidKinds := [.data, .pinned], laidTests := true, laidLooks := .later }
def PctEncodeCardSaid : Prop := Claim7.holds Tryd.pinned (.plain (OpenSpec.ofChange pctEncodeSpec)) pctEncodeCard

/-- THE TIED CARD OF 'larumlaw08.PctSplit'. -/
def pctSplitCard : Claim7 := { stood := { row := pctSplitRow, standIns := [], harness := (true, "dfc990a6499bc4064c696c79795bf3d4037fc153c18de73c2506420c5cec7308"), looks := false }, kinds := [], alts := [], laidByText := true, laidKinds := [.data, .pinned], laidTests := true, laidLooks := .later }
def PctSplitCardSaid : Prop := Claim7.holds Tryd.pinned (.plain (OpenSpec.ofChange pctSplitSpec)) pctSplitCard

/-- THE TIED CARD OF 'larumlaw08.PctTarget'. -/
def pctTargetCard : Claim7 := { stood := { row := pctTargetRow, standIns := [], harness := (true, "dfc990a6499bc4064c696c79795bf3d4037fc153c18de73c2506420c5cec7308"), looks := false }, kinds := [], alts := [], laidByText := true, laidKinds := [.data, .pinned], laidTests := true, laidLooks := .later }
def PctTargetCardSaid : Prop := Claim7.holds Tryd.pinned (.plain (OpenSpec.ofChange pctTargetSpec)) pctTargetCard

/-- THE SECOND FORM's CARD OF 'larumlaw08.PctDecode'. -/
def pctDecodeUptoCard : Claim7 := { stood := { row := pctDecodeUptoRow, standIns := [], harness := (true, "dfc990a6499bc4064c696c79795bf3d4037fc153c18de73c2506420c5cec7308"), looks := false }, kinds := [], alts := [], laidByText := true, laidKinds := [.data, .pinned], laidTests := true, laidLooks := .later }
def PctDecodeUptoCardSaid : Prop := Claim7.holds Tryd.pinned (.plain (OpenSpec.upto pctDecodeSpec)) pctDecodeUptoCard

/-- THE SECOND FORM's CARD OF 'larumlaw08.PctEncode'. -/
def pctEncodeUptoCard : Claim7 := { stood := { row := pctEncodeUptoRow, standIns := [], harness := (true, "dfc990a6499bc4064c696c79795bf3d4037fc153c18de73c2506420c5cec7308"), looks := false }, kinds := [], alts := [], laidByText := true, laidKinds := [.data, .pinned], laidTests := true, laidLooks := .later }
def PctEncodeUptoCardSaid : Prop := Claim7.holds Tryd.pinned (.plain (OpenSpec.upto pctEncodeSpec)) pctEncodeUptoCard

/-- THE SECOND FORM's CARD OF 'larumlaw08.PctSplit'. -/
def pctSplitUptoCard : Claim7 := { stood := { row := pctSplitUptoRow, standIns := [], harness := (true, "dfc990a6499bc4064c696c79795bf3d4037fc153c18de73c2506420c5cec7308"), looks := false }, kinds := [], alts := [], laidByText := true, laidKinds := [.data, .pinned], laidTests := true, laidLooks := .later }
def PctSplitUptoCardSaid : Prop := Claim7.holds Tryd.pinned (.plain (OpenSpec.upto pctSplitSpec)) pctSplitUptoCard

/-- THE SECOND FORM's CARD OF 'larumlaw08.PctTarget'. -/
def pctTargetUptoCard : Claim7 := { stood := { row := pctTargetUptoRow, standIns := [], harness := (true, "dfc990a6499bc4064c696c79795bf3d4037fc153c18de73c2506420c5cec7308"), looks := false }, kinds := [], alts := [], laidByText := true, laidKinds := [.data, .pinned], laidTests := true, laidLooks := .later }
def PctTargetUptoCardSaid : Prop := Claim7.holds Tryd.pinned (.plain (OpenSpec.upto pctTargetSpec)) pctTargetUptoCard
end Rows
end Go.Proofs.YtedflihgdnfgnaaDoor
