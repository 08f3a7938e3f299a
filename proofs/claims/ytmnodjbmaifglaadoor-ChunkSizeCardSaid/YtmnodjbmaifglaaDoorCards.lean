/-
  DERIVED. GIVEN WITH THE SEED: THE CARDS: each row of YtmnodjbmaifglaaDoorRows.lean that lists a variable, with what it lists TIED to the program's text (the seventh form; the later family's looks); each row that meets fmt, with fmt's text TOLD by the authors' own Lean function (tested against real Go, not proved from fmt's source: count such statements apart). THE CARD IS WHAT COUNTS. Prove the row's statement (the work); the ties are given (YtmnodjbmaifglaaDoorTie.lean); close each card by the builder's one call (the guide's Derived/Test/ToyasCard.lean, 'card_holds'). Laid BY PROGRAM, IN A SANDBOX (cutbox-door.mjs). By AI agents, Wed Nov 11 2026. No macro, syntax, notation, axiom, sorry.
-/
import Derived.Test.YtmnodjbmaifglaaDoorRows
import GoSem.ClaimSeven
namespace Go.Proofs.YtmnodjbmaifglaaDoor
namespace Rows

/-- THE TIED CARD OF 'larumlaw11.ChunkEnds'. -/
def chunkEndsCard : Claim7 := { stood := { row := chunkEndsRow, standIns := [], harness := (true, "b192f3c86887781b44ba7cf80fbbbdef59e6742151fad84bd664eb8db6c3edc6"), looks := false }, kinds := [], alts := [], laidByText := true, laidKinds := [.data, .pinned], laidTests := true, laidLooks := .later }
def ChunkEndsCardSaid : Prop := Claim7.holds Tryd.pinned (.plain (OpenSpec.ofChange chunkEndsSpec)) chunkEndsCard

/-- THE TIED CARD OF 'larumlaw11.ChunkBack'. -/
def chunkBackCard : Claim7 := { stood := { row := chunkBackRow, standIns := [], harness := (true, "b192f3c86887781b44ba7cf80fbbbdef59e6742151fad84bd664eb8db6c3edc6"), looks := false }, kinds := [], alts := [], laidByText := true, laidKinds := [.data, .data, .data, .data, .pinned], laidTests := true, laidLooks := .later }
def ChunkBackCardSaid : Prop := Claim7.holds Tryd.pinned (.plain (OpenSpec.ofChange chunkBackSpec)) chunkBackCard

/-- THE TIED CARD OF 'larumlaw11.ChunkSize'. -/
def chunkSizeCard : Claim7 := { stood := { row := chunkSizeRow, standIns := [], harness := (true, "b192f3c86887781b44ba7cf80fbbbdef59e6742151fad84bd664eb8db6c3edc6"), looks := false }, kinds := [], alts := [], laidByText := true, laidKinds := [.data, .pinned], laidTests := true, laidLooks := .later }
def ChunkSizeCardSaid : Prop := Claim7.holds Tryd.pinned (.plain (OpenSpec.ofChange chunkSizeSpec)) chunkSizeCard

/-- THE SECOND FORM's CARD OF 'larumlaw11.ChunkEnds'. -/
def chunkEndsUptoCard : Claim7 := { stood := { row := chunkEndsUptoRow, standIns := [], harness := (true, "b192f3c86887781b44ba7cf80fbbbdef59e6742151fad84bd664eb8db6c3edc6"), looks := false }, kinds := [], alts := [], laidByText := true, laidKinds := [.data, .pinned], laidTests := true, laidLooks := .later }
def ChunkEndsUptoCardSaid : Prop := Claim7.holds Tryd.pinned (.plain (OpenSpec.upto chunkEndsSpec)) chunkEndsUptoCard

/-- THE SECOND FORM's CARD OF 'larumlaw11.ChunkBack'. -/
def chunkBackUptoCard : Claim7 := { stood := { row := chunkBackUptoRow, standIns := [], harness := (true, "b192f3c86887781b44ba7cf80fbbbdef59e6742151fad84bd664eb8db6c3edc6"), looks := false }, kinds := [], alts := [], laidByText := true, laidKinds := [.data, .data, .data, .data, .pinned], laidTests := true, laidLooks := .later }
def ChunkBackUptoCardSaid : Prop := Claim7.holds Tryd.pinned (.plain (OpenSpec.upto chunkBackSpec)) chunkBackUptoCard

/-- THE SECOND FORM's CARD OF 'larumlaw11.ChunkSize'. -/
def chunkSizeUptoCard : Claim7 := { stood := { row := chunkSizeUptoRow, standIns := [], harness := (true, "b192f3c86887781b44ba7cf80fbbbdef59e6742151fad84bd664eb8db6c3edc6"), looks := false }, kinds := [], alts := [], laidByText := true, laidKinds := [.data, .pinned], laidTests := true, laidLooks := .later }
def ChunkSizeUptoCardSaid : Prop := Claim7.holds Tryd.pinned (.plain (OpenSpec.upto chunkSizeSpec)) chunkSizeUptoCard
end Rows
end Go.Proofs.YtmnodjbmaifglaaDoor
