/-
  No cell of these rows narrows 'for every input' (looked for: loops, veiled, ifaces, maps, wideKeys, modest, calm, conditions, laid).
  DERIVED. THE GIVEN ROWS OF THIS SEAT. 4 by the template 'for every input the law returns true; each argument reads behind the call as it read before'; 0 by the template 'total and deterministic' (their statements: YtcmcbocegdejjaaTotals.lean).
  GIVEN WITH THE SEED: the statements are not yours to turn. If you find one false, say at which input.
  Laid BY PROGRAM, IN A SANDBOX (cutbox-rows.mjs): the forced cells as the released guide's own fill.sh prints them over the translation f09f5102a0fdcb3d… (all of the seat's roots in one cut). By AI agents, Wed Nov 11 2026. No macro, syntax, notation, axiom, sorry.
-/
import Derived.Test.YtcmcbocegdejjaaChecked
import GoSem.Claim
import GoSem.ClaimJoined
import GoSem.ClaimMapViews
import Derived.JoinedTies
import Derived.KernelRfl
namespace Go.Proofs.Ytcmcbocegdejjaa
/- THE CELL 'sum', in the pinned program and in every row, IS THE sha256 OF THE DUMP (.gsa) THAT YtcmcbocegdejjaaProg.lean LOADS. Nothing in Lean hashes anything: it is a label: what it is worth is what the hold of that sum in a sandbox is worth. -/
noncomputable def Try.pinned : Pinned := { name := "ytcmcbocegdejjaa", sum := "f09f5102a0fdcb3d95c460a74a8ab04d8c418f015ab0802671fe0745ae434147", checked := Try.checked }
namespace Rows
def none {H : Type} : Left H := { results := [], args := [] }

/-- 'larumlaw20.ClogPlays': WHATEVER THE INPUT: true; the input reads as it did. -/
def clogPlaysSpec : ChangeSpec := { name := "clogPlays", fn := fun _ => fun
  | [d1, d2, d3] => { results := [.lit (.bool true)], args := [d1, d2, d3] }
  | _ => none }
def clogPlaysRow : OpenClaim := { program := "ytcmcbocegdejjaa", sum := "f09f5102a0fdcb3d95c460a74a8ab04d8c418f015ab0802671fe0745ae434147", func := "larum/larumlaw20.ClogPlays", spec := "clogPlays", unfollowed := true, recurses := true, apart := false }
def ClogPlaysSaid : Prop := clogPlaysRow.holds Try.pinned (OpenSpec.ofChange clogPlaysSpec)

/-- ITS FALSE NEIGHBOUR: 'it returns false'. Refute it at one input. -/
def clogPlaysWrong : ChangeSpec := { name := "clogPlays", fn := fun _ => fun
  | [d1, d2, d3] => { results := [.lit (.bool false)], args := [d1, d2, d3] }
  | _ => none }
def ClogPlaysWrongFalsely : Prop := clogPlaysRow.holds Try.pinned (OpenSpec.ofChange clogPlaysWrong)

/-- 'larumlaw20.ClogNext': WHATEVER THE INPUT: true; the input reads as it did. -/
def clogNextSpec : ChangeSpec := { name := "clogNext", fn := fun _ => fun
  | [d1, d2, d3, d4] => { results := [.lit (.bool true)], args := [d1, d2, d3, d4] }
  | _ => none }
def clogNextRow : OpenClaim := { program := "ytcmcbocegdejjaa", sum := "f09f5102a0fdcb3d95c460a74a8ab04d8c418f015ab0802671fe0745ae434147", func := "larum/larumlaw20.ClogNext", spec := "clogNext", unfollowed := true, recurses := true, apart := false }
def ClogNextSaid : Prop := clogNextRow.holds Try.pinned (OpenSpec.ofChange clogNextSpec)

/-- ITS FALSE NEIGHBOUR: 'it returns false'. Refute it at one input. -/
def clogNextWrong : ChangeSpec := { name := "clogNext", fn := fun _ => fun
  | [d1, d2, d3, d4] => { results := [.lit (.bool false)], args := [d1, d2, d3, d4] }
  | _ => none }
def ClogNextWrongFalsely : Prop := clogNextRow.holds Try.pinned (OpenSpec.ofChange clogNextWrong)

/-- 'larumlaw20.ClogChained': WHATEVER THE INPUT: true; the input reads as it did. -/
def clogChainedSpec : ChangeSpec := { name := "clogChained", fn := fun _ => fun
  | [d1, d2, d3, d4] => { results := [.lit (.bool true)], args := [d1, d2, d3, d4] }
  | _ => none }
def clogChainedRow : OpenClaim := { program := "ytcmcbocegdejjaa", sum := "f09f5102a0fdcb3d95c460a74a8ab04d8c418f015ab0802671fe0745ae434147", func := "larum/larumlaw20.ClogChained", spec := "clogChained", unfollowed := true, recurses := true, apart := false }
def ClogChainedSaid : Prop := clogChainedRow.holds Try.pinned (OpenSpec.ofChange clogChainedSpec)

/-- ITS FALSE NEIGHBOUR: 'it returns false'. Refute it at one input. -/
def clogChainedWrong : ChangeSpec := { name := "clogChained", fn := fun _ => fun
  | [d1, d2, d3, d4] => { results := [.lit (.bool false)], args := [d1, d2, d3, d4] }
  | _ => none }
def ClogChainedWrongFalsely : Prop := clogChainedRow.holds Try.pinned (OpenSpec.ofChange clogChainedWrong)

/-- 'larumlaw20.ClogNil': WHATEVER THE INPUT: true; the input reads as it did. -/
def clogNilSpec : ChangeSpec := { name := "clogNil", fn := fun _ => fun
  | [d] => { results := [.lit (.bool true)], args := [d] }
  | _ => none }
def clogNilRow : OpenClaim := { program := "ytcmcbocegdejjaa", sum := "f09f5102a0fdcb3d95c460a74a8ab04d8c418f015ab0802671fe0745ae434147", func := "larum/larumlaw20.ClogNil", spec := "clogNil", unfollowed := true, recurses := true, apart := false }
def ClogNilSaid : Prop := clogNilRow.holds Try.pinned (OpenSpec.ofChange clogNilSpec)

/-- ITS FALSE NEIGHBOUR: 'it returns false'. Refute it at one input. -/
def clogNilWrong : ChangeSpec := { name := "clogNil", fn := fun _ => fun
  | [d] => { results := [.lit (.bool false)], args := [d] }
  | _ => none }
def ClogNilWrongFalsely : Prop := clogNilRow.holds Try.pinned (OpenSpec.ofChange clogNilWrong)

/- THE SECOND FORM. 'bulk': how many values and letters a reading holds, each counted each time it is reached (what is shared counts as often as it is met; a slice's spare places count too). A statement '..UptoSaid' is the law's where the arguments, and the package variables that the reading takes, are together of bulk at most 1048576: NARROWER than '..Said'. Prove '..Said' where nothing that the law and all that it calls make is longer than what came in: it says more and counts as full. Else prove '..UptoSaid'. A law counts once. -/
mutual
def uptoBulk {H : Type} : DataW H → Nat
  | .lit (.string bytes) => bytes.length + 1
  | .lit _ => 1
  | .nil => 1
  | .ptr d => uptoBulk d + 1
  | .slice elems spare => uptoBulkAll elems + uptoBulkAll spare + 1
  | .agg parts => uptoBulkAll parts + 1
  | .iface _ d => uptoBulk d + 1
  | .map entries => uptoBulkEntries entries + 1
  | .held _ => 1
def uptoBulkAll {H : Type} : List (DataW H) → Nat
  | [] => 0
  | d :: r => uptoBulk d + uptoBulkAll r
def uptoBulkEntries {H : Type} : List (Lit × DataW H) → Nat
  | [] => 0
  | x :: r => uptoBulkEntry x + uptoBulkEntries r
def uptoBulkEntry {H : Type} : Lit × DataW H → Nat
  | (.string bytes, d) => bytes.length + uptoBulk d + 1
  | (_, d) => uptoBulk d + 1
 end
def uptoSmall : (H : Type) → List (DataW H) → Bool := fun _ ds => decide (uptoBulkAll ds ≤ 1048576)
def OpenSpec.upto (s : _root_.Go.ChangeSpec) : _root_.Go.OpenSpec := { _root_.Go.OpenSpec.ofChange s with cond := some uptoSmall }

/-- 'larumlaw20.ClogPlays', WHERE WHAT IT READS IS OF BULK AT MOST 1048576: true; the input reads as it did. -/
def clogPlaysUptoRow : OpenClaim := { program := "ytcmcbocegdejjaa", sum := "f09f5102a0fdcb3d95c460a74a8ab04d8c418f015ab0802671fe0745ae434147", func := "larum/larumlaw20.ClogPlays", spec := "clogPlays", unfollowed := true, recurses := true, apart := false, narrowed := true }
def ClogPlaysUptoSaid : Prop := clogPlaysUptoRow.holds Try.pinned (OpenSpec.upto clogPlaysSpec)

/-- 'larumlaw20.ClogNext', WHERE WHAT IT READS IS OF BULK AT MOST 1048576: true; the input reads as it did. -/
def clogNextUptoRow : OpenClaim := { program := "ytcmcbocegdejjaa", sum := "f09f5102a0fdcb3d95c460a74a8ab04d8c418f015ab0802671fe0745ae434147", func := "larum/larumlaw20.ClogNext", spec := "clogNext", unfollowed := true, recurses := true, apart := false, narrowed := true }
def ClogNextUptoSaid : Prop := clogNextUptoRow.holds Try.pinned (OpenSpec.upto clogNextSpec)

/-- 'larumlaw20.ClogChained', WHERE WHAT IT READS IS OF BULK AT MOST 1048576: true; the input reads as it did. -/
def clogChainedUptoRow : OpenClaim := { program := "ytcmcbocegdejjaa", sum := "f09f5102a0fdcb3d95c460a74a8ab04d8c418f015ab0802671fe0745ae434147", func := "larum/larumlaw20.ClogChained", spec := "clogChained", unfollowed := true, recurses := true, apart := false, narrowed := true }
def ClogChainedUptoSaid : Prop := clogChainedUptoRow.holds Try.pinned (OpenSpec.upto clogChainedSpec)

/-- 'larumlaw20.ClogNil', WHERE WHAT IT READS IS OF BULK AT MOST 1048576: true; the input reads as it did. -/
def clogNilUptoRow : OpenClaim := { program := "ytcmcbocegdejjaa", sum := "f09f5102a0fdcb3d95c460a74a8ab04d8c418f015ab0802671fe0745ae434147", func := "larum/larumlaw20.ClogNil", spec := "clogNil", unfollowed := true, recurses := true, apart := false, narrowed := true }
def ClogNilUptoSaid : Prop := clogNilUptoRow.holds Try.pinned (OpenSpec.upto clogNilSpec)

end Rows
end Go.Proofs.Ytcmcbocegdejjaa
