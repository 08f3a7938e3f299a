/-
  No cell of these rows narrows 'for every input' (looked for: loops, veiled, ifaces, maps, wideKeys, modest, calm, conditions, laid).
  DERIVED. THE GIVEN ROWS OF THIS SEAT. 3 by the template 'for every input the law returns true; each argument reads behind the call as it read before'; 0 by the template 'total and deterministic' (their statements: YtjjnjankjbiigaaTotals.lean).
  GIVEN WITH THE SEED: the statements are not yours to turn. If you find one false, say at which input.
  Laid BY PROGRAM, IN A SANDBOX (cutbox-rows.mjs): the forced cells as the released guide's own fill.sh prints them over the translation 8cc778d50c6bf199… (all of the seat's roots in one cut). By AI agents, Wed Nov 11 2026. No macro, syntax, notation, axiom, sorry.
-/
import Derived.Test.YtjjnjankjbiigaaChecked
import GoSem.Claim
import GoSem.ClaimJoined
import GoSem.ClaimMapViews
import Derived.JoinedTies
import Derived.KernelRfl
namespace Go.Proofs.Ytjjnjankjbiigaa
/- THE CELL 'sum', in the pinned program and in every row, IS THE sha256 OF THE DUMP (.gsa) THAT YtjjnjankjbiigaaProg.lean LOADS. Nothing in Lean hashes anything: it is a label: what it is worth is what the hold of that sum in a sandbox is worth. -/
noncomputable def Try.pinned : Pinned := { name := "ytjjnjankjbiigaa", sum := "8cc778d50c6bf19936821f527d03440ca76dcc878f09af8c6972b72f1bab6f28", checked := Try.checked }
namespace Rows
def none {H : Type} : Left H := { results := [], args := [] }

/-- 'larumlaw21.PinPlays': WHATEVER THE INPUT: true; the input reads as it did. -/
def pinPlaysSpec : ChangeSpec := { name := "pinPlays", fn := fun _ => fun
  | [d1, d2, d3] => { results := [.lit (.bool true)], args := [d1, d2, d3] }
  | _ => none }
def pinPlaysRow : OpenClaim := { program := "ytjjnjankjbiigaa", sum := "8cc778d50c6bf19936821f527d03440ca76dcc878f09af8c6972b72f1bab6f28", func := "larum/larumlaw21.PinPlays", spec := "pinPlays", unfollowed := true, recurses := true, apart := false }
def PinPlaysSaid : Prop := pinPlaysRow.holds Try.pinned (OpenSpec.ofChange pinPlaysSpec)

/-- ITS FALSE NEIGHBOUR: 'it returns false'. Refute it at one input. -/
def pinPlaysWrong : ChangeSpec := { name := "pinPlays", fn := fun _ => fun
  | [d1, d2, d3] => { results := [.lit (.bool false)], args := [d1, d2, d3] }
  | _ => none }
def PinPlaysWrongFalsely : Prop := pinPlaysRow.holds Try.pinned (OpenSpec.ofChange pinPlaysWrong)

/-- 'larumlaw21.PinBounds': WHATEVER THE INPUT: true; the input reads as it did. -/
def pinBoundsSpec : ChangeSpec := { name := "pinBounds", fn := fun _ => fun
  | [d1, d2] => { results := [.lit (.bool true)], args := [d1, d2] }
  | _ => none }
def pinBoundsRow : OpenClaim := { program := "ytjjnjankjbiigaa", sum := "8cc778d50c6bf19936821f527d03440ca76dcc878f09af8c6972b72f1bab6f28", func := "larum/larumlaw21.PinBounds", spec := "pinBounds", unfollowed := true, recurses := true, apart := false }
def PinBoundsSaid : Prop := pinBoundsRow.holds Try.pinned (OpenSpec.ofChange pinBoundsSpec)

/-- ITS FALSE NEIGHBOUR: 'it returns false'. Refute it at one input. -/
def pinBoundsWrong : ChangeSpec := { name := "pinBounds", fn := fun _ => fun
  | [d1, d2] => { results := [.lit (.bool false)], args := [d1, d2] }
  | _ => none }
def PinBoundsWrongFalsely : Prop := pinBoundsRow.holds Try.pinned (OpenSpec.ofChange pinBoundsWrong)

/-- 'larumlaw21.PinNil': WHATEVER THE INPUT: true; the input reads as it did. -/
def pinNilSpec : ChangeSpec := { name := "pinNil", fn := fun _ => fun
  | [d1, d2] => { results := [.lit (.bool true)], args := [d1, d2] }
  | _ => none }
def pinNilRow : OpenClaim := { program := "ytjjnjankjbiigaa", sum := "8cc778d50c6bf19936821f527d03440ca76dcc878f09af8c6972b72f1bab6f28", func := "larum/larumlaw21.PinNil", spec := "pinNil", unfollowed := true, recurses := true, apart := false }
def PinNilSaid : Prop := pinNilRow.holds Try.pinned (OpenSpec.ofChange pinNilSpec)

/-- ITS FALSE NEIGHBOUR: 'it returns false'. Refute it at one input. -/
def pinNilWrong : ChangeSpec := { name := "pinNil", fn := fun _ => fun
  | [d1, d2] => { results := [.lit (.bool false)], args := [d1, d2] }
  | _ => none }
def PinNilWrongFalsely : Prop := pinNilRow.holds Try.pinned (OpenSpec.ofChange pinNilWrong)

/- THE SECOND FORM. 'bulk': how many values and letters a reading holds, each counted each time it is reached (what is shared counts as often as it is met; a slice's spare places count too). A statement '..UptoSaid' is the law's where the arguments, and the package variables that the reading takes, are together of bulk at most 1048576: NARROWER than '..Said'. Prove '..Said' where nothing that the law and all that it calls make is longer than what came in: it says more and counts as full. Else prove '..UptoSaid'. A law counts once. -/
mutual
def uptoBulk {H : Type} : DataW H → Nat
  | .lit (.string bytes) => bytes.length + 1
  | .lit _ => 1
  | .nil => 1
  | .ptr d => uptoBulk d + 1
  | .slice elems spare => uptoBulkAll elems + uptoBulkAll spare + 1
  | .agg parts => uptoBulkAll parts + 1
  | .iface _ d => uptoBulk d + 1
  | .map entries => uptoBulkEntries entries + 1
  | .held _ => 1
def uptoBulkAll {H : Type} : List (DataW H) → Nat
  | [] => 0
  | d :: r => uptoBulk d + uptoBulkAll r
def uptoBulkEntries {H : Type} : List (Lit × DataW H) → Nat
  | [] => 0
  | x :: r => uptoBulkEntry x + uptoBulkEntries r
def uptoBulkEntry {H : Type} : Lit × DataW H → Nat
  | (.string bytes, d) => bytes.length + uptoBulk d + 1
  | (_, d) => uptoBulk d + 1
 end
def uptoSmall : (H : Type) → List (DataW H) → Bool := fun _ ds => decide (uptoBulkAll ds ≤ 1048576)
def OpenSpec.upto (s : _root_.Go.ChangeSpec) : _root_.Go.OpenSpec := { _root_.Go.OpenSpec.ofChange s with cond := some uptoSmall }

/-- 'larumlaw21.PinPlays', WHERE WHAT IT READS IS OF BULK AT MOST 1048576: true; the input reads as it did. -/
def pinPlaysUptoRow : OpenClaim := { program := "ytjjnjankjbiigaa", sum := "8cc778d50c6bf19936821f527d03440ca76dcc878f09af8c6972b72f1bab6f28", func := "larum/larumlaw21.PinPlays", spec := "pinPlays", unfollowed := true, recurses := true, apart := false, narrowed := true }
def PinPlaysUptoSaid : Prop := pinPlaysUptoRow.holds Try.pinned (OpenSpec.upto pinPlaysSpec)

/-- 'larumlaw21.PinBounds', WHERE WHAT IT READS IS OF BULK AT MOST 1048576: true; the input reads as it did. -/
def pinBoundsUptoRow : OpenClaim := { program := "ytjjnjankjbiigaa", sum := "8cc778d50c6bf19936821f527d03440ca76dcc878f09af8c6972b72f1bab6f28", func := "larum/larumlaw21.PinBounds", spec := "pinBounds", unfollowed := true, recurses := true, apart := false, narrowed := true }
def PinBoundsUptoSaid : Prop := pinBoundsUptoRow.holds Try.pinned (OpenSpec.upto pinBoundsSpec)

/-- 'larumlaw21.PinNil', WHERE WHAT IT READS IS OF BULK AT MOST 1048576: true; the input reads as it did. -/
def pinNilUptoRow : OpenClaim := { program := "ytjjnjankjbiigaa", sum := "8cc778d50c6bf19936821f527d03440ca76dcc878f09af8c6972b72f1bab6f28", func := "larum/larumlaw21.PinNil", spec := "pinNil", unfollowed := true, recurses := true, apart := false, narrowed := true }
def PinNilUptoSaid : Prop := pinNilUptoRow.holds Try.pinned (OpenSpec.upto pinNilSpec)

end Rows
end Go.Proofs.Ytjjnjankjbiigaa
