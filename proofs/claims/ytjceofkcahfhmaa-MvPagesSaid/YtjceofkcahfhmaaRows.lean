/-
  No cell of these rows narrows 'for every input' (looked for: loops, veiled, ifaces, maps, wideKeys, modest, calm, conditions, laid).
  DERIVED. THE GIVEN ROWS OF THIS SEAT. 3 by the template 'for every input the law returns true; each argument reads behind the call as it read before'; 0 by the template 'total and deterministic' (their statements: YtjceofkcahfhmaaTotals.lean).
  GIVEN WITH THE SEED: the statements are not yours to turn. If you find one false, say at which input.
  Laid BY PROGRAM, IN A SANDBOX (cutbox-rows.mjs): the forced cells as the released guide's own fill.sh prints them over the translation defb78413c72b767… (all of the seat's roots in one cut). By AI agents, Wed Nov 11 2026. No macro, syntax, notation, axiom, sorry.
-/
import Derived.Test.YtjceofkcahfhmaaChecked
import GoSem.Claim
import GoSem.ClaimJoined
import GoSem.ClaimMapViews
import Derived.JoinedTies
import Derived.KernelRfl
namespace Go.Proofs.Ytjceofkcahfhmaa
/- THE CELL 'sum', in the pinned program and in every row, IS THE sha256 OF THE DUMP (.gsa) THAT YtjceofkcahfhmaaProg.lean LOADS. Nothing in Lean hashes anything: it is a label: what it is worth is what the hold of that sum in a sandbox is worth. -/
noncomputable def Try.pinned : Pinned := { name := "ytjceofkcahfhmaa", sum := "defb78413c72b767272b6d41250995b4c7c038ae0257d05523501395dcd47949", checked := Try.checked }
namespace Rows
def none {H : Type} : Left H := { results := [], args := [] }

/-- 'larumlaw19.MvPlays': WHATEVER THE INPUT: true; the input reads as it did. -/
def mvPlaysSpec : ChangeSpec := { name := "mvPlays", fn := fun _ => fun
  | [d1, d2, d3] => { results := [.lit (.bool true)], args := [d1, d2, d3] }
  | _ => none }
def mvPlaysRow : OpenClaim := { program := "ytjceofkcahfhmaa", sum := "defb78413c72b767272b6d41250995b4c7c038ae0257d05523501395dcd47949", func := "larum/larumlaw19.MvPlays", spec := "mvPlays", unfollowed := true, recurses := true, apart := false }
def MvPlaysSaid : Prop := mvPlaysRow.holds Try.pinned (OpenSpec.ofChange mvPlaysSpec)

/-- ITS FALSE NEIGHBOUR: 'it returns false'. Refute it at one input. -/
def mvPlaysWrong : ChangeSpec := { name := "mvPlays", fn := fun _ => fun
  | [d1, d2, d3] => { results := [.lit (.bool false)], args := [d1, d2, d3] }
  | _ => none }
def MvPlaysWrongFalsely : Prop := mvPlaysRow.holds Try.pinned (OpenSpec.ofChange mvPlaysWrong)

/-- 'larumlaw19.MvPages': WHATEVER THE INPUT: true; the input reads as it did. -/
def mvPagesSpec : ChangeSpec := { name := "mvPages", fn := fun _ => fun
  | [d1, d2, d3] => { results := [.lit (.bool true)], args := [d1, d2, d3] }
  | _ => none }
def mvPagesRow : OpenClaim := { program := "ytjceofkcahfhmaa", sum := "defb78413c72b767272b6d41250995b4c7c038ae0257d05523501395dcd47949", func := "larum/larumlaw19.MvPages", spec := "mvPages", unfollowed := true, recurses := true, apart := false }
def MvPagesSaid : Prop := mvPagesRow.holds Try.pinned (OpenSpec.ofChange mvPagesSpec)

/-- ITS FALSE NEIGHBOUR: 'it returns false'. Refute it at one input. -/
def mvPagesWrong : ChangeSpec := { name := "mvPages", fn := fun _ => fun
  | [d1, d2, d3] => { results := [.lit (.bool false)], args := [d1, d2, d3] }
  | _ => none }
def MvPagesWrongFalsely : Prop := mvPagesRow.holds Try.pinned (OpenSpec.ofChange mvPagesWrong)

/-- 'larumlaw19.MvKeeps': WHATEVER THE INPUT: true; the input reads as it did. -/
def mvKeepsSpec : ChangeSpec := { name := "mvKeeps", fn := fun _ => fun
  | [d1, d2, d3] => { results := [.lit (.bool true)], args := [d1, d2, d3] }
  | _ => none }
def mvKeepsRow : OpenClaim := { program := "ytjceofkcahfhmaa", sum := "defb78413c72b767272b6d41250995b4c7c038ae0257d05523501395dcd47949", func := "larum/larumlaw19.MvKeeps", spec := "mvKeeps", unfollowed := true, recurses := true, apart := false }
def MvKeepsSaid : Prop := mvKeepsRow.holds Try.pinned (OpenSpec.ofChange mvKeepsSpec)

/-- ITS FALSE NEIGHBOUR: 'it returns false'. Refute it at one input. -/
def mvKeepsWrong : ChangeSpec := { name := "mvKeeps", fn := fun _ => fun
  | [d1, d2, d3] => { results := [.lit (.bool false)], args := [d1, d2, d3] }
  | _ => none }
def MvKeepsWrongFalsely : Prop := mvKeepsRow.holds Try.pinned (OpenSpec.ofChange mvKeepsWrong)

/- THE SECOND FORM. 'bulk': how many values and letters a reading holds, each counted each time it is reached (what is shared counts as often as it is met; a slice's spare places count too). A statement '..UptoSaid' is the law's where the arguments, and the package variables that the reading takes, are together of bulk at most 1048576: NARROWER than '..Said'. Prove '..Said' where nothing that the law and all that it calls make is longer than what came in: it says more and counts as full. Else prove '..UptoSaid'. A law counts once. -/
mutual
def uptoBulk {H : Type} : DataW H → Nat
  | .lit (.string bytes) => bytes.length + 1
  | .lit _ => 1
  | .nil => 1
  | .ptr d => uptoBulk d + 1
  | .slice elems spare => uptoBulkAll elems + uptoBulkAll spare + 1
  | .agg parts => uptoBulkAll parts + 1
  | .iface _ d => uptoBulk d + 1
  | .map entries => uptoBulkEntries entries + 1
  | .held _ => 1
def uptoBulkAll {H : Type} : List (DataW H) → Nat
  | [] => 0
  | d :: r => uptoBulk d + uptoBulkAll r
def uptoBulkEntries {H : Type} : List (Lit × DataW H) → Nat
  | [] => 0
  | x :: r => uptoBulkEntry x + uptoBulkEntries r
def uptoBulkEntry {H : Type} : Lit × DataW H → Nat
  | (.string bytes, d) => bytes.length + uptoBulk d + 1
  | (_, d) => uptoBulk d + 1
 end
def uptoSmall : (H : Type) → List (DataW H) → Bool := fun _ ds => decide (uptoBulkAll ds ≤ 1048576)
def OpenSpec.upto (s : _root_.Go.ChangeSpec) : _root_.Go.OpenSpec := { _root_.Go.OpenSpec.ofChange s with cond := some uptoSmall }

/-- 'larumlaw19.MvPlays', WHERE WHAT IT READS IS OF BULK AT MOST 1048576: true; the input reads as it did. -/
def mvPlaysUptoRow : OpenClaim := { program := "ytjceofkcahfhmaa", sum := "defb78413c72b767272b6d41250995b4c7c038ae0257d05523501395dcd47949", func := "larum/larumlaw19.MvPlays", spec := "mvPlays", unfollowed := true, recurses := true, apart := false, narrowed := true }
def MvPlaysUptoSaid : Prop := mvPlaysUptoRow.holds Try.pinned (OpenSpec.upto mvPlaysSpec)

/-- 'larumlaw19.MvPages', WHERE WHAT IT READS IS OF BULK AT MOST 1048576: true; the input reads as it did. -/
def mvPagesUptoRow : OpenClaim := { program := "ytjceofkcahfhmaa", sum := "defb78413c72b767272b6d41250995b4c7c038ae0257d05523501395dcd47949", func := "larum/larumlaw19.MvPages", spec := "mvPages", unfollowed := true, recurses := true, apart := false, narrowed := true }
def MvPagesUptoSaid : Prop := mvPagesUptoRow.holds Try.pinned (OpenSpec.upto mvPagesSpec)

/-- 'larumlaw19.MvKeeps', WHERE WHAT IT READS IS OF BULK AT MOST 1048576: true; the input reads as it did. -/
def mvKeepsUptoRow : OpenClaim := { program := "ytjceofkcahfhmaa", sum := "defb78413c72b767272b6d41250995b4c7c038ae0257d05523501395dcd47949", func := "larum/larumlaw19.MvKeeps", spec := "mvKeeps", unfollowed := true, recurses := true, apart := false, narrowed := true }
def MvKeepsUptoSaid : Prop := mvKeepsUptoRow.holds Try.pinned (OpenSpec.upto mvKeepsSpec)

end Rows
end Go.Proofs.Ytjceofkcahfhmaa
