/-
  NARROWER THAN 'FOR EVERY INPUT', by the rows' own cells (each row's printed sentence says how): UtfNext: laid · UtfPut: laid · UtfWalks: laid · UtfPairs: laid.
  DERIVED. THE GIVEN ROWS OF THIS SEAT. 4 by the template 'for every input the law returns true; each argument reads behind the call as it read before'; 0 by the template 'total and deterministic' (their statements: YthepijohllemdaaDoorTotals.lean).
  GIVEN WITH THE SEED: the statements are not yours to turn. If you find one false, say at which input.
  Laid BY PROGRAM, IN A SANDBOX (cutbox-rows.mjs): the forced cells as the released guide's own fill.sh prints them over the translation 0b235cefaf18ea71… (all of the seat's roots in one cut). By AI agents, Wed Nov 11 2026. No macro, syntax, notation, axiom, sorry.
-/
import Derived.Test.YthepijohllemdaaDoorChecked
import GoSem.Claim
import GoSem.ClaimJoined
import GoSem.ClaimMapViews
import Derived.JoinedTies
import Derived.KernelRfl
namespace Go.Proofs.YthepijohllemdaaDoor
/- THE CELL 'sum', in the pinned program and in every row, IS THE sha256 OF THE DUMP (.gsa) THAT YthepijohllemdaaDoorProg.lean LOADS. Nothing in Lean hashes anything: it is a label: what it is worth is what the hold of that sum in a sandbox is worth. -/
noncomputable def Tryd.pinned : Pinned := { name := "ythepijohllemdaadoor", sum := "0b235cefaf18ea718a5d4e7244f3d5e4b8d0e7422c986c3a8860886b60daed68", checked := Tryd.checked }
namespace Rows
def none {H : Type} : Left H := { results := [], args := [] }

/- WHAT THE LISTED PACKAGE-LEVEL VARIABLES READ AS WHEN THE CALL BEGINS. Each datum BY PROGRAM (the guide's laid-datum.mjs) off the statement by which the dump's own 'gosem.cut.vars' lays the variable. In a bare row this is a premise. The card (YthepijohllemdaaDoorCards.lean) ties it to the program's text. -/
def laid_larum_utf_firsts {H : Type} : DataW H := .agg [.agg [.lit (.int .u8 0), .lit (.int .u8 127), .lit (.int .i64 1), .lit (.int .u8 0), .lit (.int .u8 0)], .agg [.lit (.int .u8 194), .lit (.int .u8 223), .lit (.int .i64 2), .lit (.int .u8 128), .lit (.int .u8 191)], .agg [.lit (.int .u8 224), .lit (.int .u8 224), .lit (.int .i64 3), .lit (.int .u8 160), .lit (.int .u8 191)], .agg [.lit (.int .u8 225), .lit (.int .u8 236), .lit (.int .i64 3), .lit (.int .u8 128), .lit (.int .u8 191)], .agg [.lit (.int .u8 237), .lit (.int .u8 237), .lit (.int .i64 3), .lit (.int .u8 128), .lit (.int .u8 159)], .agg [.lit (.int .u8 238), .lit (.int .u8 239), .lit (.int .i64 3), .lit (.int .u8 128), .lit (.int .u8 191)], .agg [.lit (.int .u8 240), .lit (.int .u8 240), .lit (.int .i64 4), .lit (.int .u8 144), .lit (.int .u8 191)], .agg [.lit (.int .u8 241), .lit (.int .u8 243), .lit (.int .i64 4), .lit (.int .u8 128), .lit (.int .u8 191)], .agg [.lit (.int .u8 244), .lit (.int .u8 244), .lit (.int .i64 4), .lit (.int .u8 128), .lit (.int .u8 143)]]
def laid_larum_utf_leads {H : Type} : DataW H := .agg [.lit (.int .u8 0), .lit (.int .u8 0), .lit (.int .u8 192), .lit (.int .u8 224), .lit (.int .u8 240)]

/-- 'larumlaw02.UtfNext': WHATEVER THE INPUT: true; the input reads as it did. -/
def utfNextSpec : ChangeSpec := { name := "utfNext", fn := fun _ => fun
  | [d] => { results := [.lit (.bool true)], args := [d] }
  | _ => none }
def utfNextRow : OpenClaim := { program := "ythepijohllemdaadoor", sum := "0b235cefaf18ea718a5d4e7244f3d5e4b8d0e7422c986c3a8860886b60daed68", func := "larum/larumlaw02.UtfNext", spec := "utfNext", named := ["larum/utf.firsts", "larum/utf.leads"], apart := false, laid := [("larum/utf.firsts", laid_larum_utf_firsts), ("larum/utf.leads", laid_larum_utf_leads)] }
def UtfNextSaid : Prop := utfNextRow.holds Tryd.pinned (OpenSpec.ofChange utfNextSpec)

/-- ITS FALSE NEIGHBOUR: 'it returns false'. Refute it at one input. -/
def utfNextWrong : ChangeSpec := { name := "utfNext", fn := fun _ => fun
  | [d] => { results := [.lit (.bool false)], args := [d] }
  | _ => none }
def UtfNextWrongFalsely : Prop := utfNextRow.holds Tryd.pinned (OpenSpec.ofChange utfNextWrong)

/-- 'larumlaw02.UtfPut': WHATEVER THE INPUT: true; the input reads as it did. -/
def utfPutSpec : ChangeSpec := { name := "utfPut", fn := fun _ => fun
  | [d] => { results := [.lit (.bool true)], args := [d] }
  | _ => none }
def utfPutRow : OpenClaim := { program := "ythepijohllemdaadoor", sum := "0b235cefaf18ea718a5d4e7244f3d5e4b8d0e7422c986c3a8860886b60daed68", func := "larum/larumlaw02.UtfPut", spec := "utfPut", named := ["larum/utf.leads", "larum/utf.firsts"], apart := false, laid := [("larum/utf.firsts", laid_larum_utf_firsts), ("larum/utf.leads", laid_larum_utf_leads)] }
def UtfPutSaid : Prop := utfPutRow.holds Tryd.pinned (OpenSpec.ofChange utfPutSpec)

/-- ITS FALSE NEIGHBOUR: 'it returns false'. Refute it at one input. -/
def utfPutWrong : ChangeSpec := { name := "utfPut", fn := fun _ => fun
  | [d] => { results := [.lit (.bool false)], args := [d] }
  | _ => none }
def UtfPutWrongFalsely : Prop := utfPutRow.holds Tryd.pinned (OpenSpec.ofChange utfPutWrong)

/-- 'larumlaw02.UtfWalks': WHATEVER THE INPUT: true; the input reads as it did. -/
def utfWalksSpec : ChangeSpec := { name := "utfWalks", fn := fun _ => fun
  | [d] => { results := [.lit (.bool true)], args := [d] }
  | _ => none }
def utfWalksRow : OpenClaim := { program := "ythepijohllemdaadoor", sum := "0b235cefaf18ea718a5d4e7244f3d5e4b8d0e7422c986c3a8860886b60daed68", func := "larum/larumlaw02.UtfWalks", spec := "utfWalks", named := ["larum/utf.firsts", "larum/utf.leads"], apart := false, laid := [("larum/utf.firsts", laid_larum_utf_firsts), ("larum/utf.leads", laid_larum_utf_leads)] }
def UtfWalksSaid : Prop := utfWalksRow.holds Tryd.pinned (OpenSpec.ofChange utfWalksSpec)

/-- ITS FALSE NEIGHBOUR: 'it returns false'. Refute it at one input. -/
def utfWalksWrong : ChangeSpec := { name := "utfWalks", fn := fun _ => fun
  | [d] => { results := [.lit (.bool false)], args := [d] }
  | _ => none }
def UtfWalksWrongFalsely : Prop := utfWalksRow.holds Tryd.pinned (OpenSpec.ofChange utfWalksWrong)

/-- 'larumlaw02.UtfPairs': WHATEVER THE INPUT: true; the input reads as it did. -/
def utfPairsSpec : ChangeSpec := { name := "utfPairs", fn := fun _ => fun
  | [d1, d2, d3] => { results := [.lit (.bool true)], args := [d1, d2, d3] }
  | _ => none }
def utfPairsRow : OpenClaim := { program := "ythepijohllemdaadoor", sum := "0b235cefaf18ea718a5d4e7244f3d5e4b8d0e7422c986c3a8860886b60daed68", func := "larum/larumlaw02.UtfPairs", spec := "utfPairs", named := ["larum/utf.firsts", "larum/utf.leads"], apart := false, laid := [("larum/utf.firsts", laid_larum_utf_firsts), ("larum/utf.leads", laid_larum_utf_leads)] }
def UtfPairsSaid : Prop := utfPairsRow.holds Tryd.pinned (OpenSpec.ofChange utfPairsSpec)

/-- ITS FALSE NEIGHBOUR: 'it returns false'. Refute it at one input. -/
def utfPairsWrong : ChangeSpec := { name := "utfPairs", fn := fun _ => fun
  | [d1, d2, d3] => { results := [.lit (.bool false)], args := [d1, d2, d3] }
  | _ => none }
def UtfPairsWrongFalsely : Prop := utfPairsRow.holds Tryd.pinned (OpenSpec.ofChange utfPairsWrong)

/- THE SECOND FORM. 'bulk': how many values and letters a reading holds, each counted each time it is reached (what is shared counts as often as it is met; a slice's spare places count too). A statement '..UptoSaid' is the law's where the arguments, and the package variables that the reading takes, are together of bulk at most 1048576: NARROWER than '..Said'. Prove '..Said' where nothing that the law and all that it calls make is longer than what came in: it says more and counts as full. Else prove '..UptoSaid'. A law counts once. -/
mutual
def uptoBulk {H : Type} : DataW H → Nat
  | .lit (.string bytes) => bytes.length + 1
  | .lit _ => 1
  | .nil => 1
  | .ptr d => uptoBulk d + 1
  | .slice elems spare => uptoBulkAll elems + uptoBulkAll spare + 1
  | .agg parts => uptoBulkAll parts + 1
  | .iface _ d => uptoBulk d + 1
  | .map entries => uptoBulkEntries entries + 1
  | .held _ => 1
def uptoBulkAll {H : Type} : List (DataW H) → Nat
  | [] => 0
  | d :: r => uptoBulk d + uptoBulkAll r
def uptoBulkEntries {H : Type} : List (Lit × DataW H) → Nat
  | [] => 0
  | x :: r => uptoBulkEntry x + uptoBulkEntries r
def uptoBulkEntry {H : Type} : Lit × DataW H → Nat
  | (.string bytes, d) => bytes.length + uptoBulk d + 1
  | (_, d) => uptoBulk d + 1
 end
def uptoSmall : (H : Type) → List (DataW H) → Bool := fun _ ds => decide (uptoBulkAll ds ≤ 1048576)
def OpenSpec.upto (s : _root_.Go.ChangeSpec) : _root_.Go.OpenSpec := { _root_.Go.OpenSpec.ofChange s with cond := some uptoSmall }

/-- 'larumlaw02.UtfNext', WHERE WHAT IT READS IS OF BULK AT MOST 1048576: true; the input reads as it did. -/
def utfNextUptoRow : OpenClaim := { program := "ythepijohllemdaadoor", sum := "0b235cefaf18ea718a5d4e7244f3d5e4b8d0e7422c986c3a8860886b60daed68", func := "larum/larumlaw02.UtfNext", spec := "utfNext", named := ["larum/utf.firsts", "larum/utf.leads"], apart := false, laid := [("larum/utf.firsts", laid_larum_utf_firsts), ("larum/utf.leads", laid_larum_utf_leads)], narrowed := true }
def UtfNextUptoSaid : Prop := utfNextUptoRow.holds Tryd.pinned (OpenSpec.upto utfNextSpec)

/-- 'larumlaw02.UtfPut', WHERE WHAT IT READS IS OF BULK AT MOST 1048576: true; the input reads as it did. -/
def utfPutUptoRow : OpenClaim := { program := "ythepijohllemdaadoor", sum := "0b235cefaf18ea718a5d4e7244f3d5e4b8d0e7422c986c3a8860886b60daed68", func := "larum/larumlaw02.UtfPut", spec := "utfPut", named := ["larum/utf.leads", "larum/utf.firsts"], apart := false, laid := [("larum/utf.firsts", laid_larum_utf_firsts), ("larum/utf.leads", laid_larum_utf_leads)], narrowed := true }
def UtfPutUptoSaid : Prop := utfPutUptoRow.holds Tryd.pinned (OpenSpec.upto utfPutSpec)

/-- 'larumlaw02.UtfWalks', WHERE WHAT IT READS IS OF BULK AT MOST 1048576: true; the input reads as it did. -/
def utfWalksUptoRow : OpenClaim := { program := "ythepijohllemdaadoor", sum := "0b235cefaf18ea718a5d4e7244f3d5e4b8d0e7422c986c3a8860886b60daed68", func := "larum/larumlaw02.UtfWalks", spec := "utfWalks", named := ["larum/utf.firsts", "larum/utf.leads"], apart := false, laid := [("larum/utf.firsts", laid_larum_utf_firsts), ("larum/utf.leads", laid_larum_utf_leads)], narrowed := true }
def UtfWalksUptoSaid : Prop := utfWalksUptoRow.holds Tryd.pinned (OpenSpec.upto utfWalksSpec)

/-- 'larumlaw02.UtfPairs', WHERE WHAT IT READS IS OF BULK AT MOST 1048576: true; the input reads as it did. -/
def utfPairsUptoRow : OpenClaim := { program := "ythepijohllemdaadoor", sum := "0b235cefaf18ea718a5d4e7244f3d5e4b8d0e7422c986c3a8860886b60daed68", func := "larum/larumlaw02.UtfPairs", spec := "utfPairs", named := ["larum/utf.firsts", "larum/utf.leads"], apart := false, laid := [("larum/utf.firsts", laid_larum_utf_firsts), ("larum/utf.leads", laid_larum_utf_leads)], narrowed := true }
def UtfPairsUptoSaid : Prop := utfPairsUptoRow.holds Tryd.pinned (OpenSpec.upto utfPairsSpec)

end Rows
end Go.Proofs.YthepijohllemdaaDoor
