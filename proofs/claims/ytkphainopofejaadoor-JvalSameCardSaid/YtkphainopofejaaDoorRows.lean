/-
  NARROWER THAN 'FOR EVERY INPUT', by the rows' own cells (each row's printed sentence says how): JvalShape: laid · JvalSame: loops, laid · JvalMakes: laid · JvalBlanks: laid.
  DERIVED. THE GIVEN ROWS OF THIS SEAT. 4 by the template 'for every input the law returns true; each argument reads behind the call as it read before'; 0 by the template 'total and deterministic' (their statements: YtkphainopofejaaDoorTotals.lean).
  GIVEN WITH THE SEED: the statements are not yours to turn. If you find one false, say at which input.
  Laid BY PROGRAM, IN A SANDBOX (cutbox-rows.mjs): the forced cells as the released guide's own fill.sh prints them over the translation f3fcbb6b28eed0cd… (all of the seat's roots in one cut). By AI agents, Wed Nov 11 2026. No macro, syntax, notation, axiom, sorry.
-/
import Derived.Test.YtkphainopofejaaDoorChecked
import GoSem.Claim
import GoSem.ClaimJoined
import GoSem.ClaimMapViews
import Derived.JoinedTies
import Derived.KernelRfl
namespace Go.Proofs.YtkphainopofejaaDoor
/- THE CELL 'sum', in the pinned program and in every row, IS THE sha256 OF THE DUMP (.gsa) THAT YtkphainopofejaaDoorProg.lean LOADS. Nothing in Lean hashes anything: it is a label: what it is worth is what the hold of that sum in a sandbox is worth. -/
noncomputable def Tryd.pinned : Pinned := { name := "ytkphainopofejaadoor", sum := "f3fcbb6b28eed0cddf5e65a8a30644f3eb7f9012c798c8d5893f3c76b1b3afe1", checked := Tryd.checked }
namespace Rows
def none {H : Type} : Left H := { results := [], args := [] }

/- WHAT THE LISTED PACKAGE-LEVEL VARIABLES READ AS WHEN THE CALL BEGINS. Each datum BY PROGRAM (the guide's laid-datum.mjs) off the statement by which the dump's own 'gosem.cut.vars' lays the variable. In a bare row this is a premise. The card (YtkphainopofejaaDoorCards.lean) ties it to the program's text. -/
def laid_larum_utf_firsts {H : Type} : DataW H := .agg [.agg [.lit (.int .u8 0), .lit (.int .u8 127), .lit (.int .i64 1), .lit (.int .u8 0), .lit (.int .u8 0)], .agg [.lit (.int .u8 194), .lit (.int .u8 223), .lit (.int .i64 2), .lit (.int .u8 128), .lit (.int .u8 191)], .agg [.lit (.int .u8 224), .lit (.int .u8 224), .lit (.int .i64 3), .lit (.int .u8 160), .lit (.int .u8 191)], .agg [.lit (.int .u8 225), .lit (.int .u8 236), .lit (.int .i64 3), .lit (.int .u8 128), .lit (.int .u8 191)], .agg [.lit (.int .u8 237), .lit (.int .u8 237), .lit (.int .i64 3), .lit (.int .u8 128), .lit (.int .u8 159)], .agg [.lit (.int .u8 238), .lit (.int .u8 239), .lit (.int .i64 3), .lit (.int .u8 128), .lit (.int .u8 191)], .agg [.lit (.int .u8 240), .lit (.int .u8 240), .lit (.int .i64 4), .lit (.int .u8 144), .lit (.int .u8 191)], .agg [.lit (.int .u8 241), .lit (.int .u8 243), .lit (.int .i64 4), .lit (.int .u8 128), .lit (.int .u8 191)], .agg [.lit (.int .u8 244), .lit (.int .u8 244), .lit (.int .i64 4), .lit (.int .u8 128), .lit (.int .u8 143)]]
def laid_larum_utf_leads {H : Type} : DataW H := .agg [.lit (.int .u8 0), .lit (.int .u8 0), .lit (.int .u8 192), .lit (.int .u8 224), .lit (.int .u8 240)]
def laid_errors_errorType {H : Type} : DataW H := .iface "internal/reflectlite.rtype" (.agg [.ptr (.lit (.string [101, 114, 114, 111, 114]))])

/-- 'larumlaw06.JvalShape': WHATEVER THE INPUT: true; the input reads as it did. -/
def jvalShapeSpec : ChangeSpec := { name := "jvalShape", fn := fun _ => fun
  | [d1, d2] => { results := [.lit (.bool true)], args := [d1, d2] }
  | _ => none }
def jvalShapeRow : OpenClaim := { program := "ytkphainopofejaadoor", sum := "f3fcbb6b28eed0cddf5e65a8a30644f3eb7f9012c798c8d5893f3c76b1b3afe1", func := "larum/larumlaw06.JvalShape", spec := "jvalShape", inPlace := ["internal/bytealg.IndexByteString", "internal/abi.NoEscape", "internal/reflectlite.ValueOf", "(internal/reflectlite.Value).Type", "(internal/reflectlite.Value).IsNil", "internal/reflectlite.TypeOf", "(internal/reflectlite.Value).Elem", "(internal/reflectlite.Value).Set"], unfollowed := true, recurses := true, named := ["larum/utf.leads", "larum/utf.firsts", "errors.errorType"], apart := false, laid := [("larum/utf.firsts", laid_larum_utf_firsts), ("larum/utf.leads", laid_larum_utf_leads), ("errors.errorType", laid_errors_errorType)] }
def JvalShapeSaid : Prop := jvalShapeRow.holds Tryd.pinned (OpenSpec.ofChange jvalShapeSpec)

/-- ITS FALSE NEIGHBOUR: 'it returns false'. Refute it at one input. -/
def jvalShapeWrong : ChangeSpec := { name := "jvalShape", fn := fun _ => fun
  | [d1, d2] => { results := [.lit (.bool false)], args := [d1, d2] }
  | _ => none }
def JvalShapeWrongFalsely : Prop := jvalShapeRow.holds Tryd.pinned (OpenSpec.ofChange jvalShapeWrong)

/-- 'larumlaw06.JvalSame': WHATEVER THE INPUT: true; the input reads as it did. -/
def jvalSameSpec : ChangeSpec := { name := "jvalSame", fn := fun _ => fun
  | [d1, d2] => { results := [.lit (.bool true)], args := [d1, d2] }
  | _ => none }
def jvalSameRow : OpenClaim := { program := "ytkphainopofejaadoor", sum := "f3fcbb6b28eed0cddf5e65a8a30644f3eb7f9012c798c8d5893f3c76b1b3afe1", func := "larum/larumlaw06.JvalSame", spec := "jvalSame", inPlace := ["internal/bytealg.IndexByteString", "internal/abi.NoEscape", "internal/reflectlite.ValueOf", "(internal/reflectlite.Value).Type", "(internal/reflectlite.Value).IsNil", "internal/reflectlite.TypeOf", "(internal/reflectlite.Value).Elem", "(internal/reflectlite.Value).Set"], unfollowed := true, recurses := true, named := ["larum/utf.leads", "larum/utf.firsts", "errors.errorType"], loops := true, apart := false, laid := [("larum/utf.firsts", laid_larum_utf_firsts), ("larum/utf.leads", laid_larum_utf_leads), ("errors.errorType", laid_errors_errorType)] }
def JvalSameSaid : Prop := jvalSameRow.holds Tryd.pinned (OpenSpec.ofChange jvalSameSpec)

/-- ITS FALSE NEIGHBOUR: 'it returns false'. Refute it at one input. -/
def jvalSameWrong : ChangeSpec := { name := "jvalSame", fn := fun _ => fun
  | [d1, d2] => { results := [.lit (.bool false)], args := [d1, d2] }
  | _ => none }
def JvalSameWrongFalsely : Prop := jvalSameRow.holds Tryd.pinned (OpenSpec.ofChange jvalSameWrong)

/-- 'larumlaw06.JvalMakes': WHATEVER THE INPUT: true; the input reads as it did. -/
def jvalMakesSpec : ChangeSpec := { name := "jvalMakes", fn := fun _ => fun
  | [d1, d2, d3] => { results := [.lit (.bool true)], args := [d1, d2, d3] }
  | _ => none }
def jvalMakesRow : OpenClaim := { program := "ytkphainopofejaadoor", sum := "f3fcbb6b28eed0cddf5e65a8a30644f3eb7f9012c798c8d5893f3c76b1b3afe1", func := "larum/larumlaw06.JvalMakes", spec := "jvalMakes", inPlace := ["internal/bytealg.IndexByteString", "internal/abi.NoEscape", "internal/reflectlite.ValueOf", "(internal/reflectlite.Value).Type", "(internal/reflectlite.Value).IsNil", "internal/reflectlite.TypeOf", "(internal/reflectlite.Value).Elem", "(internal/reflectlite.Value).Set"], unfollowed := true, recurses := true, named := ["larum/utf.leads", "larum/utf.firsts", "errors.errorType"], apart := false, laid := [("larum/utf.firsts", laid_larum_utf_firsts), ("larum/utf.leads", laid_larum_utf_leads), ("errors.errorType", laid_errors_errorType)] }
def JvalMakesSaid : Prop := jvalMakesRow.holds Tryd.pinned (OpenSpec.ofChange jvalMakesSpec)

/-- ITS FALSE NEIGHBOUR: 'it returns false'. Refute it at one input. -/
def jvalMakesWrong : ChangeSpec := { name := "jvalMakes", fn := fun _ => fun
  | [d1, d2, d3] => { results := [.lit (.bool false)], args := [d1, d2, d3] }
  | _ => none }
def JvalMakesWrongFalsely : Prop := jvalMakesRow.holds Tryd.pinned (OpenSpec.ofChange jvalMakesWrong)

/-- 'larumlaw06.JvalBlanks': WHATEVER THE INPUT: true; the input reads as it did. -/
def jvalBlanksSpec : ChangeSpec := { name := "jvalBlanks", fn := fun _ => fun
  | [d1, d2] => { results := [.lit (.bool true)], args := [d1, d2] }
  | _ => none }
def jvalBlanksRow : OpenClaim := { program := "ytkphainopofejaadoor", sum := "f3fcbb6b28eed0cddf5e65a8a30644f3eb7f9012c798c8d5893f3c76b1b3afe1", func := "larum/larumlaw06.JvalBlanks", spec := "jvalBlanks", inPlace := ["internal/bytealg.IndexByteString", "internal/abi.NoEscape", "internal/reflectlite.ValueOf", "(internal/reflectlite.Value).Type", "(internal/reflectlite.Value).IsNil", "internal/reflectlite.TypeOf", "(internal/reflectlite.Value).Elem", "(internal/reflectlite.Value).Set"], unfollowed := true, recurses := true, named := ["larum/utf.leads", "larum/utf.firsts", "errors.errorType"], apart := false, laid := [("larum/utf.firsts", laid_larum_utf_firsts), ("larum/utf.leads", laid_larum_utf_leads), ("errors.errorType", laid_errors_errorType)] }
def JvalBlanksSaid : Prop := jvalBlanksRow.holds Tryd.pinned (OpenSpec.ofChange jvalBlanksSpec)

/-- ITS FALSE NEIGHBOUR: 'it returns false'. Refute it at one input. -/
def jvalBlanksWrong : ChangeSpec := { name := "jvalBlanks", fn := fun _ => fun
  | [d1, d2] => { results := [.lit (.bool false)], args := [d1, d2] }
  | _ => none }
def JvalBlanksWrongFalsely : Prop := jvalBlanksRow.holds Tryd.pinned (OpenSpec.ofChange jvalBlanksWrong)

/- THE SECOND FORM. 'bulk': how many values and letters a reading holds, each counted each time it is reached (what is shared counts as often as it is met; a slice's spare places count too). A statement '..UptoSaid' is the law's where the arguments, and the package variables that the reading takes, are together of bulk at most 1048576: NARROWER than '..Said'. Prove '..Said' where nothing that the law and all that it calls make is longer than what came in: it says more and counts as full. Else prove '..UptoSaid'. A law counts once. -/
mutual
def uptoBulk {H : Type} : DataW H → Nat
  | .lit (.string bytes) => bytes.length + 1
  | .lit _ => 1
  | .nil => 1
  | .ptr d => uptoBulk d + 1
  | .slice elems spare => uptoBulkAll elems + uptoBulkAll spare + 1
  | .agg parts => uptoBulkAll parts + 1
  | .iface _ d => uptoBulk d + 1
  | .map entries => uptoBulkEntries entries + 1
  | .held _ => 1
def uptoBulkAll {H : Type} : List (DataW H) → Nat
  | [] => 0
  | d :: r => uptoBulk d + uptoBulkAll r
def uptoBulkEntries {H : Type} : List (Lit × DataW H) → Nat
  | [] => 0
  | x :: r => uptoBulkEntry x + uptoBulkEntries r
def uptoBulkEntry {H : Type} : Lit × DataW H → Nat
  | (.string bytes, d) => bytes.length + uptoBulk d + 1
  | (_, d) => uptoBulk d + 1
 end
def uptoSmall : (H : Type) → List (DataW H) → Bool := fun _ ds => decide (uptoBulkAll ds ≤ 1048576)
def OpenSpec.upto (s : _root_.Go.ChangeSpec) : _root_.Go.OpenSpec := { _root_.Go.OpenSpec.ofChange s with cond := some uptoSmall }

/-- 'larumlaw06.JvalShape', WHERE WHAT IT READS IS OF BULK AT MOST 1048576: true; the input reads as it did. -/
def jvalShapeUptoRow : OpenClaim := { program := "ytkphainopofejaadoor", sum := "f3fcbb6b28eed0cddf5e65a8a30644f3eb7f9012c798c8d5893f3c76b1b3afe1", func := "larum/larumlaw06.JvalShape", spec := "jvalShape", inPlace := ["internal/bytealg.IndexByteString", "internal/abi.NoEscape", "internal/reflectlite.ValueOf", "(internal/reflectlite.Value).Type", "(internal/reflectlite.Value).IsNil", "internal/reflectlite.TypeOf", "(internal/reflectlite.Value).Elem", "(internal/reflectlite.Value).Set"], unfollowed := true, recurses := true, named := ["larum/utf.leads", "larum/utf.firsts", "errors.errorType"], apart := false, laid := [("larum/utf.firsts", laid_larum_utf_firsts), ("larum/utf.leads", laid_larum_utf_leads), ("errors.errorType", laid_errors_errorType)], narrowed := true }
def JvalShapeUptoSaid : Prop := jvalShapeUptoRow.holds Tryd.pinned (OpenSpec.upto jvalShapeSpec)

/-- 'larumlaw06.JvalSame', WHERE WHAT IT READS IS OF BULK AT MOST 1048576: true; the input reads as it did. -/
def jvalSameUptoRow : OpenClaim := { program := "ytkphainopofejaadoor", sum := "f3fcbb6b28eed0cddf5e65a8a30644f3eb7f9012c798c8d5893f3c76b1b3afe1", func := "larum/larumlaw06.JvalSame", spec := "jvalSame", inPlace := ["internal/bytealg.IndexByteString", "internal/abi.NoEscape", "internal/reflectlite.ValueOf", "(internal/reflectlite.Value).Type", "(internal/reflectlite.Value).IsNil", "internal/reflectlite.TypeOf", "(internal/reflectlite.Value).Elem", "(internal/reflectlite.Value).Set"], unfollowed := true, recurses := true, named := ["larum/utf.leads", "larum/utf.firsts", "errors.errorType"], loops := true, apart := false, laid := [("larum/utf.firsts", laid_larum_utf_firsts), ("larum/utf.leads", laid_larum_utf_leads), ("errors.errorType", laid_errors_errorType)], narrowed := true }
def JvalSameUptoSaid : Prop := jvalSameUptoRow.holds Tryd.pinned (OpenSpec.upto jvalSameSpec)

/-- 'larumlaw06.JvalMakes', WHERE WHAT IT READS IS OF BULK AT MOST 1048576: true; the input reads as it did. -/
def jvalMakesUptoRow : OpenClaim := { program := "ytkphainopofejaadoor", sum := "f3fcbb6b28eed0cddf5e65a8a30644f3eb7f9012c798c8d5893f3c76b1b3afe1", func := "larum/larumlaw06.JvalMakes", spec := "jvalMakes", inPlace := ["internal/bytealg.IndexByteString", "internal/abi.NoEscape", "internal/reflectlite.ValueOf", "(internal/reflectlite.Value).Type", "(internal/reflectlite.Value).IsNil", "internal/reflectlite.TypeOf", "(internal/reflectlite.Value).Elem", "(internal/reflectlite.Value).Set"], unfollowed := true, recurses := true, named := ["larum/utf.leads", "larum/utf.firsts", "errors.errorType"], apart := false, laid := [("larum/utf.firsts", laid_larum_utf_firsts), ("larum/utf.leads", laid_larum_utf_leads), ("errors.errorType", laid_errors_errorType)], narrowed := true }
def JvalMakesUptoSaid : Prop := jvalMakesUptoRow.holds Tryd.pinned (OpenSpec.upto jvalMakesSpec)

/-- 'larumlaw06.JvalBlanks', WHERE WHAT IT READS IS OF BULK AT MOST 1048576: true; the input reads as it did. -/
def jvalBlanksUptoRow : OpenClaim := { program := "ytkphainopofejaadoor", sum := "f3fcbb6b28eed0cddf5e65a8a30644f3eb7f9012c798c8d5893f3c76b1b3afe1", func := "larum/larumlaw06.JvalBlanks", spec := "jvalBlanks", inPlace := ["internal/bytealg.IndexByteString", "internal/abi.NoEscape", "internal/reflectlite.ValueOf", "(internal/reflectlite.Value).Type", "(internal/reflectlite.Value).IsNil", "internal/reflectlite.TypeOf", "(internal/reflectlite.Value).Elem", "(internal/reflectlite.Value).Set"], unfollowed := true, recurses := true, named := ["larum/utf.leads", "larum/utf.firsts", "errors.errorType"], apart := false, laid := [("larum/utf.firsts", laid_larum_utf_firsts), ("larum/utf.leads", laid_larum_utf_leads), ("errors.errorType", laid_errors_errorType)], narrowed := true }
def JvalBlanksUptoSaid : Prop := jvalBlanksUptoRow.holds Tryd.pinned (OpenSpec.upto jvalBlanksSpec)

end Rows
end Go.Proofs.YtkphainopofejaaDoor
