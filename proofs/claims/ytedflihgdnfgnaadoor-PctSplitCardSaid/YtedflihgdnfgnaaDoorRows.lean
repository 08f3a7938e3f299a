/-
  NARROWER THAN 'FOR EVERY INPUT', by the rows' own cells (each row's printed sentence says how): PctDecode: laid · PctEncode: laid · PctSplit: laid · PctTarget: laid.
  DERIVED. THE GIVEN ROWS OF THIS SEAT. 4 by the template 'for every input the law returns true; each argument reads behind the call as it read before'; 0 by the template 'total and deterministic' (their statements: YtedflihgdnfgnaaDoorTotals.lean).
  GIVEN WITH THE SEED: the statements are not yours to turn. If you find one false, say at which input.
  Laid BY PROGRAM, IN A SANDBOX (cutbox-rows.mjs): the forced cells as the released guide's own fill.sh prints them over the translation f6873fd99990b498… (all of the seat's roots in one cut). By AI agents, Wed Nov 11 2026. No macro, syntax, notation, axiom, sorry.
-/
import Derived.Test.YtedflihgdnfgnaaDoorChecked
import GoSem.PinnedTables
import GoSem.Claim
import GoSem.ClaimJoined
import GoSem.ClaimMapViews
import Derived.JoinedTies
import Derived.KernelRfl
namespace Go.Proofs.YtedflihgdnfgnaaDoor
/- THE CELL 'sum', in the pinned program and in every row, IS THE sha256 OF THE DUMP (.gsa) THAT YtedflihgdnfgnaaDoorProg.lean LOADS. Nothing in Lean hashes anything: it is a label: what it is worth is what the hold of that sum in a sandbox is worth. -/
noncomputable def Tryd.pinned : Pinned := { name := "ytedflihgdnfgnaadoor", sum := "f6873fd99990b4982bb3425ee5fe236ba4d7b2ae1d93e072bb16e259bb5ca628", checked := Tryd.checked }
namespace Rows
def none {H : Type} : Left H := { results := [], args := [] }

/- WHAT THE LISTED PACKAGE-LEVEL VARIABLES READ AS WHEN THE CALL BEGINS. Each datum BY PROGRAM (the guide's laid-datum.mjs) off the statement by which the dump's own 'gosem.cut.vars' lays the variable. In a bare row this is a premise. The card (YtedflihgdnfgnaaDoorCards.lean) ties it to the program's text. -/
def laid_unicode_utf8_acceptRanges {H : Type} : DataW H := .agg [.agg [.lit (.int .u8 128), .lit (.int .u8 191)], .agg [.lit (.int .u8 160), .lit (.int .u8 191)], .agg [.lit (.int .u8 128), .lit (.int .u8 159)], .agg [.lit (.int .u8 144), .lit (.int .u8 191)], .agg [.lit (.int .u8 128), .lit (.int .u8 143)], .agg [.lit (.int .u8 0), .lit (.int .u8 0)], .agg [.lit (.int .u8 0), .lit (.int .u8 0)], .agg [.lit (.int .u8 0), .lit (.int .u8 0)], .agg [.lit (.int .u8 0), .lit (.int .u8 0)], .agg [.lit (.int .u8 0), .lit (.int .u8 0)], .agg [.lit (.int .u8 0), .lit (.int .u8 0)], .agg [.lit (.int .u8 0), .lit (.int .u8 0)], .agg [.lit (.int .u8 0), .lit (.int .u8 0)], .agg [.lit (.int .u8 0), .lit (.int .u8 0)], .agg [.lit (.int .u8 0), .lit (.int .u8 0)], .agg [.lit (.int .u8 0), .lit (.int .u8 0)]]
/-- One of Go's own tables, pinned by name: the form's constant. -/
def laid_unicode_utf8_first : DataW Unit := Go.Pinned.utf8First

/-- 'larumlaw08.PctDecode': WHATEVER THE INPUT: true; the input reads as it did. -/
def pctDecodeSpec : ChangeSpec := { name := "pctDecode", fn := fun _ => fun
  | [d1, d2] => { results := [.lit (.bool true)], args := [d1, d2] }
  | _ => none }
def pctDecodeRow : OpenClaim := { program := "ytedflihgdnfgnaadoor", sum := "f6873fd99990b4982bb3425ee5fe236ba4d7b2ae1d93e072bb16e259bb5ca628", func := "larum/larumlaw08.PctDecode", spec := "pctDecode", inPlace := ["internal/abi.NoEscape", "internal/bytealg.IndexByteString", "internal/bytealg.IndexString", "internal/bytealg.CountString"], named := ["internal/bytealg.MaxLen", "unicode/utf8.first", "unicode/utf8.acceptRanges"], apart := false, laid := [("unicode/utf8.acceptRanges", laid_unicode_utf8_acceptRanges), ("unicode/utf8.first", laid_unicode_utf8_first)] }
def PctDecodeSaid : Prop := pctDecodeRow.holds Tryd.pinned (OpenSpec.ofChange pctDecodeSpec)

/-- ITS FALSE NEIGHBOUR: 'it returns false'. Refute it at one input. -/
def pctDecodeWrong : ChangeSpec := { name := "pctDecode", fn := fun _ => fun
  | [d1, d2] => { results := [.lit (.bool false)], args := [d1, d2] }
  | _ => none }
def PctDecodeWrongFalsely : Prop := pctDecodeRow.holds Tryd.pinned (OpenSpec.ofChange pctDecodeWrong)

/-- 'larumlaw08.PctEncode': WHATEVER THE INPUT: true; the input reads as it did. -/
def pctEncodeSpec : ChangeSpec := { name := "pctEncode", fn := fun _ => fun
  | [d1, d2] => { results := [.lit (.bool true)], args := [d1, d2] }
  | _ => none }
def pctEncodeRow : OpenClaim := { program := "ytedflihgdnfgnaadoor", sum := "f6873fd99990b4982bb3425ee5fe236ba4d7b2ae1d93e072bb16e259bb5ca628", func := "larum/larumlaw08.PctEncode", spec := "pctEncode", inPlace := ["internal/abi.NoEscape", "internal/bytealg.IndexByteString", "internal/bytealg.IndexString", "internal/bytealg.CountString"], named := ["internal/bytealg.MaxLen", "unicode/utf8.first", "unicode/utf8.acceptRanges"], apart := false, laid := [("unicode/utf8.acceptRanges", laid_unicode_utf8_acceptRanges), ("unicode/utf8.first", laid_unicode_utf8_first)] }
def PctEncodeSaid : Prop := pctEncodeRow.holds Tryd.pinned (OpenSpec.ofChange pctEncodeSpec)

/-- ITS FALSE NEIGHBOUR: 'it returns false'. Refute it at one input. -/
def pctEncodeWrong : ChangeSpec := { name := "pctEncode", fn := fun _ => fun
  | [d1, d2] => { results := [.lit (.bool false)], args := [d1, d2] }
  | _ => none }
def PctEncodeWrongFalsely : Prop := pctEncodeRow.holds Tryd.pinned (OpenSpec.ofChange pctEncodeWrong)

/-- 'larumlaw08.PctSplit': WHATEVER THE INPUT: true; the input reads as it did. -/
def pctSplitSpec : ChangeSpec := { name := "pctSplit", fn := fun _ => fun
  | [d] => { results := [.lit (.bool true)], args := [d] }
  | _ => none }
def pctSplitRow : OpenClaim := { program := "ytedflihgdnfgnaadoor", sum := "f6873fd99990b4982bb3425ee5fe236ba4d7b2ae1d93e072bb16e259bb5ca628", func := "larum/larumlaw08.PctSplit", spec := "pctSplit", inPlace := ["internal/bytealg.IndexByteString", "internal/bytealg.IndexString", "internal/bytealg.CountString", "internal/abi.NoEscape"], named := ["internal/bytealg.MaxLen", "unicode/utf8.first", "unicode/utf8.acceptRanges"], apart := false, laid := [("unicode/utf8.acceptRanges", laid_unicode_utf8_acceptRanges), ("unicode/utf8.first", laid_unicode_utf8_first)] }
def PctSplitSaid : Prop := pctSplitRow.holds Tryd.pinned (OpenSpec.ofChange pctSplitSpec)

/-- ITS FALSE NEIGHBOUR: 'it returns false'. Refute it at one input. -/
def pctSplitWrong : ChangeSpec := { name := "pctSplit", fn := fun _ => fun
  | [d] => { results := [.lit (.bool false)], args := [d] }
  | _ => none }
def PctSplitWrongFalsely : Prop := pctSplitRow.holds Tryd.pinned (OpenSpec.ofChange pctSplitWrong)

/-- 'larumlaw08.PctTarget': WHATEVER THE INPUT: true; the input reads as it did. -/
def pctTargetSpec : ChangeSpec := { name := "pctTarget", fn := fun _ => fun
  | [d1, d2] => { results := [.lit (.bool true)], args := [d1, d2] }
  | _ => none }
def pctTargetRow : OpenClaim := { program := "ytedflihgdnfgnaadoor", sum := "f6873fd99990b4982bb3425ee5fe236ba4d7b2ae1d93e072bb16e259bb5ca628", func := "larum/larumlaw08.PctTarget", spec := "pctTarget", inPlace := ["internal/abi.NoEscape", "internal/bytealg.IndexByteString", "internal/bytealg.IndexString", "internal/bytealg.CountString"], named := ["internal/bytealg.MaxLen", "unicode/utf8.first", "unicode/utf8.acceptRanges"], apart := false, laid := [("unicode/utf8.acceptRanges", laid_unicode_utf8_acceptRanges), ("unicode/utf8.first", laid_unicode_utf8_first)] }
def PctTargetSaid : Prop := pctTargetRow.holds Tryd.pinned (OpenSpec.ofChange pctTargetSpec)

/-- ITS FALSE NEIGHBOUR: 'it returns false'. Refute it at one input. -/
def pctTargetWrong : ChangeSpec := { name := "pctTarget", fn := fun _ => fun
  | [d1, d2] => { results := [.lit (.bool false)], args := [d1, d2] }
  | _ => none }
def PctTargetWrongFalsely : Prop := pctTargetRow.holds Tryd.pinned (OpenSpec.ofChange pctTargetWrong)

/- THE SECOND FORM. 'bulk': how many values and letters a reading holds, each counted each time it is reached (what is shared counts as often as it is met; a slice's spare places count too). A statement '..UptoSaid' is the law's where the arguments, and the package variables that the reading takes, are together of bulk at most 1048576: NARROWER than '..Said'. Prove '..Said' where nothing that the law and all that it calls make is longer than what came in: it says more and counts as full. Else prove '..UptoSaid'. A law counts once. -/
mutual
def uptoBulk {H : Type} : DataW H → Nat
  | .lit (.string bytes) => bytes.length + 1
  | .lit _ => 1
  | .nil => 1
  | .ptr d => uptoBulk d + 1
  | .slice elems spare => uptoBulkAll elems + uptoBulkAll spare + 1
  | .agg parts => uptoBulkAll parts + 1
  | .iface _ d => uptoBulk d + 1
  | .map entries => uptoBulkEntries entries + 1
  | .held _ => 1
def uptoBulkAll {H : Type} : List (DataW H) → Nat
  | [] => 0
  | d :: r => uptoBulk d + uptoBulkAll r
def uptoBulkEntries {H : Type} : List (Lit × DataW H) → Nat
  | [] => 0
  | x :: r => uptoBulkEntry x + uptoBulkEntries r
def uptoBulkEntry {H : Type} : Lit × DataW H → Nat
  | (.string bytes, d) => bytes.length + uptoBulk d + 1
  | (_, d) => uptoBulk d + 1
 end
def uptoSmall : (H : Type) → List (DataW H) → Bool := fun _ ds => decide (uptoBulkAll ds ≤ 1048576)
def OpenSpec.upto (s : _root_.Go.ChangeSpec) : _root_.Go.OpenSpec := { _root_.Go.OpenSpec.ofChange s with cond := some uptoSmall }

/-- 'larumlaw08.PctDecode', WHERE WHAT IT READS IS OF BULK AT MOST 1048576: true; the input reads as it did. -/
def pctDecodeUptoRow : OpenClaim := { program := "ytedflihgdnfgnaadoor", sum := "f6873fd99990b4982bb3425ee5fe236ba4d7b2ae1d93e072bb16e259bb5ca628", func := "larum/larumlaw08.PctDecode", spec := "pctDecode", inPlace := ["internal/abi.NoEscape", "internal/bytealg.IndexByteString", "internal/bytealg.IndexString", "internal/bytealg.CountString"], named := ["internal/bytealg.MaxLen", "unicode/utf8.first", "unicode/utf8.acceptRanges"], apart := false, laid := [("unicode/utf8.acceptRanges", laid_unicode_utf8_acceptRanges), ("unicode/utf8.first", laid_unicode_utf8_first)], narrowed := true }
def PctDecodeUptoSaid : Prop := pctDecodeUptoRow.holds Tryd.pinned (OpenSpec.upto pctDecodeSpec)

/-- 'larumlaw08.PctEncode', WHERE WHAT IT READS IS OF BULK AT MOST 1048576: true; the input reads as it did. -/
def pctEncodeUptoRow : OpenClaim := { program := "ytedflihgdnfgnaadoor", sum := "f6873fd99990b4982bb3425ee5fe236ba4d7b2ae1d93e072bb16e259bb5ca628", func := "larum/larumlaw08.PctEncode", spec := "pctEncode", inPlace := ["internal/abi.NoEscape", "internal/bytealg.IndexByteString", "internal/bytealg.IndexString", "internal/bytealg.CountString"], named := ["internal/bytealg.MaxLen", "unicode/utf8.first", "unicode/utf8.acceptRanges"], apart := false, laid := [("unicode/utf8.acceptRanges", laid_unicode_utf8_acceptRanges), ("unicode/utf8.first", laid_unicode_utf8_first)], narrowed := true }
def PctEncodeUptoSaid : Prop := pctEncodeUptoRow.holds Tryd.pinned (OpenSpec.upto pctEncodeSpec)

/-- 'larumlaw08.PctSplit', WHERE WHAT IT READS IS OF BULK AT MOST 1048576: true; the input reads as it did. -/
def pctSplitUptoRow : OpenClaim := { program := "ytedflihgdnfgnaadoor", sum := "f6873fd99990b4982bb3425ee5fe236ba4d7b2ae1d93e072bb16e259bb5ca628", func := "larum/larumlaw08.PctSplit", spec := "pctSplit", inPlace := ["internal/bytealg.IndexByteString", "internal/bytealg.IndexString", "internal/bytealg.CountString", "internal/abi.NoEscape"], named := ["internal/bytealg.MaxLen", "unicode/utf8.first", "unicode/utf8.acceptRanges"], apart := false, laid := [("unicode/utf8.acceptRanges", laid_unicode_utf8_acceptRanges), ("unicode/utf8.first", laid_unicode_utf8_first)], narrowed := true }
def PctSplitUptoSaid : Prop := pctSplitUptoRow.holds Tryd.pinned (OpenSpec.upto pctSplitSpec)

/-- 'larumlaw08.PctTarget', WHERE WHAT IT READS IS OF BULK AT MOST 1048576: true; the input reads as it did. -/
def pctTargetUptoRow : OpenClaim := { program := "ytedflihgdnfgnaadoor", sum := "f6873fd99990b4982bb3425ee5fe236ba4d7b2ae1d93e072bb16e259bb5ca628", func := "larum/larumlaw08.PctTarget", spec := "pctTarget", inPlace := ["internal/abi.NoEscape", "internal/bytealg.IndexByteString", "internal/bytealg.IndexString", "internal/bytealg.CountString"], named := ["internal/bytealg.MaxLen", "unicode/utf8.first", "unicode/utf8.acceptRanges"], apart := false, laid := [("unicode/utf8.acceptRanges", laid_unicode_utf8_acceptRanges), ("unicode/utf8.first", laid_unicode_utf8_first)], narrowed := true }
def PctTargetUptoSaid : Prop := pctTargetUptoRow.holds Tryd.pinned (OpenSpec.upto pctTargetSpec)

end Rows
end Go.Proofs.YtedflihgdnfgnaaDoor
