/- Contracts of the document's own all, strip, above and Parse: for every text of at most a thousand bytes. -/
import Derived.Test.YteegbcjpganobaaDoorNuParses
import Derived.Laws.Cover1
namespace Go.Proofs.YteegbcjpganobaaDoor.Nu
open Go.RowKit
set_option linter.unusedSimpArgs false
set_option linter.unusedVariables false

def allB (l : List UInt8) : Bool := !l.isEmpty && l.all (okD 10)
theorem all_iff (l : List UInt8) : allB l = true ↔ (l ≠ [] ∧ l.all (okD 10) = true) := by
  unfold allB
  rw [Bool.and_eq_true]
  cases l <;> simp
theorem ok_dig (b : UInt8) : okD 10 b = digB (b.toNat : Int) := okD_ten b
theorem strip_step (t : ByteArray) (h1 : 1 < t.size) (hb : t.data.toList.getD 0 0 = 48) : stripL (t.extract 1 t.size).data.toList = stripL t.data.toList ∧ (t.extract 1 t.size).size = t.size - 1 := by
  refine ⟨?_, by rw [ByteArray.size_extract]; omega⟩
  rw [Lib.extract_to_end]
  have hl : 1 < t.data.toList.length := by rw [← Lib.size_eq]; exact h1
  cases e : t.data.toList with
  | nil => rw [e] at hl; simp at hl
  | cons b l =>
    rw [e] at hl hb
    cases l with
    | nil => simp at hl
    | cons c l =>
      have hb : b = 48 := by simpa [List.getD] using hb
      subst hb
      rfl
theorem strip_end (t : ByteArray) (h : ¬ (1 < t.size ∧ t.data.toList.getD 0 0 = 48)) : stripL t.data.toList = t.data.toList := by
  apply strip_id
  intro b c l e hb
  apply h
  refine ⟨by rw [Lib.size_eq, e]; simp, ?_⟩
  rw [e, hb]; rfl
def strOf : Value → ByteArray | .string s => s | _ => ByteArray.empty
end Go.Proofs.YteegbcjpganobaaDoor.Nu
