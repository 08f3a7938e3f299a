/- Contract of the document's own Print, of every number. -/
import Derived.Test.YteegbcjpganobaaDoorNuPrints
namespace Go.Proofs.YteegbcjpganobaaDoor.Nu
open Go.RowKit
set_option linter.unusedSimpArgs false
set_option linter.unusedVariables false

theorem tdiv_neg (u : Nat) : (-(u : Int)).tdiv 10 = -((u / 10 : Nat) : Int) := by rw [Int.neg_tdiv]; rfl
theorem tmod_neg (u : Nat) : (-(u : Int)).tmod 10 = -((u % 10 : Nat) : Int) := by rw [Int.neg_tmod]; rfl
end Go.Proofs.YteegbcjpganobaaDoor.Nu
