/- What the rows' condition on the listed variables gives the walks: errors.errorType lies as the program's text lays it; no condition beyond it. -/
import Derived.Test.YtkblggpnghdnmaaGreatDoorHdParG
import Derived.Test.YtkblggpnghdnmaaGreatDoorRows
import Derived.LaidHandle
import Derived.LaidLaws
namespace Go.Proofs.YtkblggpnghdnmaaGreatDoor.Hd
open Go.ChangeShapes Go.WideShapes Go.ChangeAt Go.RowKit
set_option linter.unusedSimpArgs false
set_option linter.unusedVariables false

theorem gEt : Tryz.prog.globalNamed "errors.errorType" = some 0 := by kernel_rfl
theorem rT : (Tryz.prog.cutTypes.find? (·.1 == "internal/reflectlite.rtype")).map (·.2) = some 120 := by kernel_rfl
theorem oneRow : ((List.range 204).filter fun t => Tryz.prog.rowNamed t [101, 114, 114, 111, 114]) = [57] := by kernel_rfl
theorem sizeT : Tryz.prog.types.size = 204 := by kernel_rfl
theorem hdl : typeHandle Tryz.prog 57 = .pointer (some ⟨4, 57, none⟩) := by kernel_rfl
theorem ert_of {W : World} (h : handlesMet Tryz.prog [("errors.errorType", Rows.laid_errors_errorType)] W) : ErT W := by
  obtain ⟨name, u, ty, e1, e2, e3, e4, e5⟩ := h _ (List.mem_singleton.2 rfl)
  have en : name = [101, 114, 114, 111, 114] := (Option.some.inj e1).symm
  subst en
  obtain rfl := Option.some.inj (rT.symm.trans e2)
  have hm : ty ∈ (List.range 204).filter fun t => Tryz.prog.rowNamed t [101, 114, 114, 111, 114] := List.mem_filter.2 ⟨List.mem_range.2 (by rw [← sizeT]; exact e3), e4⟩
  rw [oneRow] at hm
  obtain rfl := List.mem_singleton.1 hm
  rw [hdl] at e5
  unfold ErT
  simpa using World.var?_cell gEt e5 0
end Go.Proofs.YtkblggpnghdnmaaGreatDoor.Hd
