/- What the rows' condition on the listed variables gives the walks: the tables lie as the program's text lays them; no condition beyond it. -/
import Derived.Test.YtbimncnicioagaaDoorLbA
import Derived.Test.YtbimncnicioagaaDoorUtLaid
import Derived.Test.YtbimncnicioagaaDoorNuLaid
namespace Go.Proofs.YtbimncnicioagaaDoor.Lb
open Go.ChangeShapes Go.WideShapes Go.ChangeAt Go.RowKit
set_option linter.unusedSimpArgs false
set_option linter.unusedVariables false
theorem of_laid {W : World} (h : laidMetH Tryd.prog [("larum/utf.firsts", Rows.laid_larum_utf_firsts), ("larum/utf.leads", Rows.laid_larum_utf_leads), ("math/bits.deBruijn32tab", Rows.laid_math_bits_deBruijn32tab), ("math/bits.deBruijn64tab", Rows.laid_math_bits_deBruijn64tab), ("internal/strconv.uint64pow10", Rows.laid_internal_strconv_uint64pow10)] W) : Ev W := by
  rw [MakeChecks.laidMetH_plain _ _ _ (by kernel_rfl)] at h
  obtain ⟨ps, ⟨g0, t0, cs0, f0, p0, q0, hg0, ht0, hv0, hd0, ⟨g1, t1, cs1, f1, p1, q1, hg1, ht1, hv1, hd1, ⟨g2, t2, cs2, f2, p2, q2, hg2, ht2, hv2, hd2, ⟨g3, t3, cs3, f3, p3, q3, hg3, ht3, hv3, hd3, ⟨g4, t4, cs4, f4, p4, q4, hg4, ht4, hv4, hd4, _, _⟩, _⟩, _⟩, _⟩, _⟩, _, _⟩ := h
  obtain rfl := Option.some.inj (Ut.gFirsts.symm.trans hg0)
  obtain rfl := Option.some.inj (Ut.gLeads.symm.trans hg1)
  obtain rfl := Option.some.inj (Nu.g64.symm.trans hg3)
  obtain rfl := Option.some.inj (Nu.gPow.symm.trans hg4)
  obtain rfl := Option.some.inj (Ut.tFirsts.symm.trans ht0)
  obtain rfl := Option.some.inj (Ut.tLeads.symm.trans ht1)
  obtain rfl := Option.some.inj (Nu.t64.symm.trans ht3)
  obtain rfl := Option.some.inj (Nu.tPow.symm.trans ht4)
  have e0 := Ut.all_cells hd0
  have e1 := Ut.lead_cells hd1
  have e3 := Nu.br_cells hd3
  have e4 := Nu.pow_cells hd4
  obtain ⟨l0⟩ := cs0
  obtain ⟨l1⟩ := cs1
  obtain ⟨l3⟩ := cs3
  obtain ⟨l4⟩ := cs4
  try simp only at e0 e1 e3 e4
  subst e0 e1 e3 e4
  exact ⟨⟨Ut.var_block hg1 hv1, Ut.var_block hg0 hv0⟩, Nu.var_block hg4 hv4, Nu.var_block hg3 hv3⟩
theorem door_met (os : Os) (args : Array Value) : laidMetH Tryd.prog [("larum/utf.firsts", Rows.laid_larum_utf_firsts), ("larum/utf.leads", Rows.laid_larum_utf_leads), ("math/bits.deBruijn32tab", Rows.laid_math_bits_deBruijn32tab), ("math/bits.deBruijn64tab", Rows.laid_math_bits_deBruijn64tab), ("internal/strconv.uint64pow10", Rows.laid_internal_strconv_uint64pow10)] ((World.doorLaid Tryd.prog 400 os).forCall (fun _ _ => 0) ⟨#[], args, []⟩).memory :=
  laidMetH_of_parts3 (fuel := 8) (laidMet_of_run' 8 (by kernel_rfl) (by kernel_rfl)) (by kernel_rfl) (by kernel_rfl)
end Go.Proofs.YtbimncnicioagaaDoor.Lb
