/- What the rows' condition on the six listed variables gives the walks: the tables and errors.errorType lie as the program's text lays them; no condition beyond it. -/
import Derived.Test.YtmjfkibfakbdmaaDoorJtLaid
import Derived.Test.YtmjfkibfakbdmaaDoorNuLaid
namespace Go.Proofs.YtmjfkibfakbdmaaDoor.Jt
open Go.ChangeShapes Go.WideShapes Go.ChangeAt Go.RowKit
set_option linter.unusedSimpArgs false
set_option linter.unusedVariables false

/-- what is laid: utf's tables, errors.errorType, the library's tables; so many blocks are there -/
def EnvQ (w : World) : Prop := Env w ∧ Nu.Tabs w ∧ 7 ≤ w.heap.size
theorem nu_size {w : World} (h : Nu.Tabs w) : 7 ≤ w.heap.size := by have := h.three; omega
theorem walkP_le (l : List Int) : ∀ (f n p : Nat), p ≤ l.length → (Ut.walkP l f n p).2 ≤ l.length
  | 0, n, p, h => h
  | f + 1, n, p, h => by
    unfold Ut.walkP
    by_cases hc : p < l.length ∧ 0 < (Ut.nextW (l.drop p)).2
    · rw [if_pos hc]
      have hb := (Ut.nextW_k (l.drop p)).1
      rw [List.length_drop] at hb
      exact walkP_le l f _ _ (by omega)
    · rw [if_neg hc]; exact h
theorem walk_le (l : List Int) : (Ut.walkL l).2 ≤ l.length := walkP_le l _ _ _ (by omega)
theorem of_laidQ {W : World} (h : laidMetH Tryd.prog [("larum/utf.firsts", Rows.laid_larum_utf_firsts), ("larum/utf.leads", Rows.laid_larum_utf_leads), ("math/bits.deBruijn32tab", Rows.laid_math_bits_deBruijn32tab), ("math/bits.deBruijn64tab", Rows.laid_math_bits_deBruijn64tab), ("internal/strconv.uint64pow10", Rows.laid_internal_strconv_uint64pow10), ("errors.errorType", Rows.laid_errors_errorType)] W) : EnvQ W := by
  have h' : laidMet Tryd.prog [("larum/utf.firsts", Rows.laid_larum_utf_firsts), ("larum/utf.leads", Rows.laid_larum_utf_leads), ("math/bits.deBruijn32tab", Rows.laid_math_bits_deBruijn32tab), ("math/bits.deBruijn64tab", Rows.laid_math_bits_deBruijn64tab), ("internal/strconv.uint64pow10", Rows.laid_internal_strconv_uint64pow10)] W ∧ handlesMet Tryd.prog [("errors.errorType", Rows.laid_errors_errorType)] W := h
  obtain ⟨ps, ⟨g0, t0, cs0, f0, p0, q0, hg0, ht0, hv0, hd0, ⟨g1, t1, cs1, f1, p1, q1, hg1, ht1, hv1, hd1, ⟨g2, t2, cs2, f2, p2, q2, hg2, ht2, hv2, hd2, ⟨g3, t3, cs3, f3, p3, q3, hg3, ht3, hv3, hd3, ⟨g4, t4, cs4, f4, p4, q4, hg4, ht4, hv4, hd4, _, _⟩, _⟩, _⟩, _⟩, _⟩, _, _⟩ := h'.1
  obtain rfl := Option.some.inj (Ut.gFirsts.symm.trans hg0)
  obtain rfl := Option.some.inj (Ut.gLeads.symm.trans hg1)
  obtain rfl := Option.some.inj (Nu.g64.symm.trans hg3)
  obtain rfl := Option.some.inj (Nu.gPow.symm.trans hg4)
  obtain rfl := Option.some.inj (Ut.tFirsts.symm.trans ht0)
  obtain rfl := Option.some.inj (Ut.tLeads.symm.trans ht1)
  obtain rfl := Option.some.inj (Nu.t64.symm.trans ht3)
  obtain rfl := Option.some.inj (Nu.tPow.symm.trans ht4)
  have e0 := Ut.all_cells hd0
  have e1 := Ut.lead_cells hd1
  have e3 := Nu.br_cells hd3
  have e4 := Nu.pow_cells hd4
  obtain ⟨l0⟩ := cs0
  obtain ⟨l1⟩ := cs1
  obtain ⟨l3⟩ := cs3
  obtain ⟨l4⟩ := cs4
  try simp only at e0 e1 e3 e4
  subst e0 e1 e3 e4
  have hU : Ut.Tabs W := ⟨Ut.var_block hg1 hv1, Ut.var_block hg0 hv0⟩
  have hN : Nu.Tabs W := ⟨Nu.var_block hg4 hv4, Nu.var_block hg3 hv3⟩
  refine ⟨⟨hU, ?_⟩, hN, nu_size hN⟩
  obtain ⟨name, u, ty, x1, x2, x3, x4, x5⟩ := h'.2 _ (List.mem_singleton.2 rfl)
  have en : name = [101, 114, 114, 111, 114] := (Option.some.inj x1).symm
  subst en
  obtain rfl := Option.some.inj (rT.symm.trans x2)
  have hm : ty ∈ (List.range 188).filter fun t => Tryd.prog.rowNamed t [101, 114, 114, 111, 114] := List.mem_filter.2 ⟨List.mem_range.2 (by rw [← sizeT]; exact x3), x4⟩
  rw [oneRow] at hm
  obtain rfl := List.mem_singleton.1 hm
  rw [hdl] at x5
  unfold ET
  simpa using World.var?_cell gEt x5 0
theorem door_metQ (os : Os) (args : Array Value) : laidMetH Tryd.prog [("larum/utf.firsts", Rows.laid_larum_utf_firsts), ("larum/utf.leads", Rows.laid_larum_utf_leads), ("math/bits.deBruijn32tab", Rows.laid_math_bits_deBruijn32tab), ("math/bits.deBruijn64tab", Rows.laid_math_bits_deBruijn64tab), ("internal/strconv.uint64pow10", Rows.laid_internal_strconv_uint64pow10), ("errors.errorType", Rows.laid_errors_errorType)] ((World.doorLaid Tryd.prog 400 os).forCall (fun _ _ => 0) ⟨#[], args, []⟩).memory :=
  laidMetH_of_parts3 (fuel := 8) (laidMet_of_run' 8 (by kernel_rfl) (by kernel_rfl)) (by kernel_rfl) (by kernel_rfl)
end Go.Proofs.YtmjfkibfakbdmaaDoor.Jt
