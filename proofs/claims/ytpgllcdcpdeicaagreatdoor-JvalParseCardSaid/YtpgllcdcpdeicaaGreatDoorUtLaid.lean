/- What the rows' condition on the two tables gives the walks: they lie as the program's text lays them; no condition beyond it. -/
import Derived.Test.YtpgllcdcpdeicaaGreatDoorUtMa
import Derived.ProofKit
import Derived.OpenShut
import Derived.LaidMore
import Derived.Lib.LaidTab
import Derived.Stop.Joined
namespace Go.Proofs.YtpgllcdcpdeicaaGreatDoor.Ut
open Go.ChangeShapes Go.WideShapes Go.ChangeAt Go.RowKit
set_option linter.unusedSimpArgs false
set_option linter.unusedVariables false

theorem gLeads : Tryz.prog.globalNamed "larum/utf.leads" = some 1 := by kernel_rfl
theorem gFirsts : Tryz.prog.globalNamed "larum/utf.firsts" = some 3 := by kernel_rfl
theorem tLeads : (Tryz.prog.globals[1]?).map (·.type) = some 177 := by kernel_rfl
theorem tFirsts : (Tryz.prog.globals[3]?).map (·.type) = some 184 := by kernel_rfl
theorem cells5 : Tryz.prog.cellsOf 5 = 1 := by kernel_rfl
theorem cells3 : Tryz.prog.cellsOf 3 = 1 := by kernel_rfl
theorem cells46 : Tryz.prog.cellsOf 179 = 5 := by kernel_rfl
theorem cells54 : Tryz.prog.cellsOf 177 = 5 := by kernel_rfl
theorem cells55 : Tryz.prog.cellsOf 184 = 45 := by kernel_rfl

theorem var_block {w : World} {n : String} {g : Nat} {cs : Array Value} (hg : Tryz.prog.globalNamed n = some g) (h : w.var? Tryz.prog n = some cs) : ∃ t f, w.heap[g]? = some (.cells cs t f) := by
  simp only [World.var?, hg, Option.bind_some] at h
  split at h
  · rename_i c t f he
    cases h
    exact ⟨t, f, he⟩
  · cases h

section
variable {H : Type} {enc : TypeId × Value → H} {w : World} {base : Nat} {sp : Nat → Bool} {held : Bool} {fuel : Nat}
theorem one_int {t : TypeId} {k k' : IntKind} {x : Int} {cs : List Value} {p : List MemPlace} (ht : Tryz.prog.underlying t = some (.int k)) (h : DataW.trod enc Tryz.prog w base sp held fuel t cs = some (.lit (.int k' x), p)) : cs = [.int k' x] := by
  obtain ⟨z, hc, hx, _⟩ := DataW.trod_int ht h
  simp only [Prod.mk.injEq, DataW.lit.injEq, Lit.int.injEq] at hx
  obtain ⟨⟨rfl, rfl⟩, _⟩ := hx
  exact hc
set_option maxRecDepth 100000 in
theorem row_cells {a b s l h : Int} {cs : List Value} {p : List MemPlace} (hd : DataW.trod enc Tryz.prog w base sp held fuel 179 cs = some (.agg [.lit (.int .u8 a), .lit (.int .u8 b), .lit (.int .i64 s), .lit (.int .u8 l), .lit (.int .u8 h)], p)) :
    cs = [.int .u8 a, .int .u8 b, .int .i64 s, .int .u8 l, .int .u8 h] := by
  obtain ⟨xs, n, _, hx, hl, hlen, hf⟩ := DataW.trod_struct Tryz.underlying179 hd
  rw [cells46] at hl
  match xs, hlen with
  | [y0, y1, y2, y3, y4], _ =>
    simp only [List.map_cons, List.map_nil, Prod.mk.injEq, DataW.agg.injEq, List.cons.injEq, and_true] at hx
    obtain ⟨⟨e0, e1, e2, e3, e4⟩, _⟩ := hx
    match cs, hl with
    | [v0, v1, v2, v3, v4], _ =>
      have f0 := hf 0 _ rfl
      have f1 := hf 1 _ rfl
      have f2 := hf 2 _ rfl
      have f3 := hf 3 _ rfl
      have f4 := hf 4 _ rfl
      simp only [cells5, cells3, List.drop_zero, List.drop_succ_cons, List.take_succ_cons, List.take_zero, List.getElem?_cons_zero, List.getElem?_cons_succ] at f0 f1 f2 f3 f4
      obtain ⟨d0, q0⟩ := y0; obtain ⟨d1, q1⟩ := y1; obtain ⟨d2, q2⟩ := y2; obtain ⟨d3, q3⟩ := y3; obtain ⟨d4, q4⟩ := y4
      try simp only at e0 e1 e2 e3 e4
      subst e0 e1 e2 e3 e4
      have g0 := one_int Tryz.underlying5 f0
      have g1 := one_int Tryz.underlying5 f1
      have g2 := one_int Tryz.underlying3 f2
      have g3 := one_int Tryz.underlying5 f3
      have g4 := one_int Tryz.underlying5 f4
      injection g0 with g0
      injection g1 with g1
      injection g2 with g2
      injection g3 with g3
      injection g4 with g4
      rw [g0, g1, g2, g3, g4]
theorem step5 (cs : List Value) (k : Nat) : cs.drop k = (cs.drop k).take 5 ++ cs.drop (k + 5) := by
  have := List.take_append_drop 5 (cs.drop k)
  rw [List.drop_drop] at this
  exact this.symm
set_option maxRecDepth 100000 in
theorem all_cells {cs : List Value} {p : List MemPlace} (hd : DataW.trod enc Tryz.prog w base sp held fuel 184 cs = some (Rows.laid_larum_utf_firsts, p)) : cs = firstsV.toList := by
  obtain ⟨xs, m, _, hx, hl, hlen, hel⟩ := DataW.trod_array Tryz.underlying184 hd
  rw [cells55] at hl
  simp only [cells46] at hel
  simp only [Rows.laid_larum_utf_firsts, Prod.mk.injEq, DataW.agg.injEq] at hx
  obtain ⟨hx, _⟩ := hx
  match xs, hlen with
  | [y0, y1, y2, y3, y4, y5, y6, y7, y8], _ =>
    simp only [List.map_cons, List.map_nil, List.cons.injEq, and_true] at hx
    obtain ⟨e0, e1, e2, e3, e4, e5, e6, e7, e8⟩ := hx
    have r0 := hel 0 (by decide)
    simp only [List.getElem?_cons_zero, List.getElem?_cons_succ] at r0
    obtain ⟨d0, q0⟩ := y0
    try simp only at e0
    subst e0
    have c0 := row_cells r0
    have r1 := hel 1 (by decide)
    simp only [List.getElem?_cons_zero, List.getElem?_cons_succ] at r1
    obtain ⟨d1, q1⟩ := y1
    try simp only at e1
    subst e1
    have c1 := row_cells r1
    have r2 := hel 2 (by decide)
    simp only [List.getElem?_cons_zero, List.getElem?_cons_succ] at r2
    obtain ⟨d2, q2⟩ := y2
    try simp only at e2
    subst e2
    have c2 := row_cells r2
    have r3 := hel 3 (by decide)
    simp only [List.getElem?_cons_zero, List.getElem?_cons_succ] at r3
    obtain ⟨d3, q3⟩ := y3
    try simp only at e3
    subst e3
    have c3 := row_cells r3
    have r4 := hel 4 (by decide)
    simp only [List.getElem?_cons_zero, List.getElem?_cons_succ] at r4
    obtain ⟨d4, q4⟩ := y4
    try simp only at e4
    subst e4
    have c4 := row_cells r4
    have r5 := hel 5 (by decide)
    simp only [List.getElem?_cons_zero, List.getElem?_cons_succ] at r5
    obtain ⟨d5, q5⟩ := y5
    try simp only at e5
    subst e5
    have c5 := row_cells r5
    have r6 := hel 6 (by decide)
    simp only [List.getElem?_cons_zero, List.getElem?_cons_succ] at r6
    obtain ⟨d6, q6⟩ := y6
    try simp only at e6
    subst e6
    have c6 := row_cells r6
    have r7 := hel 7 (by decide)
    simp only [List.getElem?_cons_zero, List.getElem?_cons_succ] at r7
    obtain ⟨d7, q7⟩ := y7
    try simp only at e7
    subst e7
    have c7 := row_cells r7
    have r8 := hel 8 (by decide)
    simp only [List.getElem?_cons_zero, List.getElem?_cons_succ] at r8
    obtain ⟨d8, q8⟩ := y8
    try simp only at e8
    subst e8
    have c8 := row_cells r8
    have t0 := step5 cs 0
    have t1 := step5 cs 5
    have t2 := step5 cs 10
    have t3 := step5 cs 15
    have t4 := step5 cs 20
    have t5 := step5 cs 25
    have t6 := step5 cs 30
    have t7 := step5 cs 35
    have t8 := step5 cs 40
    have t9 : cs.drop 45 = [] := List.drop_of_length_le (by omega)
    simp only [Nat.zero_mul, Nat.one_mul, Nat.reduceMul, Nat.reduceAdd] at c0 c1 c2 c3 c4 c5 c6 c7 c8 t0 t1 t2 t3 t4 t5 t6 t7 t8
    rw [c8, t9] at t8
    rw [c7, t8] at t7
    rw [c6, t7] at t6
    rw [c5, t6] at t5
    rw [c4, t5] at t4
    rw [c3, t4] at t3
    rw [c2, t3] at t2
    rw [c1, t2] at t1
    rw [c0, t1] at t0
    rw [List.drop_zero] at t0
    rw [t0]
    rfl
set_option maxRecDepth 100000 in
theorem lead_cells {cs : List Value} {p : List MemPlace} (hd : DataW.trod enc Tryz.prog w base sp held fuel 177 cs = some (Rows.laid_larum_utf_leads, p)) : cs = leadsV.toList :=
  Lib.cells_of_tab (zs := [0, 0, 192, 224, 240]) Tryz.underlying177 Tryz.underlying5 cells5 cells54 hd
end

set_option maxRecDepth 100000 in
/-- WHAT THE CONDITION GIVES THE WALKS -/
theorem of_laid {W : World} (h : laidMetH Tryz.prog [("larum/utf.firsts", Rows.laid_larum_utf_firsts), ("larum/utf.leads", Rows.laid_larum_utf_leads)] W) : Tabs W := by
  rw [MakeChecks.laidMetH_plain _ _ _ (by kernel_rfl)] at h
  obtain ⟨ps, ⟨g0, t0, cs0, f0, p0, q0, hg0, ht0, hv0, hd0, ⟨g1, t1, cs1, f1, p1, q1, hg1, ht1, hv1, hd1, _, _⟩, _⟩, _, _⟩ := h
  obtain rfl := Option.some.inj (gFirsts.symm.trans hg0)
  obtain rfl := Option.some.inj (gLeads.symm.trans hg1)
  obtain rfl := Option.some.inj (tFirsts.symm.trans ht0)
  obtain rfl := Option.some.inj (tLeads.symm.trans ht1)
  have e0 := all_cells hd0
  have e1 := lead_cells hd1
  obtain ⟨l0⟩ := cs0
  obtain ⟨l1⟩ := cs1
  try simp only at e0 e1
  subst e0 e1
  exact ⟨var_block hg1 hv1, var_block hg0 hv0⟩
theorem door_met (os : Os) (args : Array Value) : laidMetH Tryz.prog [("larum/utf.firsts", Rows.laid_larum_utf_firsts), ("larum/utf.leads", Rows.laid_larum_utf_leads)] ((World.doorLaid Tryz.prog 400 os).forCall (fun _ _ => 0) ⟨#[], args, []⟩).memory :=
  laidMetH_of_parts3 (fuel := 8) (laidMet_of_run' 8 (by kernel_rfl) (by kernel_rfl)) (by kernel_rfl) (by kernel_rfl)
end Go.Proofs.YtpgllcdcpdeicaaGreatDoor.Ut
