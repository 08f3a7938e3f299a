/- Calls that came in; both pins beside one another; the law's step; no other condition. -/
import Derived.Test.YtjjnjankjbiigaaPnL
import Derived.Deep.Slices
import Derived.Deep.SlicePairs
import Derived.Deep.Strs
import Derived.Lib.SmallJoins
namespace Go.Proofs.Ytjjnjankjbiigaa.Pn
open Go.RowKit Go.Lib Go.Maps Go.ChangeShapes Go.WideShapes
set_option linter.unusedSimpArgs false
set_option linter.unusedVariables false

/-- a call: its kind, a revision or an id, a time -/
abbrev OpT := Int × Int × Int
def I64v (a : Int) : Prop := (Lit.int .i64 a).wf = true
theorem I64v.le {a : Int} (h : I64v a) : a ≤ 9223372036854775807 := by
  unfold I64v at h
  simp [Lit.wf, IntKind.min, IntKind.max, IntKind.signed, IntKind.bits] at h
  omega
theorem addrO (g o j : Nat) : (⟨g, o, none⟩ : Addr).add j = ⟨g, o + j, none⟩ := by unfold Addr.add; split <;> simp_all
def IsOps (w : World) (a : Option Addr) (len : Nat) (ts : List OpT) : Prop := ts.length = len ∧ len ≤ maxLen ∧ (∀ o ∈ ts, I64v o.2.1) ∧
  (0 < len → ∃ b off, a = some ⟨b, off, none⟩ ∧ b < w.heap.size ∧ ∀ i (hi : i < ts.length), w.cell? ⟨b, off + i * 3, none⟩ = some (.int .i64 ts[i].1) ∧ w.cell? ⟨b, off + i * 3 + 1, none⟩ = some (.int .i64 ts[i].2.1) ∧ w.cell? ⟨b, off + i * 3 + 2, none⟩ = some (.int .i64 ts[i].2.2))
theorem ceO : Try.prog.cellsOf 28 = 3 := by kernel_rfl
theorem ce2 : Try.prog.cellsOf 2 = 1 := by kernel_rfl
theorem ce3 : Try.prog.cellsOf 3 = 1 := by kernel_rfl
set_option maxRecDepth 100000 in
set_option maxHeartbeats 1000000 in
theorem ops_of {H : Type} {enc : TypeId × Value → H} {W : World} {a : Option Addr} {len cap : Nat} {d : DataW H} {p : List MemPlace} (h : DataW.Trod enc Try.prog W 0 (fun _ => true) true 22 (.slice a len cap) d p) : ∃ ts, IsOps W a len ts := by
  obtain ⟨fuel, hf⟩ := h
  rcases Deep.open_slice Try.underlying22 hf with ⟨hcs, _⟩ | ⟨x, l, c, m, k, D, Pl, hcs, hb, hl, hm, hmm, hx, hat⟩
  · simp [Value.cells] at hcs
    obtain ⟨rfl, rfl, rfl⟩ := hcs
    exact ⟨[], rfl, by unfold maxLen; omega, (fun o ho => by cases ho), fun h => absurd h (Nat.not_lt_zero _)⟩
  · simp [Value.cells] at hcs
    obtain ⟨rfl, rfl, rfl⟩ := hcs
    have hlm : len ≤ m := by rw [hmm]; simp; exact hl
    have each : ∀ i, i < len → ∃ r : OpT, W.cell? (x.add (i * 3)) = some (.int .i64 r.1) ∧ W.cell? (x.add (i * 3 + 1)) = some (.int .i64 r.2.1) ∧ W.cell? (x.add (i * 3 + 2)) = some (.int .i64 r.2.2) ∧ I64v r.2.1 := by
      intro i hi
      obtain ⟨cs', h1, h2⟩ := hat i (by omega)
      rw [ceO] at h1
      obtain ⟨_, hlen, hcell⟩ := World.cells?_some h1
      obtain ⟨y0, y1, y2, n, hxy, _, g0, g1, g2⟩ := Deep.trod_struct3 Try.underlying28 h2
      match cs', hlen with
      | [v0, v1, v2], _ =>
        simp [ce2, ce3] at g0 g1 g2
        have e0 := hcell 0 (by omega)
        have e1 := hcell 1 (by omega)
        have e2 := hcell 2 (by omega)
        rw [Deep.add_add] at e0 e1 e2
        obtain ⟨a0, q0, _, _⟩ := DataW.trod_int Try.underlying3 g0
        obtain ⟨a1, q1, _, f1⟩ := DataW.trod_int Try.underlying2 g1
        obtain ⟨a2, q2, _, _⟩ := DataW.trod_int Try.underlying2 g2
        have q0' : v0 = .int .i64 a0 := by simpa using q0
        have q1' : v1 = .int .i64 a1 := by simpa using q1
        have q2' : v2 = .int .i64 a2 := by simpa using q2
        subst q0' q1' q2'
        exact ⟨(a0, a1, a2), by simpa using e0, by simpa using e1, by simpa using e2, f1⟩
    obtain ⟨q, hq⟩ := Deep.choose_lt each
    have hql : ((List.range len).map q).length = len := by simp
    refine ⟨(List.range len).map q, hql, Nat.le_trans hl hm, fun o ho => ?_, fun hne => ?_⟩
    · obtain ⟨i, hi, rfl⟩ := List.mem_map.1 ho
      exact (hq i (List.mem_range.1 hi)).2.2.2
    · obtain ⟨b, off, spot⟩ := x
      have hc := (hq 0 hne).1
      have hspot : spot = none := by simpa [Addr.add] using World.cell?_spot hc
      subst hspot
      refine ⟨b, off, rfl, ?_, fun i hi => ?_⟩
      · have := World.block_lt_of_cell? W _ hc
        simpa [Addr.add] using this
      · have hi' : i < len := by simpa using hi
        obtain ⟨h0, h1, h2, _⟩ := hq i hi'
        rw [addrO] at h0 h1 h2
        simp only [List.getElem_map, List.getElem_range]
        exact ⟨h0, by rw [Nat.add_assoc]; exact h1, by rw [Nat.add_assoc]; exact h2⟩
/-- both pins, apart, above the heap as it was -/
structure Kb (c : Nat) (mb : Option Nat) (d : Nat) (gd : Option Nat) (m : Int) (lp lr : List Pin) (w W : World) : Prop where
  pn : IsPn w.heap.size c mb m lp W
  rp : IsRp w.heap.size d gd (max m 1) lr W
  bel : Below w.heap.size w W
  gc : w.heap.size ≤ c
  gd' : w.heap.size ≤ d
  ne : c ≠ d
  md : mb ≠ some d
  dc : gd ≠ some c
  ap : ∀ g, mb = some g → gd ≠ some g
theorem Kb.go {c d : Nat} {mb gd : Option Nat} {m : Int} {lp lr : List Pin} {w W V : World} (h : Kb c mb d gd m lp lr w W) (hb : Below W.heap.size W V) : Kb c mb d gd m lp lr w V :=
  ⟨h.pn.go hb, h.rp.go hb, h.bel.trans (hb.mono h.bel.size), h.gc, h.gd', h.ne, h.md, h.dc, h.ap⟩
theorem Kb.stepP {c d : Nat} {mb mb' gd : Option Nat} {m : Int} {lp lr l' : List Pin} {w W V : World} (h : Kb c mb d gd m lp lr w W) (k : IsPn w.heap.size c mb' m l' V) (hc : Ch c mb W V) (hn : NewB mb mb' W) : Kb c mb' d gd m l' lr w V := by
  have hd := h.rp.lt
  refine ⟨k, h.rp.kept (hc.block d hd (Ne.symm h.ne) (fun e => h.md e.symm)) (fun g hg => hc.block g (h.rp.row g hg).2 (fun e => h.dc (by rw [hg, e])) (fun e => h.ap g e.symm hg)), h.bel.trans (hc.below h.bel.size h.gc (fun g hg => (h.pn.row g hg).1)), h.gc, h.gd', h.ne, ?_, h.dc, ?_⟩
  · rcases hn with rfl | rfl | ⟨g, rfl, hge⟩
    · exact h.md
    · simp
    · intro e; injection e with e; omega
  · rcases hn with rfl | rfl | ⟨g, rfl, hge⟩
    · exact h.ap
    · intro g hg; cases hg
    · intro g2 hg2 e
      injection hg2 with hg2
      have := (h.rp.row g2 e).2
      omega
theorem Kb.stepR {c d : Nat} {mb gd gd2 : Option Nat} {m : Int} {lp lr l' : List Pin} {w W V : World} (h : Kb c mb d gd m lp lr w W) (k : IsRp w.heap.size d gd2 (max m 1) l' V) (hc : Ch d gd W V) (hn : NewB gd gd2 W) : Kb c mb d gd2 m lp l' w V := by
  have hd := h.pn.lt
  refine ⟨h.pn.kept (hc.block c hd h.ne (fun e => h.dc e.symm)) (fun g hg => hc.block g (h.pn.row g hg).2 (fun e => h.md (by rw [hg, e])) (fun e => h.ap g hg e.symm)), k, h.bel.trans (hc.below h.bel.size h.gd' (fun g hg => (h.rp.row g hg).1)), h.gc, h.gd', h.ne, h.md, ?_, ?_⟩
  · rcases hn with rfl | rfl | ⟨g, rfl, hge⟩
    · exact h.dc
    · simp
    · intro e; injection e with e; omega
  · rcases hn with rfl | rfl | ⟨g, rfl, hge⟩
    · exact h.ap
    · simp
    · intro g2 hg2 e
      injection e with e
      have := (h.pn.row g2 hg2).2
      omega
/-- a block that neither has stays as it is -/
theorem Kb.keepP {c d bx : Nat} {mb gd : Option Nat} {m : Int} {lp lr : List Pin} {w W V : World} (h : Kb c mb d gd m lp lr w W) (hc : Ch c mb W V) {o : Obj} (hx : W.heap[bx]? = some o) (h1 : bx ≠ c) (h2 : mb ≠ some bx) : V.heap[bx]? = some o :=
  (hc.block bx (Array.getElem?_eq_some_iff.1 hx).1 h1 (fun e => h2 e.symm)).trans hx
/-- behind a call -/
def stepL (m : Int) (l : List Pin) (o : OpT) : List Pin := if o.1 = 0 ∨ o.1 = 1 ∨ o.1 = 2 then addL m l o.2.1 o.2.2 else if o.1 = 3 then keepL l o.2.1 o.2.2 else if o.1 = 4 then dropL l o.2.1 else if o.1 = 5 then expL l o.2.2 else l
theorem addL_len (m : Int) (l : List Pin) (r u : Int) : (addL m l r u).length ≤ l.length + 1 := by unfold addL; split <;> simp
theorem stepL_len (m : Int) (l : List Pin) (o : OpT) : (stepL m l o).length ≤ l.length + 1 := by
  unfold stepL
  split
  · exact addL_len _ _ _ _
  · split
    · rw [keepL_len]; omega
    · split
      · rw [dropL_len]; omega
      · split
        · rw [expL_len]; omega
        · omega
theorem stepL_i64 {m : Int} {l : List Pin} (h : I64 l) {o : OpT} (ho : I64v o.2.1) : I64 (stepL m l o) := by
  unfold stepL
  split
  · unfold addL
    split
    · intro i x hx
      rw [att_snoc] at hx
      split at hx
      · injection hx with hx; subst hx; exact ho.le
      · exact h i x hx
    · exact h
  · split
    · intro i x hx
      rw [att_keep] at hx
      obtain ⟨y, hy, rfl⟩ := Option.map_eq_some_iff.1 hx
      exact h i y hy
    · split
      · intro i x hx
        rw [att_drop] at hx
        split at hx
        · cases hx
        · exact h i x hx
      · split
        · intro i x hx
          rw [att_exp] at hx
          exact h i x (Option.filter_eq_some_iff.1 hx).1
        · exact h
theorem I64_nil : I64 [] := fun i x h => by rw [att_nil] at h; cases h
end Go.Proofs.Ytjjnjankjbiigaa.Pn
