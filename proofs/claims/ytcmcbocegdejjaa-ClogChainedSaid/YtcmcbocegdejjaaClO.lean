/- What the walks of clog's laws are told of a slice of additions that came in; the program's log and the document's side by side; no other condition. -/
import Derived.Test.YtcmcbocegdejjaaClN
import Derived.Deep.Strs
import Derived.Lib.SmallJoins
import Derived.ShutString
import Derived.ChangeOld
import Derived.ChangeSame
namespace Go.Proofs.Ytcmcbocegdejjaa.Cl
open Go.RowKit Go.Lib Go.Shelf Go.Sort Go.ChangeShapes Go.WideShapes
set_option linter.unusedSimpArgs false
set_option linter.unusedVariables false

/-- an addition: its step, its changes' slice, the changes -/
abbrev OpT := Int × Value × List Chg
def IsOps (w : World) (a : Option Addr) (len : Nat) (ts : List OpT) : Prop := ts.length = len ∧ len ≤ maxLen ∧ (∀ o ∈ ts, RdC o.2.1 o.2.2 w ∧ o.2.2.length ≤ maxLen) ∧
  (0 < len → ∃ b off, a = some ⟨b, off, none⟩ ∧ b < w.heap.size ∧ ∀ i (hi : i < ts.length), w.cell? ⟨b, off + i * 2, none⟩ = some (.int .i64 ts[i].1) ∧ w.cell? ⟨b, off + i * 2 + 1, none⟩ = some ts[i].2.1)
theorem ceC : Try.prog.cellsOf 51 = 3 := by kernel_rfl
theorem ceO : Try.prog.cellsOf 29 = 2 := by kernel_rfl
theorem ceS : Try.prog.cellsOf 27 = 1 := by kernel_rfl
theorem ce2 : Try.prog.cellsOf 2 = 1 := by kernel_rfl
theorem ce4 : Try.prog.cellsOf 4 = 1 := by kernel_rfl
theorem ce9 : Try.prog.cellsOf 9 = 1 := by kernel_rfl
theorem range_C {g o : Nat} {l : List Chg} {w : World} (h : ∀ i (hi : i < l.length), w.cell? ⟨g, o + i * 3, none⟩ = some (.string l[i].1) ∧ w.cell? ⟨g, o + i * 3 + 1, none⟩ = some (.string l[i].2.1) ∧ w.cell? ⟨g, o + i * 3 + 2, none⟩ = some (.bool l[i].2.2)) : w.rangeAt g o (cC l) := by
  intro j u hu
  have hj : j < l.length * 3 := by
    rcases Nat.lt_or_ge j (l.length * 3) with h | h
    · exact h
    · rw [List.getElem?_eq_none (by rw [cC_len]; exact h)] at hu; cases hu
  have hq : j / 3 < l.length := by omega
  obtain ⟨a0, a1, a2⟩ := cC_at l (j / 3) hq
  obtain ⟨b0, b1, b2⟩ := h (j / 3) hq
  have hm : j % 3 = 0 ∨ j % 3 = 1 ∨ j % 3 = 2 := by omega
  rcases hm with h | h | h
  · have ej : j = j / 3 * 3 := by omega
    rw [ej] at hu ⊢
    rw [a0] at hu; injection hu with hu; rw [← hu]; exact b0
  · have ej : j = j / 3 * 3 + 1 := by omega
    rw [ej] at hu ⊢
    rw [a1] at hu; injection hu with hu; rw [← hu, ← Nat.add_assoc]; exact b1
  · have ej : j = j / 3 * 3 + 2 := by omega
    rw [ej] at hu ⊢
    rw [a2] at hu; injection hu with hu; rw [← hu, ← Nat.add_assoc]; exact b2
set_option maxRecDepth 100000 in
set_option maxHeartbeats 1000000 in
/-- a slice of changes that came in -/
theorem chgs_of {H : Type} {enc : TypeId × Value → H} {W : World} {v : Value} {n : Nat} {x : DataW H × List MemPlace} (h : DataW.trod enc Try.prog W 0 (fun _ => true) true n 27 [v] = some x) : ∃ cs : List Chg, RdC v cs W ∧ cs.length ≤ maxLen := by
  rcases Deep.open_slice Try.underlying27 h with ⟨hcs, _⟩ | ⟨x, l, c, m, k, D, Pl, hcs, hb, hl, hm, hmm, hx, hat⟩
  · obtain rfl : v = .slice none 0 0 := by simpa using hcs
    exact ⟨[], Rd.nil _ _ _ _, by unfold maxLen; simp⟩
  · obtain rfl : v = .slice (some x) l c := by simpa using hcs
    have hlm : l ≤ m := by rw [hmm]; simp; exact hl
    have each : ∀ i, i < l → ∃ r : Chg, W.cell? (x.add (i * 3)) = some (.string r.1) ∧ W.cell? (x.add (i * 3 + 1)) = some (.string r.2.1) ∧ W.cell? (x.add (i * 3 + 2)) = some (.bool r.2.2) := by
      intro i hi
      obtain ⟨cs', h1, h2⟩ := hat i (by omega)
      rw [ceC] at h1
      obtain ⟨_, hlen, hcell⟩ := World.cells?_some h1
      obtain ⟨y0, y1, y2, n', hxy, _, g0, g1, g2⟩ := Deep.trod_struct3 Try.underlying51 h2
      match cs', hlen with
      | [v0, v1, v2], _ =>
        simp [ce4, ce9] at g0 g1 g2
        have e0 := hcell 0 (by omega)
        have e1 := hcell 1 (by omega)
        have e2 := hcell 2 (by omega)
        rw [Deep.add_add] at e0 e1 e2
        obtain ⟨s0, q0, _, _⟩ := DataW.trod_string Try.underlying9 g0
        obtain ⟨s1, q1, _, _⟩ := DataW.trod_string Try.underlying9 g1
        obtain ⟨b2, q2, _⟩ := DataW.trod_bool Try.underlying4 g2
        have q0' : v0 = .string s0 := by simpa using q0
        have q1' : v1 = .string s1 := by simpa using q1
        have q2' : v2 = .bool b2 := by simpa using q2
        subst q0' q1' q2'
        exact ⟨(s0, s1, b2), by simpa using e0, by simpa using e1, by simpa using e2⟩
    obtain ⟨q, hq⟩ := Deep.choose_lt each
    have hql : ((List.range l).map q).length = l := by simp
    refine ⟨(List.range l).map q, ⟨some x, c, by rw [hql], fun hne => ?_⟩, by rw [hql]; omega⟩
    rw [hql] at hne
    obtain ⟨b, off, spot⟩ := x
    have hc := (hq 0 hne).1
    have hspot : spot = none := by simpa [Addr.add] using World.cell?_spot hc
    subst hspot
    refine ⟨b, off, rfl, ?_, range_C fun i hi => ?_⟩
    · have := World.block_lt_of_cell? W _ hc
      simpa [Addr.add] using this
    · have hi' : i < l := by simpa using hi
      obtain ⟨h0, h1, h2⟩ := hq i hi'
      rw [addrO] at h0 h1 h2
      simp only [List.getElem_map, List.getElem_range]
      exact ⟨h0, by rw [Nat.add_assoc]; exact h1, by rw [Nat.add_assoc]; exact h2⟩
set_option maxRecDepth 100000 in
set_option maxHeartbeats 1000000 in
theorem ops_of {H : Type} {enc : TypeId × Value → H} {W : World} {a : Option Addr} {len cap : Nat} {d : DataW H} {p : List MemPlace} (h : DataW.Trod enc Try.prog W 0 (fun _ => true) true 22 (.slice a len cap) d p) : ∃ ts, IsOps W a len ts := by
  obtain ⟨fuel, hf⟩ := h
  rcases Deep.open_slice Try.underlying22 hf with ⟨hcs, _⟩ | ⟨x, l, c, m, k, D, Pl, hcs, hb, hl, hm, hmm, hx, hat⟩
  · simp [Value.cells] at hcs
    obtain ⟨rfl, rfl, rfl⟩ := hcs
    exact ⟨[], rfl, by unfold maxLen; omega, (fun o ho => by cases ho), fun h => absurd h (Nat.not_lt_zero _)⟩
  · simp [Value.cells] at hcs
    obtain ⟨rfl, rfl, rfl⟩ := hcs
    have hlm : len ≤ m := by rw [hmm]; simp; exact hl
    have each : ∀ i, i < len → ∃ r : OpT, W.cell? (x.add (i * 2)) = some (.int .i64 r.1) ∧ W.cell? (x.add (i * 2 + 1)) = some r.2.1 ∧ RdC r.2.1 r.2.2 W ∧ r.2.2.length ≤ maxLen := by
      intro i hi
      obtain ⟨cs', h1, h2⟩ := hat i (by omega)
      rw [ceO] at h1
      obtain ⟨_, hlen, hcell⟩ := World.cells?_some h1
      obtain ⟨y0, y1, n, hxy, _, g0, g1⟩ := Go.ChangeShapes.trod_struct2 Try.underlying29 h2
      match cs', hlen with
      | [v0, v1], _ =>
        simp [ce2, ceS] at g0 g1
        have e0 := hcell 0 (by omega)
        have e1 := hcell 1 (by omega)
        rw [Deep.add_add] at e0 e1
        obtain ⟨a0, q0, _, _⟩ := DataW.trod_int Try.underlying2 g0
        obtain ⟨cs, hr⟩ := chgs_of g1
        have q0' : v0 = .int .i64 a0 := by simpa using q0
        subst q0'
        exact ⟨(a0, v1, cs), by simpa using e0, by simpa using e1, hr⟩
    obtain ⟨q, hq⟩ := Deep.choose_lt each
    have hql : ((List.range len).map q).length = len := by simp
    refine ⟨(List.range len).map q, hql, Nat.le_trans hl hm, fun o ho => ?_, fun hne => ?_⟩
    · obtain ⟨i, hi, rfl⟩ := List.mem_map.1 ho
      exact (hq i (List.mem_range.1 hi)).2.2
    · obtain ⟨b, off, spot⟩ := x
      have hc := (hq 0 hne).1
      have hspot : spot = none := by simpa [Addr.add] using World.cell?_spot hc
      subst hspot
      refine ⟨b, off, rfl, ?_, fun i hi => ?_⟩
      · have := World.block_lt_of_cell? W _ hc
        simpa [Addr.add] using this
      · have hi' : i < len := by simpa using hi
        obtain ⟨h0, h1, _⟩ := hq i hi'
        rw [addrO] at h0 h1
        simp only [List.getElem_map, List.getElem_range]
        exact ⟨h0, by rw [Nat.add_assoc]; exact h1⟩
theorem IsOps.go {w W : World} {a : Option Addr} {len : Nat} {ts : List OpT} (h : IsOps w a len ts) (hb : Below w.heap.size w W) : IsOps W a len ts := by
  refine ⟨h.1, h.2.1, fun o ho => ⟨(h.2.2.1 o ho).1.go hb, (h.2.2.1 o ho).2⟩, fun h0 => ?_⟩
  obtain ⟨b, off, rfl, hlt, hat⟩ := h.2.2.2 h0
  refine ⟨b, off, rfl, Nat.lt_of_lt_of_le hlt hb.size, fun i hi => ?_⟩
  obtain ⟨h0, h1⟩ := hat i hi
  exact ⟨(hb.cell (p := ⟨b, off + i * 2, none⟩) hlt).trans h0, (hb.cell (p := ⟨b, off + i * 2 + 1, none⟩) hlt).trans h1⟩
/-- both logs, side by side, above the heap as it was -/
structure Pr (c : Nat) (gb : Option Nat) (d : Nat) (gd : Option Nat) (m : Int) (s t : LS) (w W : World) : Prop where
  lg : IsS w.heap.size c gb m s W
  rf : IsT w.heap.size d gd (max m 1) t W
  bel : Below w.heap.size w W
  gec : w.heap.size ≤ c
  ged : w.heap.size ≤ d
  cd : c ≠ d
  cg : gd ≠ some c
  dg : gb ≠ some d
  gg : ∀ g, gb = some g → gd ≠ some g
  rs : Rgt s
  rt : Rgt t
theorem Pr.go {c d : Nat} {gb gd : Option Nat} {m : Int} {s t : LS} {w W V : World} (h : Pr c gb d gd m s t w W) (hb : Below W.heap.size W V) : Pr c gb d gd m s t w V :=
  ⟨h.lg.go hb, h.rf.go hb, h.bel.trans (hb.mono h.bel.size), h.gec, h.ged, h.cd, h.cg, h.dg, h.gg, h.rs, h.rt⟩
theorem Pr.stepL {c d : Nat} {gb gd : Option Nat} {m : Int} {s s' t : LS} {w W V : World} (h : Pr c gb d gd m s t w W) (hq : Sq w.heap.size c gb m s' W V) (hs : Rgt s') : ∃ gb', Pr c gb' d gd m s' t w V ∧ Ch c gb W V ∧ NewB gb gb' W := by
  obtain ⟨gb', h1, h2, h3⟩ := hq
  have hd := h.rf.lt
  have hdk : V.heap[d]? = W.heap[d]? := h2.block d hd (fun e => h.cd e.symm) (fun e => h.dg e.symm)
  have hgk : ∀ g, gd = some g → V.heap[g]? = W.heap[g]? := fun g hg => h2.block g (h.rf.row g hg).2 (fun e => h.cg (by rw [hg, e])) (fun e => h.gg g e.symm hg)
  refine ⟨gb', ⟨h1, h.rf.kept hdk hgk, h.bel.trans (h2.below h.bel.size h.gec (fun g hg => (h.lg.row g hg).1)), h.gec, h.ged, h.cd, h.cg, ?_, ?_, hs, h.rt⟩, h2, h3⟩
  · rcases h3 with e | e | ⟨g, e, hge⟩
    · rw [e]; exact h.dg
    · rw [e]; simp
    · rw [e]; intro e2; injection e2 with e2; omega
  · intro g hg
    rcases h3 with e | e | ⟨g', e, hge⟩
    · exact h.gg g (e.symm.trans hg)
    · rw [e] at hg; cases hg
    · rw [e] at hg; injection hg with hg
      intro e2
      have := (h.rf.row g e2).2
      omega
theorem Pr.stepR {c d : Nat} {gb gd : Option Nat} {m : Int} {s t t' : LS} {w W V : World} (h : Pr c gb d gd m s t w W) (hq : Tq w.heap.size d gd (max m 1) t' W V) (ht : Rgt t') : ∃ gd', Pr c gb d gd' m s t' w V ∧ Ch d gd W V ∧ NewB gd gd' W := by
  obtain ⟨gd', h1, h2, h3⟩ := hq
  have hc := h.lg.lt
  have hck : V.heap[c]? = W.heap[c]? := h2.block c hc h.cd (fun e => h.cg e.symm)
  have hgk : ∀ g, gb = some g → V.heap[g]? = W.heap[g]? := fun g hg => h2.block g (h.lg.row g hg).2 (fun e => h.dg (by rw [hg, e])) (fun e => h.gg g hg e.symm)
  refine ⟨gd', ⟨h.lg.kept h2.size hck hgk, h1, h.bel.trans (h2.below h.bel.size h.ged (fun g hg => (h.rf.row g hg).1)), h.gec, h.ged, h.cd, ?_, h.dg, ?_, h.rs, ht⟩, h2, h3⟩
  · rcases h3 with e | e | ⟨g, e, hge⟩
    · rw [e]; exact h.cg
    · rw [e]; simp
    · rw [e]; intro e2; injection e2 with e2; omega
  · intro g hg
    rcases h3 with e | e | ⟨g', e, hge⟩
    · rw [e]; exact h.gg g hg
    · rw [e]; simp
    · rw [e]; intro e2; injection e2 with e2
      have := (h.lg.row g hg).2
      omega
end Go.Proofs.Ytcmcbocegdejjaa.Cl
