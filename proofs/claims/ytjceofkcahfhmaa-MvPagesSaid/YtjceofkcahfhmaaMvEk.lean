/- What the walks of mv's laws are told of a slice of calls that came in; no other condition. -/
import Derived.Test.YtjceofkcahfhmaaMvDj
import Derived.Deep.Strs
import Derived.Lib.SmallJoins
import Derived.ShutString
import Derived.ChangeOld
import Derived.ChangeSame
namespace Go.Proofs.Ytjceofkcahfhmaa.Mv
open Go.RowKit Go.Lib Go.Maps Go.Shelf Go.Sort Go.ChangeShapes Go.WideShapes
open Go.Proofs.Ytjceofkcahfhmaa.Cn
set_option linter.unusedSimpArgs false
set_option linter.unusedVariables false

/-- changes that came in, at any offset -/
def RdX (v : Value) (l : List ChT) (w : World) : Prop := ∃ ao cap, v = .slice ao l.length cap ∧ (0 < l.length → ∃ g off, ao = some ⟨g, off, none⟩ ∧ g < w.heap.size ∧ ∀ i (hi : i < l.length), w.cell? ⟨g, off + i * 3, none⟩ = some (.string l[i].1) ∧ w.cell? ⟨g, off + i * 3 + 1, none⟩ = some (.string l[i].2.1) ∧ w.cell? ⟨g, off + i * 3 + 2, none⟩ = some (.bool l[i].2.2))
theorem RdX.go {v : Value} {l : List ChT} {w W : World} (h : RdX v l w) (hb : Below w.heap.size w W) : RdX v l W := by
  obtain ⟨ao, cap, rfl, h⟩ := h
  refine ⟨ao, cap, rfl, fun h0 => ?_⟩
  obtain ⟨g, off, rfl, hg, h⟩ := h h0
  refine ⟨g, off, rfl, Nat.lt_of_lt_of_le hg hb.size, fun i hi => ?_⟩
  obtain ⟨h1, h2, h3⟩ := h i hi
  exact ⟨(hb.cell (p := ⟨g, off + i * 3, none⟩) hg).trans h1, (hb.cell (p := ⟨g, off + i * 3 + 1, none⟩) hg).trans h2, (hb.cell (p := ⟨g, off + i * 3 + 2, none⟩) hg).trans h3⟩
theorem rdx_at {ao : Option Addr} {cap n : Nat} {l : List ChT} {w : World} (h : RdX (.slice ao n cap) l w) (h0 : 0 < l.length) : ∃ g off, ao = some ⟨g, off, none⟩ ∧ g < w.heap.size ∧ ∀ i (hi : i < l.length), w.cell? ⟨g, off + i * 3, none⟩ = some (.string l[i].1) ∧ w.cell? ⟨g, off + i * 3 + 1, none⟩ = some (.string l[i].2.1) ∧ w.cell? ⟨g, off + i * 3 + 2, none⟩ = some (.bool l[i].2.2) := by
  obtain ⟨ao', cp, e, hh⟩ := h
  injection e with e1 e2 e3
  subst e1
  exact hh h0
/-- a call: its kind, its changes' slice, the changes, its revision, its key, its prefix, its number -/
abbrev OpT := Int × Value × List ChT × Int × ByteArray × ByteArray × Int
def opV (o : OpT) : Value := .agg #[.int .i64 o.1, o.2.1, .int .i64 o.2.2.2.1, .string o.2.2.2.2.1, .string o.2.2.2.2.2.1, .int .i64 o.2.2.2.2.2.2]
def OpOk (w : World) (o : OpT) : Prop := RdX o.2.1 o.2.2.1 w ∧ o.2.2.1.length ≤ maxLen ∧ (∀ x ∈ o.2.2.1, x.1.size ≤ maxLen) ∧ o.2.2.2.2.1.size ≤ maxLen
def IsOps (w : World) (a : Option Addr) (len : Nat) (ts : List OpT) : Prop := ts.length = len ∧ len ≤ maxLen ∧ (∀ o ∈ ts, OpOk w o) ∧
  (0 < len → ∃ b off, a = some ⟨b, off, none⟩ ∧ b < w.heap.size ∧ ∀ i (hi : i < ts.length), w.cell? ⟨b, off + i * 6, none⟩ = some (.int .i64 ts[i].1) ∧ w.cell? ⟨b, off + i * 6 + 1, none⟩ = some ts[i].2.1 ∧ w.cell? ⟨b, off + i * 6 + 2, none⟩ = some (.int .i64 ts[i].2.2.2.1) ∧ w.cell? ⟨b, off + i * 6 + 3, none⟩ = some (.string ts[i].2.2.2.2.1) ∧ w.cell? ⟨b, off + i * 6 + 4, none⟩ = some (.string ts[i].2.2.2.2.2.1) ∧ w.cell? ⟨b, off + i * 6 + 5, none⟩ = some (.int .i64 ts[i].2.2.2.2.2.2))
theorem OpOk.go {w W : World} {o : OpT} (h : OpOk w o) (hb : Below w.heap.size w W) : OpOk W o := ⟨h.1.go hb, h.2⟩
theorem IsOps.go {w W : World} {a : Option Addr} {len : Nat} {ts : List OpT} (h : IsOps w a len ts) (hb : Below w.heap.size w W) : IsOps W a len ts := by
  refine ⟨h.1, h.2.1, fun o ho => (h.2.2.1 o ho).go hb, fun h0 => ?_⟩
  obtain ⟨b, off, rfl, hlt, hat⟩ := h.2.2.2 h0
  refine ⟨b, off, rfl, Nat.lt_of_lt_of_le hlt hb.size, fun i hi => ?_⟩
  obtain ⟨h0, h1, h2, h3, h4, h5⟩ := hat i hi
  exact ⟨(hb.cell (p := ⟨b, off + i * 6, none⟩) hlt).trans h0, (hb.cell (p := ⟨b, off + i * 6 + 1, none⟩) hlt).trans h1, (hb.cell (p := ⟨b, off + i * 6 + 2, none⟩) hlt).trans h2, (hb.cell (p := ⟨b, off + i * 6 + 3, none⟩) hlt).trans h3, (hb.cell (p := ⟨b, off + i * 6 + 4, none⟩) hlt).trans h4, (hb.cell (p := ⟨b, off + i * 6 + 5, none⟩) hlt).trans h5⟩
theorem ceC : Try.prog.cellsOf 81 = 3 := by kernel_rfl
theorem ceO : Try.prog.cellsOf 31 = 6 := by kernel_rfl
theorem ceS : Try.prog.cellsOf 29 = 1 := by kernel_rfl
theorem ce2 : Try.prog.cellsOf 2 = 1 := by kernel_rfl
theorem ce3 : Try.prog.cellsOf 3 = 1 := by kernel_rfl
theorem ce4 : Try.prog.cellsOf 4 = 1 := by kernel_rfl
theorem ce9 : Try.prog.cellsOf 9 = 1 := by kernel_rfl
theorem trod_struct6 {H : Type} {enc : TypeId × Value → H} {P : Program} {w : World} {base : Nat} {spare : Nat → Bool} {held : Bool} {t : TypeId} {f0 f1 f2 f3 f4 f5 : Field} {fuel : Nat} {cs : List Value} {x : DataW H × List MemPlace} (ht : P.underlying t = some (.struct #[f0, f1, f2, f3, f4, f5])) (h : DataW.trod enc P w base spare held fuel t cs = some x) :
    ∃ y0 y1 y2 y3 y4 y5 n, DataW.trod enc P w base spare held n f0.type ((cs.drop f0.offset).take (P.cellsOf f0.type)) = some y0 ∧
      DataW.trod enc P w base spare held n f1.type ((cs.drop f1.offset).take (P.cellsOf f1.type)) = some y1 ∧ DataW.trod enc P w base spare held n f2.type ((cs.drop f2.offset).take (P.cellsOf f2.type)) = some y2 ∧
      DataW.trod enc P w base spare held n f3.type ((cs.drop f3.offset).take (P.cellsOf f3.type)) = some y3 ∧ DataW.trod enc P w base spare held n f4.type ((cs.drop f4.offset).take (P.cellsOf f4.type)) = some y4 ∧ DataW.trod enc P w base spare held n f5.type ((cs.drop f5.offset).take (P.cellsOf f5.type)) = some y5 := by
  obtain ⟨xs, n, _, rfl, hl, hlen, hf⟩ := DataW.trod_struct ht h
  match xs, hlen with
  | [y0, y1, y2, y3, y4, y5], _ => exact ⟨y0, y1, y2, y3, y4, y5, n, by simpa using hf 0 f0 rfl, by simpa using hf 1 f1 rfl, by simpa using hf 2 f2 rfl, by simpa using hf 3 f3 rfl, by simpa using hf 4 f4 rfl, by simpa using hf 5 f5 rfl⟩
set_option maxRecDepth 100000 in
set_option maxHeartbeats 1000000 in
/-- a slice of changes that came in -/
theorem chgs_of {H : Type} {enc : TypeId × Value → H} {W : World} {v : Value} {n : Nat} {x : DataW H × List MemPlace} (h : DataW.trod enc Try.prog W 0 (fun _ => true) true n 29 [v] = some x) : ∃ cs : List ChT, RdX v cs W ∧ cs.length ≤ maxLen ∧ ∀ x ∈ cs, x.1.size ≤ maxLen := by
  rcases Deep.open_slice Try.underlying29 h with ⟨hcs, _⟩ | ⟨x, l, c, m, k, D, Pl, hcs, hb, hl, hm, hmm, hx, hat⟩
  · obtain rfl : v = .slice none 0 0 := by simpa using hcs
    exact ⟨[], ⟨none, 0, rfl, fun h => absurd h (Nat.lt_irrefl _)⟩, by unfold maxLen; simp, fun x hx => by cases hx⟩
  · obtain rfl : v = .slice (some x) l c := by simpa using hcs
    have hlm : l ≤ m := by rw [hmm]; simp; exact hl
    have each : ∀ i, i < l → ∃ r : ChT, W.cell? (x.add (i * 3)) = some (.string r.1) ∧ W.cell? (x.add (i * 3 + 1)) = some (.string r.2.1) ∧ W.cell? (x.add (i * 3 + 2)) = some (.bool r.2.2) ∧ r.1.size ≤ maxLen := by
      intro i hi
      obtain ⟨cs', h1, h2⟩ := hat i (by omega)
      rw [ceC] at h1
      obtain ⟨_, hlen, hcell⟩ := World.cells?_some h1
      obtain ⟨y0, y1, y2, n', hxy, _, g0, g1, g2⟩ := Deep.trod_struct3 Try.underlying81 h2
      match cs', hlen with
      | [v0, v1, v2], _ =>
        simp [ce4, ce9] at g0 g1 g2
        have e0 := hcell 0 (by omega)
        have e1 := hcell 1 (by omega)
        have e2 := hcell 2 (by omega)
        rw [Deep.add_add] at e0 e1 e2
        obtain ⟨s0, q0, _, z0⟩ := DataW.trod_string Try.underlying9 g0
        obtain ⟨s1, q1, _, _⟩ := DataW.trod_string Try.underlying9 g1
        obtain ⟨b2, q2, _⟩ := DataW.trod_bool Try.underlying4 g2
        have q0' : v0 = .string s0 := by simpa using q0
        have q1' : v1 = .string s1 := by simpa using q1
        have q2' : v2 = .bool b2 := by simpa using q2
        subst q0' q1' q2'
        exact ⟨(s0, s1, b2), by simpa using e0, by simpa using e1, by simpa using e2, z0⟩
    obtain ⟨q, hq⟩ := Deep.choose_lt each
    have hql : ((List.range l).map q).length = l := by simp
    refine ⟨(List.range l).map q, ⟨some x, c, by rw [hql], fun hne => ?_⟩, by rw [hql]; omega, fun y hy => ?_⟩
    · rw [hql] at hne
      obtain ⟨b, off, spot⟩ := x
      have hc := (hq 0 hne).1
      have hspot : spot = none := by simpa [Addr.add] using World.cell?_spot hc
      subst hspot
      refine ⟨b, off, rfl, ?_, fun i hi => ?_⟩
      · have := World.block_lt_of_cell? W _ hc
        simpa [Addr.add] using this
      · have hi' : i < l := by simpa using hi
        obtain ⟨h0, h1, h2, _⟩ := hq i hi'
        rw [Addr.add_lit] at h0 h1 h2
        simp only [List.getElem_map, List.getElem_range]
        exact ⟨h0, by rw [Nat.add_assoc]; exact h1, by rw [Nat.add_assoc]; exact h2⟩
    · obtain ⟨i, hi, rfl⟩ := List.mem_map.1 hy
      exact (hq i (List.mem_range.1 hi)).2.2.2
set_option maxRecDepth 100000 in
set_option maxHeartbeats 2000000 in
theorem ops_of {H : Type} {enc : TypeId × Value → H} {W : World} {a : Option Addr} {len cap : Nat} {d : DataW H} {p : List MemPlace} (h : DataW.Trod enc Try.prog W 0 (fun _ => true) true 22 (.slice a len cap) d p) : ∃ ts, IsOps W a len ts := by
  obtain ⟨fuel, hf⟩ := h
  rcases Deep.open_slice Try.underlying22 hf with ⟨hcs, _⟩ | ⟨x, l, c, m, k, D, Pl, hcs, hb, hl, hm, hmm, hx, hat⟩
  · simp [Value.cells] at hcs
    obtain ⟨rfl, rfl, rfl⟩ := hcs
    exact ⟨[], rfl, by unfold maxLen; omega, (fun o ho => by cases ho), fun h => absurd h (Nat.not_lt_zero _)⟩
  · simp [Value.cells] at hcs
    obtain ⟨rfl, rfl, rfl⟩ := hcs
    have hlm : len ≤ m := by rw [hmm]; simp; exact hl
    have each : ∀ i, i < len → ∃ r : OpT, W.cell? (x.add (i * 6)) = some (.int .i64 r.1) ∧ W.cell? (x.add (i * 6 + 1)) = some r.2.1 ∧ W.cell? (x.add (i * 6 + 2)) = some (.int .i64 r.2.2.2.1) ∧ W.cell? (x.add (i * 6 + 3)) = some (.string r.2.2.2.2.1) ∧ W.cell? (x.add (i * 6 + 4)) = some (.string r.2.2.2.2.2.1) ∧ W.cell? (x.add (i * 6 + 5)) = some (.int .i64 r.2.2.2.2.2.2) ∧ OpOk W r := by
      intro i hi
      obtain ⟨cs', h1, h2⟩ := hat i (by omega)
      rw [ceO] at h1
      obtain ⟨_, hlen, hcell⟩ := World.cells?_some h1
      obtain ⟨y0, y1, y2, y3, y4, y5, n, g0, g1, g2, g3, g4, g5⟩ := trod_struct6 Try.underlying31 h2
      match cs', hlen with
      | [v0, v1, v2, v3, v4, v5], _ =>
        simp [ce2, ce3, ce9, ceS] at g0 g1 g2 g3 g4 g5
        have e0 := hcell 0 (by omega)
        have e1 := hcell 1 (by omega)
        have e2 := hcell 2 (by omega)
        have e3 := hcell 3 (by omega)
        have e4 := hcell 4 (by omega)
        have e5 := hcell 5 (by omega)
        rw [Deep.add_add] at e0 e1 e2 e3 e4 e5
        obtain ⟨a0, q0, _, _⟩ := DataW.trod_int Try.underlying3 g0
        obtain ⟨cs, hr⟩ := chgs_of g1
        obtain ⟨a2, q2, _, _⟩ := DataW.trod_int Try.underlying2 g2
        obtain ⟨s3, q3, _, z3⟩ := DataW.trod_string Try.underlying9 g3
        obtain ⟨s4, q4, _, _⟩ := DataW.trod_string Try.underlying9 g4
        obtain ⟨a5, q5, _, _⟩ := DataW.trod_int Try.underlying3 g5
        have q0' : v0 = .int .i64 a0 := by simpa using q0
        have q2' : v2 = .int .i64 a2 := by simpa using q2
        have q3' : v3 = .string s3 := by simpa using q3
        have q4' : v4 = .string s4 := by simpa using q4
        have q5' : v5 = .int .i64 a5 := by simpa using q5
        subst q0' q2' q3' q4' q5'
        exact ⟨(a0, v1, cs, a2, s3, s4, a5), by simpa using e0, by simpa using e1, by simpa using e2, by simpa using e3, by simpa using e4, by simpa using e5, hr.1, hr.2.1, hr.2.2, z3⟩
    obtain ⟨q, hq⟩ := Deep.choose_lt each
    have hql : ((List.range len).map q).length = len := by simp
    refine ⟨(List.range len).map q, hql, Nat.le_trans hl hm, fun o ho => ?_, fun hne => ?_⟩
    · obtain ⟨i, hi, rfl⟩ := List.mem_map.1 ho
      exact (hq i (List.mem_range.1 hi)).2.2.2.2.2.2
    · obtain ⟨b, off, spot⟩ := x
      have hc := (hq 0 hne).1
      have hspot : spot = none := by simpa [Addr.add] using World.cell?_spot hc
      subst hspot
      refine ⟨b, off, rfl, ?_, fun i hi => ?_⟩
      · have := World.block_lt_of_cell? W _ hc
        simpa [Addr.add] using this
      · have hi' : i < len := by simpa using hi
        obtain ⟨h0, h1, h2, h3, h4, h5, _⟩ := hq i hi'
        rw [Addr.add_lit] at h0 h1 h2 h3 h4 h5
        simp only [List.getElem_map, List.getElem_range]
        exact ⟨h0, by rw [Nat.add_assoc]; exact h1, by rw [Nat.add_assoc]; exact h2, by rw [Nat.add_assoc]; exact h3, by rw [Nat.add_assoc]; exact h4, by rw [Nat.add_assoc]; exact h5⟩
end Go.Proofs.Ytjceofkcahfhmaa.Mv
