/- What the walks of chain's laws are told of a slice of calls that came in; a call's versions, plain; rows of unlike types; no other condition. -/
import Derived.Test.YtfilammedofdoaaCnP
import Derived.Deep.Strs
import Derived.Lib.SmallJoins
import Derived.ShutString
import Derived.ChangeOld
namespace Go.Proofs.Ytfilammedofdoaa.Cn
open Go.RowKit Go.Lib Go.Shelf Go.Sort Go.ChangeShapes Go.WideShapes
set_option linter.unusedSimpArgs false
set_option linter.unusedVariables false

/-- a call: its kind, its version, from the last one on?, its revision -/
abbrev OpT := Int × Ver × Bool × Int
def opV (o : OpT) : Value := .agg #[.int .i64 o.1, .int .i64 o.2.1.1, .string o.2.1.2.1, .bool o.2.1.2.2, .bool o.2.2.1, .int .i64 o.2.2.2]
def IsOps (w : World) (a : Option Addr) (len : Nat) (ts : List OpT) : Prop := ts.length = len ∧ len ≤ maxLen ∧
  (0 < len → ∃ b off, a = some ⟨b, off, none⟩ ∧ b < w.heap.size ∧ ∀ i (hi : i < ts.length), w.cell? ⟨b, off + i * 6, none⟩ = some (.int .i64 ts[i].1) ∧ w.cell? ⟨b, off + i * 6 + 1, none⟩ = some (.int .i64 ts[i].2.1.1) ∧ w.cell? ⟨b, off + i * 6 + 2, none⟩ = some (.string ts[i].2.1.2.1) ∧ w.cell? ⟨b, off + i * 6 + 3, none⟩ = some (.bool ts[i].2.1.2.2) ∧ w.cell? ⟨b, off + i * 6 + 4, none⟩ = some (.bool ts[i].2.2.1) ∧ w.cell? ⟨b, off + i * 6 + 5, none⟩ = some (.int .i64 ts[i].2.2.2))
theorem ceO : Try.prog.cellsOf 29 = 6 := by kernel_rfl
theorem ceV : Try.prog.cellsOf 27 = 3 := by kernel_rfl
theorem ce2 : Try.prog.cellsOf 2 = 1 := by kernel_rfl
theorem ce3 : Try.prog.cellsOf 3 = 1 := by kernel_rfl
theorem ce4 : Try.prog.cellsOf 4 = 1 := by kernel_rfl
theorem ce9 : Try.prog.cellsOf 9 = 1 := by kernel_rfl
set_option maxRecDepth 100000 in
set_option maxHeartbeats 1000000 in
theorem ops_of {H : Type} {enc : TypeId × Value → H} {W : World} {a : Option Addr} {len cap : Nat} {d : DataW H} {p : List MemPlace} (h : DataW.Trod enc Try.prog W 0 (fun _ => true) true 22 (.slice a len cap) d p) : ∃ ts, IsOps W a len ts := by
  obtain ⟨fuel, hf⟩ := h
  rcases Deep.open_slice Try.underlying22 hf with ⟨hcs, _⟩ | ⟨x, l, c, m, k, D, Pl, hcs, hb, hl, hm, hmm, hx, hat⟩
  · simp [Value.cells] at hcs
    obtain ⟨rfl, rfl, rfl⟩ := hcs
    exact ⟨[], rfl, by unfold maxLen; omega, fun h => absurd h (Nat.not_lt_zero _)⟩
  · simp [Value.cells] at hcs
    obtain ⟨rfl, rfl, rfl⟩ := hcs
    have hlm : len ≤ m := by rw [hmm]; simp; exact hl
    have each : ∀ i, i < len → ∃ r : OpT, W.cell? (x.add (i * 6)) = some (.int .i64 r.1) ∧ W.cell? (x.add (i * 6 + 1)) = some (.int .i64 r.2.1.1) ∧ W.cell? (x.add (i * 6 + 2)) = some (.string r.2.1.2.1) ∧ W.cell? (x.add (i * 6 + 3)) = some (.bool r.2.1.2.2) ∧ W.cell? (x.add (i * 6 + 4)) = some (.bool r.2.2.1) ∧ W.cell? (x.add (i * 6 + 5)) = some (.int .i64 r.2.2.2) := by
      intro i hi
      obtain ⟨cs', h1, h2⟩ := hat i (by omega)
      rw [ceO] at h1
      obtain ⟨_, hlen, hcell⟩ := World.cells?_some h1
      obtain ⟨y0, y1, y2, y3, n, hxy, _, g0, g1, g2, g3⟩ := Go.Joins.trod_struct4 Try.underlying29 h2
      match cs', hlen with
      | [v0, v1, v2, v3, v4, v5], _ =>
        simp [ce2, ce3, ce4, ceV] at g0 g1 g2 g3
        obtain ⟨z0, z1, z2, n', hz, _, k0, k1, k2⟩ := Deep.trod_struct3 Try.underlying27 g1
        simp [ce2, ce4, ce9] at k0 k1 k2
        have e0 := hcell 0 (by omega)
        have e1 := hcell 1 (by omega)
        have e2 := hcell 2 (by omega)
        have e3 := hcell 3 (by omega)
        have e4 := hcell 4 (by omega)
        have e5 := hcell 5 (by omega)
        rw [Deep.add_add] at e0 e1 e2 e3 e4 e5
        obtain ⟨a0, q0, _, _⟩ := DataW.trod_int Try.underlying3 g0
        obtain ⟨a1, q1, _, _⟩ := DataW.trod_int Try.underlying2 k0
        obtain ⟨s2, q2, _, _⟩ := DataW.trod_string Try.underlying9 k1
        obtain ⟨b3, q3, _⟩ := DataW.trod_bool Try.underlying4 k2
        obtain ⟨b4, q4, _⟩ := DataW.trod_bool Try.underlying4 g2
        obtain ⟨a5, q5, _, _⟩ := DataW.trod_int Try.underlying2 g3
        have q0' : v0 = .int .i64 a0 := by simpa using q0
        have q1' : v1 = .int .i64 a1 := by simpa using q1
        have q2' : v2 = .string s2 := by simpa using q2
        have q3' : v3 = .bool b3 := by simpa using q3
        have q4' : v4 = .bool b4 := by simpa using q4
        have q5' : v5 = .int .i64 a5 := by simpa using q5
        subst q0' q1' q2' q3' q4' q5'
        exact ⟨(a0, (a1, s2, b3), b4, a5), by simpa using e0, by simpa using e1, by simpa using e2, by simpa using e3, by simpa using e4, by simpa using e5⟩
    obtain ⟨q, hq⟩ := Deep.choose_lt each
    have hql : ((List.range len).map q).length = len := by simp
    refine ⟨(List.range len).map q, hql, Nat.le_trans hl hm, fun hne => ?_⟩
    obtain ⟨b, off, spot⟩ := x
    have hc := (hq 0 hne).1
    have hspot : spot = none := by simpa [Addr.add] using World.cell?_spot hc
    subst hspot
    refine ⟨b, off, rfl, ?_, fun i hi => ?_⟩
    · have := World.block_lt_of_cell? W _ hc
      simpa [Addr.add] using this
    · have hi' : i < len := by simpa using hi
      obtain ⟨h0, h1, h2, h3, h4, h5⟩ := hq i hi'
      have e : ∀ j, (⟨b, off, none⟩ : Addr).add j = ⟨b, off + j, none⟩ := fun j => by unfold Addr.add; split <;> simp_all
      rw [e] at h0 h1 h2 h3 h4 h5
      simp only [List.getElem_map, List.getElem_range]
      exact ⟨h0, by rw [Nat.add_assoc]; exact h1, by rw [Nat.add_assoc]; exact h2, by rw [Nat.add_assoc]; exact h3, by rw [Nat.add_assoc]; exact h4, by rw [Nat.add_assoc]; exact h5⟩
theorem IsOps.go {w W : World} {a : Option Addr} {len : Nat} {ts : List OpT} (h : IsOps w a len ts) (hb : Below w.heap.size w W) : IsOps W a len ts := by
  refine ⟨h.1, h.2.1, fun h0 => ?_⟩
  obtain ⟨b, off, rfl, hlt, hat⟩ := h.2.2 h0
  refine ⟨b, off, rfl, Nat.lt_of_lt_of_le hlt hb.size, fun i hi => ?_⟩
  obtain ⟨h0, h1, h2, h3, h4, h5⟩ := hat i hi
  exact ⟨(hb.cell (p := ⟨b, off + i * 6, none⟩) hlt).trans h0, (hb.cell (p := ⟨b, off + i * 6 + 1, none⟩) hlt).trans h1, (hb.cell (p := ⟨b, off + i * 6 + 2, none⟩) hlt).trans h2, (hb.cell (p := ⟨b, off + i * 6 + 3, none⟩) hlt).trans h3, (hb.cell (p := ⟨b, off + i * 6 + 4, none⟩) hlt).trans h4, (hb.cell (p := ⟨b, off + i * 6 + 5, none⟩) hlt).trans h5⟩
/-- the low three bits -/
def lo3 (x : Int) : Int := bits .and .i64 x 7
theorem lo3_bd (x : Int) : 0 ≤ lo3 x ∧ lo3 x ≤ 7 := by
  unfold lo3 bits
  have h : (BitVec.ofInt IntKind.i64.bits x &&& BitVec.ofInt IntKind.i64.bits 7).toNat ≤ 7 := by
    rw [BitVec.toNat_and]
    exact Nat.le_trans Nat.and_le_right (by decide)
  simp only
  rw [IntKind.wrap_i64]
  omega
/-- the version that a call puts -/
def addv (l : List Ver) (o : OpT) : Ver := if o.2.2.1 = true ∧ 0 < l.length then ((lastV l).1 + lo3 o.2.1.1, o.2.1.2) else o.2.1
def stepL (l : List Ver) (o : OpT) : List Ver := if o.1 = 0 ∨ o.1 = 1 ∨ o.1 = 2 then putL l (addv l o) else if o.1 = 3 then cmp l o.2.2.2 else l
def Bnd (l : List Ver) : Prop := ∀ x ∈ l, 1 ≤ x.1 ∧ x.1 ≤ 9007199254740991
theorem Bnd.put {l : List Ver} (h : Bnd l) (v : Ver) : Bnd (putL l v) := by
  unfold putL
  split
  · rename_i he
    intro x hx
    rcases List.mem_append.1 hx with hx | hx
    · exact h x hx
    · rw [List.mem_singleton.1 hx]
      unfold putE at he
      split at he
      · omega
      · omega
  · exact h
theorem Bnd.cmp {l : List Ver} (h : Bnd l) (rev : Int) : Bnd (cmp l rev) := fun x hx => h x (List.mem_of_mem_drop hx)
theorem Bnd.step {l : List Ver} (h : Bnd l) (o : OpT) : Bnd (stepL l o) := by
  unfold stepL
  split
  · exact h.put _
  · split
    · exact h.cmp _
    · exact h
theorem step_asc {l : List Ver} (h : Asc l) (o : OpT) : Asc (stepL l o) := by
  unfold stepL
  split
  · exact putL_asc h _
  · split
    · exact cmp_asc h _
    · exact h
theorem step_len (l : List Ver) (o : OpT) : (stepL l o).length ≤ l.length + 1 := by
  unfold stepL
  split
  · exact putL_len l _
  · split
    · rw [cmp_len]; omega
    · omega
/-- the document's row stays where the chain changes -/
theorem own_chg {B c N : Nat} {gb : Option Nat} {l ys : List Ver} {v : Value} {w w' : World} (h : OwV 27 B v ys w) (hc : IsCh B c N gb l w) (hg : Chg c gb w w') : OwV 27 B v ys w' := by
  obtain ⟨h1, h2⟩ := h
  refine ⟨h1, ?_⟩
  rcases h2 with h2 | ⟨g, cap, cur, hv, hb, hgh, rest⟩
  · exact .inl h2
  · obtain ⟨cv, all, k, e1, e2, e3, e4, e5, e6⟩ := hc
    refine .inr ⟨g, cap, cur, hv, hb, ?_, rest⟩
    have hgl : g < w.heap.size := (Array.getElem?_eq_some_iff.1 hgh).1
    rw [hg.block g hgl ?_ ?_]
    · exact hgh
    · intro e
      subst e
      rw [hgh] at e5
      injection e5 with e5
      injection e5 with _ e5
      exact absurd e5 (by decide)
    · intro e
      have := own_ne e6 hgh (by decide)
      exact this (by rw [e1]; exact e)
theorem Put_all {N c : Nat} {gb : Option Nat} {l : List Ver} {w W : World} (h : Kc N c gb l w W) (v : Ver) (hN : N + 1 ≤ 1000000) :
    Calls Try.prog 17 #[.pointer (some ⟨c, 0, none⟩), aggV v] W (PtQ w.heap.size c (N + 1) gb (putL l v) (putE l v) W) := by
  have hup : ∀ {l' : List Ver} {r : Int} {e : Ending} {V : World}, PtQ w.heap.size c N gb l' r W e V → PtQ w.heap.size c (N + 1) gb l' r W e V := fun hq => by
    obtain ⟨he, gb', hc, hh⟩ := hq
    exact ⟨he, gb', hc.up (Nat.le_succ _), hh⟩
  by_cases ha : v.1 < 1 ∨ 9007199254740991 < v.1
  · obtain ⟨e1, e2⟩ := putE_arg (l := l) ha
    rw [e1, e2]
    exact (put_arg w.heap.size c N gb l v W h.ch (by omega) ha).mono fun e V hq => hup hq
  · by_cases hl : 0 < l.length
    · have hany := any_last h.asc v.1 hl
      have hlv : lastV l = l[l.length - 1]'(by omega) := by unfold lastV; rw [getD_at (by omega)]
      have hlb : lastB l = true := by unfold lastB; simpa using hl
      by_cases hle : v.1 ≤ (l[l.length - 1]'(by omega)).1
      · obtain ⟨e1, e2⟩ := putE_state (l := l) (v := v) (by omega) (by omega) (by rw [hany, decide_eq_true hle])
        rw [e1, e2]
        exact (put_state w.heap.size c N gb l v W h.ch (by omega) (by omega) (by omega) hlb (by rw [hlv]; exact hle)).mono fun e V hq => hup hq
      · obtain ⟨e1, e2⟩ := putE_ok (l := l) (v := v) (by omega) (by omega) (by rw [hany, decide_eq_false hle])
        rw [e1, e2]
        exact put_ok w.heap.size c N gb l v W h.ch hN h.bel.size (by omega) (by omega) true hlb (fun _ => by rw [hlv]; omega)
    · obtain rfl : l = [] := List.eq_nil_of_length_eq_zero (by omega)
      obtain ⟨e1, e2⟩ := putE_ok (l := []) (v := v) (by omega) (by omega) rfl
      rw [e1, e2]
      exact put_ok w.heap.size c N gb [] v W h.ch hN h.bel.size (by omega) (by omega) false rfl (fun h => by cases h)
end Go.Proofs.Ytfilammedofdoaa.Cn
