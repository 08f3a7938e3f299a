/- What the walks are told of a slice of replies that came in; rows of replies of the call's own; no condition. -/
import Derived.Test.YtolfenachbbjdaaDoorRpQ
import Derived.Deep.Strs
namespace Go.Proofs.YtolfenachbbjdaaDoor.Rp
open Go.RowKit Ch Hd Go.ChangeShapes Go.WideShapes
set_option linter.unusedSimpArgs false
set_option linter.unusedVariables false

/-- a reply as it lies: its status, its fields' slice, the fields, its body -/
abbrev Rp := Int × Value × List FB × ByteArray
def GoodA (W : World) (r : Rp) : Prop := (∃ ao cap, r.2.1 = .slice ao r.2.2.1.length cap ∧ r.2.2.1.length ≤ cap ∧ cap ≤ maxLen) ∧ RdF r.2.1 r.2.2.1 W ∧ (Lit.int .i64 r.1).wf = true ∧ r.2.2.2.size ≤ maxLen
def flR (r : Rp) : Nat := (r.2.2.1.flatMap fldB).length
def totF : List Rp → Nat
  | [] => 0
  | r :: t => flR r + totF t
theorem tot_app : ∀ (a b : List Rp), totF (a ++ b) = totF a + totF b
  | [], b => by simp [totF]
  | x :: t, b => by rw [List.cons_append, totF, totF, tot_app t b]; omega
theorem tot_take (rs : List Rp) (j : Nat) : totF (rs.take j) ≤ totF rs := by
  conv => rhs; rw [← List.take_append_drop j rs, tot_app]
  omega
theorem tot_snoc {rs : List Rp} {j : Nat} (hj : j < rs.length) : totF (rs.take (j + 1)) = totF (rs.take j) + flR rs[j] := by
  rw [List.take_succ_eq_append_getElem hj, tot_app]; simp [totF]
theorem tot_mem {rs : List Rp} {r : Rp} (h : r ∈ rs) : flR r ≤ totF rs := by
  obtain ⟨a, b, rfl⟩ := List.append_of_mem h
  rw [tot_app, totF]; omega
theorem tot_bulk {H : Type} {D : Nat → DataW H} {q : Nat → Rp} : ∀ (L : List Nat), (∀ i ∈ L, 3 * flR (q i) ≤ 4 * Rows.uptoBulk (D i)) → 3 * totF (L.map q) ≤ 4 * Rows.uptoBulkAll (L.map D)
  | [], _ => by simp [totF]
  | x :: r, h => by
    have ih := tot_bulk r (fun i hi => h i (List.mem_cons_of_mem _ hi))
    have hx := h x (List.mem_cons_self ..)
    rw [List.map_cons, List.map_cons, totF]
    simp only [Rows.uptoBulkAll]
    omega
theorem ce : Tryd.prog.cellsOf 24 = 3 := by kernel_rfl
theorem ce3 : Tryd.prog.cellsOf 3 = 1 := by kernel_rfl
theorem ceS : Tryd.prog.cellsOf 22 = 1 := by kernel_rfl
theorem ce9 : Tryd.prog.cellsOf 9 = 1 := by kernel_rfl
set_option maxRecDepth 100000 in
/-- a slice of replies that came in -/
theorem reps_of {H : Type} {enc : TypeId × Value → H} {W : World} {a : Option Addr} {len cap : Nat} {d : DataW H} {p : List MemPlace} (h : DataW.Trod enc Tryd.prog W 0 (fun _ => true) true 48 (.slice a len cap) d p) :
    ∃ rs : List Rp, rs.length = len ∧ len ≤ maxLen ∧ (0 < len → ∃ g off, a = some ⟨g, off, none⟩ ∧ g < W.heap.size ∧ ∀ i (hi : i < rs.length), W.cell? ⟨g, off + i * 3, none⟩ = some (.int .i64 rs[i].1) ∧ W.cell? ⟨g, off + i * 3 + 1, none⟩ = some rs[i].2.1 ∧ W.cell? ⟨g, off + i * 3 + 2, none⟩ = some (.string rs[i].2.2.2)) ∧ (∀ r ∈ rs, GoodA W r) ∧ 3 * totF rs ≤ 4 * Rows.uptoBulk d := by
  obtain ⟨fuel, hf⟩ := h
  rcases Deep.open_slice Tryd.underlying48 hf with ⟨hcs, _⟩ | ⟨x, l, c, m, k, D, Pl, hcs, hb, hl, hm, hmm, hx, hat⟩
  · simp [Value.cells] at hcs
    obtain ⟨rfl, rfl, rfl⟩ := hcs
    exact ⟨[], rfl, Nat.zero_le _, fun h => absurd h (Nat.not_lt_zero _), (fun r hr => by cases hr), by simp [totF]⟩
  · simp [Value.cells] at hcs
    obtain ⟨rfl, rfl, rfl⟩ := hcs
    have hlm : len ≤ m := by rw [hmm]; simp; exact hl
    have hd := congrArg Prod.fst hx
    simp only at hd
    have each : ∀ i, i < len → ∃ r : Rp, (W.cell? (x.add (i * 3)) = some (.int .i64 r.1) ∧ W.cell? (x.add (i * 3 + 1)) = some r.2.1 ∧ W.cell? (x.add (i * 3 + 2)) = some (.string r.2.2.2)) ∧ GoodA W r ∧ 3 * flR r ≤ 4 * Rows.uptoBulk (D i) := by
      intro i hi
      obtain ⟨cs', h1, h2⟩ := hat i (by omega)
      rw [ce] at h1
      obtain ⟨_, hlen, hcell⟩ := World.cells?_some h1
      obtain ⟨y0, y1, y2, n, hxy, _, g0, g1, g2⟩ := Deep.trod_struct3 Tryd.underlying24 h2
      match cs', hlen with
      | [v0, v1, v2], _ =>
        simp [ce3, ceS, ce9] at g0 g1 g2
        have e0 := hcell 0 (by omega)
        have e1 := hcell 1 (by omega)
        have e2 := hcell 2 (by omega)
        rw [Deep.add_add] at e0 e1 e2
        obtain ⟨a0, q0, _, w0⟩ := DataW.trod_int Tryd.underlying3 g0
        obtain ⟨ao, cap', fs, q1, hrd, hlc, hcm, hbk⟩ := flds_of2 g1
        obtain ⟨s2, q2, _, w2⟩ := DataW.trod_string Tryd.underlying9 g2
        have q0' : v0 = .int .i64 a0 := by simpa using q0
        have q2' : v2 = .string s2 := by simpa using q2
        subst q0' q2' q1
        refine ⟨(a0, .slice ao fs.length cap', fs, s2), ⟨by simpa using e0, by simpa using e1, by simpa using e2⟩, ⟨⟨ao, cap', rfl, hlc, hcm⟩, hrd, w0, w2⟩, ?_⟩
        have hD : D i = .agg [y0.1, y1.1, y2.1] := by simpa using congrArg Prod.fst hxy
        rw [hD]
        simp only [Rows.uptoBulk, Rows.uptoBulkAll]
        show 3 * (fs.flatMap fldB).length ≤ _
        omega
    obtain ⟨q, hq⟩ := Deep.choose_lt each
    have hql : ((List.range len).map q).length = len := by simp
    refine ⟨(List.range len).map q, hql, Nat.le_trans hl hm, fun hne => ?_, fun r hr => ?_, ?_⟩
    · obtain ⟨b, off, spot⟩ := x
      have hc := (hq 0 hne).1.1
      have hspot : spot = none := by simpa [Addr.add] using World.cell?_spot hc
      subst hspot
      refine ⟨b, off, rfl, ?_, fun i hi => ?_⟩
      · have := World.block_lt_of_cell? W _ hc
        simpa [Addr.add] using this
      · have hi' : i < len := by simpa using hi
        obtain ⟨⟨h0, h1, h2⟩, _⟩ := hq i hi'
        have e : ∀ j, (⟨b, off, none⟩ : Addr).add j = ⟨b, off + j, none⟩ := fun j => by unfold Addr.add; split <;> simp_all
        rw [e] at h0 h1 h2
        simp only [List.getElem_map, List.getElem_range]
        exact ⟨h0, by rw [Nat.add_assoc]; exact h1, by rw [Nat.add_assoc]; exact h2⟩
    · obtain ⟨i, hi, rfl⟩ := List.mem_map.1 hr
      exact (hq i (List.mem_range.1 hi)).2.1
    · have hs := tot_bulk (D := D) (q := q) (List.range len) (fun i hi => (hq i (List.mem_range.1 hi)).2.2)
      rw [hd]
      simp only [Rows.uptoBulk]
      omega
def rC (ws : List Rp) : List Value := ws.flatMap fun x => [.int .i64 x.1, x.2.1, .string x.2.2.2]
theorem rC_snoc (ws : List Rp) (x : Rp) : rC (ws ++ [x]) = rC ws ++ [.int .i64 x.1, x.2.1, .string x.2.2.2] := by unfold rC; rw [List.flatMap_append, List.flatMap_singleton]
theorem rC_len (ws : List Rp) : (rC ws).length = ws.length * 3 := by
  induction ws with
  | nil => rfl
  | cons x r ih => show (_ :: _ :: _ :: rC r).length = _; simp [ih]; omega
theorem rC_at : ∀ (ws : List Rp) (k : Nat) (hk : k < ws.length), (rC ws)[k * 3]? = some (.int .i64 ws[k].1) ∧ (rC ws)[k * 3 + 1]? = some ws[k].2.1 ∧ (rC ws)[k * 3 + 2]? = some (.string ws[k].2.2.2)
  | [], k, hk => absurd hk (Nat.not_lt_zero _)
  | x :: r, 0, _ => ⟨rfl, rfl, rfl⟩
  | x :: r, k + 1, hk => by
    have h := rC_at r k (by simpa using hk)
    have e : (k + 1) * 3 = k * 3 + 3 := by omega
    rw [e]
    exact h
/-- a slice of replies of the call's own -/
def OwR (B : Nat) (v : Value) (ws : List Rp) (w : World) : Prop := w.ownsRow B 24 3 v ws.length (rC ws)
theorem OwR.go {B : Nat} {v : Value} {ws : List Rp} {w w' : World} (h : OwR B v ws w) (hb : Below w.heap.size w w') : OwR B v ws w' :=
  World.ownsRow.kept h (row := none) ⟨hb.os, hb.tape, hb.output, hb.size, fun k hk _ => hb.block k hk⟩ (by cases hv : v.ownBlock <;> simp)
theorem owr_at {B : Nat} {v : Value} {ws : List Rp} {w : World} (h : OwR B v ws w) (hn : 0 < ws.length) : ∃ g cap, v = .slice (some ⟨g, 0, none⟩) ws.length cap ∧ g < w.heap.size ∧ ∀ i (hi : i < ws.length), w.cell? ⟨g, i * 3, none⟩ = some (.int .i64 ws[i].1) ∧ w.cell? ⟨g, i * 3 + 1, none⟩ = some ws[i].2.1 ∧ w.cell? ⟨g, i * 3 + 2, none⟩ = some (.string ws[i].2.2.2) := by
  rcases h.2 with ⟨rfl, h0⟩ | ⟨g, cap, cur, rfl, hB, hg, hc, hcm, hsz, htk⟩
  · omega
  · refine ⟨g, cap, rfl, (Array.getElem?_eq_some_iff.1 hg).1, fun i hi => ?_⟩
    have hl := rC_len ws
    rw [cell_of_row _ _ _ _ _ _ hg, cell_of_row _ _ _ _ _ _ hg, cell_of_row _ _ _ _ _ _ hg]
    have hp := rC_at ws i hi
    rw [← htk, List.getElem?_take_of_lt (by omega), List.getElem?_take_of_lt (by omega), List.getElem?_take_of_lt (by omega), Array.getElem?_toList, Array.getElem?_toList, Array.getElem?_toList] at hp
    exact hp
theorem infoP : (Tryd.prog.info? 24).map (fun i => (i.zero, i.size, i.bytes)) = some (some (.agg #[.int .i64 0, .slice none 0 0, .string ⟨#[]⟩]), 3, 48) := by kernel_rfl
/-- a reply that was written: right, within bounds -/
def GoodW (W : World) (x : Rp) : Prop := (∃ ao cap, x.2.1 = .slice ao x.2.2.1.length cap) ∧ RdF x.2.1 x.2.2.1 W ∧ rightB x.1 x.2.2.1 x.2.2.2 = true ∧ x.2.2.1.length ≤ 6 ∧ x.2.2.2.size ≤ 200 ∧ flR x ≤ 1398102
def encW (x : Rp) : List UInt8 := encL x.1 x.2.2.1 x.2.2.2
end Go.Proofs.YtolfenachbbjdaaDoor.Rp
