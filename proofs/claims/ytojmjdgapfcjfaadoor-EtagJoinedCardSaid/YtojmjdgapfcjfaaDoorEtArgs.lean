/- What the walks are told of a slice of marks that came in; no condition. -/
import Derived.Test.YtojmjdgapfcjfaaDoorEtNum
import Derived.Deep.SlicePairs
import Derived.ShutString
import Derived.ChangeOld
namespace Go.Proofs.YtojmjdgapfcjfaaDoor.Et
open Go.RowKit Ch Go.ChangeShapes Go.WideShapes
set_option linter.unusedSimpArgs false
set_option linter.unusedVariables false

def IsTags (w : World) (a : Option Addr) (len : Nat) (ts : List (Bool × ByteArray)) : Prop := ts.length = len ∧ len ≤ maxLen ∧ (∀ t ∈ ts, t.2.size ≤ maxLen) ∧
  (ts ≠ [] → ∃ b off, a = some ⟨b, off, none⟩ ∧ b < w.heap.size ∧ ∀ i (hi : i < ts.length), w.cell? ⟨b, off + i * 2, none⟩ = some (.bool ts[i].1) ∧ w.cell? ⟨b, off + i * 2 + 1, none⟩ = some (.string ts[i].2))
theorem tags_of {H : Type} {enc : TypeId × Value → H} {W : World} {a : Option Addr} {len cap : Nat} {d : DataW H} {p : List MemPlace} (h : DataW.Trod enc Tryd.prog W 0 (fun _ => true) true 42 (.slice a len cap) d p) : ∃ ts, IsTags W a len ts := by
  obtain ⟨fuel, hf⟩ := h
  rcases Deep.open_slice_pairs Tryd.underlying42 Tryd.underlying23 (by kernel_rfl) rfl rfl (by kernel_rfl) (by kernel_rfl) hf with ⟨hcs, _⟩ | ⟨x, l, c, m, n, V0, V1, D0, D1, P0, P1, hcs, hb, hl, hm, hmm, _, hx⟩
  · simp [Value.cells] at hcs
    obtain ⟨rfl, rfl, rfl⟩ := hcs
    exact ⟨[], rfl, by unfold maxLen; omega, fun t ht => by simp at ht, fun h => absurd rfl h⟩
  · simp [Value.cells] at hcs
    obtain ⟨rfl, rfl, rfl⟩ := hcs
    have hlm : len ≤ m := by rw [hmm]; simp; exact hl
    have each : ∀ i, i < len → ∃ t : Bool × ByteArray, W.cell? (x.add (i * 2)) = some (.bool t.1) ∧ W.cell? (x.add (i * 2 + 1)) = some (.string t.2) ∧ t.2.size ≤ maxLen := by
      intro i hi
      obtain ⟨h0, h1, h2, h3⟩ := hx i (by omega)
      obtain ⟨b, e0, _⟩ := DataW.trod_bool Tryd.underlying4 h2
      obtain ⟨s, e1, _, hs⟩ := DataW.trod_string Tryd.underlying9 h3
      have e0' : V0 i = .bool b := by simpa using e0
      have e1' : V1 i = .string s := by simpa using e1
      exact ⟨(b, s), by rw [h0, e0'], by rw [h1, e1'], hs⟩
    obtain ⟨q, hq⟩ := Deep.choose_lt each
    refine ⟨(List.range len).map q, by simp, Nat.le_trans hl hm, fun t ht => ?_, fun hne => ?_⟩
    · obtain ⟨i, hi, rfl⟩ := List.mem_map.1 ht
      exact (hq i (List.mem_range.1 hi)).2.2
    · have hp : 0 < len := by
        rcases Nat.eq_zero_or_pos len with h | h
        · subst h; simp at hne
        · exact h
      obtain ⟨b, off, spot⟩ := x
      have hc := (hq 0 hp).1
      have hspot : spot = none := by simpa [Addr.add] using World.cell?_spot hc
      subst hspot
      refine ⟨b, off, rfl, ?_, fun i hi => ?_⟩
      · have := World.block_lt_of_cell? W _ hc
        simpa [Addr.add] using this
      · have hi' : i < len := by simpa using hi
        obtain ⟨h0, h1, _⟩ := hq i hi'
        have e : ∀ j, (⟨b, off, none⟩ : Addr).add j = ⟨b, off + j, none⟩ := fun j => by unfold Addr.add; split <;> simp_all
        rw [e] at h0 h1
        simp only [List.getElem_map, List.getElem_range]
        exact ⟨h0, by rw [Nat.add_assoc]; exact h1⟩
def tl (ts : List (Bool × ByteArray)) : List TagL := ts.map fun t => (t.1, t.2.data.toList)
theorem tl_len (ts : List (Bool × ByteArray)) : (tl ts).length = ts.length := by simp [tl]
theorem tl_at {ts : List (Bool × ByteArray)} {j : Nat} (hj : j < ts.length) : (tl ts)[j]'(by rw [tl_len]; exact hj) = (ts[j].1, ts[j].2.data.toList) := by simp [tl]
theorem tl_take {ts : List (Bool × ByteArray)} {j : Nat} (hj : j < ts.length) : (tl ts).take (j + 1) = (tl ts).take j ++ [(ts[j].1, ts[j].2.data.toList)] := by
  rw [List.take_succ_eq_append_getElem (by rw [tl_len]; exact hj), tl_at hj]
theorem anyL_step {ts : List (Bool × ByteArray)} {j : Nat} (hj : j < ts.length) (e : Bool) (x : List UInt8) : (e || anyL ((tl ts).take (j + 1)) x) = ((e || anyL ((tl ts).take j) x) || (decide (ts[j].1 = false) && decide (ts[j].2.data.toList = x))) := by
  rw [tl_take hj]; unfold anyL; rw [List.any_append, Bool.or_assoc]; simp
/-- what lies when j marks have been put: the mark's block, the list's block, the marks -/
def HsR (w : World) (b e : Bool) (x : ByteArray) (L : List TagL) (wr : World) : Prop := ∃ ao c, wr.heap[w.heap.size]? = some (.cells #[.bool b, .string x] 23 (0, 0)) ∧ wr.heap[w.heap.size + 1]? = some (.cells #[.bool e, .slice ao L.length c] 39 (0, 0)) ∧ OwT 28 (w.heap.size + 2) (.slice ao L.length c) L wr ∧ Below w.heap.size w wr ∧ w.heap.size + 2 ≤ wr.heap.size
theorem HsR.go {w wr W : World} {b e : Bool} {x : ByteArray} {L : List TagL} (h : HsR w b e x L wr) (hb : Below wr.heap.size wr W) : HsR w b e x L W := by
  obtain ⟨ao, c, h0, h1, h2, h3, h4⟩ := h
  exact ⟨ao, c, (hb.block _ (by omega)).trans h0, (hb.block _ (by omega)).trans h1, h2.go hb, h3.trans (hb.mono h3.size), Nat.le_trans h4 hb.size⟩
end Go.Proofs.YtojmjdgapfcjfaaDoor.Et
