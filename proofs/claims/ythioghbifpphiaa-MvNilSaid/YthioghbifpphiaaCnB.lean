/- Contracts of package chain's kept, upTo, Len: at every chain of the call's own; no other condition. -/
import Derived.Test.YthioghbifpphiaaCnA
import Derived.Test.YthioghbifpphiaaCnS
import Derived.Deep.QuietTactic
import Derived.BigQuiet
namespace Go.Proofs.Ythioghbifpphiaa.Cn
open Go.RowKit Go.Lib Go.Shelf Go.Sort
set_option linter.unusedSimpArgs false
set_option linter.unusedVariables false

/-- versions that can be read -/
def RdV (v : Value) (l : List Ver) (w : World) : Prop := ∃ ao cap, v = .slice ao l.length cap ∧ (0 < l.length → ∃ g off, ao = some ⟨g, off, none⟩ ∧ g < w.heap.size ∧ ∀ i (hi : i < l.length), w.cell? ⟨g, off + i * 3, none⟩ = some (.int .i64 l[i].1) ∧ w.cell? ⟨g, off + i * 3 + 1, none⟩ = some (.string l[i].2.1) ∧ w.cell? ⟨g, off + i * 3 + 2, none⟩ = some (.bool l[i].2.2))
theorem RdV.go {v : Value} {l : List Ver} {w W : World} (h : RdV v l w) (hb : Below w.heap.size w W) : RdV v l W := by
  obtain ⟨ao, cap, rfl, h⟩ := h
  refine ⟨ao, cap, rfl, fun h0 => ?_⟩
  obtain ⟨g, off, rfl, hg, hc⟩ := h h0
  refine ⟨g, off, rfl, Nat.lt_of_lt_of_le hg hb.size, fun i hi => ?_⟩
  obtain ⟨a, b, c⟩ := hc i hi
  exact ⟨(hb.cell (p := ⟨g, off + i * 3, none⟩) hg).trans a, (hb.cell (p := ⟨g, off + i * 3 + 1, none⟩) hg).trans b, (hb.cell (p := ⟨g, off + i * 3 + 2, none⟩) hg).trans c⟩
theorem rdv_at {ao : Option Addr} {cap n : Nat} {l : List Ver} {w : World} (h : RdV (.slice ao n cap) l w) (h0 : 0 < l.length) : ∃ g off, ao = some ⟨g, off, none⟩ ∧ g < w.heap.size ∧ ∀ i (hi : i < l.length), w.cell? ⟨g, off + i * 3, none⟩ = some (.int .i64 l[i].1) ∧ w.cell? ⟨g, off + i * 3 + 1, none⟩ = some (.string l[i].2.1) ∧ w.cell? ⟨g, off + i * 3 + 2, none⟩ = some (.bool l[i].2.2) := by
  obtain ⟨ao', cp, e, hh⟩ := h
  injection e with ea eb ec
  subst ea
  exact hh h0
theorem rdv_nil (ao : Option Addr) (cap : Nat) (w : World) : RdV (.slice ao 0 cap) [] w := ⟨ao, cap, rfl, fun h => absurd h (Nat.lt_irrefl _)⟩
/-- a row of one's own -/
def OwV (T : TypeId) (B : Nat) (v : Value) (l : List Ver) (w : World) : Prop := w.ownsRow B T 3 v l.length (vC l)
theorem OwV.go {T : TypeId} {B : Nat} {v : Value} {l : List Ver} {w w' : World} (h : OwV T B v l w) (hb : Below w.heap.size w w') : OwV T B v l w' :=
  World.ownsRow.kept h (row := none) ⟨hb.os, hb.tape, hb.output, hb.size, fun k hk _ => hb.block k hk⟩ (by cases hv : v.ownBlock <;> simp)
theorem OwV.drop {T : TypeId} {B g n cap : Nat} {l : List Ver} {w : World} (h : OwV T B (.slice (some ⟨g, 0, none⟩) n cap) l w) (k : Nat) (hk : k ≤ l.length) (c2 : Nat) : RdV (.slice (some ⟨g, k * 3, none⟩) (l.length - k) c2) (l.drop k) w := by
  obtain ⟨_, h⟩ := h
  rcases h with ⟨h, _⟩ | ⟨g', cap', cur, hv, _, hgh, _, _, hz, htk⟩
  · cases h
  · injection hv with h1 h2 h3
    injection h1 with h1
    injection h1 with h1
    subst h1 h3
    refine ⟨_, _, by rw [List.length_drop], fun _ => ⟨g, k * 3, rfl, (Array.getElem?_eq_some_iff.1 hgh).1, fun i hi => ?_⟩⟩
    have hi' : k + i < l.length := by rw [List.length_drop] at hi; omega
    have e : (l.drop k)[i] = l[k + i] := by simp
    rw [e]
    have hat := vC_at l (k + i) hi'
    have hcur : ∀ j, j < l.length * 3 → cur[j]? = (vC l)[j]? := fun j hj => by
      rw [← htk, List.getElem?_take_of_lt hj, Array.getElem?_toList]
    refine ⟨?_, ?_, ?_⟩
    · rw [cell_of_row _ _ _ _ _ _ hgh, hcur _ (by omega), show k * 3 + i * 3 = (k + i) * 3 by omega]; exact hat.1
    · rw [cell_of_row _ _ _ _ _ _ hgh, hcur _ (by omega), show k * 3 + i * 3 + 1 = (k + i) * 3 + 1 by omega]; exact hat.2.1
    · rw [cell_of_row _ _ _ _ _ _ hgh, hcur _ (by omega), show k * 3 + i * 3 + 2 = (k + i) * 3 + 2 by omega]; exact hat.2.2
theorem own_slV {T : TypeId} {B k n : Nat} {v : Value} {xs : List Value} {w : World} (h : w.ownsRow B T k v n xs) : (v = .slice none 0 0 ∧ n = 0) ∨ ∃ g cap, v = .slice (some ⟨g, 0, none⟩) n cap ∧ n ≤ cap ∧ cap ≤ maxLen ∧ g < w.heap.size := by
  rcases h.2 with h | ⟨g, cap, cur, hv, _, hgh, hn, hm, _⟩
  · exact .inl h
  · exact .inr ⟨g, cap, hv, hn, hm, (Array.getElem?_eq_some_iff.1 hgh).1⟩
theorem OwV.rd {T : TypeId} {B : Nat} {v : Value} {l : List Ver} {w : World} (h : OwV T B v l w) : RdV v l w := by
  rcases own_slV h with ⟨rfl, h0⟩ | ⟨g, cap, rfl, _⟩
  · cases l with
    | nil => exact rdv_nil _ _ _
    | cons => simp at h0
  · have := h.drop 0 (Nat.zero_le _) cap
    simpa using this
/-- a chain of one's own: the block, at most so many versions in its row, the row's block -/
def IsCh (B c N : Nat) (gb : Option Nat) (l : List Ver) (W : World) : Prop := ∃ v all, ∃ k : Nat, v.ownBlock = gb ∧ k ≤ all.length ∧ all.length ≤ N ∧ all.drop k = l ∧ W.heap[c]? = some (.cells #[v, .int .i64 (k : Int)] 108 (0, 0)) ∧ OwV 78 B v all W
theorem IsCh.go {B c N : Nat} {gb : Option Nat} {l : List Ver} {w w' : World} (h : IsCh B c N gb l w) (hb : Below w.heap.size w w') : IsCh B c N gb l w' := by
  obtain ⟨v, all, k, h1, h2, h3, h4, h5, h6⟩ := h
  exact ⟨v, all, k, h1, h2, h3, h4, (hb.block _ (Array.getElem?_eq_some_iff.1 h5).1).trans h5, h6.go hb⟩
theorem IsCh.le {B c N : Nat} {gb : Option Nat} {l : List Ver} {w : World} (h : IsCh B c N gb l w) : l.length ≤ N := by
  obtain ⟨v, all, k, h1, h2, h3, h4, h5, h6⟩ := h
  rw [← h4, List.length_drop]; omega
def KpQ (l : List Ver) (w : World) (e : Ending) (w' : World) : Prop := ∃ ao cap, e = .returned (.slice ao l.length cap) ∧ RdV (.slice ao l.length cap) l w ∧ ∃ n, w' = w.drewN n
set_option maxRecDepth 100000 in
set_option maxHeartbeats 1000000 in
theorem kept_c (B c N : Nat) (gb : Option Nat) (l : List Ver) (w : World) (h : IsCh B c N gb l w) (hN : N ≤ 1000000) :
    Calls Try.prog 48 #[.pointer (some ⟨c, 0, none⟩)] w (KpQ l w) := by
  obtain ⟨v, all, k, h1, h2, h3, h4, h5, h6⟩ := h
  have c0 := cell_of_row _ _ 0 _ _ _ h5
  have c1 := cell_of_row _ _ 1 _ _ _ h5
  simp at c0 c1
  have H4 := Lib.hid h4
  have H6 := Lib.hid h6
  rcases own_slV h6 with ⟨rfl, h0⟩ | ⟨g, cap, rfl, hn, hm, hg⟩
  · have hk : k = 0 := by omega
    subst hk
    have hl0 : l = [] := by rw [← h4]; simpa using h0
    subst hl0
    clear h1 h2 h3 h4 h5 h6 h0 H4 H6
    go_enter Try.func48, Try.ntmps48
    go_wp2
    go_quiet (fail)
    go_wp2
    go_ret
    exact ⟨none, 0, rfl, rdv_nil _ _ _, _, rfl⟩
  · unfold maxLen at hm
    have hll : all.length - k = l.length := by rw [← h4, List.length_drop]
    have HLL := Lib.hid hll
    by_cases hkc : k = cap
    · have hn2 : all.length = cap := by omega
      have hl0 : l = [] := by
        have : l.length = 0 := by rw [← hll]; omega
        exact List.eq_nil_of_length_eq_zero this
      subst hl0
      subst hkc
      rw [hn2] at c0
      clear h1 h2 h3 h4 h5 h6 hn hn2 hll HLL H4 H6
      go_enter Try.func48, Try.ntmps48
      go_wp2
      go_quiet (fail)
      go_wp2
      go_ret
      exact ⟨_, _, rfl, rdv_nil _ _ _, _, rfl⟩
    · have hR := Lib.hid (h6.drop k h2 (cap - k))
      have hkc2 : k < cap := by omega
      have hk0 : (0 : Int) ≤ (k : Int) := by omega
      have hkn : (k : Int) ≤ (all.length : Int) := by omega
      have hkp : (k : Int) ≤ (cap : Int) := by omega
      have hkz : ¬ (k : Int) = (cap : Int) := by omega
      rw [hll, H4.out] at hR
      clear h1 h3 h4 h5 h6 H4 H6
      go_enter Try.func48, Try.ntmps48
      go_wp2
      go_quiet (fail)
      go_wp2
      go_ret
      exact ⟨_, _, rfl, hR.out, _, rfl⟩
end Go.Proofs.Ythioghbifpphiaa.Cn
