/- What the walks are told of slices that came in: texts, pairs of texts; rows of one's own of unlike types lie apart; no condition. -/
import Derived.Test.YtflhapnanhbcgaaDoorPcTgR
import Derived.Test.YtflhapnanhbcgaaDoorPcSame
import Derived.Deep.SlicePairs
import Derived.Deep.Strs
import Derived.ShutString
import Derived.ChangeOld
namespace Go.Proofs.YtflhapnanhbcgaaDoor.Pc
open Go.RowKit Jt Go.ChangeShapes Go.WideShapes
set_option linter.unusedSimpArgs false
set_option linter.unusedVariables false

def IsStrs (w : World) (a : Option Addr) (len : Nat) (ts : List ByteArray) : Prop := ts.length = len ∧ len ≤ maxLen ∧ (∀ t ∈ ts, t.size ≤ maxLen) ∧
  (ts ≠ [] → ∃ b off, a = some ⟨b, off, none⟩ ∧ b < w.heap.size ∧ ∀ i (hi : i < ts.length), w.cell? ⟨b, off + i, none⟩ = some (.string ts[i]))
theorem strs_of {H : Type} {enc : TypeId × Value → H} {W : World} {a : Option Addr} {len cap : Nat} {d : DataW H} {p : List MemPlace} (h : DataW.Trod enc Tryd.prog W 0 (fun _ => true) true 22 (.slice a len cap) d p) : ∃ ts, IsStrs W a len ts := by
  obtain ⟨fuel, hf⟩ := h
  rcases Deep.open_strs Tryd.underlying22 Tryd.underlying9 (by kernel_rfl) hf with ⟨hcs, _⟩ | ⟨x, l, c, m, Sx, hcs, hb, hl, hm, hmm, _, hx⟩
  · simp [Value.cells] at hcs
    obtain ⟨rfl, rfl, rfl⟩ := hcs
    exact ⟨[], rfl, by unfold maxLen; omega, fun t ht => by simp at ht, fun h => absurd rfl h⟩
  · simp [Value.cells] at hcs
    obtain ⟨rfl, rfl, rfl⟩ := hcs
    have hlm : len ≤ m := by rw [hmm]; simp; exact hl
    refine ⟨(List.range len).map Sx, by simp, Nat.le_trans hl hm, fun t ht => ?_, fun hne => ?_⟩
    · obtain ⟨i, hi, rfl⟩ := List.mem_map.1 ht
      exact (hx i (by have := List.mem_range.1 hi; omega)).2
    · have hp : 0 < len := by
        rcases Nat.eq_zero_or_pos len with h | h
        · subst h; simp at hne
        · exact h
      obtain ⟨b, off, spot⟩ := x
      have hc := (hx 0 (by omega)).1
      have hspot : spot = none := by simpa [Addr.add] using World.cell?_spot hc
      subst hspot
      have e : ∀ j, (⟨b, off, none⟩ : Addr).add j = ⟨b, off + j, none⟩ := fun j => by unfold Addr.add; split <;> simp_all
      refine ⟨b, off, rfl, ?_, fun i hi => ?_⟩
      · have := World.block_lt_of_cell? W _ hc
        simpa [Addr.add] using this
      · have hi' : i < len := by simpa using hi
        have h0 := (hx i (by omega)).1
        rw [e] at h0
        simp only [List.getElem_map, List.getElem_range]
        exact h0
def IsPrs (w : World) (a : Option Addr) (len : Nat) (ts : List (ByteArray × ByteArray)) : Prop := ts.length = len ∧ len ≤ maxLen ∧ (∀ t ∈ ts, t.1.size ≤ maxLen ∧ t.2.size ≤ maxLen) ∧
  (ts ≠ [] → ∃ b off, a = some ⟨b, off, none⟩ ∧ b < w.heap.size ∧ ∀ i (hi : i < ts.length), w.cell? ⟨b, off + i * 2, none⟩ = some (.string ts[i].1) ∧ w.cell? ⟨b, off + i * 2 + 1, none⟩ = some (.string ts[i].2))
theorem pairs_of {H : Type} {enc : TypeId × Value → H} {W : World} {a : Option Addr} {len cap : Nat} {d : DataW H} {p : List MemPlace} (h : DataW.Trod enc Tryd.prog W 0 (fun _ => true) true 23 (.slice a len cap) d p) : ∃ ts, IsPrs W a len ts := by
  obtain ⟨fuel, hf⟩ := h
  rcases Deep.open_slice_pairs Tryd.underlying23 Tryd.underlying27 (by kernel_rfl) rfl rfl (by kernel_rfl) (by kernel_rfl) hf with ⟨hcs, _⟩ | ⟨x, l, c, m, n, V0, V1, D0, D1, P0, P1, hcs, hb, hl, hm, hmm, _, hx⟩
  · simp [Value.cells] at hcs
    obtain ⟨rfl, rfl, rfl⟩ := hcs
    exact ⟨[], rfl, by unfold maxLen; omega, fun t ht => by simp at ht, fun h => absurd rfl h⟩
  · simp [Value.cells] at hcs
    obtain ⟨rfl, rfl, rfl⟩ := hcs
    have hlm : len ≤ m := by rw [hmm]; simp; exact hl
    have each : ∀ i, i < len → ∃ t : ByteArray × ByteArray, W.cell? (x.add (i * 2)) = some (.string t.1) ∧ W.cell? (x.add (i * 2 + 1)) = some (.string t.2) ∧ t.1.size ≤ maxLen ∧ t.2.size ≤ maxLen := by
      intro i hi
      obtain ⟨h0, h1, h2, h3⟩ := hx i (by omega)
      obtain ⟨b, e0, _, hbz⟩ := DataW.trod_string Tryd.underlying9 h2
      obtain ⟨s, e1, _, hs⟩ := DataW.trod_string Tryd.underlying9 h3
      have e0' : V0 i = .string b := by simpa using e0
      have e1' : V1 i = .string s := by simpa using e1
      exact ⟨(b, s), by rw [h0, e0'], by rw [h1, e1'], hbz, hs⟩
    obtain ⟨q, hq⟩ := Deep.choose_lt each
    refine ⟨(List.range len).map q, by simp, Nat.le_trans hl hm, fun t ht => ?_, fun hne => ?_⟩
    · obtain ⟨i, hi, rfl⟩ := List.mem_map.1 ht
      exact (hq i (List.mem_range.1 hi)).2.2
    · have hp : 0 < len := by
        rcases Nat.eq_zero_or_pos len with h | h
        · subst h; simp at hne
        · exact h
      obtain ⟨b, off, spot⟩ := x
      have hc := (hq 0 hp).1
      have hspot : spot = none := by simpa [Addr.add] using World.cell?_spot hc
      subst hspot
      refine ⟨b, off, rfl, ?_, fun i hi => ?_⟩
      · have := World.block_lt_of_cell? W _ hc
        simpa [Addr.add] using this
      · have hi' : i < len := by simpa using hi
        obtain ⟨h0, h1, _⟩ := hq i hi'
        have e : ∀ j, (⟨b, off, none⟩ : Addr).add j = ⟨b, off + j, none⟩ := fun j => by unfold Addr.add; split <;> simp_all
        rw [e] at h0 h1
        simp only [List.getElem_map, List.getElem_range]
        exact ⟨h0, by rw [Nat.add_assoc]; exact h1⟩
/-- rows of one's own of unlike types don't share a block -/
theorem own_apart {T1 T2 B1 B2 k1 k2 n1 n2 : Nat} {v1 v2 : Value} {x1 x2 : List Value} {w : World} (h1 : w.ownsRow B1 T1 k1 v1 n1 x1) (h2 : w.ownsRow B2 T2 k2 v2 n2 x2) (hT : T1 ≠ T2) : v2.ownBlock = none ∨ v2.ownBlock ≠ v1.ownBlock := by
  rcases h2.2 with ⟨rfl, _⟩ | ⟨g, cap, cur, rfl, _, hg, _⟩
  · exact .inl rfl
  · refine .inr fun e => ?_
    rcases h1.2 with ⟨rfl, _⟩ | ⟨g', cap', cur', rfl, _, hg', _⟩
    · cases e
    · have e' : g = g' := by injection e
      subst e'
      rw [hg] at hg'
      injection hg' with h
      injection h with _ h _
      exact hT h.symm
/-- the first five texts, each cut -/
def psK (ss : List ByteArray) (j : Nat) : List (List UInt8) := (ss.take (min j 5)).map fun s => shortL s.data.toList
def qsK (qs : List (ByteArray × ByteArray)) (j : Nat) : List PairL := (qs.take (min j 5)).map fun x => (shortL x.1.data.toList, shortL x.2.data.toList)
theorem psK_yes {ss : List ByteArray} {j : Nat} (hj : j < ss.length) (h : j < 5) : psK ss (j + 1) = psK ss j ++ [shortL ss[j].data.toList] := by
  unfold psK
  rw [show min (j + 1) 5 = j + 1 by omega, show min j 5 = j by omega, List.take_succ_eq_append_getElem hj, List.map_append]; rfl
theorem psK_no {ss : List ByteArray} {j : Nat} (h : ¬ j < 5) : psK ss (j + 1) = psK ss j := by
  unfold psK
  rw [show min (j + 1) 5 = 5 by omega, show min j 5 = 5 by omega]
theorem qsK_yes {ss : List (ByteArray × ByteArray)} {j : Nat} (hj : j < ss.length) (h : j < 5) : qsK ss (j + 1) = qsK ss j ++ [(shortL ss[j].1.data.toList, shortL ss[j].2.data.toList)] := by
  unfold qsK
  rw [show min (j + 1) 5 = j + 1 by omega, show min j 5 = j by omega, List.take_succ_eq_append_getElem hj, List.map_append]; rfl
theorem qsK_no {ss : List (ByteArray × ByteArray)} {j : Nat} (h : ¬ j < 5) : qsK ss (j + 1) = qsK ss j := by
  unfold qsK
  rw [show min (j + 1) 5 = 5 by omega, show min j 5 = 5 by omega]
theorem short_len (l : List UInt8) : (shortL l).length ≤ 100 := by unfold shortL; rw [List.length_take]; omega
theorem psK_len (ss : List ByteArray) (j : Nat) : (psK ss j).length ≤ 5 := by unfold psK; rw [List.length_map, List.length_take]; omega
theorem qsK_len (ss : List (ByteArray × ByteArray)) (j : Nat) : (qsK ss j).length ≤ 5 := by unfold qsK; rw [List.length_map, List.length_take]; omega
theorem psK_mem {ss : List ByteArray} {j : Nat} {p : List UInt8} (h : p ∈ psK ss j) : p.length ≤ 100 := by
  obtain ⟨s, _, rfl⟩ := List.mem_map.1 h
  exact short_len _
theorem qsK_mem {ss : List (ByteArray × ByteArray)} {j : Nat} {p : PairL} (h : p ∈ qsK ss j) : p.1.length ≤ 100 ∧ p.2.length ≤ 100 := by
  obtain ⟨s, _, rfl⟩ := List.mem_map.1 h
  exact ⟨short_len _, short_len _⟩
/-- of a row of pairs: where the value stands of the one at k, among those of its name -/
theorem fnd_split (l : List PairL) (k : Nat) (n : List UInt8) : fndL l n = fndL (l.take k) n ++ fndL (l.drop k) n := by
  unfold fndL
  rw [← List.map_append, ← List.filter_append, List.take_append_drop]
theorem fnd_at {l : List PairL} {k : Nat} (hk : k < l.length) {n : List UInt8} (h : l[k].1 = n) : ∃ hh : (fndL (l.take k) n).length < (fndL l n).length, (fndL l n)[(fndL (l.take k) n).length] = l[k].2 := by
  have e : fndL l n = fndL (l.take k) n ++ (l[k].2 :: fndL (l.drop (k + 1)) n) := by
    rw [fnd_split l (k + 1) n, fnd_yes hk h, List.append_assoc]; rfl
  have hh : (fndL (l.take k) n).length < (fndL l n).length := by rw [e, List.length_append, List.length_cons]; omega
  refine ⟨hh, ?_⟩
  have : (fndL l n)[(fndL (l.take k) n).length]? = some l[k].2 := by rw [e]; simp
  rw [List.getElem?_eq_getElem hh] at this
  exact Option.some.inj this
theorem pth_lenA : ∀ (ps : List (List UInt8)), (∀ p ∈ ps, p.length ≤ 100) → (pthL ps).length ≤ 301 * ps.length
  | [], _ => by simp [pthL]
  | p :: r, h => by
    have h1 := enc_len p
    have h2 := h p (by simp)
    have h3 := pth_lenA r (fun q hq => h q (by simp [hq]))
    rw [pthL]; simp only [List.length_cons, List.length_append]; omega
theorem qrs_lenA : ∀ (c : UInt8) (l : List PairL), (∀ x ∈ l, x.1.length ≤ 100 ∧ x.2.length ≤ 100) → (qrsL c l).length ≤ 602 * l.length
  | _, [], _ => by simp [qrsL]
  | c, x :: r, h => by
    have h1 := enc_len x.1
    have h2 := enc_len x.2
    have h0 := h x (by simp)
    have h3 := qrs_lenA 38 r (fun q hq => h q (by simp [hq]))
    rw [qrsL]; unfold prtL; simp only [List.length_cons, List.length_append]; omega
theorem tgt_len {ps : List (List UInt8)} {l : List PairL} (h1 : ∀ p ∈ ps, p.length ≤ 100) (h2 : ∀ x ∈ l, x.1.length ≤ 100 ∧ x.2.length ≤ 100) (h3 : ps.length ≤ 5) (h4 : l.length ≤ 5) : (tgtL ps l).length ≤ 5000 := by
  have a := pth_lenA ps h1
  have b := qrs_lenA 63 l h2
  unfold tgtL
  rw [List.length_append]
  by_cases e : ps = []
  · rw [if_pos e]; simp; omega
  · rw [if_neg e]; omega
end Go.Proofs.YtflhapnanhbcgaaDoor.Pc
