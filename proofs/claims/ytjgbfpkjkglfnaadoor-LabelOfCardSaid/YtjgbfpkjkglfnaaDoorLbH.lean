/- Contracts of the law's own Pairs, and of awake; what the walks are told of slices of pairs that came in. -/
import Derived.Test.YtjgbfpkjkglfnaaDoorLbF
import Derived.Deep.SlicePairs
import Derived.Deep.AppendLies
import Derived.ShutString
import Derived.ChangeOld
namespace Go.Proofs.YtjgbfpkjkglfnaaDoor.Lb
open Go.RowKit Ch Jt Go.ChangeShapes Go.WideShapes
set_option linter.unusedSimpArgs false
set_option linter.unusedVariables false

def IsPrs (w : World) (a : Option Addr) (len : Nat) (ts : List FB) : Prop := ts.length = len ∧ len ≤ maxLen ∧ (∀ t ∈ ts, t.1.size ≤ maxLen ∧ t.2.size ≤ maxLen) ∧
  (ts ≠ [] → ∃ b off, a = some ⟨b, off, none⟩ ∧ b < w.heap.size ∧ ∀ i (hi : i < ts.length), w.cell? ⟨b, off + i * 2, none⟩ = some (.string ts[i].1) ∧ w.cell? ⟨b, off + i * 2 + 1, none⟩ = some (.string ts[i].2))
theorem pairs_of {H : Type} {enc : TypeId × Value → H} {W : World} {a : Option Addr} {len cap : Nat} {d : DataW H} {p : List MemPlace} (h : DataW.Trod enc Tryd.prog W 0 (fun _ => true) true 22 (.slice a len cap) d p) : ∃ ts, IsPrs W a len ts := by
  obtain ⟨fuel, hf⟩ := h
  rcases Deep.open_slice_pairs Tryd.underlying22 Tryd.underlying48 (by kernel_rfl) rfl rfl (by kernel_rfl) (by kernel_rfl) hf with ⟨hcs, _⟩ | ⟨x, l, c, m, n, V0, V1, D0, D1, P0, P1, hcs, hb, hl, hm, hmm, _, hx⟩
  · simp [Value.cells] at hcs
    obtain ⟨rfl, rfl, rfl⟩ := hcs
    exact ⟨[], rfl, by unfold maxLen; omega, fun t ht => by simp at ht, fun h => absurd rfl h⟩
  · simp [Value.cells] at hcs
    obtain ⟨rfl, rfl, rfl⟩ := hcs
    have hlm : len ≤ m := by rw [hmm]; simp; exact hl
    have each : ∀ i, i < len → ∃ t : FB, W.cell? (x.add (i * 2)) = some (.string t.1) ∧ W.cell? (x.add (i * 2 + 1)) = some (.string t.2) ∧ t.1.size ≤ maxLen ∧ t.2.size ≤ maxLen := by
      intro i hi
      obtain ⟨h0, h1, h2, h3⟩ := hx i (by omega)
      obtain ⟨b, e0, _, hbz⟩ := DataW.trod_string Tryd.underlying9 h2
      obtain ⟨s, e1, _, hs⟩ := DataW.trod_string Tryd.underlying9 h3
      have e0' : V0 i = .string b := by simpa using e0
      have e1' : V1 i = .string s := by simpa using e1
      exact ⟨(b, s), by rw [h0, e0'], by rw [h1, e1'], hbz, hs⟩
    obtain ⟨q, hq⟩ := Deep.choose_lt each
    refine ⟨(List.range len).map q, by simp, Nat.le_trans hl hm, fun t ht => ?_, fun hne => ?_⟩
    · obtain ⟨i, hi, rfl⟩ := List.mem_map.1 ht
      exact (hq i (List.mem_range.1 hi)).2.2
    · have hp : 0 < len := by
        rcases Nat.eq_zero_or_pos len with h | h
        · subst h; simp at hne
        · exact h
      obtain ⟨b, off, spot⟩ := x
      have hc := (hq 0 hp).1
      have hspot : spot = none := by simpa [Addr.add] using World.cell?_spot hc
      subst hspot
      refine ⟨b, off, rfl, ?_, fun i hi => ?_⟩
      · have := World.block_lt_of_cell? W _ hc
        simpa [Addr.add] using this
      · have hi' : i < len := by simpa using hi
        obtain ⟨h0, h1, _⟩ := hq i hi'
        have e : ∀ j, (⟨b, off, none⟩ : Addr).add j = ⟨b, off + j, none⟩ := fun j => by unfold Addr.add; split <;> simp_all
        rw [e] at h0 h1
        simp only [List.getElem_map, List.getElem_range]
        exact ⟨h0, by rw [Nat.add_assoc]; exact h1⟩
/-- rows of one's own of unlike types don't share a block -/
theorem own_apart {T1 T2 B1 B2 k1 k2 n1 n2 : Nat} {v1 v2 : Value} {x1 x2 : List Value} {w : World} (h1 : w.ownsRow B1 T1 k1 v1 n1 x1) (h2 : w.ownsRow B2 T2 k2 v2 n2 x2) (hT : T1 ≠ T2) : v2.ownBlock = none ∨ v2.ownBlock ≠ v1.ownBlock := by
  rcases h2.2 with ⟨rfl, _⟩ | ⟨g, cap, cur, rfl, _, hg, _⟩
  · exact .inl rfl
  · refine .inr fun e => ?_
    rcases h1.2 with ⟨rfl, _⟩ | ⟨g', cap', cur', rfl, _, hg', _⟩
    · cases e
    · have e' : g = g' := by injection e
      subst e'
      rw [hg] at hg'
      injection hg' with h
      injection h with _ h _
      exact hT h.symm
/-- a row of pairs of one's own -/
def OwF (T : TypeId) (B : Nat) (v : Value) (fs : List FB) (w : World) : Prop := w.ownsRow B T 2 v fs.length (fC fs)
theorem OwF.go {T : TypeId} {B : Nat} {v : Value} {fs : List FB} {w w' : World} (h : OwF T B v fs w) (hb : Below w.heap.size w w') : OwF T B v fs w' :=
  World.ownsRow.kept h (row := none) ⟨hb.os, hb.tape, hb.output, hb.size, fun k hk _ => hb.block k hk⟩ (by cases hv : v.ownBlock <;> simp)
theorem own_lenF {T : TypeId} {B k n : Nat} {v : Value} {xs : List Value} {w : World} (h : w.ownsRow B T k v n xs) : ∃ ao cap, v = .slice ao n cap := by
  rcases h.2 with ⟨rfl, h0⟩ | ⟨g, cap, cur, rfl, _⟩
  · exact ⟨_, 0, by rw [h0]⟩
  · exact ⟨_, _, rfl⟩
theorem OwF.rd {T : TypeId} {B : Nat} {v : Value} {fs : List FB} {w : World} (h : OwF T B v fs w) : RdF v fs w := by
  rcases h.2 with ⟨rfl, h0⟩ | ⟨g, cap, cur, rfl, hB, hg, hc, hcm, hsz, htk⟩
  · exact ⟨none, 0, by rw [h0], fun h => by omega⟩
  · refine ⟨_, cap, rfl, fun _ => ⟨g, 0, rfl, (Array.getElem?_eq_some_iff.1 hg).1, fun i hi => ?_⟩⟩
    rw [cell_of_row _ _ _ _ _ _ hg, cell_of_row _ _ _ _ _ _ hg, Nat.zero_add]
    have hp := fC_at fs i hi
    rw [← htk, List.getElem?_take_of_lt (by omega), List.getElem?_take_of_lt (by omega), Array.getElem?_toList, Array.getElem?_toList] at hp
    exact hp
theorem fC_snoc (fs : List FB) (x : FB) : fC (fs ++ [x]) = fC fs ++ [.string x.1, .string x.2] := by unfold fC; rw [List.flatMap_append, List.flatMap_singleton]; rfl
/-- a pair, cut -/
def cutF (x : FB) : FB := (Jt.mkS (x.1.data.toList.take 20), Jt.mkS (x.2.data.toList.take 30))
def prK (ts : List FB) (j : Nat) : List FB := (ts.take j).map cutF
theorem prK_len (ts : List FB) {j : Nat} (h : j ≤ 6) : (prK ts j).length ≤ 6 := by unfold prK; rw [List.length_map, List.length_take]; omega
theorem prK_snoc {ts : List FB} {j : Nat} (hj : j < ts.length) : prK ts (j + 1) = prK ts j ++ [cutF ts[j]] := by
  unfold prK; rw [List.take_succ_eq_append_getElem hj, List.map_append]; rfl
theorem cutF_short (x : FB) : (cutF x).1.size ≤ 20 ∧ (cutF x).2.size ≤ 30 := by
  unfold cutF; rw [Jt.size_mkS, Jt.size_mkS, List.length_take, List.length_take]; omega
theorem prK_short {ts : List FB} {j : Nat} {x : FB} (h : x ∈ prK ts j) : x.1.size ≤ 20 ∧ x.2.size ≤ 30 := by
  obtain ⟨y, _, rfl⟩ := List.mem_map.1 h
  exact cutF_short y
theorem cut20 (s : ByteArray) (h : 20 < s.size) : s.extract 0 20 = Jt.mkS (s.data.toList.take 20) := Jt.mkS_of (by rw [Lib.extract_data]; simp)
theorem cut20n (s : ByteArray) (h : ¬ 20 < s.size) : s = Jt.mkS (s.data.toList.take 20) := Jt.mkS_of (by rw [List.take_of_length_le (by rw [← Lib.size_eq]; omega)])
theorem cut30 (s : ByteArray) (h : 30 < s.size) : s.extract 0 30 = Jt.mkS (s.data.toList.take 30) := Jt.mkS_of (by rw [Lib.extract_data]; simp)
theorem cut30n (s : ByteArray) (h : ¬ 30 < s.size) : s = Jt.mkS (s.data.toList.take 30) := Jt.mkS_of (by rw [List.take_of_length_le (by rw [← Lib.size_eq]; omega)])
theorem infoR : (Tryd.prog.info? 48).map (fun i => (i.zero, i.size, i.bytes)) = some (some (.agg #[.string ⟨#[]⟩, .string ⟨#[]⟩]), 2, 32) := by kernel_rfl
end Go.Proofs.YtjgbfpkjkglfnaaDoor.Lb
