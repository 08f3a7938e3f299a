/- Lists of texts that came in, and lists of such; the law's few; no other condition. -/
import Derived.Test.YtneogelhdikcaaaNtL
import Derived.Deep.Strs
import Derived.Deep.Slices
namespace Go.Proofs.Ytneogelhdikcaaa.Nt
open Go.RowKit Go.Lib Go.Maps Go.ChangeShapes Go.WideShapes
set_option linter.unusedSimpArgs false
set_option linter.unusedVariables false

/-- texts that can be read -/
def IsTs (w : World) (v : Value) (gs : List Tx) : Prop := ∃ ao cap, v = .slice ao gs.length cap ∧ gs.length ≤ cap ∧ (∀ x ∈ gs, (mkS x).size ≤ maxLen) ∧ RdT v gs w ∧ (0 < cap → ∃ g o, ao = some ⟨g, o, none⟩)
theorem IsTs.go {w W : World} {v : Value} {gs : List Tx} (h : IsTs w v gs) (hb : Below w.heap.size w W) : IsTs W v gs := by
  obtain ⟨ao, cap, h1, h2, h3, h4, h5⟩ := h
  exact ⟨ao, cap, h1, h2, h3, h4.go hb, h5⟩
theorem ts_of {H : Type} {enc : TypeId × Value → H} {W : World} {fuel : Nat} {cs : List Value} {z : DataW H × List MemPlace} (hf : DataW.trod enc Try.prog W 0 (fun _ => true) true fuel 27 cs = some z) : ∃ v gs, cs = [v] ∧ IsTs W v gs := by
  rcases Deep.open_strs Try.underlying27 Try.underlying9 (by kernel_rfl) hf with ⟨hcs, _⟩ | ⟨x, l, c, m, Sx, hcs, hb, hl, hm, hmm, _, hx⟩
  · exact ⟨_, [], hcs, none, 0, rfl, Nat.le_refl _, (fun x hx => by cases hx), Rd.nil _ _ _ _, fun h => absurd h (Nat.lt_irrefl _)⟩
  · have hlm : l ≤ m := by rw [hmm]; simp; exact hl
    have hlen : ((List.range l).map fun i => (Sx i).data.toList).length = l := by simp
    have hsp : 0 < c → ∃ g o, x = ⟨g, o, none⟩ := fun h0 => by
      obtain ⟨b, off, spot⟩ := x
      have hc := (hx 0 (by rw [hmm]; simp; omega)).1
      have hspot : spot = none := by simpa [Addr.add] using World.cell?_spot hc
      exact ⟨b, off, by rw [hspot]⟩
    refine ⟨_, (List.range l).map fun i => (Sx i).data.toList, hcs, some x, c, by rw [hlen], by rw [hlen]; exact hl, fun t ht => ?_, ⟨some x, c, by rw [hlen], fun h0 => ?_⟩, fun h0 => ?_⟩
    · obtain ⟨i, hi, rfl⟩ := List.mem_map.1 ht
      exact (hx i (by have := List.mem_range.1 hi; omega)).2
    · rw [hlen] at h0
      obtain ⟨g, o, rfl⟩ := hsp (by omega)
      have hc := (hx 0 (by omega)).1
      refine ⟨g, o, rfl, ?_, fun j u hu => ?_⟩
      · have := World.block_lt_of_cell? W _ hc
        simpa [Addr.add] using this
      · have hj : j < l := by
          rcases Nat.lt_or_ge j l with q | q
          · exact q
          · rw [List.getElem?_eq_none (by rw [tC_len, hlen]; exact q)] at hu; cases hu
        have h1 := (hx j (by omega)).1
        rw [addrO] at h1
        rw [h1, ← hu, tC_at _ j (by rw [hlen]; exact hj)]
        simp [mkS]
    · obtain ⟨g, o, rfl⟩ := hsp h0
      exact ⟨g, o, rfl⟩
theorem texts_of {H : Type} {enc : TypeId × Value → H} {W : World} {a : Option Addr} {len cap : Nat} {d : DataW H} {p : List MemPlace} (h : DataW.Trod enc Try.prog W 0 (fun _ => true) true 27 (.slice a len cap) d p) : ∃ gs, IsTs W (.slice a len cap) gs := by
  obtain ⟨fuel, hf⟩ := h
  obtain ⟨v, gs, e, h⟩ := ts_of hf
  simp [Value.cells] at e
  subst e
  exact ⟨gs, h⟩
/-- lists of texts that can be read -/
def IsLs (w : World) (v : Value) (ls : List (List Tx)) : Prop := ∃ ao cap, v = .slice ao ls.length cap ∧ (0 < ls.length → ∃ g o, ao = some ⟨g, o, none⟩ ∧ g < w.heap.size ∧ ∀ i (hi : i < ls.length), ∃ u, w.cell? ⟨g, o + i, none⟩ = some u ∧ IsTs w u ls[i])
theorem lists_of {H : Type} {enc : TypeId × Value → H} {W : World} {a : Option Addr} {len cap : Nat} {d : DataW H} {p : List MemPlace} (h : DataW.Trod enc Try.prog W 0 (fun _ => true) true 22 (.slice a len cap) d p) : ∃ ls, IsLs W (.slice a len cap) ls := by
  obtain ⟨fuel, hf⟩ := h
  rcases Deep.open_slice1 Try.underlying22 (by kernel_rfl) hf with ⟨hcs, _⟩ | ⟨x, l, c, m, n, V, D, Pl, hcs, hb, hl, hm, hmm, _, hx⟩
  · simp [Value.cells] at hcs
    obtain ⟨rfl, rfl, rfl⟩ := hcs
    exact ⟨[], none, 0, rfl, fun h => absurd h (Nat.lt_irrefl _)⟩
  · simp [Value.cells] at hcs
    obtain ⟨rfl, rfl, rfl⟩ := hcs
    have hlm : len ≤ m := by rw [hmm]; simp; exact hl
    have each : ∀ i, i < len → ∃ gs : List Tx, W.cell? (x.add i) = some (V i) ∧ IsTs W (V i) gs := fun i hi => by
      obtain ⟨h1, h2⟩ := hx i (by omega)
      obtain ⟨v, gs, e, h⟩ := ts_of h2
      simp at e
      subst e
      exact ⟨gs, h1, h⟩
    obtain ⟨q, hq⟩ := Deep.choose_lt each
    have hql : ((List.range len).map q).length = len := by simp
    refine ⟨(List.range len).map q, some x, cap, by rw [hql], fun h0 => ?_⟩
    rw [hql] at h0
    obtain ⟨b, off, spot⟩ := x
    have hc := (hq 0 h0).1
    have hspot : spot = none := by simpa [Addr.add] using World.cell?_spot hc
    subst hspot
    refine ⟨b, off, rfl, ?_, fun i hi => ?_⟩
    · have := World.block_lt_of_cell? W _ hc
      simpa [Addr.add] using this
    · have hi' : i < len := by simpa using hi
      obtain ⟨h1, h2⟩ := hq i hi'
      rw [addrO] at h1
      refine ⟨_, h1, ?_⟩
      simpa using h2
set_option maxRecDepth 100000 in
theorem few_c (v : Value) (gs : List Tx) (w : World) (h : IsTs w v gs) : Calls Try.prog 10 #[v] w fun e w' => w' = w ∧ ∃ v', e = .returned v' ∧ IsTs w v' (gs.take 8) := by
  obtain ⟨ao, cap, rfl, hc, hsz, hR, hsp⟩ := h
  by_cases hl : 8 < gs.length
  · have hl1 : (8 : Int) < (gs.length : Int) := by omega
    obtain ⟨g, o, rfl⟩ := hsp (by omega)
    have hcap : (8 : Int) ≤ (cap : Int) := by omega
    have hlen : (gs.take 8).length = 8 := by rw [List.length_take]; omega
    have HF : Hid (IsTs w (.slice (some ⟨g, o, none⟩) 8 cap) (gs.take 8)) := by
      refine ⟨_, cap, by rw [hlen], by rw [hlen]; omega, fun x hx => hsz x (List.mem_of_mem_take hx), ⟨_, cap, by rw [hlen], fun _ => ?_⟩, fun _ => ⟨g, o, rfl⟩⟩
      obtain ⟨g', o', e, h1, h2⟩ := hR.at (by omega)
      injection e with e; injection e with e1 e2
      subst e1 e2
      refine ⟨g, o, rfl, h1, fun j u hu => h2 j u ?_⟩
      rw [tC_take] at hu
      exact (List.getElem?_eq_some_iff.1 hu).elim (fun a b => by
        rw [List.getElem?_take] at hu; split at hu
        · exact hu
        · cases hu)
    clear hR hsz hlen hl hc hsp
    go_enter Try.func10, Try.ntmps10
    go_wp2
    go_ret
    exact ⟨rfl, _, rfl, HF.out⟩
  · have hl1 : ¬ (8 : Int) < (gs.length : Int) := by omega
    have e : gs.take 8 = gs := List.take_of_length_le (by omega)
    rw [e]
    have HF : Hid (IsTs w (.slice ao gs.length cap) gs) := ⟨ao, cap, rfl, hc, hsz, hR, hsp⟩
    clear hR hsz hl hc hsp e
    go_enter Try.func10, Try.ntmps10
    go_wp2
    go_ret
    exact ⟨rfl, _, rfl, HF.out⟩
end Go.Proofs.Ytneogelhdikcaaa.Nt
