/- Rows of entries at whatever offset, of one's own; the builtin clear there; a log as it lies; what a call changes; no other condition. -/
import Derived.Test.YtcmcbocegdejjaaClA
import Derived.Test.YtcmcbocegdejjaaClS
import Derived.Deep.MidRow
import Derived.Deep.Upon
import Derived.Deep.AppendLies
import Derived.Deep.RegionLaw
import Derived.Deep.RegionLawGrows
import Derived.Lib.LazyBuf
import Derived.Deep.QuietTactic
import Derived.BigQuiet
namespace Go.Proofs.Ytcmcbocegdejjaa.Cl
open Go.RowKit Go.Lib Go.Shelf Go.Sort
set_option linter.unusedSimpArgs false
set_option linter.unusedVariables false

theorem info_parts {x : Option TypeInfo} {y : Option Value × Nat × Nat} (h : x.map (fun i => (i.zero, i.size, i.bytes)) = some y) : ∃ i, x = some i ∧ i.zero = y.1 ∧ i.size = y.2.1 ∧ i.bytes = y.2.2 := by
  cases x with
  | none => cases h
  | some i =>
    injection h with h
    exact ⟨i, rfl, by rw [← h], by rw [← h], by rw [← h]⟩
theorem addr0 (g j : Nat) : (⟨g, 0, none⟩ : Addr).add j = ⟨g, j, none⟩ := by unfold Addr.add; split <;> simp_all
theorem addrO (g o j : Nat) : (⟨g, o, none⟩ : Addr).add j = ⟨g, o + j, none⟩ := by unfold Addr.add; split <;> simp_all
theorem frzB {w : World} {g : Nat} {cs : Array Value} {t : TypeId} (h : w.heap[g]? = some (.cells cs t (0, 0))) (j : Nat) : w.frozen? ⟨g, j, none⟩ = false := by simp [World.frozen?, h]
theorem blk_set {w : World} {g : Nat} {cs : Array Value} {t : TypeId} (h : w.heap[g]? = some (.cells cs t (0, 0))) (j : Nat) (v : Value) : (w.setCell ⟨g, j, none⟩ v).heap[g]? = some (.cells (cs.setIfInBounds j v) t (0, 0)) := by
  simp [World.setCell, Array.getElem?_modify, h]
theorem set_oth (w : World) (c i : Nat) (u : Value) {k : Nat} (h : k ≠ c) : (w.setCell ⟨c, i, none⟩ u).heap[k]? = w.heap[k]? := Below.heap_setCell _ _ _ _ h
theorem bdrN (W : World) (n : Nat) : Below W.heap.size W (W.drewN n) := ⟨rfl, rfl, rfl, Nat.le_refl _, fun _ _ => rfl⟩
theorem new3 (w : World) (x y z : Value) (T : TypeId) : ∃ W, W = w.alloc (.cells #[x, y, z] T) ∧ W.heap[w.heap.size]? = some (.cells #[x, y, z] T (0, 0)) ∧ Below w.heap.size w W := ⟨_, rfl, heap_alloc_new w _, (Below.refl _ _).alloc (Nat.le_refl _) _⟩
theorem new4 (w : World) (x y z u : Value) (T : TypeId) : ∃ W, W = w.alloc (.cells #[x, y, z, u] T) ∧ W.heap[w.heap.size]? = some (.cells #[x, y, z, u] T (0, 0)) ∧ Below w.heap.size w W := ⟨_, rfl, heap_alloc_new w _, (Below.refl _ _).alloc (Nat.le_refl _) _⟩
theorem new2 (w : World) (x y : Value) (T : TypeId) : ∃ W, W = w.alloc (.cells #[x, y] T) ∧ W.heap[w.heap.size]? = some (.cells #[x, y] T (0, 0)) ∧ Below w.heap.size w W := ⟨_, rfl, heap_alloc_new w _, (Below.refl _ _).alloc (Nat.le_refl _) _⟩
theorem cells2 {w : World} {g : Nat} {a b : Value} {t : TypeId} (h : w.heap[g]? = some (.cells #[a, b] t (0, 0))) : w.cell? ⟨g, 0, none⟩ = some a ∧ w.cell? ⟨g, 1, none⟩ = some b := ⟨cell_of_row _ _ 0 _ _ _ h, cell_of_row _ _ 1 _ _ _ h⟩
theorem cells3 {w : World} {g : Nat} {a b c : Value} {t : TypeId} (h : w.heap[g]? = some (.cells #[a, b, c] t (0, 0))) : w.cell? ⟨g, 0, none⟩ = some a ∧ w.cell? ⟨g, 1, none⟩ = some b ∧ w.cell? ⟨g, 2, none⟩ = some c := ⟨cell_of_row _ _ 0 _ _ _ h, cell_of_row _ _ 1 _ _ _ h, cell_of_row _ _ 2 _ _ _ h⟩
theorem cells4 {w : World} {g : Nat} {a b c d : Value} {t : TypeId} (h : w.heap[g]? = some (.cells #[a, b, c, d] t (0, 0))) : w.cell? ⟨g, 0, none⟩ = some a ∧ w.cell? ⟨g, 1, none⟩ = some b ∧ w.cell? ⟨g, 2, none⟩ = some c ∧ w.cell? ⟨g, 3, none⟩ = some d := ⟨cell_of_row _ _ 0 _ _ _ h, cell_of_row _ _ 1 _ _ _ h, cell_of_row _ _ 2 _ _ _ h, cell_of_row _ _ 3 _ _ _ h⟩
/-- cells of elements that can be read: n of them -/
def Rd (n : Nat) (cs : List Value) (v : Value) (w : World) : Prop := ∃ ao cap, v = .slice ao n cap ∧ (0 < n → ∃ g o, ao = some ⟨g, o, none⟩ ∧ g < w.heap.size ∧ w.rangeAt g o cs)
theorem range_below {B g o : Nat} {cs : List Value} {w W : World} (h : w.rangeAt g o cs) (hb : Below B w W) (hg : g < B) : W.rangeAt g o cs := fun j v hv => (hb.cell (p := ⟨g, o + j, none⟩) hg).trans (h j v hv)
theorem Rd.go {n : Nat} {cs : List Value} {v : Value} {w W : World} (h : Rd n cs v w) (hb : Below w.heap.size w W) : Rd n cs v W := by
  obtain ⟨ao, cap, rfl, h⟩ := h
  refine ⟨ao, cap, rfl, fun h0 => ?_⟩
  obtain ⟨g, o, rfl, hg, hc⟩ := h h0
  exact ⟨g, o, rfl, Nat.lt_of_lt_of_le hg hb.size, range_below hc hb hg⟩
theorem Rd.nil (cs : List Value) (ao : Option Addr) (cap : Nat) (w : World) : Rd 0 cs (.slice ao 0 cap) w := ⟨ao, cap, rfl, fun h => absurd h (Nat.lt_irrefl _)⟩
theorem Rd.at {n m cap : Nat} {cs : List Value} {ao : Option Addr} {w : World} (h : Rd n cs (.slice ao m cap) w) (h0 : 0 < n) : ∃ g o, ao = some ⟨g, o, none⟩ ∧ g < w.heap.size ∧ w.rangeAt g o cs := by
  obtain ⟨ao', cp, e, hh⟩ := h
  injection e with ea eb ec
  subst ea
  exact hh h0
abbrev RdE (v : Value) (l : List Ent) (w : World) : Prop := Rd l.length (eC l) v w
abbrev RdC (v : Value) (l : List Chg) (w : World) : Prop := Rd l.length (cC l) v w
theorem cell4 {g o : Nat} {l : List Ent} {w : World} (h : w.rangeAt g o (eC l)) {i : Nat} (hi : i < l.length) : w.cell? ⟨g, o + i * 4, none⟩ = some (.int .i64 l[i].1) ∧ w.cell? ⟨g, o + i * 4 + 1, none⟩ = some (.string l[i].2.1) ∧ w.cell? ⟨g, o + i * 4 + 2, none⟩ = some (.string l[i].2.2.1) ∧ w.cell? ⟨g, o + i * 4 + 3, none⟩ = some (.bool l[i].2.2.2) := by
  obtain ⟨a, b, c, d⟩ := eC_at l i hi
  exact ⟨h _ _ a, h _ _ b, h _ _ c, h _ _ d⟩
theorem cellC {g o : Nat} {l : List Chg} {w : World} (h : w.rangeAt g o (cC l)) {i : Nat} (hi : i < l.length) : w.cell? ⟨g, o + i * 3, none⟩ = some (.string l[i].1) ∧ w.cell? ⟨g, o + i * 3 + 1, none⟩ = some (.string l[i].2.1) ∧ w.cell? ⟨g, o + i * 3 + 2, none⟩ = some (.bool l[i].2.2) := by
  obtain ⟨a, b, c⟩ := cC_at l i hi
  exact ⟨h _ _ a, h _ _ b, h _ _ c⟩
/-- a row at a block's head, of one's own -/
theorem own_form {T : TypeId} {B k n : Nat} {v : Value} {xs : List Value} {w : World} (h : w.ownsRow B T k v n xs) : ∃ ao cap, v = .slice ao n cap := by
  rcases h.2 with ⟨e, h0⟩ | ⟨g, cap, cur, hv, _⟩
  · exact ⟨none, 0, by rw [e, h0]⟩
  · exact ⟨_, _, hv⟩
theorem own_go {T : TypeId} {B k n : Nat} {v : Value} {xs : List Value} {w w' : World} (h : w.ownsRow B T k v n xs) (hb : Below w.heap.size w w') : w'.ownsRow B T k v n xs :=
  World.ownsRow.kept h (row := none) ⟨hb.os, hb.tape, hb.output, hb.size, fun k hk _ => hb.block k hk⟩ (by cases hv : v.ownBlock <;> simp)
theorem own_range {T : TypeId} {B k n g cap : Nat} {xs : List Value} {w : World} (h : w.ownsRow B T k (.slice (some ⟨g, 0, none⟩) n cap) n xs) : g < w.heap.size ∧ B ≤ g ∧ n ≤ cap ∧ cap ≤ maxLen ∧ w.rangeAt g 0 xs ∧ w.there g 0 (cap * k) := by
  rcases h.2 with ⟨e, _⟩ | ⟨g', cap', cur, hv, hB, hgh, hn, hm, hz, htk⟩
  · cases e
  · injection hv with h1 h2 h3
    injection h1 with h1
    injection h1 with h1
    subst h1 h3
    refine ⟨(Array.getElem?_eq_some_iff.1 hgh).1, hB, hn, hm, fun j v hv => ?_, fun j hj => ⟨?_, frzB hgh _⟩⟩
    · have hj : j < n * k := by
        rcases Nat.lt_or_ge j (n * k) with q | q
        · exact q
        · rw [← htk, List.getElem?_eq_none (by rw [List.length_take]; omega)] at hv; cases hv
      rw [cell_of_row _ _ _ _ _ _ hgh, Nat.zero_add, ← hv, ← htk, List.getElem?_take_of_lt hj, Array.getElem?_toList]
    · rw [cell_of_row _ _ _ _ _ _ hgh, Nat.zero_add, Array.getElem?_eq_getElem (by omega)]; rfl
theorem own_rd {T : TypeId} {B k n : Nat} {v : Value} {xs : List Value} {w : World} (h : w.ownsRow B T k v n xs) : Rd n xs v w := by
  rcases h.2 with ⟨e, h0⟩ | ⟨g, cap, cur, hv, _⟩
  · subst e h0; exact Rd.nil _ _ _ _
  · subst hv
    obtain ⟨h1, _, _, _, h2, _⟩ := own_range h
    exact ⟨_, _, rfl, fun _ => ⟨g, 0, rfl, h1, h2⟩⟩
/-- entries of one's own, at whatever offset -/
def OwL (B : Nat) (v : Value) (l : List Ent) (w : World) : Prop := (v = .slice none 0 0 ∧ l = []) ∨ ∃ g o cap, v = .slice (some ⟨g, o, none⟩) l.length cap ∧ B ≤ g ∧ g < w.heap.size ∧ l.length ≤ cap ∧ cap ≤ maxLen ∧ w.rangeAt g o (eC l) ∧ w.there g o (cap * 4)
theorem OwL.form {B : Nat} {v : Value} {l : List Ent} {w : World} (h : OwL B v l w) : ∃ ao cap, v = .slice ao l.length cap ∧ (ao = none → l.length = 0 ∧ cap = 0) := by
  rcases h with ⟨rfl, rfl⟩ | ⟨g, o, cap, rfl, _⟩
  · exact ⟨none, 0, rfl, fun _ => ⟨rfl, rfl⟩⟩
  · exact ⟨_, _, rfl, fun e => by cases e⟩
theorem OwL.rd {B : Nat} {v : Value} {l : List Ent} {w : World} (h : OwL B v l w) : RdE v l w := by
  rcases h with ⟨rfl, rfl⟩ | ⟨g, o, cap, rfl, h1, h2, h3, h4, h5, h6⟩
  · exact Rd.nil _ _ _ _
  · exact ⟨_, _, rfl, fun _ => ⟨g, o, rfl, h2, h5⟩⟩
theorem OwL.nil (B : Nat) (w : World) : OwL B (.slice none 0 0) [] w := .inl ⟨rfl, rfl⟩
/-- where its block stays as it is -/
theorem OwL.kept {B : Nat} {v : Value} {l : List Ent} {w W : World} (h : OwL B v l w) (hs : w.heap.size ≤ W.heap.size) (hb : ∀ g, v.ownBlock = some g → W.heap[g]? = w.heap[g]?) : OwL B v l W := by
  rcases h with ⟨rfl, rfl⟩ | ⟨g, o, cap, rfl, h1, h2, h3, h4, h5, h6⟩
  · exact .inl ⟨rfl, rfl⟩
  · have hg := hb g rfl
    refine .inr ⟨g, o, cap, rfl, h1, Nat.lt_of_lt_of_le h2 hs, h3, h4, fun j v hv => ?_, fun j hj => ?_⟩
    · rw [World.cell?_of_block (w := w) (a := ⟨g, o + j, none⟩) hg]; exact h5 j v hv
    · rw [World.cell?_of_block (w := w) (a := ⟨g, o + j, none⟩) hg, World.frozen?_of_block (w := w) (a := ⟨g, o + j, none⟩) hg]; exact h6 j hj
theorem OwL.lt {B : Nat} {v : Value} {l : List Ent} {w : World} (h : OwL B v l w) : ∀ g, v.ownBlock = some g → B ≤ g ∧ g < w.heap.size := by
  intro k hk
  rcases h with ⟨rfl, rfl⟩ | ⟨g, o, cap, rfl, h1, h2, _⟩
  · cases hk
  · injection hk with hk
    have : g = k := hk
    subst this
    exact ⟨h1, h2⟩
theorem OwL.go {B : Nat} {v : Value} {l : List Ent} {w W : World} (h : OwL B v l w) (hb : Below w.heap.size w W) : OwL B v l W := h.kept hb.size (fun g hg => hb.block g (h.lt g hg).2)
theorem OwL.mono {B B' : Nat} {v : Value} {l : List Ent} {w : World} (h : OwL B v l w) (hB : B' ≤ B) : OwL B' v l w := by
  rcases h with h | ⟨g, o, cap, e, h1, h2⟩
  · exact .inl h
  · exact .inr ⟨g, o, cap, e, by omega, h2⟩
theorem OwL.of_own {T : TypeId} {B : Nat} {v : Value} {l : List Ent} {w : World} (h : w.ownsRow B T 4 v l.length (eC l)) : OwL B v l w := by
  rcases h.2 with ⟨e, h0⟩ | ⟨g, cap, cur, hv, _⟩
  · exact .inl ⟨e, List.eq_nil_of_length_eq_zero h0⟩
  · subst hv
    obtain ⟨h1, h2, h3, h4, h5, h6⟩ := own_range h
    exact .inr ⟨g, 0, cap, rfl, h2, h1, h3, h4, h5, h6⟩
/-- an entry more, in the room that is there -/
theorem OwL.snoc {B g o cap : Nat} {l : List Ent} {w : World} (h : OwL B (.slice (some ⟨g, o, none⟩) l.length cap) l w) (x : Ent) (hc : l.length + 1 ≤ cap) : OwL B (.slice (some ⟨g, o, none⟩) (l.length + 1) cap) (l ++ [x]) (w.setCells g (o + l.length * 4) (encE x)) := by
  rcases h with ⟨e, _⟩ | ⟨g', o', cap', e, h1, h2, h3, h4, h5, h6⟩
  · cases e
  · injection e with e1 e2 e3
    injection e1 with e1
    injection e1 with e1 e4
    subst e1 e3 e4
    have hsz : (w.setCells g (o + l.length * 4) (encE x)).heap.size = w.heap.size := by
      simp [encE, World.setCells, World.setCell]
    refine .inr ⟨g, o, cap, by simp, h1, by rw [hsz]; exact h2, by simp; omega, h4, fun j v hv => ?_, World.there_setCells h6 _ _ _⟩
    rw [eC_snoc] at hv
    rcases Nat.lt_or_ge j (eC l).length with q | q
    · rw [List.getElem?_append_left q] at hv
      have hq := eC_len l
      rw [World.cell?_setCells_out _ _ _ _ _ (fun _ _ => Or.inl (by simp only; omega))]
      exact h5 j v hv
    · rw [List.getElem?_append_right q, eC_len] at hv
      have hq := eC_len l
      have := World.rangeAt_setCells_same w g (o + l.length * 4) (encE x) (fun i hi => by
        have := h6 (l.length * 4 + i) (by simp [encE] at hi; omega)
        rwa [← Nat.add_assoc] at this) _ _ hv
      rwa [show o + l.length * 4 + (j - l.length * 4) = o + j by omega] at this
/-- the first k let go of: their cells whatever -/
theorem OwL.dropped {B g o cap k : Nat} {l : List Ent} {w : World} (h : OwL B (.slice (some ⟨g, o, none⟩) l.length cap) l w) (zs : List Value) (hz : zs.length = k * 4) (hk : k ≤ l.length) : OwL B (.slice (some ⟨g, o + k * 4, none⟩) (l.length - k) (cap - k)) (l.drop k) (w.setCells g o zs) := by
  rcases h with ⟨e, _⟩ | ⟨g', o', cap', e, h1, h2, h3, h4, h5, h6⟩
  · cases e
  · injection e with e1 e2 e3
    injection e1 with e1
    injection e1 with e1 e4
    subst e1 e3 e4
    have hsz : g < (w.setCells g o zs).heap.size := by
      have := (below_setCells (B := 0) (Nat.zero_le g) zs o w (Below.refl 0 w)).size
      omega
    refine .inr ⟨g, o + k * 4, cap - k, by rw [List.length_drop], h1, hsz, by rw [List.length_drop]; omega, by omega, fun j v hv => ?_, fun j hj => ?_⟩
    · rw [eC_drop, List.getElem?_drop] at hv
      rw [World.cell?_setCells_out _ _ _ _ _ (fun _ _ => Or.inr (by simp only; omega)), Nat.add_assoc]
      exact h5 _ v hv
    · have := World.there_setCells h6 g o zs (k * 4 + j) (by omega)
      rwa [← Nat.add_assoc] at this
theorem infoE : (Try.prog.info? 57).map (fun i => (i.zero, i.size, i.bytes)) = some (some (.agg #[.int .i64 0, .string ⟨#[]⟩, .string ⟨#[]⟩, .bool false]), 4, 48) := by kernel_rfl
theorem infoC : (Try.prog.info? 55).map (fun i => (i.zero, i.size, i.bytes)) = some (some (.agg #[.string ⟨#[]⟩, .string ⟨#[]⟩, .bool false]), 3, 40) := by kernel_rfl
theorem infoRE : (Try.prog.info? 53).map (fun i => (i.zero, i.size, i.bytes)) = some (some (.agg #[.int .i64 0, .string ⟨#[]⟩, .string ⟨#[]⟩, .bool false]), 4, 48) := by kernel_rfl
theorem infoRC : (Try.prog.info? 51).map (fun i => (i.zero, i.size, i.bytes)) = some (some (.agg #[.string ⟨#[]⟩, .string ⟨#[]⟩, .bool false]), 3, 40) := by kernel_rfl
/-- the cells of so many zero entries -/
def zE (n : Nat) : List Value := (Builtin.zeroCells #[.int .i64 0, .string ⟨#[]⟩, .string ⟨#[]⟩, .bool false] n).toList
theorem zE_len (n : Nat) : (zE n).length = n * 4 := by unfold zE Builtin.zeroCells; simp
theorem zE_one (n : Nat) : ∀ v ∈ zE n, v.oneCell' = true := fun v hv => by
  unfold zE Builtin.zeroCells at hv
  simp at hv
  obtain ⟨a, ha, rfl⟩ := hv
  have hm : a % 4 = 0 ∨ a % 4 = 1 ∨ a % 4 = 2 ∨ a % 4 = 3 := by omega
  rcases hm with h | h | h | h <;> rw [h] <;> rfl
set_option maxHeartbeats 1000000 in
theorem run_clear (w : World) (ty : TypeId) (g o n c : Nat) (hn : 0 < n) (ht : w.there g o (n * 4)) :
    (Builtin.clear_ #[37] ty #[.slice (some ⟨g, o, none⟩) n c]).run Try.prog w = .ok (.tuple #[]) (w.setCells g o (zE n)) := by
  have hz : ∀ w, (zeroValue 57).run Try.prog w = .ok (.agg #[.int .i64 0, .string ⟨#[]⟩, .string ⟨#[]⟩, .bool false]) w := Try.zeroValue57
  have hst := run_storeCells_cells (P := Try.prog) g o (zE n) 0 w (fun j hj => by rw [Nat.add_zero]; exact (ht j (by rw [zE_len] at hj; exact hj)).1) (fun j hj => by rw [Nat.add_zero]; exact (ht j (by rw [zE_len] at hj; exact hj)).2) (zE_one n)
  simp only [Nat.add_zero] at hst
  have hzc : (Builtin.zeroCells (Value.agg #[.int .i64 0, .string ⟨#[]⟩, .string ⟨#[]⟩, .bool false]).cells n).toList = zE n := rfl
  obtain ⟨m, rfl⟩ : ∃ m, n = m + 1 := ⟨n - 1, by omega⟩
  simp [Builtin.clear_, run_underlying Try.underlying37, hz, hzc, hst]
/-- the program's log: its block c, its entries' block gb, what it may hold, its entries, its floor, its last revision -/
structure IsLg (B c : Nat) (gb : Option Nat) (m : Int) (l : List Ent) (fl la : Int) (W : World) : Prop where
  ex : ∃ v, W.heap[c]? = some (.cells #[.int .i64 m, v, .int .i64 fl, .int .i64 la] 62 (0, 0)) ∧ OwL B v l W ∧ v.ownBlock = gb
  ne : gb ≠ some c
theorem IsLg.lt {B c : Nat} {gb : Option Nat} {m : Int} {l : List Ent} {fl la : Int} {W : World} (h : IsLg B c gb m l fl la W) : c < W.heap.size := by
  obtain ⟨v, hv, _⟩ := h.ex
  exact (Array.getElem?_eq_some_iff.1 hv).1
theorem IsLg.row {B c : Nat} {gb : Option Nat} {m : Int} {l : List Ent} {fl la : Int} {W : World} (h : IsLg B c gb m l fl la W) : ∀ g, gb = some g → B ≤ g ∧ g < W.heap.size := by
  obtain ⟨v, hv, ho, e⟩ := h.ex
  intro g hg
  exact ho.lt g (e.trans hg)
theorem IsLg.kept {B c : Nat} {gb : Option Nat} {m : Int} {l : List Ent} {fl la : Int} {w W : World} (h : IsLg B c gb m l fl la w) (hs : w.heap.size ≤ W.heap.size) (hc : W.heap[c]? = w.heap[c]?) (hb : ∀ g, gb = some g → W.heap[g]? = w.heap[g]?) : IsLg B c gb m l fl la W := by
  obtain ⟨v, hv, ho, e⟩ := h.ex
  exact ⟨⟨v, hc.trans hv, ho.kept hs (fun g hg => hb g (e.symm.trans hg)), e⟩, h.ne⟩
theorem IsLg.go {B c : Nat} {gb : Option Nat} {m : Int} {l : List Ent} {fl la : Int} {w W : World} (h : IsLg B c gb m l fl la w) (hb : Below w.heap.size w W) : IsLg B c gb m l fl la W :=
  h.kept hb.size (hb.block _ h.lt) (fun g hg => hb.block _ (h.row g hg).2)
/-- what a call on a log changes: its block, its entries' block -/
structure Ch (c : Nat) (gb : Option Nat) (w w' : World) : Prop where
  os : w'.os = w.os
  tape : w'.tape = w.tape
  output : w'.output = w.output
  size : w.heap.size ≤ w'.heap.size
  block : ∀ k, k < w.heap.size → k ≠ c → some k ≠ gb → w'.heap[k]? = w.heap[k]?
theorem Ch.of {c : Nat} {gb : Option Nat} {w w' : World} (h : Below w.heap.size w w') : Ch c gb w w' := ⟨h.os, h.tape, h.output, h.size, fun k hk _ _ => h.block k hk⟩
/-- the row's block behind a call: as it was, none, or new -/
def NewB (gb gb' : Option Nat) (w : World) : Prop := gb' = gb ∨ gb' = none ∨ ∃ g, gb' = some g ∧ w.heap.size ≤ g
theorem Ch.trans {c : Nat} {gb gb' : Option Nat} {a b d : World} (h : Ch c gb a b) (hn : NewB gb gb' a) (k : Ch c gb' b d) : Ch c gb a d := by
  refine ⟨k.os.trans h.os, k.tape.trans h.tape, k.output.trans h.output, Nat.le_trans h.size k.size, fun i hi hc hg => ?_⟩
  rw [k.block i (Nat.lt_of_lt_of_le hi h.size) hc ?_, h.block i hi hc hg]
  rcases hn with rfl | rfl | ⟨g, rfl, hge⟩
  · exact hg
  · intro e; cases e
  · intro e; injection e with e; omega
theorem NewB.trans {g1 g2 g3 : Option Nat} {a b : World} (h : NewB g1 g2 a) (k : NewB g2 g3 b) (hs : a.heap.size ≤ b.heap.size) : NewB g1 g3 a := by
  rcases k with rfl | rfl | ⟨g, rfl, hge⟩
  · exact h
  · exact .inr (.inl rfl)
  · exact .inr (.inr ⟨g, rfl, Nat.le_trans hs hge⟩)
theorem NewB.lift {g1 g2 : Option Nat} {a b : World} (h : NewB g1 g2 b) (hs : a.heap.size ≤ b.heap.size) : NewB g1 g2 a := by
  rcases h with h | h | ⟨g, e, hge⟩
  · exact .inl h
  · exact .inr (.inl h)
  · exact .inr (.inr ⟨g, e, Nat.le_trans hs hge⟩)
theorem Ch.below {c : Nat} {gb : Option Nat} {B : Nat} {w w' : World} (h : Ch c gb w w') (hB : B ≤ w.heap.size) (hc : B ≤ c) (hg : ∀ g, gb = some g → B ≤ g) : Below B w w' :=
  ⟨h.os, h.tape, h.output, h.size, fun k hk => h.block k (by omega) (by omega) (fun e => by have := hg k e.symm; omega)⟩
theorem Ch.set {c : Nat} {gb : Option Nat} (W : World) (i : Nat) (u : Value) : Ch c gb W (W.setCell ⟨c, i, none⟩ u) :=
  ⟨rfl, rfl, rfl, by simp [World.setCell], fun k _ hk _ => set_oth _ _ _ _ hk⟩
theorem Ch.tr {c : Nat} {gb : Option Nat} {a b d : World} (h : Ch c gb a b) (k : Ch c gb b d) : Ch c gb a d := h.trans (.inl rfl) k
theorem tape_setCells (b : Nat) : ∀ (vs : List Value) (o : Nat) (w : World), (w.setCells b o vs).tape = w.tape
  | [], _, _ => rfl
  | v :: r, o, w => (tape_setCells b r (o + 1) _).trans rfl
theorem size_sets (b : Nat) : ∀ (vs : List Value) (o : Nat) (w : World), (w.setCells b o vs).heap.size = w.heap.size
  | [], _, _ => rfl
  | v :: r, o, w => (size_sets b r (o + 1) _).trans (by simp [World.setCell])
theorem Ch.sets {c g : Nat} (W : World) (o : Nat) (vs : List Value) : Ch c (some g) W (W.setCells g o vs) :=
  ⟨World.os_setCells _ _ _ _, tape_setCells _ _ _ _, World.output_setCells _ _ _ _, Nat.le_of_eq (size_sets _ _ _ _).symm, fun k hk _ hg => World.heap_setCells_other _ _ _ _ hk (fun e => hg (by rw [e]))⟩
theorem Ch.grown {c : Nat} {gb : Option Nat} {w w' : World} (h : w.grownBy w' gb) : Ch c gb w w' := ⟨h.os, h.tape, h.output, h.size, fun k hk _ hg => h.block k hk hg⟩
end Go.Proofs.Ytcmcbocegdejjaa.Cl
