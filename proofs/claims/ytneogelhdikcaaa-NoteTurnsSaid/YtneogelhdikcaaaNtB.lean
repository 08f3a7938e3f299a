/- Rows of entries at whatever offset, of one's own; the builtin clear there; a set of texts in a map; an outbox as it lies; what a call changes; no other condition. -/
import Derived.Test.YtneogelhdikcaaaNtA
import Derived.Maps.OwnSet
import Derived.Maps.RangeWalk
import Derived.Deep.MidRow
import Derived.Deep.Upon
import Derived.Deep.AppendLies
import Derived.Deep.Cut
import Derived.Deep.RegionLaw
import Derived.Deep.RegionLawGrows
import Derived.Lib.LazyBuf
import Derived.Deep.QuietTactic
import Derived.BigQuiet
namespace Go.Proofs.Ytneogelhdikcaaa.Nt
open Go.RowKit Go.Lib Go.Maps Go.ChangeMaps Go.MapKept Go.WideMaps
set_option linter.unusedSimpArgs false
set_option linter.unusedVariables false

theorem info_parts {x : Option TypeInfo} {y : Option Value × Nat × Nat} (h : x.map (fun i => (i.zero, i.size, i.bytes)) = some y) : ∃ i, x = some i ∧ i.zero = y.1 ∧ i.size = y.2.1 ∧ i.bytes = y.2.2 := by
  cases x with
  | none => cases h
  | some i =>
    injection h with h
    exact ⟨i, rfl, by rw [← h], by rw [← h], by rw [← h]⟩
theorem addr0 (g j : Nat) : (⟨g, 0, none⟩ : Addr).add j = ⟨g, j, none⟩ := by unfold Addr.add; split <;> simp_all
theorem addrO (g o j : Nat) : (⟨g, o, none⟩ : Addr).add j = ⟨g, o + j, none⟩ := by unfold Addr.add; split <;> simp_all
theorem frzB {w : World} {g : Nat} {cs : Array Value} {t : TypeId} (h : w.heap[g]? = some (.cells cs t (0, 0))) (j : Nat) : w.frozen? ⟨g, j, none⟩ = false := by simp [World.frozen?, h]
theorem blk_set {w : World} {g : Nat} {cs : Array Value} {t : TypeId} (h : w.heap[g]? = some (.cells cs t (0, 0))) (j : Nat) (v : Value) : (w.setCell ⟨g, j, none⟩ v).heap[g]? = some (.cells (cs.setIfInBounds j v) t (0, 0)) := by
  simp [World.setCell, Array.getElem?_modify, h]
theorem set_oth (w : World) (c i : Nat) (u : Value) {k : Nat} (h : k ≠ c) : (w.setCell ⟨c, i, none⟩ u).heap[k]? = w.heap[k]? := Below.heap_setCell _ _ _ _ h
theorem bdrN (W : World) (n : Nat) : Below W.heap.size W (W.drewN n) := ⟨rfl, rfl, rfl, Nat.le_refl _, fun _ _ => rfl⟩
theorem new3 (w : World) (x y z : Value) (T : TypeId) : ∃ W, W = w.alloc (.cells #[x, y, z] T) ∧ W.heap[w.heap.size]? = some (.cells #[x, y, z] T (0, 0)) ∧ Below w.heap.size w W := ⟨_, rfl, heap_alloc_new w _, (Below.refl _ _).alloc (Nat.le_refl _) _⟩
theorem new1 (w : World) (x : Value) (T : TypeId) : ∃ W, W = w.alloc (.cells #[x] T) ∧ W.heap[w.heap.size]? = some (.cells #[x] T (0, 0)) ∧ Below w.heap.size w W := ⟨_, rfl, heap_alloc_new w _, (Below.refl _ _).alloc (Nat.le_refl _) _⟩
theorem new0 (w : World) (T : TypeId) : ∃ W, W = w.alloc (.cells #[] T) ∧ W.heap[w.heap.size]? = some (.cells #[] T (0, 0)) ∧ Below w.heap.size w W := ⟨_, rfl, heap_alloc_new w _, (Below.refl _ _).alloc (Nat.le_refl _) _⟩
theorem new5 (w : World) (x y z u t : Value) (T : TypeId) : ∃ W, W = w.alloc (.cells #[x, y, z, u, t] T) ∧ W.heap[w.heap.size]? = some (.cells #[x, y, z, u, t] T (0, 0)) ∧ Below w.heap.size w W := ⟨_, rfl, heap_alloc_new w _, (Below.refl _ _).alloc (Nat.le_refl _) _⟩
theorem bdr (W : World) : Below W.heap.size W W.drew := (Below.refl _ _).drew
theorem size_set (w : World) (a : Addr) (v : Value) : (w.setCell a v).heap.size = w.heap.size := by simp [World.setCell]
theorem new4 (w : World) (x y z u : Value) (T : TypeId) : ∃ W, W = w.alloc (.cells #[x, y, z, u] T) ∧ W.heap[w.heap.size]? = some (.cells #[x, y, z, u] T (0, 0)) ∧ Below w.heap.size w W := ⟨_, rfl, heap_alloc_new w _, (Below.refl _ _).alloc (Nat.le_refl _) _⟩
theorem new2 (w : World) (x y : Value) (T : TypeId) : ∃ W, W = w.alloc (.cells #[x, y] T) ∧ W.heap[w.heap.size]? = some (.cells #[x, y] T (0, 0)) ∧ Below w.heap.size w W := ⟨_, rfl, heap_alloc_new w _, (Below.refl _ _).alloc (Nat.le_refl _) _⟩
theorem cells2 {w : World} {g : Nat} {a b : Value} {t : TypeId} (h : w.heap[g]? = some (.cells #[a, b] t (0, 0))) : w.cell? ⟨g, 0, none⟩ = some a ∧ w.cell? ⟨g, 1, none⟩ = some b := ⟨cell_of_row _ _ 0 _ _ _ h, cell_of_row _ _ 1 _ _ _ h⟩
theorem cells3 {w : World} {g : Nat} {a b c : Value} {t : TypeId} (h : w.heap[g]? = some (.cells #[a, b, c] t (0, 0))) : w.cell? ⟨g, 0, none⟩ = some a ∧ w.cell? ⟨g, 1, none⟩ = some b ∧ w.cell? ⟨g, 2, none⟩ = some c := ⟨cell_of_row _ _ 0 _ _ _ h, cell_of_row _ _ 1 _ _ _ h, cell_of_row _ _ 2 _ _ _ h⟩
theorem cells4 {w : World} {g : Nat} {a b c d : Value} {t : TypeId} (h : w.heap[g]? = some (.cells #[a, b, c, d] t (0, 0))) : w.cell? ⟨g, 0, none⟩ = some a ∧ w.cell? ⟨g, 1, none⟩ = some b ∧ w.cell? ⟨g, 2, none⟩ = some c ∧ w.cell? ⟨g, 3, none⟩ = some d := ⟨cell_of_row _ _ 0 _ _ _ h, cell_of_row _ _ 1 _ _ _ h, cell_of_row _ _ 2 _ _ _ h, cell_of_row _ _ 3 _ _ _ h⟩
theorem cells5 {w : World} {g : Nat} {a b c d e : Value} {t : TypeId} (h : w.heap[g]? = some (.cells #[a, b, c, d, e] t (0, 0))) : w.cell? ⟨g, 0, none⟩ = some a ∧ w.cell? ⟨g, 1, none⟩ = some b ∧ w.cell? ⟨g, 2, none⟩ = some c ∧ w.cell? ⟨g, 3, none⟩ = some d ∧ w.cell? ⟨g, 4, none⟩ = some e := ⟨cell_of_row _ _ 0 _ _ _ h, cell_of_row _ _ 1 _ _ _ h, cell_of_row _ _ 2 _ _ _ h, cell_of_row _ _ 3 _ _ _ h, cell_of_row _ _ 4 _ _ _ h⟩
/-- cells of elements that can be read: n of them -/
def Rd (n : Nat) (cs : List Value) (v : Value) (w : World) : Prop := ∃ ao cap, v = .slice ao n cap ∧ (0 < n → ∃ g o, ao = some ⟨g, o, none⟩ ∧ g < w.heap.size ∧ w.rangeAt g o cs)
theorem range_below {B g o : Nat} {cs : List Value} {w W : World} (h : w.rangeAt g o cs) (hb : Below B w W) (hg : g < B) : W.rangeAt g o cs := fun j v hv => (hb.cell (p := ⟨g, o + j, none⟩) hg).trans (h j v hv)
theorem Rd.go {n : Nat} {cs : List Value} {v : Value} {w W : World} (h : Rd n cs v w) (hb : Below w.heap.size w W) : Rd n cs v W := by
  obtain ⟨ao, cap, rfl, h⟩ := h
  refine ⟨ao, cap, rfl, fun h0 => ?_⟩
  obtain ⟨g, o, rfl, hg, hc⟩ := h h0
  exact ⟨g, o, rfl, Nat.lt_of_lt_of_le hg hb.size, range_below hc hb hg⟩
theorem Rd.nil (cs : List Value) (ao : Option Addr) (cap : Nat) (w : World) : Rd 0 cs (.slice ao 0 cap) w := ⟨ao, cap, rfl, fun h => absurd h (Nat.lt_irrefl _)⟩
theorem Rd.at {n m cap : Nat} {cs : List Value} {ao : Option Addr} {w : World} (h : Rd n cs (.slice ao m cap) w) (h0 : 0 < n) : ∃ g o, ao = some ⟨g, o, none⟩ ∧ g < w.heap.size ∧ w.rangeAt g o cs := by
  obtain ⟨ao', cp, e, hh⟩ := h
  injection e with ea eb ec
  subst ea
  exact hh h0
abbrev RdE (v : Value) (l : List Ent) (w : World) : Prop := Rd l.length (eC l) v w
abbrev RdT (v : Value) (l : List Tx) (w : World) : Prop := Rd l.length (tC l) v w
theorem cell4 {g o : Nat} {l : List Ent} {w : World} (h : w.rangeAt g o (eC l)) {i : Nat} (hi : i < l.length) : w.cell? ⟨g, o + i * 4, none⟩ = some (.int .i64 l[i].1) ∧ w.cell? ⟨g, o + i * 4 + 1, none⟩ = some (.int .i64 l[i].2.1) ∧ w.cell? ⟨g, o + i * 4 + 2, none⟩ = some (.string (mkS l[i].2.2.1)) ∧ w.cell? ⟨g, o + i * 4 + 3, none⟩ = some (.bool l[i].2.2.2) := by
  obtain ⟨a, b, c, d⟩ := eC_at l i hi
  exact ⟨h _ _ a, h _ _ b, h _ _ c, h _ _ d⟩
theorem cellT {g o : Nat} {l : List Tx} {w : World} (h : w.rangeAt g o (tC l)) {i : Nat} (hi : i < l.length) : w.cell? ⟨g, o + i, none⟩ = some (.string (mkS l[i])) := h _ _ (tC_at l i hi)
/-- a row at a block's head, of one's own -/
theorem own_form {T : TypeId} {B k n : Nat} {v : Value} {xs : List Value} {w : World} (h : w.ownsRow B T k v n xs) : ∃ ao cap, v = .slice ao n cap := by
  rcases h.2 with ⟨e, h0⟩ | ⟨g, cap, cur, hv, _⟩
  · exact ⟨none, 0, by rw [e, h0]⟩
  · exact ⟨_, _, hv⟩
theorem own_go {T : TypeId} {B k n : Nat} {v : Value} {xs : List Value} {w w' : World} (h : w.ownsRow B T k v n xs) (hb : Below w.heap.size w w') : w'.ownsRow B T k v n xs :=
  World.ownsRow.kept h (row := none) ⟨hb.os, hb.tape, hb.output, hb.size, fun k hk _ => hb.block k hk⟩ (by cases hv : v.ownBlock <;> simp)
theorem own_range {T : TypeId} {B k n g cap : Nat} {xs : List Value} {w : World} (h : w.ownsRow B T k (.slice (some ⟨g, 0, none⟩) n cap) n xs) : g < w.heap.size ∧ B ≤ g ∧ n ≤ cap ∧ cap ≤ maxLen ∧ w.rangeAt g 0 xs ∧ w.there g 0 (cap * k) := by
  rcases h.2 with ⟨e, _⟩ | ⟨g', cap', cur, hv, hB, hgh, hn, hm, hz, htk⟩
  · cases e
  · injection hv with h1 h2 h3
    injection h1 with h1
    injection h1 with h1
    subst h1 h3
    refine ⟨(Array.getElem?_eq_some_iff.1 hgh).1, hB, hn, hm, fun j v hv => ?_, fun j hj => ⟨?_, frzB hgh _⟩⟩
    · have hj : j < n * k := by
        rcases Nat.lt_or_ge j (n * k) with q | q
        · exact q
        · rw [← htk, List.getElem?_eq_none (by rw [List.length_take]; omega)] at hv; cases hv
      rw [cell_of_row _ _ _ _ _ _ hgh, Nat.zero_add, ← hv, ← htk, List.getElem?_take_of_lt hj, Array.getElem?_toList]
    · rw [cell_of_row _ _ _ _ _ _ hgh, Nat.zero_add, Array.getElem?_eq_getElem (by omega)]; rfl
theorem own_rd {T : TypeId} {B k n : Nat} {v : Value} {xs : List Value} {w : World} (h : w.ownsRow B T k v n xs) : Rd n xs v w := by
  rcases h.2 with ⟨e, h0⟩ | ⟨g, cap, cur, hv, _⟩
  · subst e h0; exact Rd.nil _ _ _ _
  · subst hv
    obtain ⟨h1, _, _, _, h2, _⟩ := own_range h
    exact ⟨_, _, rfl, fun _ => ⟨g, 0, rfl, h1, h2⟩⟩
/-- elements of one's own, at whatever offset: n of k cells each -/
def OwG (B k n : Nat) (v : Value) (cs : List Value) (w : World) : Prop := cs.length = n * k ∧ ((v = .slice none 0 0 ∧ n = 0) ∨ ∃ g o cap, v = .slice (some ⟨g, o, none⟩) n cap ∧ B ≤ g ∧ g < w.heap.size ∧ n ≤ cap ∧ cap ≤ maxLen ∧ w.rangeAt g o cs ∧ w.there g o (cap * k))
abbrev OwL (B : Nat) (v : Value) (l : List Ent) (w : World) : Prop := OwG B 4 l.length v (eC l) w
abbrev OwT (B : Nat) (v : Value) (l : List Tx) (w : World) : Prop := OwG B 1 l.length v (tC l) w
theorem OwG.form {B k n : Nat} {v : Value} {cs : List Value} {w : World} (h : OwG B k n v cs w) : ∃ ao cap, v = .slice ao n cap ∧ n ≤ cap ∧ (ao = none → n = 0 ∧ cap = 0) := by
  rcases h.2 with ⟨rfl, rfl⟩ | ⟨g, o, cap, rfl, _, _, h3, _⟩
  · exact ⟨none, 0, rfl, Nat.le_refl _, fun _ => ⟨rfl, rfl⟩⟩
  · exact ⟨_, _, rfl, h3, fun e => by cases e⟩
theorem OwG.rd {B k n : Nat} {v : Value} {cs : List Value} {w : World} (h : OwG B k n v cs w) : Rd n cs v w := by
  rcases h.2 with ⟨rfl, rfl⟩ | ⟨g, o, cap, rfl, h1, h2, h3, h4, h5, h6⟩
  · exact Rd.nil _ _ _ _
  · exact ⟨_, _, rfl, fun _ => ⟨g, o, rfl, h2, h5⟩⟩
theorem OwG.nil (B k : Nat) (w : World) : OwG B k 0 (.slice none 0 0) [] w := ⟨by simp, .inl ⟨rfl, rfl⟩⟩
/-- where its block stays as it is -/
theorem OwG.kept {B k n : Nat} {v : Value} {cs : List Value} {w W : World} (h : OwG B k n v cs w) (hs : w.heap.size ≤ W.heap.size) (hb : ∀ g, v.ownBlock = some g → W.heap[g]? = w.heap[g]?) : OwG B k n v cs W := by
  refine ⟨h.1, ?_⟩
  rcases h.2 with ⟨rfl, rfl⟩ | ⟨g, o, cap, rfl, h1, h2, h3, h4, h5, h6⟩
  · exact .inl ⟨rfl, rfl⟩
  · have hg := hb g rfl
    refine .inr ⟨g, o, cap, rfl, h1, Nat.lt_of_lt_of_le h2 hs, h3, h4, fun j v hv => ?_, fun j hj => ?_⟩
    · rw [World.cell?_of_block (w := w) (a := ⟨g, o + j, none⟩) hg]; exact h5 j v hv
    · rw [World.cell?_of_block (w := w) (a := ⟨g, o + j, none⟩) hg, World.frozen?_of_block (w := w) (a := ⟨g, o + j, none⟩) hg]; exact h6 j hj
theorem OwG.lt {B k n : Nat} {v : Value} {cs : List Value} {w : World} (h : OwG B k n v cs w) : ∀ g, v.ownBlock = some g → B ≤ g ∧ g < w.heap.size := by
  intro q hq
  rcases h.2 with ⟨rfl, rfl⟩ | ⟨g, o, cap, rfl, h1, h2, _⟩
  · cases hq
  · injection hq with hq
    have : g = q := hq
    subst this
    exact ⟨h1, h2⟩
theorem OwG.go {B k n : Nat} {v : Value} {cs : List Value} {w W : World} (h : OwG B k n v cs w) (hb : Below w.heap.size w W) : OwG B k n v cs W := h.kept hb.size (fun g hg => hb.block g (h.lt g hg).2)
theorem OwG.mono {B B' k n : Nat} {v : Value} {cs : List Value} {w : World} (h : OwG B k n v cs w) (hB : B' ≤ B) : OwG B' k n v cs w := by
  refine ⟨h.1, ?_⟩
  rcases h.2 with h | ⟨g, o, cap, e, h1, h2⟩
  · exact .inl h
  · exact .inr ⟨g, o, cap, e, by omega, h2⟩
theorem OwG.of_own {T : TypeId} {B k n : Nat} {v : Value} {cs : List Value} {w : World} (h : w.ownsRow B T k v n cs) : OwG B k n v cs w := by
  refine ⟨h.1, ?_⟩
  rcases h.2 with ⟨e, h0⟩ | ⟨g, cap, cur, hv, _⟩
  · exact .inl ⟨e, h0⟩
  · subst hv
    obtain ⟨h1, h2, h3, h4, h5, h6⟩ := own_range h
    exact .inr ⟨g, 0, cap, rfl, h2, h1, h3, h4, h5, h6⟩
/-- elements more, in the room that is there -/
theorem OwG.more {B k n m g o cap : Nat} {cs ds : List Value} {w : World} (h : OwG B k n (.slice (some ⟨g, o, none⟩) n cap) cs w) (hd : ds.length = m * k) (hc : n + m ≤ cap) : OwG B k (n + m) (.slice (some ⟨g, o, none⟩) (n + m) cap) (cs ++ ds) (w.setCells g (o + n * k) ds) := by
  have hcl := h.1
  refine ⟨by rw [List.length_append, hcl, hd, Nat.add_mul], ?_⟩
  rcases h.2 with ⟨e, _⟩ | ⟨g', o', cap', e, h1, h2, h3, h4, h5, h6⟩
  · cases e
  · injection e with e1 e2 e3
    injection e1 with e1
    injection e1 with e1 e4
    subst e1 e3 e4
    have hsz : g < (w.setCells g (o + n * k) ds).heap.size := by
      have := (below_setCells (B := 0) (Nat.zero_le g) ds (o + n * k) w (Below.refl 0 w)).size
      omega
    refine .inr ⟨g, o, cap, rfl, h1, hsz, hc, h4, fun j v hv => ?_, World.there_setCells h6 _ _ _⟩
    rcases Nat.lt_or_ge j cs.length with q | q
    · rw [List.getElem?_append_left q] at hv
      rw [World.cell?_setCells_out _ _ _ _ _ (fun _ _ => Or.inl (by simp only; omega))]
      exact h5 j v hv
    · rw [List.getElem?_append_right q, hcl] at hv
      have hle : (n + m) * k ≤ cap * k := Nat.mul_le_mul_right _ hc
      rw [Nat.add_mul] at hle
      have := World.rangeAt_setCells_same w g (o + n * k) ds (fun i hi => by
        have := h6 (n * k + i) (by omega)
        rwa [← Nat.add_assoc] at this) _ _ hv
      rwa [show o + n * k + (j - n * k) = o + j by omega] at this
/-- the first m let go of: their cells whatever -/
theorem OwG.dropped {B k n m g o cap : Nat} {cs : List Value} {w : World} (h : OwG B k n (.slice (some ⟨g, o, none⟩) n cap) cs w) (zs : List Value) (hz : zs.length = m * k) (hm : m ≤ n) : OwG B k (n - m) (.slice (some ⟨g, o + m * k, none⟩) (n - m) (cap - m)) (cs.drop (m * k)) (w.setCells g o zs) := by
  have hcl := h.1
  refine ⟨by rw [List.length_drop, hcl, Nat.sub_mul], ?_⟩
  rcases h.2 with ⟨e, _⟩ | ⟨g', o', cap', e, h1, h2, h3, h4, h5, h6⟩
  · cases e
  · injection e with e1 e2 e3
    injection e1 with e1
    injection e1 with e1 e4
    subst e1 e3 e4
    have hsz : g < (w.setCells g o zs).heap.size := by
      have := (below_setCells (B := 0) (Nat.zero_le g) zs o w (Below.refl 0 w)).size
      omega
    have e5 : (cap - m) * k + m * k = cap * k := by rw [← Nat.add_mul]; congr 1; omega
    refine .inr ⟨g, o + m * k, cap - m, rfl, h1, hsz, by omega, by omega, fun j v hv => ?_, fun j hj => ?_⟩
    · rw [List.getElem?_drop] at hv
      rw [World.cell?_setCells_out _ _ _ _ _ (fun _ _ => Or.inr (by simp only; omega)), Nat.add_assoc]
      exact h5 _ v hv
    · have := World.there_setCells h6 g o zs (m * k + j) (by omega)
      rwa [← Nat.add_assoc] at this
theorem infoE : (Try.prog.info? 47).map (fun i => (i.zero, i.size, i.bytes)) = some (some (.agg #[.int .i64 0, .int .i64 0, .string ⟨#[]⟩, .bool false]), 4, 40) := by kernel_rfl
theorem infoRE : (Try.prog.info? 55).map (fun i => (i.zero, i.size, i.bytes)) = some (some (.agg #[.int .i64 0, .int .i64 0, .string ⟨#[]⟩, .bool false]), 4, 40) := by kernel_rfl
theorem infoT : (Try.prog.info? 9).map (fun i => (i.zero, i.size, i.bytes)) = some (some (.string ⟨#[]⟩), 1, 16) := by kernel_rfl
/-- the cells of so many zero entries -/
def zE (n : Nat) : List Value := (Builtin.zeroCells #[.int .i64 0, .int .i64 0, .string ⟨#[]⟩, .bool false] n).toList
theorem zE_len (n : Nat) : (zE n).length = n * 4 := by unfold zE Builtin.zeroCells; simp
theorem zE_one (n : Nat) : ∀ v ∈ zE n, v.oneCell' = true := fun v hv => by
  unfold zE Builtin.zeroCells at hv
  simp at hv
  obtain ⟨a, ha, rfl⟩ := hv
  have hm : a % 4 = 0 ∨ a % 4 = 1 ∨ a % 4 = 2 ∨ a % 4 = 3 := by omega
  rcases hm with h | h | h | h <;> rw [h] <;> rfl
set_option maxHeartbeats 1000000 in
theorem run_clear (w : World) (ty : TypeId) (g o n c : Nat) (hn : 0 < n) (ht : w.there g o (n * 4)) :
    (Builtin.clear_ #[29] ty #[.slice (some ⟨g, o, none⟩) n c]).run Try.prog w = .ok (.tuple #[]) (w.setCells g o (zE n)) := by
  have hz : ∀ w, (zeroValue 47).run Try.prog w = .ok (.agg #[.int .i64 0, .int .i64 0, .string ⟨#[]⟩, .bool false]) w := Try.zeroValue47
  have hst := run_storeCells_cells (P := Try.prog) g o (zE n) 0 w (fun j hj => by rw [Nat.add_zero]; exact (ht j (by rw [zE_len] at hj; exact hj)).1) (fun j hj => by rw [Nat.add_zero]; exact (ht j (by rw [zE_len] at hj; exact hj)).2) (zE_one n)
  simp only [Nat.add_zero] at hst
  have hzc : (Builtin.zeroCells (Value.agg #[.int .i64 0, .int .i64 0, .string ⟨#[]⟩, .bool false]).cells n).toList = zE n := rfl
  obtain ⟨m, rfl⟩ : ∃ m, n = m + 1 := ⟨n - 1, by omega⟩
  simp [Builtin.clear_, run_underlying Try.underlying29, hz, hzc, hst]
theorem strKeyed : Maps.Keyed Try.prog 9 := Maps.string_keyed Try.underlying9
theorem zeroUnit (w : World) : (zeroValue 65).run Try.prog w = .ok (.agg #[]) w := by kernel_rfl
/-- the map in block b holds just these texts; so many at most -/
def SetN (b n : Nat) (ks : List Tx) (w : World) : Prop := ∃ D : DataW Unit, w.ownsMap Try.prog 9 unitElem b n D ∧ ∀ k, Maps.has D (.string k) = decide (k ∈ ks)
def SetF (b : Nat) (ks : List Tx) (w : World) : Prop := ∃ n, n ≤ 100000 ∧ SetN b n ks w
theorem SetN.lt {b n : Nat} {ks : List Tx} {w : World} (h : SetN b n ks w) : b < w.heap.size := by
  obtain ⟨D, h, _⟩ := h; exact h.lt
theorem SetF.lt {b : Nat} {ks : List Tx} {w : World} (h : SetF b ks w) : b < w.heap.size := by
  obtain ⟨n, _, h⟩ := h; exact h.lt
theorem SetN.keep {b n : Nat} {ks : List Tx} {w w' : World} (h : SetN b n ks w) (hb : w'.heap[b]? = w.heap[b]?) : SetN b n ks w' := by
  obtain ⟨D, ⟨es, clock, h1, h2⟩, hh⟩ := h
  exact ⟨D, ⟨es, clock, hb.trans h1, h2⟩, hh⟩
theorem SetF.keep {b : Nat} {ks : List Tx} {w w' : World} (h : SetF b ks w) (hb : w'.heap[b]? = w.heap[b]?) : SetF b ks w' := by
  obtain ⟨n, h1, h⟩ := h; exact ⟨n, h1, h.keep hb⟩
theorem SetF.congr {b : Nat} {ks ls : List Tx} {w : World} (h : SetF b ks w) (e : ∀ x, x ∈ ks ↔ x ∈ ls) : SetF b ls w := by
  obtain ⟨n, h1, D, h2, h3⟩ := h
  exact ⟨n, h1, D, h2, fun k => by rw [h3 k]; exact decide_eq_decide.2 (e k)⟩
theorem SetN.made (w : World) : SetN w.heap.size 0 [] (w.alloc (.map #[] 0)) := ⟨_, World.ownsMap_made w _ _ _, fun k => by simp [Maps.has]⟩
theorem SetN.look {b n : Nat} {ks : List Tx} {w : World} (h : SetN b n ks w) {t : Tx} (ht : (mkS t).size ≤ maxLen) : (Instr.lookup 52 (.map (some b)) (.string (mkS t)) true).run Try.prog w = .ok (.tuple #[.agg #[], .bool (decide (t ∈ ks))]) w := by
  obtain ⟨D, ho, hh⟩ := h
  obtain ⟨v, ps, hr, hv⟩ := ho.look_ok strKeyed Try.underlying52 (zeroUnit w) unitElem_mk (keyOf_string_mk Try.underlying9 ht)
  obtain ⟨rfl, _⟩ := unitElem_inv hv
  rw [hr, ← hh t]
  try rfl
theorem look_none (w : World) {t : Tx} (ht : (mkS t).size ≤ maxLen) : (Instr.lookup 52 (.map none) (.string (mkS t)) true).run Try.prog w = .ok (.tuple #[.agg #[], .bool false]) w :=
  Maps.look_nil true strKeyed Try.underlying52 (zeroUnit w) (keyOf_string_mk Try.underlying9 ht)
theorem SetN.add {b n : Nat} {ks : List Tx} {w : World} (h : SetN b n ks w) {t : Tx} (ht : (mkS t).size ≤ maxLen) (hn : n < maxLen) : ∃ w', (Instr.mapUpdate 52 (.map (some b)) (.string (mkS t)) (.agg #[])).run Try.prog w = .ok () w' ∧ SetN b (n + 1) (ks ++ [t]) w' ∧ w.grownBy w' (some b) := by
  obtain ⟨D, ho, hh⟩ := h
  obtain ⟨w', hr, ho', ht'⟩ := ho.store strKeyed Try.underlying52 hn (keyOf_string_mk Try.underlying9 ht) unitElem_mk
  refine ⟨w', hr, ⟨_, ho', fun k => ?_⟩, ht'.grown⟩
  show Maps.has (D.put (.string t) _) _ = _
  by_cases e : k = t
  · subst e
    rw [Maps.has_put_same ho.isMap (by unfold WideAt.IsKeyLit; trivial)]; simp
  · rw [Maps.has_put_other (fun g => e (by injection g)), hh k]
    simp [e]
/-- a map of texts, or none -/
def SetO (mb : Option Nat) (ks : List Tx) (w : World) : Prop := (mb = none ∧ ks = []) ∨ ∃ b, mb = some b ∧ SetF b ks w
theorem SetO.look {mb : Option Nat} {ks : List Tx} {w : World} (h : SetO mb ks w) {t : Tx} (ht : (mkS t).size ≤ maxLen) : (Instr.lookup 52 (.map mb) (.string (mkS t)) true).run Try.prog w = .ok (.tuple #[.agg #[], .bool (decide (t ∈ ks))]) w := by
  rcases h with ⟨rfl, rfl⟩ | ⟨b, rfl, n, _, h⟩
  · simpa using look_none w ht
  · exact h.look ht
theorem SetO.lt {mb : Option Nat} {ks : List Tx} {w : World} (h : SetO mb ks w) : ∀ g, mb = some g → g < w.heap.size := by
  intro g hg
  rcases h with ⟨e, _⟩ | ⟨b, e, h⟩
  · rw [e] at hg; cases hg
  · rw [e] at hg; injection hg with hg; subst hg; exact h.lt
theorem SetO.keep {mb : Option Nat} {ks : List Tx} {w w' : World} (h : SetO mb ks w) (hb : ∀ g, mb = some g → w'.heap[g]? = w.heap[g]?) : SetO mb ks w' := by
  rcases h with h | ⟨b, e, h⟩
  · exact .inl h
  · exact .inr ⟨b, e, h.keep (hb b e)⟩
theorem SetO.go {mb : Option Nat} {ks : List Tx} {w w' : World} (h : SetO mb ks w) (hb : Below w.heap.size w w') : SetO mb ks w' := h.keep (fun g hg => hb.block g (h.lt g hg))
/-- the program's outbox: its block c, its entries' block gb, its map mb, what it may hold, who fires, its entries, its floor, its last number -/
structure IsOb (B c : Nat) (gb mb : Option Nat) (m : Int) (now : List Tx) (l : List Ent) (fl la : Int) (W : World) : Prop where
  ex : ∃ v, W.heap[c]? = some (.cells #[.int .i64 m, .map mb, v, .int .i64 fl, .int .i64 la] 54 (0, 0)) ∧ OwL B v l W ∧ v.ownBlock = gb
  ne : gb ≠ some c
  mne : mb ≠ some c
  ap : ∀ g, mb = some g → gb ≠ some g
  mp : SetO mb now W
  mB : ∀ g, mb = some g → B ≤ g
theorem IsOb.lt {B c : Nat} {gb mb : Option Nat} {m : Int} {now : List Tx} {l : List Ent} {fl la : Int} {W : World} (h : IsOb B c gb mb m now l fl la W) : c < W.heap.size := by
  obtain ⟨v, hv, _⟩ := h.ex
  exact (Array.getElem?_eq_some_iff.1 hv).1
theorem IsOb.row {B c : Nat} {gb mb : Option Nat} {m : Int} {now : List Tx} {l : List Ent} {fl la : Int} {W : World} (h : IsOb B c gb mb m now l fl la W) : ∀ g, gb = some g → B ≤ g ∧ g < W.heap.size := by
  obtain ⟨v, hv, ho, e⟩ := h.ex
  intro g hg
  exact ho.lt g (e.trans hg)
theorem IsOb.kept {B c : Nat} {gb mb : Option Nat} {m : Int} {now : List Tx} {l : List Ent} {fl la : Int} {w W : World} (h : IsOb B c gb mb m now l fl la w) (hs : w.heap.size ≤ W.heap.size) (hc : W.heap[c]? = w.heap[c]?) (hb : ∀ g, gb = some g → W.heap[g]? = w.heap[g]?) (hm : ∀ g, mb = some g → W.heap[g]? = w.heap[g]?) : IsOb B c gb mb m now l fl la W := by
  obtain ⟨v, hv, ho, e⟩ := h.ex
  exact ⟨⟨v, hc.trans hv, ho.kept hs (fun g hg => hb g (e.symm.trans hg)), e⟩, h.ne, h.mne, h.ap, h.mp.keep hm, h.mB⟩
theorem IsOb.go {B c : Nat} {gb mb : Option Nat} {m : Int} {now : List Tx} {l : List Ent} {fl la : Int} {w W : World} (h : IsOb B c gb mb m now l fl la w) (hb : Below w.heap.size w W) : IsOb B c gb mb m now l fl la W :=
  h.kept hb.size (hb.block _ h.lt) (fun g hg => hb.block _ (h.row g hg).2) (fun g hg => hb.block _ (h.mp.lt g hg))
/-- what a call on a log changes: its block, its entries' block -/
structure Ch (c : Nat) (gb : Option Nat) (w w' : World) : Prop where
  os : w'.os = w.os
  tape : w'.tape = w.tape
  output : w'.output = w.output
  size : w.heap.size ≤ w'.heap.size
  block : ∀ k, k < w.heap.size → k ≠ c → some k ≠ gb → w'.heap[k]? = w.heap[k]?
theorem Ch.of {c : Nat} {gb : Option Nat} {w w' : World} (h : Below w.heap.size w w') : Ch c gb w w' := ⟨h.os, h.tape, h.output, h.size, fun k hk _ _ => h.block k hk⟩
/-- the row's block behind a call: as it was, none, or new -/
def NewB (gb gb' : Option Nat) (w : World) : Prop := gb' = gb ∨ gb' = none ∨ ∃ g, gb' = some g ∧ w.heap.size ≤ g
theorem Ch.trans {c : Nat} {gb gb' : Option Nat} {a b d : World} (h : Ch c gb a b) (hn : NewB gb gb' a) (k : Ch c gb' b d) : Ch c gb a d := by
  refine ⟨k.os.trans h.os, k.tape.trans h.tape, k.output.trans h.output, Nat.le_trans h.size k.size, fun i hi hc hg => ?_⟩
  rw [k.block i (Nat.lt_of_lt_of_le hi h.size) hc ?_, h.block i hi hc hg]
  rcases hn with rfl | rfl | ⟨g, rfl, hge⟩
  · exact hg
  · intro e; cases e
  · intro e; injection e with e; omega
theorem NewB.trans {g1 g2 g3 : Option Nat} {a b : World} (h : NewB g1 g2 a) (k : NewB g2 g3 b) (hs : a.heap.size ≤ b.heap.size) : NewB g1 g3 a := by
  rcases k with rfl | rfl | ⟨g, rfl, hge⟩
  · exact h
  · exact .inr (.inl rfl)
  · exact .inr (.inr ⟨g, rfl, Nat.le_trans hs hge⟩)
theorem NewB.lift {g1 g2 : Option Nat} {a b : World} (h : NewB g1 g2 b) (hs : a.heap.size ≤ b.heap.size) : NewB g1 g2 a := by
  rcases h with h | h | ⟨g, e, hge⟩
  · exact .inl h
  · exact .inr (.inl h)
  · exact .inr (.inr ⟨g, e, Nat.le_trans hs hge⟩)
theorem Ch.below {c : Nat} {gb : Option Nat} {B : Nat} {w w' : World} (h : Ch c gb w w') (hB : B ≤ w.heap.size) (hc : B ≤ c) (hg : ∀ g, gb = some g → B ≤ g) : Below B w w' :=
  ⟨h.os, h.tape, h.output, h.size, fun k hk => h.block k (by omega) (by omega) (fun e => by have := hg k e.symm; omega)⟩
theorem Ch.set {c : Nat} {gb : Option Nat} (W : World) (i : Nat) (u : Value) : Ch c gb W (W.setCell ⟨c, i, none⟩ u) :=
  ⟨rfl, rfl, rfl, by simp [World.setCell], fun k _ hk _ => set_oth _ _ _ _ hk⟩
theorem Ch.tr {c : Nat} {gb : Option Nat} {a b d : World} (h : Ch c gb a b) (k : Ch c gb b d) : Ch c gb a d := h.trans (.inl rfl) k
theorem tape_setCells (b : Nat) : ∀ (vs : List Value) (o : Nat) (w : World), (w.setCells b o vs).tape = w.tape
  | [], _, _ => rfl
  | v :: r, o, w => (tape_setCells b r (o + 1) _).trans rfl
theorem size_sets (b : Nat) : ∀ (vs : List Value) (o : Nat) (w : World), (w.setCells b o vs).heap.size = w.heap.size
  | [], _, _ => rfl
  | v :: r, o, w => (size_sets b r (o + 1) _).trans (by simp [World.setCell])
theorem Ch.sets {c g : Nat} (W : World) (o : Nat) (vs : List Value) : Ch c (some g) W (W.setCells g o vs) :=
  ⟨World.os_setCells _ _ _ _, tape_setCells _ _ _ _, World.output_setCells _ _ _ _, Nat.le_of_eq (size_sets _ _ _ _).symm, fun k hk _ hg => World.heap_setCells_other _ _ _ _ hk (fun e => hg (by rw [e]))⟩
theorem Ch.grown {c : Nat} {gb : Option Nat} {w w' : World} (h : w.grownBy w' gb) : Ch c gb w w' := ⟨h.os, h.tape, h.output, h.size, fun k hk _ hg => h.block k hk hg⟩
theorem Ch.chain {c : Nat} {gb : Option Nat} {w W1 W2 : World} (h : Ch c gb w W1) (k : Below W1.heap.size W1 W2) : Ch c gb w W2 := h.tr (Ch.of k)
end Go.Proofs.Ytneogelhdikcaaa.Nt
