/- A map that holds just those pins that are held; the program's pins as they lie; rows of one's own; no other condition. -/
import Derived.Test.YtjjnjankjbiigaaPnA
import Derived.Deep.AppendLies
import Derived.Deep.RegionLaw
import Derived.Deep.QuietTactic
import Derived.BigQuiet
import Derived.Deep.Cut
namespace Go.Proofs.Ytjjnjankjbiigaa.Pn
open Go.RowKit Go.Lib Go.Maps
open Go.WideElems (Fit rd rg pl rd_val elemAt)
set_option linter.unusedSimpArgs false
set_option linter.unusedVariables false

theorem info_parts {x : Option TypeInfo} {y : Option Value × Nat × Nat} (h : x.map (fun i => (i.zero, i.size, i.bytes)) = some y) : ∃ i, x = some i ∧ i.zero = y.1 ∧ i.size = y.2.1 ∧ i.bytes = y.2.2 := by
  cases x with
  | none => cases h
  | some i =>
    injection h with h
    exact ⟨i, rfl, by rw [← h], by rw [← h], by rw [← h]⟩
theorem frzB {w : World} {g : Nat} {cs : Array Value} {t : TypeId} (h : w.heap[g]? = some (.cells cs t (0, 0))) (j : Nat) : w.frozen? ⟨g, j, none⟩ = false := by simp [World.frozen?, h]
theorem blk_set {w : World} {g : Nat} {cs : Array Value} {t : TypeId} (h : w.heap[g]? = some (.cells cs t (0, 0))) (j : Nat) (v : Value) : (w.setCell ⟨g, j, none⟩ v).heap[g]? = some (.cells (cs.setIfInBounds j v) t (0, 0)) := by
  simp [World.setCell, Array.getElem?_modify, h]
theorem set_oth (w : World) (c i : Nat) (u : Value) {k : Nat} (h : k ≠ c) : (w.setCell ⟨c, i, none⟩ u).heap[k]? = w.heap[k]? := Below.heap_setCell _ _ _ _ h
theorem size_set (w : World) (a : Addr) (v : Value) : (w.setCell a v).heap.size = w.heap.size := by simp [World.setCell]
theorem bdrN (W : World) (n : Nat) : Below W.heap.size W (W.drewN n) := ⟨rfl, rfl, rfl, Nat.le_refl _, fun _ _ => rfl⟩
theorem bdr (W : World) : Below W.heap.size W W.drew := (Below.refl _ _).drew
theorem new1 (w : World) (x : Value) (T : TypeId) : ∃ W, W = w.alloc (.cells #[x] T) ∧ W.heap[w.heap.size]? = some (.cells #[x] T (0, 0)) ∧ Below w.heap.size w W := ⟨_, rfl, heap_alloc_new w _, (Below.refl _ _).alloc (Nat.le_refl _) _⟩
theorem new2 (w : World) (x y : Value) (T : TypeId) : ∃ W, W = w.alloc (.cells #[x, y] T) ∧ W.heap[w.heap.size]? = some (.cells #[x, y] T (0, 0)) ∧ Below w.heap.size w W := ⟨_, rfl, heap_alloc_new w _, (Below.refl _ _).alloc (Nat.le_refl _) _⟩
theorem new3 (w : World) (x y z : Value) (T : TypeId) : ∃ W, W = w.alloc (.cells #[x, y, z] T) ∧ W.heap[w.heap.size]? = some (.cells #[x, y, z] T (0, 0)) ∧ Below w.heap.size w W := ⟨_, rfl, heap_alloc_new w _, (Below.refl _ _).alloc (Nat.le_refl _) _⟩
theorem cells1 {w : World} {g : Nat} {a : Value} {t : TypeId} (h : w.heap[g]? = some (.cells #[a] t (0, 0))) : w.cell? ⟨g, 0, none⟩ = some a := cell_of_row _ _ 0 _ _ _ h
theorem cells2 {w : World} {g : Nat} {a b : Value} {t : TypeId} (h : w.heap[g]? = some (.cells #[a, b] t (0, 0))) : w.cell? ⟨g, 0, none⟩ = some a ∧ w.cell? ⟨g, 1, none⟩ = some b := ⟨cell_of_row _ _ 0 _ _ _ h, cell_of_row _ _ 1 _ _ _ h⟩
theorem cells3 {w : World} {g : Nat} {a b c : Value} {t : TypeId} (h : w.heap[g]? = some (.cells #[a, b, c] t (0, 0))) : w.cell? ⟨g, 0, none⟩ = some a ∧ w.cell? ⟨g, 1, none⟩ = some b ∧ w.cell? ⟨g, 2, none⟩ = some c := ⟨cell_of_row _ _ 0 _ _ _ h, cell_of_row _ _ 1 _ _ _ h, cell_of_row _ _ 2 _ _ _ h⟩
/-- what a call on pins changes: their block, their map's or row's block -/
structure Ch (c : Nat) (gb : Option Nat) (w w' : World) : Prop where
  os : w'.os = w.os
  tape : w'.tape = w.tape
  output : w'.output = w.output
  size : w.heap.size ≤ w'.heap.size
  block : ∀ k, k < w.heap.size → k ≠ c → some k ≠ gb → w'.heap[k]? = w.heap[k]?
theorem Ch.of {c : Nat} {gb : Option Nat} {w w' : World} (h : Below w.heap.size w w') : Ch c gb w w' := ⟨h.os, h.tape, h.output, h.size, fun k hk _ _ => h.block k hk⟩
/-- the row's block behind a call: as it was, none, or new -/
def NewB (gb gb' : Option Nat) (w : World) : Prop := gb' = gb ∨ gb' = none ∨ ∃ g, gb' = some g ∧ w.heap.size ≤ g
theorem Ch.trans {c : Nat} {gb gb' : Option Nat} {a b d : World} (h : Ch c gb a b) (hn : NewB gb gb' a) (k : Ch c gb' b d) : Ch c gb a d := by
  refine ⟨k.os.trans h.os, k.tape.trans h.tape, k.output.trans h.output, Nat.le_trans h.size k.size, fun i hi hc hg => ?_⟩
  rw [k.block i (Nat.lt_of_lt_of_le hi h.size) hc ?_, h.block i hi hc hg]
  rcases hn with rfl | rfl | ⟨g, rfl, hge⟩
  · exact hg
  · intro e; cases e
  · intro e; injection e with e; omega
theorem NewB.trans {g1 g2 g3 : Option Nat} {a b : World} (h : NewB g1 g2 a) (k : NewB g2 g3 b) (hs : a.heap.size ≤ b.heap.size) : NewB g1 g3 a := by
  rcases k with rfl | rfl | ⟨g, rfl, hge⟩
  · exact h
  · exact .inr (.inl rfl)
  · exact .inr (.inr ⟨g, rfl, Nat.le_trans hs hge⟩)
theorem Ch.below {c : Nat} {gb : Option Nat} {B : Nat} {w w' : World} (h : Ch c gb w w') (hB : B ≤ w.heap.size) (hc : B ≤ c) (hg : ∀ g, gb = some g → B ≤ g) : Below B w w' :=
  ⟨h.os, h.tape, h.output, h.size, fun k hk => h.block k (by omega) (by omega) (fun e => by have := hg k e.symm; omega)⟩
theorem Ch.set {c : Nat} {gb : Option Nat} (W : World) (i : Nat) (u : Value) : Ch c gb W (W.setCell ⟨c, i, none⟩ u) :=
  ⟨rfl, rfl, rfl, by simp [World.setCell], fun k _ hk _ => set_oth _ _ _ _ hk⟩
theorem Ch.set2 {c g : Nat} (W : World) (i : Nat) (u : Value) : Ch c (some g) W (W.setCell ⟨g, i, none⟩ u) :=
  ⟨rfl, rfl, rfl, by simp [World.setCell], fun k _ _ hk => set_oth _ _ _ _ (fun e => hk (by rw [e]))⟩
theorem Ch.tr {c : Nat} {gb : Option Nat} {a b d : World} (h : Ch c gb a b) (k : Ch c gb b d) : Ch c gb a d := h.trans (.inl rfl) k
theorem Ch.grown {c : Nat} {gb : Option Nat} {w w' : World} (h : w.grownBy w' gb) : Ch c gb w w' := ⟨h.os, h.tape, h.output, h.size, fun k hk _ hg => h.block k hk hg⟩
theorem Ch.chain {c : Nat} {gb : Option Nat} {w W1 W2 : World} (h : Ch c gb w W1) (k : Below W1.heap.size W1 W2) : Ch c gb w W2 := h.tr (Ch.of k)
/-- how a pin that is held reads in the map -/
def hd (a b : Int) : DataW Unit := .agg [.lit (.int .i64 a), .lit (.int .i64 b)]
def holdE : Value → Option (DataW Unit × List MemPlace)
  | .agg cs => match cs.toList with
    | [.int .i64 a, .int .i64 b] => some (hd a b, [])
    | _ => none
  | _ => none
theorem holdE_mk (a b : Int) : holdE (.agg #[.int .i64 a, .int .i64 b]) = some (hd a b, []) := rfl
theorem holdE_inv {v : Value} {z : DataW Unit × List MemPlace} (h : holdE v = some z) : ∃ a b, v = .agg #[.int .i64 a, .int .i64 b] ∧ z = (hd a b, []) := by
  unfold holdE at h
  split at h
  · rename_i cs
    split at h
    · rename_i a b e
      injection h with h
      refine ⟨a, b, ?_, h.symm⟩
      congr 1
      apply Array.ext'
      rw [e]
    · cases h
  · cases h
theorem hd_inj {a b c d : Int} (h : hd a b = hd c d) : a = c ∧ b = d := by
  unfold hd at h
  injection h with h
  injection h with h1 h2
  injection h2 with h2 _
  injection h1 with h1
  injection h2 with h2
  injection h1 with _ h1
  injection h2 with _ h2
  exact ⟨h1, h2⟩
/-- the keys that f knows -/
def hasF (f : Int → Option (Int × Int)) : Lit → Bool
  | .int .i64 i => (f i).isSome
  | _ => false
/-- the map holds what f tells -/
structure MapOf (D : DataW Unit) (f : Int → Option (Int × Int)) : Prop where
  has : ∀ kl, Maps.has D kl = hasF f kl
  at' : ∀ i x, f i = some x → ∀ z, D.atKey (.int .i64 i) z = hd x.1 x.2
theorem MapOf.nil : MapOf (.map []) (att []) := ⟨fun kl => by
  show false = _
  unfold hasF
  split
  · rw [att_nil]; rfl
  · rfl, fun i x h => by rw [att_nil] at h; cases h⟩
theorem MapOf.congr {D : DataW Unit} {f g : Int → Option (Int × Int)} (h : MapOf D f) (e : ∀ i, f i = g i) : MapOf D g := by
  rw [show g = f from funext fun i => (e i).symm]; exact h
theorem hasF_ne {f : Int → Option (Int × Int)} {kl : Lit} {i : Int} {y : Option (Int × Int)} (h : kl ≠ .int .i64 i) : hasF (fun j => if j = i then y else f j) kl = hasF f kl := by
  unfold hasF
  split
  · rename_i j
    have : j ≠ i := fun e => h (by rw [e])
    show (if j = i then y else f j).isSome = _
    rw [if_neg this]
  · rfl
theorem MapOf.put {D : DataW Unit} {f : Int → Option (Int × Int)} (h : MapOf D f) (hm : IsMap D) (i r u : Int) : MapOf (D.put (.int .i64 i) (hd r u)) (fun j => if j = i then some (r, u) else f j) := by
  refine ⟨fun kl => ?_, fun j x hx z => ?_⟩
  · by_cases e : kl = .int .i64 i
    · subst e
      rw [has_put_same (k := .int .i64 i) hm trivial]
      simp [hasF]
    · rw [has_put_other e, h.has, hasF_ne e]
  · by_cases e : j = i
    · subst e
      rw [if_pos rfl] at hx
      injection hx with hx
      subst hx
      exact atKey_put_same (k := .int .i64 j) hm trivial _ _
    · rw [if_neg e] at hx
      rw [atKey_put_other (fun q => e (by injection q))]
      exact h.at' j x hx z
theorem MapOf.del {D : DataW Unit} {f : Int → Option (Int × Int)} (h : MapOf D f) (i : Int) : MapOf (D.del (.int .i64 i)) (fun j => if j = i then none else f j) := by
  refine ⟨fun kl => ?_, fun j x hx z => ?_⟩
  · by_cases e : kl = .int .i64 i
    · subst e
      rw [has_del_same]
      simp [hasF]
    · rw [has_del_other e, h.has, hasF_ne e]
  · by_cases e : j = i
    · subst e
      rw [if_pos rfl] at hx
      cases hx
    · rw [if_neg e] at hx
      rw [atKey_del_other (fun q => e (by injection q))]
      exact h.at' j x hx z
/-- as many entries as are held -/
theorem MapOf.size {es : List (Lit × DataW Unit)} {l : List Pin} (h : MapOf (.map es) (att l)) (hp : es.Pairwise (fun p q => p.1 ≠ q.1)) (hk : ∀ p ∈ es, WideAt.IsKeyLit p.1) : es.length = cnt l := by
  have hnd : (es.map (·.1)).Nodup := by
    rw [List.nodup_iff_pairwise_ne, List.pairwise_map]; exact hp
  have hnd2 : (((List.range l.length).filter fun k => (l[k]?.map fun x => x.2.2) == some true).map fun k : Nat => Lit.int .i64 ((k : Int) + 1)).Nodup := by
    rw [List.nodup_iff_pairwise_ne, List.pairwise_map]
    have := (List.nodup_range (n := l.length)).filter (fun k => (l[k]?.map fun x => x.2.2) == some true)
    exact this.imp fun {a b} hab e => hab (by injection e; omega)
  have hmem : ∀ kl, kl ∈ es.map (·.1) ↔ kl ∈ ((List.range l.length).filter fun k => (l[k]?.map fun x => x.2.2) == some true).map fun k : Nat => Lit.int .i64 ((k : Int) + 1) := by
    intro kl
    have h1 : kl ∈ es.map (·.1) ↔ Maps.has (.map es) kl = true := by
      rw [has_eq, List.any_eq_true]
      constructor
      · intro hm
        obtain ⟨p, hp1, rfl⟩ := List.mem_map.1 hm
        exact ⟨p, hp1, WideAt.sameKey_self (hk p hp1)⟩
      · rintro ⟨p, hp1, hp2⟩
        exact List.mem_map.2 ⟨p, hp1, WideAt.sameKey_eq hp2⟩
    rw [h1, h.has]
    constructor
    · intro hh
      unfold hasF at hh
      split at hh
      · rename_i i
        obtain ⟨x, hx⟩ := Option.isSome_iff_exists.1 hh
        obtain ⟨g1, g2⟩ := att_one.1 hx
        have g3 := (List.getElem?_eq_some_iff.1 g2).1
        refine List.mem_map.2 ⟨(i - 1).toNat, List.mem_filter.2 ⟨List.mem_range.2 g3, by rw [g2]; rfl⟩, ?_⟩
        congr 1; omega
      · cases hh
    · intro hh
      obtain ⟨k, hk1, rfl⟩ := List.mem_map.1 hh
      obtain ⟨hk2, hk3⟩ := List.mem_filter.1 hk1
      have hk4 := List.mem_range.1 hk2
      rw [List.getElem?_eq_getElem hk4] at hk3
      show (att l ((k : Int) + 1)).isSome = true
      obtain ⟨⟨a, b, c⟩, hx⟩ : ∃ x, l[k] = x := ⟨_, rfl⟩
      rw [hx] at hk3
      simp at hk3
      subst hk3
      rw [show att l ((k : Int) + 1) = some (a, b) from att_one.2 ⟨by omega, by rw [show ((k : Int) + 1 - 1).toNat = k by omega, List.getElem?_eq_getElem hk4, hx]⟩]
      rfl
  have hperm := (List.perm_ext_iff_of_nodup hnd hnd2).2 hmem
  have hlen := hperm.length_eq
  rw [List.length_map, List.length_map] at hlen
  rw [hlen]
  unfold cnt
  have e : l = (List.range l.length).map (fun k => l.getD k (0, 0, false)) := by
    apply List.ext_getElem
    · simp
    · intro i h1 h2
      simp only [List.getElem_map, List.getElem_range]
      rw [List.getD_eq_getElem?_getD, List.getElem?_eq_getElem h1]; rfl
  conv => rhs; rw [e]
  rw [List.countP_map, ← List.countP_eq_length_filter]
  apply List.countP_congr
  intro k hk
  have hk := List.mem_range.1 hk
  simp [List.getD_eq_getElem?_getD, List.getElem?_eq_getElem hk]
theorem law : Keyed Try.prog 2 := int_keyed Try.underlying2
/-- the map in block b holds just the pins that are held -/
def SetP (b : Nat) (l : List Pin) (w : World) : Prop := ∃ D, w.ownsMap Try.prog 2 holdE b (Maps.size D) D ∧ MapOf D (att l)
theorem owns_tight {w : World} {b n : Nat} {D : DataW Unit} (h : w.ownsMap Try.prog 2 holdE b n D) : w.ownsMap Try.prog 2 holdE b (Maps.size D) D := by
  obtain ⟨es, clock, hb, F, hs, rfl⟩ := h
  refine ⟨es, clock, hb, F, ?_, rfl⟩
  rw [Maps.size_eq, length_sorted]; simp
theorem owns_size {w : World} {b n : Nat} {D : DataW Unit} {l : List Pin} (h : w.ownsMap Try.prog 2 holdE b n D) (hm : MapOf D (att l)) : Maps.size D = cnt l := by
  obtain ⟨es, rfl, hp, hk⟩ := h.entries law
  exact hm.size hp hk
theorem SetP.lt {b : Nat} {l : List Pin} {w : World} (h : SetP b l w) : b < w.heap.size := by
  obtain ⟨D, h, _⟩ := h; exact h.lt
theorem SetP.keep {b : Nat} {l : List Pin} {w w' : World} (h : SetP b l w) (hb : w'.heap[b]? = w.heap[b]?) : SetP b l w' := by
  obtain ⟨D, ⟨es, clock, h1, h2⟩, h3⟩ := h
  exact ⟨D, ⟨es, clock, hb.trans h1, h2⟩, h3⟩
theorem SetP.made (w : World) : SetP w.heap.size [] (w.alloc (.map #[] 0)) := ⟨.map [], World.ownsMap_made w _ _ _, MapOf.nil⟩
theorem SetP.len {b : Nat} {l : List Pin} {w : World} (h : SetP b l w) (ty : TypeId) : (Builtin.len_ #[46] ty #[.map (some b)]).run Try.prog w = .ok (.int .i64 (cnt l)) w := by
  obtain ⟨D, h1, h2⟩ := h
  rw [h1.len Try.underlying46 ty, owns_size h1 h2]
theorem zeroH (w : World) : (zeroValue 52).run Try.prog w = .ok (.agg #[.int .i64 0, .int .i64 0]) w := Try.zeroValue52 w
/-- what a look-up tells -/
def rv (l : List Pin) (i : Int) : Int := ((att l i).getD (0, 0)).1
def ut (l : List Pin) (i : Int) : Int := ((att l i).getD (0, 0)).2
def hb (l : List Pin) (i : Int) : Bool := (att l i).isSome
theorem SetP.look {b : Nat} {l : List Pin} {w : World} (h : SetP b l w) {i : Int} (hi : (Lit.int .i64 i).wf = true) : (Instr.lookup 46 (.map (some b)) (.int .i64 i) true).run Try.prog w = .ok (.tuple #[.agg #[.int .i64 (rv l i), .int .i64 (ut l i)], .bool (hb l i)]) w := by
  obtain ⟨D, h1, h2⟩ := h
  obtain ⟨v, ps, hr, hv⟩ := h1.look_ok law Try.underlying46 (zeroH w) (holdE_mk 0 0) (keyOf_int_mk Try.underlying2 hi)
  obtain ⟨a, c, rfl, e⟩ := holdE_inv hv
  injection e with e _
  have hh : Maps.has D (.int .i64 i) = hb l i := h2.has _
  rw [hh] at hr
  rw [hr]
  unfold rv ut
  cases hx : att l i with
  | none =>
    have hn : Maps.has D (.int .i64 i) = false := by rw [hh]; unfold hb; rw [hx]; rfl
    rw [atKey_of_not_has hn] at e
    obtain ⟨rfl, rfl⟩ := hd_inj e
    rfl
  | some x =>
    rw [h2.at' i x hx] at e
    obtain ⟨rfl, rfl⟩ := hd_inj e
    rfl
theorem look_none (w : World) {i : Int} (hi : (Lit.int .i64 i).wf = true) : (Instr.lookup 46 (.map none) (.int .i64 i) true).run Try.prog w = .ok (.tuple #[.agg #[.int .i64 0, .int .i64 0], .bool false]) w :=
  Maps.look_nil true law Try.underlying46 (zeroH w) (keyOf_int_mk Try.underlying2 hi)
/-- a store -/
theorem SetP.store {b : Nat} {l l' : List Pin} {w : World} (h : SetP b l w) {i r u : Int} (hi : (Lit.int .i64 i).wf = true) (hn : cnt l < maxLen) (hl : ∀ j, att l' j = if j = i then some (r, u) else att l j) :
    ∃ w', (Instr.mapUpdate 46 (.map (some b)) (.int .i64 i) (.agg #[.int .i64 r, .int .i64 u])).run Try.prog w = .ok () w' ∧ SetP b l' w' ∧ w.grownBy w' (some b) := by
  obtain ⟨D, h1, h2⟩ := h
  obtain ⟨w', hr, h3, h4⟩ := h1.update law Try.underlying46 (by rw [owns_size h1 h2]; exact hn) (keyOf_int_mk Try.underlying2 hi) (holdE_mk r u)
  exact ⟨w', hr, ⟨_, owns_tight h3, (h2.put h1.isMap i r u).congr fun j => (hl j).symm⟩, h4⟩
/-- an entry struck -/
theorem SetP.drop {b : Nat} {l l' : List Pin} {w : World} (h : SetP b l w) {i : Int} (hi : (Lit.int .i64 i).wf = true) (hl : ∀ j, att l' j = if j = i then none else att l j) (ty : TypeId) :
    ∃ w', (Builtin.delete_ #[46, 2] ty #[.map (some b), .int .i64 i]).run Try.prog w = .ok (.tuple #[]) w' ∧ SetP b l' w' ∧ w.grownBy w' (some b) := by
  obtain ⟨D, h1, h2⟩ := h
  obtain ⟨w', hr, h3, h4⟩ := h1.drop law Try.underlying46 (keyOf_int_mk Try.underlying2 hi) ty
  exact ⟨w', hr, ⟨_, owns_tight h3, (h2.del i).congr fun j => (hl j).symm⟩, h4.grown⟩
end Go.Proofs.Ytjjnjankjbiigaa.Pn
