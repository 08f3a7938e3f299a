/- The contract of package chain's Put: at every chain of the call's own; no other condition. -/
import Derived.Test.YthioghbifpphiaaCnE
import Derived.Deep.AppendLies
import Derived.Deep.RegionLaw
namespace Go.Proofs.Ythioghbifpphiaa.Cn
open Go.RowKit Go.Lib Go.Shelf Go.Sort
set_option linter.unusedSimpArgs false
set_option linter.unusedVariables false

/-- what a call on a chain changes: the chain's block, the row's block -/
structure Chg (c : Nat) (gb : Option Nat) (w w' : World) : Prop where
  os : w'.os = w.os
  tape : w'.tape = w.tape
  output : w'.output = w.output
  size : w.heap.size ≤ w'.heap.size
  block : ∀ k, k < w.heap.size → k ≠ c → some k ≠ gb → w'.heap[k]? = w.heap[k]?
theorem Chg.of {c : Nat} {gb : Option Nat} {w w' : World} (h : Below w.heap.size w w') : Chg c gb w w' := ⟨h.os, h.tape, h.output, h.size, fun k hk _ _ => h.block k hk⟩
/-- the row's block behind a call: as it was, or new -/
def NewB (gb gb' : Option Nat) (w : World) : Prop := gb' = gb ∨ gb' = none ∨ ∃ g, gb' = some g ∧ w.heap.size ≤ g
theorem Chg.trans {c : Nat} {gb gb' : Option Nat} {a b d : World} (h : Chg c gb a b) (hn : NewB gb gb' a) (k : Chg c gb' b d) : Chg c gb a d := by
  refine ⟨k.os.trans h.os, k.tape.trans h.tape, k.output.trans h.output, Nat.le_trans h.size k.size, fun i hi hc hg => ?_⟩
  rw [k.block i (Nat.lt_of_lt_of_le hi h.size) hc ?_, h.block i hi hc hg]
  rcases hn with rfl | rfl | ⟨g, rfl, hge⟩
  · exact hg
  · intro e; cases e
  · intro e; injection e with e; omega
theorem NewB.trans {g1 g2 g3 : Option Nat} {a b : World} (h : NewB g1 g2 a) (k : NewB g2 g3 b) (hs : a.heap.size ≤ b.heap.size) : NewB g1 g3 a := by
  rcases k with rfl | rfl | ⟨g, rfl, hge⟩
  · exact h
  · exact .inr (.inl rfl)
  · exact .inr (.inr ⟨g, rfl, Nat.le_trans hs hge⟩)
theorem Chg.below {c : Nat} {gb : Option Nat} {B : Nat} {w w' : World} (h : Chg c gb w w') (hB : B ≤ w.heap.size) (hc : B ≤ c) (hg : ∀ g, gb = some g → B ≤ g) : Below B w w' :=
  ⟨h.os, h.tape, h.output, h.size, fun k hk => h.block k (by omega) (by omega) (fun e => by have := hg k e.symm; omega)⟩
theorem IsCh.base {B c N : Nat} {gb : Option Nat} {l : List Ver} {w : World} (h : IsCh B c N gb l w) : ∀ g, gb = some g → B ≤ g ∧ g < w.heap.size := by
  obtain ⟨v, all, k, h1, h2, h3, h4, h5, h6⟩ := h
  intro g hg
  exact World.ownsRow.lt h6 g (h1.trans hg)
theorem IsCh.lt {B c N : Nat} {gb : Option Nat} {l : List Ver} {w : World} (h : IsCh B c N gb l w) : c < w.heap.size := by
  obtain ⟨v, all, k, h1, h2, h3, h4, h5, h6⟩ := h
  exact (Array.getElem?_eq_some_iff.1 h5).1
theorem IsCh.up {B c N N' : Nat} {gb : Option Nat} {l : List Ver} {w : World} (h : IsCh B c N gb l w) (hN : N ≤ N') : IsCh B c N' gb l w := by
  obtain ⟨v, all, k, h1, h2, h3, h4, h5, h6⟩ := h
  exact ⟨v, all, k, h1, h2, by omega, h4, h5, h6⟩
def PtQ (B c N : Nat) (gb : Option Nat) (l : List Ver) (r : Int) (w : World) (e : Ending) (w' : World) : Prop := e = .returned (.int .i64 r) ∧ ∃ gb', IsCh B c N gb' l w' ∧ Chg c gb w w' ∧ NewB gb gb' w
theorem ptq_same {B c N : Nat} {gb : Option Nat} {l : List Ver} {r : Int} {w w' : World} {e : Ending} (h : IsCh B c N gb l w) (hb : Below w.heap.size w w') (he : e = .returned (.int .i64 r)) : PtQ B c N gb l r w e w' :=
  ⟨he, gb, h.go hb, Chg.of hb, .inl rfl⟩
theorem new3 (w : World) (x y z : Value) (T : TypeId) : ∃ W, W = w.alloc (.cells #[x, y, z] T) ∧ W.heap[w.heap.size]? = some (.cells #[x, y, z] T (0, 0)) ∧ Below w.heap.size w W := ⟨_, rfl, heap_alloc_new w _, (Below.refl _ _).alloc (Nat.le_refl _) _⟩
set_option maxRecDepth 100000 in
set_option maxHeartbeats 2000000 in
theorem put_arg (B c N : Nat) (gb : Option Nat) (l : List Ver) (v : Ver) (w : World) (h : IsCh B c N gb l w) (hN : N ≤ 1000000) (hr : v.1 < 1 ∨ 9007199254740991 < v.1) :
    Calls Try.prog 52 #[.pointer (some ⟨c, 0, none⟩), aggV v] w (PtQ B c N gb l 1 w) := by
  obtain ⟨v1, v2, v3⟩ := v
  simp only at hr
  obtain ⟨W0, hW0, hk0, hb0⟩ := new3 w (.int .i64 v1) (.string v2) (.bool v3) 78
  obtain ⟨c0, c1, c2⟩ := cells3 hk0
  have HW0 := Lib.hid hW0
  have HB0 := Lib.hid hb0
  have H := Lib.hid h
  clear hW0 hb0 hk0 h
  have hlt : w.heap.size < w.heap.size + 1 := by omega
  unfold aggV
  rcases hr with hr | hr
  · go_enter Try.func52, Try.ntmps52
    go_wp2
    go_ret
    exact ptq_same H.out ((Below.refl _ _).alloc (Nat.le_refl _) _) rfl
  · have hr2 : ¬ v1 < 1 := by omega
    go_enter Try.func52, Try.ntmps52
    go_wp2
    go_ret
    exact ptq_same H.out ((Below.refl _ _).alloc (Nat.le_refl _) _) rfl
end Go.Proofs.Ythioghbifpphiaa.Cn
