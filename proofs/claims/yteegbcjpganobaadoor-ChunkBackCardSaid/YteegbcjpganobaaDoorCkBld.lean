/- Contracts of the library's strings.Builder at the builder that lies in package chunk's reader; no condition but the length. -/
import Derived.Test.YteegbcjpganobaaDoorCkBase
import Derived.Lib.FrozenHead2
import Derived.Shelf.Strings.BuilderK
namespace Go.Proofs.YteegbcjpganobaaDoor.Hd
open Go.RowKit Ch
set_option linter.unusedSimpArgs false
set_option linter.unusedVariables false

theorem heap_cell {w : World} {g : Nat} {cs : Array Value} {t : TypeId} {f : Nat × Nat} (h : w.heap[g]? = some (.cells cs t f)) (j : Nat) : w.cell? ⟨g, j, none⟩ = cs[j]? := Lib.cell_of_heap h j
def OwB (B : Nat) (v : Value) (l : List UInt8) (w : World) : Prop := w.ownsRowF B 5 1 v l.length (Lib.byteCells l)
theorem OwB.go {B : Nat} {v : Value} {l : List UInt8} {w w' : World} (h : OwB B v l w) (hb : Below w.heap.size w w') : OwB B v l w' :=
  h.kept (row := none) ⟨hb.os, hb.tape, hb.output, hb.size, fun k hk _ => hb.block k hk⟩ (by cases hv : v.ownBlock <;> simp)
theorem OwB.gb {B : Nat} {v : Value} {l : List UInt8} {g : Nat} {w w' : World} (h : OwB B v l w) (hb : w.grownBy w' (some g)) (hg : g < B) : OwB B v l w' := by
  refine h.kept (row := some g) hb (Or.inr (fun e => ?_))
  have := (h.lt g e).1
  omega
/-- the reader's block -/
def CkB (g : Nat) (s : ByteArray) (k : Nat) (a b c sz n : Int) (p v : Value) (st : Int) (w : World) : Prop := w.heap[g]? = some (.cells #[.string s, .int .i64 (k : Int), .int .i64 a, .int .i64 b, .int .i64 c, .int .i64 sz, .int .i64 n, p, v, .int .i64 st] 45 (0, 0))
/-- the reader, with the body's bytes -/
def St (g : Nat) (s : ByteArray) (k : Nat) (a b c sz n : Int) (l : List UInt8) (st : Int) (w : World) : Prop := ∃ p v, CkB g s k a b c sz n p v st w ∧ (p = .pointer none ∨ p = .pointer (some ⟨g, 7, none⟩)) ∧ OwB (g + 1) v l w ∧ (l = [] → v = .slice none 0 0)
theorem CkB.lt {g : Nat} {s : ByteArray} {k : Nat} {a b c sz n st : Int} {p v : Value} {w : World} (h : CkB g s k a b c sz n p v st w) : g < w.heap.size := (Array.getElem?_eq_some_iff.1 h).1
theorem St.lt {g : Nat} {s : ByteArray} {k : Nat} {a b c sz n st : Int} {l : List UInt8} {w : World} (h : St g s k a b c sz n l st w) : g < w.heap.size := by obtain ⟨p, v, h, _⟩ := h; exact h.lt
theorem St.go {g : Nat} {s : ByteArray} {k : Nat} {a b c sz n st : Int} {l : List UInt8} {w w' : World} (h : St g s k a b c sz n l st w) (hb : Below w.heap.size w w') : St g s k a b c sz n l st w' := by
  obtain ⟨p, v, h1, h2, h3, h4⟩ := h
  exact ⟨p, v, (hb.block _ h1.lt).trans h1, h2, h3.go hb, h4⟩
theorem shape_of {w : World} {g : Nat} {cs : Array Value} {t : TypeId} (h : w.heap[g]? = some (.cells cs t (0, 0))) : w.shape? g = some (t, cs.size) := by simp [World.shape?, h]
set_option maxRecDepth 100000 in
set_option maxHeartbeats 2000000 in
theorem ck_used (g : Nat) (w : World) (h0 : w.cell? ⟨g, 7, none⟩ = some (.pointer (some ⟨g, 7, none⟩))) :
    Calls Tryd.prog 18 #[.pointer (some ⟨g, 7, none⟩)] w fun e w' => e = .returned (.tuple #[]) ∧ w' = w := by
  obtain ⟨j, hj, _⟩ := Option.map_eq_some_iff.1 Tryd.Builder_Extra_169.sizeBuilder
  go_enter Tryd.func18, Tryd.ntmps18
  go_wp2
  rw [Lib.run_neq_ptr_same w _ Tryd.underlying33 hj]
  go_wp2
  go_end0
  exact ⟨rfl, rfl⟩
theorem lies_ck : liesAt Tryd.prog Tryd.prog.depth 45 (10 / Tryd.prog.cellsOf 45) 7 36 1 = true := by kernel_rfl
set_option maxRecDepth 100000 in
set_option maxHeartbeats 2000000 in
theorem ck_fresh (g : Nat) (w : World) (h0 : w.cell? ⟨g, 7, none⟩ = some (.pointer none)) (hsh : w.shape? g = some (45, 10)) (hfz : w.frozen? ⟨g, 7, none⟩ = false) :
    Calls Tryd.prog 18 #[.pointer (some ⟨g, 7, none⟩)] w fun e w' => e = .returned (.tuple #[]) ∧ w' = w.setCell ⟨g, 7, none⟩ (.pointer (some ⟨g, 7, none⟩)) := by
  obtain ⟨j, hj, hjs⟩ := Option.map_eq_some_iff.1 Tryd.Builder_Extra_169.sizeBuilder
  go_enter Tryd.func18, Tryd.ntmps18
  go_wp2
  rw [Lib.run_to_unsafe w ⟨g, 7, none⟩ Tryd.underlying33 Tryd.underlying52 hj (by rw [hjs]; decide) hsh (show 7 < 10 by decide)]
  simp only [Result.andThen]
  rw [Oper.upon_value]
  go_wp2
  rw [run_callFunc_extern Tryd.func22 (by kernel_rfl) (by kernel_rfl) (by kernel_rfl) (e := Extern.AbiNoEscape.same) (by kernel_rfl)]
  rw [Lib.run_noEscape]
  simp only [Result.andThen]
  rw [Oper.upon_value]
  go_wp2
  rw [Lib.run_from_unsafe w ⟨g, 7, none⟩ Tryd.underlying52 Tryd.underlying33 hj hsh lies_ck]
  simp only [Result.andThen]
  rw [Oper.upon_value]
  go_wp2
  go_end0
  exact ⟨rfl, rfl⟩
theorem set10 {w : World} {g : Nat} {x0 x1 x2 x3 x4 x5 x6 x7 x8 x9 : Value} {t : TypeId} (h : w.heap[g]? = some (.cells #[x0, x1, x2, x3, x4, x5, x6, x7, x8, x9] t (0, 0))) (y : Value) :
    (w.setCell ⟨g, 1, none⟩ y).heap[g]? = some (.cells #[x0, y, x2, x3, x4, x5, x6, x7, x8, x9] t (0, 0)) ∧ (w.setCell ⟨g, 5, none⟩ y).heap[g]? = some (.cells #[x0, x1, x2, x3, x4, y, x6, x7, x8, x9] t (0, 0)) ∧ (w.setCell ⟨g, 6, none⟩ y).heap[g]? = some (.cells #[x0, x1, x2, x3, x4, x5, y, x7, x8, x9] t (0, 0)) ∧ (w.setCell ⟨g, 7, none⟩ y).heap[g]? = some (.cells #[x0, x1, x2, x3, x4, x5, x6, y, x8, x9] t (0, 0)) ∧ (w.setCell ⟨g, 8, none⟩ y).heap[g]? = some (.cells #[x0, x1, x2, x3, x4, x5, x6, x7, y, x9] t (0, 0)) ∧ (w.setCell ⟨g, 9, none⟩ y).heap[g]? = some (.cells #[x0, x1, x2, x3, x4, x5, x6, x7, x8, y] t (0, 0)) := by
  refine ⟨?_, ?_, ?_, ?_, ?_, ?_⟩
  · simpa using blk_set h 1 y
  · simpa using blk_set h 5 y
  · simpa using blk_set h 6 y
  · simpa using blk_set h 7 y
  · simpa using blk_set h 8 y
  · simpa using blk_set h 9 y
theorem bel_set {g j : Nat} {w : World} (v : Value) : Below g w (w.setCell ⟨g, j, none⟩ v) := (Below.refl g w).setCell (p := ⟨g, j, none⟩) (Nat.le_refl _) v
theorem ck_chk (g : Nat) (s : ByteArray) (k : Nat) (a b c sz n : Int) (p v : Value) (l : List UInt8) (st : Int) (w : World) (h : CkB g s k a b c sz n p v st w) (hp : p = .pointer none ∨ p = .pointer (some ⟨g, 7, none⟩)) (ho : OwB (g + 1) v l w) :
    Calls Tryd.prog 18 #[.pointer (some ⟨g, 7, none⟩)] w fun e w' => e = .returned (.tuple #[]) ∧ CkB g s k a b c sz n (.pointer (some ⟨g, 7, none⟩)) v st w' ∧ OwB (g + 1) v l w' ∧ Below g w w' ∧ w'.heap.size = w.heap.size := by
  rcases hp with rfl | rfl
  · refine (ck_fresh g w (heap_cell h 7) (shape_of h) (frz2 h 7)).mono ?_
    rintro e w' ⟨rfl, rfl⟩
    exact ⟨rfl, (set10 h _).2.2.2.1, ho.gb (gb_set w g 7 _) (Nat.lt_succ_self _), bel_set _, by simp [World.setCell]⟩
  · refine (ck_used g w (heap_cell h 7)).mono ?_
    rintro e w' ⟨rfl, rfl⟩
    exact ⟨rfl, h, ho, Below.refl _ _, rfl⟩
theorem strCells_eq (s : ByteArray) : Lib.strCells s = Lib.byteCells s.data.toList := by
  unfold Lib.strCells Lib.byteCells; simp
theorem byteCells_app (a b : List UInt8) : Lib.byteCells a ++ Lib.byteCells b = Lib.byteCells (a ++ b) := by unfold Lib.byteCells; simp
theorem byteCells_len (a : List UInt8) : (Lib.byteCells a).length = a.length := by unfold Lib.byteCells; simp
set_option maxRecDepth 100000 in
set_option maxHeartbeats 4000000 in
theorem wst_c (g : Nat) (s : ByteArray) (k : Nat) (a b c sz n : Int) (l : List UInt8) (st : Int) (x : ByteArray) (w : World) (h : St g s k a b c sz n l st w) (hlen : l.length + x.size ≤ 1000000) (hx : 0 < x.size) :
    Calls Tryd.prog 11 #[.pointer (some ⟨g, 7, none⟩), .string x] w fun e w' => e = .returned (.tuple #[.int .i64 x.size, .nilIface]) ∧ St g s k a b c sz n (l ++ x.data.toList) st w' ∧ Below g w w' := by
  have hlt := h.lt
  obtain ⟨p, v, h1, h2, h3, h4⟩ := h
  have HC := Lib.hid (ck_chk g s k a b c sz n p v l st w h1 h2 h3)
  obtain ⟨i0, hi, hz0, hz1, hz2⟩ := info_parts Tryd.Builder_Extra_169.infoByte
  have HBL := Lib.hid (byteCells_len l)
  clear h1 h2 h3 h4
  go_enter Tryd.func11, Tryd.ntmps11
  go_wp2_with fail
  refine HC.out.mono ?_
  rintro e w1 ⟨rfl, h1, hown, hb1, hs1⟩
  have c1 := heap_cell h1 8
  have H1 := Lib.hid h1
  have HB1 := Lib.hid hb1
  have HO1 := Lib.hid hown
  have hlt1 : g < w1.heap.size := by omega
  clear h1 hb1
  unfold OwB at hown
  go_wp2_with (at_builtin; refine Lib.wpList_append_own_stringF _ rfl _ _ 34 9 rfl (g + 1) 5 i0 Tryd.underlying34 Tryd.underlying9 hi hz0 hz1 hz2 _ _ _ rfl hown x rfl ?c3 ?c4 ?c5 ?_)
  case c3 => unfold maxLen; omega
  case c4 => omega
  case c5 => omega
  intro v' w2 hown' hgrow _
  have H2 : Hid (CkB g s k a b c sz n (.pointer (some ⟨g, 7, none⟩)) v st w2) := (hgrow.block g hlt1 (fun e => by have := (hown.lt g e.symm).1; omega)).trans H1.out
  have HB2 : Hid (Below g w w2) := HB1.out.grown hgrow (by have := HB1.out.size; omega) (fun q hq => by have := (hown.lt q hq).1; omega)
  have d1 := heap_cell H2.out 8
  have f1 := frz2 H2.out 8
  obtain ⟨ao, n', cap, rfl⟩ : ∃ ao n' cap, v' = .slice ao n' cap := by
    rcases hown'.2 with ⟨hv, _⟩ | ⟨gg, cap, cur, fz, hv, _⟩
    · exact ⟨_, _, _, hv⟩
    · exact ⟨_, _, _, hv⟩
  have HOWN2 := Lib.hid hown'
  clear hown hown' hgrow
  go_wp2
  go_ret2
  refine ⟨rfl, ⟨_, _, (set10 H2.out _).2.2.2.2.1, .inr rfl, ?_, fun e => ?_⟩, HB2.out.setCell (p := ⟨g, 8, none⟩) (Nat.le_refl _) _⟩
  · refine OwB.gb ?_ (gb_set w2 g 8 _) (Nat.lt_succ_self _)
    have h2 := HOWN2.out
    rw [strCells_eq, byteCells_app] at h2
    unfold OwB
    rw [List.length_append, ← Lib.size_eq]
    exact h2
  · exfalso
    have : l.length + x.data.toList.length = 0 := by rw [← List.length_append, e]; rfl
    rw [← Lib.size_eq] at this
    omega
set_option maxRecDepth 100000 in
set_option maxHeartbeats 1000000 in
theorem len_c (g : Nat) (s : ByteArray) (k : Nat) (a b c sz n : Int) (l : List UInt8) (st : Int) (w : World) (h : St g s k a b c sz n l st w) :
    Calls Tryd.prog 26 #[.pointer (some ⟨g, 7, none⟩)] w fun e w' => e = .returned (.int .i64 (l.length : Int)) ∧ w = w' := by
  obtain ⟨p, v, h1, h2, h3, h4⟩ := h
  obtain ⟨ao, cap, hv⟩ : ∃ ao cap, v = .slice ao l.length cap := by
    rcases h3.2 with ⟨hv, h0⟩ | ⟨gg, cap, cur, fz, hv, _⟩
    · exact ⟨_, 0, by rw [h0]; exact hv⟩
    · exact ⟨_, _, hv⟩
  subst hv
  have c8 := heap_cell h1 8
  clear h1 h2 h3 h4
  go_enter Tryd.func26, Tryd.ntmps26
  go_wp2
  go_ret
  exact ⟨rfl, rfl⟩
end Go.Proofs.YteegbcjpganobaaDoor.Hd
