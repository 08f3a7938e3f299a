/- What package chunk's contracts lean on: worlds that grow, lines and their ends: plain. -/
import Derived.Test.YteegbcjpganobaaDoorHdSmall
import Derived.Test.YteegbcjpganobaaDoorNuHexR
namespace Go.Proofs.YteegbcjpganobaaDoor.Hd
open Go.RowKit Ch
set_option linter.unusedSimpArgs false
set_option linter.unusedVariables false

theorem gb_refl (w : World) (r : Option Nat) : w.grownBy w r := ⟨rfl, rfl, rfl, Nat.le_refl _, fun _ _ _ => rfl⟩
theorem gb_drew (w : World) (r : Option Nat) : w.grownBy w.drew r := ⟨rfl, rfl, rfl, Nat.le_refl _, fun _ _ _ => rfl⟩
theorem Mx.drew {w : World} (h : Mx w) : Mx w.drew := h
theorem gb_trans {a b c : World} {r : Option Nat} (h : a.grownBy b r) (k : b.grownBy c r) : a.grownBy c r := ⟨k.os.trans h.os, k.tape.trans h.tape, k.output.trans h.output, Nat.le_trans h.size k.size, fun j hj hr => (k.block j (Nat.lt_of_lt_of_le hj h.size) hr).trans (h.block j hj hr)⟩
theorem gb_below {w w' : World} {r : Option Nat} (h : Below w.heap.size w w') : w.grownBy w' r := ⟨h.os, h.tape, h.output, h.size, fun j hj _ => h.block j hj⟩
theorem gb_set (w : World) (g j : Nat) (v : Value) : w.grownBy (w.setCell ⟨g, j, none⟩ v) (some g) := by
  refine ⟨rfl, rfl, rfl, by simp [World.setCell], fun k hk hr => ?_⟩
  exact set_ne rfl (fun e => hr (by rw [e])) j v
theorem gb_belowB {B g : Nat} {a w w' : World} (h : Below B a w) (hg : w.grownBy w' (some g)) (hB : B ≤ w.heap.size) (hBg : B ≤ g) : Below B a w' := h.grown hg hB (fun k hk => by injection hk with e; omega)
theorem Mx.gb {w w' : World} {g : Nat} (h : Mx w) (hb : w.grownBy w' (some g)) (hg : g ≠ 3) : Mx w' := by
  have hl := h.lt
  obtain ⟨m, h⟩ := h
  exact ⟨m, (World.cell?_of_block (hb.block _ hl (fun e => hg (by injection e with e; exact e.symm)))).trans h⟩
theorem set4 {w : World} {g : Nat} {a b c d : Value} {t : TypeId} (h : w.heap[g]? = some (.cells #[a, b, c, d] t (0, 0))) (x y z u : Value) : ((((w.setCell ⟨g, 0, none⟩ x).setCell ⟨g, 1, none⟩ y).setCell ⟨g, 2, none⟩ z).setCell ⟨g, 3, none⟩ u).heap[g]? = some (.cells #[x, y, z, u] t (0, 0)) := by
  have := blk_set (blk_set (blk_set (blk_set h 0 x) 1 y) 2 z) 3 u
  simpa using this
/-- what has grown beside block g, told of all but block g below a bound -/
theorem gb_up {a w w' : World} {g n : Nat} (h : a.grownBy w (some g)) (hb : Below n w w') (hn : a.heap.size ≤ n) : a.grownBy w' (some g) := ⟨hb.os.trans h.os, hb.tape.trans h.tape, hb.output.trans h.output, Nat.le_trans h.size hb.size, fun k hk hr => (hb.block k (by omega)).trans (h.block k hk hr)⟩
theorem bel_drew (W : World) : Below W.heap.size W W.drew := ⟨rfl, rfl, rfl, Nat.le_refl _, fun _ _ => rfl⟩
theorem heap_old {w : World} {g : Nat} {o : Obj} (o' : Obj) (h : w.heap[g]? = some o) : (w.alloc o').heap[g]? = some o := ((Below.refl w.heap.size w).alloc (Nat.le_refl _) o').block g (Array.getElem?_eq_some_iff.1 h).1 |>.trans h
theorem gb_alloc {a w : World} {g : Option Nat} (h : a.grownBy w g) (o : Obj) : a.grownBy (w.alloc o) g := gb_trans h (gb_below ((Below.refl w.heap.size w).alloc (Nat.le_refl _) o))
/-- what next tells at a place: the line's length, or a status -/
def nxE (l : List UInt8) (k : Nat) (a lg : Int) : Except Int Nat := match endL (l.drop k) with
  | none => if ((l.drop k).length : Int) - 1 ≤ a then .error 1 else .error lg
  | some j => if a < (j : Int) then .error lg else .ok j
theorem end_room {l : List UInt8} {j : Nat} (h : endL l = some j) : j + 2 ≤ l.length := by
  have hi : Lib.index l [13, 10] = (j : Int) := by
    unfold endL at h
    by_cases e : Lib.index l [13, 10] = -1
    · rw [if_pos e] at h; cases h
    · rw [if_neg e] at h
      have := Lib.index_ge l [13, 10]
      have hk := Option.some.inj h
      omega
  have := Lib.index_room l [13, 10] (by omega)
  simp at this
  omega
theorem nx_ok {l : List UInt8} {k j : Nat} {a lg : Int} (h : nxE l k a lg = .ok j) : endL (l.drop k) = some j := by
  unfold nxE at h
  cases he : endL (l.drop k) with
  | none => rw [he] at h; simp only at h; split at h <;> cases h
  | some i =>
    rw [he] at h
    simp only at h
    split at h
    · cases h
    · injection h with e; rw [e]
theorem nx_room {l : List UInt8} {k j : Nat} {a lg : Int} (hk : k ≤ l.length) (h : nxE l k a lg = .ok j) : k + (j + 2) ≤ l.length := by
  have := end_room (nx_ok h)
  rw [List.length_drop] at this
  omega
theorem occ_if2 (l : List UInt8) (i : Nat) : Lib.occAt l [13, 10] i = true ↔ l[i]? = some 13 ∧ l[i + 1]? = some 10 := by
  unfold Lib.occAt
  have e0 : l[i]? = (l.drop i)[0]? := by rw [List.getElem?_drop]; rfl
  have e1 : l[i + 1]? = (l.drop i)[1]? := by rw [List.getElem?_drop]
  rw [e0, e1]
  match l.drop i with
  | [] => simp [List.isPrefixOf]
  | [x] => simp [List.isPrefixOf]
  | x :: y :: r =>
    simp only [List.isPrefixOf, Bool.and_true, Bool.and_eq_true, beq_iff_eq, List.getElem?_cons_zero, List.getElem?_cons_succ, Option.some.injEq]
    exact ⟨fun h => ⟨h.1.symm, h.2.symm⟩, fun h => ⟨h.1.symm, h.2.symm⟩⟩
theorem end_iff (l : List UInt8) (j : Nat) : endL l = some j ↔ (l[j]? = some 13 ∧ l[j + 1]? = some 10) ∧ ∀ i, i < j → ¬ (l[i]? = some 13 ∧ l[i + 1]? = some 10) := by
  constructor
  · intro h
    rcases Lib.index_spec l [13, 10] with ⟨h1, _⟩ | ⟨i, h1, _, h3, h4⟩
    · rw [end_none h1] at h; cases h
    · rw [end_some h1] at h
      injection h with e
      subst e
      exact ⟨(occ_if2 l i).1 h3, fun k hk hc => by have := h4 k hk; rw [(occ_if2 l k).2 hc] at this; cases this⟩
  · intro ⟨h1, h2⟩
    have hj : j < l.length := by
      rcases Nat.lt_or_ge j l.length with h | h
      · exact h
      · rw [List.getElem?_eq_none h] at h1; cases h1.1
    refine end_some (Lib.index_first (by omega) ((occ_if2 l j).2 h1) (fun i hi => ?_))
    cases hc : Lib.occAt l [13, 10] i with
    | false => rfl
    | true => exact absurd ((occ_if2 l i).1 hc) (h2 i hi)
theorem get_app {l m : List UInt8} {j : Nat} {x : UInt8} (h : l[j]? = some x) : (l ++ m)[j]? = some x := by
  have hj : j < l.length := (List.getElem?_eq_some_iff.1 h).1
  rw [List.getElem?_append_left hj]; exact h
theorem get_back {l m : List UInt8} {j : Nat} (hj : j < l.length) : (l ++ m)[j]? = l[j]? := List.getElem?_append_left hj
theorem end_app {l : List UInt8} {j : Nat} (m : List UInt8) (h : endL l = some j) : endL (l ++ m) = some j := by
  obtain ⟨⟨h1, h2⟩, h3⟩ := (end_iff l j).1 h
  have hj : j + 1 < l.length := (List.getElem?_eq_some_iff.1 h2).1
  refine (end_iff _ j).2 ⟨⟨get_app h1, get_app h2⟩, fun i hi hc => h3 i hi ?_⟩
  rw [get_back (by omega), get_back (by omega)] at hc
  exact hc
theorem end_late {l m : List UInt8} {j : Nat} (h : endL l = none) (hj : endL (l ++ m) = some j) : l.length ≤ j + 1 := by
  obtain ⟨⟨h1, h2⟩, h3⟩ := (end_iff _ j).1 hj
  rcases Nat.lt_or_ge (j + 1) l.length with hl | hl
  · rw [get_back (by omega)] at h1
    rw [get_back (by omega)] at h2
    have : endL l = some j := (end_iff l j).2 ⟨⟨h1, h2⟩, fun i hi hc => h3 i hi ⟨get_app hc.1, get_app hc.2⟩⟩
    rw [h] at this; cases this
  · exact hl
theorem nx_app {l : List UInt8} {k : Nat} {a lg : Int} (m : List UInt8) (hk : k ≤ l.length) (h : nxE l k a lg ≠ .error 1) : nxE (l ++ m) k a lg = nxE l k a lg := by
  have hd : (l ++ m).drop k = l.drop k ++ m := List.drop_append_of_le_length hk
  unfold nxE at *
  rw [hd]
  cases he : endL (l.drop k) with
  | some j => rw [end_app m he]
  | none =>
    rw [he] at h
    simp only at h ⊢
    by_cases hl : ((l.drop k).length : Int) - 1 ≤ a
    · rw [if_pos hl] at h; exact absurd rfl h
    · rw [if_neg hl]
      cases he2 : endL (l.drop k ++ m) with
      | none =>
        simp only
        rw [if_neg]
        rw [List.length_append]; omega
      | some j =>
        have := end_late he he2
        simp only
        rw [if_pos (by omega)]
theorem take_app {l : List UInt8} {k j : Nat} (m : List UInt8) (h : k + j ≤ l.length) : ((l ++ m).drop k).take j = (l.drop k).take j := by
  rw [List.drop_append_of_le_length (by omega), List.take_append_of_le_length (by rw [List.length_drop]; omega)]
theorem nx_st {l : List UInt8} {k : Nat} {a lg st : Int} (h : nxE l k a lg = .error st) : st = 1 ∨ st = lg := by
  unfold nxE at h
  split at h
  · split at h
    · injection h with e; omega
    · injection h with e; omega
  · split at h
    · injection h with e; omega
    · cases h
end Go.Proofs.YteegbcjpganobaaDoor.Hd
