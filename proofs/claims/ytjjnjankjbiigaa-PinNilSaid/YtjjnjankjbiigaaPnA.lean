/- Pins as lists, plain: which are held, behind each call; a map that holds just those; rows of their cells; no condition. -/
import Derived.Test.YtjjnjankjbiigaaRows
import Derived.WalkKit
import Derived.WalkSpells
import Derived.Lib.Hide
import Derived.Laws.AppendOwn
import Derived.OwnWalk
import Derived.Maps.OwnSet
import Derived.Maps.RangeWalk
namespace Go.Proofs.Ytjjnjankjbiigaa.Pn
open Go.RowKit
set_option linter.unusedSimpArgs false
set_option linter.unusedVariables false

/-- a pin that ever was: revision, until, held? -/
abbrev Pin := Int × Int × Bool
def encP (x : Pin) : List Value := [.int .i64 x.1, .int .i64 x.2.1, .bool x.2.2]
def pC (l : List Pin) : List Value := l.flatMap encP
theorem pC_len (l : List Pin) : (pC l).length = l.length * 3 := by
  induction l with
  | nil => rfl
  | cons x r ih => rw [show pC (x :: r) = encP x ++ pC r from rfl, List.length_append, ih]; simp [encP]; omega
theorem pC_at : ∀ (l : List Pin) (k : Nat) (hk : k < l.length), (pC l)[k * 3]? = some (.int .i64 l[k].1) ∧ (pC l)[k * 3 + 1]? = some (.int .i64 l[k].2.1) ∧ (pC l)[k * 3 + 2]? = some (.bool l[k].2.2)
  | [], k, hk => by simp at hk
  | x :: l, 0, _ => ⟨rfl, rfl, rfl⟩
  | x :: l, k + 1, hk => by
    have ih := pC_at l k (by simpa using hk)
    have e : pC (x :: l) = .int .i64 x.1 :: .int .i64 x.2.1 :: .bool x.2.2 :: pC l := rfl
    rw [e, show (k + 1) * 3 = k * 3 + 3 by omega]
    exact ih
theorem pC_snoc (l : List Pin) (x : Pin) : pC (l ++ [x]) = pC l ++ encP x := by unfold pC; rw [List.flatMap_append]; simp
theorem encP_ok (x : Pin) : ∀ u ∈ encP x, u.oneCell' = true := fun u hu => by
  simp [encP] at hu; rcases hu with rfl | rfl | rfl <;> rfl
/-- a pin's until, set -/
theorem pC_set1 : ∀ (l : List Pin) (k : Nat) (x : Pin) (u : Int), l[k]? = some x → pC (l.set k (x.1, u, x.2.2)) = (pC l).set (k * 3 + 1) (.int .i64 u)
  | [], k, x, u, h => by simp at h
  | y :: l, 0, x, u, h => by
    simp at h; subst h; rfl
  | y :: l, k + 1, x, u, h => by
    have ih := pC_set1 l k x u (by simpa using h)
    have e : ∀ (a : List Pin), pC (y :: a) = .int .i64 y.1 :: .int .i64 y.2.1 :: .bool y.2.2 :: pC a := fun _ => rfl
    rw [List.set_cons_succ, e, e, ih, show (k + 1) * 3 + 1 = (k * 3 + 1) + 1 + 1 + 1 by omega]
    rfl
theorem pC_set2 : ∀ (l : List Pin) (k : Nat) (x : Pin) (u : Bool), l[k]? = some x → pC (l.set k (x.1, x.2.1, u)) = (pC l).set (k * 3 + 2) (.bool u)
  | [], k, x, u, h => by simp at h
  | y :: l, 0, x, u, h => by
    simp at h; subst h; rfl
  | y :: l, k + 1, x, u, h => by
    have ih := pC_set2 l k x u (by simpa using h)
    have e : ∀ (a : List Pin), pC (y :: a) = .int .i64 y.1 :: .int .i64 y.2.1 :: .bool y.2.2 :: pC a := fun _ => rfl
    rw [List.set_cons_succ, e, e, ih, show (k + 1) * 3 + 2 = (k * 3 + 2) + 1 + 1 + 1 by omega]
    rfl
/-- what the pin of an id holds, until when -/
def att (l : List Pin) (i : Int) : Option (Int × Int) := if 1 ≤ i then (match l[(i - 1).toNat]? with
  | some (r, u, true) => some (r, u)
  | _ => none) else none
/-- how many are held -/
def cnt (l : List Pin) : Nat := l.countP fun x => x.2.2
theorem cnt_le (l : List Pin) : cnt l ≤ l.length := List.countP_le_length
theorem att_one {l : List Pin} {i : Int} {x : Int × Int} : att l i = some x ↔ 1 ≤ i ∧ l[(i - 1).toNat]? = some (x.1, x.2, true) := by
  unfold att
  split
  · rename_i h
    constructor
    · intro e
      refine ⟨h, ?_⟩
      split at e
      · rename_i r u hr
        injection e with e; subst e; exact hr
      · cases e
    · rintro ⟨_, e⟩
      rw [e]
  · rename_i h
    constructor
    · intro e; cases e
    · intro e; exact absurd e.1 h
theorem att_le {l : List Pin} {i : Int} {x : Int × Int} (h : att l i = some x) : 1 ≤ i ∧ i ≤ l.length := by
  obtain ⟨h1, h2⟩ := att_one.1 h
  have := (List.getElem?_eq_some_iff.1 h2).1
  omega
theorem att_nil (i : Int) : att [] i = none := by unfold att; split <;> simp
theorem att_snoc (l : List Pin) (r u i : Int) : att (l ++ [(r, u, true)]) i = if i = (l.length : Int) + 1 then some (r, u) else att l i := by
  apply Option.ext
  intro x
  rw [att_one]
  split
  · rename_i h
    subst h
    rw [show ((l.length : Int) + 1 - 1).toNat = l.length by omega, List.getElem?_append_right (Nat.le_refl _)]
    simp
    constructor
    · rintro ⟨_, rfl, rfl⟩; rfl
    · intro e; subst e; exact ⟨by omega, rfl, rfl⟩
  · rename_i h
    rw [att_one]
    constructor
    · rintro ⟨h1, h2⟩
      refine ⟨h1, ?_⟩
      have h3 := (List.getElem?_eq_some_iff.1 h2).1
      simp at h3
      rwa [List.getElem?_append_left (by omega)] at h2
    · rintro ⟨h1, h2⟩
      have h3 := (List.getElem?_eq_some_iff.1 h2).1
      exact ⟨h1, by rw [List.getElem?_append_left h3]; exact h2⟩
theorem cnt_snoc (l : List Pin) (r u : Int) : cnt (l ++ [(r, u, true)]) = cnt l + 1 := by unfold cnt; rw [List.countP_append]; simp
/-- behind Keep -/
def keepL (l : List Pin) (i u : Int) : List Pin := match att l i with
  | some x => l.set (i - 1).toNat (x.1, max x.2 u, true)
  | none => l
/-- behind Drop -/
def dropL (l : List Pin) (i : Int) : List Pin := match att l i with
  | some x => l.set (i - 1).toNat (x.1, x.2, false)
  | none => l
/-- behind Expire -/
def exp1 (now : Int) (x : Pin) : Pin := if x.2.2 && decide (x.2.1 ≤ now) then (x.1, x.2.1, false) else x
def expL (l : List Pin) (now : Int) : List Pin := l.map (exp1 now)
def expN (l : List Pin) (now : Int) : Nat := l.countP fun x => x.2.2 && decide (x.2.1 ≤ now)
theorem keepL_len (l : List Pin) (i u : Int) : (keepL l i u).length = l.length := by unfold keepL; split <;> simp
theorem dropL_len (l : List Pin) (i : Int) : (dropL l i).length = l.length := by unfold dropL; split <;> simp
theorem expL_len (l : List Pin) (now : Int) : (expL l now).length = l.length := by unfold expL; simp
theorem att_keep (l : List Pin) (i u j : Int) : att (keepL l i u) j = (att l j).map fun x => (x.1, if j = i then max x.2 u else x.2) := by
  unfold keepL
  cases h : att l i with
  | none =>
    simp only
    by_cases e : j = i
    · subst e; rw [h]; rfl
    · simp [e]
  | some x =>
    obtain ⟨h1, h2⟩ := att_one.1 h
    have h3 := (List.getElem?_eq_some_iff.1 h2).1
    simp only
    by_cases e : j = i
    · subst e
      rw [h]
      refine att_one.2 ⟨h1, ?_⟩
      rw [List.getElem?_set_self h3]
      simp
    · apply Option.ext
      intro y
      simp only [e, if_false, Option.map_id']
      rw [att_one, att_one]
      constructor
      · rintro ⟨g1, g2⟩
        rw [List.getElem?_set_ne (by omega)] at g2
        exact ⟨g1, g2⟩
      · rintro ⟨g1, g2⟩
        rw [List.getElem?_set_ne (by omega)]
        exact ⟨g1, g2⟩
theorem att_drop (l : List Pin) (i j : Int) : att (dropL l i) j = if j = i then none else att l j := by
  unfold dropL
  cases h : att l i with
  | none =>
    simp only
    by_cases e : j = i
    · subst e; rw [h]; simp
    · simp [e]
  | some x =>
    obtain ⟨h1, h2⟩ := att_one.1 h
    have h3 := (List.getElem?_eq_some_iff.1 h2).1
    simp only
    by_cases e : j = i
    · subst e
      simp only [if_true]
      cases g : att (l.set (j - 1).toNat (x.1, x.2, false)) j with
      | none => rfl
      | some y =>
        obtain ⟨g1, g2⟩ := att_one.1 g
        rw [List.getElem?_set_self h3] at g2
        simp at g2
    · apply Option.ext
      intro y
      simp only [e, if_false]
      rw [att_one, att_one]
      constructor
      · rintro ⟨g1, g2⟩
        rw [List.getElem?_set_ne (by omega)] at g2
        exact ⟨g1, g2⟩
      · rintro ⟨g1, g2⟩
        rw [List.getElem?_set_ne (by omega)]
        exact ⟨g1, g2⟩
theorem att_exp (l : List Pin) (now j : Int) : att (expL l now) j = (att l j).filter fun x => decide (now < x.2) := by
  apply Option.ext
  intro y
  rw [att_one, Option.filter_eq_some_iff, att_one]
  unfold expL
  rw [List.getElem?_map]
  cases h : l[(j - 1).toNat]? with
  | none => simp
  | some x =>
    obtain ⟨a, b, c⟩ := x
    simp only [Option.map_some, exp1]
    cases c
    · simp
    · by_cases hb : b ≤ now
      · simp [hb]
        rintro _ _ rfl
        exact hb
      · simp [hb]
        rintro _ _ rfl
        omega
theorem cnt_exp (l : List Pin) (now : Int) : cnt (expL l now) + expN l now = cnt l := by
  unfold cnt expN expL
  induction l with
  | nil => rfl
  | cons x l ih =>
    obtain ⟨a, b, c⟩ := x
    simp only [List.map_cons, List.countP_cons, exp1]
    cases c
    · simp; simpa using ih
    · by_cases hb : b ≤ now
      · simp [hb]; simp at ih; omega
      · simp [hb]; simp at ih; omega
theorem cnt_keep (l : List Pin) (i u : Int) : cnt (keepL l i u) = cnt l := by
  unfold keepL
  cases h : att l i with
  | none => rfl
  | some x =>
    obtain ⟨h1, h2⟩ := att_one.1 h
    obtain ⟨h3, h4⟩ := List.getElem?_eq_some_iff.1 h2
    unfold cnt
    simp only
    rw [List.countP_set h3, h4]
    simp
    have : 0 < l.countP (fun x => x.2.2) := List.countP_pos_iff.2 ⟨_, List.getElem_mem h3, by rw [h4]⟩
    omega
/-- the lowest revision of those held, and whether one is -/
def lst1 (s : Int × Bool) (x : Pin) : Int × Bool := if x.2.2 && (!s.2 || decide (x.1 < s.1)) then (x.1, true) else s
def lst (l : List Pin) : Int × Bool := l.foldl lst1 (0, false)
/-- what it is: none is held, or the lowest one -/
def IsLst (f : Int → Option (Int × Int)) (s : Int × Bool) : Prop := (s = (0, false) ∧ ∀ i, f i = none) ∨ (s.2 = true ∧ (∃ i u, f i = some (s.1, u)) ∧ ∀ i x, f i = some x → s.1 ≤ x.1)
theorem IsLst.one {f : Int → Option (Int × Int)} {s t : Int × Bool} (h : IsLst f s) (k : IsLst f t) : s = t := by
  obtain ⟨a, b⟩ := s
  obtain ⟨c, d⟩ := t
  rcases h with ⟨h1, h2⟩ | ⟨h1, ⟨i, u, h2⟩, h3⟩
  · rcases k with ⟨k1, k2⟩ | ⟨k1, ⟨j, v, k2⟩, k3⟩
    · rw [h1, k1]
    · rw [h2] at k2; cases k2
  · rcases k with ⟨k1, k2⟩ | ⟨k1, ⟨j, v, k2⟩, k3⟩
    · rw [k2] at h2; cases h2
    · simp only at h1 k1 h2 h3 k2 k3
      have g1 := h3 _ _ k2
      have g2 := k3 _ _ h2
      simp only at g1 g2
      rw [h1, k1, show a = c by omega]
theorem att_snoc' (l : List Pin) (x : Pin) (i : Int) : att (l ++ [x]) i = if i = (l.length : Int) + 1 then (if x.2.2 then some (x.1, x.2.1) else none) else att l i := by
  obtain ⟨a, b, c⟩ := x
  cases c
  · apply Option.ext
    intro y
    rw [att_one]
    split
    · rename_i h
      subst h
      rw [show ((l.length : Int) + 1 - 1).toNat = l.length by omega, List.getElem?_append_right (Nat.le_refl _)]
      simp
    · rename_i h
      rw [att_one]
      constructor
      · rintro ⟨h1, h2⟩
        refine ⟨h1, ?_⟩
        have h3 := (List.getElem?_eq_some_iff.1 h2).1
        simp at h3
        rwa [List.getElem?_append_left (by omega)] at h2
      · rintro ⟨h1, h2⟩
        have h3 := (List.getElem?_eq_some_iff.1 h2).1
        exact ⟨h1, by rw [List.getElem?_append_left h3]; exact h2⟩
  · rw [att_snoc]; rfl
theorem lst_is (l : List Pin) : IsLst (att l) (lst l) := by
  rw [show l = l.reverse.reverse from (List.reverse_reverse l).symm]
  generalize l.reverse = r
  induction r with
  | nil => exact .inl ⟨rfl, fun i => att_nil i⟩
  | cons x r ih =>
    rw [List.reverse_cons]
    generalize r.reverse = l at ih
    have e : lst (l ++ [x]) = lst1 (lst l) x := by unfold lst; rw [List.foldl_append]; rfl
    rw [e]
    revert ih
    generalize lst l = s
    obtain ⟨v, ok⟩ := s
    obtain ⟨a, b, c⟩ := x
    intro ih
    have old : ∀ i y, att l i = some y → att (l ++ [(a, b, c)]) i = some y := fun i y h => by
      have := att_le h
      rw [att_snoc', if_neg (by omega)]; exact h
    unfold lst1
    simp only
    cases c
    · simp only [Bool.false_and, Bool.false_eq_true, if_false]
      rcases ih with ⟨h1, h2⟩ | ⟨h1, ⟨i, u, h2⟩, h3⟩
      · refine .inl ⟨h1, fun i => ?_⟩
        rw [att_snoc']; split
        · rfl
        · exact h2 i
      · refine .inr ⟨h1, ⟨i, u, old _ _ h2⟩, fun j y hy => ?_⟩
        rw [att_snoc'] at hy
        split at hy
        · cases hy
        · exact h3 j y hy
    · rcases ih with ⟨h1, h2⟩ | ⟨h1, ⟨i, u, h2⟩, h3⟩
      · injection h1 with h1 h4
        subst h1 h4
        simp only [Bool.not_false, Bool.true_or, Bool.and_self, if_true]
        refine .inr ⟨rfl, ⟨(l.length : Int) + 1, b, by rw [att_snoc', if_pos rfl]; rfl⟩, fun j y hy => ?_⟩
        rw [att_snoc'] at hy
        split at hy
        · injection hy with hy; subst hy; exact Int.le_refl _
        · rw [h2] at hy; cases hy
      · simp only at h1 h2 h3
        subst h1
        by_cases hv : a < v
        · simp only [Bool.not_true, Bool.false_or, Bool.true_and, decide_eq_true hv, if_true]
          refine .inr ⟨rfl, ⟨(l.length : Int) + 1, b, by rw [att_snoc', if_pos rfl]; rfl⟩, fun j y hy => ?_⟩
          rw [att_snoc'] at hy
          split at hy
          · injection hy with hy; subst hy; exact Int.le_refl _
          · have := h3 j y hy
            simp only; omega
        · simp only [Bool.not_true, Bool.false_or, Bool.true_and, decide_eq_false hv, Bool.false_eq_true, if_false]
          refine .inr ⟨rfl, ⟨i, u, old _ _ h2⟩, fun j y hy => ?_⟩
          rw [att_snoc'] at hy
          split at hy
          · injection hy with hy; subst hy; simp only; omega
          · exact h3 j y hy
theorem cnt_pos {l : List Pin} : 0 < cnt l ↔ ∃ i x, att l i = some x := by
  unfold cnt
  rw [List.countP_pos_iff]
  constructor
  · rintro ⟨⟨a, b, c⟩, h1, h2⟩
    simp only at h2
    subst h2
    obtain ⟨k, hk, e⟩ := List.getElem_of_mem h1
    refine ⟨(k : Int) + 1, (a, b), att_one.2 ⟨by omega, ?_⟩⟩
    rw [show ((k : Int) + 1 - 1).toNat = k by omega, List.getElem?_eq_getElem hk, e]
  · rintro ⟨i, x, h⟩
    obtain ⟨h1, h2⟩ := att_one.1 h
    obtain ⟨h3, h4⟩ := List.getElem?_eq_some_iff.1 h2
    exact ⟨_, List.getElem_mem h3, by rw [h4]⟩
theorem lst_ok (l : List Pin) : (lst l).2 = decide (0 < cnt l) := by
  rcases lst_is l with ⟨h1, h2⟩ | ⟨h1, ⟨i, u, h2⟩, h3⟩
  · rw [h1]
    have : ¬ 0 < cnt l := fun h => by
      obtain ⟨i, x, hx⟩ := cnt_pos.1 h
      rw [h2] at hx; cases hx
    rw [decide_eq_false this]
  · rw [h1, decide_eq_true (cnt_pos.2 ⟨i, _, h2⟩)]
end Go.Proofs.Ytjjnjankjbiigaa.Pn
