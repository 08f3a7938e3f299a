/- The contract of the document's own One: for every text of at most a thousand bytes. -/
import Derived.Test.YtojmjdgapfcjfaaDoorEtPts
namespace Go.Proofs.YtojmjdgapfcjfaaDoor.Et
open Go.RowKit Ch
set_option linter.unusedSimpArgs false
set_option linter.unusedVariables false

def midL (u : List UInt8) : List UInt8 := (u.drop 1).take (u.length - 2)
theorem mid_of {u : List UInt8} (h2 : 2 ≤ u.length) (h0 : u[0]? = some 34) (h1 : u[u.length - 1]? = some 34) : u = 34 :: (midL u ++ [34]) := by
  cases u with
  | nil => simp at h2
  | cons c r =>
    simp at h0
    subst h0
    simp only [List.length_cons] at h2 h1
    have hr : r.length - 1 < r.length := by omega
    have e1 : r[r.length - 1]? = some 34 := by
      have : (34 :: r)[r.length + 1 - 1]? = r[r.length - 1]? := by
        rw [show r.length + 1 - 1 = (r.length - 1) + 1 by omega, List.getElem?_cons_succ]
      rw [← this]; exact h1
    have e2 : r.drop (r.length - 1) = [34] := by
      rw [List.drop_eq_getElem_cons hr, List.drop_eq_nil_of_le (by omega)]
      rw [List.getElem?_eq_getElem hr] at e1
      rw [Option.some.inj e1]
    unfold midL
    simp only [List.drop_succ_cons, List.drop_zero, List.length_cons]
    rw [show r.length + 1 - 2 = r.length - 1 by omega]
    conv => lhs; rw [← List.take_append_drop (r.length - 1) r, e2]
theorem mid_q (x : List UInt8) : midL (34 :: (x ++ [34])) = x := by
  unfold midL
  simp
theorem isW_txt (t : TagL) : isW (txt t) = t.1 ∧ unW (txt t) = 34 :: (t.2 ++ [34]) := by
  obtain ⟨w, x⟩ := t
  cases w with
  | true =>
    have e : txt (true, x) = 87 :: 47 :: 34 :: (x ++ [34]) := rfl
    have e1 : isW (87 :: 47 :: 34 :: (x ++ [34])) = true := by unfold isW; simp [List.isPrefixOf]
    rw [e]; unfold unW; rw [e1]
    exact ⟨rfl, rfl⟩
  | false =>
    have e : txt (false, x) = 34 :: (x ++ [34]) := rfl
    rw [e]; unfold unW; rw [isW_34]
    exact ⟨rfl, rfl⟩
theorem l_unW (l : List UInt8) : l = (if isW l then [87, 47] else []) ++ unW l := by
  unfold unW
  by_cases hw : isW l = true
  · rw [hw]
    simp only [if_true]
    obtain ⟨r, hr⟩ := List.isPrefixOf_iff_prefix.1 hw
    rw [← hr]; rfl
  · simp [hw]
theorem one_yes {l : List UInt8} (h2 : 2 ≤ (unW l).length) (h0 : (unW l)[0]? = some 34) (h1 : (unW l)[(unW l).length - 1]? = some 34) (hm : mkA (midL (unW l)) = true) : oneL l = some (isW l, midL (unW l)) := by
  rw [oneL_some]
  refine ⟨?_, hm⟩
  have e := mid_of h2 h0 h1
  conv => lhs; rw [l_unW l, e]
  unfold txt; rfl
theorem one_no {l : List UInt8} (h : ¬ (2 ≤ (unW l).length ∧ (unW l)[0]? = some 34 ∧ (unW l)[(unW l).length - 1]? = some 34 ∧ mkA (midL (unW l)) = true)) : oneL l = none := by
  cases ho : oneL l with
  | none => rfl
  | some t =>
    exfalso
    obtain ⟨e, hm⟩ := oneL_some.1 ho
    apply h
    rw [e, (isW_txt t).2, mid_q]
    refine ⟨by simp, rfl, ?_, hm⟩
    simp
end Go.Proofs.YtojmjdgapfcjfaaDoor.Et
