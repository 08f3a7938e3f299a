/- What a text's beginning tells as a head, but that more bytes are needed, it tells with whatever stands behind it: plain lists. -/
import Derived.Test.YtkblggpnghdnmaaGreatDoorHdHeadE
namespace Go.Proofs.YtkblggpnghdnmaaGreatDoor.Hd
open Go.RowKit Ch
set_option linter.unusedSimpArgs false
set_option linter.unusedVariables false

theorem occ_if2 (l : List UInt8) (i : Nat) : Lib.occAt l [13, 10] i = true ↔ l[i]? = some 13 ∧ l[i + 1]? = some 10 := by
  unfold Lib.occAt
  have e0 : l[i]? = (l.drop i)[0]? := by rw [List.getElem?_drop]; rfl
  have e1 : l[i + 1]? = (l.drop i)[1]? := by rw [List.getElem?_drop]
  rw [e0, e1]
  match l.drop i with
  | [] => simp [List.isPrefixOf]
  | [x] => simp [List.isPrefixOf]
  | x :: y :: r =>
    simp only [List.isPrefixOf, Bool.and_true, Bool.and_eq_true, beq_iff_eq, List.getElem?_cons_zero, List.getElem?_cons_succ, Option.some.injEq]
    exact ⟨fun h => ⟨h.1.symm, h.2.symm⟩, fun h => ⟨h.1.symm, h.2.symm⟩⟩
theorem end_iff (l : List UInt8) (j : Nat) : endL l = some j ↔ (l[j]? = some 13 ∧ l[j + 1]? = some 10) ∧ ∀ i, i < j → ¬ (l[i]? = some 13 ∧ l[i + 1]? = some 10) := by
  constructor
  · intro h
    rcases Lib.index_spec l [13, 10] with ⟨h1, _⟩ | ⟨i, h1, _, h3, h4⟩
    · rw [end_none h1] at h; cases h
    · rw [end_some h1] at h
      injection h with e
      subst e
      exact ⟨(occ_if2 l i).1 h3, fun k hk hc => by have := h4 k hk; rw [(occ_if2 l k).2 hc] at this; cases this⟩
  · intro ⟨h1, h2⟩
    have hj : j < l.length := by
      rcases Nat.lt_or_ge j l.length with h | h
      · exact h
      · rw [List.getElem?_eq_none h] at h1; cases h1.1
    refine end_some (Lib.index_first (by omega) ((occ_if2 l j).2 h1) (fun i hi => ?_))
    cases hc : Lib.occAt l [13, 10] i with
    | false => rfl
    | true => exact absurd ((occ_if2 l i).1 hc) (h2 i hi)
theorem get_app {l m : List UInt8} {j : Nat} {x : UInt8} (h : l[j]? = some x) : (l ++ m)[j]? = some x := by
  have hj : j < l.length := (List.getElem?_eq_some_iff.1 h).1
  rw [List.getElem?_append_left hj]; exact h
theorem get_back {l m : List UInt8} {j : Nat} (hj : j < l.length) : (l ++ m)[j]? = l[j]? := List.getElem?_append_left hj
theorem end_app {l : List UInt8} {j : Nat} (m : List UInt8) (h : endL l = some j) : endL (l ++ m) = some j := by
  obtain ⟨⟨h1, h2⟩, h3⟩ := (end_iff l j).1 h
  have hj : j + 1 < l.length := (List.getElem?_eq_some_iff.1 h2).1
  refine (end_iff _ j).2 ⟨⟨get_app h1, get_app h2⟩, fun i hi hc => h3 i hi ?_⟩
  rw [get_back (by omega), get_back (by omega)] at hc
  exact hc
theorem end_late {l m : List UInt8} {j : Nat} (h : endL l = none) (hj : endL (l ++ m) = some j) : l.length ≤ j + 1 := by
  obtain ⟨⟨h1, h2⟩, h3⟩ := (end_iff _ j).1 hj
  rcases Nat.lt_or_ge (j + 1) l.length with hl | hl
  · rw [get_back (by omega)] at h1
    rw [get_back (by omega)] at h2
    have : endL l = some j := (end_iff l j).2 ⟨⟨h1, h2⟩, fun i hi hc => h3 i hi ⟨get_app hc.1, get_app hc.2⟩⟩
    rw [h] at this; cases this
  · exact hl
theorem nx_app {l : List UInt8} {k : Nat} {a lg : Int} (m : List UInt8) (hk : k ≤ l.length) (h : nxE l k a lg ≠ .error 1) : nxE (l ++ m) k a lg = nxE l k a lg := by
  have hd : (l ++ m).drop k = l.drop k ++ m := List.drop_append_of_le_length hk
  unfold nxE at *
  rw [hd]
  cases he : endL (l.drop k) with
  | some j => rw [end_app m he]
  | none =>
    rw [he] at h
    simp only at h ⊢
    by_cases hl : ((l.drop k).length : Int) - 1 ≤ a
    · rw [if_pos hl] at h; exact absurd rfl h
    · rw [if_neg hl]
      cases he2 : endL (l.drop k ++ m) with
      | none =>
        simp only
        rw [if_neg]
        rw [List.length_append]; omega
      | some j =>
        have := end_late he he2
        simp only
        rw [if_pos (by omega)]
theorem take_app {l : List UInt8} {k j : Nat} (m : List UInt8) (h : k + j ≤ l.length) : ((l ++ m).drop k).take j = (l.drop k).take j := by
  rw [List.drop_append_of_le_length (by omega), List.take_append_of_le_length (by rw [List.length_drop]; omega)]
theorem firL_ne {l : List UInt8} {st : Int} (h : firL l = .error st) : st = 400 ∨ st = 505 ∨ st = 501 := by
  unfold firL at h
  split at h
  · unfold fir3 at h
    split at h
    · split at h
      · split at h
        · cases h
        · injection h with e; omega
      · injection h with e; omega
    · injection h with e; omega
  · injection h with e; omega
theorem fh_app {l : List UInt8} {a : Int} (m : List UInt8) (h : fhL l a ≠ .error 1) : fhL (l ++ m) a = fhL l a := by
  have hn : nxE l 0 a 414 ≠ .error 1 := fun e => h (by unfold fhL; rw [e])
  unfold fhL
  rw [nx_app m (Nat.zero_le _) hn]
  cases hj : nxE l 0 a 414 with
  | error st => rfl
  | ok j =>
    have := nx_room (Nat.zero_le _) hj
    simp only
    rw [take_app m (by omega)]
/-- more steps than enough change nothing, nor do more bytes -/
theorem fld_app : ∀ (f f' : Nat) (l m : List UInt8) (k : Nat) (a b : Int) (acc : List FldL), k ≤ l.length → l.length < k + 2 * f → f ≤ f' → fldF f l k a b acc ≠ .error 1 → fldF f' (l ++ m) k a b acc = fldF f l k a b acc
  | 0, _, _, _, _, _, _, _, hk, hf, _, _ => by omega
  | f + 1, 0, _, _, _, _, _, _, _, _, hff, _ => by omega
  | f + 1, f' + 1, l, m, k, a, b, acc, hk, hf, hff, h => by
    have hn : nxE l k a 431 ≠ .error 1 := fun e => h (by rw [fldF, e])
    rw [fldF] at h ⊢
    rw [fldF, nx_app m hk hn]
    cases hj : nxE l k a 431 with
    | error st => rfl
    | ok j =>
      rw [hj] at h
      have hr := nx_room hk hj
      simp only at h ⊢
      rw [take_app m (by omega)]
      by_cases h0 : j = 0
      · rw [if_pos h0, if_pos h0]
      · rw [if_neg h0] at h ⊢
        rw [if_neg h0]
        by_cases hb : (acc.length : Int) = b
        · rw [if_pos hb, if_pos hb]
        · rw [if_neg hb] at h ⊢
          rw [if_neg hb]
          cases ho : ofL ((l.drop k).take j) with
          | none => rfl
          | some x =>
            rw [ho] at h
            simp only at h ⊢
            exact fld_app f f' l m _ a b _ hr (by omega) (by omega) h
theorem nx_st {l : List UInt8} {k : Nat} {a lg st : Int} (h : nxE l k a lg = .error st) : st = 1 ∨ st = lg := by
  unfold nxE at h
  split at h
  · split at h
    · injection h with e; omega
    · injection h with e; omega
  · split at h
    · injection h with e; omega
    · cases h
theorem fld_st : ∀ (f : Nat) (l : List UInt8) (k : Nat) (a b st : Int) (acc : List FldL), k ≤ l.length → l.length < k + 2 * f → fldF f l k a b acc = .error st → st = 1 ∨ st = 431 ∨ st = 400
  | 0, _, _, _, _, _, _, hk, hf, _ => by omega
  | f + 1, l, k, a, b, st, acc, hk, hf, h => by
    rw [fldF] at h
    cases hj : nxE l k a 431 with
    | error st' => rw [hj] at h; injection h with e; have := nx_st hj; omega
    | ok j =>
      rw [hj] at h
      have hr := nx_room hk hj
      simp only at h
      by_cases h0 : j = 0
      · rw [if_pos h0] at h; cases h
      · rw [if_neg h0] at h
        by_cases hb : (acc.length : Int) = b
        · rw [if_pos hb] at h; injection h with e; omega
        · rw [if_neg hb] at h
          cases ho : ofL ((l.drop k).take j) with
          | none => rw [ho] at h; injection h with e; omega
          | some x =>
            rw [ho] at h
            simp only at h
            exact fld_st f l _ a b st _ hr (by omega) h
theorem fld_pl : ∀ (f : Nat) (l : List UInt8) (k : Nat) (a b : Int) (acc : List FldL) (y : List FldL × Nat), k ≤ l.length → fldF f l k a b acc = .ok y → y.2 ≤ l.length
  | 0, _, _, _, _, _, _, _, h => by cases h
  | f + 1, l, k, a, b, acc, y, hk, h => by
    rw [fldF] at h
    cases hj : nxE l k a 431 with
    | error st' => rw [hj] at h; cases h
    | ok j =>
      rw [hj] at h
      have hr := nx_room hk hj
      simp only at h
      by_cases h0 : j = 0
      · rw [if_pos h0] at h; injection h with e; rw [← e]; show k + 2 ≤ l.length; omega
      · rw [if_neg h0] at h
        by_cases hb : (acc.length : Int) = b
        · rw [if_pos hb] at h; cases h
        · rw [if_neg hb] at h
          cases ho : ofL ((l.drop k).take j) with
          | none => rw [ho] at h; cases h
          | some x =>
            rw [ho] at h
            simp only at h
            exact fld_pl f l _ a b _ y hr h
/-- every status is a number above nought -/
theorem hd_st {l : List UInt8} {a b st : Int} (h : hdL l a b = .error st) : 1 ≤ st ∧ st ≤ 505 := by
  unfold hdL at h
  cases hf : fhL l a with
  | error st' =>
    rw [hf] at h
    injection h with e
    unfold fhL at hf
    cases hj : nxE l 0 a 414 with
    | error s2 => rw [hj] at hf; injection hf with e2; have := nx_st hj; omega
    | ok j =>
      rw [hj] at hf
      simp only at hf
      cases hl : firL ((l.drop 0).take j) with
      | error s3 => rw [hl] at hf; injection hf with e3; have := firL_ne hl; omega
      | ok x => rw [hl] at hf; cases hf
  | ok x =>
    rw [hf] at h
    have hp := fh_pl hf
    simp only at h
    cases hd : fldF (l.length + 1) l x.2 a b [] with
    | error s2 => rw [hd] at h; injection h with e; have := fld_st _ _ _ _ _ _ _ hp (by omega) hd; omega
    | ok y =>
      rw [hd] at h
      simp only at h
      split at h
      · injection h with e; omega
      · cases h
theorem hd_pl {l : List UInt8} {a b : Int} {x : FirT × List FldL × Nat} (h : hdL l a b = .ok x) : x.2.2 ≤ l.length := by
  unfold hdL at h
  cases hf : fhL l a with
  | error st' => rw [hf] at h; cases h
  | ok z =>
    rw [hf] at h
    have hp := fh_pl hf
    simp only at h
    cases hd : fldF (l.length + 1) l z.2 a b [] with
    | error s2 => rw [hd] at h; cases h
    | ok y =>
      rw [hd] at h
      simp only at h
      split at h
      · cases h
      · injection h with e; rw [← e]; exact fld_pl _ _ _ _ _ _ _ hp hd
/-- wherever it ends -/
theorem hd_app {l : List UInt8} {a b : Int} (m : List UInt8) (h : hdL l a b ≠ .error 1) : hdL (l ++ m) a b = hdL l a b := by
  have hn : fhL l a ≠ .error 1 := fun e => h (by unfold hdL; rw [e])
  unfold hdL at *
  rw [fh_app m hn]
  cases hf : fhL l a with
  | error st => rfl
  | ok x =>
    rw [hf] at h
    have hp := fh_pl hf
    simp only at h ⊢
    have hd : fldF (l.length + 1) l x.2 a b [] ≠ .error 1 := fun e => h (by rw [e])
    rw [fld_app (l.length + 1) ((l ++ m).length + 1) l m x.2 a b [] hp (by omega) (by rw [List.length_append]; omega) hd]
end Go.Proofs.YtkblggpnghdnmaaGreatDoor.Hd
