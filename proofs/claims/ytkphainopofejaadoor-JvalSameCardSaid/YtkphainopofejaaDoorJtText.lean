/- Plain mathematics of JSON's tokens, third part: a row of plain bytes in quotes is read as a whole if it is runes' bytes; no program. -/
import Derived.Test.YtkphainopofejaaDoorJtToks
namespace Go.Proofs.YtkphainopofejaaDoor.Jt
set_option linter.unusedSimpArgs false
set_option linter.unusedVariables false

theorem run_zs {zs : List Int} (h : zs ≠ []) : (Ut.nextW zs).2.toNat = if Ut.szI (Ut.gd zs 0) ≤ zs.length ∧ Ut.okTo zs (Ut.szI (Ut.gd zs 0)) then Ut.szI (Ut.gd zs 0) else 0 := by
  unfold Ut.nextW Ut.nextR
  rw [if_neg h]
  by_cases h0 : Ut.szI (Ut.gd zs 0) = 0
  · rw [if_pos h0, h0]; simp
  · rw [if_neg h0]
    by_cases hl : zs.length < Ut.szI (Ut.gd zs 0)
    · rw [if_neg (show ¬ (Ut.szI (Ut.gd zs 0) ≤ zs.length ∧ _) from fun h => by omega)]
      split
      · rfl
      · rfl
    · rw [show min zs.length (Ut.szI (Ut.gd zs 0)) = Ut.szI (Ut.gd zs 0) by omega]
      by_cases ho : Ut.okTo zs (Ut.szI (Ut.gd zs 0))
      · rw [if_pos ho, if_neg hl, if_pos ⟨by omega, ho⟩]; simp
      · rw [if_neg ho, if_neg (fun h => ho h.2)]; rfl
theorem next_pos (zs : List Int) : 0 < (Ut.nextW zs).2 ↔ (Ut.nextW zs).2.toNat ≠ 0 := by omega
theorem okAt_hi {zs : List Int} {j : Nat} (h : Ut.okAt zs j) : 128 ≤ Ut.gd zs j := by
  unfold Ut.okAt at h
  by_cases e : j = 1
  · subst e
    rw [if_pos rfl] at h
    have : 128 ≤ Ut.lo2 (Ut.gd zs 0) := by unfold Ut.lo2; split <;> (try split) <;> omega
    omega
  · rw [if_neg e] at h; exact h.1
theorem okAt_cong {zs ys : List Int} {j : Nat} (h0 : Ut.gd zs 0 = Ut.gd ys 0) (hj : Ut.gd zs j = Ut.gd ys j) : Ut.okAt zs j ↔ Ut.okAt ys j := by
  unfold Ut.okAt
  by_cases e : j = 1
  · subst e; rw [if_pos rfl, if_pos rfl, h0, hj]
  · rw [if_neg e, if_neg e, hj]
theorem at0_drop (l : List UInt8) (a j : Nat) : at0 (l.drop a) j = at0 l (a + j) := by
  unfold at0; rw [List.getD_eq_getElem?_getD, List.getD_eq_getElem?_getD, List.getElem?_drop]
theorem at0_cut {l : List UInt8} {a b j : Nat} (hb : b ≤ l.length) (h : a + j < b) : at0 (cutL l a b) j = at0 l (a + j) := by
  unfold at0 cutL
  rw [List.getD_eq_getElem?_getD, List.getD_eq_getElem?_getD, List.getElem?_take_of_lt (by omega), List.getElem?_drop]
theorem cut_drop {l : List UInt8} {a b k : Nat} : (cutL l a b).drop k = cutL l (a + k) b := by
  unfold cutL; rw [List.drop_take, List.drop_drop, show b - a - k = b - (a + k) by omega]
theorem cut_app {l : List UInt8} {a b c : Nat} (h1 : a ≤ b) (h2 : b ≤ c) : cutL l a b ++ cutL l b c = cutL l a c := by
  unfold cutL
  rw [show c - a = (b - a) + (c - b) by omega, List.take_add, List.drop_drop, show a + (b - a) = b by omega]
theorem cut_nil (l : List UInt8) (a : Nat) : cutL l a a = [] := by unfold cutL; simp
theorem hi_pln {c : UInt8} (h : 128 ≤ nb c) : plnB c = true := by unfold plnB; rw [decide_eq_true_eq]; omega
theorem run_row {l : List UInt8} {a p : Nat} (ha : a ≤ p) (hp : p < endP plnB l a) (hl : a ≤ l.length) : (Ut.nextW (nl (cutL l p (endP plnB l a)))).2.toNat = runL l p := by
  have he := endP_le (p := plnB) hl
  have hz : nl (cutL l p (endP plnB l a)) ≠ [] := fun e => by have := congrArg List.length e; rw [nl_len, cutL_len he, List.length_nil] at this; omega
  have hy : nl (l.drop p) ≠ [] := fun e => by have := congrArg List.length e; rw [nl_len, List.length_drop, List.length_nil] at this; omega
  unfold runL
  rw [run_zs hz, run_zs hy, nl_len, nl_len, cutL_len he, List.length_drop]
  have hg : ∀ j, p + j < endP plnB l a → Ut.gd (nl (cutL l p (endP plnB l a))) j = Ut.gd (nl (l.drop p)) j := fun j hj => by
    rw [gd_nl, gd_nl, at0_cut he hj, at0_drop]
  have h0 := hg 0 (by omega)
  rw [h0]
  have key : (Ut.szI (Ut.gd (nl (l.drop p)) 0) ≤ endP plnB l a - p ∧ Ut.okTo (nl (cutL l p (endP plnB l a))) (Ut.szI (Ut.gd (nl (l.drop p)) 0))) ↔ (Ut.szI (Ut.gd (nl (l.drop p)) 0) ≤ l.length - p ∧ Ut.okTo (nl (l.drop p)) (Ut.szI (Ut.gd (nl (l.drop p)) 0))) := by
    constructor
    · rintro ⟨h1, h2⟩
      exact ⟨by omega, fun j hj h1' => (okAt_cong h0 (hg j (by omega))).1 (h2 j hj h1')⟩
    · rintro ⟨h1, h2⟩
      rcases Nat.lt_or_ge (endP plnB l a - p) (Ut.szI (Ut.gd (nl (l.drop p)) 0)) with h | h
      · have h3 := okAt_hi (h2 (endP plnB l a - p) h (by omega))
        have hlt : endP plnB l a < l.length := by omega
        rw [gd_nl, at0_drop, show p + (endP plnB l a - p) = endP plnB l a by omega, at0_get hlt] at h3
        have h4 := endP_stop hlt
        rw [hi_pln h3] at h4
        cases h4
      · exact ⟨h, fun j hj h1' => (okAt_cong h0 (hg j (by omega))).2 (h2 j hj h1')⟩
  by_cases hc : (Ut.szI (Ut.gd (nl (l.drop p)) 0) ≤ l.length - p ∧ Ut.okTo (nl (l.drop p)) (Ut.szI (Ut.gd (nl (l.drop p)) 0)))
  · rw [if_pos hc, if_pos (key.2 hc)]
  · rw [if_neg hc, if_neg (fun h => hc (key.1 h))]
theorem pln_at {l : List UInt8} {k : Nat} (h : k < l.length) (hp : plnB l[k] = true) : ¬ (at0 l k < 32 ∨ at0 l k = 34) ∧ at0 l k ≠ 34 ∧ ¬ at0 l k = 92 := by
  rw [at0_get h]
  unfold plnB at hp
  rw [decide_eq_true_eq] at hp
  omega
theorem unit_pln {l : List UInt8} {k : Nat} (h : k < l.length) (hp : plnB l[k] = true) : unitL l k = if runL l k = 0 then ([], 0) else (cutL l k (k + runL l k), runL l k) := by
  obtain ⟨h1, _, h2⟩ := pln_at h hp
  unfold unitL; rw [if_neg h1, if_pos h2]
theorem map_app {r : Option (List UInt8 × Nat)} (a b : List UInt8) : (r.map fun r => (b ++ r.1, r.2)).map (fun r => (a ++ r.1, r.2)) = r.map fun r => ((a ++ b) ++ r.1, r.2) := by
  cases r <;> simp
/-- the walk over a row of plain bytes, and what is read of it -/
theorem row_walk {l : List UInt8} {a : Nat} (hl : a ≤ l.length) : ∀ (f n p : Nat), a ≤ p → p ≤ endP plnB l a → endP plnB l a ≤ p + f →
    ((Ut.walkP (nl (cutL l a (endP plnB l a))) f n (p - a)).2 = endP plnB l a - a → textA l p = (textA l (endP plnB l a)).map fun r => (cutL l p (endP plnB l a) ++ r.1, r.2)) ∧
    ((Ut.walkP (nl (cutL l a (endP plnB l a))) f n (p - a)).2 ≠ endP plnB l a - a → textA l p = none) := by
  have he := endP_le (p := plnB) hl
  have hlen : (nl (cutL l a (endP plnB l a))).length = endP plnB l a - a := by rw [nl_len, cutL_len he]
  have hdr : ∀ p, a ≤ p → (nl (cutL l a (endP plnB l a))).drop (p - a) = nl (cutL l p (endP plnB l a)) := fun p hp => by
    rw [← nl_drop, cut_drop, show a + (p - a) = p by omega]
  intro f
  induction f with
  | zero =>
    intro n p ha hp hf
    obtain rfl : p = endP plnB l a := by omega
    refine ⟨fun _ => ?_, fun h => absurd rfl h⟩
    rw [cut_nil]
    cases textA l (endP plnB l a) <;> simp
  | succ f ih =>
    intro n p ha hp hf
    by_cases hpe : p = endP plnB l a
    · rw [Ut.walkP_stop (fun h => by rw [hlen] at h; omega)]
      refine ⟨fun _ => ?_, fun h => absurd (by show p - a = _; omega) h⟩
      rw [hpe, cut_nil]
      cases textA l (endP plnB l a) <;> simp
    · have hplt : p < endP plnB l a := by omega
      have hpl : p < l.length := by omega
      have hpp : plnB l[p] = true := (endP_all ha hplt).2
      have hr := run_row ha hplt hl
      have hu := unit_pln hpl hpp
      have hq := (pln_at hpl hpp).2.1
      by_cases hk : runL l p = 0
      · rw [Ut.walkP_stop (fun h => by rw [hdr p ha, next_pos, hr] at h; exact h.2 hk)]
        refine ⟨fun h => absurd h (by show ¬ (p - a = _); omega), fun _ => text_bad hq (by rw [hu, if_pos hk])⟩
      · have hkl : runL l p ≤ endP plnB l a - p := by
          have := (Ut.nextW_k (nl (cutL l p (endP plnB l a)))).1
          rw [nl_len, cutL_len he] at this
          omega
        have hstep : textA l p = (textA l (p + runL l p)).map fun r => (cutL l p (p + runL l p) ++ r.1, r.2) := by
          have := text_step hpl hq (by rw [hu, if_neg hk]; exact hk)
          rw [hu, if_neg hk] at this
          exact this
        have hw : Ut.walkP (nl (cutL l a (endP plnB l a))) (f + 1) n (p - a) = Ut.walkP (nl (cutL l a (endP plnB l a))) f (n + 1) (p + runL l p - a) := by
          conv => lhs; unfold Ut.walkP
          rw [if_pos ⟨by rw [hlen]; omega, by rw [hdr p ha, next_pos, hr]; exact hk⟩, hdr p ha, hr, show p - a + runL l p = p + runL l p - a by omega]
        obtain ⟨i1, i2⟩ := ih (n + 1) (p + runL l p) (by omega) (by omega) (by omega)
        rw [hw]
        refine ⟨fun h => ?_, fun h => ?_⟩
        · rw [hstep, i1 h, map_app, cut_app (by omega) (by omega)]
        · rw [hstep, i2 h]; rfl
/-- is a text runes' bytes? -/
def vldB (l : List UInt8) : Bool := decide ((Ut.walkL (nl l)).2 = l.length)
theorem text_row {l : List UInt8} {a : Nat} (hl : a ≤ l.length) : textA l a = if vldB (cutL l a (endP plnB l a)) = true then (textA l (endP plnB l a)).map fun r => (cutL l a (endP plnB l a) ++ r.1, r.2) else none := by
  have he := endP_le (p := plnB) hl
  have h := row_walk hl (nl (cutL l a (endP plnB l a))).length 0 a (Nat.le_refl _) (endP_ge _ _ _) (by rw [nl_len, cutL_len he]; omega)
  rw [Nat.sub_self] at h
  unfold vldB Ut.walkL
  rw [cutL_len he]
  by_cases hc : (Ut.walkP (nl (cutL l a (endP plnB l a))) (nl (cutL l a (endP plnB l a))).length 0 0).2 = endP plnB l a - a
  · rw [if_pos (decide_eq_true hc)]; exact h.1 hc
  · rw [if_neg (by simpa using hc)]; exact h.2 hc
/-- what the part of a text in quotes stands for that begins at a place, and how many bytes that takes; 0: it is wrong -/
def pieceL (l : List UInt8) (k : Nat) : List UInt8 × Nat :=
  if at0 l k = 92 then backL l k
  else if k < endP plnB l k ∧ vldB (cutL l k (endP plnB l k)) = true then (cutL l k (endP plnB l k), endP plnB l k - k) else ([], 0)
theorem piece_bad {l : List UInt8} {k : Nat} (h : k < l.length) (hq : at0 l k ≠ 34) (hu : (pieceL l k).2 = 0) : textA l k = none := by
  unfold pieceL at hu
  by_cases hb : at0 l k = 92
  · rw [if_pos hb] at hu
    exact text_bad hq (by unfold unitL; rw [if_neg (by omega), if_neg (by omega)]; exact hu)
  · rw [if_neg hb] at hu
    by_cases hc : k < endP plnB l k ∧ vldB (cutL l k (endP plnB l k)) = true
    · rw [if_pos hc] at hu; exact absurd hu (by show ¬ (endP plnB l k - k = 0); omega)
    · by_cases hlt : k < endP plnB l k
      · rw [text_row (by omega), if_neg (fun g => hc ⟨hlt, g⟩)]
      · have hn : plnB l[k] = false := by
          have e : endP plnB l k = k := by have := endP_ge plnB l k; omega
          have := endP_stop (p := plnB) (l := l) (k := k) (by omega)
          simpa only [e] using this
        refine text_bad hq ?_
        unfold plnB at hn
        rw [decide_eq_false_iff_not] at hn
        rw [at0_get h] at hb hq
        unfold unitL
        rw [at0_get h, if_pos (by omega)]
theorem piece_step {l : List UInt8} {k : Nat} (h : k < l.length) (hq : at0 l k ≠ 34) (hu : (pieceL l k).2 ≠ 0) : textA l k = (textA l (k + (pieceL l k).2)).map fun r => ((pieceL l k).1 ++ r.1, r.2) := by
  by_cases hb : at0 l k = 92
  · have e : pieceL l k = unitL l k := by unfold pieceL unitL; rw [if_pos hb, if_neg (by omega), if_neg (by omega)]
    rw [e] at hu ⊢
    exact text_step h hq hu
  · by_cases hc : k < endP plnB l k ∧ vldB (cutL l k (endP plnB l k)) = true
    · have e : pieceL l k = (cutL l k (endP plnB l k), endP plnB l k - k) := by unfold pieceL; rw [if_neg hb, if_pos hc]
      rw [e]
      show textA l k = (textA l (k + (endP plnB l k - k))).map _
      rw [show k + (endP plnB l k - k) = endP plnB l k by omega, text_row (by omega), if_pos hc.2]
    · exact absurd (by unfold pieceL; rw [if_neg hb, if_neg hc]) hu
end Go.Proofs.YtkphainopofejaaDoor.Jt
