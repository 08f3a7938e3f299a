/- Plain mathematics of JSON's values, third part: what a text's tokens are with a tab and a line's end behind it; no program. -/
import Derived.Test.YtkphainopofejaaDoorJvGv
namespace Go.Proofs.YtkphainopofejaaDoor.Jv
open Jt
set_option linter.unusedSimpArgs false
set_option linter.unusedVariables false

/-- blanks behind a text -/
def bh (l : List UInt8) : List UInt8 := l ++ [9, 13]
theorem bh_len (l : List UInt8) : (bh l).length = l.length + 2 := by unfold bh; simp
theorem at0_bh {l : List UInt8} {k : Nat} (h : k < l.length) : at0 (bh l) k = at0 l k := by
  unfold at0 bh; rw [List.getD_eq_getElem?_getD, List.getD_eq_getElem?_getD, List.getElem?_append_left h]
theorem at0_bh1 (l : List UInt8) : at0 (bh l) l.length = 9 := by
  unfold at0 bh; rw [List.getD_eq_getElem?_getD, List.getElem?_append_right (Nat.le_refl _), Nat.sub_self]; rfl
theorem at0_bh2 (l : List UInt8) : at0 (bh l) (l.length + 1) = 13 := by
  unfold at0 bh; rw [List.getD_eq_getElem?_getD, List.getElem?_append_right (by omega), show l.length + 1 - l.length = 1 by omega]; rfl
theorem drop_bh {l : List UInt8} {k : Nat} (h : k ≤ l.length) : (bh l).drop k = bh (l.drop k) := by
  unfold bh; rw [List.drop_append_of_le_length h]
theorem cut_bh {l : List UInt8} {a b : Nat} (ha : a ≤ l.length) (hb : b ≤ l.length) : cutL (bh l) a b = cutL l a b := by
  unfold cutL; rw [drop_bh ha]; unfold bh
  rw [List.take_append_of_le_length (by rw [List.length_drop]; omega)]
theorem tw_bh {p : UInt8 → Bool} (hp : p 9 = false) : ∀ l : List UInt8, (bh l).takeWhile p = l.takeWhile p
  | [] => by unfold bh; rw [List.nil_append, List.takeWhile_cons, hp]; rfl
  | c :: l => by
    have ih := tw_bh hp l
    unfold bh at ih ⊢
    rw [List.cons_append, List.takeWhile_cons, List.takeWhile_cons, ih]
theorem endP_bh {p : UInt8 → Bool} (hp : p 9 = false) {l : List UInt8} {k : Nat} (h : k ≤ l.length) : endP p (bh l) k = endP p l k := by
  unfold endP; rw [drop_bh h, tw_bh hp]
theorem tw_blk : ∀ l : List UInt8, ((bh l).takeWhile blkB).length = if (l.takeWhile blkB).length < l.length then (l.takeWhile blkB).length else l.length + 2
  | [] => by decide
  | c :: l => by
    have ih := tw_blk l
    unfold bh at ih ⊢
    rw [List.cons_append, List.takeWhile_cons, List.takeWhile_cons]
    cases hc : blkB c with
    | false => simp
    | true =>
      simp only [if_true, List.length_cons, ih]
      by_cases h : (l.takeWhile blkB).length < l.length
      · rw [if_pos h, if_pos (by omega)]
      · rw [if_neg h, if_neg (by omega)]
theorem blk_bh {l : List UInt8} {k : Nat} (h : k ≤ l.length) : endP blkB (bh l) k = if endP blkB l k < l.length then endP blkB l k else l.length + 2 := by
  unfold endP
  rw [drop_bh h, tw_blk, List.length_drop]
  by_cases g : ((l.drop k).takeWhile blkB).length < l.length - k
  · rw [if_pos g, if_pos (by omega)]
  · rw [if_neg g, if_neg (by omega)]; omega
theorem okD9 : Nu.okD 16 9 = false := by decide
theorem hex_bh {l : List UInt8} {j : Nat} (h : j ≤ l.length) : hexA (bh l) j = hexA l j := by
  unfold hexA
  rw [bh_len]
  by_cases h1 : l.length < j + 4
  · rw [if_pos h1]
    by_cases h2 : l.length + 2 < j + 4
    · rw [if_pos h2]
    · rw [if_neg h2]
      have hm : (9 : UInt8) ∈ cutL (bh l) j (j + 4) := by
        unfold cutL
        rw [drop_bh h, show j + 4 - j = 4 by omega]
        unfold bh
        rw [List.take_append, List.mem_append]
        refine .inr ?_
        rw [List.length_drop]
        obtain ⟨m, hm⟩ : ∃ m, 4 - (l.length - j) = m + 1 := ⟨4 - (l.length - j) - 1, by omega⟩
        rw [hm, List.take_succ_cons]
        exact List.mem_cons_self
      have hn : ¬ (cutL (bh l) j (j + 4) ≠ [] ∧ (cutL (bh l) j (j + 4)).all (Nu.okD 16) = true) := by
        rintro ⟨_, g⟩
        have := List.all_eq_true.1 g 9 hm
        rw [okD9] at this; cases this
      rw [(Nu.rd_no (M := 2147483647) hn).2, if_neg (by decide)]
  · rw [if_neg h1, if_neg (by omega), cut_bh (by omega) (by omega)]
theorem gd_app {zs : List Int} {j : Nat} (h : j < zs.length) (r : List Int) : Ut.gd (zs ++ r) j = Ut.gd zs j := by
  unfold Ut.gd; rw [List.getD_eq_getElem?_getD, List.getD_eq_getElem?_getD, List.getElem?_append_left h]
theorem lo2_ge (z : Int) : 128 ≤ Ut.lo2 z := by unfold Ut.lo2; (repeat' split) <;> omega
theorem next_bh {zs : List Int} (hz : zs ≠ []) : (Ut.nextW (zs ++ [9, 13])).2.toNat = (Ut.nextW zs).2.toNat := by
  have hn := List.length_pos_iff.2 hz
  have hl : (zs ++ [9, 13]).length = zs.length + 2 := by simp
  have h0 : Ut.gd (zs ++ [9, 13]) 0 = Ut.gd zs 0 := gd_app hn _
  have hN : Ut.gd (zs ++ [9, 13]) zs.length = 9 := by
    unfold Ut.gd; rw [List.getD_eq_getElem?_getD, List.getElem?_append_right (Nat.le_refl _), Nat.sub_self]; rfl
  have hat : ∀ j, j < zs.length → (Ut.okAt (zs ++ [9, 13]) j ↔ Ut.okAt zs j) := by
    intro j hj
    unfold Ut.okAt
    by_cases h1 : j = 1
    · subst h1; rw [if_pos rfl, if_pos rfl, h0, gd_app hj]
    · rw [if_neg h1, if_neg h1, gd_app hj]
  unfold Ut.nextW
  rw [if_neg hz, if_neg (by simp)]
  unfold Ut.nextR
  rw [h0, hl]
  by_cases hs : Ut.szI (Ut.gd zs 0) = 0
  · rw [if_pos hs, if_pos hs]
  rw [if_neg hs, if_neg hs]
  by_cases hle : Ut.szI (Ut.gd zs 0) ≤ zs.length
  · have e : Ut.okTo (zs ++ [9, 13]) (min (zs.length + 2) (Ut.szI (Ut.gd zs 0))) ↔ Ut.okTo zs (min zs.length (Ut.szI (Ut.gd zs 0))) := by
      rw [show min (zs.length + 2) (Ut.szI (Ut.gd zs 0)) = Ut.szI (Ut.gd zs 0) by omega, show min zs.length (Ut.szI (Ut.gd zs 0)) = Ut.szI (Ut.gd zs 0) by omega]
      exact ⟨fun h j hj h1 => (hat j (by omega)).1 (h j hj h1), fun h j hj h1 => (hat j (by omega)).2 (h j hj h1)⟩
    by_cases hk : Ut.okTo zs (min zs.length (Ut.szI (Ut.gd zs 0)))
    · rw [if_pos (e.2 hk), if_pos hk, if_neg (by omega), if_neg (by omega)]
    · rw [if_neg (fun g => hk (e.1 g)), if_neg hk]
  · have hno : ¬ Ut.okTo (zs ++ [9, 13]) (min (zs.length + 2) (Ut.szI (Ut.gd zs 0))) := by
      intro g
      have := g zs.length (by omega) hn
      unfold Ut.okAt at this
      have hlo := lo2_ge (Ut.gd zs 0)
      by_cases h1 : zs.length = 1
      · rw [if_pos h1, h0] at this
        rw [h1] at hN
        rw [hN] at this
        omega
      · rw [if_neg h1, hN] at this; omega
    rw [if_neg hno]
    by_cases hk : Ut.okTo zs (min zs.length (Ut.szI (Ut.gd zs 0)))
    · rw [if_pos hk, if_pos (by omega)]; rfl
    · rw [if_neg hk]
theorem run_bh {l : List UInt8} {k : Nat} (h : k < l.length) : runL (bh l) k = runL l k := by
  unfold runL
  rw [drop_bh (Nat.le_of_lt h)]
  have e : nl (bh (l.drop k)) = nl (l.drop k) ++ [9, 13] := by unfold nl bh; rw [List.map_append]; rfl
  rw [e, next_bh]
  intro g
  have := congrArg List.length g
  rw [nl_len, List.length_drop, List.length_nil] at this
  omega
theorem back_bh {l : List UInt8} {k : Nat} (h : k < l.length) : backL (bh l) k = backL l k := by
  unfold backL
  rw [bh_len]
  by_cases h1 : l.length ≤ k + 1
  · have e : k + 1 = l.length := by omega
    rw [if_pos h1, if_neg (by omega), e, at0_bh1, if_neg (by decide), if_pos (.inl (by decide))]
  · rw [if_neg h1, if_neg (by omega), at0_bh (by omega), hex_bh (show k + 2 ≤ l.length by omega)]
    by_cases h2 : 0 ≤ escI (at0 l (k + 1))
    · rw [if_pos h2, if_pos h2]
    rw [if_neg h2, if_neg h2]
    by_cases h3 : at0 l (k + 1) ≠ 117 ∨ hexA l (k + 2) < 0
    · rw [if_pos h3, if_pos h3]
    rw [if_neg h3, if_neg h3]
    by_cases h7 : k + 7 < l.length
    · rw [at0_bh (show k + 6 < l.length by omega), at0_bh h7, hex_bh (show k + 8 ≤ l.length by omega)]
      have e : (k + 7 < l.length + 2) ↔ (k + 7 < l.length) := by omega
      simp only [e]
    · have hno : ¬ ((55296 ≤ hexA l (k + 2) ∧ hexA l (k + 2) < 56320) ∧ k + 7 < l.length + 2 ∧ at0 (bh l) (k + 6) = 92 ∧ at0 (bh l) (k + 7) = 117 ∧ 56320 ≤ hexA (bh l) (k + 8) ∧ hexA (bh l) (k + 8) < 57344) := by
        rintro ⟨_, ga, gb, gc, _⟩
        rcases (show k + 7 = l.length ∨ k + 7 = l.length + 1 by omega) with x | x
        · rw [x, at0_bh1] at gc; omega
        · rw [x, at0_bh2] at gc; omega
      have hno2 : ¬ ((55296 ≤ hexA l (k + 2) ∧ hexA l (k + 2) < 56320) ∧ k + 7 < l.length ∧ at0 l (k + 6) = 92 ∧ at0 l (k + 7) = 117 ∧ 56320 ≤ hexA l (k + 8) ∧ hexA l (k + 8) < 57344) := fun g => h7 g.2.1
      rw [if_neg hno, if_neg hno2]
theorem unit_bh {l : List UInt8} {k : Nat} (h : k < l.length) : unitL (bh l) k = unitL l k := by
  unfold unitL
  rw [at0_bh h, run_bh h, back_bh h]
  by_cases h1 : at0 l k < 32 ∨ at0 l k = 34
  · rw [if_pos h1, if_pos h1]
  rw [if_neg h1, if_neg h1]
  by_cases h2 : at0 l k ≠ 92
  · rw [if_pos h2, if_pos h2]
    by_cases h3 : runL l k = 0
    · rw [if_pos h3, if_pos h3]
    · rw [if_neg h3, if_neg h3]
      have := (Ut.nextW_k (nl (l.drop k))).1
      rw [nl_len, List.length_drop] at this
      rw [cut_bh (Nat.le_of_lt h) (by unfold runL; unfold runL at h3; omega)]
  · rw [if_neg h2, if_neg h2]
theorem textF_bh {l : List UInt8} : ∀ (f k : Nat), k ≤ l.length → textF (bh l) f k = textF l f k
  | 0, k, _ => rfl
  | f + 1, k, hk => by
    unfold textF
    rw [bh_len, if_neg (show ¬ l.length + 2 ≤ k by omega)]
    by_cases h1 : l.length ≤ k
    · have e : k = l.length := by omega
      subst e
      rw [if_pos h1, at0_bh1, if_neg (by decide)]
      have hu : (unitL (bh l) l.length).2 = 0 := by unfold unitL; rw [at0_bh1, if_pos (.inl (by decide))]
      rw [if_pos hu]
    · rw [if_neg h1, at0_bh (by omega), unit_bh (by omega)]
      by_cases h2 : at0 l k = 34
      · rw [if_pos h2, if_pos h2]
      · rw [if_neg h2, if_neg h2]
        by_cases h3 : (unitL l k).2 = 0
        · rw [if_pos h3, if_pos h3]
        · rw [if_neg h3, if_neg h3, textF_bh f _ (unit_le' (by omega) h3)]
theorem text_bh {l : List UInt8} {k : Nat} (hk : k ≤ l.length) : textA (bh l) k = textA l k := by
  unfold textA
  rw [textF_bh _ _ hk, bh_len, textF_eq l (l.length + 2 + 1) (l.length + 1) _ (by omega) (by omega)]
theorem tokP_bh {l : List UInt8} {p : Nat} (hp : p < l.length) : tokP (bh l) p = tokP l p := by
  unfold tokP
  have hn : endP numB (bh l) p = endP numB l p := endP_bh (by decide) (Nat.le_of_lt hp)
  have hw : endP wordB (bh l) p = endP wordB l p := endP_bh (by decide) (Nat.le_of_lt hp)
  rw [at0_bh hp, hn, hw, text_bh hp, cut_bh (Nat.le_of_lt hp) (endP_le (Nat.le_of_lt hp)), cut_bh (Nat.le_of_lt hp) (endP_le (Nat.le_of_lt hp))]
theorem tokA_bh {l : List UInt8} {k : Nat} (hk : k ≤ l.length) : tokA (bh l) k = tokA l k := by
  unfold tokA
  rw [bh_len, blk_bh hk]
  by_cases h : l.length ≤ endP blkB l k
  · rw [if_pos h, if_neg (show ¬ endP blkB l k < l.length by omega), if_pos (Nat.le_refl _)]
  · rw [if_neg h, if_pos (show endP blkB l k < l.length by omega), if_neg (by omega), tokP_bh (by omega)]
/-- blanks around a text -/
def arnd (l : List UInt8) : List UInt8 := 32 :: 10 :: bh l
theorem arnd_len (l : List UInt8) : (arnd l).length = l.length + 4 := by unfold arnd; rw [List.length_cons, List.length_cons, bh_len]
/-- a token moved on -/
def upT (t : Tok) : Tok := ⟨t.k, t.a + 2, t.b + 2, t.t, t.n⟩
theorem tokA_ar {l : List UInt8} {k : Nat} (hk : k ≤ l.length) : (tokA (arnd l) (k + 2)).2 = (tokA l k).2 ∧ mvT 2 (tokA (arnd l) (k + 2)).1 = (tokA l k).1 := by
  have h := tokA_sf (l := arnd l) (k := 2) (by rw [arnd_len]; omega) k
  have e : (arnd l).drop 2 = bh l := rfl
  rw [e, tokA_bh hk, Nat.add_comm 2 k] at h
  exact ⟨by rw [h], by rw [h]⟩
theorem blk_ar {l : List UInt8} {k : Nat} (hk : k ≤ l.length) : endP blkB l k + 2 ≤ endP blkB (arnd l) (k + 2) := by
  have h := endP_sf blkB (arnd l) 2 k
  have e : (arnd l).drop 2 = bh l := rfl
  rw [e, blk_bh hk, Nat.add_comm 2 k] at h
  have := endP_le (p := blkB) hk
  rw [← h]
  split <;> omega
theorem nx_ar_ok {l : List UInt8} {k : Nat} {t : Tok} (hk : k ≤ l.length) (h : nx l k = .ok t) : nx (arnd l) (k + 2) = .ok (upT t) := by
  unfold nx at h ⊢
  obtain ⟨h2, h1⟩ := tokA_ar hk
  by_cases h0 : (tokA l k).2 = 0
  · rw [if_pos h0] at h; cases h
    rw [if_pos (by rw [h2]; exact h0)]
    have ht := tokA_bd (l := arnd l) (k := k + 2) (by rw [arnd_len]; omega) (by rw [h2]; exact h0)
    have hn : nx (arnd l) (k + 2) = .ok (tokA (arnd l) (k + 2)).1 := by unfold nx; rw [if_pos (by rw [h2]; exact h0)]
    have ha := (nx_a hn).1
    have hb := blk_ar hk
    rw [← h1]
    unfold upT mvT
    dsimp only
    have e1 : (tokA (arnd l) (k + 2)).1.a - 2 + 2 = (tokA (arnd l) (k + 2)).1.a := by omega
    have e2 : (tokA (arnd l) (k + 2)).1.b - 2 + 2 = (tokA (arnd l) (k + 2)).1.b := by omega
    rw [e1, e2]
  · rw [if_neg h0] at h; cases h
theorem nx_ar_er {l : List UInt8} {k : Nat} {e : Er} (hk : k ≤ l.length) (h : nx l k = .error e) : ∃ p, nx (arnd l) (k + 2) = .error (p, e.2) ∧ e.1 ≤ p := by
  unfold nx at h ⊢
  obtain ⟨h2, h1⟩ := tokA_ar hk
  by_cases h0 : (tokA l k).2 = 0
  · rw [if_pos h0] at h; cases h
  · rw [if_neg h0] at h; cases h
    rw [if_neg (by rw [h2]; exact h0), h2]
    exact ⟨_, rfl, by have := blk_ar hk; show endP blkB l k ≤ _; omega⟩
theorem nx_ar_0 (l : List UInt8) : nx (arnd l) 0 = nx (arnd l) 2 := by
  have e : endP blkB (arnd l) 0 = endP blkB (arnd l) 2 := by
    rw [← endP_yes (p := blkB) (l := arnd l) (k := 0) (by rw [arnd_len]; omega) (by show blkB 32 = true; decide), ← endP_yes (p := blkB) (l := arnd l) (k := 0 + 1) (by rw [arnd_len]; omega) (by show blkB 10 = true; decide)]
  unfold nx tokA
  rw [e]
/-- two answers alike: what the one is, moved, or an error of the same number, not ahead of the other's -/
def Al {α β : Type} (g : α → β) (x : Except Er α) (y : Except Er β) : Prop :=
  match x with
  | .ok a => y = .ok (g a)
  | .error e => ∃ p, y = .error (p, e.2) ∧ e.1 ≤ p
theorem Al.ok {α β : Type} {g : α → β} {a : α} {y : Except Er β} (h : y = .ok (g a)) : Al g (.ok a) y := h
theorem Al.er {α β : Type} {g : α → β} {e : Er} {p : Nat} (h : e.1 ≤ p) : Al g (.error e) (.error (p, e.2)) := ⟨p, rfl, h⟩
theorem nx_al {l : List UInt8} {k : Nat} (hk : k ≤ l.length) : Al upT (nx l k) (nx (arnd l) (k + 2)) := by
  cases h : nx l k with
  | ok t => exact nx_ar_ok hk h
  | error e => exact nx_ar_er hk h
theorem keyP_up (l : List UInt8) (ks : List (List UInt8)) (t : Tok) : keyP (arnd l) ks (upT t) = if t.t ∈ ks ∨ t.k ≠ 7 then .error (t.a + 2, 3) else match nx (arnd l) (t.b + 2) with
    | .error e => .error e
    | .ok u => if u.k ≠ 5 then .error (u.a, 3) else nx (arnd l) u.b := rfl
theorem keyP_al {l : List UInt8} {ks : List (List UInt8)} {t : Tok} (hb : t.b ≤ l.length) : Al upT (keyP l ks t) (keyP (arnd l) ks (upT t)) := by
  rw [keyP_up]
  unfold keyP
  by_cases h1 : t.t ∈ ks ∨ t.k ≠ 7
  · rw [if_pos h1, if_pos h1]; exact Al.er (e := (t.a, 3)) (by show t.a ≤ t.a + 2; omega)
  · rw [if_neg h1, if_neg h1]
    have ha := nx_al hb
    cases hx : nx l t.b with
    | error e =>
      rw [hx] at ha
      obtain ⟨p, hp, hle⟩ := ha
      rw [hp]
      exact Al.er hle
    | ok v =>
      rw [hx] at ha
      have hv := nx_ok hb hx
      rw [show nx (arnd l) (t.b + 2) = .ok (upT v) from ha]
      dsimp only
      have e : (upT v).k = v.k := rfl
      rw [e]
      by_cases h2 : v.k ≠ 5
      · rw [if_pos h2, if_pos h2]; exact Al.er (e := (v.a, 3)) (by show v.a ≤ v.a + 2; omega)
      · rw [if_neg h2, if_neg h2]; exact nx_al hv.2
def upS : Nat ⊕ Tok → Nat ⊕ Tok
  | .inl b => .inl (b + 2)
  | .inr t => .inr (upT t)
theorem bhP_al {l : List UInt8} {o : Bool} {b : Nat} (hb : b ≤ l.length) : Al upS (bhP l o b) (bhP (arnd l) o (b + 2)) := by
  unfold bhP
  have ha := nx_al hb
  cases hx : nx l b with
  | error e =>
    rw [hx] at ha
    obtain ⟨p, hp, hle⟩ := ha
    rw [hp]
    exact Al.er hle
  | ok u =>
    rw [hx] at ha
    have hu := nx_ok hb hx
    rw [show nx (arnd l) (b + 2) = .ok (upT u) from ha]
    dsimp only
    have e : (upT u).k = u.k := rfl
    rw [e]
    by_cases h1 : u.k = lastK o
    · rw [if_pos h1, if_pos h1]; exact Al.ok rfl
    · rw [if_neg h1, if_neg h1]
      by_cases h2 : u.k ≠ 6
      · rw [if_pos h2, if_pos h2]; exact Al.er (e := (u.a, 3)) (by show u.a ≤ u.a + 2; omega)
      · rw [if_neg h2, if_neg h2]
        have hc := nx_al hu.2
        cases hy : nx l u.b with
        | error e' =>
          rw [hy] at hc
          obtain ⟨p, hp, hle⟩ := hc
          rw [show (upT u).b = u.b + 2 from rfl, hp]
          exact Al.er hle
        | ok t =>
          rw [hy] at hc
          rw [show (upT u).b = u.b + 2 from rfl, show nx (arnd l) (u.b + 2) = .ok (upT t) from hc]
          exact Al.ok rfl
def upR (r : JV × Nat) : JV × Nat := (r.1, r.2 + 2)
theorem read_al (l : List UInt8) : ∀ (f : Nat),
    (∀ (room : Int) (t : Tok), t.b ≤ l.length → Al upR (pv l f room t) (pv (arnd l) f room (upT t))) ∧
    (∀ (o : Bool) (room : Int) (ks : List (List UInt8)) (xs : List JV) (t : Tok), t.b ≤ l.length → Al upR (pl l f o room ks xs t) (pl (arnd l) f o room ks xs (upT t))) := by
  intro f
  induction f with
  | zero =>
    refine ⟨fun room t _ => ?_, fun o room ks xs t _ => ?_⟩
    · rw [pv, pv]; exact Al.er (Nat.le_refl _)
    · rw [pl, pl]; exact Al.er (Nat.le_refl _)
  | succ f ih =>
    refine ⟨?_, ?_⟩
    · intro room t hb
      have ek : (upT t).k = t.k := rfl
      have eb : (upT t).b = t.b + 2 := rfl
      have et : (upT t).t = t.t := rfl
      have en : (upT t).n = t.n := rfl
      have ea : (upT t).a = t.a + 2 := rfl
      rw [pv, pv, ek, eb, et, en, ea]
      by_cases h1 : t.k = 11
      · rw [if_pos h1, if_pos h1]; exact Al.ok rfl
      rw [if_neg h1, if_neg h1]
      by_cases h2 : t.k = 9 ∨ t.k = 10
      · rw [if_pos h2, if_pos h2]; exact Al.ok rfl
      rw [if_neg h2, if_neg h2]
      by_cases h3 : t.k = 8
      · rw [if_pos h3, if_pos h3]; exact Al.ok rfl
      rw [if_neg h3, if_neg h3]
      by_cases h4 : t.k = 7
      · rw [if_pos h4, if_pos h4]; exact Al.ok rfl
      rw [if_neg h4, if_neg h4]
      by_cases h5 : t.k = 1 ∨ t.k = 3
      · rw [if_pos h5, if_pos h5]
        by_cases h6 : room < 1
        · rw [if_pos h6, if_pos h6]; exact Al.er (e := (t.a, 4)) (by show t.a ≤ t.a + 2; omega)
        rw [if_neg h6, if_neg h6]
        have ha := nx_al hb
        cases hx : nx l t.b with
        | error e =>
          rw [hx] at ha
          obtain ⟨p, hp, hle⟩ := ha
          rw [hp]
          exact Al.er hle
        | ok u =>
          rw [hx] at ha
          rw [show nx (arnd l) (t.b + 2) = .ok (upT u) from ha]
          dsimp only
          rw [show (upT u).k = u.k from rfl]
          by_cases h7 : u.k = lastK (t.k == 1)
          · rw [if_pos h7, if_pos h7]; exact Al.ok rfl
          · rw [if_neg h7, if_neg h7]
            exact ih.2 _ _ _ _ u (nx_ok hb hx).2
      · rw [if_neg h5, if_neg h5]; exact Al.er (e := (t.a, 3)) (by show t.a ≤ t.a + 2; omega)
    · intro o room ks xs t hb
      rw [pl, pl, show (upT t).t = t.t from rfl]
      have hka : Al upT (if o = true then keyP l ks t else .ok t) (if o = true then keyP (arnd l) ks (upT t) else .ok (upT t)) := by
        cases o with
        | false => exact Al.ok rfl
        | true => exact keyP_al hb
      cases hk : (if o = true then keyP l ks t else .ok t) with
      | error e =>
        rw [hk] at hka
        obtain ⟨p, hp, hle⟩ := hka
        rw [hp]
        exact Al.er hle
      | ok u =>
        rw [hk] at hka
        rw [show (if o = true then keyP (arnd l) ks (upT t) else .ok (upT t)) = .ok (upT u) from hka]
        dsimp only
        have hu : u.b ≤ l.length := by
          cases o with
          | false => cases hk; exact hb
          | true => exact (keyP_ok hb hk).2.1
        have hva := ih.1 room u hu
        cases hv : pv l f room u with
        | error e =>
          rw [hv] at hva
          obtain ⟨p, hp, hle⟩ := hva
          rw [hp]
          exact Al.er hle
        | ok q =>
          rw [hv] at hva
          rw [show pv (arnd l) f room (upT u) = .ok (upR q) from hva]
          dsimp only
          have hq := ((read_ok l f).1 room u q hu hv).2.1
          have hca := bhP_al (o := o) hq
          rw [show (upR q).2 = q.2 + 2 from rfl, show (upR q).1 = q.1 from rfl]
          cases hc : bhP l o q.2 with
          | error e =>
            rw [hc] at hca
            obtain ⟨p, hp, hle⟩ := hca
            rw [hp]
            exact Al.er hle
          | ok c =>
            rw [hc] at hca
            rw [show bhP (arnd l) o (q.2 + 2) = .ok (upS c) from hca]
            cases c with
            | inl b => exact Al.ok rfl
            | inr t' => exact ih.2 o room _ _ t' (bhP_more hq hc).2
/-- steps enough are enough -/
theorem read_f (l : List UInt8) : ∀ (f : Nat),
    (∀ (g : Nat) (room : Int) (t : Tok), t.b ≤ l.length → 2 * (l.length - t.b) + 1 ≤ f → 2 * (l.length - t.b) + 1 ≤ g → pv l f room t = pv l g room t) ∧
    (∀ (g : Nat) (o : Bool) (room : Int) (ks : List (List UInt8)) (xs : List JV) (t : Tok), t.b ≤ l.length → 2 * (l.length - t.b) + 2 ≤ f → 2 * (l.length - t.b) + 2 ≤ g → pl l f o room ks xs t = pl l g o room ks xs t) := by
  intro f
  induction f with
  | zero => exact ⟨fun g room t _ h _ => by omega, fun g o room ks xs t _ h _ => by omega⟩
  | succ f ih =>
    refine ⟨?_, ?_⟩
    · intro g room t hb hf hg
      obtain ⟨g', rfl⟩ : ∃ g', g = g' + 1 := ⟨g - 1, by omega⟩
      rw [pv, pv]
      cases hx : nx l t.b with
      | error e => rfl
      | ok u =>
        dsimp only
        have hu := nx_ok hb hx
        rw [ih.2 g' _ _ _ _ u hu.2 (by omega) (by omega)]
    · intro g o room ks xs t hb hf hg
      obtain ⟨g', rfl⟩ : ∃ g', g = g' + 1 := ⟨g - 1, by omega⟩
      rw [pl, pl]
      cases hk : (if o = true then keyP l ks t else .ok t) with
      | error e => rfl
      | ok u =>
        dsimp only
        have hu : u.b ≤ l.length ∧ t.b ≤ u.b := by
          cases o with
          | false => cases hk; exact ⟨hb, Nat.le_refl _⟩
          | true => have := keyP_ok hb hk; exact ⟨this.2.1, by omega⟩
        rw [ih.1 g' room u hu.1 (by omega) (by omega)]
        cases hv : pv l g' room u with
        | error e => rfl
        | ok q =>
          dsimp only
          have hq := (read_ok l g').1 room u q hu.1 hv
          cases hc : bhP l o q.2 with
          | error e => rfl
          | ok c =>
            cases c with
            | inl b => rfl
            | inr t' =>
              dsimp only
              have ht := bhP_more hq.2.1 hc
              rw [ih.2 g' o room _ _ t' ht.2 (by omega) (by omega)]
/-- blanks around a text change nothing -/
theorem parse_ar (l : List UInt8) (d : Int) :
    ((parseP l d).2.2 ≠ 0 → (parseP (arnd l) d).2.2 = (parseP l d).2.2 ∧ (parseP l d).2.1 ≤ (parseP (arnd l) d).2.1) ∧
    ((parseP l d).2.2 = 0 → (parseP (arnd l) d).2.2 = 0 ∧ (parseP (arnd l) d).2.1 = l.length + 4 ∧ (parseP (arnd l) d).1 = (parseP l d).1) := by
  have key : Al id (whole l (min d 16)) (whole (arnd l) (min d 16)) := by
    unfold whole
    rw [nx_ar_0]
    have ha := nx_al (l := l) (k := 0) (Nat.zero_le _)
    cases hx : nx l 0 with
    | error e =>
      rw [hx] at ha
      obtain ⟨p, hp, hle⟩ := ha
      rw [show (2 : Nat) = 0 + 2 from rfl, hp]
      exact Al.er hle
    | ok t =>
      rw [hx] at ha
      have ht := nx_ok (Nat.zero_le _) hx
      rw [show nx (arnd l) 2 = .ok (upT t) from ha]
      dsimp only
      have hva := (read_al l (2 * (arnd l).length + 1)).1 (min d 16) t ht.2
      rw [(read_f l _).1 (2 * l.length + 1) (min d 16) t ht.2 (by rw [arnd_len]; omega) (by omega)] at hva
      cases hv : pv l (2 * l.length + 1) (min d 16) t with
      | error e =>
        rw [hv] at hva
        obtain ⟨p, hp, hle⟩ := hva
        rw [hp]
        exact Al.er hle
      | ok r =>
        rw [hv] at hva
        rw [show pv (arnd l) (2 * (arnd l).length + 1) (min d 16) (upT t) = .ok (upR r) from hva]
        dsimp only
        have hr := ((read_ok l _).1 _ t r ht.2 hv).2.1
        have hc := nx_al hr
        rw [show (upR r).2 = r.2 + 2 from rfl, show (upR r).1 = r.1 from rfl]
        cases hy : nx l r.2 with
        | error e =>
          rw [hy] at hc
          obtain ⟨p, hp, hle⟩ := hc
          rw [hp]
          dsimp only
          by_cases h6 : e.2 = 6
          · rw [if_pos h6, if_pos h6]; exact Al.ok rfl
          · rw [if_neg h6, if_neg h6]; exact Al.er hle
        | ok u =>
          rw [hy] at hc
          rw [show nx (arnd l) (r.2 + 2) = .ok (upT u) from hc]
          exact Al.er (e := (u.a, 3)) (by show u.a ≤ u.a + 2; omega)
  unfold parseP
  cases h : whole l (min d 16) with
  | error e =>
    rw [h] at key
    obtain ⟨p, hp, hle⟩ := key
    rw [hp]
    dsimp only
    refine ⟨fun _ => ⟨rfl, hle⟩, fun g => ?_⟩
    exfalso
    rcases (whole_er l d e h).2 with x | x | x | x <;> rw [x] at g <;> simp at g
  | ok v =>
    rw [h] at key
    rw [show whole (arnd l) (min d 16) = .ok v from key]
    exact ⟨fun g => absurd rfl g, fun _ => ⟨rfl, arnd_len l, rfl⟩⟩
end Go.Proofs.YtkphainopofejaaDoor.Jv
