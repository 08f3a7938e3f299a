/- Marks and lists of marks as plain lists of bytes: the code's way (mark by mark) and the document's (part by part) are the same; no condition. -/
import Derived.Test.YtojmjdgapfcjfaaDoorChCuts
namespace Go.Proofs.YtojmjdgapfcjfaaDoor.Et
open Go.RowKit Ch
set_option linter.unusedSimpArgs false
set_option linter.unusedVariables false

abbrev TagL := Bool × List UInt8
/-- a mark's byte -/
def mkB (c : UInt8) : Bool := decide (c = 33) || (decide (35 ≤ c.toNat) && decide (c.toNat ≤ 126)) || decide (128 ≤ c.toNat)
theorem mkB_34 : mkB 34 = false := by decide
/-- a mark as text -/
def txt (t : TagL) : List UInt8 := (if t.1 then [87, 47] else []) ++ 34 :: (t.2 ++ [34])
def isW (l : List UInt8) : Bool := [87, 47].isPrefixOf l
def unW (l : List UInt8) : List UInt8 := if isW l then l.drop 2 else l
/-- behind a quote: the bytes up to the next one, and behind it -/
def cutQ (w : Bool) (l : List UInt8) : Option (TagL × List UInt8) := match l with
  | [] => none
  | c :: r => if c = 34 then (if 34 ∈ r ∧ (r.takeWhile (· ≠ 34)).all mkB = true then some ((w, r.takeWhile (· ≠ 34)), (r.dropWhile (· ≠ 34)).drop 1) else none) else none
def cutT (l : List UInt8) : Option (TagL × List UInt8) := cutQ (isW l) (unW l)
def oneL (l : List UInt8) : Option TagL := match cutT l with
  | some (t, []) => some t
  | _ => none
theorem mk_no34 {x : List UInt8} (h : x.all mkB = true) : ¬ (34 : UInt8) ∈ x := fun hm => by
  have := List.all_eq_true.1 h 34 hm
  rw [mkB_34] at this; cases this
theorem tw_at {p q : List UInt8} (h : ¬ (34 : UInt8) ∈ p) : (p ++ 34 :: q).takeWhile (· ≠ 34) = p ∧ ((p ++ 34 :: q).dropWhile (· ≠ 34)).drop 1 = q := by
  have hp : ∀ x ∈ p, (decide (x ≠ 34)) = true := fun x hx => by simp; exact fun e => h (e ▸ hx)
  rw [List.takeWhile_append_of_pos hp, List.dropWhile_append_of_pos hp]
  simp
theorem cutQ_txt (w : Bool) (x b : List UInt8) (h : x.all mkB = true) : cutQ w (34 :: (x ++ 34 :: b)) = some ((w, x), b) := by
  have hx := mk_no34 h
  have ht := tw_at (q := b) hx
  rw [cutQ, if_pos rfl, if_pos ⟨by simp, by rw [ht.1]; exact h⟩, ht.1, ht.2]
theorem isW_34 (r : List UInt8) : isW (34 :: r) = false := by
  unfold isW
  cases r <;> rfl
theorem cutT_txt (t : TagL) (b : List UInt8) (h : t.2.all mkB = true) : cutT (txt t ++ b) = some (t, b) := by
  obtain ⟨w, x⟩ := t
  cases w with
  | true =>
    have e : txt (true, x) ++ b = 87 :: 47 :: 34 :: (x ++ 34 :: b) := by unfold txt; simp
    have e1 : isW (87 :: 47 :: 34 :: (x ++ 34 :: b)) = true := by unfold isW; simp [List.isPrefixOf]
    rw [e]; unfold cutT unW
    rw [e1, if_pos rfl]
    exact cutQ_txt true x b h
  | false =>
    have e : txt (false, x) ++ b = 34 :: (x ++ 34 :: b) := by unfold txt; simp
    rw [e]; unfold cutT unW
    rw [isW_34]
    exact cutQ_txt false x b h
theorem cutT_some {l : List UInt8} {t : TagL} {b : List UInt8} (h : cutT l = some (t, b)) : l = txt t ++ b ∧ t.2.all mkB = true := by
  unfold cutT at h
  have hl : l = (if isW l then [87, 47] else []) ++ unW l := by
    unfold unW
    by_cases hw : isW l = true
    · rw [hw]
      simp only [if_true]
      have := List.isPrefixOf_iff_prefix.1 hw
      obtain ⟨r, hr⟩ := this
      rw [← hr]; rfl
    · simp [hw]
  revert h hl
  generalize isW l = w
  generalize unW l = u
  intro h hl
  cases u with
  | nil => simp [cutQ] at h
  | cons c r =>
    rw [cutQ] at h
    by_cases hc : c = 34
    · rw [if_pos hc] at h
      by_cases hr : 34 ∈ r ∧ (r.takeWhile (· ≠ 34)).all mkB = true
      · rw [if_pos hr] at h
        obtain ⟨p, q, e, hp⟩ := List.eq_append_cons_of_mem hr.1
        have ht := tw_at (q := q) hp
        rw [← e] at ht
        rw [ht.1, ht.2] at h
        have h2 := hr.2
        rw [ht.1] at h2
        simp only [Option.some.injEq, Prod.mk.injEq] at h
        obtain ⟨rfl, rfl⟩ := h
        refine ⟨?_, h2⟩
        rw [hl, hc, e]; unfold txt; simp
      · rw [if_neg hr] at h; cases h
    · rw [if_neg hc] at h; cases h
theorem oneL_some {l : List UInt8} {t : TagL} : oneL l = some t ↔ l = txt t ∧ t.2.all mkB = true := by
  constructor
  · intro h
    unfold oneL at h
    split at h
    · rename_i t' e
      have := cutT_some e
      simp only [Option.some.injEq] at h
      subst h
      simpa using this
    · cases h
  · rintro ⟨rfl, h⟩
    have := cutT_txt t [] h
    rw [List.append_nil] at this
    unfold oneL; rw [this]
theorem tw_mem {p : UInt8 → Bool} : ∀ {l : List UInt8} {a : UInt8}, a ∈ l.takeWhile p → p a = true
  | [], a, h => by simp at h
  | c :: l, a, h => by
    rw [List.takeWhile_cons] at h
    cases hc : p c with
    | false => rw [hc] at h; simp at h
    | true =>
      rw [hc] at h
      simp only [if_true, List.mem_cons] at h
      rcases h with rfl | h
      · exact hc
      · exact tw_mem h
/-- blanks -/
abbrev Bl (b : List UInt8) : Prop := ∀ a ∈ b, spU a = true
theorem bl_nil : Bl [] := fun a ha => by cases ha
theorem trim_blk (l : List UInt8) : ∃ b c, Bl b ∧ Bl c ∧ l = b ++ trimL l ++ c := by
  have h1 := List.takeWhile_append_dropWhile (p := spU) (l := l)
  have h2 := List.takeWhile_append_dropWhile (p := spU) (l := (l.dropWhile spU).reverse)
  refine ⟨l.takeWhile spU, ((l.dropWhile spU).reverse.takeWhile spU).reverse, fun a ha => tw_mem ha, fun a ha => tw_mem (List.mem_reverse.1 ha), ?_⟩
  unfold trimL
  have h3 := congrArg List.reverse h2
  rw [List.reverse_append, List.reverse_reverse] at h3
  rw [List.append_assoc, h3, h1]
theorem trim_hd {l : List UInt8} {c : UInt8} {r : List UInt8} (h : trimL l = c :: r) : spU c = false := by
  cases hc : spU c with
  | false => rfl
  | true =>
    exfalso
    unfold trimL at h
    have h1 := congrArg List.reverse h
    rw [List.reverse_reverse, List.reverse_cons] at h1
    -- the last of the reversed row is l.dropWhile's head
    have h2 := List.takeWhile_append_dropWhile (p := spU) (l := (l.dropWhile spU).reverse)
    rw [h1] at h2
    have h3 := congrArg List.reverse h2
    rw [List.reverse_append, List.reverse_append, List.reverse_reverse] at h3
    simp only [List.reverse_cons, List.reverse_nil, List.nil_append, List.singleton_append, List.cons_append, List.reverse_reverse] at h3
    have h4 : (l.dropWhile spU).head? = some c := by rw [← h3]; rfl
    have h5 := List.head?_dropWhile_not spU l
    rw [h4] at h5
    simp [hc] at h5
theorem trim_bl {b : List UInt8} (h : Bl b) : trimL b = [] := by have := trim_of b [] [] h (by simp) (by simp) (by simp); simpa using this
theorem trim_mid {b c m : List UInt8} (hb : Bl b) (hc : Bl c) : trimL (b ++ m ++ c) = trimL m := by
  obtain ⟨b', c', hb', hc', e⟩ := trim_blk m
  have h1 : ∀ x, (trimL m).head? = some x → spU x = false := fun x hx => by
    cases hm : trimL m with
    | nil => rw [hm] at hx; cases hx
    | cons a r => rw [hm] at hx; simp at hx; subst hx; exact trim_hd hm
  have h2 : ∀ x, (trimL m).getLast? = some x → spU x = false := fun x hx => by
    unfold trimL at hx
    rw [List.getLast?_reverse] at hx
    have h5 := List.head?_dropWhile_not spU (m.dropWhile spU).reverse
    rw [hx] at h5
    simpa using h5
  have := trim_of (b ++ b') (trimL m) (c' ++ c) (fun a ha => by rcases List.mem_append.1 ha with h | h; exact hb a h; exact hb' a h) (fun a ha => by rcases List.mem_append.1 ha with h | h; exact hc' a h; exact hc a h) h1 h2
  have e2 : b ++ m ++ c = b ++ b' ++ trimL m ++ (c' ++ c) := by
    have : b ++ m ++ c = b ++ (b' ++ trimL m ++ c') ++ c := by rw [← e]
    rw [this]
    simp only [List.append_assoc]
  rw [e2]; exact this
/-- what a part adds -/
def stepL (acc : List TagL) (w : List UInt8) : Option (List TagL) := if trimL w = [] then some acc else (oneL (trimL w)).map (fun t => acc ++ [t])
theorem step_mid (acc : List TagL) {b c m : List UInt8} (hb : Bl b) (hc : Bl c) : stepL acc (b ++ m ++ c) = stepL acc m := by unfold stepL; rw [trim_mid hb hc]
/-- the document's way: part by part -/
def refV (q : Bool) (w : List UInt8) (acc : List TagL) : List UInt8 → Option (List TagL)
  | [] => stepL acc w
  | c :: s => let q' := if c = 34 then !q else q
    if c = 44 ∧ q' = false then (stepL acc w).bind (fun a => refV q' [] a s) else refV q' (w ++ [c]) acc s
theorem sp_34 : spU 34 = false := by decide
theorem sp_44 : spU 44 = false := by decide
theorem bl_ne {b : List UInt8} {c : UInt8} {r : List UInt8} (h : Bl (c :: r)) : c ≠ 34 ∧ c ≠ 44 := by
  have := h c (by simp)
  constructor
  · rintro rfl; rw [sp_34] at this; cases this
  · rintro rfl; rw [sp_44] at this; cases this
theorem refV_bl (q : Bool) (acc : List TagL) : ∀ (b w s : List UInt8), Bl b → refV q w acc (b ++ s) = refV q (w ++ b) acc s
  | [], w, s, _ => by simp
  | c :: b, w, s, h => by
    have hc := bl_ne (b := b) h
    rw [List.cons_append, refV]
    simp only [hc.1, hc.2, if_false, false_and]
    rw [refV_bl q acc b (w ++ [c]) s (fun a ha => h a (by simp [ha]))]
    simp
theorem refV_tail (c : List UInt8) (hc : Bl c) : ∀ (s : List UInt8) (q : Bool) (w : List UInt8) (acc : List TagL), refV q w acc (s ++ c) = refV q w acc s
  | [], q, w, acc => by
    have := refV_bl q acc c w [] hc
    rw [List.append_nil] at this
    rw [List.nil_append, this, refV, refV]
    have := step_mid acc (b := []) (c := c) (m := w) bl_nil hc
    simpa using this
  | x :: s, q, w, acc => by
    rw [List.cons_append, refV, refV]
    simp only [refV_tail c hc s]
theorem refV_head (b : List UInt8) (hb : Bl b) : ∀ (s : List UInt8) (q : Bool) (w : List UInt8) (acc : List TagL), refV q (b ++ w) acc s = refV q w acc s
  | [], q, w, acc => by
    rw [refV, refV]
    have := step_mid acc (b := b) (c := []) (m := w) hb bl_nil
    simpa using this
  | x :: s, q, w, acc => by
    rw [refV, refV]
    have h1 := step_mid acc (b := b) (c := []) (m := w) hb bl_nil
    rw [List.append_nil] at h1
    simp only [List.append_assoc, refV_head b hb s, h1]
theorem refV_trim (s : List UInt8) (acc : List TagL) : refV false [] acc s = refV false [] acc (trimL s) := by
  obtain ⟨b, c, hb, hc, e⟩ := trim_blk s
  conv => lhs; rw [e]
  rw [refV_tail c hc, refV_bl false acc b [] _ hb, List.nil_append]
  have := refV_head b hb (trimL s) false [] acc
  rwa [List.append_nil] at this
theorem refV_in (acc : List TagL) : ∀ (x w s : List UInt8), ¬ (34 : UInt8) ∈ x → refV true w acc (x ++ s) = refV true (w ++ x) acc s
  | [], w, s, _ => by simp
  | c :: x, w, s, h => by
    have hc : c ≠ 34 := fun e => h (by simp [e])
    rw [List.cons_append, refV]
    simp only [hc, if_false, Bool.true_eq_false, and_false]
    rw [refV_in acc x (w ++ [c]) s (fun hm => h (by simp [hm]))]
    simp
theorem refV_txt (acc : List TagL) (t : TagL) (s : List UInt8) (h : t.2.all mkB = true) : refV false [] acc (txt t ++ s) = refV false (txt t) acc s := by
  obtain ⟨w, x⟩ := t
  have hq : ∀ u : List UInt8, refV false u acc (34 :: (x ++ 34 :: s)) = refV false (u ++ 34 :: (x ++ [34])) acc s := fun u => by
    rw [refV]
    simp only [if_true, Bool.not_false, Bool.true_eq_false, and_false, if_false]
    rw [refV_in acc x _ _ (mk_no34 h), refV]
    simp
  cases w with
  | true =>
    have e : txt (true, x) ++ s = 87 :: 47 :: 34 :: (x ++ 34 :: s) := by unfold txt; simp
    rw [e, refV, refV]
    simp only [show ¬ (87 : UInt8) = 34 by decide, show ¬ (47 : UInt8) = 34 by decide, show ¬ (87 : UInt8) = 44 by decide, show ¬ (47 : UInt8) = 44 by decide, if_false, false_and]
    rw [hq]; unfold txt; simp
  | false =>
    have e : txt (false, x) ++ s = 34 :: (x ++ 34 :: s) := by unfold txt; simp
    rw [e, hq]; unfold txt; simp
theorem txt_hd (t : TagL) : ∃ c r, txt t = c :: r ∧ spU c = false := by
  obtain ⟨w, x⟩ := t
  cases w with
  | true => exact ⟨87, _, rfl, by decide⟩
  | false => exact ⟨34, _, rfl, by decide⟩
theorem trim_txt (t : TagL) {b : List UInt8} (hb : Bl b) : trimL (txt t ++ b) = txt t := by
  have := trim_of [] (txt t) b (by simp) hb (fun c hc => by obtain ⟨c', r, e, h⟩ := txt_hd t; rw [e] at hc; simp at hc; subst hc; exact h) (fun c hc => by
    have e : txt t = ((if t.1 then [87, 47] else []) ++ 34 :: t.2) ++ [34] := by unfold txt; simp
    rw [e, List.getLast?_append] at hc
    simp at hc
    subst hc; decide)
  simpa using this
theorem step_txt (acc : List TagL) (t : TagL) {b : List UInt8} (hb : Bl b) (h : t.2.all mkB = true) : stepL acc (txt t ++ b) = some (acc ++ [t]) := by
  unfold stepL
  rw [trim_txt t hb, if_neg (by obtain ⟨c, r, e, _⟩ := txt_hd t; rw [e]; simp), (oneL_some).2 ⟨rfl, h⟩]
  rfl
/-- something stands behind a mark -/
theorem trimR_keep {p : List UInt8} {c : UInt8} (hc : spU c = false) : ∀ (q r : List UInt8), (∃ m, q ++ c :: r = m) → ∃ r', ((q ++ c :: r).reverse.dropWhile spU).reverse = q ++ c :: r' := fun q r _ => by
  have h1 := List.takeWhile_append_dropWhile (p := spU) (l := r.reverse)
  rw [List.reverse_append, List.reverse_cons]
  by_cases hr : Bl r
  · refine ⟨[], ?_⟩
    rw [List.append_assoc, dw_app (A := r.reverse) (fun a ha => hr a (List.mem_reverse.1 ha)), List.singleton_append, List.dropWhile_cons, hc]
    simp
  · have : ∃ a ∈ r.reverse, ¬ spU a = true := by
      by_cases hh : ∃ a ∈ r.reverse, ¬ spU a = true
      · exact hh
      · exfalso; apply hr; intro a ha
        by_cases hs : spU a = true
        · exact hs
        · exact absurd ⟨a, List.mem_reverse.2 ha, hs⟩ hh
    refine ⟨(r.reverse.dropWhile spU).reverse, ?_⟩
    rw [List.append_assoc, List.dropWhile_append]
    have hne : (r.reverse.dropWhile spU).isEmpty = false := by
      cases hd : r.reverse.dropWhile spU with
      | cons => rfl
      | nil =>
        exfalso
        obtain ⟨a, ha, hn⟩ := this
        rw [hd, List.append_nil] at h1
        rw [← h1] at ha
        exact hn (tw_mem ha)
    rw [hne]
    simp
theorem trim_from {c : UInt8} {s : List UInt8} (hc : spU c = false) : trimL (c :: s) = ((c :: s).reverse.dropWhile spU).reverse := by
  unfold trimL
  rw [List.dropWhile_cons, hc]; rfl
theorem oneL_more (t : TagL) (q : List UInt8) (h : t.2.all mkB = true) (hq : q ≠ []) : oneL (txt t ++ q) = none := by
  unfold oneL
  rw [cutT_txt t q h]
  cases q with
  | nil => exact absurd rfl hq
  | cons => rfl
theorem step_more (acc : List TagL) (t : TagL) (q r : List UInt8) {c : UInt8} (h : t.2.all mkB = true) (hc : spU c = false) : stepL acc (txt t ++ (q ++ c :: r)) = none := by
  obtain ⟨d, m, e, hd⟩ := txt_hd t
  obtain ⟨r', hr⟩ := trimR_keep (p := []) hc (txt t ++ q) r ⟨_, rfl⟩
  have h1 : trimL (txt t ++ (q ++ c :: r)) = txt t ++ (q ++ c :: r') := by
    rw [← List.append_assoc]
    have h2 : (txt t ++ q ++ c :: r) = d :: (m ++ q ++ c :: r) := by rw [e]; rfl
    rw [h2, trim_from hd, ← h2, hr, List.append_assoc]
  unfold stepL
  rw [h1, if_neg (by rw [e]; simp), oneL_more t _ h (by simp)]
  rfl
theorem refV_more (t : TagL) (h : t.2.all mkB = true) {c : UInt8} (hc : spU c = false) : ∀ (s q r : List UInt8) (b : Bool) (acc : List TagL), refV b (txt t ++ (q ++ c :: r)) acc s = none
  | [], q, r, b, acc => by rw [refV]; exact step_more acc t q r h hc
  | x :: s, q, r, b, acc => by
    rw [refV, step_more acc t q r h hc]
    have := refV_more t h hc s q (r ++ [x]) (if x = 34 then !b else b) acc
    simp only [List.append_assoc, List.cons_append] at this ⊢
    revert this
    generalize (if x = 34 then !b else b) = q'
    intro this
    by_cases hq : x = 44 ∧ q' = false
    · rw [if_pos hq]; rfl
    · rw [if_neg hq]; exact this
theorem refV_first : ∀ (s : List UInt8) (q : Bool) (w : List UInt8) (acc a : List TagL), refV q w acc s = some a → ∃ p r, w ++ s = w ++ p ++ r ∧ stepL acc (w ++ p) ≠ none
  | [], q, w, acc, a, h => ⟨[], [], by simp, by rw [List.append_nil]; rw [refV] at h; rw [h]; simp⟩
  | x :: s, q, w, acc, a, h => by
    rw [refV] at h
    revert h
    generalize (if x = 34 then !q else q) = q'
    intro h
    by_cases hq : x = 44 ∧ q' = false
    · rw [if_pos hq] at h
      refine ⟨[], x :: s, by simp, ?_⟩
      intro hn
      rw [List.append_nil] at hn
      rw [hn] at h; cases h
    · rw [if_neg hq] at h
      obtain ⟨p, r, e, hp⟩ := refV_first s _ (w ++ [x]) acc a h
      exact ⟨x :: p, r, by simp only [List.append_assoc, List.singleton_append, List.cons_append] at e ⊢; exact e, by simpa using hp⟩
/-- the code's way: mark by mark -/
def mrkF : Nat → List UInt8 → List TagL → Option (List TagL)
  | 0, _, _ => none
  | f + 1, s, acc => match trimL s with
    | [] => some acc
    | c :: r => if c = 44 then mrkF f r acc else match cutT (c :: r) with
      | none => none
      | some (t, b) => match trimL b with
        | [] => some (acc ++ [t])
        | d :: u => if d = 44 then mrkF f u (acc ++ [t]) else none
theorem trim_len (l : List UInt8) : (trimL l).length ≤ l.length := by
  obtain ⟨b, c, _, _, e⟩ := trim_blk l
  have := congrArg List.length e
  simp at this; omega
theorem txt_len (t : TagL) : 2 ≤ (txt t).length := by obtain ⟨w, x⟩ := t; cases w <;> simp [txt]
theorem mrk_ref : ∀ (f : Nat) (s : List UInt8) (acc : List TagL), s.length < f → mrkF f s acc = refV false [] acc s
  | 0, s, acc, h => by omega
  | f + 1, s, acc, h => by
    rw [refV_trim, mrkF]
    have hl := trim_len s
    cases ht : trimL s with
    | nil => simp only [refV]; unfold stepL; rw [trim_bl bl_nil]; simp
    | cons c r =>
      rw [ht] at hl
      simp only [List.length_cons] at hl
      have hcs := trim_hd ht
      by_cases hc : c = 44
      · simp only [hc, if_true]
        rw [refV]
        simp only [show ¬ (44 : UInt8) = 34 by decide, if_false, true_and, if_true]
        have : stepL acc [] = some acc := by unfold stepL; rw [trim_bl bl_nil]; simp
        rw [this]
        exact mrk_ref f r acc (by omega)
      · simp only [hc, if_false]
        cases hk : cutT (c :: r) with
        | none =>
          simp only
          cases hv : refV false [] acc (c :: r) with
          | none => rfl
          | some a =>
            exfalso
            rw [refV] at hv
            simp only [hc, false_and, if_false, List.nil_append] at hv
            obtain ⟨p, r', e, hp⟩ := refV_first _ _ _ _ _ hv
            have h1 : trimL ([c] ++ p) ≠ [] := by
              obtain ⟨r2, hr2⟩ := trimR_keep (p := []) hcs [] p ⟨_, rfl⟩
              rw [List.nil_append] at hr2
              rw [List.singleton_append, trim_from hcs, hr2]; simp
            unfold stepL at hp
            rw [if_neg h1] at hp
            cases ho : oneL (trimL ([c] ++ p)) with
            | none => rw [ho] at hp; exact hp rfl
            | some t =>
              obtain ⟨e1, e2⟩ := (oneL_some).1 ho
              obtain ⟨b, d, hb, hd, e3⟩ := trim_blk ([c] ++ p)
              cases b with
              | cons x b' =>
                have : x = c := by simp at e3; exact e3.1.symm
                subst this
                have := hb x (by simp)
                rw [hcs] at this; cases this
              | nil =>
                rw [List.nil_append, e1] at e3
                have e4 : c :: r = txt t ++ (d ++ r') := by
                  have : [c] ++ r = [c] ++ p ++ r' := e
                  rw [← List.singleton_append, this, e3, List.append_assoc]
                rw [e4, cutT_txt t _ e2] at hk
                cases hk
        | some tb =>
          obtain ⟨t, b⟩ := tb
          simp only
          obtain ⟨e1, e2⟩ := cutT_some hk
          have hll := congrArg List.length e1
          have htl := txt_len t
          simp only [List.length_cons, List.length_append] at hll
          rw [e1, refV_txt acc t b e2]
          obtain ⟨b1, b2, hb1, hb2, e3⟩ := trim_blk b
          have hbl := trim_len b
          conv => rhs; rw [e3, refV_tail b2 hb2, refV_bl false acc b1 _ _ hb1]
          cases hu : trimL b with
          | nil => simp only [refV]; exact (step_txt acc t hb1 e2).symm
          | cons d u =>
            rw [hu] at hbl
            simp only [List.length_cons] at hbl
            have hds := trim_hd hu
            by_cases hd : d = 44
            · simp only [hd, if_true]
              rw [refV]
              simp only [show ¬ (44 : UInt8) = 34 by decide, if_false, true_and, if_true]
              rw [step_txt acc t hb1 e2]
              exact mrk_ref f u _ (by omega)
            · simp only [hd, if_false]
              rw [refV]
              simp only [hd, false_and, if_false]
              have := refV_more t e2 hds u b1 [] (if d = 34 then !false else false) acc
              rw [← List.append_assoc] at this
              exact this.symm
end Go.Proofs.YtojmjdgapfcjfaaDoor.Et
