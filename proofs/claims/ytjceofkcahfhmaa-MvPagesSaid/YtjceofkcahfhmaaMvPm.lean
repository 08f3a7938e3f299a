/- Contracts and plain mathematics of some packages' functions, laid together; conditions as each one says. -/
import Derived.Test.YtjceofkcahfhmaaMvDf
namespace Go.Proofs.Ytjceofkcahfhmaa.Mv
open Go.RowKit Go.Lib Go.Maps Go.Shelf Go.Sort
open Go.Proofs.Ytjceofkcahfhmaa.Cn
set_option linter.unusedSimpArgs false
set_option linter.unusedVariables false

theorem cnt_mono (l : List Ver) {a b : Int} (h : a ≤ b) : cnt l a ≤ cnt l b := by
  unfold cnt
  apply List.countP_mono_left
  intro x _ hx
  simp only [decide_eq_true_eq] at hx ⊢
  omega
theorem cnt_drop {l : List Ver} (h : Asc l) {r : Int} {s : Nat} (hs : s ≤ cnt l r) : cnt (l.drop s) r = cnt l r - s := by
  have hl := cnt_le l r
  have h1 : cnt l r = cnt (l.take s) r + cnt (l.drop s) r := by
    conv => lhs; rw [← List.take_append_drop s l]
    unfold cnt; rw [List.countP_append]
  have h2 := cnt_take (rev := r) h s (by omega)
  omega
theorem gone_drop (l : List Ver) (s i : Nat) : goneAt (l.drop s) i = goneAt l (s + i) := by unfold goneAt; rw [List.getElem?_drop]
theorem getD_drop (l : List Ver) (s i : Nat) : (l.drop s).getD i zeroV = l.getD (s + i) zeroV := by rw [List.getD_eq_getElem?_getD, List.getD_eq_getElem?_getD, List.getElem?_drop]
theorem spr_gone {l : List Ver} {rev : Int} (h : spr l rev = cnt l rev) (h0 : 0 < cnt l rev) : goneAt l (cnt l rev - 1) = true := by
  unfold spr at h
  rw [if_neg (by omega)] at h
  split at h
  · assumption
  · omega
/-- what counts at the compaction's revision and above is as it was -/
theorem at_cmp {l : List Ver} (h : Asc l) {rev r : Int} (hr : rev ≤ r) : atB (cmp l rev) r = atB l r ∧ atV (cmp l rev) r = atV l r := by
  have hs : spr l rev ≤ cnt l rev := spr_le l rev
  have hm := cnt_mono l hr
  have hc : cnt (cmp l rev) r = cnt l r - spr l rev := cnt_drop h (by omega)
  have hb : atB (cmp l rev) r = atB l r := by
    unfold atB
    rw [hc]
    by_cases h0 : cnt l r = spr l rev
    · by_cases hz : cnt l r = 0
      · rw [hz]; simp
      · have he : spr l rev = cnt l rev := by omega
        have hg := spr_gone he (by omega)
        have e2 : cnt l r = cnt l rev := by omega
        rw [e2, hg, he]; simp
    · unfold cmp
      rw [gone_drop, show spr l rev + (cnt l r - spr l rev - 1) = cnt l r - 1 by omega, decide_eq_true (show 0 < cnt l r - spr l rev by omega), decide_eq_true (show 0 < cnt l r by omega)]
  refine ⟨hb, ?_⟩
  unfold atV
  rw [hb]
  by_cases ha : atB l r = true
  · rw [if_pos ha, if_pos ha]
    have h0 : 0 < cnt (cmp l rev) r := by
      rw [← hb] at ha
      unfold atB at ha
      simp at ha
      exact ha.1
    rw [hc] at h0 ⊢
    unfold cmp
    rw [getD_drop, show spr l rev + (cnt l r - spr l rev - 1) = cnt l r - 1 by omega]
  · rw [if_neg ha, if_neg ha]

theorem bk_eta (x : ByteArray) : bk x.data.toList = x := by cases x; rfl
theorem klt_trans {a b c : Key} (h : a < b) (k : b < c) : a < c := List.lt_trans h k
theorem kle_of {a b : Key} (h : ¬ a < b) : b ≤ a := List.not_lt.1 h
theorem klt_or {a b : Key} (h : a ≠ b) : a < b ∨ b < a := by
  by_cases h1 : a < b
  · exact .inl h1
  · by_cases h2 : b < a
    · exact .inr h2
    · exact absurd (List.le_antisymm (kle_of h2) (kle_of h1)) h
theorem klt_ne {a b : Key} (h : a < b) : a ≠ b := fun e => List.lt_irrefl _ (e ▸ h)
abbrev kyI (x : ItT) : Key := x.1.data.toList
/-- items that tell what g does, by their keys -/
structure Tells (L : List ItT) (g : Key → Option (ByteArray × Int)) : Prop where
  so : L.Pairwise (fun a b => kyI a < kyI b)
  el : ∀ x, x ∈ L ↔ g (kyI x) = some (x.2.1, x.2.2)
theorem Tells.ext {L L' : List ItT} {g : Key → Option (ByteArray × Int)} (h : Tells L g) (k : Tells L' g) : L = L' := by
  have nd : ∀ {L : List ItT}, L.Pairwise (fun a b => kyI a < kyI b) → L.Nodup := fun h => by
    rw [List.nodup_iff_pairwise_ne]
    exact h.imp (fun {a b} hab e => klt_ne hab (congrArg kyI e))
  have hp : L.Perm L' := (List.perm_ext_iff_of_nodup (nd h.so) (nd k.so)).2 (fun x => by rw [h.el, k.el])
  refine List.Perm.eq_of_pairwise (le := fun a b => kyI a < kyI b) (fun a b _ _ h1 h2 => absurd (klt_trans h1 h2) (List.lt_irrefl _)) h.so k.so hp
theorem gt_iff (x k : ByteArray) : gtB x k = true ↔ k.data.toList < x.data.toList := by
  unfold gtB
  rw [bytesLess_eq, Lib.toList_data, Lib.toList_data]
  simp only [Bool.and_eq_true, Bool.not_eq_true', decide_eq_false_iff_not, beq_eq_false_iff_ne]
  constructor
  · rintro ⟨h1, h2⟩
    exact (klt_or h2).elim (fun h => absurd h h1) id
  · intro h
    exact ⟨List.lt_asymm h, fun e => klt_ne h e.symm⟩
theorem eq_iff (x k : ByteArray) : (x.toList == k.toList) = true ↔ x.data.toList = k.data.toList := by
  rw [Lib.toList_data, Lib.toList_data, beq_iff_eq]
def ltK (k : Key) (x : ItT) : Bool := decide (kyI x < k)
def gtK (k : Key) (x : ItT) : Bool := decide (k < kyI x)
theorem setR_done (c : ChT) (rev : Int) : ∀ (l : List ItT) (acc : List ItT), setR l c rev (acc, true) = (acc ++ l.filter (fun x => !(x.1.toList == c.1.toList)), true) := by
  intro l
  induction l with
  | nil => intro acc; simp [setR]
  | cons x l ih =>
    intro acc
    have e : setR (x :: l) c rev (acc, true) = setR l c rev (setS c rev (acc, true) x) := rfl
    rw [e]
    unfold setS
    rw [if_neg (by simp)]
    cases hx : x.1.toList == c.1.toList with
    | true => rw [if_pos rfl, ih, List.filter_cons_of_neg (by simp [hx])]
    | false => rw [if_neg (by decide), ih, List.filter_cons_of_pos (by simp [hx])]; simp
theorem all_gt {k : Key} {x : ItT} {l : List ItT} (h : (x :: l).Pairwise (fun a b => kyI a < kyI b)) (hx : k < kyI x ∨ k = kyI x) : ∀ y ∈ l, k < kyI y := fun y hy => by
  have := (List.pairwise_cons.1 h).1 y hy
  rcases hx with h1 | h1
  · exact klt_trans h1 this
  · rw [h1]; exact this
theorem setS_gt {c : ChT} {rev : Int} {acc : List ItT} {x : ItT} (h : gtB x.1 c.1 = true) : setS c rev (acc, false) x = (acc ++ [(c.1, c.2.1, rev)] ++ [x], true) := by
  unfold setS; rw [if_pos ⟨rfl, h⟩]
theorem setS_is {c : ChT} {rev : Int} {acc : List ItT} {x : ItT} (h : ¬ gtB x.1 c.1 = true) (k : (x.1.toList == c.1.toList) = true) : setS c rev (acc, false) x = (acc, false) := by
  unfold setS; rw [if_neg (fun e => h e.2), if_pos k]
theorem setS_lt {c : ChT} {rev : Int} {acc : List ItT} {x : ItT} (h : ¬ gtB x.1 c.1 = true) (k : ¬ (x.1.toList == c.1.toList) = true) : setS c rev (acc, false) x = (acc ++ [x], false) := by
  unfold setS; rw [if_neg (fun e => h e.2), if_neg k]
theorem setR_new (c : ChT) (rev : Int) : ∀ (l : List ItT), l.Pairwise (fun a b => kyI a < kyI b) → ∀ acc : List ItT, (if (setR l c rev (acc, false)).2 = true then (setR l c rev (acc, false)).1 else (setR l c rev (acc, false)).1 ++ [(c.1, c.2.1, rev)]) = acc ++ l.filter (ltK c.1.data.toList) ++ [(c.1, c.2.1, rev)] ++ l.filter (gtK c.1.data.toList) := by
  intro l
  induction l with
  | nil => intro _ acc; simp [setR]
  | cons x l ih =>
    intro hp acc
    have hp' := (List.pairwise_cons.1 hp).2
    have e : setR (x :: l) c rev (acc, false) = setR l c rev (setS c rev (acc, false) x) := rfl
    rw [e]
    by_cases hg : gtB x.1 c.1 = true
    · have hk := (gt_iff _ _).1 hg
      have hall := all_gt hp (.inl hk)
      rw [setS_gt hg, setR_done, if_pos rfl]
      have h1 : (x :: l).filter (ltK c.1.data.toList) = [] := by
        rw [List.filter_eq_nil_iff]
        intro y hy
        unfold ltK
        rcases List.mem_cons.1 hy with e | e
        · rw [e]; simpa using List.not_lt.1 (List.lt_asymm hk)
        · simpa using List.not_lt.1 (List.lt_asymm (hall y e))
      have h2 : (x :: l).filter (gtK c.1.data.toList) = x :: l := by
        rw [List.filter_eq_self]
        intro y hy
        unfold gtK
        rcases List.mem_cons.1 hy with e | e
        · rw [e]; exact decide_eq_true hk
        · exact decide_eq_true (hall y e)
      have h3 : l.filter (fun y => !(y.1.toList == c.1.toList)) = l := by
        rw [List.filter_eq_self]
        intro y hy
        have := klt_ne (hall y hy)
        cases hb : y.1.toList == c.1.toList with
        | true => exact absurd ((eq_iff _ _).1 hb).symm this
        | false => rfl
      rw [h1, h2, h3]
      simp
    · by_cases he : (x.1.toList == c.1.toList) = true
      · have hk := (eq_iff _ _).1 he
        have hall := all_gt (k := c.1.data.toList) hp (.inr hk.symm)
        rw [setS_is hg he]
        have h := ih hp' acc
        rw [h]
        have h1 : (x :: l).filter (ltK c.1.data.toList) = l.filter (ltK c.1.data.toList) := by
          rw [List.filter_cons_of_neg]
          unfold ltK kyI
          rw [hk]; simp
        have h2 : (x :: l).filter (gtK c.1.data.toList) = l.filter (gtK c.1.data.toList) := by
          rw [List.filter_cons_of_neg]
          unfold gtK kyI
          rw [hk]; simp
        rw [h1, h2]
      · rw [setS_lt hg he]
        have hk : kyI x < c.1.data.toList := by
          rcases klt_or (fun e => he ((eq_iff _ _).2 e) : kyI x ≠ c.1.data.toList) with h | h
          · exact h
          · exact absurd ((gt_iff _ _).2 h) hg
        have h := ih hp' (acc ++ [x])
        rw [h]
        rw [List.filter_cons_of_pos (show ltK c.1.data.toList x = true from decide_eq_true hk), List.filter_cons_of_neg (show ¬ gtK c.1.data.toList x = true by unfold gtK; simpa using List.not_lt.1 (List.lt_asymm hk))]
        simp
theorem ne_split {k : ByteArray} : ∀ {l : List ItT}, l.Pairwise (fun a b => kyI a < kyI b) → l.filter (fun x => !(x.1.toList == k.toList)) = l.filter (ltK k.data.toList) ++ l.filter (gtK k.data.toList) := by
  intro l
  induction l with
  | nil => intro _; rfl
  | cons x l ih =>
    intro hp
    have hp' := (List.pairwise_cons.1 hp).2
    by_cases he : (x.1.toList == k.toList) = true
    · have hk := (eq_iff _ _).1 he
      rw [List.filter_cons_of_neg (by simp [he]), List.filter_cons_of_neg (show ¬ ltK k.data.toList x = true by unfold ltK kyI; rw [hk]; simp), List.filter_cons_of_neg (show ¬ gtK k.data.toList x = true by unfold gtK kyI; rw [hk]; simp), ih hp']
    · have hb : (x.1.toList == k.toList) = false := by simpa using he
      rw [List.filter_cons_of_pos (by simp [hb])]
      rcases klt_or (fun e => he ((eq_iff _ _).2 e) : kyI x ≠ k.data.toList) with h | h
      · rw [List.filter_cons_of_pos (show ltK k.data.toList x = true from decide_eq_true h), List.filter_cons_of_neg (show ¬ gtK k.data.toList x = true by unfold gtK; simpa using List.not_lt.1 (List.lt_asymm h)), ih hp']
        rfl
      · have hall := all_gt hp (.inl h)
        rw [List.filter_cons_of_neg (show ¬ ltK k.data.toList x = true by unfold ltK; simpa using List.not_lt.1 (List.lt_asymm h)), List.filter_cons_of_pos (show gtK k.data.toList x = true from decide_eq_true h), ih hp']
        have h1 : l.filter (ltK k.data.toList) = [] := by
          rw [List.filter_eq_nil_iff]
          intro y hy
          unfold ltK
          simpa using List.not_lt.1 (List.lt_asymm (hall y hy))
        rw [h1]; rfl
theorem setL_eq {l : List ItT} (h : l.Pairwise (fun a b => kyI a < kyI b)) (c : ChT) (rev : Int) : setL l c rev = l.filter (ltK c.1.data.toList) ++ (if c.2.2 = true then [] else [(c.1, c.2.1, rev)]) ++ l.filter (gtK c.1.data.toList) := by
  unfold setL
  obtain ⟨k, v, gone⟩ := c
  cases gone with
  | true =>
    rw [setR_done, if_pos rfl, if_pos rfl]
    show [] ++ _ = _
    rw [ne_split h]; simp
  | false =>
    have := setR_new (k, v, false) rev l h []
    rw [this]
    simp
/-- what is told behind a change -/
def updG (g : Key → Option (ByteArray × Int)) (c : ChT) (rev : Int) : Key → Option (ByteArray × Int) := fun j => if j = c.1.data.toList then (if c.2.2 = true then none else some (c.2.1, rev)) else g j
theorem Tells.set {l : List ItT} {g : Key → Option (ByteArray × Int)} (h : Tells l g) (c : ChT) (rev : Int) : Tells (setL l c rev) (updG g c rev) := by
  obtain ⟨k, v, gone⟩ := c
  rw [setL_eq h.so]
  refine ⟨?_, fun x => ?_⟩
  · rw [List.append_assoc, List.pairwise_append]
    refine ⟨h.so.filter _, ?_, fun a ha b hb => ?_⟩
    · rw [List.pairwise_append]
      refine ⟨by split <;> simp, h.so.filter _, fun a ha b hb => ?_⟩
      have hb := of_decide_eq_true (List.mem_filter.1 hb).2
      split at ha
      · cases ha
      · rw [List.mem_singleton.1 ha]; exact hb
    · have ha := of_decide_eq_true (List.mem_filter.1 ha).2
      rcases List.mem_append.1 hb with hb | hb
      · split at hb
        · cases hb
        · rw [List.mem_singleton.1 hb]; exact ha
      · exact klt_trans ha (of_decide_eq_true (List.mem_filter.1 hb).2)
  · unfold updG
    by_cases hx : kyI x = k.data.toList
    · rw [if_pos hx]
      have n1 : x ∉ l.filter (ltK k.data.toList) := fun hm => klt_ne (of_decide_eq_true (List.mem_filter.1 hm).2) hx
      have n2 : x ∉ l.filter (gtK k.data.toList) := fun hm => klt_ne (of_decide_eq_true (List.mem_filter.1 hm).2) hx.symm
      have hxk : x.1 = k := by rw [← bk_eta x.1, ← bk_eta k]; exact congrArg bk hx
      rw [List.mem_append, List.mem_append]
      cases gone with
      | true => simp [n1, n2]
      | false =>
        simp only [n1, n2, false_or, or_false, if_neg (show ¬ false = true by decide), List.mem_singleton]
        obtain ⟨x0, x1, x2⟩ := x
        simp only at hxk
        subst hxk
        simp only [Prod.mk.injEq, true_and, Option.some.injEq]
        exact ⟨fun ⟨a, b⟩ => ⟨a.symm, b.symm⟩, fun ⟨a, b⟩ => ⟨a.symm, b.symm⟩⟩
    · rw [if_neg hx, ← h.el, List.mem_append, List.mem_append]
      have n3 : x ∉ (if gone = true then [] else [((k, v, rev) : ItT)]) := fun hm => by
        split at hm
        · cases hm
        · exact hx (by rw [List.mem_singleton.1 hm])
      simp only [n3, or_false, List.mem_filter]
      constructor
      · rintro (h1 | h1)
        · exact h1.1
        · exact h1.1
      · intro h1
        rcases klt_or hx with h2 | h2
        · exact .inl ⟨h1, decide_eq_true h2⟩
        · exact .inr ⟨h1, decide_eq_true h2⟩
def updL (g : Key → Option (ByteArray × Int)) (l : List ChT) (rev : Int) : Key → Option (ByteArray × Int) := l.foldl (fun g c => updG g c rev) g
theorem Tells.next {g : Key → Option (ByteArray × Int)} (rev : Int) : ∀ (l : List ChT) {now : List ItT} {g : Key → Option (ByteArray × Int)}, Tells now g → Tells (nextR l rev now) (updL g l rev) := by
  intro l
  induction l with
  | nil => intro now g h; exact h
  | cons c l ih => intro now g h; exact ih (h.set c rev)
theorem updL_no (rev : Int) : ∀ (l : List ChT) (g : Key → Option (ByteArray × Int)) (k : Key), k ∉ keysL l → updL g l rev k = g k := by
  intro l
  induction l with
  | nil => intro g k _; rfl
  | cons c l ih =>
    intro g k hk
    have hk' : k ≠ c.1.data.toList ∧ k ∉ keysL l := by
      refine ⟨fun e => hk ?_, fun e => hk ?_⟩
      · exact List.mem_cons.2 (.inl e)
      · exact List.mem_cons.2 (.inr e)
    have e : updL g (c :: l) rev = updL (updG g c rev) l rev := rfl
    rw [e, ih _ _ hk'.2]
    exact if_neg hk'.1
theorem updL_in (rev : Int) : ∀ (l : List ChT) (g : Key → Option (ByteArray × Int)), (keysL l).Nodup → ∀ c ∈ l, updL g l rev c.1.data.toList = if c.2.2 = true then none else some (c.2.1, rev) := by
  intro l
  induction l with
  | nil => intro g _ c hc; cases hc
  | cons x l ih =>
    intro g hn c hc
    have hn' : x.1.data.toList ∉ keysL l ∧ (keysL l).Nodup := List.nodup_cons.1 hn
    have e : updL g (x :: l) rev = updL (updG g x rev) l rev := rfl
    rw [e]
    rcases List.mem_cons.1 hc with h | h
    · subst h
      rw [updL_no rev l _ _ hn'.1]
      exact if_pos rfl
    · exact ih _ hn'.2 c h
/-- what a store tells at a revision -/
def gAt (f : Key → Option Chn) (q : Int) : Key → Option (ByteArray × Int) := fun k => if atB (vrs f k) q = true then some ((atV (vrs f k) q).2.1, (atV (vrs f k) q).1) else none
theorem cnt_all {l : List Ver} {q : Int} (h : ∀ x ∈ l, x.1 ≤ q) : cnt l q = l.length := by
  unfold cnt
  rw [List.countP_eq_length]
  intro x hx
  exact decide_eq_true (h x hx)
theorem at_high {l : List Ver} {a b : Int} (h : ∀ x ∈ l, x.1 ≤ a) (hab : a ≤ b) : atB l b = atB l a ∧ atV l b = atV l a := by
  have h1 := cnt_all h
  have h2 : cnt l b = l.length := cnt_all (fun x hx => Int.le_trans (h x hx) hab)
  have hb : atB l b = atB l a := by unfold atB; rw [h1, h2]
  refine ⟨hb, ?_⟩
  unfold atV
  rw [hb, h1, h2]
theorem at_new {l : List Ver} {r : Int} {v : ByteArray} {g : Bool} (h : ∀ x ∈ l, x.1 < r) : atB (l ++ [(r, v, g)]) r = !g ∧ (g = false → atV (l ++ [(r, v, g)]) r = (r, v, g)) := by
  have h1 : cnt (l ++ [(r, v, g)]) r = l.length + 1 := by
    rw [cnt_all]
    · simp
    · intro x hx
      rcases List.mem_append.1 hx with e | e
      · exact Int.le_of_lt (h x e)
      · rw [List.mem_singleton.1 e]; exact Int.le_refl _
  have hb : atB (l ++ [(r, v, g)]) r = !g := by
    unfold atB goneAt
    rw [h1]
    simp
  refine ⟨hb, fun hg => ?_⟩
  unfold atV
  rw [hb, h1, hg]
  simp [List.getD_eq_getElem?_getD]
theorem at_old {l : List Ver} {r q : Int} {m : List Ver} (hm : ∀ x ∈ m, q < x.1) : atB (l ++ m) q = atB l q ∧ atV (l ++ m) q = atV l q := by
  have h1 : cnt (l ++ m) q = cnt l q := by
    unfold cnt
    rw [List.countP_append]
    have : m.countP (fun x => decide (x.1 ≤ q)) = 0 := by
      rw [List.countP_eq_zero]
      intro x hx
      have := hm x hx
      simp; omega
    omega
  have hl := cnt_le l q
  have hb : atB (l ++ m) q = atB l q := by
    unfold atB goneAt
    rw [h1]
    by_cases h0 : 0 < cnt l q
    · rw [List.getElem?_append_left (by omega)]
    · have : cnt l q = 0 := by omega
      rw [this]; simp
  refine ⟨hb, ?_⟩
  unfold atV
  rw [hb]
  by_cases ha : atB l q = true
  · have h0 : 0 < cnt l q := by unfold atB at ha; simp at ha; exact ha.1
    rw [if_pos ha, if_pos ha, h1, List.getD_eq_getElem?_getD, List.getD_eq_getElem?_getD, List.getElem?_append_left (by omega)]
  · rw [if_neg ha, if_neg ha]
theorem cmV_in {r : Int} : ∀ {l : List ChT}, (keysL l).Nodup → ∀ c ∈ l, cmV r l c.1.data.toList = [(r, c.2.1, c.2.2)] := by
  intro l
  induction l with
  | nil => intro _ c hc; cases hc
  | cons x l ih =>
    intro hn c hc
    have hn' : x.1.data.toList ∉ keysL l ∧ (keysL l).Nodup := List.nodup_cons.1 hn
    rcases List.mem_cons.1 hc with h | h
    · subst h
      have h1 : cmV r (c :: l) c.1.data.toList = (r, c.2.1, c.2.2) :: cmV r l c.1.data.toList := by
        unfold cmV
        rw [List.filter_cons_of_pos (by simp)]; rfl
      rw [h1, cmV_no hn'.1]
    · have hne : ¬ x.1.data.toList = c.1.data.toList := fun e => hn'.1 (by rw [e]; exact List.mem_map.2 ⟨c, h, rfl⟩)
      have h1 : cmV r (x :: l) c.1.data.toList = cmV r l c.1.data.toList := by
        unfold cmV
        rw [List.filter_cons_of_neg (by simpa using hne)]
      rw [h1]
      exact ih hn'.2 c h
theorem cmV_rev {r : Int} {l : List ChT} {k : Key} : ∀ x ∈ cmV r l k, x.1 = r := fun x hx => by
  unfold cmV at hx
  obtain ⟨c, _, rfl⟩ := List.mem_map.1 hx
  rfl
/-- a commit, as it is told -/
theorem gAt_new {f f' : Key → Option Chn} {l : List ChT} {rev : Int} (hn : (keysL l).Nodup) (hv : ∀ k, vrs f' k = vrs f k ++ cmV (rev + 1) l k) (hr : ∀ k, ∀ x ∈ vrs f k, x.1 ≤ rev) : gAt f' (rev + 1) = updL (gAt f rev) l (rev + 1) := by
  funext k
  by_cases hk : k ∈ keysL l
  · obtain ⟨c, hc, rfl⟩ := List.mem_map.1 hk
    rw [updL_in _ _ _ hn c hc]
    unfold gAt
    rw [hv, cmV_in hn c hc]
    obtain ⟨h1, h2⟩ := at_new (l := vrs f c.1.data.toList) (r := rev + 1) (v := c.2.1) (g := c.2.2) (fun x hx => by have := hr _ x hx; omega)
    rw [h1]
    cases hg : c.2.2 with
    | true => simp
    | false =>
      have := h2 hg
      rw [hg] at this
      rw [this]; simp
  · rw [updL_no _ _ _ _ hk]
    unfold gAt
    rw [hv, cmV_no hk, List.append_nil]
    obtain ⟨h1, h2⟩ := at_high (l := vrs f k) (hr k) (show rev ≤ rev + 1 by omega)
    rw [h1, h2]
theorem gAt_old {f f' : Key → Option Chn} {l : List ChT} {rev q : Int} (hv : ∀ k, vrs f' k = vrs f k ++ cmV (rev + 1) l k) (hq : q ≤ rev) : gAt f' q = gAt f q := by
  funext k
  unfold gAt
  rw [hv]
  obtain ⟨h1, h2⟩ := at_old (l := vrs f k) (r := 0) (q := q) (m := cmV (rev + 1) l k) (fun x hx => by rw [cmV_rev x hx]; omega)
  rw [h1, h2]
theorem gAt_cmp {f f' : Key → Option Chn} {q r : Int} (hv : ∀ k, vrs f' k = cmp (vrs f k) q) (ha : ∀ k, Asc (vrs f k)) (hq : q ≤ r) : gAt f' r = gAt f r := by
  funext k
  unfold gAt
  rw [hv]
  obtain ⟨h1, h2⟩ := at_cmp (ha k) hq
  rw [h1, h2]
end Go.Proofs.Ytjceofkcahfhmaa.Mv
namespace Go.Proofs.Ytjceofkcahfhmaa.Mv
open Go.RowKit Go.Lib Go.Maps Go.Shelf Go.Sort
open Go.Proofs.Ytjceofkcahfhmaa.Cn
set_option linter.unusedSimpArgs false
set_option linter.unusedVariables false

theorem fnd_some {L : List ItT} {g : Key → Option (ByteArray × Int)} (h : Tells L g) {key : ByteArray} {v : ByteArray} {r : Int} (hg : g key.data.toList = some (v, r)) : fndV L key = ((key, v, r), true) := by
  have hm : ((key, v, r) : ItT) ∈ L := (h.el _).2 hg
  unfold fndV fndL
  cases hf : L.find? (fun x => x.1.toList == key.toList) with
  | none =>
    have := List.find?_eq_none.1 hf _ hm
    exact absurd ((eq_iff key key).2 rfl) this
  | some y =>
    have h1 := List.find?_some hf
    have h2 := List.mem_of_find?_eq_some hf
    have hk := (eq_iff _ _).1 h1
    have h3 := (h.el y).1 h2
    rw [show kyI y = key.data.toList from hk, hg] at h3
    injection h3 with h3
    have hy : y.1 = key := by rw [← bk_eta y.1, ← bk_eta key]; exact congrArg bk hk
    obtain ⟨y0, y1, y2⟩ := y
    simp only at hy h3
    injection h3 with e1 e2
    rw [hy, e1, e2]
theorem fnd_none {L : List ItT} {g : Key → Option (ByteArray × Int)} (h : Tells L g) {key : ByteArray} (hg : g key.data.toList = none) : fndV L key = (zeroI, false) := by
  unfold fndV fndL
  have hf : L.find? (fun x => x.1.toList == key.toList) = none := by
    rw [List.find?_eq_none]
    intro x hx he
    have hk := (eq_iff _ _).1 he
    have h3 := (h.el x).1 hx
    rw [show kyI x = key.data.toList from hk, hg] at h3
    cases h3
  rw [hf]
theorem fnd_has {L : List ItT} {f : Key → Option Chn} {q : Int} (h : Tells L (gAt f q)) (key : ByteArray) : (fndV L key).2 = atB (vrs f key.data.toList) q := by
  cases hb : atB (vrs f key.data.toList) q with
  | true => rw [fnd_some h (show gAt f q key.data.toList = some ((atV (vrs f key.data.toList) q).2.1, (atV (vrs f key.data.toList) q).1) by unfold gAt; rw [if_pos hb])]
  | false => rw [fnd_none h (show gAt f q key.data.toList = none by unfold gAt; rw [hb, if_neg (by decide)])]
theorem get_eq {A : List (List ItT)} {f : Key → Option Chn} {rev fl q : Int} (hA : revA A = rev) (hT : ∀ r : Nat, fl ≤ r → (r : Int) ≤ rev → Tells (A.getD r []) (gAt f r)) (hf : 0 ≤ fl) (key : ByteArray) : getM f rev fl key q = getD' A fl key q := by
  unfold getM getD'
  rw [hA]
  by_cases hr : refE rev fl q ≠ 0
  · rw [if_pos hr, if_pos hr]
  · rw [if_neg hr, if_neg hr]
    have hr : refE rev fl q = 0 := Classical.byContradiction hr
    have hq : 0 ≤ q ∧ q ≤ rev ∧ fl ≤ q := by
      unfold refE at hr
      split at hr
      · omega
      · split at hr
        · omega
        · omega
    have hT := hT q.toNat (by omega) (by omega)
    rw [show ((q.toNat : Nat) : Int) = q by omega] at hT
    have hh := fnd_has hT key
    rw [hh]
    cases hb : atB (vrs f key.data.toList) q with
    | true =>
      rw [if_pos rfl, if_pos rfl, fnd_some hT (show gAt f q key.data.toList = some ((atV (vrs f key.data.toList) q).2.1, (atV (vrs f key.data.toList) q).1) by unfold gAt; rw [if_pos hb])]
    | false => rw [if_neg (by decide), if_neg (by decide)]
/-- what goes into a page -/
def pg (n : Int) : List ItT → List ItT → List ItT × Bool
  | [], acc => (acc, false)
  | x :: xs, acc => if n ≤ acc.length then (acc, true) else pg n xs (acc ++ [x])
theorem rgD_pg (p a : ByteArray) (n : Int) : ∀ (L acc : List ItT), rgD p a n L acc = pg n (L.filter fun x => inB p a x.1) acc := by
  intro L
  induction L with
  | nil => intro acc; rfl
  | cons x L ih =>
    intro acc
    have e : rgD p a n (x :: L) acc = if inB p a x.1 = false then rgD p a n L acc else if n ≤ acc.length then (acc, true) else rgD p a n L (acc ++ [x]) := rfl
    rw [e]
    cases hb : inB p a x.1 with
    | false => rw [if_pos rfl, ih, List.filter_cons_of_neg (by simp [hb])]
    | true =>
      rw [if_neg (by decide), List.filter_cons_of_pos (by simp [hb])]
      have e2 : pg n (x :: L.filter fun x => inB p a x.1) acc = if n ≤ acc.length then (acc, true) else pg n (L.filter fun x => inB p a x.1) (acc ++ [x]) := rfl
      rw [e2, ih]
def itm (f : Key → Option Chn) (q : Int) (k : Key) : Option ItT := if atB (vrs f k) q = true then some (bk k, (atV (vrs f k) q).2.1, (atV (vrs f k) q).1) else none
theorem rgL_pg (f : Key → Option Chn) (q : Int) (p : Key) (n : Int) : ∀ (ks : List Key) (acc : List ItT), rgL f q p n ks acc = pg n ((ks.takeWhile (pfx p)).filterMap (itm f q)) acc := by
  intro ks
  induction ks with
  | nil => intro acc; rfl
  | cons k ks ih =>
    intro acc
    have e : rgL f q p n (k :: ks) acc = if pfx p k = false then (acc, false) else if atB (vrs f k) q = false then rgL f q p n ks acc else if n ≤ acc.length then (acc, true) else rgL f q p n ks (acc ++ [(bk k, (atV (vrs f k) q).2.1, (atV (vrs f k) q).1)]) := rfl
    rw [e]
    cases hp : pfx p k with
    | false => rw [if_pos rfl, List.takeWhile_cons_of_neg (by simp [hp])]; rfl
    | true =>
      rw [if_neg (by decide), List.takeWhile_cons_of_pos hp]
      cases hb : atB (vrs f k) q with
      | false =>
        rw [if_pos rfl, ih, List.filterMap_cons_none (by unfold itm; rw [hb]; rfl)]
      | true =>
        rw [if_neg (by decide), List.filterMap_cons_some (show itm f q k = some (bk k, (atV (vrs f k) q).2.1, (atV (vrs f k) q).1) by unfold itm; rw [if_pos hb]), ih]
        rfl
theorem pfx_iff {p k : Key} : pfx p k = true ↔ ∃ t, k = p ++ t := by
  unfold pfx
  rw [Bool.and_eq_true, beq_iff_eq]
  constructor
  · rintro ⟨_, h⟩
    exact ⟨k.drop p.length, (by have := List.take_append_drop p.length k; rw [h] at this; exact this.symm)⟩
  · rintro ⟨t, rfl⟩
    exact ⟨decide_eq_true (by simp), by simp⟩
theorem not_lt_pre : ∀ (p t : Key), ¬ (p ++ t) < p
  | [], t => by simp
  | b :: p, t => by
    intro h
    rw [List.cons_append, List.cons_lt_cons_iff] at h
    rcases h with h | ⟨_, h⟩
    · exact UInt8.lt_irrefl _ h
    · exact not_lt_pre p t h
theorem pre_down : ∀ (p k : Key) (t : Key), ¬ k < p → ¬ (p ++ t) < k → ∃ s, k = p ++ s
  | [], k, t, _, _ => ⟨k, rfl⟩
  | b :: p, [], t, h1, _ => absurd (List.nil_lt_cons b p) h1
  | b :: p, x :: k, t, h1, h2 => by
    rw [List.cons_lt_cons_iff] at h1
    rw [List.cons_append, List.cons_lt_cons_iff] at h2
    have hx : x = b := by
      have a1 : ¬ x < b := fun h => h1 (.inl h)
      have a2 : ¬ b < x := fun h => h2 (.inl h)
      exact UInt8.le_antisymm (UInt8.not_lt.1 a2) (UInt8.not_lt.1 a1)
    subst hx
    obtain ⟨s, hs⟩ := pre_down p k t (fun h => h1 (.inr ⟨rfl, h⟩)) (fun h => h2 (.inr ⟨rfl, h⟩))
    exact ⟨s, by rw [hs]; rfl⟩
theorem tw_filter {p : Key} : ∀ {ks : List Key}, ks.Pairwise (fun a b => a < b) → (∀ k ∈ ks, ¬ k < p) → ks.takeWhile (pfx p) = ks.filter (pfx p) := by
  intro ks
  induction ks with
  | nil => intro _ _; rfl
  | cons k ks ih =>
    intro hp hge
    obtain ⟨h1, h2⟩ := List.pairwise_cons.1 hp
    cases hb : pfx p k with
    | true => rw [List.takeWhile_cons_of_pos hb, List.filter_cons_of_pos hb, ih h2 (fun x hx => hge x (List.mem_cons_of_mem _ hx))]
    | false =>
      rw [List.takeWhile_cons_of_neg (by simp [hb])]
      symm
      rw [List.filter_eq_nil_iff]
      intro x hx hpx
      rcases List.mem_cons.1 hx with e | e
      · rw [e, hb] at hpx; cases hpx
      · obtain ⟨t, rfl⟩ := pfx_iff.1 hpx
        have := pfx_iff.2 (pre_down p k t (hge k (List.mem_cons_self ..)) (List.lt_asymm (h1 _ e)))
        rw [hb] at this; cases this
theorem srt_lt {K : List Key} (h : K.Nodup) : (srt K).Pairwise (fun a b => a < b) := by
  have h1 := srt_pair K
  have h2 := srt_nodup h
  rw [List.nodup_iff_pairwise_ne] at h2
  refine (h1.and h2).imp (fun {a b} ⟨x, y⟩ => ?_)
  rcases klt_or y with h | h
  · exact h
  · exact absurd h (List.not_lt.2 x)
/-- a range, of the code's keys and of the document's items -/
theorem range_x {L : List ItT} {f : Key → Option Chn} {q : Int} {K : List Key} (h : Tells L (gAt f q)) (hK : Dm f K) (hne : ∀ k ∈ K, k ≠ []) (p a : ByteArray) :
    (((srt K).filter (kpr p.data.toList a.data.toList)).takeWhile (pfx p.data.toList)).filterMap (itm f q) = L.filter fun x => inB p a x.1 := by
  have hs := (srt_lt hK.1).filter (kpr p.data.toList a.data.toList)
  rw [tw_filter hs (fun k hk => (kpr_iff.1 (List.mem_filter.1 hk).2).1)]
  have hs2 := hs.filter (pfx p.data.toList)
  have hit : ∀ k x, itm f q k = some x → kyI x = k ∧ gAt f q k = some (x.2.1, x.2.2) := fun k x hx => by
    unfold itm at hx
    unfold gAt
    by_cases hb : atB (vrs f k) q = true
    · rw [if_pos hb] at hx
      injection hx with hx
      rw [if_pos hb, ← hx]
      exact ⟨rfl, rfl⟩
    · rw [if_neg hb] at hx; cases hx
  refine Tells.ext (g := fun k => if inB p a (bk k) = true then gAt f q k else none) ⟨?_, fun x => ?_⟩ ⟨h.so.filter _, fun x => ?_⟩
  · rw [List.pairwise_filterMap]
    refine hs2.imp (fun {k k'} hk x hx y hy => ?_)
    rw [(hit k x hx).1, (hit k' y hy).1]
    exact hk
  · rw [List.mem_filterMap]
    have hbx : bk (kyI x) = x.1 := bk_eta x.1
    constructor
    · rintro ⟨k, hk, hx⟩
      obtain ⟨e1, e2⟩ := hit k x hx
      rw [List.mem_filter, List.mem_filter] at hk
      obtain ⟨⟨_, k1⟩, k2⟩ := hk
      have hin : inB p a (bk (kyI x)) = true := by
        rw [e1]
        unfold inB
        rw [Bool.and_eq_true, Bool.or_eq_true]
        exact ⟨k2, .inr ((gt_iff _ _).2 (kpr_iff.1 k1).2)⟩
      show (if inB p a (bk (kyI x)) = true then gAt f q (kyI x) else none) = _
      rw [if_pos hin, e1]; exact e2
    · intro hx
      have hx : (if inB p a (bk (kyI x)) = true then gAt f q (kyI x) else none) = some (x.2.1, x.2.2) := hx
      by_cases hin : inB p a (bk (kyI x)) = true
      · rw [if_pos hin] at hx
        have hat : atB (vrs f (kyI x)) q = true := by
          unfold gAt at hx
          by_cases hb : atB (vrs f (kyI x)) q = true
          · exact hb
          · rw [if_neg hb] at hx; cases hx
        have hkK : kyI x ∈ K := by
          have := hK.2 (kyI x)
          cases hf : f (kyI x) with
          | none =>
            rw [vrs_none hf] at hat
            cases hat
          | some y =>
            rw [hf] at this
            exact of_decide_eq_true this.symm
        unfold inB at hin
        rw [Bool.and_eq_true, Bool.or_eq_true] at hin
        obtain ⟨i1, i2⟩ := hin
        have hpk : ¬ kyI x < p.data.toList := by
          obtain ⟨t, e⟩ := pfx_iff.1 i1
          have e : kyI x = p.data.toList ++ t := e
          rw [e]; exact not_lt_pre _ _
        have hak : a.data.toList < kyI x := by
          rcases i2 with i2 | i2
          · have : a.data.toList = [] := by
              rw [Lib.toList_data] at i2
              cases hd : a.data.toList with
              | nil => rfl
              | cons _ _ => rw [hd] at i2; cases i2
            rw [this]
            cases hd : kyI x with
            | nil => exact absurd hd (hne _ hkK)
            | cons b t => exact List.nil_lt_cons b t
          · exact (gt_iff _ _).1 i2
        refine ⟨kyI x, List.mem_filter.2 ⟨List.mem_filter.2 ⟨srt_mem.2 hkK, kpr_iff.2 ⟨hpk, hak⟩⟩, i1⟩, ?_⟩
        unfold gAt at hx
        rw [if_pos hat] at hx
        injection hx with hx
        injection hx with e1 e2
        unfold itm
        rw [if_pos hat, hbx, e1, e2]
      · rw [if_neg hin] at hx; cases hx
  · rw [List.mem_filter, h.el]
    have hbx : bk (kyI x) = x.1 := bk_eta x.1
    show _ ↔ (if inB p a (bk (kyI x)) = true then gAt f q (kyI x) else none) = _
    rw [hbx]
    constructor
    · rintro ⟨h1, h2⟩
      rw [if_pos h2]; exact h1
    · intro hx
      by_cases hin : inB p a x.1 = true
      · rw [if_pos hin] at hx; exact ⟨hx, hin⟩
      · rw [if_neg hin] at hx; cases hx
theorem range_eq {A : List (List ItT)} {f : Key → Option Chn} {rev fl : Int} {K : List Key} (hA : revA A = rev) (hT : ∀ r : Nat, fl ≤ r → (r : Int) ≤ rev → Tells (A.getD r []) (gAt f r)) (hf : 0 ≤ fl) (hK : Dm f K) (hne : ∀ k ∈ K, k ≠ []) (p a : ByteArray) (n q : Int) : rgV f rev fl K p a n q = rgW A fl p a n q := by
  unfold rgV rgW
  rw [hA]
  by_cases hr : refE rev fl q ≠ 0
  · rw [if_pos hr, if_pos hr]
  · rw [if_neg hr, if_neg hr]
    have hr : refE rev fl q = 0 := Classical.byContradiction hr
    have hq : 0 ≤ q ∧ q ≤ rev ∧ fl ≤ q := by
      unfold refE at hr
      split at hr
      · omega
      · split at hr
        · omega
        · omega
    have hT := hT q.toNat (by omega) (by omega)
    rw [show ((q.toNat : Nat) : Int) = q by omega] at hT
    have := range_x hT hK hne p a
    rw [rgL_pg, rgD_pg, this]
end Go.Proofs.Ytjceofkcahfhmaa.Mv
namespace Go.Proofs.Ytjceofkcahfhmaa.Mv
open Go.RowKit Go.Lib Go.Maps Go.Shelf Go.Sort
open Go.Proofs.Ytjceofkcahfhmaa.Cn
set_option linter.unusedSimpArgs false
set_option linter.unusedVariables false

theorem seen_of_nodup : ∀ (l : List ChT) (s : List Key), (keysL l).Nodup → (∀ k ∈ keysL l, k ∉ s) → (l.foldl (fun s x => s.insert x.1.data.toList) s).length = s.length + l.length := by
  intro l
  induction l with
  | nil => intro s _ _; rfl
  | cons x l ih =>
    intro s hn hs
    have hn' : x.1.data.toList ∉ keysL l ∧ (keysL l).Nodup := List.nodup_cons.1 hn
    have hxs : x.1.data.toList ∉ s := hs _ (List.mem_cons_self ..)
    rw [List.foldl_cons, List.insert_of_not_mem hxs, ih _ hn'.2]
    · simp only [List.length_cons]; omega
    · intro k hk hks
      rcases List.mem_cons.1 hks with e | e
      · subst e; exact hn'.1 hk
      · exact hs k (List.mem_cons_of_mem _ hk) e
theorem seen_iff (l : List ChT) : (seenL l).length = l.length ↔ (keysL l).Nodup := by
  constructor
  · intro h
    exact (seen_nodup_aux l [] List.nodup_nil (by simpa [seenL] using h)).1
  · intro h
    have := seen_of_nodup l [] h (fun k _ hk => by cases hk)
    simpa [seenL] using this
theorem any_eq {pre : List ChT} {k : ByteArray} : pre.any (eqK k) = decide (k.data.toList ∈ keysL pre) := by
  rw [Bool.eq_iff_iff, decide_eq_true_iff, List.any_eq_true]
  unfold keysL
  rw [List.mem_map]
  constructor
  · rintro ⟨o, h1, h2⟩
    exact ⟨o, h1, (eq_iff _ _).1 h2⟩
  · rintro ⟨o, h1, h2⟩
    exact ⟨o, h1, (eq_iff _ _).2 h2⟩
theorem good_iff {L : List ItT} {f : Key → Option Chn} {rev : Int} (h : Tells L (gAt f rev)) : ∀ (l pre : List ChT), goodD L pre l = true ↔ l.all (okC f rev) = true ∧ (keysL l).Nodup ∧ ∀ k ∈ keysL l, k ∉ keysL pre := by
  intro l
  induction l with
  | nil => intro pre; exact ⟨fun _ => ⟨rfl, List.nodup_nil, fun k hk => by cases hk⟩, fun _ => rfl⟩
  | cons c l ih =>
    intro pre
    have e : goodD L pre (c :: l) = (!(pre.any (eqK c.1)) && (!(c.1.toList.isEmpty || (c.2.2 && !(fndV L c.1).2)) && goodD L (pre ++ [c]) l)) := rfl
    have hok : (!(c.1.toList.isEmpty || (c.2.2 && !(fndV L c.1).2))) = okC f rev c := by
      unfold okC
      rw [fnd_has h, Lib.toList_data]
      cases c.1.data.toList <;> cases c.2.2 <;> cases atB (vrs f _) rev <;> rfl
    rw [e, hok, Bool.and_eq_true, Bool.and_eq_true, ih, any_eq, List.all_cons, Bool.and_eq_true]
    have hk : keysL (c :: l) = c.1.data.toList :: keysL l := rfl
    have hpk : keysL (pre ++ [c]) = keysL pre ++ [c.1.data.toList] := by unfold keysL; rw [List.map_append]; rfl
    rw [hk, hpk, List.nodup_cons]
    simp only [Bool.not_eq_true', decide_eq_false_iff_not, List.mem_append, List.mem_singleton, List.mem_cons]
    constructor
    · rintro ⟨h1, h2, h3, h4, h5⟩
      refine ⟨⟨h2, h3⟩, ⟨fun hm => h5 _ hm (.inr (.inl rfl)), h4⟩, ?_⟩
      rintro k (rfl | hk)
      · exact h1
      · exact fun hp => h5 k hk (.inl hp)
    · rintro ⟨⟨h2, h3⟩, ⟨h4, h4'⟩, h5⟩
      refine ⟨h5 _ (.inl rfl), h2, h3, h4', ?_⟩
      rintro k hk (hp | hp)
      · exact h5 k (.inr hk) hp
      · rcases hp with rfl | hp
        · exact h4 hk
        · cases hp
theorem right_good {L : List ItT} {f : Key → Option Chn} {rev : Int} (h : Tells L (gAt f rev)) (l : List ChT) : rightB f rev l = (goodD L [] l && decide (0 < l.length)) := by
  unfold rightB
  have hg := good_iff h l []
  have hs := seen_iff l
  by_cases h1 : l.all (okC f rev) = true
  · by_cases h2 : (keysL l).Nodup
    · have : goodD L [] l = true := hg.2 ⟨h1, h2, fun k _ hk => by cases hk⟩
      rw [this, h1, decide_eq_true (hs.2 h2)]
      simp
    · have : goodD L [] l = false := by
        rw [Bool.eq_false_iff]
        intro hh
        exact h2 (hg.1 hh).2.1
      rw [this, decide_eq_false (fun hh => h2 (hs.1 hh))]
      simp
  · have : goodD L [] l = false := by
      rw [Bool.eq_false_iff]
      intro hh
      exact h1 (hg.1 hh).1
    rw [this]
    have : l.all (okC f rev) = false := Bool.eq_false_iff.2 h1
    rw [this]; rfl
theorem set_count {l : List ItT} {g : Key → Option (ByteArray × Int)} (h : Tells l g) (c : ChT) (rev : Int) : ((setL l c rev).length : Int) = l.length + (if c.2.2 = true then 0 else 1) - (if (g c.1.data.toList).isSome = true then 1 else 0) := by
  rw [setL_eq h.so]
  have hsp : l.length = (l.filter (ltK c.1.data.toList)).length + (l.filter (fun x => decide (kyI x = c.1.data.toList))).length + (l.filter (gtK c.1.data.toList)).length := by
    have : ∀ l : List ItT, l.length = (l.filter (ltK c.1.data.toList)).length + (l.filter (fun x => decide (kyI x = c.1.data.toList))).length + (l.filter (gtK c.1.data.toList)).length := by
      intro l
      induction l with
      | nil => rfl
      | cons x l ih =>
        by_cases he : kyI x = c.1.data.toList
        · rw [List.filter_cons_of_neg (show ¬ ltK c.1.data.toList x = true by unfold ltK; rw [he]; simp), List.filter_cons_of_neg (show ¬ gtK c.1.data.toList x = true by unfold gtK; rw [he]; simp), List.filter_cons_of_pos (by simpa using he)]
          simp only [List.length_cons]; omega
        · rcases klt_or he with h | h
          · rw [List.filter_cons_of_pos (show ltK c.1.data.toList x = true from decide_eq_true h), List.filter_cons_of_neg (show ¬ gtK c.1.data.toList x = true by unfold gtK; simpa using List.not_lt.1 (List.lt_asymm h)), List.filter_cons_of_neg (by simpa using he)]
            simp only [List.length_cons]; omega
          · rw [List.filter_cons_of_neg (show ¬ ltK c.1.data.toList x = true by unfold ltK; simpa using List.not_lt.1 (List.lt_asymm h)), List.filter_cons_of_pos (show gtK c.1.data.toList x = true from decide_eq_true h), List.filter_cons_of_neg (by simpa using he)]
            simp only [List.length_cons]; omega
    exact this l
  have hm : (l.filter (fun x => decide (kyI x = c.1.data.toList))).length = if (g c.1.data.toList).isSome = true then 1 else 0 := by
    cases hg : g c.1.data.toList with
    | none =>
      rw [if_neg (by simp)]
      have : l.filter (fun x => decide (kyI x = c.1.data.toList)) = [] := by
        rw [List.filter_eq_nil_iff]
        intro x hx he
        have he := of_decide_eq_true he
        have := (h.el x).1 hx
        rw [he, hg] at this; cases this
      rw [this]; rfl
    | some y =>
      rw [if_pos (show (some y).isSome = true from rfl)]
      have : l.filter (fun x => decide (kyI x = c.1.data.toList)) = [(c.1, y.1, y.2)] := by
        refine Tells.ext (g := fun k => if k = c.1.data.toList then some y else none) ⟨h.so.filter _, fun x => ?_⟩ ⟨by simp, fun x => ?_⟩
        · rw [List.mem_filter, h.el, decide_eq_true_iff]
          constructor
          · rintro ⟨h1, h2⟩
            show (if kyI x = c.1.data.toList then some y else none) = _
            rw [if_pos h2, ← hg, ← h2]; exact h1
          · intro hx
            have hx : (if kyI x = c.1.data.toList then some y else none) = some (x.2.1, x.2.2) := hx
            by_cases he : kyI x = c.1.data.toList
            · rw [if_pos he] at hx
              exact ⟨by rw [he, hg]; exact hx, he⟩
            · rw [if_neg he] at hx; cases hx
        · rw [List.mem_singleton]
          show _ ↔ (if kyI x = c.1.data.toList then some y else none) = _
          obtain ⟨x0, x1, x2⟩ := x
          constructor
          · intro e
            injection e with e1 e2
            injection e2 with e2 e3
            rw [if_pos (show kyI (x0, x1, x2) = c.1.data.toList by rw [e1])]
            simp only
            rw [e2, e3]
          · intro hx
            by_cases he : kyI (x0, x1, x2) = c.1.data.toList
            · rw [if_pos he] at hx
              injection hx with hx
              have hx0 : x0 = c.1 := by rw [← bk_eta x0, ← bk_eta c.1]; exact congrArg bk he
              rw [hx0, hx]
            · rw [if_neg he] at hx; cases hx
      rw [this]; rfl
  rw [List.length_append, List.length_append]
  have hmid : (if c.2.2 = true then ([] : List ItT) else [(c.1, c.2.1, rev)]).length = if c.2.2 = true then 0 else 1 := by split <;> rfl
  rw [hmid]
  rw [hm] at hsp
  split <;> split at hsp <;> simp_all <;> omega
theorem kw_next {f : Key → Option Chn} {rev : Int} : ∀ (l : List ChT) {now : List ItT} {g : Key → Option (ByteArray × Int)}, Tells now g → (keysL l).Nodup → (∀ c ∈ l, (g c.1.data.toList).isSome = atB (vrs f c.1.data.toList) rev) → (∀ c ∈ l, c.2.2 = true → atB (vrs f c.1.data.toList) rev = true) → ∀ r : Int, kwL f rev now.length l = ((nextR l r now).length : Nat) := by
  intro l
  induction l with
  | nil => intro now g _ _ _ _ r; rfl
  | cons c l ih =>
    intro now g h hn hg hgo r
    have hn' : c.1.data.toList ∉ keysL l ∧ (keysL l).Nodup := List.nodup_cons.1 hn
    have e1 : kwL f rev now.length (c :: l) = kwL f rev (kwS f rev now.length c) l := rfl
    have e2 : nextR (c :: l) r now = nextR l r (setL now c r) := rfl
    have hc := hg c (List.mem_cons_self ..)
    have hs := set_count h c r
    rw [hc] at hs
    have hk : kwS f rev now.length c = ((setL now c r).length : Nat) := by
      unfold kwS
      rw [hs]
      cases hgn : c.2.2 with
      | true =>
        have := hgo c (List.mem_cons_self ..) hgn
        rw [this]; simp
      | false =>
        cases hb : atB (vrs f c.1.data.toList) rev with
        | true => simp
        | false => simp
    rw [e1, e2, hk]
    refine ih (h.set c r) hn'.2 (fun d hd => ?_) (fun d hd => hgo d (List.mem_cons_of_mem _ hd)) r
    have : d.1.data.toList ≠ c.1.data.toList := fun e => hn'.1 (by rw [← e]; exact List.mem_map.2 ⟨d, hd, rfl⟩)
    unfold updG
    rw [if_neg this]
    exact hg d (List.mem_cons_of_mem _ hd)
theorem gat_some (f : Key → Option Chn) (rev : Int) (k : Key) : (gAt f rev k).isSome = atB (vrs f k) rev := by
  unfold gAt
  cases hb : atB (vrs f k) rev with
  | true => rfl
  | false => rfl
theorem may_eq {A : List (List ItT)} {f : Key → Option Chn} {rev ks l0 l9 : Int} {Cs : List (List Ver)} (hA : revA A = rev) (h : Tells (lastA A) (gAt f rev)) (hks : ks = ((lastA A).length : Nat)) (l : List ChT) : mayE f l0 l9 rev ks (sumC Cs : Nat) l = mayD A (max l0 1) (max l9 1) Cs l := by
  unfold mayE mayD
  rw [right_good h]
  cases hg : goodD (lastA A) [] l with
  | false => rw [if_pos (by rfl), if_pos rfl]
  | true =>
    rw [if_neg (show ¬ true = false by decide)]
    by_cases h0 : l.length = 0
    · rw [if_pos (by rw [decide_eq_false (by omega)]; rfl), if_pos h0]
    · rw [if_neg (by rw [decide_eq_true (by omega)]; decide), if_neg h0]
      obtain ⟨g1, g2, _⟩ := (good_iff h l []).1 hg
      have hk := kw_next (f := f) (rev := rev) l h g2 (fun c _ => gat_some f rev _) (fun c hc hgn => by
        have := List.all_eq_true.1 g1 c hc
        unfold okC at this
        rw [hgn] at this
        simpa using (Bool.and_eq_true _ _ ▸ this : _ ∧ _).2) (rev + 1)
      rw [hks, hk]
      unfold nextL
      rw [hA]
end Go.Proofs.Ytjceofkcahfhmaa.Mv
