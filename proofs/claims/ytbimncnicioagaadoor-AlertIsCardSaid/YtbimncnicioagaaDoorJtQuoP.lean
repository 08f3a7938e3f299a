/- Plain mathematics of JSON's tokens, fifth part: a text in quotes, byte by byte, and that it stands for the text; no program. -/
import Derived.Test.YtbimncnicioagaaDoorJtMb
import Derived.Test.YtbimncnicioagaaDoorNuXa
namespace Go.Proofs.YtbimncnicioagaaDoor.Jt
set_option linter.unusedSimpArgs false
set_option linter.unusedVariables false

/-- a byte as it stands in quotes -/
def quB (c : UInt8) : List UInt8 :=
  if nb c = 34 then [92, 34] else if nb c = 92 then [92, 92] else if nb c = 8 then [92, 98] else if nb c = 12 then [92, 102] else if nb c = 10 then [92, 110] else if nb c = 13 then [92, 114] else if nb c = 9 then [92, 116]
  else if nb c < 32 then [92, 117, 48, 48, Nu.hxd (c.toNat / 16), Nu.hxd (c.toNat % 16)] else [c]
def quL (l : List UInt8) : List UInt8 := l.flatMap quB
def quoL (l : List UInt8) : List UInt8 := 34 :: (quL l ++ [34])
theorem quL_cons (c : UInt8) (l : List UInt8) : quL (c :: l) = quB c ++ quL l := by unfold quL; rw [List.flatMap_cons]
theorem quL_app (a b : List UInt8) : quL (a ++ b) = quL a ++ quL b := by unfold quL; rw [List.flatMap_append]
theorem quB_len (c : UInt8) : 1 ≤ (quB c).length ∧ (quB c).length ≤ 6 := by unfold quB; (repeat' split) <;> simp
theorem quL_len : ∀ l : List UInt8, (quL l).length ≤ 6 * l.length
  | [] => by simp [quL]
  | c :: l => by rw [quL_cons, List.length_append, List.length_cons]; have := quL_len l; have := (quB_len c).2; omega
/-- a byte that stands for itself -/
theorem quB_self {c : UInt8} (h : plnB c = true) : quB c = [c] := by
  unfold plnB at h
  rw [decide_eq_true_eq] at h
  unfold quB
  rw [if_neg (by omega), if_neg (by omega), if_neg (by omega), if_neg (by omega), if_neg (by omega), if_neg (by omega), if_neg (by omega), if_neg (by omega)]
/-- what is asked of a place hangs on what stands from there on -/
theorem cut_suf (l : List UInt8) (k a b : Nat) : cutL (l.drop k) a b = cutL l (k + a) (k + b) := by unfold cutL; rw [List.drop_drop, show k + b - (k + a) = b - a by omega]
theorem hex_suf (l : List UInt8) (k a : Nat) (hk : k ≤ l.length) : hexA (l.drop k) a = hexA l (k + a) := by
  unfold hexA
  rw [List.length_drop, cut_suf, show k + (a + 4) = k + a + 4 by omega]
  by_cases h : l.length - k < a + 4
  · rw [if_pos h, if_pos (show l.length < k + a + 4 by omega)]
  · rw [if_neg h, if_neg (show ¬ l.length < k + a + 4 by omega)]
theorem back_suf (l : List UInt8) (k : Nat) (hk : k ≤ l.length) : backL (l.drop k) 0 = backL l k := by
  unfold backL
  simp only [at0_drop, hex_suf l k _ hk, List.length_drop, Nat.zero_add]
  have e1 : (l.length - k ≤ 1) ↔ (l.length ≤ k + 1) := by omega
  have e2 : (7 < l.length - k) ↔ (k + 7 < l.length) := by omega
  simp only [e1, e2]
theorem unit_suf (l : List UInt8) (k : Nat) (hk : k ≤ l.length) : unitL (l.drop k) 0 = unitL l k := by
  unfold unitL
  have hr : runL (l.drop k) 0 = runL l k := by unfold runL; rw [List.drop_zero]
  rw [back_suf l k hk, at0_drop, hr, cut_suf, Nat.add_zero, Nat.zero_add]
theorem back_2 (x : UInt8) (r : List UInt8) (h : 0 ≤ escI (nb x)) : backL (92 :: x :: r) 0 = ([UInt8.ofNat (escI (nb x)).toNat], 2) := by
  have e : at0 (92 :: x :: r) 1 = nb x := rfl
  unfold backL
  rw [Nat.zero_add, if_neg (by simp), e, if_pos h]
theorem back_6 (a b c d : UInt8) (r : List UInt8) (v : Int) (hE : Nu.rdE 16 2147483647 [a, b, c, d] = 0) (hN : Nu.rdN 16 2147483647 [a, b, c, d] = v) (h0 : 0 ≤ v) (h1 : v < 55296) (hr : Ut.isR v = true) : backL (92 :: 117 :: a :: b :: c :: d :: r) 0 = (bl (Ut.putI v), 6) := by
  have e : at0 (92 :: 117 :: a :: b :: c :: d :: r) 1 = 117 := rfl
  have hx : hexA (92 :: 117 :: a :: b :: c :: d :: r) 2 = v := by
    have ec : cutL (92 :: 117 :: a :: b :: c :: d :: r) 2 (2 + 4) = [a, b, c, d] := rfl
    unfold hexA
    rw [if_neg (by simp), ec, hE, if_pos rfl, hN]
  unfold backL
  rw [Nat.zero_add, if_neg (by simp), e, if_neg (by decide)]
  simp only [Nat.zero_add, hx]
  rw [if_neg (by rintro (g | g); exact g rfl; omega), if_neg (fun g => by omega), if_pos hr]
theorem low_hex : ∀ n : Fin 32, Nu.rdE 16 2147483647 [48, 48, Nu.hxd (n.val / 16), Nu.hxd (n.val % 16)] = 0 ∧ Nu.rdN 16 2147483647 [48, 48, Nu.hxd (n.val / 16), Nu.hxd (n.val % 16)] = (n.val : Int) ∧ Ut.isR (n.val : Int) = true ∧ bl (Ut.putI (n.val : Int)) = [UInt8.ofNat n.val] := by decide +kernel
theorem esc_back : ∀ n : Fin 7, 0 ≤ escI (nb ([34, 92, 98, 102, 110, 114, 116].getD n.val 0)) := by decide +kernel
/-- a byte that does not stand for itself is read back -/
theorem quB_back {c : UInt8} (h : plnB c = false) (r : List UInt8) : unitL (quB c ++ r) 0 = ([c], (quB c).length) := by
  unfold plnB at h
  rw [decide_eq_false_iff_not] at h
  have hc : UInt8.ofNat c.toNat = c := by simp
  have e92 : ∀ (x : UInt8) (r : List UInt8), unitL (92 :: x :: r) 0 = backL (92 :: x :: r) 0 := fun x r => by
    have : at0 (92 :: x :: r) 0 = 92 := rfl
    unfold unitL; rw [if_neg (by rw [this]; decide), if_neg (by rw [this]; decide)]
  unfold quB
  by_cases h1 : nb c = 34
  · rw [if_pos h1]
    show unitL (92 :: 34 :: r) 0 = _
    rw [e92, back_2 34 r (by decide)]
    have : c = 34 := nb_inj (by rw [h1]; rfl)
    subst this; rfl
  rw [if_neg h1]
  by_cases h2 : nb c = 92
  · rw [if_pos h2]
    show unitL (92 :: 92 :: r) 0 = _
    rw [e92, back_2 92 r (by decide)]
    have : c = 92 := nb_inj (by rw [h2]; rfl)
    subst this; rfl
  rw [if_neg h2]
  by_cases h3 : nb c = 8
  · rw [if_pos h3]
    show unitL (92 :: 98 :: r) 0 = _
    rw [e92, back_2 98 r (by decide)]
    have : c = 8 := nb_inj (by rw [h3]; rfl)
    subst this; rfl
  rw [if_neg h3]
  by_cases h4 : nb c = 12
  · rw [if_pos h4]
    show unitL (92 :: 102 :: r) 0 = _
    rw [e92, back_2 102 r (by decide)]
    have : c = 12 := nb_inj (by rw [h4]; rfl)
    subst this; rfl
  rw [if_neg h4]
  by_cases h5 : nb c = 10
  · rw [if_pos h5]
    show unitL (92 :: 110 :: r) 0 = _
    rw [e92, back_2 110 r (by decide)]
    have : c = 10 := nb_inj (by rw [h5]; rfl)
    subst this; rfl
  rw [if_neg h5]
  by_cases h6 : nb c = 13
  · rw [if_pos h6]
    show unitL (92 :: 114 :: r) 0 = _
    rw [e92, back_2 114 r (by decide)]
    have : c = 13 := nb_inj (by rw [h6]; rfl)
    subst this; rfl
  rw [if_neg h6]
  by_cases h7 : nb c = 9
  · rw [if_pos h7]
    show unitL (92 :: 116 :: r) 0 = _
    rw [e92, back_2 116 r (by decide)]
    have : c = 9 := nb_inj (by rw [h7]; rfl)
    subst this; rfl
  rw [if_neg h7]
  have h8 : nb c < 32 := by omega
  rw [if_pos h8]
  have hn : c.toNat < 32 := by unfold nb at h8; omega
  obtain ⟨a1, a2, a3, a4⟩ := low_hex ⟨c.toNat, hn⟩
  simp only at a1 a2 a3 a4
  show unitL (92 :: 117 :: 48 :: 48 :: Nu.hxd (c.toNat / 16) :: Nu.hxd (c.toNat % 16) :: r) 0 = _
  rw [e92, back_6 48 48 _ _ r _ a1 a2 (by omega) (by omega) a3, a4, hc]
  rfl
/-- runes, one behind the other -/
def vs : Nat → List UInt8 → Bool
  | 0, l => l.isEmpty
  | f + 1, l => if l = [] then true else if runL l 0 = 0 then false else vs f (l.drop (runL l 0))
theorem vs_nil (f : Nat) : vs f [] = true := by cases f <;> rfl
theorem walk_vs (l : List UInt8) : ∀ (f n p : Nat), p ≤ l.length → (Ut.walkP (nl l) f n p).2 = l.length → vs f (l.drop p) = true
  | 0, n, p, hp, h => by
    have : p = l.length := h
    rw [this, List.drop_length]; rfl
  | f + 1, n, p, hp, h => by
    have hr : runL (l.drop p) 0 = (Ut.nextW ((nl l).drop p)).2.toNat := by unfold runL; rw [List.drop_zero, nl_drop]
    unfold Ut.walkP at h
    by_cases hc : p < (nl l).length ∧ 0 < (Ut.nextW ((nl l).drop p)).2
    · rw [if_pos hc] at h
      have hb := (Ut.nextW_k ((nl l).drop p)).1
      rw [List.length_drop] at hb
      rw [nl_len] at hc hb
      have := walk_vs l f (n + 1) (p + (Ut.nextW ((nl l).drop p)).2.toNat) (by omega) h
      unfold vs
      rw [if_neg (fun e => by have := congrArg List.length e; rw [List.length_drop, List.length_nil] at this; omega), hr, if_neg (by omega), List.drop_drop]
      exact this
    · rw [if_neg hc] at h
      have : p = l.length := h
      rw [this, List.drop_length]; rfl
theorem vld_vs {l : List UInt8} (h : vldB l = true) : vs l.length l = true := by
  have h1 := of_decide_eq_true h
  unfold Ut.walkL at h1
  rw [nl_len] at h1
  have := walk_vs l l.length 0 0 (by omega) h1
  rwa [List.drop_zero] at this
theorem qu_self : ∀ l : List UInt8, (∀ c ∈ l, plnB c = true) → quL l = l
  | [], _ => rfl
  | c :: l, h => by rw [quL_cons, quB_self (h c List.mem_cons_self), qu_self l (fun x hx => h x (List.mem_cons_of_mem _ hx))]; rfl
theorem run_z {l : List UInt8} (h : l ≠ []) : runL l 0 = if Ut.szI (at0 l 0) ≤ l.length ∧ Ut.okTo (nl l) (Ut.szI (at0 l 0)) then Ut.szI (at0 l 0) else 0 := by
  unfold runL
  rw [List.drop_zero, run_zs (fun e => h (List.length_eq_zero_iff.1 (by rw [← nl_len, e]; rfl))), gd_nl, nl_len]
theorem at0_app {a b : List UInt8} {j : Nat} (h : j < a.length) : at0 (a ++ b) j = at0 a j := by
  unfold at0; rw [List.getD_eq_getElem?_getD, List.getD_eq_getElem?_getD, List.getElem?_append_left h]
theorem at0_take {l : List UInt8} {k j : Nat} (h : j < k) : at0 (l.take k) j = at0 l j := by
  unfold at0; rw [List.getD_eq_getElem?_getD, List.getD_eq_getElem?_getD, List.getElem?_take_of_lt h]
/-- the rune at the beginning, whatever stands behind it -/
theorem run_app {l r : List UInt8} (h : runL l 0 ≠ 0) : runL (l.take (runL l 0) ++ r) 0 = runL l 0 := by
  have hne : l ≠ [] := fun e => by subst e; exact h rfl
  have hz := run_z hne
  by_cases hc : Ut.szI (at0 l 0) ≤ l.length ∧ Ut.okTo (nl l) (Ut.szI (at0 l 0))
  · rw [if_pos hc] at hz
    have hk : 1 ≤ runL l 0 := by omega
    have hl : (l.take (runL l 0)).length = runL l 0 := by rw [List.length_take]; omega
    have hg : ∀ j, j < runL l 0 → at0 (l.take (runL l 0) ++ r) j = at0 l j := fun j hj => by rw [at0_app (by omega), at0_take hj]
    have hne2 : l.take (runL l 0) ++ r ≠ [] := fun e => by have := congrArg List.length e; rw [List.length_append, hl, List.length_nil] at this; omega
    have hz2 := run_z hne2
    rw [hg 0 (by omega), ← hz, if_pos ⟨by rw [List.length_append, hl]; omega, fun j hj h1 => by
      have := hc.2 j (by omega) h1
      exact (okAt_cong (by rw [gd_nl, gd_nl, hg 0 (by omega)]) (by rw [gd_nl, gd_nl, hg j hj])).1 this⟩] at hz2
    exact hz2
  · rw [if_neg hc] at hz; exact absurd hz h
theorem run_pln {l : List UInt8} (h : runL l 0 ≠ 0) (hp : plnB (l.getD 0 0) = true) : ∀ c ∈ l.take (runL l 0), plnB c = true := by
  intro c hc
  have hne : l ≠ [] := fun e => by subst e; exact h rfl
  have hz := run_z hne
  by_cases hcd : Ut.szI (at0 l 0) ≤ l.length ∧ Ut.okTo (nl l) (Ut.szI (at0 l 0))
  · rw [if_pos hcd] at hz
    obtain ⟨j, hj, rfl⟩ := List.getElem_of_mem hc
    rw [List.length_take] at hj
    rw [List.getElem_take]
    by_cases h0 : j = 0
    · subst h0
      rw [List.getD_eq_getElem?_getD, List.getElem?_eq_getElem (by omega)] at hp
      exact hp
    · have := okAt_hi (hcd.2 j (by omega) (by omega))
      rw [gd_nl, at0_get (by omega)] at this
      exact hi_pln this
  · rw [if_neg hcd] at hz; exact absurd hz h
theorem run_low {l : List UInt8} (h : runL l 0 ≠ 0) (hp : plnB (l.getD 0 0) = false) : runL l 0 = 1 := by
  have hne : l ≠ [] := fun e => by subst e; exact h rfl
  have hz := run_z hne
  by_cases hcd : Ut.szI (at0 l 0) ≤ l.length ∧ Ut.okTo (nl l) (Ut.szI (at0 l 0))
  · rw [if_pos hcd] at hz
    have hlt : at0 l 0 < 128 := by
      rcases Int.lt_or_le (at0 l 0) 128 with g | g
      · exact g
      · unfold at0 at g; rw [hi_pln g] at hp; cases hp
    rw [hz]; unfold Ut.szI; rw [if_pos (by omega)]
  · rw [if_neg hcd] at hz; exact absurd hz h
theorem drop_of_app {Q a b : List UInt8} {p : Nat} (h : Q.drop p = a ++ b) : Q.drop (p + a.length) = b := by
  rw [← List.drop_drop, h, List.drop_left]
/-- what stands in quotes is read as the text -/
theorem quo_text (Q : List UInt8) : ∀ (f : Nat) (suf : List UInt8) (p : Nat), p ≤ Q.length → vs f suf = true → Q.drop p = quL suf ++ [34] → textA Q p = some (suf, Q.length) := by
  intro f
  induction f with
  | zero =>
    intro suf p hp hv hd
    have : suf = [] := by cases suf with | nil => rfl | cons => cases hv
    subst this
    have hl := congrArg List.length hd
    rw [List.length_drop] at hl
    simp [quL] at hl
    have h0 : at0 Q p = 34 := by have := at0_drop Q p 0; rw [hd] at this; rw [Nat.add_zero] at this; rw [← this]; rfl
    rw [text_quote (by omega) h0, show p + 1 = Q.length by omega]
  | succ f ih =>
    intro suf p hp hv hd
    by_cases hs : suf = []
    · subst hs
      have hl := congrArg List.length hd
      rw [List.length_drop] at hl
      simp [quL] at hl
      have h0 : at0 Q p = 34 := by have := at0_drop Q p 0; rw [hd] at this; rw [Nat.add_zero] at this; rw [← this]; rfl
      rw [text_quote (by omega) h0, show p + 1 = Q.length by omega]
    · unfold vs at hv
      rw [if_neg hs] at hv
      by_cases hr : runL suf 0 = 0
      · rw [if_pos hr] at hv; cases hv
      · rw [if_neg hr] at hv
        obtain ⟨c, suf', rfl⟩ : ∃ c suf', suf = c :: suf' := by cases suf with | nil => exact absurd rfl hs | cons a b => exact ⟨a, b, rfl⟩
        have hlQ : p < Q.length := by
          have hl := congrArg List.length hd
          rw [List.length_drop, List.length_append] at hl
          simp at hl
          omega
        cases hpl : plnB c with
        | false =>
          have hr1 := run_low hr hpl
          rw [hr1] at hv
          have hv' : vs f suf' = true := hv
          rw [quL_cons, List.append_assoc] at hd
          have hu : unitL Q p = ([c], (quB c).length) := by rw [← unit_suf Q p hp, hd]; exact quB_back hpl _
          have h34 : at0 Q p ≠ 34 := by
            intro g
            unfold unitL at hu
            rw [if_pos (.inr g)] at hu
            have := congrArg Prod.snd hu
            have h2 := (quB_len c).1
            simp at this
            rw [← this] at h2
            simp at h2
          have hq1 := (quB_len c).1
          have hdd := drop_of_app hd
          have hle : p + (quB c).length ≤ Q.length := by
            have hl := congrArg List.length hd
            rw [List.length_drop, List.length_append] at hl
            omega
          rw [text_step hlQ h34 (by rw [hu]; show (quB c).length ≠ 0; omega), hu]
          show (textA Q (p + (quB c).length)).map _ = _
          rw [ih suf' _ hle hv' hdd]
          rfl
        | true =>
          have hall := run_pln (l := c :: suf') hr hpl
          have hsp : quL (c :: suf') = (c :: suf').take (runL (c :: suf') 0) ++ quL ((c :: suf').drop (runL (c :: suf') 0)) := by
            conv => lhs; rw [← List.take_append_drop (runL (c :: suf') 0) (c :: suf')]
            rw [quL_app, qu_self _ hall]
          rw [hsp, List.append_assoc] at hd
          have hlen : ((c :: suf').take (runL (c :: suf') 0)).length = runL (c :: suf') 0 := by
            rw [List.length_take]
            have hz := run_z hs
            by_cases hcd : Ut.szI (at0 (c :: suf') 0) ≤ (c :: suf').length ∧ Ut.okTo (nl (c :: suf')) (Ut.szI (at0 (c :: suf') 0))
            · rw [if_pos hcd] at hz; omega
            · rw [if_neg hcd] at hz; exact absurd hz hr
          have hrun : runL Q p = runL (c :: suf') 0 := by
            have e : runL Q p = runL (Q.drop p) 0 := by unfold runL; rw [List.drop_zero]
            rw [e, hd]; exact run_app hr
          have h0 : at0 Q p = nb c := by
            have := at0_drop Q p 0
            rw [hd, Nat.add_zero] at this
            rw [← this, at0_app (by rw [hlen]; omega), at0_take (by omega)]; rfl
          unfold plnB at hpl
          rw [decide_eq_true_eq] at hpl
          have hcut : cutL Q p (p + runL Q p) = (c :: suf').take (runL (c :: suf') 0) := by
            unfold cutL
            rw [hd, hrun, show p + runL (c :: suf') 0 - p = runL (c :: suf') 0 by omega, List.take_left' hlen]
          have hu : unitL Q p = ((c :: suf').take (runL (c :: suf') 0), runL (c :: suf') 0) := by
            unfold unitL
            rw [if_neg (by omega), if_pos (by omega), hcut, hrun, if_neg hr]
          have hdd := drop_of_app hd
          rw [hlen] at hdd
          have hle : p + runL (c :: suf') 0 ≤ Q.length := by
            have hl := congrArg List.length hd
            rw [List.length_drop, List.length_append, hlen] at hl
            omega
          rw [text_step hlQ (by omega) (by rw [hu]; exact hr), hu]
          show (textA Q (p + runL (c :: suf') 0)).map _ = _
          rw [ih _ _ hle hv hdd]
          show some ((c :: suf').take (runL (c :: suf') 0) ++ (c :: suf').drop (runL (c :: suf') 0), Q.length) = _
          rw [List.take_append_drop]
theorem unq_quo {l : List UInt8} (h : vldB l = true) : unqL (quoL l) = some l := by
  have ht := quo_text (quoL l) l.length l 1 (by unfold quoL; simp) (vld_vs h) rfl
  unfold unqL
  rw [if_pos ⟨by unfold quoL; simp, rfl⟩, ht]
  show (if (quoL l).length = (quoL l).length then some l else none) = some l
  rw [if_pos rfl]
end Go.Proofs.YtbimncnicioagaaDoor.Jt
