/- Contracts and plain mathematics of some packages' functions, laid together; conditions as each one says. -/
import Derived.Test.YtcknlnphgndaoaaGreatDoorJtPub
import Derived.Test.YtcknlnphgndaoaaGreatDoorNuXa
import Derived.Test.YtcknlnphgndaoaaGreatDoorJtBa
namespace Go.Proofs.YtcknlnphgndaoaaGreatDoor.Jt
open Go.RowKit
set_option linter.unusedSimpArgs false
set_option linter.unusedVariables false

/-- what a text in quotes stands for -/
def unqL (l : List UInt8) : Option (List UInt8) :=
  if 0 < l.length ∧ at0 l 0 = 34 then (match textA l 1 with | none => none | some r => if r.2 = l.length then some r.1 else none) else none
theorem unq_tok {l t : List UInt8} (h : unqL l = some t) : tokA l 0 = (⟨7, 0, l.length, t, 0⟩, 0) := by
  unfold unqL at h
  by_cases hc : 0 < l.length ∧ at0 l 0 = 34
  · rw [if_pos hc] at h
    have hb : endP blkB l 0 = 0 := endP_no hc.1 (by
      unfold blkB
      rw [← at0_get hc.1, hc.2]; decide)
    rw [tokA_at hb hc.1]
    unfold tokP
    rw [hc.2, if_neg (by decide), if_pos rfl]
    cases hx : textA l 1 with
    | none => rw [hx] at h; cases h
    | some r =>
      rw [hx] at h
      simp only at h
      by_cases hr : r.2 = l.length
      · rw [if_pos hr] at h
        injection h with h
        show ((⟨7, 0, r.2, r.1, 0⟩ : Tok), (0 : Int)) = _
        rw [hr, h]
      · rw [if_neg hr] at h; cases h
  · rw [if_neg hc] at h; cases h
theorem wrdK_7 (l : List UInt8) : wrdK l ≠ 7 := by unfold wrdK; (repeat' split) <;> omega
theorem sgnI_7 (c : Int) : sgnI c ≠ 7 := by unfold sgnI; (repeat' split) <;> omega
theorem tok_unq {l t : List UInt8} {n : Int} {b : Nat} (hb : b = l.length) (h : tokA l 0 = (⟨7, 0, b, t, n⟩, 0)) : unqL l = some t := by
  unfold tokA at h
  by_cases hp : l.length ≤ endP blkB l 0
  · rw [if_pos hp] at h; cases h
  · rw [if_neg hp] at h
    unfold tokP at h
    by_cases h1 : sgnI (at0 l (endP blkB l 0)) ≠ 0
    · rw [if_pos h1] at h
      simp only [Prod.mk.injEq, Tok.mk.injEq] at h
      exact absurd h.1.1 (sgnI_7 _)
    · rw [if_neg h1] at h
      by_cases h2 : at0 l (endP blkB l 0) = 34
      · rw [if_pos h2] at h
        cases hx : textA l (endP blkB l 0 + 1) with
        | none => rw [hx] at h; cases h
        | some r =>
          rw [hx] at h
          simp only [Prod.mk.injEq, Tok.mk.injEq] at h
          obtain ⟨⟨_, e0, e1, e2, _⟩, _⟩ := h
          rw [e0] at h2 hx hp
          unfold unqL
          rw [if_pos ⟨by omega, h2⟩, hx]
          show (if r.2 = l.length then some r.1 else none) = some t
          rw [if_pos (by omega), e2]
      · rw [if_neg h2] at h
        by_cases h3 : at0 l (endP blkB l 0) = 45 ∨ Ch.digB (at0 l (endP blkB l 0)) = true
        · rw [if_pos h3] at h
          split at h
          · simp only [Prod.mk.injEq, Tok.mk.injEq] at h; omega
          · unfold zT at h; simp only [Prod.mk.injEq, Tok.mk.injEq] at h; omega
        · rw [if_neg h3] at h
          split at h
          · unfold zT at h; simp only [Prod.mk.injEq, Tok.mk.injEq] at h; omega
          · simp only [Prod.mk.injEq, Tok.mk.injEq] at h; exact absurd h.1.1 (wrdK_7 _)
def unqV (o : Option (List UInt8)) : Ending := match o with | none => .returned (.tuple #[.string ⟨#[]⟩, .int .i64 3]) | some t => .returned (.tuple #[.string (mkS t), .int .i64 0])
theorem neqFlt (a e : Int) : ∀ W : World, (binOp .neq 54 (.iface 96 (.agg #[.int .i64 a, .int .i64 e])) .nilIface).run Tryz.prog W = .ok (.bool true) W := fun _ => by kernel_rfl
theorem neqNil : ∀ W : World, (binOp .neq 54 .nilIface .nilIface).run Tryz.prog W = .ok (.bool false) W := fun _ => by kernel_rfl
end Go.Proofs.YtcknlnphgndaoaaGreatDoor.Jt
namespace Go.Proofs.YtcknlnphgndaoaaGreatDoor.Jt
set_option linter.unusedSimpArgs false
set_option linter.unusedVariables false

/-- a byte as it stands in quotes -/
def quB (c : UInt8) : List UInt8 :=
  if nb c = 34 then [92, 34] else if nb c = 92 then [92, 92] else if nb c = 8 then [92, 98] else if nb c = 12 then [92, 102] else if nb c = 10 then [92, 110] else if nb c = 13 then [92, 114] else if nb c = 9 then [92, 116]
  else if nb c < 32 then [92, 117, 48, 48, Nu.hxd (c.toNat / 16), Nu.hxd (c.toNat % 16)] else [c]
def quL (l : List UInt8) : List UInt8 := l.flatMap quB
def quoL (l : List UInt8) : List UInt8 := 34 :: (quL l ++ [34])
theorem quL_cons (c : UInt8) (l : List UInt8) : quL (c :: l) = quB c ++ quL l := by unfold quL; rw [List.flatMap_cons]
theorem quL_app (a b : List UInt8) : quL (a ++ b) = quL a ++ quL b := by unfold quL; rw [List.flatMap_append]
theorem quB_len (c : UInt8) : 1 ≤ (quB c).length ∧ (quB c).length ≤ 6 := by unfold quB; (repeat' split) <;> simp
theorem quL_len : ∀ l : List UInt8, (quL l).length ≤ 6 * l.length
  | [] => by simp [quL]
  | c :: l => by rw [quL_cons, List.length_append, List.length_cons]; have := quL_len l; have := (quB_len c).2; omega
/-- a byte that stands for itself -/
theorem quB_self {c : UInt8} (h : plnB c = true) : quB c = [c] := by
  unfold plnB at h
  rw [decide_eq_true_eq] at h
  unfold quB
  rw [if_neg (by omega), if_neg (by omega), if_neg (by omega), if_neg (by omega), if_neg (by omega), if_neg (by omega), if_neg (by omega), if_neg (by omega)]
/-- what is asked of a place hangs on what stands from there on -/
theorem cut_suf (l : List UInt8) (k a b : Nat) : cutL (l.drop k) a b = cutL l (k + a) (k + b) := by unfold cutL; rw [List.drop_drop, show k + b - (k + a) = b - a by omega]
theorem hex_suf (l : List UInt8) (k a : Nat) (hk : k ≤ l.length) : hexA (l.drop k) a = hexA l (k + a) := by
  unfold hexA
  rw [List.length_drop, cut_suf, show k + (a + 4) = k + a + 4 by omega]
  by_cases h : l.length - k < a + 4
  · rw [if_pos h, if_pos (show l.length < k + a + 4 by omega)]
  · rw [if_neg h, if_neg (show ¬ l.length < k + a + 4 by omega)]
theorem back_suf (l : List UInt8) (k : Nat) (hk : k ≤ l.length) : backL (l.drop k) 0 = backL l k := by
  unfold backL
  simp only [at0_drop, hex_suf l k _ hk, List.length_drop, Nat.zero_add]
  have e1 : (l.length - k ≤ 1) ↔ (l.length ≤ k + 1) := by omega
  have e2 : (7 < l.length - k) ↔ (k + 7 < l.length) := by omega
  simp only [e1, e2]
theorem unit_suf (l : List UInt8) (k : Nat) (hk : k ≤ l.length) : unitL (l.drop k) 0 = unitL l k := by
  unfold unitL
  have hr : runL (l.drop k) 0 = runL l k := by unfold runL; rw [List.drop_zero]
  rw [back_suf l k hk, at0_drop, hr, cut_suf, Nat.add_zero, Nat.zero_add]
theorem back_2 (x : UInt8) (r : List UInt8) (h : 0 ≤ escI (nb x)) : backL (92 :: x :: r) 0 = ([UInt8.ofNat (escI (nb x)).toNat], 2) := by
  have e : at0 (92 :: x :: r) 1 = nb x := rfl
  unfold backL
  rw [Nat.zero_add, if_neg (by simp), e, if_pos h]
theorem back_6 (a b c d : UInt8) (r : List UInt8) (v : Int) (hE : Nu.rdE 16 2147483647 [a, b, c, d] = 0) (hN : Nu.rdN 16 2147483647 [a, b, c, d] = v) (h0 : 0 ≤ v) (h1 : v < 55296) (hr : Ut.isR v = true) : backL (92 :: 117 :: a :: b :: c :: d :: r) 0 = (bl (Ut.putI v), 6) := by
  have e : at0 (92 :: 117 :: a :: b :: c :: d :: r) 1 = 117 := rfl
  have hx : hexA (92 :: 117 :: a :: b :: c :: d :: r) 2 = v := by
    have ec : cutL (92 :: 117 :: a :: b :: c :: d :: r) 2 (2 + 4) = [a, b, c, d] := rfl
    unfold hexA
    rw [if_neg (by simp), ec, hE, if_pos rfl, hN]
  unfold backL
  rw [Nat.zero_add, if_neg (by simp), e, if_neg (by decide)]
  simp only [Nat.zero_add, hx]
  rw [if_neg (by rintro (g | g); exact g rfl; omega), if_neg (fun g => by omega), if_pos hr]
theorem low_hex : ∀ n : Fin 32, Nu.rdE 16 2147483647 [48, 48, Nu.hxd (n.val / 16), Nu.hxd (n.val % 16)] = 0 ∧ Nu.rdN 16 2147483647 [48, 48, Nu.hxd (n.val / 16), Nu.hxd (n.val % 16)] = (n.val : Int) ∧ Ut.isR (n.val : Int) = true ∧ bl (Ut.putI (n.val : Int)) = [UInt8.ofNat n.val] := by decide +kernel
theorem esc_back : ∀ n : Fin 7, 0 ≤ escI (nb ([34, 92, 98, 102, 110, 114, 116].getD n.val 0)) := by decide +kernel
/-- a byte that does not stand for itself is read back -/
theorem quB_back {c : UInt8} (h : plnB c = false) (r : List UInt8) : unitL (quB c ++ r) 0 = ([c], (quB c).length) := by
  unfold plnB at h
  rw [decide_eq_false_iff_not] at h
  have hc : UInt8.ofNat c.toNat = c := by simp
  have e92 : ∀ (x : UInt8) (r : List UInt8), unitL (92 :: x :: r) 0 = backL (92 :: x :: r) 0 := fun x r => by
    have : at0 (92 :: x :: r) 0 = 92 := rfl
    unfold unitL; rw [if_neg (by rw [this]; decide), if_neg (by rw [this]; decide)]
  unfold quB
  by_cases h1 : nb c = 34
  · rw [if_pos h1]
    show unitL (92 :: 34 :: r) 0 = _
    rw [e92, back_2 34 r (by decide)]
    have : c = 34 := nb_inj (by rw [h1]; rfl)
    subst this; rfl
  rw [if_neg h1]
  by_cases h2 : nb c = 92
  · rw [if_pos h2]
    show unitL (92 :: 92 :: r) 0 = _
    rw [e92, back_2 92 r (by decide)]
    have : c = 92 := nb_inj (by rw [h2]; rfl)
    subst this; rfl
  rw [if_neg h2]
  by_cases h3 : nb c = 8
  · rw [if_pos h3]
    show unitL (92 :: 98 :: r) 0 = _
    rw [e92, back_2 98 r (by decide)]
    have : c = 8 := nb_inj (by rw [h3]; rfl)
    subst this; rfl
  rw [if_neg h3]
  by_cases h4 : nb c = 12
  · rw [if_pos h4]
    show unitL (92 :: 102 :: r) 0 = _
    rw [e92, back_2 102 r (by decide)]
    have : c = 12 := nb_inj (by rw [h4]; rfl)
    subst this; rfl
  rw [if_neg h4]
  by_cases h5 : nb c = 10
  · rw [if_pos h5]
    show unitL (92 :: 110 :: r) 0 = _
    rw [e92, back_2 110 r (by decide)]
    have : c = 10 := nb_inj (by rw [h5]; rfl)
    subst this; rfl
  rw [if_neg h5]
  by_cases h6 : nb c = 13
  · rw [if_pos h6]
    show unitL (92 :: 114 :: r) 0 = _
    rw [e92, back_2 114 r (by decide)]
    have : c = 13 := nb_inj (by rw [h6]; rfl)
    subst this; rfl
  rw [if_neg h6]
  by_cases h7 : nb c = 9
  · rw [if_pos h7]
    show unitL (92 :: 116 :: r) 0 = _
    rw [e92, back_2 116 r (by decide)]
    have : c = 9 := nb_inj (by rw [h7]; rfl)
    subst this; rfl
  rw [if_neg h7]
  have h8 : nb c < 32 := by omega
  rw [if_pos h8]
  have hn : c.toNat < 32 := by unfold nb at h8; omega
  obtain ⟨a1, a2, a3, a4⟩ := low_hex ⟨c.toNat, hn⟩
  simp only at a1 a2 a3 a4
  show unitL (92 :: 117 :: 48 :: 48 :: Nu.hxd (c.toNat / 16) :: Nu.hxd (c.toNat % 16) :: r) 0 = _
  rw [e92, back_6 48 48 _ _ r _ a1 a2 (by omega) (by omega) a3, a4, hc]
  rfl
/-- runes, one behind the other -/
def vs : Nat → List UInt8 → Bool
  | 0, l => l.isEmpty
  | f + 1, l => if l = [] then true else if runL l 0 = 0 then false else vs f (l.drop (runL l 0))
theorem vs_nil (f : Nat) : vs f [] = true := by cases f <;> rfl
theorem walk_vs (l : List UInt8) : ∀ (f n p : Nat), p ≤ l.length → (Ut.walkP (nl l) f n p).2 = l.length → vs f (l.drop p) = true
  | 0, n, p, hp, h => by
    have : p = l.length := h
    rw [this, List.drop_length]; rfl
  | f + 1, n, p, hp, h => by
    have hr : runL (l.drop p) 0 = (Ut.nextW ((nl l).drop p)).2.toNat := by unfold runL; rw [List.drop_zero, nl_drop]
    unfold Ut.walkP at h
    by_cases hc : p < (nl l).length ∧ 0 < (Ut.nextW ((nl l).drop p)).2
    · rw [if_pos hc] at h
      have hb := (Ut.nextW_k ((nl l).drop p)).1
      rw [List.length_drop] at hb
      rw [nl_len] at hc hb
      have := walk_vs l f (n + 1) (p + (Ut.nextW ((nl l).drop p)).2.toNat) (by omega) h
      unfold vs
      rw [if_neg (fun e => by have := congrArg List.length e; rw [List.length_drop, List.length_nil] at this; omega), hr, if_neg (by omega), List.drop_drop]
      exact this
    · rw [if_neg hc] at h
      have : p = l.length := h
      rw [this, List.drop_length]; rfl
theorem vld_vs {l : List UInt8} (h : vldB l = true) : vs l.length l = true := by
  have h1 := of_decide_eq_true h
  unfold Ut.walkL at h1
  rw [nl_len] at h1
  have := walk_vs l l.length 0 0 (by omega) h1
  rwa [List.drop_zero] at this
theorem qu_self : ∀ l : List UInt8, (∀ c ∈ l, plnB c = true) → quL l = l
  | [], _ => rfl
  | c :: l, h => by rw [quL_cons, quB_self (h c List.mem_cons_self), qu_self l (fun x hx => h x (List.mem_cons_of_mem _ hx))]; rfl
theorem run_z {l : List UInt8} (h : l ≠ []) : runL l 0 = if Ut.szI (at0 l 0) ≤ l.length ∧ Ut.okTo (nl l) (Ut.szI (at0 l 0)) then Ut.szI (at0 l 0) else 0 := by
  unfold runL
  rw [List.drop_zero, run_zs (fun e => h (List.length_eq_zero_iff.1 (by rw [← nl_len, e]; rfl))), gd_nl, nl_len]
theorem at0_app {a b : List UInt8} {j : Nat} (h : j < a.length) : at0 (a ++ b) j = at0 a j := by
  unfold at0; rw [List.getD_eq_getElem?_getD, List.getD_eq_getElem?_getD, List.getElem?_append_left h]
theorem at0_take {l : List UInt8} {k j : Nat} (h : j < k) : at0 (l.take k) j = at0 l j := by
  unfold at0; rw [List.getD_eq_getElem?_getD, List.getD_eq_getElem?_getD, List.getElem?_take_of_lt h]
/-- the rune at the beginning, whatever stands behind it -/
theorem run_app {l r : List UInt8} (h : runL l 0 ≠ 0) : runL (l.take (runL l 0) ++ r) 0 = runL l 0 := by
  have hne : l ≠ [] := fun e => by subst e; exact h rfl
  have hz := run_z hne
  by_cases hc : Ut.szI (at0 l 0) ≤ l.length ∧ Ut.okTo (nl l) (Ut.szI (at0 l 0))
  · rw [if_pos hc] at hz
    have hk : 1 ≤ runL l 0 := by omega
    have hl : (l.take (runL l 0)).length = runL l 0 := by rw [List.length_take]; omega
    have hg : ∀ j, j < runL l 0 → at0 (l.take (runL l 0) ++ r) j = at0 l j := fun j hj => by rw [at0_app (by omega), at0_take hj]
    have hne2 : l.take (runL l 0) ++ r ≠ [] := fun e => by have := congrArg List.length e; rw [List.length_append, hl, List.length_nil] at this; omega
    have hz2 := run_z hne2
    rw [hg 0 (by omega), ← hz, if_pos ⟨by rw [List.length_append, hl]; omega, fun j hj h1 => by
      have := hc.2 j (by omega) h1
      exact (okAt_cong (by rw [gd_nl, gd_nl, hg 0 (by omega)]) (by rw [gd_nl, gd_nl, hg j hj])).1 this⟩] at hz2
    exact hz2
  · rw [if_neg hc] at hz; exact absurd hz h
theorem run_pln {l : List UInt8} (h : runL l 0 ≠ 0) (hp : plnB (l.getD 0 0) = true) : ∀ c ∈ l.take (runL l 0), plnB c = true := by
  intro c hc
  have hne : l ≠ [] := fun e => by subst e; exact h rfl
  have hz := run_z hne
  by_cases hcd : Ut.szI (at0 l 0) ≤ l.length ∧ Ut.okTo (nl l) (Ut.szI (at0 l 0))
  · rw [if_pos hcd] at hz
    obtain ⟨j, hj, rfl⟩ := List.getElem_of_mem hc
    rw [List.length_take] at hj
    rw [List.getElem_take]
    by_cases h0 : j = 0
    · subst h0
      rw [List.getD_eq_getElem?_getD, List.getElem?_eq_getElem (by omega)] at hp
      exact hp
    · have := okAt_hi (hcd.2 j (by omega) (by omega))
      rw [gd_nl, at0_get (by omega)] at this
      exact hi_pln this
  · rw [if_neg hcd] at hz; exact absurd hz h
theorem run_low {l : List UInt8} (h : runL l 0 ≠ 0) (hp : plnB (l.getD 0 0) = false) : runL l 0 = 1 := by
  have hne : l ≠ [] := fun e => by subst e; exact h rfl
  have hz := run_z hne
  by_cases hcd : Ut.szI (at0 l 0) ≤ l.length ∧ Ut.okTo (nl l) (Ut.szI (at0 l 0))
  · rw [if_pos hcd] at hz
    have hlt : at0 l 0 < 128 := by
      rcases Int.lt_or_le (at0 l 0) 128 with g | g
      · exact g
      · unfold at0 at g; rw [hi_pln g] at hp; cases hp
    rw [hz]; unfold Ut.szI; rw [if_pos (by omega)]
  · rw [if_neg hcd] at hz; exact absurd hz h
theorem drop_of_app {Q a b : List UInt8} {p : Nat} (h : Q.drop p = a ++ b) : Q.drop (p + a.length) = b := by
  rw [← List.drop_drop, h, List.drop_left]
/-- what stands in quotes is read as the text -/
theorem quo_text (Q : List UInt8) : ∀ (f : Nat) (suf : List UInt8) (p : Nat), p ≤ Q.length → vs f suf = true → Q.drop p = quL suf ++ [34] → textA Q p = some (suf, Q.length) := by
  intro f
  induction f with
  | zero =>
    intro suf p hp hv hd
    have : suf = [] := by cases suf with | nil => rfl | cons => cases hv
    subst this
    have hl := congrArg List.length hd
    rw [List.length_drop] at hl
    simp [quL] at hl
    have h0 : at0 Q p = 34 := by have := at0_drop Q p 0; rw [hd] at this; rw [Nat.add_zero] at this; rw [← this]; rfl
    rw [text_quote (by omega) h0, show p + 1 = Q.length by omega]
  | succ f ih =>
    intro suf p hp hv hd
    by_cases hs : suf = []
    · subst hs
      have hl := congrArg List.length hd
      rw [List.length_drop] at hl
      simp [quL] at hl
      have h0 : at0 Q p = 34 := by have := at0_drop Q p 0; rw [hd] at this; rw [Nat.add_zero] at this; rw [← this]; rfl
      rw [text_quote (by omega) h0, show p + 1 = Q.length by omega]
    · unfold vs at hv
      rw [if_neg hs] at hv
      by_cases hr : runL suf 0 = 0
      · rw [if_pos hr] at hv; cases hv
      · rw [if_neg hr] at hv
        obtain ⟨c, suf', rfl⟩ : ∃ c suf', suf = c :: suf' := by cases suf with | nil => exact absurd rfl hs | cons a b => exact ⟨a, b, rfl⟩
        have hlQ : p < Q.length := by
          have hl := congrArg List.length hd
          rw [List.length_drop, List.length_append] at hl
          simp at hl
          omega
        cases hpl : plnB c with
        | false =>
          have hr1 := run_low hr hpl
          rw [hr1] at hv
          have hv' : vs f suf' = true := hv
          rw [quL_cons, List.append_assoc] at hd
          have hu : unitL Q p = ([c], (quB c).length) := by rw [← unit_suf Q p hp, hd]; exact quB_back hpl _
          have h34 : at0 Q p ≠ 34 := by
            intro g
            unfold unitL at hu
            rw [if_pos (.inr g)] at hu
            have := congrArg Prod.snd hu
            have h2 := (quB_len c).1
            simp at this
            rw [← this] at h2
            simp at h2
          have hq1 := (quB_len c).1
          have hdd := drop_of_app hd
          have hle : p + (quB c).length ≤ Q.length := by
            have hl := congrArg List.length hd
            rw [List.length_drop, List.length_append] at hl
            omega
          rw [text_step hlQ h34 (by rw [hu]; show (quB c).length ≠ 0; omega), hu]
          show (textA Q (p + (quB c).length)).map _ = _
          rw [ih suf' _ hle hv' hdd]
          rfl
        | true =>
          have hall := run_pln (l := c :: suf') hr hpl
          have hsp : quL (c :: suf') = (c :: suf').take (runL (c :: suf') 0) ++ quL ((c :: suf').drop (runL (c :: suf') 0)) := by
            conv => lhs; rw [← List.take_append_drop (runL (c :: suf') 0) (c :: suf')]
            rw [quL_app, qu_self _ hall]
          rw [hsp, List.append_assoc] at hd
          have hlen : ((c :: suf').take (runL (c :: suf') 0)).length = runL (c :: suf') 0 := by
            rw [List.length_take]
            have hz := run_z hs
            by_cases hcd : Ut.szI (at0 (c :: suf') 0) ≤ (c :: suf').length ∧ Ut.okTo (nl (c :: suf')) (Ut.szI (at0 (c :: suf') 0))
            · rw [if_pos hcd] at hz; omega
            · rw [if_neg hcd] at hz; exact absurd hz hr
          have hrun : runL Q p = runL (c :: suf') 0 := by
            have e : runL Q p = runL (Q.drop p) 0 := by unfold runL; rw [List.drop_zero]
            rw [e, hd]; exact run_app hr
          have h0 : at0 Q p = nb c := by
            have := at0_drop Q p 0
            rw [hd, Nat.add_zero] at this
            rw [← this, at0_app (by rw [hlen]; omega), at0_take (by omega)]; rfl
          unfold plnB at hpl
          rw [decide_eq_true_eq] at hpl
          have hcut : cutL Q p (p + runL Q p) = (c :: suf').take (runL (c :: suf') 0) := by
            unfold cutL
            rw [hd, hrun, show p + runL (c :: suf') 0 - p = runL (c :: suf') 0 by omega, List.take_left' hlen]
          have hu : unitL Q p = ((c :: suf').take (runL (c :: suf') 0), runL (c :: suf') 0) := by
            unfold unitL
            rw [if_neg (by omega), if_pos (by omega), hcut, hrun, if_neg hr]
          have hdd := drop_of_app hd
          rw [hlen] at hdd
          have hle : p + runL (c :: suf') 0 ≤ Q.length := by
            have hl := congrArg List.length hd
            rw [List.length_drop, List.length_append, hlen] at hl
            omega
          rw [text_step hlQ (by omega) (by rw [hu]; exact hr), hu]
          show (textA Q (p + runL (c :: suf') 0)).map _ = _
          rw [ih _ _ hle hv hdd]
          show some ((c :: suf').take (runL (c :: suf') 0) ++ (c :: suf').drop (runL (c :: suf') 0), Q.length) = _
          rw [List.take_append_drop]
theorem unq_quo {l : List UInt8} (h : vldB l = true) : unqL (quoL l) = some l := by
  have ht := quo_text (quoL l) l.length l 1 (by unfold quoL; simp) (vld_vs h) rfl
  unfold unqL
  rw [if_pos ⟨by unfold quoL; simp, rfl⟩, ht]
  show (if (quoL l).length = (quoL l).length then some l else none) = some l
  rw [if_pos rfl]
end Go.Proofs.YtcknlnphgndaoaaGreatDoor.Jt
namespace Go.Proofs.YtcknlnphgndaoaaGreatDoor.Jt
open Go.RowKit
set_option linter.unusedSimpArgs false
set_option linter.unusedVariables false

theorem nuTabs_below {B : Nat} {w w' : World} (h : Nu.Tabs w) (hb : Below B w w') (hB : 7 ≤ B) : Nu.Tabs w' := by
  obtain ⟨⟨t, f, h0⟩, t1, f1, h1⟩ := h
  exact ⟨⟨t, f, (hb.block 4 (by omega)).trans h0⟩, t1, f1, (hb.block 6 (by omega)).trans h1⟩
theorem and15_all : ∀ n : Fin 256, bits .and .u8 (n.val : Int) 15 = (n.val : Int) % 16 := by decide +kernel
theorem and15 (c : UInt8) : bits .and .u8 (c.toNat : Int) 15 = ((c.toNat % 16 : Nat) : Int) := by
  have := and15_all ⟨c.toNat, c.toNat_lt⟩
  simp only at this
  rw [this]; omega
theorem mea_all : ∀ n : Fin 256, decide (0 ≤ Lib.indexByte meaL (UInt8.ofNat n.val)) = true → decide (Lib.indexByte meaL (UInt8.ofNat n.val) < 7) = true ∧ quB (UInt8.ofNat n.val) = [92, behL.getD (Lib.indexByte meaL (UInt8.ofNat n.val)).toNat 0] := by decide +kernel
theorem mea_none : ∀ n : Fin 256, decide (0 ≤ Lib.indexByte meaL (UInt8.ofNat n.val)) = false → quB (UInt8.ofNat n.val) = if n.val < 32 then [92, 117, 48, 48, Nu.hxd (n.val / 16), Nu.hxd (n.val % 16)] else [UInt8.ofNat n.val] := by decide +kernel
theorem mea_idx (c : UInt8) : (∃ i : Nat, i < 7 ∧ Lib.indexByte meaL c = (i : Int) ∧ quB c = [92, behL.getD i 0]) ∨ (Lib.indexByte meaL c < 0 ∧ quB c = if c.toNat < 32 then [92, 117, 48, 48, Nu.hxd (c.toNat / 16), Nu.hxd (c.toNat % 16)] else [c]) := by
  have h1 := mea_all ⟨c.toNat, c.toNat_lt⟩
  have h2 := mea_none ⟨c.toNat, c.toNat_lt⟩
  have e : UInt8.ofNat c.toNat = c := by simp
  simp only [e] at h1 h2
  by_cases h : 0 ≤ Lib.indexByte meaL c
  · left
    obtain ⟨a, b⟩ := h1 (by simpa using h)
    rw [decide_eq_true_eq] at a
    exact ⟨(Lib.indexByte meaL c).toNat, by omega, by omega, b⟩
  · right
    exact ⟨by omega, h2 (by simpa using h)⟩
theorem beh_lit : (ByteArray.mk #[34, 92, 98, 102, 110, 114, 116]) = mkS behL := rfl
theorem hex_1 {u : Nat} (h : u < 16) : mkS (Nu.hexL u) = mkS [Nu.hxd u] := by rw [Nu.hex_one h]
def PbP (b : Nat) (l : List UInt8) (w : World) (e : Ending) (w' : World) : Prop := e = .returned (.tuple #[]) ∧ Bld b l w' ∧ Below b w w'
set_option maxRecDepth 100000 in
set_option maxHeartbeats 8000000 in
theorem putByte_c (b : Nat) (l : List UInt8) (c : UInt8) (w : World) (hb : Bld b l w) (hT : Nu.Tabs w) (hbb : 7 ≤ b) (hlen : l.length ≤ 10000) :
    Calls Tryz.prog 39 #[.pointer (some ⟨b, 0, none⟩), .int .u8 (c.toNat : Int)] w (PbP b (l ++ quB c) w) := by
  have HI := Lib.hid (fun W => Ch.idx_c ⟨#[34, 92, 8, 12, 10, 13, 9]⟩ (c.toNat : Int) W)
  have hd : (ByteArray.mk #[34, 92, 8, 12, 10, 13, 9]).data.toList = meaL := rfl
  have hbc : ((c.toNat : Nat) : Int).toNat.toUInt8 = c := by simp
  rw [hd, hbc] at HI
  have c0 : 0 ≤ ((c.toNat : Nat) : Int) := by omega
  have c9 : ((c.toNat : Nat) : Int) ≤ 255 := by have := c.toNat_lt; omega
  have HT := Lib.hid hT
  clear hT hd hbc
  rcases mea_idx c with ⟨i, hi, hix, hq⟩ | ⟨hix, hq⟩
  · rw [hix] at HI
    rw [hq]
    have HB1 := Lib.hid (wbyte_c b l 92 92 rfl w hb (by omega))
    have HB2 := Lib.hid (fun (W : World) (x : UInt8) (z : Int) (hz : z = (x.toNat : Int)) (h : Bld b (l ++ [92]) W) => wbyte_c b (l ++ [92]) x z hz W h (by rw [List.length_append]; simp; omega))
    clear hix hq hb
    have hi' : (i : Int) < 7 := by omega
    have hi0 : (0 : Int) ≤ (i : Int) := by omega
    have hiN : 0 ≤ (i : Int) := hi0
    go_enter Tryz.func39, Tryz.ntmps39
    rw [beh_lit]
    generalize hF : mkS behL = F
    have hFs : F.size = 7 := by rw [← hF]; rfl
    have HX : Hid (∀ (h : i < F.size), (F[i].toNat : Int) = ((behL.getD i 0).toNat : Int)) := fun h => by
      rw [← Nu.getD_at F i h, ← hF]; rfl
    clear hF
    go_wp2_with (go_at_call 59; refine (HI.out _).mono ?_; rintro e w' ⟨rfl, rfl⟩)
    refine HB1.out.mono ?_
    rintro e w1 ⟨rfl, hbl1, hb1⟩
    have HBL1 := Lib.hid hbl1
    have HBW1 := Lib.hid hb1
    clear hbl1 hb1
    go_wp2_with fail
    have hF7 : i < F.size := by omega
    refine (HB2.out _ (behL.getD i 0) _ (HX.out hF7) HBL1.out).mono ?_
    rintro e w2 ⟨rfl, hbl2, hb2⟩
    have HBL2 := Lib.hid hbl2
    have HBW2 := Lib.hid hb2
    clear hbl2 hb2
    go_wp2
    go_end0
    exact ⟨rfl, by have := HBL2.out; rw [List.append_assoc] at this; exact this, HBW1.out.trans HBW2.out⟩
  · rw [hq]
    revert HI hix
    generalize Lib.indexByte meaL c = z
    intro HI hix
    by_cases h32 : c.toNat < 32
    · rw [if_pos h32]
      have h32' : ((c.toNat : Nat) : Int) < 32 := by omega
      have hd32 : decide (((c.toNat : Nat) : Int) < 32) = true := by simpa using h32'
      have ha := and15 c
      have HW1 := Lib.hid (wstr_c b l ⟨#[92, 117, 48, 48]⟩ w hb (by show _ + 4 ≤ _; omega))
      have HP1 := Lib.hid (fun (W : World) (hW : Nu.Tabs W) => Nu.puthex_pos (c.toNat / 16) W (by omega) hW)
      have HP2 := Lib.hid (fun (W : World) (hW : Nu.Tabs W) => Nu.puthex_pos (c.toNat % 16) W (by omega) hW)
      have es : ((c.toNat / 16 : Nat) : Int) = ((c.toNat : Nat) : Int) / 16 := by omega
      rw [es, Nu.hex_one (by omega)] at HP1
      rw [Nu.hex_one (by omega)] at HP2
      have HW2 := Lib.hid (fun (W : World) (x : UInt8) (l' : List UInt8) (hl : l'.length ≤ 10010) (h : Bld b l' W) => wstr_c b l' (Nu.mkS [x]) W h (by show _ + 1 ≤ _; omega))
      clear hq es hb
      go_enter Tryz.func39, Tryz.ntmps39
      go_wp2_with (go_at_call 59; refine (HI.out _).mono ?_; rintro e w' ⟨rfl, rfl⟩)
      refine HW1.out.mono ?_
      rintro e w1 ⟨rfl, hbl1, hb1⟩
      have HBL1 := Lib.hid hbl1
      have HBW1 := Lib.hid hb1
      have HT1 : Hid (Nu.Tabs w1) := nuTabs_below HT.out hb1 hbb
      clear hbl1 hb1
      go_wp2_with fail
      refine (HP1.out _ HT1.out).mono ?_
      rintro e w2 ⟨rfl, hb2⟩
      have HBL2 := Lib.hid (HBL1.out.go hb2)
      have HBW2 : Hid (Below b w w2) := HBW1.out.trans (hb2.mono (Nat.le_of_lt HBL1.out.lt))
      have HT2 : Hid (Nu.Tabs w2) := HT1.out.go hb2
      clear hb2
      go_wp2_with fail
      refine (HW2.out _ _ _ (by rw [List.length_append]; show _ + 4 ≤ _; omega) HBL2.out).mono ?_
      rintro e w3 ⟨rfl, hbl3, hb3⟩
      have HBL3 := Lib.hid hbl3
      have HBW3 : Hid (Below b w w3) := HBW2.out.trans hb3
      have HT3 : Hid (Nu.Tabs w3) := nuTabs_below HT2.out hb3 hbb
      clear hbl3 hb3
      go_wp2_with fail
      refine (HP2.out _ HT3.out).mono ?_
      rintro e w4 ⟨rfl, hb4⟩
      have HBL4 := Lib.hid (HBL3.out.go hb4)
      have HBW4 : Hid (Below b w w4) := HBW3.out.trans (hb4.mono (Nat.le_of_lt HBL3.out.lt))
      clear hb4
      go_wp2_with fail
      refine (HW2.out _ _ _ (by rw [List.length_append, List.length_append]; show _ + 4 + 1 ≤ _; omega) HBL4.out).mono ?_
      rintro e w5 ⟨rfl, hbl5, hb5⟩
      have HBL5 := Lib.hid hbl5
      have HBW5 : Hid (Below b w w5) := HBW4.out.trans hb5
      clear hbl5 hb5
      go_wp2
      go_end0
      exact ⟨rfl, by have := HBL5.out; rw [List.append_assoc, List.append_assoc] at this; exact this, HBW5.out⟩
    · rw [if_neg h32]
      have h32' : ¬ ((c.toNat : Nat) : Int) < 32 := by omega
      have hd32 : decide (((c.toNat : Nat) : Int) < 32) = false := by simpa using h32'
      have HB1 := Lib.hid (wbyte_c b l c _ rfl w hb (by omega))
      clear hq hb
      go_enter Tryz.func39, Tryz.ntmps39
      go_wp2_with (first | (go_at_call 59; refine (HI.out _).mono ?_; rintro e w' ⟨rfl, rfl⟩) | (go_at_call 38; refine HB1.out.mono ?_; rintro e w1 ⟨rfl, hbl1, hb1⟩; have HBL1 := Lib.hid hbl1; have HBW1 := Lib.hid hb1; clear hbl1 hb1))
      go_end0
      exact ⟨rfl, HBL1.out, HBW1.out⟩
theorem quo_snoc {l : List UInt8} {k : Nat} (h : k < l.length) : quL (l.take (k + 1)) = quL (l.take k) ++ quB l[k] := by
  rw [List.take_succ_eq_append_getElem h, quL_app, quL_cons]; simp [quL]
def quoV (l : List UInt8) : Ending := if vldB l = true then .returned (.tuple #[.string (mkS (quoL l)), .int .i64 0]) else .returned (.tuple #[.string ⟨#[]⟩, .int .i64 3])
set_option maxRecDepth 100000 in
set_option maxHeartbeats 8000000 in
theorem Quote_c (s : ByteArray) (w : World) (hE : Ut.Tabs w) (hT : Nu.Tabs w) (hs : s.size ≤ 300) (hbb : 7 ≤ w.heap.size) :
    Calls Tryz.prog 22 #[.string s] w fun e w' => e = quoV s.data.toList ∧ Below w.heap.size w w' := by
  have HV := Lib.hid (valid_c s w hE (by omega))
  have hsl := Lib.hid (size_l s)
  have HT := Lib.hid hT
  clear hE hT
  unfold quoV
  cases hv : vldB s.data.toList with
  | false =>
    rw [hv] at HV
    rw [if_neg (by decide)]
    clear hv
    go_enter Tryz.func22, Tryz.ntmps22
    go_wp2_with (go_at_call 30; refine HV.out.mono ?_; rintro e w1 ⟨rfl, hb1⟩; have B1 := Lib.hid hb1; clear hb1)
    go_ret2
    exact ⟨rfl, B1.out⟩
  | true =>
    rw [hv] at HV
    rw [if_pos rfl]
    clear hv
    go_enter Tryz.func22, Tryz.ntmps22
    go_wp2_with fail
    refine HV.out.mono ?_
    rintro e w1 ⟨rfl, hb1⟩
    have HB1 := Lib.hid hb1
    have HT1 : Hid (Nu.Tabs w1) := HT.out.go hb1
    have hw1 : w.heap.size ≤ w1.heap.size := hb1.size
    clear hb1 HV
    have HQ0 := Lib.hid (wbyte_c w1.heap.size [] 34 34 rfl _ (Bld.new w1) (by simp))
    have HN0 : Hid (Below w.heap.size w (w1.alloc (.cells #[.pointer none, .slice none 0 0] 52))) := HB1.out.alloc hw1 _
    have HNT : Hid (Nu.Tabs (w1.alloc (.cells #[.pointer none, .slice none 0 0] 52))) := HT1.out.go ((Below.refl _ _).alloc (Nat.le_refl _) _)
    go_wp2_with fail
    refine HQ0.out.mono ?_
    rintro e w2 ⟨rfl, hbl2, hb2⟩
    have HBL2 : Hid (Bld w1.heap.size (34 :: quL (s.data.toList.take 0)) w2) := hbl2
    have HB2 : Hid (Below w.heap.size w w2) := HN0.out.trans (hb2.mono hw1)
    have HT2 : Hid (Nu.Tabs w2) := nuTabs_below HNT.out hb2 (by omega)
    clear hbl2 hb2 HQ0 HN0 HNT HB1 HT1
    revert HBL2 hw1
    generalize w1.heap.size = bb
    intro hw1 HBL2
    go_wp2
    go_loopw [12] (fun v wr => ∃ k : Nat, k ≤ s.size ∧ v = .int .i64 k ∧ Bld bb (34 :: quL (s.data.toList.take k)) wr ∧ Nu.Tabs wr ∧ Below w.heap.size w wr) (fun v _ => s.size - (intOf v).toNat)
    case atStart => exact ⟨0, by omega, rfl, HBL2.out, HT2.out, HB2.out⟩
    case round =>
      clear HBL2 HT2 HB2
      obtain ⟨k, hk, rfl, hbld, htab, hB⟩ := hrel
      have HBLD := Lib.hid hbld
      have HTAB := Lib.hid htab
      have HB := Lib.hid hB
      clear hbld htab hB
      have hql := quL_len (s.data.toList.take k)
      have htl : (s.data.toList.take k).length ≤ k := List.length_take_le _ _
      by_cases hlt : k < s.size
      · have hl : k < s.data.toList.length := by rw [← hsl.out]; exact hlt
        have HPB := Lib.hid (putByte_c bb (34 :: quL (s.data.toList.take k)) s[k] wr HBLD.out HTAB.out (by omega) (by rw [List.length_cons]; omega))
        have HSN : Hid (34 :: quL (s.data.toList.take (k + 1)) = (34 :: quL (s.data.toList.take k)) ++ quB s[k]) := by
          show 34 :: quL (s.data.toList.take (k + 1)) = _
          rw [quo_snoc hl, data_at hlt hl]; rfl
        clear hql htl
        go_wp2_with (go_at_call 39; refine HPB.out.mono ?_; rintro e w3 ⟨rfl, hbl3, hb3⟩; have HBL3 := Lib.hid hbl3; have HB3 := Lib.hid hb3; clear hbl3 hb3)
        go_roundw
        case rel => exact ⟨k + 1, by omega, by go_num, by rw [HSN.out]; exact HBL3.out, nuTabs_below HTAB.out HB3.out (by omega), HB.out.trans (HB3.out.mono hw1)⟩
        case measure => simp [intOf]; omega
      · have htk : s.data.toList.take k = s.data.toList := List.take_of_length_le (by rw [← hsl.out]; omega)
        rw [htk] at HBLD hql
        rw [← hsl.out] at hql
        have HQ1 := Lib.hid (wbyte_c bb (34 :: quL s.data.toList) 34 34 rfl wr HBLD.out (by rw [List.length_cons]; omega))
        have HST := Lib.hid (fun (W : World) (h : Bld bb ((34 :: quL s.data.toList) ++ [34]) W) => str_c bb _ W h)
        clear htk hql htl
        go_wp2_with (first | (go_at_call 38; refine HQ1.out.mono ?_; rintro e w3 ⟨rfl, hbl3, hb3⟩; have HBL3 := Lib.hid hbl3; have HB3 := Lib.hid hb3; have HS3 := Lib.hid (HST.out _ hbl3); clear hbl3 hb3) | (go_at_call 23; refine HS3.out.mono ?_; rintro e w4 ⟨rfl, hb4⟩; have HB4 := Lib.hid hb4; clear hb4))
        go_ret2
        have h3 := HB.out.trans (HB3.out.mono hw1)
        exact ⟨rfl, h3.trans (HB4.out.mono hw1)⟩
end Go.Proofs.YtcknlnphgndaoaaGreatDoor.Jt
namespace Go.Proofs.YtcknlnphgndaoaaGreatDoor.Jt
open Go.RowKit
set_option linter.unusedSimpArgs false
set_option linter.unusedVariables false

theorem app_l (a : List UInt8) (x : ByteArray) (b : List UInt8) (h : x.data.toList = b) : mkS a ++ x = mkS (a ++ b) := mkS_of (by rw [← h]; simp [mkS])
theorem one_l (s : ByteArray) (k : Nat) (h : k < s.size) : (s.extract k (k + 1)).data.toList = [s[k]] := by
  rw [extract_cut]
  unfold cutL
  rw [show k + 1 - k = 1 by omega, drop_at (by rw [← size_l]; exact h), data_at h]; rfl
end Go.Proofs.YtcknlnphgndaoaaGreatDoor.Jt
