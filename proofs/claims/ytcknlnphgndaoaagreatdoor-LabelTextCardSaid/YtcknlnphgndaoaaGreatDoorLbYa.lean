/- Contracts and plain mathematics of some packages' functions, laid together; conditions as each one says. -/
import Derived.Test.YtcknlnphgndaoaaGreatDoorJtPub
import Derived.Test.YtcknlnphgndaoaaGreatDoorLbAa
import Derived.Test.YtcknlnphgndaoaaGreatDoorLbNa
namespace Go.Proofs.YtcknlnphgndaoaaGreatDoor.Jt
set_option linter.unusedSimpArgs false
set_option linter.unusedVariables false

theorem unit_le' {l : List UInt8} {k : Nat} (hk : k < l.length) (h : (unitL l k).2 ≠ 0) : k + (unitL l k).2 ≤ l.length := by
  unfold unitL at h ⊢
  by_cases h1 : at0 l k < 32 ∨ at0 l k = 34
  · rw [if_pos h1] at h; exact absurd rfl h
  · rw [if_neg h1] at h ⊢
    by_cases h2 : at0 l k ≠ 92
    · rw [if_pos h2] at h ⊢
      by_cases h3 : runL l k = 0
      · rw [if_pos h3] at h; exact absurd rfl h
      · rw [if_neg h3]
        have := (Ut.nextW_k (nl (l.drop k))).1
        rw [nl_len, List.length_drop] at this
        show k + runL l k ≤ _
        unfold runL at h3 ⊢
        omega
    · rw [if_neg h2] at h ⊢; exact back_le l k h
theorem textF_bd (l : List UInt8) : ∀ (f k : Nat) (r : List UInt8 × Nat), textF l f k = some r → k < r.2 ∧ r.2 ≤ l.length
  | 0, k, r, h => by cases h
  | f + 1, k, r, h => by
    unfold textF at h
    by_cases h1 : l.length ≤ k
    · rw [if_pos h1] at h; cases h
    · rw [if_neg h1] at h
      by_cases h2 : at0 l k = 34
      · rw [if_pos h2] at h; cases h; show k < k + 1 ∧ k + 1 ≤ _; omega
      · rw [if_neg h2] at h
        by_cases h3 : (unitL l k).2 = 0
        · rw [if_pos h3] at h; cases h
        · rw [if_neg h3] at h
          cases hx : textF l f (k + (unitL l k).2) with
          | none => rw [hx] at h; cases h
          | some r' =>
            rw [hx] at h
            have := textF_bd l f _ r' hx
            cases h
            show k < r'.2 ∧ r'.2 ≤ _
            omega
theorem text_bd {l : List UInt8} {k : Nat} {r : List UInt8 × Nat} (h : textA l k = some r) : k < r.2 ∧ r.2 ≤ l.length := textF_bd l _ k r h
theorem endP_gt {p : UInt8 → Bool} {l : List UInt8} {k : Nat} (h : k < l.length) (hp : p l[k] = true) : k < endP p l k := by
  have := endP_ge p l (k + 1)
  rw [endP_yes h hp] at this
  omega
theorem tokP_bd {l : List UInt8} {p : Nat} (hp : p < l.length) (h : (tokP l p).2 = 0) : p < (tokP l p).1.b ∧ (tokP l p).1.b ≤ l.length := by
  unfold tokP at h ⊢
  by_cases h1 : sgnI (at0 l p) ≠ 0
  · rw [if_pos h1]; show p < p + 1 ∧ p + 1 ≤ _; omega
  · rw [if_neg h1] at h ⊢
    by_cases h2 : at0 l p = 34
    · rw [if_pos h2] at h ⊢
      cases hx : textA l (p + 1) with
      | none => rw [hx] at h; cases h
      | some r => have := text_bd hx; show p < r.2 ∧ r.2 ≤ _; omega
    · rw [if_neg h2] at h ⊢
      by_cases h3 : at0 l p = 45 ∨ Ch.digB (at0 l p) = true
      · rw [if_pos h3] at h ⊢
        by_cases h4 : Nu.pE (cutL l p (endP numB l p)) = 0
        · rw [if_pos h4]
          refine ⟨endP_gt hp ?_, endP_le (by omega)⟩
          unfold numB wordB
          rw [← at0_get hp]
          rcases h3 with g | g
          · rw [g]; decide
          · rw [g]; simp
        · rw [if_neg h4] at h; exact absurd h h4
      · rw [if_neg h3] at h ⊢
        by_cases h4 : wrdK (cutL l p (endP wordB l p)) = 0
        · rw [if_pos h4] at h; cases h
        · rw [if_neg h4]
          refine ⟨?_, endP_le (by omega)⟩
          show p < endP wordB l p
          rcases Nat.lt_or_ge p (endP wordB l p) with g | g
          · exact g
          · have : endP wordB l p = p := by have := endP_ge wordB l p; omega
            rw [this, cut_nil] at h4
            exact absurd rfl h4
theorem tokA_bd {l : List UInt8} {k : Nat} (hk : k ≤ l.length) (h : (tokA l k).2 = 0) : k < (tokA l k).1.b ∧ (tokA l k).1.b ≤ l.length := by
  unfold tokA at h ⊢
  by_cases h1 : l.length ≤ endP blkB l k
  · rw [if_pos h1] at h; cases h
  · rw [if_neg h1] at h ⊢
    have := tokP_bd (by omega) h
    have := endP_ge blkB l k
    omega
theorem allF_eq (l : List UInt8) : ∀ (f g k : Nat), k ≤ l.length → l.length + 1 ≤ k + f → l.length + 1 ≤ k + g → allF l f k = allF l g k
  | 0, g, k, hk, h, _ => by omega
  | f + 1, 0, k, hk, _, h => by omega
  | f + 1, g + 1, k, hk, h, h' => by
    unfold allF
    by_cases h1 : (tokA l k).2 = 6
    · rw [if_pos h1, if_pos h1]
    · rw [if_neg h1, if_neg h1]
      by_cases h2 : (tokA l k).2 ≠ 0
      · rw [if_pos h2, if_pos h2]
      · rw [if_neg h2, if_neg h2]
        have hb := tokA_bd hk (by omega)
        rw [allF_eq l f g _ hb.2 (by omega) (by omega)]
def allA (l : List UInt8) (k : Nat) : List Tok × Nat × Int := allF l (l.length + 1) k
theorem all_none {l : List UInt8} {k : Nat} (h : (tokA l k).2 = 6) : allA l k = ([], l.length, 0) := by unfold allA allF; rw [if_pos h]
theorem all_err {l : List UInt8} {k : Nat} (h : (tokA l k).2 ≠ 6) (h0 : (tokA l k).2 ≠ 0) : allA l k = ([], endP blkB l k, (tokA l k).2) := by unfold allA allF; rw [if_neg h, if_pos h0]
theorem all_step {l : List UInt8} {k : Nat} (hk : k ≤ l.length) (h0 : (tokA l k).2 = 0) : allA l k = ((tokA l k).1 :: (allA l (tokA l k).1.b).1, (allA l (tokA l k).1.b).2) := by
  have hb := tokA_bd hk h0
  conv => lhs; unfold allA allF
  rw [if_neg (by omega), if_neg (by omega), allF_eq l l.length (l.length + 1) _ hb.2 (by omega) (by omega)]
  rfl
/-- tokens as cells -/
def tkC (t : Tok) : List Value := [.int .i64 t.k, .int .i64 t.a, .int .i64 t.b, .string (mkS t.t), .int .i64 t.n]
def tksC (ts : List Tok) : List Value := ts.flatMap tkC
theorem tksC_snoc (ts : List Tok) (t : Tok) : tksC (ts ++ [t]) = tksC ts ++ tkC t := by unfold tksC; simp
theorem tksC_len (ts : List Tok) : (tksC ts).length = ts.length * 5 := by
  unfold tksC
  induction ts with
  | nil => rfl
  | cons t ts ih => rw [List.flatMap_cons, List.length_append, ih, List.length_cons]; show 5 + _ = _; omega
theorem tksC_at {ts : List Tok} {i : Nat} (h : i < ts.length) (j : Nat) (hj : j < 5) : (tksC ts)[i * 5 + j]? = (tkC ts[i])[j]? := by
  unfold tksC
  induction ts generalizing i with
  | nil => simp at h
  | cons t ts ih =>
    rw [List.flatMap_cons]
    match i, h with
    | 0, _ =>
      rw [List.getElem?_append_left (by show 0 * 5 + j < 5; omega)]
      simp
    | i + 1, h =>
      rw [List.getElem?_append_right (by show 5 ≤ (i + 1) * 5 + j; omega)]
      have e : (i + 1) * 5 + j - (tkC t).length = i * 5 + j := by show (i + 1) * 5 + j - 5 = _; omega
      rw [e]
      exact ih (by simpa using h)
end Go.Proofs.YtcknlnphgndaoaaGreatDoor.Jt
namespace Go.Proofs.YtcknlnphgndaoaaGreatDoor.Lb
open Jt
set_option linter.unusedSimpArgs false
set_option linter.unusedVariables false

theorem put_len (v : Int) : (Ut.putI v).length ≤ 4 := (Ut.putI_len v).2
theorem back_len (l : List UInt8) (k : Nat) : (backL l k).1.length ≤ (backL l k).2 := by
  unfold backL
  have hb : ∀ v, (bl (Ut.putI v)).length ≤ 4 := fun v => by unfold bl; rw [List.length_map]; exact put_len v
  repeat' split
  · simp
  · simp
  · simp
  · refine Nat.le_trans (hb _) ?_; show 4 ≤ 12; decide
  · refine Nat.le_trans (hb _) ?_; show 4 ≤ 6; decide
  · simp
theorem unit_len (l : List UInt8) (k : Nat) : (unitL l k).1.length ≤ (unitL l k).2 := by
  unfold unitL
  split
  · simp
  · split
    · split
      · simp
      · unfold cutL
        simp only [List.length_drop, List.length_take]
        omega
    · exact back_len l k
theorem textF_len (l : List UInt8) : ∀ (f k : Nat) (r : List UInt8 × Nat), textF l f k = some r → r.1.length + k ≤ r.2
  | 0, k, r, h => by cases h
  | f + 1, k, r, h => by
    unfold textF at h
    by_cases h1 : l.length ≤ k
    · rw [if_pos h1] at h; cases h
    · rw [if_neg h1] at h
      by_cases h2 : at0 l k = 34
      · rw [if_pos h2] at h; cases h; simp
      · rw [if_neg h2] at h
        by_cases h3 : (unitL l k).2 = 0
        · rw [if_pos h3] at h; cases h
        · rw [if_neg h3] at h
          cases hx : textF l f (k + (unitL l k).2) with
          | none => rw [hx] at h; cases h
          | some r' =>
            rw [hx] at h
            have := textF_len l f _ r' hx
            have h4 := unit_len l k
            cases h
            show ((unitL l k).1 ++ r'.1).length + k ≤ r'.2
            rw [List.length_append]
            omega
theorem tok_len {l : List UInt8} {k : Nat} : (tokA l k).1.t.length ≤ l.length := by
  unfold tokA
  split
  · simp [zT]
  · unfold tokP
    split
    · simp
    · split
      · cases hx : textA l (endP blkB l k + 1) with
        | none => simp [zT]
        | some r =>
          have h1 := textF_len l _ _ r hx
          have h2 := text_bd hx
          show r.1.length ≤ l.length
          omega
      · split
        · split
          · simp
          · simp [zT]
        · split
          · simp [zT]
          · simp
end Go.Proofs.YtcknlnphgndaoaaGreatDoor.Lb
namespace Go.Proofs.YtcknlnphgndaoaaGreatDoor.Lb
open Jt
set_option linter.unusedSimpArgs false
set_option linter.unusedVariables false

/-- what stands in quotes is read as the text -/
theorem quo_textR (Q r : List UInt8) : ∀ (f : Nat) (suf : List UInt8) (p : Nat), p ≤ Q.length → vs f suf = true → Q.drop p = quL suf ++ 34 :: r → textA Q p = some (suf, Q.length - r.length) := by
  intro f
  induction f with
  | zero =>
    intro suf p hp hv hd
    have : suf = [] := by cases suf with | nil => rfl | cons => cases hv
    subst this
    have hl := congrArg List.length hd
    rw [List.length_drop] at hl
    simp [quL] at hl
    have h0 : at0 Q p = 34 := by have := at0_drop Q p 0; rw [hd] at this; rw [Nat.add_zero] at this; rw [← this]; rfl
    rw [text_quote (by omega) h0, show p + 1 = Q.length - r.length by omega]
  | succ f ih =>
    intro suf p hp hv hd
    by_cases hs : suf = []
    · subst hs
      have hl := congrArg List.length hd
      rw [List.length_drop] at hl
      simp [quL] at hl
      have h0 : at0 Q p = 34 := by have := at0_drop Q p 0; rw [hd] at this; rw [Nat.add_zero] at this; rw [← this]; rfl
      rw [text_quote (by omega) h0, show p + 1 = Q.length - r.length by omega]
    · unfold vs at hv
      rw [if_neg hs] at hv
      by_cases hr : runL suf 0 = 0
      · rw [if_pos hr] at hv; cases hv
      · rw [if_neg hr] at hv
        obtain ⟨c, suf', rfl⟩ : ∃ c suf', suf = c :: suf' := by cases suf with | nil => exact absurd rfl hs | cons a b => exact ⟨a, b, rfl⟩
        have hlQ : p < Q.length := by
          have hl := congrArg List.length hd
          rw [List.length_drop, List.length_append] at hl
          simp at hl
          omega
        cases hpl : plnB c with
        | false =>
          have hr1 := run_low hr hpl
          rw [hr1] at hv
          have hv' : vs f suf' = true := hv
          rw [quL_cons, List.append_assoc] at hd
          have hu : unitL Q p = ([c], (quB c).length) := by rw [← unit_suf Q p hp, hd]; exact quB_back hpl _
          have h34 : at0 Q p ≠ 34 := by
            intro g
            unfold unitL at hu
            rw [if_pos (.inr g)] at hu
            have := congrArg Prod.snd hu
            have h2 := (quB_len c).1
            simp at this
            rw [← this] at h2
            simp at h2
          have hq1 := (quB_len c).1
          have hdd := drop_of_app hd
          have hle : p + (quB c).length ≤ Q.length := by
            have hl := congrArg List.length hd
            rw [List.length_drop, List.length_append] at hl
            omega
          rw [text_step hlQ h34 (by rw [hu]; show (quB c).length ≠ 0; omega), hu]
          show (textA Q (p + (quB c).length)).map _ = _
          rw [ih suf' _ hle hv' hdd]
          rfl
        | true =>
          have hall := run_pln (l := c :: suf') hr hpl
          have hsp : quL (c :: suf') = (c :: suf').take (runL (c :: suf') 0) ++ quL ((c :: suf').drop (runL (c :: suf') 0)) := by
            conv => lhs; rw [← List.take_append_drop (runL (c :: suf') 0) (c :: suf')]
            rw [quL_app, qu_self _ hall]
          rw [hsp, List.append_assoc] at hd
          have hlen : ((c :: suf').take (runL (c :: suf') 0)).length = runL (c :: suf') 0 := by
            rw [List.length_take]
            have hz := run_z hs
            by_cases hcd : Ut.szI (at0 (c :: suf') 0) ≤ (c :: suf').length ∧ Ut.okTo (nl (c :: suf')) (Ut.szI (at0 (c :: suf') 0))
            · rw [if_pos hcd] at hz; omega
            · rw [if_neg hcd] at hz; exact absurd hz hr
          have hrun : runL Q p = runL (c :: suf') 0 := by
            have e : runL Q p = runL (Q.drop p) 0 := by unfold runL; rw [List.drop_zero]
            rw [e, hd]; exact run_app hr
          have h0 : at0 Q p = nb c := by
            have := at0_drop Q p 0
            rw [hd, Nat.add_zero] at this
            rw [← this, at0_app (by rw [hlen]; omega), at0_take (by omega)]; rfl
          unfold plnB at hpl
          rw [decide_eq_true_eq] at hpl
          have hcut : cutL Q p (p + runL Q p) = (c :: suf').take (runL (c :: suf') 0) := by
            unfold cutL
            rw [hd, hrun, show p + runL (c :: suf') 0 - p = runL (c :: suf') 0 by omega, List.take_left' hlen]
          have hu : unitL Q p = ((c :: suf').take (runL (c :: suf') 0), runL (c :: suf') 0) := by
            unfold unitL
            rw [if_neg (by omega), if_pos (by omega), hcut, hrun, if_neg hr]
          have hdd := drop_of_app hd
          rw [hlen] at hdd
          have hle : p + runL (c :: suf') 0 ≤ Q.length := by
            have hl := congrArg List.length hd
            rw [List.length_drop, List.length_append, hlen] at hl
            omega
          rw [text_step hlQ (by omega) (by rw [hu]; exact hr), hu]
          show (textA Q (p + runL (c :: suf') 0)).map _ = _
          rw [ih _ _ hle hv hdd]
          show some ((c :: suf').take (runL (c :: suf') 0) ++ (c :: suf').drop (runL (c :: suf') 0), Q.length - r.length) = _
          rw [List.take_append_drop]
/-- a text in quotes, whatever stands behind it, is read as a token -/
theorem tok_quo {v : List UInt8} (r : List UInt8) (h : vldB v = true) : tokA (quoL v ++ r) 0 = (⟨7, 0, (quoL v).length, v, 0⟩, 0) := by
  have hl : 0 < (quoL v ++ r).length := by unfold quoL; simp
  have h0 : at0 (quoL v ++ r) 0 = 34 := rfl
  have hb : endP blkB (quoL v ++ r) 0 = 0 := endP_no hl (by unfold blkB; rw [← at0_get hl, h0]; decide)
  have ht := quo_textR (quoL v ++ r) r v.length v 1 (by omega) (vld_vs h) (by unfold quoL; simp)
  rw [tokA_at hb hl]
  unfold tokP
  rw [h0, if_neg (by decide), if_pos rfl, ht]
  show ((⟨7, 0, (quoL v ++ r).length - r.length, v, 0⟩ : Tok), (0 : Int)) = _
  rw [List.length_append, Nat.add_sub_cancel]
theorem inB_61 : inB 61 = false := by decide
theorem nam_61 {l : List UInt8} (h : namB l = true) : ¬ (61 : UInt8) ∈ l := fun hm => by
  unfold namB at h
  cases l with
  | nil => cases h
  | cons c t =>
    simp only [Bool.and_eq_true] at h
    have h2 := h.2
    unfold inBL at h2
    rw [List.all_eq_true] at h2
    have := h2 _ hm
    exact absurd this (by decide)
/-- what stands behind a pair's text -/
def bhL (t : List FB) : List UInt8 := (t.flatMap fun y => 44 :: oneL y) ++ [125]
theorem bh_nil : bhL [] = [125] := rfl
theorem bh_cons (y : FB) (t : List FB) : bhL (y :: t) = 44 :: (prsL (y :: t) ++ [125]) := by
  unfold bhL prsL; rw [List.flatMap_cons]; simp
theorem prs_bh (x : FB) (t : List FB) : prsL (x :: t) ++ [125] = x.1.data.toList ++ 61 :: (quoL x.2.data.toList ++ bhL t) := by
  unfold prsL bhL oneL; simp
theorem cut_prs {x : FB} (t : List FB) (h : namB x.1.data.toList = true) : cutP 61 (prsL (x :: t) ++ [125]) = (x.1.data.toList, quoL x.2.data.toList ++ bhL t) := by
  rw [prs_bh]; exact cutP_at (nam_61 h)
theorem txt_cons (x : FB) (t : List FB) : txtL (x :: t) = 123 :: (prsL (x :: t) ++ [125]) := rfl
theorem quo_inj {v v' r r' : List UInt8} (h : vldB v = true) (h' : vldB v' = true) (e : quoL v ++ r = quoL v' ++ r') : v = v' ∧ r = r' := by
  have a := tok_quo r h
  have b := tok_quo r' h'
  rw [e, b] at a
  have hv : v' = v := congrArg (fun z : Tok × Int => z.1.t) a
  subst hv
  exact ⟨rfl, List.append_cancel_left e⟩
theorem bh_inj : ∀ {gs hs : List FB}, (∀ x ∈ gs, badB x = false) → (∀ x ∈ hs, badB x = false) → bhL gs = bhL hs → gs = hs
  | [], [], _, _, _ => rfl
  | [], y :: t, _, _, e => by rw [bh_nil, bh_cons] at e; injection e with e _; exact absurd e (by decide)
  | x :: s, [], _, _, e => by rw [bh_nil, bh_cons] at e; injection e with e _; exact absurd e (by decide)
  | x :: s, y :: t, hg, hh, e => by
    rw [bh_cons, bh_cons] at e
    injection e with _ e
    obtain ⟨gx1, gx2, _⟩ := bad_vld (hg x (by simp))
    obtain ⟨hy1, hy2, _⟩ := bad_vld (hh y (by simp))
    have e2 := congrArg (cutP 61) e
    rw [cut_prs s gx2, cut_prs t hy2] at e2
    injection e2 with en er
    obtain ⟨ev, eb⟩ := quo_inj gx1 hy1 er
    have exy : x = y := (fb_eq x y).1 ⟨en, ev⟩
    rw [exy, bh_inj (fun z hz => hg z (by simp [hz])) (fun z hz => hh z (by simp [hz])) eb]
theorem txt_inj {gs hs : List FB} (hg : ∀ x ∈ gs, badB x = false) (hh : ∀ x ∈ hs, badB x = false) (e : txtL gs = txtL hs) : gs = hs := by
  unfold txtL at e
  injection e with _ e
  cases gs with
  | nil =>
    cases hs with
    | nil => rfl
    | cons y t =>
      exfalso
      have := congrArg List.length e
      rw [prs_bh] at this
      simp [prsL, quoL] at this
      omega
  | cons x s =>
    cases hs with
    | nil =>
      exfalso
      have := congrArg List.length e
      rw [prs_bh] at this
      simp [prsL, quoL] at this
      omega
    | cons y t =>
      apply bh_inj hg hh
      rw [bh_cons, bh_cons, e]
end Go.Proofs.YtcknlnphgndaoaaGreatDoor.Lb
namespace Go.Proofs.YtcknlnphgndaoaaGreatDoor.Lb
open Go.RowKit Ch Jt
set_option linter.unusedSimpArgs false
set_option linter.unusedVariables false

def strY : Value → Nat
  | .string s => s.size
  | _ => 0
theorem drpY (s : ByteArray) (k : Nat) : s.extract k s.size = Jt.mkS (s.data.toList.drop k) := extN s k
theorem mk_data (l : List UInt8) : (Jt.mkS l).data.toList = l := rfl
def PsQ (gs : List FB) (w : World) (e : Ending) (w' : World) : Prop := ∃ v, e = .returned (.tuple #[v, .bool true]) ∧ OwF 39 w.heap.size v gs w' ∧ Below w.heap.size w w'
theorem prs_tail (x : FB) (t : List FB) : (prsL t).length ≤ (prsL (x :: t)).length := by
  cases t with
  | nil => simp [prsL]
  | cons y r => simp [prsL]; omega
theorem prs_drop (gs : List FB) : ∀ k, (prsL (gs.drop k)).length ≤ (prsL gs).length := by
  intro k
  induction k with
  | zero => simp
  | succ k ih =>
    by_cases hk : k < gs.length
    · have h := prs_tail gs[k] (gs.drop (k + 1))
      rw [← List.drop_eq_getElem_cons hk] at h
      omega
    · rw [List.drop_eq_nil_of_le (by omega)]; simp [prsL]
theorem trim_one (c : UInt8) (l : List UInt8) : Lib.trimPrefix (c :: l) [c] = l ∧ Lib.hasPrefix (c :: l) [c] = true := by
  unfold Lib.trimPrefix Lib.hasPrefix; simp
set_option maxRecDepth 100000 in
set_option maxHeartbeats 1000000 in
theorem pairsOf_s (gs : List FB) (w : World) (hE : Env w) (hg : ∀ x ∈ gs, badB x = false) (hm : gs.length ≤ 100) (hs : (prsL gs).length ≤ 4000) : Calls Tryz.prog 20 #[.string (Jt.mkS (txtL gs))] w (PsQ gs w) := by
  have HE := Lib.hid hE
  have HG := Lib.hid hg
  have HPF := Lib.hid (pre_c (Jt.mkS (txtL gs)) ⟨#[123]⟩)
  obtain ⟨ip, hip, hpa, hpb, hpc⟩ := info_parts info2
  clear hE hg
  cases hgs : gs with
  | nil =>
    have hq : ((Jt.mkS (txtL [])).toList == [123, 125]) = true := by rw [Lib.toList_data]; rfl
    clear HPF
    go_enter Tryz.func20, Tryz.ntmps20
    go_wp2
    go_ret2
    exact ⟨_, rfl, World.ownsRow_nil _ _ _ _, Below.refl _ _⟩
  | cons x0 t0 =>
    rw [← hgs]
    have hlp : 0 < gs.length := by rw [hgs]; simp
    have hq : ((Jt.mkS (txtL gs)).toList == [123, 125]) = false := by
      rw [Lib.toList_data]
      apply beq_eq_false_iff_ne.2
      intro e
      have := congrArg List.length e
      rw [mk_data, hgs, txt_cons, prs_bh] at this
      simp [quoL] at this
      omega
    have hr0 : (⟨(Lib.trimPrefix (Jt.mkS (txtL gs)).data.toList (ByteArray.mk #[123]).data.toList).toArray⟩ : ByteArray) = Jt.mkS (prsL (gs.drop 0) ++ [125]) := by
      rw [mk_data]
      show (⟨(Lib.trimPrefix (123 :: (prsL gs ++ [125])) [123]).toArray⟩ : ByteArray) = _
      rw [(trim_one _ _).1]; rfl
    have hm0 : Lib.hasPrefix (Jt.mkS (txtL gs)).data.toList (ByteArray.mk #[123]).data.toList = true := (trim_one _ _).2
    rw [hr0, hm0] at HPF
    clear hr0 hm0 hgs x0 t0
    go_enter Tryz.func20, Tryz.ntmps20
    go_wp2_with (go_at_call 34; (with_reducible refine (HPF.out _).mono ?_); rintro e w' ⟨rfl, hw⟩; rw [hw]; clear hw)
    clear hq HPF
    go_loopw [4, 5, 6] (fun lv rv mv wr => ∃ k : Nat, k < gs.length ∧ rv = .string (Jt.mkS (prsL (gs.drop k) ++ [125])) ∧ mv = .bool true ∧ Hid (OwF 39 w.heap.size lv (gs.take k) wr) ∧ Hid (Below w.heap.size w wr)) (fun _ rv _ _ => strY rv)
    case atStart => exact ⟨0, hlp, rfl, rfl, Lib.hid (World.ownsRow_nil _ _ _ _), Lib.hid (Below.refl _ _)⟩
    case round =>
      obtain ⟨k, hk, rfl, rfl, HO, HB⟩ := hrel
      have HTK : Hid (gs.take (k + 1) = gs.take k ++ [gs[k]]) := List.take_succ_eq_append_getElem hk
      have hfl : (gs.take k).length ≤ 100 := by rw [List.length_take]; omega
      generalize gs.take k = fs at HO HTK hfl
      obtain ⟨ao, cp, hv⟩ := own_lenF HO.out
      subst hv
      have hdr : gs.drop k = gs[k] :: gs.drop (k + 1) := List.drop_eq_getElem_cons hk
      have hgx := HG.out gs[k] (List.getElem_mem hk)
      have hszk : (prsL (gs.drop k)).length ≤ 4000 := Nat.le_trans (prs_drop gs k) hs
      have hkl : gs.length = k + 1 + (gs.drop (k + 1)).length := by rw [List.length_drop]; omega
      rw [hdr] at hszk ⊢
      clear hdr
      obtain ⟨⟨xa, xb⟩, hx⟩ : ∃ x : FB, gs[k] = x := ⟨_, rfl⟩
      rw [hx] at hszk HTK hgx ⊢
      clear hx
      obtain ⟨g1, g2, _⟩ := bad_vld hgx
      simp only at g1 g2
      have HDT : Hid (∀ y t', gs.drop (k + 1) = y :: t' → k + 1 < gs.length) := fun y t' e => by
        have := congrArg List.length e
        rw [List.length_drop, List.length_cons] at this
        omega
      obtain ⟨t, ht⟩ : ∃ t, t = gs.drop (k + 1) := ⟨_, rfl⟩
      rw [← ht] at hszk hkl HDT ⊢
      have HTT := Lib.hid ht
      have hpb := prs_bh (xa, xb) t
      have hplen := congrArg List.length hpb
      simp only [List.length_append, List.length_cons, List.length_nil] at hplen
      have hrz : (Jt.mkS (prsL ((xa, xb) :: t) ++ [125])).size ≤ 4001 := by rw [Jt.size_mkS, List.length_append]; show _ + 1 ≤ _; omega
      have hna : Jt.mkS xa.data.toList = xa := (Jt.mkS_of rfl).symm
      have hnb : Jt.mkS xb.data.toList = xb := (Jt.mkS_of rfl).symm
      obtain ⟨bh, hbh⟩ : ∃ bh, bh = Jt.mkS (quoL xb.data.toList ++ bhL t) := ⟨_, rfl⟩
      have hbd : bh.data.toList = quoL xb.data.toList ++ bhL t := by rw [hbh]; rfl
      have HSC : Hid (∀ W, Calls Tryz.prog 35 #[.string (Jt.mkS (prsL ((xa, xb) :: t) ++ [125])), .string ⟨#[61]⟩] W fun e w' => e = .returned (.tuple #[.string xa, .string bh, .bool (decide ((61 : UInt8) ∈ prsL ((xa, xb) :: t) ++ [125]))]) ∧ ∃ n, w' = W.drewN n) := fun W => by
        refine (scut_c (Jt.mkS (prsL ((xa, xb) :: t) ++ [125])) 61 W (by omega)).mono ?_
        rintro e w' ⟨he, n, hw⟩
        refine ⟨?_, n, hw⟩
        rw [he]
        unfold cutV
        rw [mk_data, cut_prs t g2, hbh]
        simp only [hna]
      have hbz : bh.size ≤ 4001 := by rw [Lib.size_eq, hbd, List.length_append]; omega
      have htok : tokA bh.data.toList 0 = (⟨7, 0, (quoL xb.data.toList).length, xb.data.toList, 0⟩, 0) := by rw [hbd]; exact tok_quo _ g1
      have HNX : Hid (∀ W, Env W → Calls Tryz.prog 36 #[.string bh, .int .i64 0] W fun e w' => e = .returned (.tuple #[.agg #[.int .i64 7, .int .i64 0, .int .i64 ((quoL xb.data.toList).length : Nat), .string xb, .int .i64 0], .int .i64 0]) ∧ Below W.heap.size W w') := fun W h => by
        have := Next_c bh 0 W h (by omega) (Nat.zero_le _)
        rw [htok] at this
        unfold tkV tokV ret2 at this
        simp only [hnb] at this
        exact this
      have htb1 : (quoL xb.data.toList).length ≤ bh.size := by rw [Lib.size_eq, hbd, List.length_append]; omega
      have HEX : Hid (bh.extract (quoL xb.data.toList).length bh.size = Jt.mkS (bhL t)) := by
        show _ = _
        rw [extN, hbd, List.drop_left]
      clear hbh hbd htok hna hnb hpb hplen hgx g1 g2
      revert HNX htb1 HEX
      generalize (quoL xb.data.toList).length = tb
      intro HNX htb1 HEX
      generalize decide ((61 : UInt8) ∈ prsL ((xa, xb) :: t) ++ [125]) = fd at HSC
      have htI : (tb : Int) ≤ (bh.size : Int) := by omega
      have htI0 : (0 : Int) ≤ (tb : Int) := by omega
      have HMS : Hid (∀ y t', t = y :: t' → (prsL (y :: t') ++ [125]).length < (Jt.mkS (prsL ((xa, xb) :: t) ++ [125])).size) := fun y t' e => by
        have h := congrArg List.length (prs_bh (xa, xb) t)
        rw [e, bh_cons] at h
        rw [Jt.size_mkS, e]
        simp only [List.length_append, List.length_cons, List.length_nil] at h ⊢
        omega
      generalize Jt.mkS (prsL ((xa, xb) :: t) ++ [125]) = rr at HSC HMS hrz ⊢
      have HKL := Lib.hid hkl
      clear ht hkl hszk
      go_wp2_with (go_at_call 35; (with_reducible refine (HSC.out _).mono ?_); rintro e w' ⟨rfl, n, rfl⟩)
      have HBD : Hid (Below w.heap.size w (wr.drewN n)) := HB.out.trans ((bdrN wr n).mono HB.out.size)
      have HOD := Lib.hid (HO.out.go (bdrN wr n))
      generalize wr.drewN n = wd at HBD HOD ⊢
      clear HO HB HSC
      go_wp2_with fail
      refine (HNX.out wd (HE.out.go HBD.out)).mono ?_
      rintro e w2 ⟨rfl, hb2⟩
      have HB2 : Hid (Below w.heap.size w w2) := HBD.out.trans (hb2.mono HBD.out.size)
      have HO2 := Lib.hid (HOD.out.go hb2)
      clear hb2 HNX HBD HOD
      obtain ⟨W2, hW2, hk2, hb2⟩ : ∃ W2, W2 = w2.alloc (.cells #[.int .i64 7, .int .i64 0, .int .i64 tb, .string xb, .int .i64 0] 72) ∧ W2.heap[w2.heap.size]? = some (.cells #[.int .i64 7, .int .i64 0, .int .i64 tb, .string xb, .int .i64 0] 72 (0, 0)) ∧ Below w2.heap.size w2 W2 := ⟨_, rfl, heap_alloc_new w2 _, (Below.refl _ _).alloc (Nat.le_refl _) _⟩
      obtain ⟨W3, hW3, hk3, hb3⟩ : ∃ W3, W3 = W2.alloc (.cells #[.string xa, .string xb] 39) ∧ W3.heap[W2.heap.size]? = some (.cells #[.string xa, .string xb] 39 (0, 0)) ∧ Below W2.heap.size W2 W3 := ⟨_, rfl, heap_alloc_new W2 _, (Below.refl _ _).alloc (Nat.le_refl _) _⟩
      have hl2 : w2.heap.size < W2.heap.size := (Array.getElem?_eq_some_iff.1 hk2).1
      have HW2 := Lib.hid hW2
      have HW3 := Lib.hid hW3
      have HB3 : Hid (Below w.heap.size w W3) := HB2.out.trans ((hb2.trans (hb3.mono hb2.size)).mono HB2.out.size)
      have HT3 : Hid (W3.heap[w2.heap.size]? = some (.cells #[.int .i64 7, .int .i64 0, .int .i64 tb, .string xb, .int .i64 0] 72 (0, 0))) := (hb3.block _ hl2).trans hk2
      have HO3 := Lib.hid ((HO2.out.go hb2).go hb3)
      have HLT : Hid (∀ k', (Value.slice ao fs.length cp).ownBlock = some k' → w.heap.size ≤ k' ∧ k' < w2.heap.size) := HO2.out.lt
      have DC := Lib.hid (two_cell hk3)
      have hsz2 : W2.heap.size = w2.heap.size + 1 := by rw [hW2]; simp
      have D3 : Hid (fs.length + 1 ≤ maxLen) := by show _ ≤ _; unfold maxLen; omega
      have D4 : Hid ((fs.length + 1) * 32 ≤ 140737488355328) := by show _ ≤ _; omega
      have E1 : Hid (w.heap.size ≤ W3.heap.size) := HB3.out.size
      rw [hsz2] at DC
      clear hW2 hW3 hk2 hk3 hb2 hb3 hsz2
      go_wp2_with (at_builtin; rw [← HW2.out, ← HW3.out]; refine wpList_append_own _ rfl _ _ 23 rfl w.heap.size 39 ip _ 2 32 Tryz.underlying23 hip hpa hpb hpc rfl (by decide) _ _ _ rfl HO3.out ⟨w2.heap.size + 1, 0, none⟩ 1 1 [.string xa, .string xb] rfl rfl DC.out two_ok D3.out D4.out E1.out ?_)
      intro v1 V1 hown1 hgrow1 _
      have HBV : Hid (Below w.heap.size w V1) := HB3.out.grown hgrow1 HB3.out.size (fun k' hk' => (HLT.out k' hk').1)
      have HTV : Hid (V1.heap[w2.heap.size]? = some (.cells #[.int .i64 7, .int .i64 0, .int .i64 tb, .string xb, .int .i64 0] 72 (0, 0))) := (hgrow1.block _ (Array.getElem?_eq_some_iff.1 HT3.out).1 (fun e => by have := HLT.out _ e.symm; omega)).trans HT3.out
      have HOV : Hid (OwF 39 w.heap.size v1 (gs.take (k + 1)) V1) := by
        show OwF _ _ _ _ _
        rw [HTK.out]
        unfold OwF; rw [fC_snoc, List.length_append]
        exact hown1
      have d2 := cell_of_row _ _ 2 _ _ _ HTV.out
      clear hown1 hgrow1 HT3
      cases htc : t with
      | nil =>
        have hall : gs.take (k + 1) = gs := List.take_of_length_le (by have hkl := HKL.out; rw [htc, List.length_nil] at hkl; omega)
        rw [hall] at HOV
        have hq : ((bh.extract tb bh.size).toList == [125]) = true := by rw [Lib.toList_data, HEX.out, htc]; rfl
        clear hall
        go_wp2
        go_ret2
        exact ⟨_, rfl, HOV.out, HBV.out⟩
      | cons y t' =>
        have hk1 := HDT.out y t' htc
        have hxd : (bh.extract tb bh.size).data.toList = 44 :: (prsL (gs.drop (k + 1)) ++ [125]) := by rw [HEX.out, mk_data, ← HTT.out, htc, bh_cons]
        have hq : ((bh.extract tb bh.size).toList == [125]) = false := by
          rw [Lib.toList_data, hxd]
          exact beq_eq_false_iff_ne.2 (fun e => by injection e with e _; exact absurd e (by decide))
        have HPX := Lib.hid (pre_c (bh.extract tb bh.size) ⟨#[44]⟩)
        have e1 : (⟨(Lib.trimPrefix (bh.extract tb bh.size).data.toList (ByteArray.mk #[44]).data.toList).toArray⟩ : ByteArray) = Jt.mkS (prsL (gs.drop (k + 1)) ++ [125]) := by
          rw [hxd]
          show (⟨(Lib.trimPrefix (44 :: (prsL (gs.drop (k + 1)) ++ [125])) [44]).toArray⟩ : ByteArray) = _
          rw [(trim_one _ _).1]; rfl
        have e2 : Lib.hasPrefix (bh.extract tb bh.size).data.toList (ByteArray.mk #[44]).data.toList = true := by rw [hxd]; exact (trim_one _ _).2
        rw [e1, e2] at HPX
        have hms : (Jt.mkS (prsL (gs.drop (k + 1)) ++ [125])).size < rr.size := by
          have h := HMS.out y t' htc
          rw [Jt.size_mkS, ← HTT.out, htc]
          exact h
        clear e1 e2 hxd
        go_wp2_with (go_at_call 34; (with_reducible refine (HPX.out _).mono ?_); rintro e w5 ⟨rfl, hw⟩; rw [hw]; clear hw)
        go_roundw
        case rel => exact ⟨k + 1, hk1, rfl, rfl, HOV, HBV⟩
        case measure => exact hms
end Go.Proofs.YtcknlnphgndaoaaGreatDoor.Lb
namespace Go.Proofs.YtcknlnphgndaoaaGreatDoor.Lb
open Go.RowKit Ch Jt
set_option linter.unusedSimpArgs false
set_option linter.unusedVariables false

theorem rd_setY {a b : Option Addr} {n c l m q : Nat} {gs : List FB} {w : World} {T : TypeId} {v : Value} (h : RdF (.slice a n c) gs w) (hk : w.heap[q]? = some (.cells #[.slice b l m] T (0, 0))) : RdF (.slice a n c) gs (w.setCell ⟨q, 0, none⟩ v) := by
  obtain ⟨ao, cp, e, hh⟩ := h
  refine ⟨ao, cp, e, fun h0 => ?_⟩
  obtain ⟨g, off, rfl, hg, hat⟩ := hh h0
  have hne : g ≠ q := by
    rintro rfl
    have h1 := (hat 0 h0).1
    rw [cell_of_row _ _ _ _ _ _ hk] at h1
    cases off with
    | zero => simp at h1
    | succ k => simp at h1
  refine ⟨g, off, rfl, by simpa using hg, fun i hi => ?_⟩
  obtain ⟨a0, a1⟩ := hat i hi
  exact ⟨by rw [World.cell?_setCell_other _ _ _ _ (by intro h; injection h with h; exact hne h.symm)]; exact a0, by rw [World.cell?_setCell_other _ _ _ _ (by intro h; injection h with h; exact hne h.symm)]; exact a1⟩
/-- a set's pairs, as Of makes them -/
structure IsSet (gs : List FB) : Prop where
  a : ofA gs = gs
  z : ofZ gs = 0
  good : ∀ x ∈ gs, badB x = false
  few : gs.length ≤ 6
  short : ∀ x ∈ gs, x.1.size ≤ 20 ∧ x.2.size ≤ 30
theorem isSet_of {fs : List FB} (h : ofZ fs = 0) (hf : fs.length ≤ 6) (hs : ∀ x ∈ fs, x.1.size ≤ 20 ∧ x.2.size ≤ 30) : IsSet (ofA fs) := by
  have hg : ∀ x ∈ ofA fs, badB x = false := fun x hx => (ofA_mem hx).2
  have hb : ¬ (ofA fs).any badB = true := by
    rw [List.any_eq_true]
    rintro ⟨x, hx, hb⟩
    rw [hg x hx] at hb; cases hb
  have ho : ofA fs = srtL fs ∧ Onc fs := by
    unfold ofZ at h
    unfold ofA
    by_cases h1 : fs.any badB = true
    · rw [if_pos h1] at h; exact absurd h (by decide)
    · rw [if_neg h1] at h ⊢
      by_cases h2 : Onc fs
      · rw [if_pos h2]; exact ⟨rfl, h2⟩
      · rw [if_neg h2] at h; exact absurd h (by decide)
  have hon : Onc (ofA fs) := by rw [ho.1]; exact (onc_iff (srt_perm fs)).2 ho.2
  have has : Asc (ofA fs) := by rw [ho.1]; exact srt_asc fs
  refine ⟨?_, ?_, hg, Nat.le_trans (ofA_len fs) hf, fun x hx => hs x (ofA_mem hx).1⟩
  · clear ho hg
    revert hb hon has
    generalize ofA fs = gg
    intro hb hon has
    unfold ofA
    rw [if_neg hb, if_pos hon]
    exact (srt_one (List.Perm.refl _) has hon).symm
  · unfold ofZ; rw [if_neg hb, if_pos hon]
theorem one_lenY {x : FB} (h : x.1.size ≤ 20 ∧ x.2.size ≤ 30) : (oneL x).length ≤ 203 := by
  have h1 := quL_len x.2.data.toList
  have h2 := Lib.size_eq x.1
  have h3 := Lib.size_eq x.2
  unfold oneL quoL
  simp only [List.length_append, List.length_cons, List.length_nil]
  omega
theorem prs_lenY : ∀ {gs : List FB}, (∀ x ∈ gs, x.1.size ≤ 20 ∧ x.2.size ≤ 30) → (prsL gs).length ≤ 204 * gs.length := by
  intro gs
  cases gs with
  | nil => intro _; simp [prsL]
  | cons x r =>
    intro h
    have h1 := one_lenY (h x (by simp))
    have h2 : ∀ l : List FB, (∀ y ∈ l, y.1.size ≤ 20 ∧ y.2.size ≤ 30) → (l.flatMap fun y => 44 :: oneL y).length ≤ 204 * l.length := by
      intro l
      induction l with
      | nil => intro _; simp
      | cons y s ih =>
        intro hs
        have a := one_lenY (hs y (by simp))
        have b := ih (fun z hz => hs z (by simp [hz]))
        rw [List.flatMap_cons, List.length_append]
        simp only [List.length_cons]
        omega
    have h3 := h2 r (fun y hy => h y (by simp [hy]))
    rw [prsL, List.length_append]
    simp only [List.length_cons]
    omega
theorem IsSet.txt {gs : List FB} (h : IsSet gs) : (prsL gs).length ≤ 4000 := by
  have := prs_lenY h.short
  have := h.few
  omega
def PyQ (gs : List FB) (w : World) (e : Ending) (w' : World) : Prop := ∃ (ao : Option Addr) (cap : Nat), e = .returned (.tuple #[.agg #[.slice ao gs.length cap], .int .i64 0]) ∧ RdF (.slice ao gs.length cap) gs w' ∧ Below w.heap.size w w'
theorem pyq_ok {gs : List FB} {ao : Option Addr} {cap : Nat} {w w' : World} (h : RdF (.slice ao gs.length cap) gs w') (hb : Below w.heap.size w w') : PyQ gs w (.returned (.tuple #[.agg #[.slice ao gs.length cap], .int .i64 0])) w' := ⟨ao, cap, rfl, h, hb⟩
set_option maxRecDepth 100000 in
set_option maxHeartbeats 2000000 in
theorem Parse_s (gs : List FB) (w : World) (hE : Ev w) (hE2 : Env w) (hS : IsSet gs) : Calls Tryz.prog 7 #[.string (Jt.mkS (txtL gs))] w (PyQ gs w) := by
  obtain ⟨W0, hW0, hk0, hb0⟩ : ∃ W0, W0 = w.alloc (.cells #[.slice none 0 0] 27) ∧ W0.heap[w.heap.size]? = some (.cells #[.slice none 0 0] 27 (0, 0)) ∧ Below w.heap.size w W0 := ⟨_, rfl, heap_alloc_new w _, (Below.refl _ _).alloc (Nat.le_refl _) _⟩
  have hl0 : w.heap.size < W0.heap.size := (Array.getElem?_eq_some_iff.1 hk0).1
  have HW0 := Lib.hid hW0
  have HK0 := Lib.hid hk0
  have HB0 := Lib.hid hb0
  have HE := Lib.hid hE
  have hfew := hS.few
  have HPO := Lib.hid (pairsOf_s gs W0 (hE2.go hb0) hS.good (by omega) hS.txt)
  have HSS := Lib.hid hS
  clear hW0 hk0 hb0 hE hE2 hS
  go_enter Tryz.func7, Tryz.ntmps7
  go_wp2_with fail
  rw [← HW0.out]
  clear HW0
  (with_reducible refine HPO.out.mono ?_)
  rintro e w1 ⟨v, rfl, ho, hb1⟩
  have HB1 : Hid (Below w.heap.size w w1) := HB0.out.trans (hb1.mono HB0.out.size)
  have HK1 : Hid (w1.heap[w.heap.size]? = some (.cells #[.slice none 0 0] 27 (0, 0))) := (hb1.block _ hl0).trans HK0.out
  obtain ⟨a1, c1, hv⟩ := own_lenF ho
  subst hv
  have HR1 := Lib.hid ho.rd
  clear ho hb1 HPO
  have HOF := Lib.hid (Of_c (.slice a1 gs.length c1) gs w1 (HE.out.go HB1.out) HR1.out (by omega) (fun x hx => by have := HSS.out.short x hx; exact ⟨by omega, by omega⟩))
  have hlw : w.heap.size < w1.heap.size := (Array.getElem?_eq_some_iff.1 HK1.out).1
  go_wp2_with fail
  (with_reducible refine HOF.out.mono ?_)
  intro e w2 h2
  have h3 := of_uni h2
  rw [HSS.out.a, HSS.out.z] at h3
  obtain ⟨a2, c2, hpl, rfl, hr2, hb2⟩ := h3
  obtain ⟨W3, hW3, hk3, hbw3⟩ : ∃ W3, W3 = w2.alloc (.cells #[.slice a2 gs.length c2] 27) ∧ W3.heap[w2.heap.size]? = some (.cells #[.slice a2 gs.length c2] 27 (0, 0)) ∧ Below w2.heap.size w2 W3 := ⟨_, rfl, heap_alloc_new w2 _, (Below.refl _ _).alloc (Nat.le_refl _) _⟩
  have hl2 : w.heap.size < w2.heap.size := Nat.lt_of_lt_of_le hlw hb2.size
  have HB3 : Hid (Below w.heap.size w W3) := HB1.out.trans ((hb2.trans (hbw3.mono hb2.size)).mono HB1.out.size)
  have HK3 : Hid (W3.heap[w.heap.size]? = some (.cells #[.slice none 0 0] 27 (0, 0))) := (hbw3.block _ hl2).trans ((hb2.block _ hlw).trans HK1.out)
  have HR3 := Lib.hid (hr2.go hbw3)
  have HW3 := Lib.hid hW3
  have HT3 := Lib.hid hk3
  have d1 := cell_of_row _ _ 0 _ _ _ HT3.out
  clear h2 hr2 hb2 hW3 hk3 hbw3 hpl HOF
  have HSC := Lib.hid (String_c a2 c2 gs W3 (HE.out.go HB3.out) HR3.out (by omega) (fun x hx => by have := HSS.out.short x hx; exact ⟨by omega, by omega⟩) (fun x hx => (bad_vld (HSS.out.good x hx)).1))
  revert HSC
  generalize Jt.mkS (txtL gs) = tx
  intro HSC
  go_wp2_with fail
  rw [← HW3.out]
  clear HW3
  (with_reducible refine HSC.out.mono ?_)
  rintro e w4 ⟨rfl, hb4⟩
  have HB4 : Hid (Below w.heap.size w w4) := HB3.out.trans (hb4.mono HB3.out.size)
  have HK4 : Hid (w4.heap[w.heap.size]? = some (.cells #[.slice none 0 0] 27 (0, 0))) := (hb4.block _ (Array.getElem?_eq_some_iff.1 HK3.out).1).trans HK3.out
  have HT4 : Hid (w4.heap[w2.heap.size]? = some (.cells #[.slice a2 gs.length c2] 27 (0, 0))) := (hb4.block _ (Array.getElem?_eq_some_iff.1 HT3.out).1).trans HT3.out
  have HR4 := Lib.hid (HR3.out.go hb4)
  clear hb4 d1 HSC HR3 HT3 HK3
  have d0 := cell_of_row _ _ 0 _ _ _ HK4.out
  have z0 := frz HK4.out 0
  have d1 := cell_of_row _ _ 0 _ _ _ HT4.out
  have e0 := cell_of_row _ _ 0 _ _ _ (set1 (.slice a2 gs.length c2) HK4.out)
  have HBS : Hid (Below w.heap.size w (w4.setCell ⟨w.heap.size, 0, none⟩ (.slice a2 gs.length c2))) := HB4.out.setCell (p := ⟨w.heap.size, 0, none⟩) (Nat.le_refl _) _
  have HRS := Lib.hid (rd_setY (v := .slice a2 gs.length c2) HR4.out HK4.out)
  go_wp2
  (with_reducible refine bodyPost_ret (v := .tuple #[.agg #[.slice a2 gs.length c2], .int .i64 0]) (by simp [results, Tryz.results7, go_sem, e0]) rfl (pyq_ok HRS.out HBS.out))
set_option maxRecDepth 100000 in
set_option maxHeartbeats 4000000 in
theorem RSame_b (a1 a2 : Option Addr) (c1 c2 : Nat) (xs ys : List FB) (w : World) (hA : RdF (.slice a1 xs.length c1) xs w) (hB : RdF (.slice a2 ys.length c2) ys w) (hm : xs.length ≤ 1000) (hm2 : ys.length ≤ 1000) :
    Calls Tryz.prog 10 #[.slice a1 xs.length c1, .slice a2 ys.length c2] w fun e w' => e = .returned (.bool (decide (xs = ys))) ∧ Below w.heap.size w w' := by
  have HA := Lib.hid hA
  have HB := Lib.hid hB
  clear hA hB
  by_cases hl : xs.length = ys.length
  · rw [← hl] at HB ⊢
    have HL := Lib.hid hl
    clear hl hm2
    go_enter Tryz.func10, Tryz.ntmps10
    go_wp2
    go_loopw [13] (fun v wr => ∃ j : Nat, j ≤ xs.length ∧ v = .int .i64 j ∧ Hid (∀ i (h : i < xs.length) (h2 : i < ys.length), i < j → xs[i] = ys[i]) ∧ Hid (Below w.heap.size w wr)) (fun v _ => xs.length - (intOf v).toNat)
    case atStart => exact ⟨0, by omega, rfl, Lib.hid (fun i _ _ h => absurd h (Nat.not_lt_zero _)), Lib.hid (Below.refl _ _)⟩
    case round =>
      obtain ⟨j, hj, rfl, HE, HBW⟩ := hrel
      by_cases hlt : j < xs.length
      · have hlt2 : j < ys.length := by have := HL.out; omega
        obtain ⟨g1, o1, rfl, hg1, hat1⟩ := rdf_at2 (HA.out.go HBW.out) (by omega)
        obtain ⟨g2, o2, rfl, hg2, hat2⟩ := rdf_at2 (HB.out.go HBW.out) (by omega)
        obtain ⟨p0, p1⟩ := hat1 j hlt
        obtain ⟨q0, q1⟩ := hat2 j hlt2
        have hj0 : (0 : Int) ≤ (j : Int) := by omega
        have hjl : (j : Int) < (xs.length : Int) := by omega
        have hN := fun W => neqR xs[j].1 xs[j].2 ys[j].1 ys[j].2 W
        clear hat1 hat2
        by_cases heq : xs[j] = ys[j]
        · have HE2 : Hid (∀ i (h : i < xs.length) (h2 : i < ys.length), i < j + 1 → xs[i] = ys[i]) := fun i h h2 hh => by
            rcases Nat.lt_succ_iff_lt_or_eq.1 hh with g | g
            · exact HE.out i h h2 g
            · subst g; exact heq
          rw [decide_eq_true ((fb_eq xs[j] ys[j]).2 heq)] at hN
          clear heq
          revert p0 p1 q0 q1 hN
          generalize xs[j].1 = xa
          generalize xs[j].2 = xb
          generalize ys[j].1 = ya
          generalize ys[j].2 = yb
          intro p0 p1 q0 q1 hN
          go_wp2_with fail
          go_quiet (fail)
          go_wp2
          go_roundw
          case rel => exact ⟨j + 1, by omega, by go_num, HE2, Lib.hid (HBW.out.trans ((bdrN wr _).mono HBW.out.size))⟩
          case measure => simp [intOf]; omega
        · have HNE : Hid (xs ≠ ys) := fun e => heq (by subst e; rfl)
          rw [decide_eq_false (fun hh => heq ((fb_eq xs[j] ys[j]).1 hh))] at hN
          clear heq
          revert p0 p1 q0 q1 hN
          generalize xs[j].1 = xa
          generalize xs[j].2 = xb
          generalize ys[j].1 = ya
          generalize ys[j].2 = yb
          intro p0 p1 q0 q1 hN
          go_wp2_with fail
          go_quiet (fail)
          go_wp2
          go_ret
          exact ⟨Ch.ret_bool (decide_eq_false HNE.out).symm, HBW.out.trans ((bdrN wr _).mono HBW.out.size)⟩
      · have HEQ : Hid (xs = ys) := List.ext_getElem HL.out (fun i h h2 => HE.out i h h2 (by omega))
        go_wp2
        go_ret
        exact ⟨Ch.ret_bool (decide_eq_true HEQ.out).symm, HBW.out⟩
  · have HNE : Hid (xs ≠ ys) := fun e => hl (by subst e; rfl)
    have h1 : ((xs.length : Int) == (ys.length : Int)) = false := beq_eq_false_iff_ne.2 (by omega)
    have h2 : ¬ (xs.length : Int) = (ys.length : Int) := by omega
    go_enter Tryz.func10, Tryz.ntmps10
    go_wp2
    go_ret
    exact ⟨Ch.ret_bool (decide_eq_false HNE.out).symm, Below.refl _ _⟩
end Go.Proofs.YtcknlnphgndaoaaGreatDoor.Lb
