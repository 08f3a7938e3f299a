/- Plain mathematics of JSON's tokens, fourth part: all tokens of a text, one behind the other; no program. -/
import Derived.Test.YtpgllcdcpdeicaaGreatDoorJtPub
namespace Go.Proofs.YtpgllcdcpdeicaaGreatDoor.Jt
set_option linter.unusedSimpArgs false
set_option linter.unusedVariables false

theorem unit_le' {l : List UInt8} {k : Nat} (hk : k < l.length) (h : (unitL l k).2 ≠ 0) : k + (unitL l k).2 ≤ l.length := by
  unfold unitL at h ⊢
  by_cases h1 : at0 l k < 32 ∨ at0 l k = 34
  · rw [if_pos h1] at h; exact absurd rfl h
  · rw [if_neg h1] at h ⊢
    by_cases h2 : at0 l k ≠ 92
    · rw [if_pos h2] at h ⊢
      by_cases h3 : runL l k = 0
      · rw [if_pos h3] at h; exact absurd rfl h
      · rw [if_neg h3]
        have := (Ut.nextW_k (nl (l.drop k))).1
        rw [nl_len, List.length_drop] at this
        show k + runL l k ≤ _
        unfold runL at h3 ⊢
        omega
    · rw [if_neg h2] at h ⊢; exact back_le l k h
theorem textF_bd (l : List UInt8) : ∀ (f k : Nat) (r : List UInt8 × Nat), textF l f k = some r → k < r.2 ∧ r.2 ≤ l.length
  | 0, k, r, h => by cases h
  | f + 1, k, r, h => by
    unfold textF at h
    by_cases h1 : l.length ≤ k
    · rw [if_pos h1] at h; cases h
    · rw [if_neg h1] at h
      by_cases h2 : at0 l k = 34
      · rw [if_pos h2] at h; cases h; show k < k + 1 ∧ k + 1 ≤ _; omega
      · rw [if_neg h2] at h
        by_cases h3 : (unitL l k).2 = 0
        · rw [if_pos h3] at h; cases h
        · rw [if_neg h3] at h
          cases hx : textF l f (k + (unitL l k).2) with
          | none => rw [hx] at h; cases h
          | some r' =>
            rw [hx] at h
            have := textF_bd l f _ r' hx
            cases h
            show k < r'.2 ∧ r'.2 ≤ _
            omega
theorem text_bd {l : List UInt8} {k : Nat} {r : List UInt8 × Nat} (h : textA l k = some r) : k < r.2 ∧ r.2 ≤ l.length := textF_bd l _ k r h
theorem endP_gt {p : UInt8 → Bool} {l : List UInt8} {k : Nat} (h : k < l.length) (hp : p l[k] = true) : k < endP p l k := by
  have := endP_ge p l (k + 1)
  rw [endP_yes h hp] at this
  omega
theorem tokP_bd {l : List UInt8} {p : Nat} (hp : p < l.length) (h : (tokP l p).2 = 0) : p < (tokP l p).1.b ∧ (tokP l p).1.b ≤ l.length := by
  unfold tokP at h ⊢
  by_cases h1 : sgnI (at0 l p) ≠ 0
  · rw [if_pos h1]; show p < p + 1 ∧ p + 1 ≤ _; omega
  · rw [if_neg h1] at h ⊢
    by_cases h2 : at0 l p = 34
    · rw [if_pos h2] at h ⊢
      cases hx : textA l (p + 1) with
      | none => rw [hx] at h; cases h
      | some r => have := text_bd hx; show p < r.2 ∧ r.2 ≤ _; omega
    · rw [if_neg h2] at h ⊢
      by_cases h3 : at0 l p = 45 ∨ Ch.digB (at0 l p) = true
      · rw [if_pos h3] at h ⊢
        by_cases h4 : Nu.pE (cutL l p (endP numB l p)) = 0
        · rw [if_pos h4]
          refine ⟨endP_gt hp ?_, endP_le (by omega)⟩
          unfold numB wordB
          rw [← at0_get hp]
          rcases h3 with g | g
          · rw [g]; decide
          · rw [g]; simp
        · rw [if_neg h4] at h; exact absurd h h4
      · rw [if_neg h3] at h ⊢
        by_cases h4 : wrdK (cutL l p (endP wordB l p)) = 0
        · rw [if_pos h4] at h; cases h
        · rw [if_neg h4]
          refine ⟨?_, endP_le (by omega)⟩
          show p < endP wordB l p
          rcases Nat.lt_or_ge p (endP wordB l p) with g | g
          · exact g
          · have : endP wordB l p = p := by have := endP_ge wordB l p; omega
            rw [this, cut_nil] at h4
            exact absurd rfl h4
theorem tokA_bd {l : List UInt8} {k : Nat} (hk : k ≤ l.length) (h : (tokA l k).2 = 0) : k < (tokA l k).1.b ∧ (tokA l k).1.b ≤ l.length := by
  unfold tokA at h ⊢
  by_cases h1 : l.length ≤ endP blkB l k
  · rw [if_pos h1] at h; cases h
  · rw [if_neg h1] at h ⊢
    have := tokP_bd (by omega) h
    have := endP_ge blkB l k
    omega
theorem allF_eq (l : List UInt8) : ∀ (f g k : Nat), k ≤ l.length → l.length + 1 ≤ k + f → l.length + 1 ≤ k + g → allF l f k = allF l g k
  | 0, g, k, hk, h, _ => by omega
  | f + 1, 0, k, hk, _, h => by omega
  | f + 1, g + 1, k, hk, h, h' => by
    unfold allF
    by_cases h1 : (tokA l k).2 = 6
    · rw [if_pos h1, if_pos h1]
    · rw [if_neg h1, if_neg h1]
      by_cases h2 : (tokA l k).2 ≠ 0
      · rw [if_pos h2, if_pos h2]
      · rw [if_neg h2, if_neg h2]
        have hb := tokA_bd hk (by omega)
        rw [allF_eq l f g _ hb.2 (by omega) (by omega)]
def allA (l : List UInt8) (k : Nat) : List Tok × Nat × Int := allF l (l.length + 1) k
theorem all_none {l : List UInt8} {k : Nat} (h : (tokA l k).2 = 6) : allA l k = ([], l.length, 0) := by unfold allA allF; rw [if_pos h]
theorem all_err {l : List UInt8} {k : Nat} (h : (tokA l k).2 ≠ 6) (h0 : (tokA l k).2 ≠ 0) : allA l k = ([], endP blkB l k, (tokA l k).2) := by unfold allA allF; rw [if_neg h, if_pos h0]
theorem all_step {l : List UInt8} {k : Nat} (hk : k ≤ l.length) (h0 : (tokA l k).2 = 0) : allA l k = ((tokA l k).1 :: (allA l (tokA l k).1.b).1, (allA l (tokA l k).1.b).2) := by
  have hb := tokA_bd hk h0
  conv => lhs; unfold allA allF
  rw [if_neg (by omega), if_neg (by omega), allF_eq l l.length (l.length + 1) _ hb.2 (by omega) (by omega)]
  rfl
/-- tokens as cells -/
def tkC (t : Tok) : List Value := [.int .i64 t.k, .int .i64 t.a, .int .i64 t.b, .string (mkS t.t), .int .i64 t.n]
def tksC (ts : List Tok) : List Value := ts.flatMap tkC
theorem tksC_snoc (ts : List Tok) (t : Tok) : tksC (ts ++ [t]) = tksC ts ++ tkC t := by unfold tksC; simp
theorem tksC_len (ts : List Tok) : (tksC ts).length = ts.length * 5 := by
  unfold tksC
  induction ts with
  | nil => rfl
  | cons t ts ih => rw [List.flatMap_cons, List.length_append, ih, List.length_cons]; show 5 + _ = _; omega
theorem tksC_at {ts : List Tok} {i : Nat} (h : i < ts.length) (j : Nat) (hj : j < 5) : (tksC ts)[i * 5 + j]? = (tkC ts[i])[j]? := by
  unfold tksC
  induction ts generalizing i with
  | nil => simp at h
  | cons t ts ih =>
    rw [List.flatMap_cons]
    match i, h with
    | 0, _ =>
      rw [List.getElem?_append_left (by show 0 * 5 + j < 5; omega)]
      simp
    | i + 1, h =>
      rw [List.getElem?_append_right (by show 5 ≤ (i + 1) * 5 + j; omega)]
      have e : (i + 1) * 5 + j - (tkC t).length = i * 5 + j := by show (i + 1) * 5 + j - 5 = _; omega
      rw [e]
      exact ih (by simpa using h)
end Go.Proofs.YtpgllcdcpdeicaaGreatDoor.Jt
