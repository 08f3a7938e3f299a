/- What a text's beginning tells as a body in chunks, but that more bytes are needed, it tells with whatever stands behind it: plain lists. -/
import Derived.Test.YteegbcjpganobaaDoorCkRun
namespace Go.Proofs.YteegbcjpganobaaDoor.Hd
open Go.RowKit Ch
set_option linter.unusedSimpArgs false
set_option linter.unusedVariables false

theorem pre_app {l m : List UInt8} (h : Lib.hasPrefix l [13, 10] = true) : Lib.hasPrefix (l ++ m) [13, 10] = true := by
  unfold Lib.hasPrefix at *
  exact List.isPrefixOf_iff_prefix.2 ((List.isPrefixOf_iff_prefix.1 h).trans (List.prefix_append l m))
theorem pre_no {l m : List UInt8} (h : Lib.hasPrefix l [13, 10] = false) (h2 : Lib.hasPrefix [13, 10] l = false) : Lib.hasPrefix (l ++ m) [13, 10] = false ∧ Lib.hasPrefix [13, 10] (l ++ m) = false := by
  unfold Lib.hasPrefix at *
  match l, h, h2 with
  | [], h, h2 => simp [List.isPrefixOf] at h2
  | [x], h, h2 => 
    simp only [List.isPrefixOf, Bool.and_true, beq_eq_false_iff_ne, ne_eq] at h2
    have h3 : ¬ (13 : UInt8) = x := fun e => h2 e.symm
    cases m <;> simp [List.isPrefixOf, h2, h3]
  | x :: y :: r, h, h2 =>
    simp only [List.isPrefixOf, Bool.and_true, List.cons_append] at h h2 ⊢
    refine ⟨by simpa using h, ?_⟩
    cases r with
    | nil => 
      simp only [List.isPrefixOf, Bool.and_true] at h2
      cases m with
      | nil => simpa [List.isPrefixOf] using h2
      | cons u v => simp [List.isPrefixOf]
    | cons u v => simp [List.isPrefixOf]
theorem stp_app {l : List UInt8} {a b c : Int} {x : MS} (m : List UInt8) (h : Inv x l.length) (hd : x.kd < 4) (hn : ¬ ((stp l a b c x).kd = 4 ∧ (stp l a b c x).st = 1)) : stp (l ++ m) a b c x = stp l a b c x := by
  obtain ⟨kd, k, sz, n, bd, st⟩ := x
  obtain ⟨hk, hb, h0, h1, h2⟩ := h
  simp only at hk hb h0 h1 h2 hd
  match kd, hd with
  | 0, _ =>
    have e : nxE l k a 400 ≠ .error 1 := fun e => hn (by unfold stp; simp only; rw [e]; exact ⟨rfl, rfl⟩)
    unfold stp
    simp only
    rw [nx_app m hk e]
    cases hj : nxE l k a 400 with
    | error st => rfl
    | ok j =>
      have hr := nx_room hk hj
      simp only
      rw [take_app m (by omega)]
  | 1, _ =>
    have h2 := h2 rfl
    have e : ¬ (l.length : Int) < (k : Int) + sz := fun e => hn (by unfold stp; simp only; rw [if_pos e]; exact ⟨rfl, rfl⟩)
    unfold stp
    simp only
    rw [if_neg e, if_neg (by rw [List.length_append]; omega), take_app m (by omega)]
  | 2, _ =>
    have hdr : (l ++ m).drop k = l.drop k ++ m := List.drop_append_of_le_length hk
    unfold stp at hn ⊢
    simp only at hn ⊢
    rw [hdr]
    cases e1 : Lib.hasPrefix (l.drop k) [13, 10] with
    | true => rw [pre_app e1]; rfl
    | false =>
      rw [e1] at hn
      cases e2 : Lib.hasPrefix [13, 10] (l.drop k) with
      | true => rw [e2] at hn; exact absurd ⟨rfl, rfl⟩ hn
      | false => rw [(pre_no e1 e2).1, (pre_no e1 e2).2]
  | 3, _ =>
    have e : nxE l k a 431 ≠ .error 1 := fun e => hn (by unfold stp; simp only; rw [e]; exact ⟨rfl, rfl⟩)
    unfold stp
    simp only
    rw [nx_app m hk e]
    cases hj : nxE l k a 431 with
    | error st => rfl
    | ok j =>
      have hr := nx_room hk hj
      simp only
      rw [take_app m (by omega)]
theorem mach_app : ∀ (f f' : Nat) (l m : List UInt8) (a b c : Int) (x : MS), Inv x l.length → (x.kd = 4 ∨ l.length < x.k + f) → x.kd ≤ 4 → f ≤ f' → (mach l a b c f x).st ≠ 1 → mach (l ++ m) a b c f' x = mach l a b c f x
  | 0, f', l, m, a, b, c, x, hI, hf, h4, hff, h => by
    have hk := hI.hk
    have e : x.kd = 4 := by omega
    rw [mach_end (by omega), mach_end (by omega)]
  | f + 1, 0, _, _, _, _, _, _, _, _, _, hff, _ => by omega
  | f + 1, f' + 1, l, m, a, b, c, x, hI, hf, h4, hff, h => by
    by_cases hd : 4 ≤ x.kd
    · rw [mach_end hd, mach_end hd]
    · rw [mach, if_neg hd] at h ⊢
      rw [mach, if_neg hd]
      obtain ⟨hI2, hp, hkk⟩ := stp_inv (a := a) (b := b) (c := c) hI (by omega)
      have hn : ¬ ((stp l a b c x).kd = 4 ∧ (stp l a b c x).st = 1) := fun e => h (by rw [mach_end (by omega)]; exact e.2)
      rw [stp_app m hI (by omega) hn]
      exact mach_app f f' l m a b c _ hI2 (by rcases hp with h | h; exact .inl h; exact .inr (by omega)) (by omega) (by omega) h
theorem inv0 (N : Nat) : Inv x0 N := ⟨Nat.zero_le _, Nat.le_refl _, Int.le_refl _, Int.le_refl _, fun e => by cases e⟩
theorem mach_pl : ∀ (f : Nat) (l : List UInt8) (a b c : Int) (x : MS), Inv x l.length → (mach l a b c f x).k ≤ l.length
  | 0, l, a, b, c, x, hI => hI.hk
  | f + 1, l, a, b, c, x, hI => by
    by_cases hd : 4 ≤ x.kd
    · rw [mach_end hd]; exact hI.hk
    · rw [mach, if_neg hd]
      exact mach_pl f l a b c _ (stp_inv hI (by omega)).1
end Go.Proofs.YteegbcjpganobaaDoor.Hd
