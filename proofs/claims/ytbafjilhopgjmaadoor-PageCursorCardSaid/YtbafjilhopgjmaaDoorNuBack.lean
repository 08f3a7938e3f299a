/- What is read of a number's digits is the number; no condition. -/
import Derived.Test.YtbafjilhopgjmaaDoorNuPrintN
namespace Go.Proofs.YtbafjilhopgjmaaDoor.Nu
open Go.RowKit
set_option linter.unusedSimpArgs false
set_option linter.unusedVariables false

theorem dig_ok (m : Nat) (h : m < 10) : hvU (UInt8.ofNat (48 + m)) = (m : Int) ∧ okD 10 (UInt8.ofNat (48 + m)) = true := by
  have e := byte_48 m h
  have hv1 : hvU (UInt8.ofNat (48 + m)) = (m : Int) := by unfold hvU hv; rw [e, if_pos (by omega)]; omega
  refine ⟨hv1, decide_eq_true ?_⟩
  rw [hv1]; omega
theorem dec_val : ∀ (f u : Nat), u < f → val 10 (Lib.decDigits u) = (u : Int) ∧ (Lib.decDigits u).all (okD 10) = true ∧ Lib.decDigits u ≠ [] ∧ (1 ≤ u → (Lib.decDigits u).getD 0 0 ≠ 48) := by
  intro f
  induction f with
  | zero => intro u h; omega
  | succ f ih =>
    intro u hf
    by_cases h : u < 10
    · rw [dec_small h]
      obtain ⟨a, b⟩ := dig_ok u h
      refine ⟨by rw [val_cons, a]; simp [val], by rw [List.all_cons, b]; rfl, by simp, fun h1 => ?_⟩
      show UInt8.ofNat (48 + u) ≠ 48
      intro e
      have := byte_48 u h
      rw [e] at this
      have e48 : ((48 : UInt8).toNat : Int) = 48 := rfl
      omega
    · rw [dec_big h]
      obtain ⟨a, b⟩ := dig_ok (u % 10) (by omega)
      obtain ⟨i1, i2, i3, i4⟩ := ih (u / 10) (by omega)
      refine ⟨by rw [val_snoc, a, i1]; omega, by rw [List.all_append, i2, List.all_cons, b]; rfl, by simp, fun h1 => ?_⟩
      have := i4 (by omega)
      cases e : Lib.decDigits (u / 10) with
      | nil => exact absurd e i3
      | cons c t => rw [e] at this; simpa [List.getD] using this
theorem dec_bad (u : Nat) : badB (Lib.decDigits u) = false := by
  apply decide_eq_false
  rintro ⟨h1, h2⟩
  obtain ⟨_, _, _, h4⟩ := dec_val (u + 1) u (by omega)
  by_cases h : u < 10
  · rw [dec_small h] at h1; simp at h1
  · exact h4 (by omega) h2
theorem itoa_back (n : Int) (h0 : -9223372036854775808 ≤ n) (h1 : n ≤ 9223372036854775807) : pN (Lib.itoa n) = n ∧ pE (Lib.itoa n) = 0 := by
  unfold Lib.itoa
  split
  · rename_i h
    obtain ⟨v1, v2, v3, _⟩ := dec_val (n.natAbs + 1) n.natAbs (by omega)
    have e1 : negB (45 :: Lib.decDigits n.natAbs) = true := by rw [neg_cons]; rfl
    have e2 : bodyL (45 :: Lib.decDigits n.natAbs) = Lib.decDigits n.natAbs := by rw [body_cons]; rfl
    have hr := rd_yes (M := 9223372036854775808) ⟨v3, v2⟩ (by rw [v1]; omega)
    unfold pN pE
    rw [e1, e2, dec_bad, hr.1, hr.2, v1]
    refine ⟨?_, rfl⟩
    show -((n.natAbs : Nat) : Int) = n
    omega
  · rename_i h
    obtain ⟨v1, v2, v3, _⟩ := dec_val (n.toNat + 1) n.toNat (by omega)
    have := p_digits v3 v2 (dec_bad _) (by rw [v1]; omega)
    rw [this.1, this.2, v1]
    exact ⟨by omega, rfl⟩
theorem itoa_len (n : Int) (h0 : -9223372036854775808 ≤ n) (h1 : n ≤ 9223372036854775807) : (mkS (Lib.itoa n)).size ≤ 1000 := by
  have e : (10 : Nat) ^ (19 + 1) = 100000000000000000000 := by decide
  rw [size_mkS]
  unfold Lib.itoa
  split
  · have := dec_len 19 n.natAbs (by omega); simp; omega
  · have := dec_len 19 n.toNat (by omega); omega
theorem pN_bd (l : List UInt8) : -9223372036854775808 ≤ pN l ∧ pN l ≤ 9223372036854775807 := by
  unfold pN
  have h1 := rdN_bd 10 9223372036854775808 (.inl rfl) (by decide) (bodyL l)
  have h2 := rdN_bd 10 9223372036854775807 (.inl rfl) (by decide) (bodyL l)
  split
  · omega
  · split <;> omega
end Go.Proofs.YtbafjilhopgjmaaDoor.Nu
