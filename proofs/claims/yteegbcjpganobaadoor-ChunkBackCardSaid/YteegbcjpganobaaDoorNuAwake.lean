/- Contract of PutHex of package num, of every number; what is read of a number's digits; the chapter's own examples hold: awake returns true; where the tables lie as the program's text lays them. -/
import Derived.Test.YteegbcjpganobaaDoorNuBits
namespace Go.Proofs.YteegbcjpganobaaDoor.Nu
open Go.RowKit
set_option linter.unusedSimpArgs false
set_option linter.unusedVariables false

theorem fmt16_c (u : Nat) (w : World) (hu : u ≤ 9223372036854775807) (hT : Tabs w) : Calls Tryd.prog 23 #[.int .i64 (u : Int), .int .i64 16] w fun e w' => e = .returned (.string (mkS (hexL u))) ∧ Below w.heap.size w w' := by
  have HF := Lib.hid (fbits_c u w hu hT)
  have h0 : 0 ≤ (u : Int) := by omega
  have h1 : (u : Int) ≤ 9223372036854775807 := by omega
  clear hT
  go_enter Tryd.func23, Tryd.ntmps23
  go_wp2_with fail
  refine HF.out.mono ?_
  rintro e w1 ⟨rfl, hb1⟩
  have B1 := Lib.hid hb1
  clear hb1
  go_wp2
  go_ret
  exact ⟨rfl, B1.out⟩
theorem fmt16_o (u : Nat) (w : World) (hu : u ≤ 9223372036854775807) (hT : Tabs w) : Calls Tryd.prog 19 #[.int .i64 (u : Int), .int .i64 16] w fun e w' => e = .returned (.string (mkS (hexL u))) ∧ Below w.heap.size w w' := by
  have HF := Lib.hid (fmt16_c u w hu hT)
  clear hT
  go_enter Tryd.func19, Tryd.ntmps19
  go_wp2_with fail
  refine HF.out.mono ?_
  rintro e w1 ⟨rfl, hb1⟩
  have B1 := Lib.hid hb1
  clear hb1
  go_wp2
  go_ret
  exact ⟨rfl, B1.out⟩
theorem puthex_pos (u : Nat) (w : World) (hu : u ≤ 9223372036854775807) (hT : Tabs w) : Calls Tryd.prog 12 #[.int .i64 (u : Int)] w fun e w' => e = .returned (.string (mkS (hexL u))) ∧ Below w.heap.size w w' := by
  have HF := Lib.hid (fmt16_o u w hu hT)
  have h0 : 0 ≤ (u : Int) := by omega
  clear hT
  go_enter Tryd.func12, Tryd.ntmps12
  go_wp2_with fail
  refine HF.out.mono ?_
  rintro e w1 ⟨rfl, hb1⟩
  have B1 := Lib.hid hb1
  clear hb1
  go_wp2
  go_ret
  exact ⟨rfl, B1.out⟩
theorem puthex_neg (n : Int) (w : World) (h : n < 0) : Calls Tryd.prog 12 #[.int .i64 n] w fun e w' => e = .returned (.string ⟨#[]⟩) ∧ w = w' := by
  go_enter Tryd.func12, Tryd.ntmps12
  go_wp2
  go_ret
  exact ⟨rfl, rfl⟩

/-- what is read of a number's digits -/
theorem hxd_hv : ∀ m : Fin 16, hvU (hxd m.val) = (m.val : Int) := by decide +kernel
theorem hxd_ok (m : Nat) (h : m < 16) : hvU (hxd m) = (m : Int) ∧ okD 16 (hxd m) = true := by
  have := hxd_hv ⟨m, h⟩
  simp only [] at this
  refine ⟨this, decide_eq_true ?_⟩
  rw [this]; omega
theorem hex_val : ∀ (f u : Nat), u < f → val 16 (hexL u) = (u : Int) ∧ (hexL u).all (okD 16) = true := by
  intro f
  induction f with
  | zero => intro u h; omega
  | succ f ih =>
    intro u hf
    by_cases h : u < 16
    · rw [hex_one h]
      obtain ⟨a, b⟩ := hxd_ok u h
      exact ⟨by rw [val_cons, a]; simp [val], by simp [b]⟩
    · rw [hex_more h]
      obtain ⟨a, b⟩ := hxd_ok (u % 16) (by omega)
      obtain ⟨i1, i2⟩ := ih (u / 16) (by omega)
      refine ⟨by rw [val_snoc, a, i1]; omega, by rw [List.all_append, i2]; simp [b]⟩
theorem dig_ok (m : Nat) (h : m < 10) : hvU (UInt8.ofNat (48 + m)) = (m : Int) ∧ okD 10 (UInt8.ofNat (48 + m)) = true := by
  have e := byte_48 m h
  have hv1 : hvU (UInt8.ofNat (48 + m)) = (m : Int) := by unfold hvU hv; rw [e, if_pos (by omega)]; omega
  refine ⟨hv1, decide_eq_true ?_⟩
  rw [hv1]; omega
theorem dec_val : ∀ (f u : Nat), u < f → val 10 (Lib.decDigits u) = (u : Int) ∧ (Lib.decDigits u).all (okD 10) = true ∧ Lib.decDigits u ≠ [] ∧ (1 ≤ u → (Lib.decDigits u).getD 0 0 ≠ 48) := by
  intro f
  induction f with
  | zero => intro u h; omega
  | succ f ih =>
    intro u hf
    by_cases h : u < 10
    · rw [dec_small h]
      obtain ⟨a, b⟩ := dig_ok u h
      refine ⟨by rw [val_cons, a]; simp [val], by rw [List.all_cons, b]; rfl, by simp, fun h1 => ?_⟩
      show UInt8.ofNat (48 + u) ≠ 48
      intro e
      have := byte_48 u h
      rw [e] at this
      have e48 : ((48 : UInt8).toNat : Int) = 48 := rfl
      omega
    · rw [dec_big h]
      obtain ⟨a, b⟩ := dig_ok (u % 10) (by omega)
      obtain ⟨i1, i2, i3, i4⟩ := ih (u / 10) (by omega)
      refine ⟨by rw [val_snoc, a, i1]; omega, by rw [List.all_append, i2, List.all_cons, b]; rfl, by simp, fun h1 => ?_⟩
      have := i4 (by omega)
      cases e : Lib.decDigits (u / 10) with
      | nil => exact absurd e i3
      | cons c t => rw [e] at this; simpa [List.getD] using this
theorem dec_bad (u : Nat) : badB (Lib.decDigits u) = false := by
  apply decide_eq_false
  rintro ⟨h1, h2⟩
  obtain ⟨_, _, _, h4⟩ := dec_val (u + 1) u (by omega)
  by_cases h : u < 10
  · rw [dec_small h] at h1; simp at h1
  · exact h4 (by omega) h2
theorem itoa_back (n : Int) (h0 : -9223372036854775808 ≤ n) (h1 : n ≤ 9223372036854775807) : pN (Lib.itoa n) = n ∧ pE (Lib.itoa n) = 0 := by
  unfold Lib.itoa
  split
  · rename_i h
    obtain ⟨v1, v2, v3, _⟩ := dec_val (n.natAbs + 1) n.natAbs (by omega)
    have e1 : negB (45 :: Lib.decDigits n.natAbs) = true := by rw [neg_cons]; rfl
    have e2 : bodyL (45 :: Lib.decDigits n.natAbs) = Lib.decDigits n.natAbs := by rw [body_cons]; rfl
    have hr := rd_yes (M := 9223372036854775808) ⟨v3, v2⟩ (by rw [v1]; omega)
    unfold pN pE
    rw [e1, e2, dec_bad, hr.1, hr.2, v1]
    refine ⟨?_, rfl⟩
    show -((n.natAbs : Nat) : Int) = n
    omega
  · rename_i h
    obtain ⟨v1, v2, v3, _⟩ := dec_val (n.toNat + 1) n.toNat (by omega)
    have := p_digits v3 v2 (dec_bad _) (by rw [v1]; omega)
    rw [this.1, this.2, v1]
    exact ⟨by omega, rfl⟩
theorem itoa_len (n : Int) (h0 : -9223372036854775808 ≤ n) (h1 : n ≤ 9223372036854775807) : (mkS (Lib.itoa n)).size ≤ 10000 := by
  have e : (10 : Nat) ^ (19 + 1) = 100000000000000000000 := by decide
  rw [size_mkS]
  unfold Lib.itoa
  split
  · have := dec_len 19 n.natAbs (by omega); simp; omega
  · have := dec_len 19 n.toNat (by omega); omega

theorem aw1 : pN [45, 48] = 0 ∧ pE [45, 48] = 0 := by decide +kernel
theorem aw2 : pN [48, 49] = 0 ∧ pE [48, 49] = 3 := by decide +kernel
theorem aw3 : rdN 16 2147483647 [102, 70] = 255 ∧ rdE 16 2147483647 [102, 70] = 0 := by decide +kernel
theorem aw4 : Lib.itoa (-7) = [45, 55] := by
  unfold Lib.itoa
  rw [if_pos (by decide), show (-7 : Int).natAbs = 7 from rfl, dec_small (by decide)]
  rfl
end Go.Proofs.YteegbcjpganobaaDoor.Nu
