/- Contracts of package chunk's Encode and of the document's: for every body of at most five hundred bytes and any size; where the tables lie as the program's text lays them. -/
import Derived.Test.YteegbcjpganobaaDoorCkEnc
import Derived.Test.YteegbcjpganobaaDoorNuAwake
import Derived.Test.YteegbcjpganobaaDoorJtBld
import Derived.BigQuiet
namespace Go.Proofs.YteegbcjpganobaaDoor.Hd
open Go.RowKit Ch
set_option linter.unusedSimpArgs false
set_option linter.unusedVariables false

theorem emp0 {s : ByteArray} (h : ¬ 0 < s.size) : s = ⟨#[]⟩ := by
  obtain ⟨⟨l⟩⟩ := s
  have : l.length = 0 := by
    have h2 : ¬ 0 < l.length := h
    omega
  rw [List.eq_nil_of_length_eq_zero this]
theorem ne0 {s : ByteArray} (h : 0 < s.size) : s.toList.isEmpty = false ∧ s.data.toList ≠ [] := by
  obtain ⟨⟨l⟩⟩ := s
  cases l with
  | nil => exact absurd h (Nat.lt_irrefl 0)
  | cons c r => exact ⟨by rw [Lib.toList_data]; rfl, by simp⟩
def strK : Value → Nat
  | .string s => s.size
  | _ => 0
theorem ext_data0 (s : ByteArray) (k : Nat) : (s.extract 0 k).data.toList = s.data.toList.take k := by rw [Lib.extract_data]; simp
theorem ext_dataN (s : ByteArray) (k : Nat) : (s.extract k s.size).data.toList = s.data.toList.drop k := by rw [Lib.extract_data, List.take_of_length_le (by rw [List.length_drop, ← Lib.size_eq]; exact Nat.le_refl _)]
theorem drewY (w : World) (a b : Nat) : (w.drewN a).drewN b = w.drewN (a + b) := by simp
theorem bdrN0 (W : World) (n : Nat) : Below W.heap.size W (W.drewN n) := ⟨rfl, rfl, rfl, Nat.le_refl _, fun _ _ => rfl⟩
set_option maxRecDepth 100000 in
set_option maxHeartbeats 1000000 in
theorem EncR_c : ∀ (f : Nat) (s : ByteArray) (size : Int) (w : World), s.size < f → s.size ≤ 500 →
    Calls Tryd.prog 6 #[.string s, .int .i64 size] w fun e w' => e = .returned (.string (mkS (encC (max size 1).toNat s.data.toList))) ∧ ∃ n, w' = w.drewN n := by
  intro f
  induction f with
  | zero => intro s size w h; exact absurd h (Nat.not_lt_zero _)
  | succ f ih =>
    intro s size w hf hs
    by_cases h0 : 0 < s.size
    · obtain ⟨he, hne⟩ := ne0 h0
      obtain ⟨N, hN⟩ : ∃ N, N = (max size 1).toNat := ⟨_, rfl⟩
      have hN1 : 1 ≤ N := by omega
      have hsl := Lib.size_eq s
      obtain ⟨m, hm⟩ : ∃ m, m = min N s.size := ⟨_, rfl⟩
      have hm1 : 1 ≤ m := by omega
      have hm2 : m ≤ s.size := by omega
      have HH := Lib.hid (fun W => Nu.puthexR_pos (m + 1) m W (by omega) (by omega))
      have hrs : (s.extract m s.size).size < f := by rw [ByteArray.size_extract]; omega
      have HI : Hid (∀ z : Int, (max z 1).toNat = N → ∀ W, Calls Tryd.prog 6 #[.string (s.extract m s.size), .int .i64 z] W fun e w' => e = .returned (.string (mkS (encC N (s.data.toList.drop m)))) ∧ ∃ n, w' = W.drewN n) := fun z hz W => by
        have := ih (s.extract m s.size) z W hrs (by rw [ByteArray.size_extract]; omega)
        rw [hz, ext_dataN] at this
        exact this
      have HR : Hid (mkS (encC N s.data.toList) = ((Nu.mkS (Nu.hexL m) ++ ⟨#[13, 10]⟩ ++ s.extract 0 m ++ ⟨#[13, 10]⟩ ++ mkS (encC N (s.data.toList.drop m)) : ByteArray))) := by
        show _ = _
        symm
        apply mkS_of
        rw [encC_cons hN1 hne, ← hsl, ← hm]
        have ht : s.data.toList.take N = s.data.toList.take m := by
          rw [hm]
          by_cases hh : N ≤ s.size
          · rw [Nat.min_eq_left hh]
          · rw [Nat.min_eq_right (by omega), List.take_of_length_le (by omega), List.take_of_length_le (by omega)]
        have hd : s.data.toList.drop N = s.data.toList.drop m := by
          rw [hm]
          by_cases hh : N ≤ s.size
          · rw [Nat.min_eq_left hh]
          · rw [Nat.min_eq_right (by omega), List.drop_eq_nil_of_le (by omega), List.drop_eq_nil_of_le (by omega)]
        rw [ht, hd]
        have e0 := ext_data0 s m
        simp [Ch.mkS, Nu.mkS, e0]
      have hxz : (Nu.mkS (Nu.hexL m)).size ≤ 3 := by
        have := (hex_ok (z := m) (by omega)).2.1
        rw [Nu.size_mkS]; exact this
      have hrz : (mkS (encC N (s.data.toList.drop m))).size ≤ 4100 := by
        have := enc_len ((s.data.toList.drop m).length + 1) N (s.data.toList.drop m) hN1 (by rw [List.length_drop]; omega)
        rw [List.length_drop] at this
        rw [size_mkS]
        unfold encC
        rw [List.length_drop]
        omega
      have hcz : (ByteArray.mk #[13, 10]).size = 2 := rfl
      rw [← hN, HR.out]
      generalize Nu.mkS (Nu.hexL m) = hx at HH hxz ⊢
      generalize mkS (encC N (s.data.toList.drop m)) = rc at HI hrz ⊢
      have hmI : (0 : Int) ≤ (m : Int) := by omega
      have hmS : (m : Int) ≤ (s.size : Int) := by omega
      have hsz0 : (0 : Int) < (s.size : Int) := by omega
      clear hne ih hf hrs HR hsl
      by_cases h1 : size < 1
      · have hN0 : N = 1 := by omega
        have HI1 := Lib.hid (HI.out 1 (by rw [hN0]; decide))
        by_cases hgt : (1 : Int) < (s.size : Int)
        · have hm0 : m = 1 := by omega
          subst hm0
          have HH1 : Hid (∀ W, Calls Tryd.prog 14 #[.int .i64 1] W fun e w' => e = .returned (.string hx) ∧ W = w') := HH.out
          have hmS1 : (1 : Int) ≤ (s.size : Int) := by omega
          clear HI HH hN hN0 hm hmI hmS
          go_enter Tryd.func6, Tryd.ntmps6
          go_wp2
          go_quiet (first | ((with_reducible refine (HH1.out _).mono ?_); rintro e w' ⟨rfl, hw⟩; exact ⟨rfl, _, hw.symm⟩) | ((with_reducible refine (HI1.out _).mono ?_); rintro e w' ⟨rfl, n, rfl⟩; exact ⟨rfl, _, drewY _ _ _⟩))
          go_wp2
          go_ret
          exact ⟨rfl, _, rfl⟩
        · have hms : s.size = m := by omega
          have HH1 := HH
          have hex : s.extract m s.size = ByteArray.empty := by rw [hms]; simp
          rw [hex] at HI1
          clear hex
          clear HI HH hN hN0 hm
          go_enter Tryd.func6, Tryd.ntmps6
          go_wp2
          go_quiet (first | ((with_reducible refine (HH1.out _).mono ?_); rintro e w' ⟨rfl, hw⟩; exact ⟨rfl, _, hw.symm⟩) | ((with_reducible refine (HI1.out _).mono ?_); rintro e w' ⟨rfl, n, rfl⟩; exact ⟨rfl, _, drewY _ _ _⟩))
          go_wp2
          go_ret
          exact ⟨rfl, _, rfl⟩
      · have HI1 := Lib.hid (HI.out size (by rw [hN]))
        have HH1 := HH
        by_cases hgt : size < (s.size : Int)
        · have hms : size = (m : Int) := by omega
          subst hms
          clear HI HH hN hm
          go_enter Tryd.func6, Tryd.ntmps6
          go_wp2
          go_quiet (first | ((with_reducible refine (HH1.out _).mono ?_); rintro e w' ⟨rfl, hw⟩; exact ⟨rfl, _, hw.symm⟩) | ((with_reducible refine (HI1.out _).mono ?_); rintro e w' ⟨rfl, n, rfl⟩; exact ⟨rfl, _, drewY _ _ _⟩))
          go_wp2
          go_ret
          exact ⟨rfl, _, rfl⟩
        · have hms : s.size = m := by omega
          have hex : s.extract m s.size = ByteArray.empty := by rw [hms]; simp
          rw [hex] at HI1
          clear hex
          clear HI HH hN hm
          go_enter Tryd.func6, Tryd.ntmps6
          go_wp2
          go_quiet (first | ((with_reducible refine (HH1.out _).mono ?_); rintro e w' ⟨rfl, hw⟩; exact ⟨rfl, _, hw.symm⟩) | ((with_reducible refine (HI1.out _).mono ?_); rintro e w' ⟨rfl, n, rfl⟩; exact ⟨rfl, _, drewY _ _ _⟩))
          go_wp2
          go_ret
          exact ⟨rfl, _, rfl⟩
    · obtain rfl := emp0 h0
      have hE : encC (max size 1).toNat (ByteArray.mk #[]).data.toList = [48, 13, 10, 13, 10] := encC_nil _
      rw [hE]
      by_cases h1 : size < 1
      · go_enter Tryd.func6, Tryd.ntmps6
        go_wp2
        go_ret
        exact ⟨rfl, 0, rfl⟩
      · go_enter Tryd.func6, Tryd.ntmps6
        go_wp2
        go_ret
        exact ⟨rfl, 0, rfl⟩
end Go.Proofs.YteegbcjpganobaaDoor.Hd
