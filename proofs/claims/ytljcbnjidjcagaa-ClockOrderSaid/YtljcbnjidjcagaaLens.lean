/- Contracts of leap, leaps, length and ahead of package clock, and of the document's own Leap, Year and Length: for years from 0 to 20000 (Length: and months from 1 to 12). -/
import Derived.Test.YtljcbnjidjcagaaRows
import Derived.Test.YtljcbnjidjcagaaCal
import Derived.WalkKit
import Derived.WalkSpells
import Derived.Lib.Hide
import Derived.Lib.Strings
namespace Go.Proofs.Ytljcbnjidjcagaa
open Go.RowKit
set_option linter.unusedSimpArgs false
set_option linter.unusedVariables false

theorem ret_bool {a b : Bool} (h : a = b) : Ending.returned (.bool a) = .returned (.bool b) := by rw [h]
theorem ret_int {k : IntKind} {a b : Int} (h : a = b) : Ending.returned (.int k a) = .returned (.int k b) := by rw [h]

theorem leap_c (y : Int) (w : World) (h0 : 0 ≤ y) (h1 : y ≤ 20000) : Calls Try.prog 26 #[.int .i64 y] w fun e w' => e = .returned (.bool (lp y)) ∧ w = w' := by
  unfold lp
  by_cases a : y % 4 = 0
  · by_cases b : y % 100 = 0
    · by_cases c : y % 400 = 0
      · have A := Lib.hid a; have B := Lib.hid b; have C := Lib.hid c
        have a1 : (y % 4 == 0) = true := by simp [a]
        have b1 : (y % 100 != 0) = false := by simp [b]
        have c1 : (y % 400 == 0) = true := by simp [c]
        clear a b c
        go_enter Try.func26, Try.ntmps26
        go_wp2
        go_ret
        exact ⟨ret_bool (by simp [A.out, B.out, C.out]), rfl⟩
      · have A := Lib.hid a; have B := Lib.hid b; have C := Lib.hid c
        have a1 : (y % 4 == 0) = true := by simp [a]
        have b1 : (y % 100 != 0) = false := by simp [b]
        have c1 : (y % 400 == 0) = false := by simp [c]
        clear a b c
        go_enter Try.func26, Try.ntmps26
        go_wp2
        go_ret
        exact ⟨ret_bool (by simp [A.out, B.out, C.out]), rfl⟩
    · have A := Lib.hid a; have B := Lib.hid b
      have a1 : (y % 4 == 0) = true := by simp [a]
      have b1 : (y % 100 != 0) = true := by simp [b]
      clear a b
      go_enter Try.func26, Try.ntmps26
      go_wp2
      go_ret
      exact ⟨ret_bool (by simp [A.out, B.out]), rfl⟩
  · have A := Lib.hid a
    have a1 : (y % 4 == 0) = false := by simp [a]
    clear a
    go_enter Try.func26, Try.ntmps26
    go_wp2
    go_ret
    exact ⟨ret_bool (by simp [A.out]), rfl⟩

theorem leap_r (y : Int) (w : World) (h0 : 0 ≤ y) (h1 : y ≤ 20000) : Calls Try.prog 28 #[.int .i64 y] w fun e w' => e = .returned (.bool (lp y)) ∧ w = w' := by
  unfold lp
  by_cases c : y % 400 = 0
  · have C := Lib.hid c
    have c1 : (y % 400 == 0) = true := by simp [c]
    clear c
    go_enter Try.func28, Try.ntmps28
    go_wp2
    go_ret
    exact ⟨ret_bool (by have := C.out; symm; rw [decide_eq_true_eq]; omega), rfl⟩
  · by_cases a : y % 4 = 0
    · have A := Lib.hid a; have C := Lib.hid c
      have a1 : (y % 4 == 0) = true := by simp [a]
      have c1 : (y % 400 == 0) = false := by simp [c]
      clear a c
      go_enter Try.func28, Try.ntmps28
      go_wp2
      go_ret
      exact ⟨ret_bool (by have a := A.out; have c := C.out; rw [Bool.eq_iff_iff]; simp [a, c]; omega), rfl⟩
    · have A := Lib.hid a; have C := Lib.hid c
      have a1 : (y % 4 == 0) = false := by simp [a]
      have c1 : (y % 400 == 0) = false := by simp [c]
      clear a c
      go_enter Try.func28, Try.ntmps28
      go_wp2
      go_ret
      exact ⟨ret_bool (by simp [A.out]), rfl⟩

theorem leaps_c (y : Int) (w : World) (h0 : 0 ≤ y) (h1 : y ≤ 20000) : Calls Try.prog 27 #[.int .i64 y] w fun e w' => e = .returned (.int .i64 (lps y)) ∧ w = w' := by
  go_enter Try.func27, Try.ntmps27
  go_wp2
  go_ret
  exact ⟨ret_int (by unfold lps; rfl), rfl⟩

theorem lps_1969 : lps 1969 = 477 := by decide
theorem ahead_c (y : Int) (w : World) (h0 : 1000 ≤ y) (h1 : y ≤ 20000) : Calls Try.prog 18 #[.int .i64 y] w fun e w' => e = .returned (.int .i64 (ah y)) ∧ w = w' := by
  have hb : 0 ≤ lps (y - 1) ∧ lps (y - 1) ≤ 10000 := by unfold lps; omega
  obtain ⟨hb0, hb1⟩ := hb
  have H1 := Lib.hid (fun W => leaps_c (y - 1) W (by omega) (by omega))
  have H2 := Lib.hid (fun W => leaps_c 1969 W (by omega) (by omega))
  rw [lps_1969] at H2
  have HA : Hid (ah y = 365 * (y - 1970) + lps (y - 1) - 477) := rfl
  revert H1 hb0 hb1 HA
  generalize lps (y - 1) = q
  generalize ah y = a
  intro hb0 hb1 H1 HA
  go_enter Try.func18, Try.ntmps18
  go_wp2_with fail
  refine (H1.out _).mono ?_
  rintro e w' ⟨rfl, rfl⟩
  go_wp2_with fail
  refine (H2.out _).mono ?_
  rintro e w' ⟨rfl, rfl⟩
  go_wp2
  go_ret
  exact ⟨ret_int (by rw [HA.out]), rfl⟩
end Go.Proofs.Ytljcbnjidjcagaa
