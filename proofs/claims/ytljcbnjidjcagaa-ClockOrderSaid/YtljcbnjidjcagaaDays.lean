/- Contracts of length and Days of package clock, and of the document's own Year, Length and Days: Days of any three numbers. -/
import Derived.Test.YtljcbnjidjcagaaLens
namespace Go.Proofs.Ytljcbnjidjcagaa
open Go.RowKit
set_option linter.unusedSimpArgs false
set_option linter.unusedVariables false

theorem length_c (y m : Int) (w : World) (h0 : 0 ≤ y) (h1 : y ≤ 20000) : Calls Try.prog 17 #[.int .i64 y, .int .i64 m] w fun e w' => e = .returned (.int .i64 (len y m)) ∧ w = w' := by
  have HL := Lib.hid (fun W => leap_c y W h0 h1)
  by_cases e2 : m = 2
  · subst e2
    cases hl : lp y
    all_goals
      have HP := Lib.hid hl
      rw [hl] at HL
      clear hl
      go_enter Try.func17, Try.ntmps17
      go_wp2_with (go_at_call 26; refine (HL.out _).mono ?_; rintro e w' ⟨rfl, rfl⟩)
      go_ret
      exact ⟨ret_int (by unfold len; rw [HP.out]; rfl), rfl⟩
  · by_cases e4 : m = 4
    · subst e4
      go_enter Try.func17, Try.ntmps17
      go_wp2
      go_ret
      exact ⟨ret_int (by unfold len; rfl), rfl⟩
    by_cases e6 : m = 6
    · subst e6
      go_enter Try.func17, Try.ntmps17
      go_wp2
      go_ret
      exact ⟨ret_int (by unfold len; rfl), rfl⟩
    by_cases e9 : m = 9
    · subst e9
      go_enter Try.func17, Try.ntmps17
      go_wp2
      go_ret
      exact ⟨ret_int (by unfold len; rfl), rfl⟩
    by_cases e11 : m = 11
    · subst e11
      go_enter Try.func17, Try.ntmps17
      go_wp2
      go_ret
      exact ⟨ret_int (by unfold len; rfl), rfl⟩
    have HE : Hid (len y m = 31) := by show len y m = 31; unfold len; rw [if_neg e2, if_neg (by omega)]
    have f2 : (m == 2) = false := by simpa using e2
    have f4 : (m == 4) = false := by simpa using e4
    have f6 : (m == 6) = false := by simpa using e6
    have f9 : (m == 9) = false := by simpa using e9
    have f11 : (m == 11) = false := by simpa using e11
    clear e2 e4 e6 e9 e11 HL
    go_enter Try.func17, Try.ntmps17
    go_wp2
    go_ret
    exact ⟨ret_int (by rw [HE.out]), rfl⟩

theorem year_r (y : Int) (w : World) (h0 : 0 ≤ y) (h1 : y ≤ 20000) : Calls Try.prog 20 #[.int .i64 y] w fun e w' => e = .returned (.int .i64 (yl y)) ∧ w = w' := by
  have HL := Lib.hid (fun W => leap_r y W h0 h1)
  cases hl : lp y
  all_goals
    have HP := Lib.hid hl
    rw [hl] at HL
    clear hl
    go_enter Try.func20, Try.ntmps20
    go_wp2_with (go_at_call 28; refine (HL.out _).mono ?_; rintro e w' ⟨rfl, rfl⟩)
    go_ret
    exact ⟨ret_int (by unfold yl; rw [HP.out]; rfl), rfl⟩

def lensV : Array Value := #[.int .i64 0, .int .i64 31, .int .i64 28, .int .i64 31, .int .i64 30, .int .i64 31, .int .i64 30, .int .i64 31, .int .i64 31, .int .i64 30, .int .i64 31, .int .i64 30, .int .i64 31]
def len0 (m : Int) : Int := if m = 2 then 28 else if m = 4 ∨ m = 6 ∨ m = 9 ∨ m = 11 then 30 else 31
theorem lens_at (k : Nat) (h1 : 1 ≤ k) (h2 : k ≤ 12) : lensV[k]? = some (.int .i64 (len0 (k : Int))) := by
  match k, h1, h2 with
  | 1, _, _ | 2, _, _ | 3, _, _ | 4, _, _ | 5, _, _ | 6, _, _ | 7, _, _ | 8, _, _ | 9, _, _ | 10, _, _ | 11, _, _ | 12, _, _ => rfl
theorem lens_cell (w : World) (k : Nat) (h1 : 1 ≤ k) (h2 : k ≤ 12) : (w.alloc (.cells #[.int .i64 0, .int .i64 31, .int .i64 28, .int .i64 31, .int .i64 30, .int .i64 31, .int .i64 30, .int .i64 31, .int .i64 31, .int .i64 30, .int .i64 31, .int .i64 30, .int .i64 31] 3)).cell? ⟨w.heap.size, k, none⟩ = some (.int .i64 (len0 (k : Int))) := by
  rw [World.cell?_alloc_at _ _ _ _ rfl]
  exact lens_at k h1 h2

theorem length_r (y : Int) (k : Nat) (w : World) (h0 : 0 ≤ y) (h1 : y ≤ 20000) (k1 : 1 ≤ k) (k2 : k ≤ 12) : Calls Try.prog 19 #[.int .i64 y, .int .i64 (k : Int)] w fun e w' => e = .returned (.int .i64 (len y (k : Int))) ∧ Below w.heap.size w w' := by
  have HL := Lib.hid (fun W => leap_r y W h0 h1)
  have hc := lens_cell w k k1 k2
  have HB := Lib.hid ((Below.refl _ w).alloc (Nat.le_refl w.heap.size) (.cells #[.int .i64 0, .int .i64 31, .int .i64 28, .int .i64 31, .int .i64 30, .int .i64 31, .int .i64 30, .int .i64 31, .int .i64 31, .int .i64 30, .int .i64 31, .int .i64 30, .int .i64 31] 3))
  by_cases e2 : k = 2
  · subst e2
    cases hl : lp y
    all_goals
      have HP := Lib.hid hl
      rw [hl] at HL
      clear hl
      go_enter Try.func19, Try.ntmps19
      go_wp2_with (go_at_call 28; refine (HL.out _).mono ?_; rintro e w' ⟨rfl, rfl⟩)
      go_ret
      exact ⟨ret_int (by unfold len; rw [HP.out]; rfl), HB.out⟩
  · have f2 : ((k : Int) == 2) = false := by simp; omega
    have HE : Hid (len y (k : Int) = len0 (k : Int)) := by
      show len y (k : Int) = len0 (k : Int)
      have n2 : ¬ (k : Int) = 2 := by omega
      unfold len len0
      rw [if_neg n2, if_neg n2]
    clear e2 HL
    revert hc HE
    generalize len0 (k : Int) = z
    intro hc HE
    go_enter Try.func19, Try.ntmps19
    go_wp2
    go_ret
    exact ⟨ret_int (by rw [HE.out]), HB.out⟩

theorem ret2_int {k : IntKind} {a b : Int} {v : Value} (h : a = b) : Ending.returned (.tuple #[.int k a, v]) = .returned (.tuple #[.int k b, v]) := by rw [h]
set_option maxHeartbeats 1000000 in
theorem days_yes (y m d : Int) (w : World) (hv : vldB y m d = true) : Calls Try.prog 8 #[.int .i64 y, .int .i64 m, .int .i64 d] w fun e w' => e = .returned (.tuple #[.int .i64 (dayN y m d), .bool true]) ∧ w = w' := by
  obtain ⟨h1, h2, h3, h4, h5, h6⟩ := vld_of hv
  have hb := ah_bd y h1 (by omega)
  obtain ⟨hb0, hb1⟩ := hb
  have hL := len_bd y m
  obtain ⟨hL0, hL1⟩ := hL
  have HD : Hid (dayN y m d = ah y + cum y (m - 1).toNat + (d - 1)) := rfl
  have HA := Lib.hid (fun W => ahead_c y W (by omega) (by omega))
  clear hv
  go_enter Try.func8, Try.ntmps8
  go_wp2_with (first | (go_at_call 17; refine (length_c _ _ _ (by omega) (by omega)).mono ?_; rintro e w' ⟨rfl, rfl⟩) | (go_at_call 18; refine (HA.out _).mono ?_; rintro e w' ⟨rfl, rfl⟩))
  go_loop [8, 37] (fun n i => ∃ k : Nat, (k : Int) ≤ m - 1 ∧ i = .int .i64 k ∧ n = .int .i64 (ah y + cum y k)) (fun _ i => (m - intOf i).toNat)
  case atStart => exact ⟨0, by omega, rfl, by simp [cum]⟩
  case round =>
    obtain ⟨k, hk, rfl, rfl⟩ := hrel
    have cb := cum_bd y k
    obtain ⟨cb0, cb1⟩ := cb
    have hb := len_bd y ((k : Int) + 1)
    obtain ⟨hb2, hb3⟩ := hb
    have HS : Hid (cum y (k + 1) = cum y k + len y ((k : Int) + 1)) := rfl
    by_cases hlt : (k : Int) < m - 1
    · go_wp2_with (go_at_call 17; refine (length_c _ _ _ (by omega) (by omega)).mono ?_; rintro e w' ⟨rfl, rfl⟩)
      go_round
      case rel => exact ⟨k + 1, by omega, by go_num, by rw [HS.out]; go_num⟩
      case measure => simp [intOf]; omega
    · have HK : Hid ((m - 1).toNat = k) := by show (m - 1).toNat = k; omega
      go_wp2
      go_ret2
      exact ⟨ret2_int (by rw [HD.out, HK.out]), rfl⟩

set_option maxHeartbeats 1000000 in
theorem days_no (y m d : Int) (w : World) (hv : vldB y m d = false) : Calls Try.prog 8 #[.int .i64 y, .int .i64 m, .int .i64 d] w fun e w' => e = .returned (.tuple #[.int .i64 0, .bool false]) ∧ w = w' := by
  have hn := of_decide_eq_false hv
  clear hv
  by_cases a1 : y < 1970
  · clear hn
    go_enter Try.func8, Try.ntmps8
    go_wp2
    go_ret2
    exact ⟨rfl, rfl⟩
  by_cases a2 : 9999 < y
  · clear hn
    go_enter Try.func8, Try.ntmps8
    go_wp2
    go_ret2
    exact ⟨rfl, rfl⟩
  by_cases a3 : m < 1
  · clear hn
    go_enter Try.func8, Try.ntmps8
    go_wp2
    go_ret2
    exact ⟨rfl, rfl⟩
  by_cases a4 : 12 < m
  · clear hn
    go_enter Try.func8, Try.ntmps8
    go_wp2
    go_ret2
    exact ⟨rfl, rfl⟩
  by_cases a5 : d < 1
  · clear hn
    go_enter Try.func8, Try.ntmps8
    go_wp2
    go_ret2
    exact ⟨rfl, rfl⟩
  have a6 : len y m < d := by omega
  have b1 : 1970 ≤ y := by omega
  have b2 : y ≤ 9999 := by omega
  have b3 : 1 ≤ m := by omega
  have b4 : m ≤ 12 := by omega
  have b5 : 1 ≤ d := by omega
  clear hn a1 a2 a3 a4 a5
  go_enter Try.func8, Try.ntmps8
  go_wp2_with (go_at_call 17; refine (length_c _ _ _ (by omega) (by omega)).mono ?_; rintro e w' ⟨rfl, rfl⟩)
  go_ret2
  exact ⟨rfl, rfl⟩

set_option maxHeartbeats 1000000 in
theorem daysR_yes (y m d : Int) (w : World) (hv : vldB y m d = true) : Calls Try.prog 9 #[.int .i64 y, .int .i64 m, .int .i64 d] w fun e w' => e = .returned (.int .i64 (dayN y m d)) ∧ Below w.heap.size w w' := by
  obtain ⟨h1, h2, h3, h4, h5, h6⟩ := vld_of hv
  obtain ⟨M, rfl⟩ : ∃ M : Nat, m = M := ⟨m.toNat, by omega⟩
  have hL := len_bd y (M : Int)
  obtain ⟨hL0, hL1⟩ := hL
  have HD : Hid (dayN y M d = ah y + cum y ((M : Int) - 1).toNat + (d - 1)) := rfl
  have HL := Lib.hid (fun W => length_r y M W (by omega) (by omega) (by omega) (by omega))
  clear hv
  go_enter Try.func9, Try.ntmps9
  go_wp2_with fail
  refine (HL.out _).mono ?_
  rintro e w1 ⟨rfl, hb⟩
  have HB1 := Lib.hid hb
  clear hb HL
  go_wp2
  go_loop [7, 8] (fun n i => ∃ k : Int, 1970 ≤ k ∧ k ≤ y ∧ i = .int .i64 k ∧ n = .int .i64 (ah k + (d - 1))) (fun _ i => (y - intOf i).toNat)
  case atStart => exact ⟨1970, by omega, by omega, rfl, by rw [ah_1970]; simp⟩
  case round =>
    obtain ⟨k, hk, hk2, rfl, rfl⟩ := hrel
    obtain ⟨hb0, hb1⟩ := ah_bd k hk (by omega)
    have HS := Lib.hid (ah_succ k)
    have hy := yl_two k
    have hy0 : 365 ≤ yl k := by omega
    have hy1 : yl k ≤ 366 := by omega
    clear hy
    by_cases hlt : k < y
    · go_wp2_with (go_at_call 20; refine (year_r _ _ (by omega) (by omega)).mono ?_; rintro e w' ⟨rfl, rfl⟩)
      go_round
      case rel => exact ⟨k + 1, by omega, by omega, rfl, by rw [HS.out]; go_num⟩
      case measure => simp [intOf]; omega
    · obtain rfl : k = y := by omega
      clear HS hy0 hy1
      go_wp2
      go_loopw [7, 9] (fun n i wr => ∃ j : Nat, 1 ≤ j ∧ j ≤ M ∧ i = .int .i64 j ∧ n = .int .i64 (ah k + (d - 1) + cum k (j - 1)) ∧ Below w1.heap.size w1 wr) (fun _ i _ => M - (intOf i).toNat)
      case atStart => exact ⟨1, by omega, by omega, rfl, by simp [cum], Below.refl _ _⟩
      case round =>
        obtain ⟨j, hj1, hj2, rfl, rfl, hB⟩ := hrel
        have HB := Lib.hid hB
        clear hB
        obtain ⟨cb0, cb1⟩ := cum_bd k (j - 1)
        have hb := len_bd k (j : Int)
        obtain ⟨hb2, hb3⟩ := hb
        have HS : Hid (cum k j = cum k (j - 1) + len k (j : Int)) := by
          show cum k j = cum k (j - 1) + len k (j : Int)
          obtain ⟨i, rfl⟩ : ∃ i, j = i + 1 := ⟨j - 1, by omega⟩
          rfl
        by_cases hlt2 : j < M
        · have HL := Lib.hid (fun W => length_r k j W (by omega) (by omega) (by omega) (by omega))
          go_wp2_with fail
          refine (HL.out _).mono ?_
          rintro e w2 ⟨rfl, hb⟩
          have HB2 := Lib.hid hb
          clear hb HL
          go_wp2
          go_roundw
          case rel => exact ⟨j + 1, by omega, by omega, by go_num, by rw [Nat.add_sub_cancel, HS.out]; go_num, HB.out.trans (HB2.out.mono HB.out.size)⟩
          case measure => simp [intOf]; omega
        · obtain rfl : j = M := by omega
          have HK : Hid (((j : Int) - 1).toNat = j - 1) := by show ((j : Int) - 1).toNat = j - 1; omega
          go_wp2
          go_ret
          exact ⟨ret_int (by rw [HD.out, HK.out]; omega), HB1.out.trans (HB.out.mono HB1.out.size)⟩

set_option maxHeartbeats 1000000 in
theorem daysR_no (y m d : Int) (w : World) (hv : vldB y m d = false) : Calls Try.prog 9 #[.int .i64 y, .int .i64 m, .int .i64 d] w fun e w' => e = .returned (.int .i64 (-1)) ∧ Below w.heap.size w w' := by
  have hn := of_decide_eq_false hv
  clear hv
  by_cases a1 : y < 1970
  · clear hn
    go_enter Try.func9, Try.ntmps9
    go_wp2
    go_ret
    exact ⟨rfl, Below.refl _ _⟩
  by_cases a2 : 9999 < y
  · clear hn
    go_enter Try.func9, Try.ntmps9
    go_wp2
    go_ret
    exact ⟨rfl, Below.refl _ _⟩
  by_cases a3 : m < 1
  · clear hn
    go_enter Try.func9, Try.ntmps9
    go_wp2
    go_ret
    exact ⟨rfl, Below.refl _ _⟩
  by_cases a4 : 12 < m
  · clear hn
    go_enter Try.func9, Try.ntmps9
    go_wp2
    go_ret
    exact ⟨rfl, Below.refl _ _⟩
  by_cases a5 : d < 1
  · clear hn
    go_enter Try.func9, Try.ntmps9
    go_wp2
    go_ret
    exact ⟨rfl, Below.refl _ _⟩
  have a6 : len y m < d := by omega
  obtain ⟨M, rfl⟩ : ∃ M : Nat, m = M := ⟨m.toNat, by omega⟩
  have b1 : 1970 ≤ y := by omega
  have b2 : y ≤ 9999 := by omega
  have b3 : 1 ≤ (M : Int) := by omega
  have b4 : (M : Int) ≤ 12 := by omega
  have b5 : 1 ≤ d := by omega
  have HL := Lib.hid (fun W => length_r y M W (by omega) (by omega) (by omega) (by omega))
  clear hn a1 a2 a3 a4 a5
  go_enter Try.func9, Try.ntmps9
  go_wp2_with fail
  refine (HL.out _).mono ?_
  rintro e w1 ⟨rfl, hb⟩
  have HB1 := Lib.hid hb
  clear hb HL
  go_wp2
  go_ret
  exact ⟨rfl, HB1.out⟩
end Go.Proofs.Ytljcbnjidjcagaa
