/- Contracts of Date of package clock, of any number, and of the document's own Date, of any number up to 4000000: the date ahead of which so many days stand, or that there is none. -/
import Derived.Test.YtljcbnjidjcagaaDays
namespace Go.Proofs.Ytljcbnjidjcagaa
open Go.RowKit
set_option linter.unusedSimpArgs false
set_option linter.unusedVariables false

/-- the call hands back the date ahead of which n days stand, and leaves the world alone -/
def DateIs (n : Int) (w : World) (e : Ending) (w' : World) : Prop := ∃ y m d : Int, vldB y m d = true ∧ dayN y m d = n ∧ e = .returned (.tuple #[.int .i64 y, .int .i64 m, .int .i64 d, .bool true]) ∧ w = w'
def DateRIs (n : Int) (w : World) (e : Ending) (w' : World) : Prop := ∃ y m d : Int, vldB y m d = true ∧ dayN y m d = n ∧ e = .returned (.tuple #[.int .i64 y, .int .i64 m, .int .i64 d]) ∧ Below w.heap.size w w'

theorem date_mk {n y : Int} {j : Nat} (hy1 : 1970 ≤ y) (hy2 : y ≤ 9999) (hj : j ≤ 11) (h0 : 0 ≤ n - ah y - cum y j) (h1 : n - ah y - cum y j < len y ((j : Int) + 1)) :
    vldB y ((j : Int) + 1) (n - ah y - cum y j + 1) = true ∧ dayN y ((j : Int) + 1) (n - ah y - cum y j + 1) = n := by
  refine ⟨vld_mk (by omega), ?_⟩
  unfold dayN
  have e : ((j : Int) + 1 - 1).toNat = j := by omega
  rw [e]
  omega

set_option maxHeartbeats 1000000 in
theorem date_no (n : Int) (w : World) (h : n < 0 ∨ 2932897 ≤ n) : Calls Try.prog 11 #[.int .i64 n] w fun e w' => e = .returned (.tuple #[.int .i64 0, .int .i64 0, .int .i64 0, .bool false]) ∧ w = w' := by
  have HA := Lib.hid (fun W => ahead_c 10000 W (by omega) (by omega))
  rw [ah_10000] at HA
  by_cases h0 : n < 0
  · clear h
    go_enter Try.func11, Try.ntmps11
    go_wp2
    exact bodyPost_ret (v := .tuple #[.int .i64 0, .int .i64 0, .int .i64 0, .bool false]) (by simp [results, Try.results11, go_sem]) rfl ⟨rfl, rfl⟩
  · have h1 : 2932897 ≤ n := by omega
    have h0' : 0 ≤ n := by omega
    clear h h0
    go_enter Try.func11, Try.ntmps11
    go_wp2_with (go_at_call 18; refine (HA.out _).mono ?_; rintro e w' ⟨rfl, rfl⟩)
    exact bodyPost_ret (v := .tuple #[.int .i64 0, .int .i64 0, .int .i64 0, .bool false]) (by simp [results, Try.results11, go_sem]) rfl ⟨rfl, rfl⟩

set_option maxHeartbeats 2000000 in
theorem date_yes (n : Int) (w : World) (h0 : 0 ≤ n) (h1 : n < 2932897) : Calls Try.prog 11 #[.int .i64 n] w (DateIs n w) := by
  have HA := Lib.hid (fun W => ahead_c 10000 W (by omega) (by omega))
  rw [ah_10000] at HA
  have HG : Hid (n < ah (1970 + n / 365 + 1)) := by show n < ah (1970 + n / 365 + 1); have := ah_lo (1970 + n / 365 + 1) (by omega); omega
  go_enter Try.func11, Try.ntmps11
  go_wp2_with (go_at_call 18; refine (HA.out _).mono ?_; rintro e w' ⟨rfl, rfl⟩)
  go_loop [6] (fun t => ∃ y : Int, 1970 ≤ y ∧ y ≤ 10010 ∧ n < ah (y + 1) ∧ t = .int .i64 y) (fun t => (intOf t - 1970).toNat)
  case atStart => exact ⟨_, by omega, by omega, HG.out, rfl⟩
  case round =>
    clear HG HA
    obtain ⟨y, hy1, hy2, hn, rfl⟩ := hrel
    have HN := Lib.hid hn
    clear hn
    have HY := Lib.hid (fun W => ahead_c y W (by omega) (by omega))
    obtain ⟨hb0, hb1⟩ := ah_bd y hy1 (by omega)
    by_cases hlt : n < ah y
    · have hy3 : 1971 ≤ y := by
        by_cases e : y = 1970
        · subst e; rw [ah_1970] at hlt; omega
        · omega
      go_wp2_with (go_at_call 18; refine (HY.out _).mono ?_; rintro e w' ⟨rfl, rfl⟩)
      go_round
      case rel => exact ⟨y - 1, by omega, by omega, by rw [show y - 1 + 1 = y by omega]; exact hlt, rfl⟩
      case measure => simp [intOf]; omega
    · have hy9 : y ≤ 9999 := by
        by_cases e : y ≤ 9999
        · exact e
        · have := ah_mono 10000 y (by omega); rw [ah_10000] at this; omega
      have hge : ah y ≤ n := by omega
      have HU : Hid (n - ah y < cum y 12) := by show n - ah y < cum y 12; have := HN.out; rw [ah_succ] at this; rw [cum_12]; omega
      clear hlt HN
      go_wp2_with (go_at_call 18; refine (HY.out _).mono ?_; rintro e w' ⟨rfl, rfl⟩)
      clear HY
      go_loop [7, 8, 30] (fun l m i => ∃ j : Nat, j ≤ 11 ∧ i = .int .i64 j ∧ m = .int .i64 ((j : Int) + 1) ∧ l = .int .i64 (n - ah y - cum y j) ∧ 0 ≤ n - ah y - cum y j) (fun _ _ i => 12 - (intOf i).toNat)
      case atStart => exact ⟨0, by omega, rfl, rfl, by simp [cum], by simp [cum]; omega⟩
      case round =>
        obtain ⟨j, hj, rfl, rfl, rfl, hnn⟩ := hrel
        obtain ⟨cb0, cb1⟩ := cum_bd y j
        obtain ⟨lb0, lb1⟩ := len_bd y ((j : Int) + 1)
        have HS : Hid (cum y (j + 1) = cum y j + len y ((j : Int) + 1)) := rfl
        by_cases hj2 : j < 11
        · by_cases hl : n - ah y - cum y j < len y ((j : Int) + 1)
          · have HM := Lib.hid (date_mk hy1 hy9 hj hnn hl)
            go_wp2_with (go_at_call 17; refine (length_c _ _ _ (by omega) (by omega)).mono ?_; rintro e w' ⟨rfl, rfl⟩)
            refine bodyPost_ret (v := .tuple #[.int .i64 y, .int .i64 ((j : Int) + 1), .int .i64 (n - ah y - cum y j + 1), .bool true]) (by simp [results, Try.results11, go_sem]) rfl ⟨_, _, _, HM.out.1, HM.out.2, rfl, rfl⟩
          · have hl2 : len y ((j : Int) + 1) ≤ n - ah y - cum y j := by omega
            clear hl
            go_wp2_with (go_at_call 17; refine (length_c _ _ _ (by omega) (by omega)).mono ?_; rintro e w' ⟨rfl, rfl⟩)
            go_round
            case rel => exact ⟨j + 1, by omega, by go_num, by go_num, by rw [HS.out]; go_num, by rw [HS.out]; omega⟩
            case measure => simp [intOf]; omega
        · obtain rfl : j = 11 := by omega
          have hl : n - ah y - cum y 11 < len y ((11 : Nat) + 1 : Int) := by have h2 := HU.out; have h3 := HS.out; rw [show (12 : Nat) = 11 + 1 from rfl, h3] at h2; omega
          have HM := Lib.hid (date_mk hy1 hy9 hj hnn hl)
          go_wp2
          refine bodyPost_ret (v := .tuple #[.int .i64 y, .int .i64 (((11 : Nat) : Int) + 1), .int .i64 (n - ah y - cum y 11 + 1), .bool true]) (by simp [results, Try.results11, go_sem]) rfl ⟨_, _, _, HM.out.1, HM.out.2, rfl, rfl⟩

set_option maxHeartbeats 2000000 in
theorem dateR_no (n : Int) (w : World) (h : n < 0 ∨ 2932897 ≤ n) (h9 : n ≤ 4000000) (h8 : -5 ≤ n) : Calls Try.prog 12 #[.int .i64 n] w fun e w' => e = .returned (.tuple #[.int .i64 0, .int .i64 0, .int .i64 0]) ∧ Below w.heap.size w w' := by
  by_cases h0 : n < 0
  · clear h
    go_enter Try.func12, Try.ntmps12
    go_wp2
    refine wp_loop_rounds 1 ?_
    rw [rounds_succ]
    go_wp2
    go_ret3
    exact ⟨rfl, Below.refl _ _⟩
  · have h1 : 2932897 ≤ n := by omega
    have h0' : 0 ≤ n := by omega
    clear h h0
    go_enter Try.func12, Try.ntmps12
    go_wp2
    go_loop [0, 5] (fun v t => ∃ y : Int, 1970 ≤ y ∧ y ≤ 10000 ∧ t = .int .i64 y ∧ v = .int .i64 (n - ah y)) (fun _ t => (10000 - intOf t).toNat)
    case atStart => exact ⟨1970, by omega, by omega, rfl, by rw [ah_1970]; simp⟩
    case round =>
      obtain ⟨y, hy1, hy2, rfl, rfl⟩ := hrel
      obtain ⟨hb0, hb1⟩ := ah_bd y hy1 (by omega)
      have HS := Lib.hid (ah_succ y)
      have hy := yl_two y
      have hy0 : 365 ≤ yl y := by omega
      have hy1' : yl y ≤ 366 := by omega
      clear hy
      by_cases hlt : y ≤ 9999
      · have hge : yl y ≤ n - ah y := by have a := ah_mono (y + 1) 10000 (by omega); rw [ah_10000] at a; have b := HS.out; omega
        have hnn : 0 ≤ n - ah y := by omega
        go_wp2_with (go_at_call 20; refine (year_r _ _ (by omega) (by omega)).mono ?_; rintro e w' ⟨rfl, rfl⟩)
        go_round
        case rel => exact ⟨y + 1, by omega, by omega, rfl, by rw [HS.out]; go_num⟩
        case measure => simp [intOf]; omega
      · have e : 9999 < y := by omega
        have hnn : 0 ≤ n - ah y := by obtain rfl : y = 10000 := by omega
                                      rw [ah_10000]; omega
        go_wp2
        go_ret3
        exact ⟨rfl, Below.refl _ _⟩

set_option maxHeartbeats 2000000 in
theorem dateR_yes (n : Int) (w : World) (h0 : 0 ≤ n) (h1 : n < 2932897) : Calls Try.prog 12 #[.int .i64 n] w (DateRIs n w) := by
  go_enter Try.func12, Try.ntmps12
  go_wp2
  go_loop [0, 5] (fun v t => ∃ y : Int, 1970 ≤ y ∧ y ≤ 9999 ∧ t = .int .i64 y ∧ v = .int .i64 (n - ah y) ∧ 0 ≤ n - ah y) (fun _ t => (10000 - intOf t).toNat)
  case atStart => exact ⟨1970, by omega, by omega, rfl, by rw [ah_1970]; simp, by rw [ah_1970]; omega⟩
  case round =>
    obtain ⟨y, hy1, hy2, rfl, rfl, hnn⟩ := hrel
    obtain ⟨hb0, hb1⟩ := ah_bd y hy1 (by omega)
    have HS := Lib.hid (ah_succ y)
    have hy := yl_two y
    have hy0 : 365 ≤ yl y := by omega
    have hy1' : yl y ≤ 366 := by omega
    clear hy
    by_cases hge : yl y ≤ n - ah y
    · have hy9 : y + 1 ≤ 9999 := by
        by_cases e : y = 9999
        · subst e; have b := HS.out; rw [show (9999 : Int) + 1 = 10000 by decide, ah_10000] at b; omega
        · omega
      go_wp2_with (go_at_call 20; refine (year_r _ _ (by omega) (by omega)).mono ?_; rintro e w' ⟨rfl, rfl⟩)
      go_round
      case rel => exact ⟨y + 1, by omega, by omega, rfl, by rw [HS.out]; go_num, by rw [HS.out]; omega⟩
      case measure => simp [intOf]; omega
    · have HU : Hid (n - ah y < cum y 12) := by show n - ah y < cum y 12; rw [cum_12]; omega
      have hlt : n - ah y < yl y := by omega
      clear hge HS
      go_wp2_with (go_at_call 20; refine (year_r _ _ (by omega) (by omega)).mono ?_; rintro e w' ⟨rfl, rfl⟩)
      go_loopw [0, 6] (fun v m wr => ∃ j : Nat, j ≤ 11 ∧ m = .int .i64 ((j : Int) + 1) ∧ v = .int .i64 (n - ah y - cum y j) ∧ 0 ≤ n - ah y - cum y j ∧ Below w.heap.size w wr) (fun _ m _ => 14 - (intOf m).toNat)
      case atStart => exact ⟨0, by omega, rfl, by simp [cum], by simp [cum]; omega, Below.refl _ _⟩
      case round =>
        obtain ⟨j, hj, rfl, rfl, hnn2, hB⟩ := hrel
        have HB := Lib.hid hB
        clear hB
        obtain ⟨cb0, cb1⟩ := cum_bd y j
        obtain ⟨lb0, lb1⟩ := len_bd y ((j : Int) + 1)
        have HS : Hid (cum y (j + 1) = cum y j + len y ((j : Int) + 1)) := rfl
        have HL : Hid (∀ W, Calls Try.prog 19 #[.int .i64 y, .int .i64 ((j : Int) + 1)] W fun e w' => e = .returned (.int .i64 (len y ((j : Int) + 1))) ∧ Below W.heap.size W w') := fun W => by
          have := length_r y (j + 1) W (by omega) (by omega) (by omega) (by omega)
          rw [show (((j + 1 : Nat)) : Int) = (j : Int) + 1 by omega] at this
          exact this
        by_cases hl : n - ah y - cum y j < len y ((j : Int) + 1)
        · have HM := Lib.hid (date_mk hy1 hy2 hj hnn2 hl)
          go_wp2_with fail
          refine (HL.out _).mono ?_
          rintro e w2 ⟨rfl, hb⟩
          have HB2 := Lib.hid hb
          clear hb HL
          go_wp2
          go_ret3
          exact ⟨_, _, _, HM.out.1, HM.out.2, rfl, HB.out.trans (HB2.out.mono HB.out.size)⟩
        · have hl2 : len y ((j : Int) + 1) ≤ n - ah y - cum y j := by omega
          have hj2 : j < 11 := by
            by_cases e : j = 11
            · subst e; have h2 := HU.out; rw [show (12 : Nat) = 11 + 1 from rfl, HS.out] at h2; omega
            · omega
          clear hl
          go_wp2_with fail
          refine (HL.out _).mono ?_
          rintro e w2 ⟨rfl, hb⟩
          have HB2 := Lib.hid hb
          clear hb
          go_wp2_with fail
          refine (HL.out _).mono ?_
          rintro e w3 ⟨rfl, hb⟩
          have HB3 := Lib.hid hb
          clear hb HL
          go_wp2
          have HB4 := HB.out.trans (HB2.out.mono HB.out.size)
          go_roundw
          case rel => exact ⟨j + 1, by omega, by go_num, by rw [HS.out]; go_num, by rw [HS.out]; omega, HB4.trans (HB3.out.mono HB4.size)⟩
          case measure => simp [intOf]; omega
end Go.Proofs.Ytljcbnjidjcagaa
