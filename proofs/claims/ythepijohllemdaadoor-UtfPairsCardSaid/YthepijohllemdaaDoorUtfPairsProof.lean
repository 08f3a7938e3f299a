/-
  For any two numbers and any rune, Pair of package utf is as the document says, and the chapter's example holds; where the two tables hold what the program's own text lays (the card ties it).
-/
import Derived.Test.YthepijohllemdaaDoorCards
import Derived.Test.YthepijohllemdaaDoorTie
import Derived.Test.YthepijohllemdaaDoorLaid
import Derived.ShutString
import Derived.ChangeOld
import Derived.SevenTiedAt
namespace Go.Proofs.YthepijohllemdaaDoor.utfPairs
open Go.ChangeShapes Go.WideShapes Go.ChangeAt Go.RowKit
open Go.ChangeMaps (open_string shut_string)
set_option linter.unusedVariables false
set_option linter.unusedSimpArgs false

theorem own : ownKnob Tryd.prog.godebug = none := by kernel_rfl
theorem laidOut : laidOutB Tryd.prog = true := by kernel_rfl

theorem pair_no (hi lo : Int) (w : World) (h : ¬ (55296 ≤ hi ∧ hi ≤ 56319 ∧ 56320 ≤ lo ∧ lo ≤ 57343)) : Calls Tryd.prog 18 #[.int .i32 hi, .int .i32 lo] w fun e w' => e = .returned (.tuple #[.int .i32 0, .bool false]) ∧ w = w' := by
  by_cases h1 : hi < 55296
  · clear h
    go_enter Tryd.func18, Tryd.ntmps18
    go_wp2
    go_ret2
    exact ⟨rfl, rfl⟩
  · by_cases h2 : 56320 ≤ hi
    · clear h
      go_enter Tryd.func18, Tryd.ntmps18
      go_wp2
      go_ret2
      exact ⟨rfl, rfl⟩
    · by_cases h3 : lo < 56320
      · clear h
        go_enter Tryd.func18, Tryd.ntmps18
        go_wp2
        go_ret2
        exact ⟨rfl, rfl⟩
      · have h4 : 57343 < lo := by omega
        clear h
        go_enter Tryd.func18, Tryd.ntmps18
        go_wp2
        go_ret2
        exact ⟨rfl, rfl⟩
theorem ret_pair {a b : Int} (h : a = b) : Ending.returned (.tuple #[.int .i32 a, .bool true]) = .returned (.tuple #[.int .i32 b, .bool true]) := by rw [h]
theorem pair_yes (hi lo : Int) (w : World) (h1 : 55296 ≤ hi) (h2 : hi ≤ 56319) (h3 : 56320 ≤ lo) (h4 : lo ≤ 57343) : Calls Tryd.prog 18 #[.int .i32 hi, .int .i32 lo] w fun e w' => e = .returned (.tuple #[.int .i32 (65536 + 1024 * (hi - 55296) + lo - 56320), .bool true]) ∧ w = w' := by
  go_enter Tryd.func18, Tryd.ntmps18
  go_wp2
  go_ret2
  exact ⟨ret_pair (by omega), rfl⟩
theorem pair_r (r : Int) (w : World) (h1 : 65536 ≤ r) (h2 : r ≤ 1114111) : Calls Tryd.prog 18 #[.int .i32 (55296 + (r - 65536) / 1024), .int .i32 (56320 + (r - 65536) % 1024)] w fun e w' => e = .returned (.tuple #[.int .i32 r, .bool true]) ∧ w = w' :=
  (pair_yes _ _ w (by omega) (by omega) (by omega) (by omega)).mono fun e w' ⟨he, hw⟩ => ⟨by rw [he]; exact ret_pair (by omega), hw⟩

theorem bounds_i32 {n : Int} (h : (Lit.int .i32 n).wf = true) : -2147483648 ≤ n ∧ n ≤ 2147483647 := by
  simp [Lit.wf, IntKind.min, IntKind.max, IntKind.signed, IntKind.bits] at h
  omega

set_option maxHeartbeats 4000000 in
theorem walk (a0 : Int) (w0 : (Lit.int .i32 a0).wf = true) (a1 : Int) (w1 : (Lit.int .i32 a1).wf = true) (a2 : Int) (w2 : (Lit.int .i32 a2).wf = true) (w : World) (hT : Tabs w) :
    Calls Tryd.prog 6 #[.int .i32 a0, .int .i32 a1, .int .i32 a2] w fun e w' => e = .returned (.bool true) ∧ Below w.heap.size w w' := by
  obtain ⟨b00, b01⟩ := bounds_i32 w0
  obtain ⟨b10, b11⟩ := bounds_i32 w1
  obtain ⟨b20, b21⟩ := bounds_i32 w2
  clear w0 w1 w2
  have HA := Lib.hid (awake_c w hT)
  clear hT
  rcases (show a0 < 55296 ∨ (55296 ≤ a0 ∧ a0 ≤ 56319) ∨ 56319 < a0 by omega) with h1 | ⟨h1, h2⟩ | h1
  · rcases (show a1 < 56320 ∨ (56320 ≤ a1 ∧ a1 ≤ 57343) ∨ 57343 < a1 by omega) with h3 | ⟨h3, h4⟩ | h3
    · rcases (show a2 < 65536 ∨ (65536 ≤ a2 ∧ a2 ≤ 1114111) ∨ 1114111 < a2 by omega) with h5 | ⟨h5, h6⟩ | h5
      · have HP := Lib.hid (pair_no a0 a1 w (by omega))
        go_enter Tryd.func6, Tryd.ntmps6
        go_wp2_with fail
        refine HP.out.mono ?_
        rintro e w' ⟨rfl, rfl⟩
        go_wp2_with fail
        refine HA.out.mono ?_
        rintro e wz ⟨rfl, hbz⟩
        have HBZ := Lib.hid hbz
        clear hbz
        go_wp2
        go_ret
        exact ⟨rfl, HBZ.out⟩
      · have HP := Lib.hid (pair_no a0 a1 w (by omega))
        have HR := Lib.hid (pair_r a2 w h5 h6)
        go_enter Tryd.func6, Tryd.ntmps6
        go_wp2_with fail
        refine HP.out.mono ?_
        rintro e w' ⟨rfl, rfl⟩
        go_wp2_with fail
        refine HR.out.mono ?_
        rintro e w' ⟨rfl, rfl⟩
        go_wp2_with fail
        refine HA.out.mono ?_
        rintro e wz ⟨rfl, hbz⟩
        have HBZ := Lib.hid hbz
        clear hbz
        go_wp2
        go_ret
        exact ⟨rfl, HBZ.out⟩
      · have h5a : ¬ a2 < 65536 := by omega
        have HP := Lib.hid (pair_no a0 a1 w (by omega))
        go_enter Tryd.func6, Tryd.ntmps6
        go_wp2_with fail
        refine HP.out.mono ?_
        rintro e w' ⟨rfl, rfl⟩
        go_wp2_with fail
        refine HA.out.mono ?_
        rintro e wz ⟨rfl, hbz⟩
        have HBZ := Lib.hid hbz
        clear hbz
        go_wp2
        go_ret
        exact ⟨rfl, HBZ.out⟩
    · rcases (show a2 < 65536 ∨ (65536 ≤ a2 ∧ a2 ≤ 1114111) ∨ 1114111 < a2 by omega) with h5 | ⟨h5, h6⟩ | h5
      · have HP := Lib.hid (pair_no a0 a1 w (by omega))
        go_enter Tryd.func6, Tryd.ntmps6
        go_wp2_with fail
        refine HP.out.mono ?_
        rintro e w' ⟨rfl, rfl⟩
        go_wp2_with fail
        refine HA.out.mono ?_
        rintro e wz ⟨rfl, hbz⟩
        have HBZ := Lib.hid hbz
        clear hbz
        go_wp2
        go_ret
        exact ⟨rfl, HBZ.out⟩
      · have HP := Lib.hid (pair_no a0 a1 w (by omega))
        have HR := Lib.hid (pair_r a2 w h5 h6)
        go_enter Tryd.func6, Tryd.ntmps6
        go_wp2_with fail
        refine HP.out.mono ?_
        rintro e w' ⟨rfl, rfl⟩
        go_wp2_with fail
        refine HR.out.mono ?_
        rintro e w' ⟨rfl, rfl⟩
        go_wp2_with fail
        refine HA.out.mono ?_
        rintro e wz ⟨rfl, hbz⟩
        have HBZ := Lib.hid hbz
        clear hbz
        go_wp2
        go_ret
        exact ⟨rfl, HBZ.out⟩
      · have h5a : ¬ a2 < 65536 := by omega
        have HP := Lib.hid (pair_no a0 a1 w (by omega))
        go_enter Tryd.func6, Tryd.ntmps6
        go_wp2_with fail
        refine HP.out.mono ?_
        rintro e w' ⟨rfl, rfl⟩
        go_wp2_with fail
        refine HA.out.mono ?_
        rintro e wz ⟨rfl, hbz⟩
        have HBZ := Lib.hid hbz
        clear hbz
        go_wp2
        go_ret
        exact ⟨rfl, HBZ.out⟩
    · rcases (show a2 < 65536 ∨ (65536 ≤ a2 ∧ a2 ≤ 1114111) ∨ 1114111 < a2 by omega) with h5 | ⟨h5, h6⟩ | h5
      · have HP := Lib.hid (pair_no a0 a1 w (by omega))
        go_enter Tryd.func6, Tryd.ntmps6
        go_wp2_with fail
        refine HP.out.mono ?_
        rintro e w' ⟨rfl, rfl⟩
        go_wp2_with fail
        refine HA.out.mono ?_
        rintro e wz ⟨rfl, hbz⟩
        have HBZ := Lib.hid hbz
        clear hbz
        go_wp2
        go_ret
        exact ⟨rfl, HBZ.out⟩
      · have HP := Lib.hid (pair_no a0 a1 w (by omega))
        have HR := Lib.hid (pair_r a2 w h5 h6)
        go_enter Tryd.func6, Tryd.ntmps6
        go_wp2_with fail
        refine HP.out.mono ?_
        rintro e w' ⟨rfl, rfl⟩
        go_wp2_with fail
        refine HR.out.mono ?_
        rintro e w' ⟨rfl, rfl⟩
        go_wp2_with fail
        refine HA.out.mono ?_
        rintro e wz ⟨rfl, hbz⟩
        have HBZ := Lib.hid hbz
        clear hbz
        go_wp2
        go_ret
        exact ⟨rfl, HBZ.out⟩
      · have h5a : ¬ a2 < 65536 := by omega
        have HP := Lib.hid (pair_no a0 a1 w (by omega))
        go_enter Tryd.func6, Tryd.ntmps6
        go_wp2_with fail
        refine HP.out.mono ?_
        rintro e w' ⟨rfl, rfl⟩
        go_wp2_with fail
        refine HA.out.mono ?_
        rintro e wz ⟨rfl, hbz⟩
        have HBZ := Lib.hid hbz
        clear hbz
        go_wp2
        go_ret
        exact ⟨rfl, HBZ.out⟩
  · rcases (show a1 < 56320 ∨ (56320 ≤ a1 ∧ a1 ≤ 57343) ∨ 57343 < a1 by omega) with h3 | ⟨h3, h4⟩ | h3
    · rcases (show a2 < 65536 ∨ (65536 ≤ a2 ∧ a2 ≤ 1114111) ∨ 1114111 < a2 by omega) with h5 | ⟨h5, h6⟩ | h5
      · have HP := Lib.hid (pair_no a0 a1 w (by omega))
        go_enter Tryd.func6, Tryd.ntmps6
        go_wp2_with fail
        refine HP.out.mono ?_
        rintro e w' ⟨rfl, rfl⟩
        go_wp2_with fail
        refine HA.out.mono ?_
        rintro e wz ⟨rfl, hbz⟩
        have HBZ := Lib.hid hbz
        clear hbz
        go_wp2
        go_ret
        exact ⟨rfl, HBZ.out⟩
      · have HP := Lib.hid (pair_no a0 a1 w (by omega))
        have HR := Lib.hid (pair_r a2 w h5 h6)
        go_enter Tryd.func6, Tryd.ntmps6
        go_wp2_with fail
        refine HP.out.mono ?_
        rintro e w' ⟨rfl, rfl⟩
        go_wp2_with fail
        refine HR.out.mono ?_
        rintro e w' ⟨rfl, rfl⟩
        go_wp2_with fail
        refine HA.out.mono ?_
        rintro e wz ⟨rfl, hbz⟩
        have HBZ := Lib.hid hbz
        clear hbz
        go_wp2
        go_ret
        exact ⟨rfl, HBZ.out⟩
      · have h5a : ¬ a2 < 65536 := by omega
        have HP := Lib.hid (pair_no a0 a1 w (by omega))
        go_enter Tryd.func6, Tryd.ntmps6
        go_wp2_with fail
        refine HP.out.mono ?_
        rintro e w' ⟨rfl, rfl⟩
        go_wp2_with fail
        refine HA.out.mono ?_
        rintro e wz ⟨rfl, hbz⟩
        have HBZ := Lib.hid hbz
        clear hbz
        go_wp2
        go_ret
        exact ⟨rfl, HBZ.out⟩
    · rcases (show a2 < 65536 ∨ (65536 ≤ a2 ∧ a2 ≤ 1114111) ∨ 1114111 < a2 by omega) with h5 | ⟨h5, h6⟩ | h5
      · have HP := Lib.hid (pair_yes a0 a1 w h1 h2 h3 h4)
        go_enter Tryd.func6, Tryd.ntmps6
        go_wp2_with fail
        refine HP.out.mono ?_
        rintro e w' ⟨rfl, rfl⟩
        go_wp2_with fail
        refine HA.out.mono ?_
        rintro e wz ⟨rfl, hbz⟩
        have HBZ := Lib.hid hbz
        clear hbz
        go_wp2
        go_ret
        exact ⟨rfl, HBZ.out⟩
      · have HP := Lib.hid (pair_yes a0 a1 w h1 h2 h3 h4)
        have HR := Lib.hid (pair_r a2 w h5 h6)
        go_enter Tryd.func6, Tryd.ntmps6
        go_wp2_with fail
        refine HP.out.mono ?_
        rintro e w' ⟨rfl, rfl⟩
        go_wp2_with fail
        refine HR.out.mono ?_
        rintro e w' ⟨rfl, rfl⟩
        go_wp2_with fail
        refine HA.out.mono ?_
        rintro e wz ⟨rfl, hbz⟩
        have HBZ := Lib.hid hbz
        clear hbz
        go_wp2
        go_ret
        exact ⟨rfl, HBZ.out⟩
      · have h5a : ¬ a2 < 65536 := by omega
        have HP := Lib.hid (pair_yes a0 a1 w h1 h2 h3 h4)
        go_enter Tryd.func6, Tryd.ntmps6
        go_wp2_with fail
        refine HP.out.mono ?_
        rintro e w' ⟨rfl, rfl⟩
        go_wp2_with fail
        refine HA.out.mono ?_
        rintro e wz ⟨rfl, hbz⟩
        have HBZ := Lib.hid hbz
        clear hbz
        go_wp2
        go_ret
        exact ⟨rfl, HBZ.out⟩
    · rcases (show a2 < 65536 ∨ (65536 ≤ a2 ∧ a2 ≤ 1114111) ∨ 1114111 < a2 by omega) with h5 | ⟨h5, h6⟩ | h5
      · have HP := Lib.hid (pair_no a0 a1 w (by omega))
        go_enter Tryd.func6, Tryd.ntmps6
        go_wp2_with fail
        refine HP.out.mono ?_
        rintro e w' ⟨rfl, rfl⟩
        go_wp2_with fail
        refine HA.out.mono ?_
        rintro e wz ⟨rfl, hbz⟩
        have HBZ := Lib.hid hbz
        clear hbz
        go_wp2
        go_ret
        exact ⟨rfl, HBZ.out⟩
      · have HP := Lib.hid (pair_no a0 a1 w (by omega))
        have HR := Lib.hid (pair_r a2 w h5 h6)
        go_enter Tryd.func6, Tryd.ntmps6
        go_wp2_with fail
        refine HP.out.mono ?_
        rintro e w' ⟨rfl, rfl⟩
        go_wp2_with fail
        refine HR.out.mono ?_
        rintro e w' ⟨rfl, rfl⟩
        go_wp2_with fail
        refine HA.out.mono ?_
        rintro e wz ⟨rfl, hbz⟩
        have HBZ := Lib.hid hbz
        clear hbz
        go_wp2
        go_ret
        exact ⟨rfl, HBZ.out⟩
      · have h5a : ¬ a2 < 65536 := by omega
        have HP := Lib.hid (pair_no a0 a1 w (by omega))
        go_enter Tryd.func6, Tryd.ntmps6
        go_wp2_with fail
        refine HP.out.mono ?_
        rintro e w' ⟨rfl, rfl⟩
        go_wp2_with fail
        refine HA.out.mono ?_
        rintro e wz ⟨rfl, hbz⟩
        have HBZ := Lib.hid hbz
        clear hbz
        go_wp2
        go_ret
        exact ⟨rfl, HBZ.out⟩
  · rcases (show a1 < 56320 ∨ (56320 ≤ a1 ∧ a1 ≤ 57343) ∨ 57343 < a1 by omega) with h3 | ⟨h3, h4⟩ | h3
    · rcases (show a2 < 65536 ∨ (65536 ≤ a2 ∧ a2 ≤ 1114111) ∨ 1114111 < a2 by omega) with h5 | ⟨h5, h6⟩ | h5
      · have HP := Lib.hid (pair_no a0 a1 w (by omega))
        go_enter Tryd.func6, Tryd.ntmps6
        go_wp2_with fail
        refine HP.out.mono ?_
        rintro e w' ⟨rfl, rfl⟩
        go_wp2_with fail
        refine HA.out.mono ?_
        rintro e wz ⟨rfl, hbz⟩
        have HBZ := Lib.hid hbz
        clear hbz
        go_wp2
        go_ret
        exact ⟨rfl, HBZ.out⟩
      · have HP := Lib.hid (pair_no a0 a1 w (by omega))
        have HR := Lib.hid (pair_r a2 w h5 h6)
        go_enter Tryd.func6, Tryd.ntmps6
        go_wp2_with fail
        refine HP.out.mono ?_
        rintro e w' ⟨rfl, rfl⟩
        go_wp2_with fail
        refine HR.out.mono ?_
        rintro e w' ⟨rfl, rfl⟩
        go_wp2_with fail
        refine HA.out.mono ?_
        rintro e wz ⟨rfl, hbz⟩
        have HBZ := Lib.hid hbz
        clear hbz
        go_wp2
        go_ret
        exact ⟨rfl, HBZ.out⟩
      · have h5a : ¬ a2 < 65536 := by omega
        have HP := Lib.hid (pair_no a0 a1 w (by omega))
        go_enter Tryd.func6, Tryd.ntmps6
        go_wp2_with fail
        refine HP.out.mono ?_
        rintro e w' ⟨rfl, rfl⟩
        go_wp2_with fail
        refine HA.out.mono ?_
        rintro e wz ⟨rfl, hbz⟩
        have HBZ := Lib.hid hbz
        clear hbz
        go_wp2
        go_ret
        exact ⟨rfl, HBZ.out⟩
    · rcases (show a2 < 65536 ∨ (65536 ≤ a2 ∧ a2 ≤ 1114111) ∨ 1114111 < a2 by omega) with h5 | ⟨h5, h6⟩ | h5
      · have HP := Lib.hid (pair_no a0 a1 w (by omega))
        go_enter Tryd.func6, Tryd.ntmps6
        go_wp2_with fail
        refine HP.out.mono ?_
        rintro e w' ⟨rfl, rfl⟩
        go_wp2_with fail
        refine HA.out.mono ?_
        rintro e wz ⟨rfl, hbz⟩
        have HBZ := Lib.hid hbz
        clear hbz
        go_wp2
        go_ret
        exact ⟨rfl, HBZ.out⟩
      · have HP := Lib.hid (pair_no a0 a1 w (by omega))
        have HR := Lib.hid (pair_r a2 w h5 h6)
        go_enter Tryd.func6, Tryd.ntmps6
        go_wp2_with fail
        refine HP.out.mono ?_
        rintro e w' ⟨rfl, rfl⟩
        go_wp2_with fail
        refine HR.out.mono ?_
        rintro e w' ⟨rfl, rfl⟩
        go_wp2_with fail
        refine HA.out.mono ?_
        rintro e wz ⟨rfl, hbz⟩
        have HBZ := Lib.hid hbz
        clear hbz
        go_wp2
        go_ret
        exact ⟨rfl, HBZ.out⟩
      · have h5a : ¬ a2 < 65536 := by omega
        have HP := Lib.hid (pair_no a0 a1 w (by omega))
        go_enter Tryd.func6, Tryd.ntmps6
        go_wp2_with fail
        refine HP.out.mono ?_
        rintro e w' ⟨rfl, rfl⟩
        go_wp2_with fail
        refine HA.out.mono ?_
        rintro e wz ⟨rfl, hbz⟩
        have HBZ := Lib.hid hbz
        clear hbz
        go_wp2
        go_ret
        exact ⟨rfl, HBZ.out⟩
    · rcases (show a2 < 65536 ∨ (65536 ≤ a2 ∧ a2 ≤ 1114111) ∨ 1114111 < a2 by omega) with h5 | ⟨h5, h6⟩ | h5
      · have HP := Lib.hid (pair_no a0 a1 w (by omega))
        go_enter Tryd.func6, Tryd.ntmps6
        go_wp2_with fail
        refine HP.out.mono ?_
        rintro e w' ⟨rfl, rfl⟩
        go_wp2_with fail
        refine HA.out.mono ?_
        rintro e wz ⟨rfl, hbz⟩
        have HBZ := Lib.hid hbz
        clear hbz
        go_wp2
        go_ret
        exact ⟨rfl, HBZ.out⟩
      · have HP := Lib.hid (pair_no a0 a1 w (by omega))
        have HR := Lib.hid (pair_r a2 w h5 h6)
        go_enter Tryd.func6, Tryd.ntmps6
        go_wp2_with fail
        refine HP.out.mono ?_
        rintro e w' ⟨rfl, rfl⟩
        go_wp2_with fail
        refine HR.out.mono ?_
        rintro e w' ⟨rfl, rfl⟩
        go_wp2_with fail
        refine HA.out.mono ?_
        rintro e wz ⟨rfl, hbz⟩
        have HBZ := Lib.hid hbz
        clear hbz
        go_wp2
        go_ret
        exact ⟨rfl, HBZ.out⟩
      · have h5a : ¬ a2 < 65536 := by omega
        have HP := Lib.hid (pair_no a0 a1 w (by omega))
        go_enter Tryd.func6, Tryd.ntmps6
        go_wp2_with fail
        refine HP.out.mono ?_
        rintro e w' ⟨rfl, rfl⟩
        go_wp2_with fail
        refine HA.out.mono ?_
        rintro e wz ⟨rfl, hbz⟩
        have HBZ := Lib.hid hbz
        clear hbz
        go_wp2
        go_ret
        exact ⟨rfl, HBZ.out⟩

set_option maxRecDepth 100000 in
theorem lifted (os : Os) (started : os.Started) (H : Type) (enc : TypeId × Value → H) :
    ReturnsInHanded {} Tryd.checked os 6 .any (fun w args => (Rows.utfPairsSpec.pre enc Tryd.prog Tryd.f6 [] false w args ∧ laidMetH Tryd.prog [("larum/utf.firsts", Rows.laid_larum_utf_firsts), ("larum/utf.leads", Rows.laid_larum_utf_leads)] w) ∧ sizedMet enc Tryd.prog Tryd.f6 (OpenSpec.ofChange Rows.utfPairsSpec) false w args)
      (Rows.utfPairsSpec.post enc Tryd.prog Tryd.f6 false true false false) := by
  refine returnsInHanded_of_change_and (C := Tryd.checked) (X := fun w _ => laidMetH Tryd.prog [("larum/utf.firsts", Rows.laid_larum_utf_firsts), ("larum/utf.leads", Rows.laid_larum_utf_leads)] w) (fun _ _ _ hh h => h.of_heap hh) own started (by kernel_rfl) Tryd.func6
    (ChangeSpec.witness_shaped (enc := enc) (C := Tryd.checked) (os := os) (X := fun w _ => laidMetH Tryd.prog [("larum/utf.firsts", Rows.laid_larum_utf_firsts), ("larum/utf.leads", Rows.laid_larum_utf_leads)] w) false (World.doorLaid Tryd.prog 400 os) #[.int .i32 0, .int .i32 0, .int .i32 0] 8 rfl (World.shaped_of_RefB (by kernel_rfl) (by kernel_rfl)) (by kernel_rfl) (by kernel_rfl) (by kernel_rfl) (door_met os _)) ?_
  intro W base args ds gs before hval0 hW _ _ hL _
  have hval : ∀ (j : Nat) t v, Tryd.f6.params[j]? = some t → args[j]? = some v → Value.okWide Tryd.prog W .any base t v := hval0
  have hW' := hW
  obtain ⟨p, q, hA0, hV, rfl, hfz, hnd⟩ := hW
  have hA : DataW.TrodAll enc Tryd.prog W 0 (fun _ => true) true Tryd.f6.params.toList args.toList ds p := hA0
  rw [Tryd.params6] at hA hval
  obtain ⟨v0, vs0, d0, ds0, p0, q0, hargs, rfl, rfl, h0, r0⟩ := trodAll_cons hA
  obtain ⟨v1, vs1, d1, ds1, p1, q1, rfl, rfl, rfl, h1, r1⟩ := trodAll_cons r0
  obtain ⟨v2, vs2, d2, ds2, p2, q2, rfl, rfl, rfl, h2, r2⟩ := trodAll_cons r1
  obtain ⟨rfl, rfl, rfl⟩ := trodAll_nil r2
  obtain rfl : args = #[v0, v1, v2] := by cases args; simp_all
  obtain ⟨rfl, rfl⟩ := trodVars_none hV
  obtain ⟨a0, rfl, rfl, rfl, w0⟩ := open_int Tryd.underlying21 (hval 0 21 v0 rfl rfl) h0
  obtain ⟨a1, rfl, rfl, rfl, w1⟩ := open_int Tryd.underlying21 (hval 1 21 v1 rfl rfl) h1
  obtain ⟨a2, rfl, rfl, rfl, w2⟩ := open_int Tryd.underlying21 (hval 2 21 v2 rfl rfl) h2
  clear hA0 hval0
  have hT := of_laid hL
  refine (walk a0 w0 a1 w1 a2 w2 W hT).mono fun e W' ⟨he, bel⟩ => ?_
  subst he
  exact ⟨_, rfl, _, _, _, [], _, [], hW', trodAll_mk1 (shut_bool Tryd.underlying4 _), (trodAll_cons_mk (shut_int Tryd.underlying21 w0) (trodAll_cons_mk (shut_int Tryd.underlying21 w1) (trodAll_cons_mk (shut_int Tryd.underlying21 w2) trodAll_mk0))), rfl, bel.frame _, fun h => by cases h⟩

theorem over : Rows.UtfPairsSaid :=
  OpenClaim.holds_of_wide 6 Tryd.f6 rfl rfl rfl rfl rfl rfl rfl ⟨rfl, rfl, rfl, rfl, rfl⟩ rfl rfl rfl rfl rfl (by kernel_rfl) Tryd.func6 (by kernel_rfl)
    (of_decide_eq_true (by kernel_rfl)) (by unfold Func.isWrapper; first | (rw [if_pos (by decide +kernel)]; kernel_rfl) | (rw [if_neg (by decide +kernel)]; exact ⟨rfl, rfl⟩))
    (fun os started H enc _ => lifted os started H enc)
end Go.Proofs.YthepijohllemdaaDoor.utfPairs
namespace Go.Proofs.YthepijohllemdaaDoor
theorem utfPairs_card : Rows.UtfPairsCardSaid :=
  Claim7.holds_tied_plain_at .later [] [.data, .data] true (true, "5a88f8ac1afdae99643bef678160593da0a619f8695168da0bc9806d527633f8") false
    utfPairs.over (fun _ h => by cases h) (by kernel_rfl) (fun _ h => by cases h) utfPairs_row_tie rfl ⟨rfl, rfl⟩ (by kernel_rfl) rfl
    (fun f fn hf hfn => by
      obtain rfl : f = 6 := Option.some.inj ((show Tryd.prog.funcNamed Tryd.f6.name = some 6 by kernel_rfl).symm.trans hf) |>.symm
      obtain rfl : fn = Tryd.f6 := (Option.some.inj (Tryd.func6.symm.trans hfn)).symm
      exact ⟨by kernel_rfl, fun j t ht => by
        rw [Tryd.params6] at ht
        have hm : t ∈ [21, 21, 21] := by simpa using Array.mem_of_getElem? ht
        have hall : ([21, 21, 21].all fun u => !Tryd.prog.wantsStandIn u) = true := by kernel_rfl
        exact (show Tryd.prog.wantsStandIn t = false by simpa using List.all_eq_true.1 hall t hm)⟩)
    (by kernel_rfl)
#print axioms utfPairs_card
end Go.Proofs.YthepijohllemdaaDoor
