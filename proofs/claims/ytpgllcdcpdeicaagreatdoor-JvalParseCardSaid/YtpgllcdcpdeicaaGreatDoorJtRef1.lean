/- Contracts of the document's Blank, hex and row (of JSON's tokens): for every byte, every text of at most a thousand bytes. -/
import Derived.Test.YtpgllcdcpdeicaaGreatDoorJtTexts
import Derived.Test.YtpgllcdcpdeicaaGreatDoorNuMb
namespace Go.Proofs.YtpgllcdcpdeicaaGreatDoor.Jt
open Go.RowKit
set_option linter.unusedSimpArgs false
set_option linter.unusedVariables false

theorem blank_r (c : Int) (w : World) : Calls Tryz.prog 27 #[.int .u8 c] w fun e w' => e = .returned (.bool (blkI c)) ∧ w = w' := by
  by_cases h1 : c = 32
  · have HB : Hid (blkI c = true) := by show blkI c = true; unfold blkI; rw [decide_eq_true_eq]; omega
    have q : (c == 32) = true := by simpa using h1
    clear h1
    go_enter Tryz.func27, Tryz.ntmps27
    go_wp2
    go_ret
    exact ⟨ret_bool HB.out.symm, rfl⟩
  · have q : (c == 32) = false := by simpa using h1
    by_cases h2 : c = 9
    · have HB : Hid (blkI c = true) := by show blkI c = true; unfold blkI; rw [decide_eq_true_eq]; omega
      have q2 : (c == 9) = true := by simpa using h2
      clear h1 h2
      go_enter Tryz.func27, Tryz.ntmps27
      go_wp2
      go_ret
      exact ⟨ret_bool HB.out.symm, rfl⟩
    · have q2 : (c == 9) = false := by simpa using h2
      by_cases h3 : c = 10
      · have HB : Hid (blkI c = true) := by show blkI c = true; unfold blkI; rw [decide_eq_true_eq]; omega
        have q3 : (c == 10) = true := by simpa using h3
        clear h1 h2 h3
        go_enter Tryz.func27, Tryz.ntmps27
        go_wp2
        go_ret
        exact ⟨ret_bool HB.out.symm, rfl⟩
      · have q3 : (c == 10) = false := by simpa using h3
        have HB : Hid (blkI c = (c == 13)) := by
          show blkI c = (c == 13)
          unfold blkI; rw [Bool.eq_iff_iff]; simp; omega
        clear h1 h2 h3
        go_enter Tryz.func27, Tryz.ntmps27
        go_wp2
        go_ret
        exact ⟨ret_bool HB.out.symm, rfl⟩
set_option maxRecDepth 100000 in
set_option maxHeartbeats 2000000 in
theorem hexr_c (s : ByteArray) (k : Nat) (w : World) (hs : s.size ≤ 1000) (hk : k ≤ 2000) : Calls Tryz.prog 53 #[.string s, .int .i64 (k : Int)] w fun e w' => e = .returned (.int .i64 (hexA s.data.toList k)) ∧ Below w.heap.size w w' := by
  by_cases h : s.size < k + 4
  · have HH : Hid (hexA s.data.toList k = -1) := by show hexA s.data.toList k = -1; unfold hexA; rw [if_pos (by rw [← size_l]; exact h)]
    have h' : (s.size : Int) < (k : Int) + 4 := by omega
    go_enter Tryz.func53, Tryz.ntmps53
    go_wp2
    go_ret
    exact ⟨ret_int HH.out.symm, Below.refl _ _⟩
  · have h' : ¬ (s.size : Int) < (k : Int) + 4 := by omega
    have hz : (s.extract k (k + 4)).size ≤ 1000 := by rw [ByteArray.size_extract]; omega
    have HP := Lib.hid (fun W => Nu.hex_r (s.extract k (k + 4)) W hz)
    rw [extract_cut] at HP
    have HH : Hid (hexA s.data.toList k = if Nu.rdE 16 2147483647 (cutL s.data.toList k (k + 4)) = 0 then Nu.rdN 16 2147483647 (cutL s.data.toList k (k + 4)) else -1) := by
      show hexA s.data.toList k = _
      unfold hexA; rw [if_neg (by rw [← size_l]; exact h)]
    have hk0 : (0 : Int) ≤ (k : Int) := by omega
    clear hz
    revert HP HH
    generalize Nu.rdN 16 2147483647 (cutL s.data.toList k (k + 4)) = n
    generalize Nu.rdE 16 2147483647 (cutL s.data.toList k (k + 4)) = e0
    intro HP HH
    by_cases he : e0 = 0
    · have q : (e0 != 0) = false := by simpa using he
      have HR : Hid (hexA s.data.toList k = n) := by show hexA s.data.toList k = n; rw [HH.out, if_pos he]
      clear HH he
      go_enter Tryz.func53, Tryz.ntmps53
      go_wp2_with (go_at_call 67; refine (HP.out _).mono ?_; rintro e w1 ⟨rfl, hb1⟩; have HB1 := Lib.hid hb1; clear hb1)
      go_ret
      exact ⟨ret_int HR.out.symm, HB1.out⟩
    · have q : (e0 != 0) = true := by simpa using he
      have HR : Hid (hexA s.data.toList k = -1) := by show hexA s.data.toList k = -1; rw [HH.out, if_neg he]
      clear HH he
      go_enter Tryz.func53, Tryz.ntmps53
      go_wp2_with (go_at_call 67; refine (HP.out _).mono ?_; rintro e w1 ⟨rfl, hb1⟩; have HB1 := Lib.hid hb1; clear hb1)
      go_ret
      exact ⟨ret_int HR.out.symm, HB1.out⟩
/-- what a byte in a row is: each test, one behind the other -/
theorem numI_cases (c : Int) : (Ch.digB c = true ∧ wordI c = true ∧ numI c = true) ∨ (Ch.digB c = false ∧ Ch.letB c = true ∧ wordI c = true ∧ numI c = true) ∨ (Ch.digB c = false ∧ Ch.letB c = false ∧ wordI c = false ∧ ((c = 43 ∧ numI c = true) ∨ (c ≠ 43 ∧ c = 45 ∧ numI c = true) ∨ (c ≠ 43 ∧ c ≠ 45 ∧ c = 46 ∧ numI c = true) ∨ (c ≠ 43 ∧ c ≠ 45 ∧ c ≠ 46 ∧ numI c = false))) := by
  unfold numI wordI
  cases hd : Ch.digB c <;> cases hl : Ch.letB c <;> simp [sgnB]
  all_goals (try omega)
set_option maxRecDepth 100000 in
set_option maxHeartbeats 4000000 in
theorem rown_r (s : ByteArray) (a : Nat) (w : World) (hs : s.size ≤ 1000) (ha : a ≤ s.size) : Calls Tryz.prog 30 #[.string s, .int .i64 (a : Int), .bool true] w fun e w' => e = .returned (.int .i64 (endP numB s.data.toList a : Nat)) ∧ w = w' := by
  have hsl := Lib.hid (size_l s)
  go_enter Tryz.func30, Tryz.ntmps30
  go_wp2
  go_loop [1] (fun i => ∃ k : Nat, k ≤ s.size ∧ i = .int .i64 k ∧ endP numB s.data.toList k = endP numB s.data.toList a) (fun i => s.size - (intOf i).toNat)
  case atStart => exact ⟨a, ha, rfl, rfl⟩
  case round =>
    obtain ⟨k, hk, rfl, hal⟩ := hrel
    have HA := Lib.hid hal
    clear hal
    by_cases hlt : k < s.size
    · have hl : k < s.data.toList.length := by rw [← hsl.out]; exact hlt
      have HY := Lib.hid (@endP_yes numB s.data.toList k hl)
      have HN := Lib.hid (@endP_no numB s.data.toList k hl)
      have he : numB s.data.toList[k] = numI (s[k].toNat : Int) := by rw [data_at hlt hl]; rfl
      rw [he] at HY HN
      have h0 : 0 ≤ ((s[k].toNat : Nat) : Int) := by omega
      have h1 : ((s[k].toNat : Nat) : Int) ≤ 255 := by have := s[k].toNat_lt; omega
      have HD := Lib.hid (fun W => Ch.dig_r (s[k].toNat : Int) W h0 h1)
      have HL := Lib.hid (fun W => Ch.let_r (s[k].toNat : Int) W h0 h1)
      clear he
      have hcs := numI_cases (s[k].toNat : Int)
      rcases hcs with ⟨d1, d2, d3⟩ | ⟨d1, d2, d3, d4⟩ | ⟨d1, d2, d3, ⟨g43, d4⟩ | ⟨g43, g45, d4⟩ | ⟨g43, g45, g46, d4⟩ | ⟨g43, g45, g46, d4⟩⟩
      · rw [d1] at HD
        have HZ := Lib.hid (HY.out d3)
        clear HY HN d1 d2 d3
        go_wp2_with (first | (go_at_call 29; refine (HD.out _).mono ?_; rintro e w' ⟨rfl, rfl⟩) | (go_at_call 46; refine (HL.out _).mono ?_; rintro e w' ⟨rfl, rfl⟩))
        go_round
        case rel => exact ⟨k + 1, by omega, by go_num, by rw [HZ.out]; exact HA.out⟩
        case measure => simp [intOf]; omega
      · rw [d1] at HD
        rw [d2] at HL
        have HZ := Lib.hid (HY.out d4)
        clear HY HN d1 d2 d3 d4
        go_wp2_with (first | (go_at_call 29; refine (HD.out _).mono ?_; rintro e w' ⟨rfl, rfl⟩) | (go_at_call 46; refine (HL.out _).mono ?_; rintro e w' ⟨rfl, rfl⟩))
        go_round
        case rel => exact ⟨k + 1, by omega, by go_num, by rw [HZ.out]; exact HA.out⟩
        case measure => simp [intOf]; omega
      · rw [d1] at HD
        rw [d2] at HL
        have q43 : ((s[k].toNat : Int) == 43) = true := by simpa using g43
        have HZ := Lib.hid (HY.out d4)
        clear HY HN d1 d2 d3 d4 g43
        go_wp2_with (first | (go_at_call 29; refine (HD.out _).mono ?_; rintro e w' ⟨rfl, rfl⟩) | (go_at_call 46; refine (HL.out _).mono ?_; rintro e w' ⟨rfl, rfl⟩))
        go_round
        case rel => exact ⟨k + 1, by omega, by go_num, by rw [HZ.out]; exact HA.out⟩
        case measure => simp [intOf]; omega
      · rw [d1] at HD
        rw [d2] at HL
        have q43 : ((s[k].toNat : Int) == 43) = false := by simpa using g43
        have q45 : ((s[k].toNat : Int) == 45) = true := by simpa using g45
        have HZ := Lib.hid (HY.out d4)
        clear HY HN d1 d2 d3 d4 g43 g45
        go_wp2_with (first | (go_at_call 29; refine (HD.out _).mono ?_; rintro e w' ⟨rfl, rfl⟩) | (go_at_call 46; refine (HL.out _).mono ?_; rintro e w' ⟨rfl, rfl⟩))
        go_round
        case rel => exact ⟨k + 1, by omega, by go_num, by rw [HZ.out]; exact HA.out⟩
        case measure => simp [intOf]; omega
      · rw [d1] at HD
        rw [d2] at HL
        have q43 : ((s[k].toNat : Int) == 43) = false := by simpa using g43
        have q45 : ((s[k].toNat : Int) == 45) = false := by simpa using g45
        have q46 : ((s[k].toNat : Int) == 46) = true := by simpa using g46
        have HZ := Lib.hid (HY.out d4)
        clear HY HN d1 d2 d3 d4 g43 g45 g46
        go_wp2_with (first | (go_at_call 29; refine (HD.out _).mono ?_; rintro e w' ⟨rfl, rfl⟩) | (go_at_call 46; refine (HL.out _).mono ?_; rintro e w' ⟨rfl, rfl⟩))
        go_round
        case rel => exact ⟨k + 1, by omega, by go_num, by rw [HZ.out]; exact HA.out⟩
        case measure => simp [intOf]; omega
      · rw [d1] at HD
        rw [d2] at HL
        have q43 : ((s[k].toNat : Int) == 43) = false := by simpa using g43
        have q45 : ((s[k].toNat : Int) == 45) = false := by simpa using g45
        have q46 : ((s[k].toNat : Int) == 46) = false := by simpa using g46
        have HZ := Lib.hid (HN.out d4)
        clear HY HN d1 d2 d3 d4 g43 g45 g46
        go_wp2_with (first | (go_at_call 29; refine (HD.out _).mono ?_; rintro e w' ⟨rfl, rfl⟩) | (go_at_call 46; refine (HL.out _).mono ?_; rintro e w' ⟨rfl, rfl⟩))
        go_ret
        exact ⟨ret_int (by rw [← HA.out, HZ.out]), rfl⟩
    · have HE : Hid (endP numB s.data.toList k = k) := endP_end (by rw [← hsl.out]; omega)
      go_wp2
      go_ret
      exact ⟨ret_int (by rw [← HA.out, HE.out]), rfl⟩
set_option maxRecDepth 100000 in
set_option maxHeartbeats 4000000 in
theorem roww_r (s : ByteArray) (a : Nat) (w : World) (hs : s.size ≤ 1000) (ha : a ≤ s.size) : Calls Tryz.prog 30 #[.string s, .int .i64 (a : Int), .bool false] w fun e w' => e = .returned (.int .i64 (endP wordB s.data.toList a : Nat)) ∧ w = w' := by
  have hsl := Lib.hid (size_l s)
  go_enter Tryz.func30, Tryz.ntmps30
  go_wp2
  go_loop [1] (fun i => ∃ k : Nat, k ≤ s.size ∧ i = .int .i64 k ∧ endP wordB s.data.toList k = endP wordB s.data.toList a) (fun i => s.size - (intOf i).toNat)
  case atStart => exact ⟨a, ha, rfl, rfl⟩
  case round =>
    obtain ⟨k, hk, rfl, hal⟩ := hrel
    have HA := Lib.hid hal
    clear hal
    by_cases hlt : k < s.size
    · have hl : k < s.data.toList.length := by rw [← hsl.out]; exact hlt
      have HY := Lib.hid (@endP_yes wordB s.data.toList k hl)
      have HN := Lib.hid (@endP_no wordB s.data.toList k hl)
      have he : wordB s.data.toList[k] = wordI (s[k].toNat : Int) := by rw [data_at hlt hl]; rfl
      rw [he] at HY HN
      have h0 : 0 ≤ ((s[k].toNat : Nat) : Int) := by omega
      have h1 : ((s[k].toNat : Nat) : Int) ≤ 255 := by have := s[k].toNat_lt; omega
      have HD := Lib.hid (fun W => Ch.dig_r (s[k].toNat : Int) W h0 h1)
      have HL := Lib.hid (fun W => Ch.let_r (s[k].toNat : Int) W h0 h1)
      clear he
      have hcs := numI_cases (s[k].toNat : Int)
      rcases hcs with ⟨d1, d2, d3⟩ | ⟨d1, d2, d3, d4⟩ | ⟨d1, d2, d3, d4⟩
      · rw [d1] at HD
        have HZ := Lib.hid (HY.out d2)
        clear HY HN d1 d2 d3
        go_wp2_with (first | (go_at_call 29; refine (HD.out _).mono ?_; rintro e w' ⟨rfl, rfl⟩) | (go_at_call 46; refine (HL.out _).mono ?_; rintro e w' ⟨rfl, rfl⟩))
        go_round
        case rel => exact ⟨k + 1, by omega, by go_num, by rw [HZ.out]; exact HA.out⟩
        case measure => simp [intOf]; omega
      · rw [d1] at HD
        rw [d2] at HL
        have HZ := Lib.hid (HY.out d3)
        clear HY HN d1 d2 d3 d4
        go_wp2_with (first | (go_at_call 29; refine (HD.out _).mono ?_; rintro e w' ⟨rfl, rfl⟩) | (go_at_call 46; refine (HL.out _).mono ?_; rintro e w' ⟨rfl, rfl⟩))
        go_round
        case rel => exact ⟨k + 1, by omega, by go_num, by rw [HZ.out]; exact HA.out⟩
        case measure => simp [intOf]; omega
      · rw [d1] at HD
        rw [d2] at HL
        have HZ := Lib.hid (HN.out d3)
        clear HY HN d1 d2 d3 d4
        go_wp2_with (first | (go_at_call 29; refine (HD.out _).mono ?_; rintro e w' ⟨rfl, rfl⟩) | (go_at_call 46; refine (HL.out _).mono ?_; rintro e w' ⟨rfl, rfl⟩))
        go_ret
        exact ⟨ret_int (by rw [← HA.out, HZ.out]), rfl⟩
    · have HE : Hid (endP wordB s.data.toList k = k) := endP_end (by rw [← hsl.out]; omega)
      go_wp2
      go_ret
      exact ⟨ret_int (by rw [← HA.out, HE.out]), rfl⟩
end Go.Proofs.YtpgllcdcpdeicaaGreatDoor.Jt
