/- Contracts of package jtok's blank, inWord, inNumber, inPlain and rowEnd, and of the document's Blank and row: for every byte, every text of at most a thousand bytes. -/
import Derived.Test.YtkphainopofejaaDoorJtRows
import Derived.Test.YtkphainopofejaaDoorNuReads
namespace Go.Proofs.YtkphainopofejaaDoor.Jt
open Go.RowKit
set_option linter.unusedSimpArgs false
set_option linter.unusedVariables false

theorem ret_bool {a b : Bool} (h : a = b) : Ending.returned (.bool a) = .returned (.bool b) := by rw [h]
theorem ret_int {k : IntKind} {a b : Int} (h : a = b) : Ending.returned (.int k a) = .returned (.int k b) := by rw [h]
def blkI (c : Int) : Bool := decide (c = 32 ∨ c = 9 ∨ c = 10 ∨ c = 13)
theorem blank_c (c : Int) (w : World) : Calls Tryd.prog 46 #[.int .u8 c] w fun e w' => e = .returned (.bool (blkI c)) ∧ w = w' := by
  have HS := Lib.hid (fun W => Ch.spa_c c W)
  by_cases h1 : c = 32 ∨ c = 9
  · have e1 : Ch.spaB c = true := by unfold Ch.spaB; simpa using h1
    have HB : Hid (blkI c = true) := by show blkI c = true; unfold blkI; rw [decide_eq_true_eq]; omega
    rw [e1] at HS
    clear e1 h1
    go_enter Tryd.func46, Tryd.ntmps46
    go_wp2_with (go_at_call 54; refine (HS.out _).mono ?_; rintro e w' ⟨rfl, rfl⟩)
    go_ret
    exact ⟨ret_bool HB.out.symm, rfl⟩
  · have e1 : Ch.spaB c = false := by unfold Ch.spaB; simpa using h1
    rw [e1] at HS
    by_cases h2 : c = 10
    · have HB : Hid (blkI c = true) := by show blkI c = true; unfold blkI; rw [decide_eq_true_eq]; omega
      have q : (c == 10) = true := by simpa using h2
      clear e1 h1 h2
      go_enter Tryd.func46, Tryd.ntmps46
      go_wp2_with (go_at_call 54; refine (HS.out _).mono ?_; rintro e w' ⟨rfl, rfl⟩)
      go_ret
      exact ⟨ret_bool HB.out.symm, rfl⟩
    · have q : (c == 10) = false := by simpa using h2
      by_cases h3 : c = 13
      · have HB : Hid (blkI c = true) := by show blkI c = true; unfold blkI; rw [decide_eq_true_eq]; omega
        have q3 : (c == 13) = true := by simpa using h3
        clear e1 h1 h2 h3
        go_enter Tryd.func46, Tryd.ntmps46
        go_wp2_with (go_at_call 54; refine (HS.out _).mono ?_; rintro e w' ⟨rfl, rfl⟩)
        go_ret
        exact ⟨ret_bool HB.out.symm, rfl⟩
      · have q3 : (c == 13) = false := by simpa using h3
        have HB : Hid (blkI c = false) := by show blkI c = false; unfold blkI; rw [decide_eq_false_iff_not]; omega
        clear e1 h1 h2 h3
        go_enter Tryd.func46, Tryd.ntmps46
        go_wp2_with (go_at_call 54; refine (HS.out _).mono ?_; rintro e w' ⟨rfl, rfl⟩)
        go_ret
        exact ⟨ret_bool HB.out.symm, rfl⟩
def wordI (c : Int) : Bool := Ch.letB c || Ch.digB c
theorem inword_c (c : Int) (w : World) : Calls Tryd.prog 62 #[.int .u8 c] w fun e w' => e = .returned (.bool (wordI c)) ∧ w = w' := by
  have HL := Lib.hid (fun W => Ch.let_c c W)
  have HD := Lib.hid (fun W => Ch.dig_c c W)
  have HW : Hid (wordI c = (Ch.letB c || Ch.digB c)) := rfl
  revert HL HD HW
  generalize Ch.digB c = d
  generalize Ch.letB c = l
  intro HL HD HW
  cases l with
  | true =>
    go_enter Tryd.func62, Tryd.ntmps62
    go_wp2_with (first | (go_at_call 50; refine (HL.out _).mono ?_; rintro e w' ⟨rfl, rfl⟩) | (go_at_call 48; refine (HD.out _).mono ?_; rintro e w' ⟨rfl, rfl⟩))
    go_ret
    exact ⟨ret_bool (by rw [HW.out]; rfl), rfl⟩
  | false =>
    go_enter Tryd.func62, Tryd.ntmps62
    go_wp2_with (first | (go_at_call 50; refine (HL.out _).mono ?_; rintro e w' ⟨rfl, rfl⟩) | (go_at_call 48; refine (HD.out _).mono ?_; rintro e w' ⟨rfl, rfl⟩))
    go_ret
    exact ⟨ret_bool (by rw [HW.out]; rfl), rfl⟩
def sgnB (c : Int) : Bool := decide (c = 43 ∨ c = 45 ∨ c = 46)
def numI (c : Int) : Bool := wordI c || sgnB c
theorem innum_c (c : Int) (w : World) : Calls Tryd.prog 59 #[.int .u8 c] w fun e w' => e = .returned (.bool (numI c)) ∧ w = w' := by
  have HL := Lib.hid (fun W => inword_c c W)
  have HW : Hid (numI c = (wordI c || sgnB c)) := rfl
  revert HL HW
  generalize wordI c = l
  intro HL HW
  cases l with
  | true =>
    go_enter Tryd.func59, Tryd.ntmps59
    go_wp2_with (go_at_call 62; refine (HL.out _).mono ?_; rintro e w' ⟨rfl, rfl⟩)
    go_ret
    exact ⟨ret_bool (by rw [HW.out]; rfl), rfl⟩
  | false =>
    by_cases h1 : c = 43
    · have q : (c == 43) = true := by simpa using h1
      have HS : Hid (sgnB c = true) := by show sgnB c = true; unfold sgnB; rw [decide_eq_true_eq]; omega
      clear h1
      go_enter Tryd.func59, Tryd.ntmps59
      go_wp2_with (go_at_call 62; refine (HL.out _).mono ?_; rintro e w' ⟨rfl, rfl⟩)
      go_ret
      exact ⟨ret_bool (by rw [HW.out, HS.out]; rfl), rfl⟩
    · have q : (c == 43) = false := by simpa using h1
      by_cases h2 : c = 45
      · have q2 : (c == 45) = true := by simpa using h2
        have HS : Hid (sgnB c = true) := by show sgnB c = true; unfold sgnB; rw [decide_eq_true_eq]; omega
        clear h1 h2
        go_enter Tryd.func59, Tryd.ntmps59
        go_wp2_with (go_at_call 62; refine (HL.out _).mono ?_; rintro e w' ⟨rfl, rfl⟩)
        go_ret
        exact ⟨ret_bool (by rw [HW.out, HS.out]; rfl), rfl⟩
      · have q2 : (c == 45) = false := by simpa using h2
        have HS : Hid (sgnB c = (c == 46)) := by
          show sgnB c = (c == 46)
          unfold sgnB; rw [Bool.eq_iff_iff]; simp; omega
        clear h1 h2
        go_enter Tryd.func59, Tryd.ntmps59
        go_wp2_with (go_at_call 62; refine (HL.out _).mono ?_; rintro e w' ⟨rfl, rfl⟩)
        go_ret
        exact ⟨ret_bool (by rw [HW.out, HS.out]; rfl), rfl⟩
def plnI (c : Int) : Bool := decide (32 ≤ c ∧ c ≠ 34 ∧ c ≠ 92)
theorem inpln_c (c : Int) (w : World) : Calls Tryd.prog 64 #[.int .u8 c] w fun e w' => e = .returned (.bool (plnI c)) ∧ w = w' := by
  by_cases h1 : 32 ≤ c
  · by_cases h2 : c = 34
    · have q : (c != 34) = false := by simpa using h2
      have HS : Hid (plnI c = false) := by show plnI c = false; unfold plnI; rw [decide_eq_false_iff_not]; omega
      clear h2
      go_enter Tryd.func64, Tryd.ntmps64
      go_wp2
      go_ret
      exact ⟨ret_bool HS.out.symm, rfl⟩
    · have q : (c != 34) = true := by simpa using h2
      have HS : Hid (plnI c = (c != 92)) := by
        show plnI c = (c != 92)
        unfold plnI; rw [Bool.eq_iff_iff]; simp; omega
      clear h2
      go_enter Tryd.func64, Tryd.ntmps64
      go_wp2
      go_ret
      exact ⟨ret_bool HS.out.symm, rfl⟩
  · have h1' : ¬ (32 : Int) ≤ c := h1
    have HS : Hid (plnI c = false) := by show plnI c = false; unfold plnI; rw [decide_eq_false_iff_not]; omega
    go_enter Tryd.func64, Tryd.ntmps64
    go_wp2
    go_ret
    exact ⟨ret_bool HS.out.symm, rfl⟩
theorem data_at {s : ByteArray} {k : Nat} (h : k < s.size) (h' : k < s.data.toList.length) : s.data.toList[k] = s[k] := Nu.gdat s k h
theorem size_l (s : ByteArray) : s.size = s.data.toList.length := Lib.size_eq s
set_option maxRecDepth 100000 in
set_option maxHeartbeats 2000000 in
theorem rownum_c (s : ByteArray) (a : Nat) (w : World) (hs : s.size ≤ 1000) (ha : a ≤ s.size) : Calls Tryd.prog 58 #[.string s, .int .i64 (a : Int), .func (.func 59) #[] #[]] w fun e w' => e = .returned (.int .i64 (endP numB s.data.toList a : Nat)) ∧ w = w' := by
  have hsl := Lib.hid (size_l s)
  go_enter Tryd.func58, Tryd.ntmps58
  go_wp2
  go_loop [1] (fun i => ∃ k : Nat, k ≤ s.size ∧ i = .int .i64 k ∧ endP numB s.data.toList k = endP numB s.data.toList a) (fun i => s.size - (intOf i).toNat)
  case atStart => exact ⟨a, ha, rfl, rfl⟩
  case round =>
    obtain ⟨k, hk, rfl, hal⟩ := hrel
    have HA := Lib.hid hal
    clear hal
    by_cases hlt : k < s.size
    · have hl : k < s.data.toList.length := by rw [← hsl.out]; exact hlt
      have HY := Lib.hid (@endP_yes numB s.data.toList k hl)
      have HN := Lib.hid (@endP_no numB s.data.toList k hl)
      have he : numB s.data.toList[k] = numI (s[k].toNat : Int) := by rw [data_at hlt hl]; rfl
      rw [he] at HY HN
      have HC := Lib.hid (fun W => innum_c (s[k].toNat : Int) W)
      clear he
      cases hb : numI (s[k].toNat : Int) with
      | true =>
        rw [hb] at HC HY HN
        have HZ := Lib.hid (HY.out rfl)
        clear hb HY HN
        go_wp2_with (go_at_call 59; refine (HC.out _).mono ?_; rintro e w' ⟨rfl, rfl⟩)
        go_round
        case rel => exact ⟨k + 1, by omega, by go_num, by rw [HZ.out]; exact HA.out⟩
        case measure => simp [intOf]; omega
      | false =>
        rw [hb] at HC HY HN
        have HZ := Lib.hid (HN.out rfl)
        clear hb HY HN
        go_wp2_with (go_at_call 59; refine (HC.out _).mono ?_; rintro e w' ⟨rfl, rfl⟩)
        go_ret
        exact ⟨ret_int (by rw [← HA.out, HZ.out]), rfl⟩
    · have HE : Hid (endP numB s.data.toList k = k) := endP_end (by rw [← hsl.out]; omega)
      go_wp2
      go_ret
      exact ⟨ret_int (by rw [← HA.out, HE.out]), rfl⟩
set_option maxRecDepth 100000 in
set_option maxHeartbeats 2000000 in
theorem rowword_c (s : ByteArray) (a : Nat) (w : World) (hs : s.size ≤ 1000) (ha : a ≤ s.size) : Calls Tryd.prog 58 #[.string s, .int .i64 (a : Int), .func (.func 62) #[] #[]] w fun e w' => e = .returned (.int .i64 (endP wordB s.data.toList a : Nat)) ∧ w = w' := by
  have hsl := Lib.hid (size_l s)
  go_enter Tryd.func58, Tryd.ntmps58
  go_wp2
  go_loop [1] (fun i => ∃ k : Nat, k ≤ s.size ∧ i = .int .i64 k ∧ endP wordB s.data.toList k = endP wordB s.data.toList a) (fun i => s.size - (intOf i).toNat)
  case atStart => exact ⟨a, ha, rfl, rfl⟩
  case round =>
    obtain ⟨k, hk, rfl, hal⟩ := hrel
    have HA := Lib.hid hal
    clear hal
    by_cases hlt : k < s.size
    · have hl : k < s.data.toList.length := by rw [← hsl.out]; exact hlt
      have HY := Lib.hid (@endP_yes wordB s.data.toList k hl)
      have HN := Lib.hid (@endP_no wordB s.data.toList k hl)
      have he : wordB s.data.toList[k] = wordI (s[k].toNat : Int) := by rw [data_at hlt hl]; rfl
      rw [he] at HY HN
      have HC := Lib.hid (fun W => inword_c (s[k].toNat : Int) W)
      clear he
      cases hb : wordI (s[k].toNat : Int) with
      | true =>
        rw [hb] at HC HY HN
        have HZ := Lib.hid (HY.out rfl)
        clear hb HY HN
        go_wp2_with (go_at_call 62; refine (HC.out _).mono ?_; rintro e w' ⟨rfl, rfl⟩)
        go_round
        case rel => exact ⟨k + 1, by omega, by go_num, by rw [HZ.out]; exact HA.out⟩
        case measure => simp [intOf]; omega
      | false =>
        rw [hb] at HC HY HN
        have HZ := Lib.hid (HN.out rfl)
        clear hb HY HN
        go_wp2_with (go_at_call 62; refine (HC.out _).mono ?_; rintro e w' ⟨rfl, rfl⟩)
        go_ret
        exact ⟨ret_int (by rw [← HA.out, HZ.out]), rfl⟩
    · have HE : Hid (endP wordB s.data.toList k = k) := endP_end (by rw [← hsl.out]; omega)
      go_wp2
      go_ret
      exact ⟨ret_int (by rw [← HA.out, HE.out]), rfl⟩
set_option maxRecDepth 100000 in
set_option maxHeartbeats 2000000 in
theorem rowpln_c (s : ByteArray) (a : Nat) (w : World) (hs : s.size ≤ 1000) (ha : a ≤ s.size) : Calls Tryd.prog 58 #[.string s, .int .i64 (a : Int), .func (.func 64) #[] #[]] w fun e w' => e = .returned (.int .i64 (endP plnB s.data.toList a : Nat)) ∧ w = w' := by
  have hsl := Lib.hid (size_l s)
  go_enter Tryd.func58, Tryd.ntmps58
  go_wp2
  go_loop [1] (fun i => ∃ k : Nat, k ≤ s.size ∧ i = .int .i64 k ∧ endP plnB s.data.toList k = endP plnB s.data.toList a) (fun i => s.size - (intOf i).toNat)
  case atStart => exact ⟨a, ha, rfl, rfl⟩
  case round =>
    obtain ⟨k, hk, rfl, hal⟩ := hrel
    have HA := Lib.hid hal
    clear hal
    by_cases hlt : k < s.size
    · have hl : k < s.data.toList.length := by rw [← hsl.out]; exact hlt
      have HY := Lib.hid (@endP_yes plnB s.data.toList k hl)
      have HN := Lib.hid (@endP_no plnB s.data.toList k hl)
      have he : plnB s.data.toList[k] = plnI (s[k].toNat : Int) := by rw [data_at hlt hl]; rfl
      rw [he] at HY HN
      have HC := Lib.hid (fun W => inpln_c (s[k].toNat : Int) W)
      clear he
      cases hb : plnI (s[k].toNat : Int) with
      | true =>
        rw [hb] at HC HY HN
        have HZ := Lib.hid (HY.out rfl)
        clear hb HY HN
        go_wp2_with (go_at_call 64; refine (HC.out _).mono ?_; rintro e w' ⟨rfl, rfl⟩)
        go_round
        case rel => exact ⟨k + 1, by omega, by go_num, by rw [HZ.out]; exact HA.out⟩
        case measure => simp [intOf]; omega
      | false =>
        rw [hb] at HC HY HN
        have HZ := Lib.hid (HN.out rfl)
        clear hb HY HN
        go_wp2_with (go_at_call 64; refine (HC.out _).mono ?_; rintro e w' ⟨rfl, rfl⟩)
        go_ret
        exact ⟨ret_int (by rw [← HA.out, HZ.out]), rfl⟩
    · have HE : Hid (endP plnB s.data.toList k = k) := endP_end (by rw [← hsl.out]; omega)
      go_wp2
      go_ret
      exact ⟨ret_int (by rw [← HA.out, HE.out]), rfl⟩
end Go.Proofs.YtkphainopofejaaDoor.Jt
