/- Contracts and plain mathematics of some packages' functions, laid together; conditions as each one says. -/
import Derived.Test.YtpgllcdcpdeicaaGreatDoorNuMa
import Derived.Laws.Cover1
import Derived.Lib.SlBytesConst
import Derived.Laws.IdiomStrings
namespace Go.Proofs.YtpgllcdcpdeicaaGreatDoor.Nu
open Go.RowKit
set_option linter.unusedSimpArgs false
set_option linter.unusedVariables false

def allB (l : List UInt8) : Bool := !l.isEmpty && l.all (okD 10)
theorem all_iff (l : List UInt8) : allB l = true ↔ (l ≠ [] ∧ l.all (okD 10) = true) := by
  unfold allB
  rw [Bool.and_eq_true]
  cases l <;> simp
theorem ok_dig (b : UInt8) : okD 10 b = digB (b.toNat : Int) := okD_ten b
set_option maxRecDepth 100000 in
set_option maxHeartbeats 1000000 in
theorem all_r (s : ByteArray) (w : World) (hs : s.size ≤ 1000) : Calls Tryz.prog 47 #[.string s] w fun e w' => e = .returned (.bool (allB s.data.toList)) ∧ w = w' := by
  have hsl := Lib.hid (Lib.size_eq s)
  go_enter Tryz.func47, Tryz.ntmps47
  go_wp2
  go_loop [3] (fun i => ∃ k : Nat, k ≤ s.size ∧ i = .int .i64 k ∧ (s.data.toList.take k).all (okD 10) = true) (fun i => s.size - (intOf i).toNat)
  case atStart => exact ⟨0, by omega, rfl, rfl⟩
  case round =>
    obtain ⟨k, hk, rfl, hal⟩ := hrel
    have HA := Lib.hid hal
    clear hal
    by_cases hlt : k < s.size
    · have h0 : 0 ≤ ((s[k].toNat : Nat) : Int) := by omega
      have h1 : ((s[k].toNat : Nat) : Int) ≤ 255 := by have := s[k].toNat_lt; omega
      cases hb : digB (s[k].toNat : Int) with
      | true =>
        have HB := Lib.hid hb
        go_wp2_with (go_at_call 29; refine (dig_r _ _ h0 h1).mono ?_; rintro e w' ⟨rfl, rfl⟩)
        go_round
        case rel => exact ⟨k + 1, by omega, by go_num, all_snoc (p := okD 10) hlt HA.out (by rw [ok_dig]; exact HB.out)⟩
        case measure => simp [intOf]; omega
      | false =>
        have HB := Lib.hid hb
        go_wp2_with (go_at_call 29; refine (dig_r _ _ h0 h1).mono ?_; rintro e w' ⟨rfl, rfl⟩)
        go_ret
        refine ⟨ret_bool ?_, rfl⟩
        unfold allB
        rw [all_no (p := okD 10) hlt (by rw [ok_dig]; exact HB.out), Bool.and_false]
    · have HT : Hid (s.data.toList.take k = s.data.toList) := List.take_of_length_le (by rw [← hsl.out]; omega)
      go_wp2
      go_ret
      refine ⟨ret_bool ?_, rfl⟩
      have h := HA.out
      rw [HT.out] at h
      unfold allB
      rw [h, Bool.and_true, ← Lib.toList_data]

theorem strip_step (t : ByteArray) (h1 : 1 < t.size) (hb : t.data.toList.getD 0 0 = 48) : stripL (t.extract 1 t.size).data.toList = stripL t.data.toList ∧ (t.extract 1 t.size).size = t.size - 1 := by
  refine ⟨?_, by rw [ByteArray.size_extract]; omega⟩
  rw [Lib.extract_to_end]
  have hl : 1 < t.data.toList.length := by rw [← Lib.size_eq]; exact h1
  cases e : t.data.toList with
  | nil => rw [e] at hl; simp at hl
  | cons b l =>
    rw [e] at hl hb
    cases l with
    | nil => simp at hl
    | cons c l =>
      have hb : b = 48 := by simpa [List.getD] using hb
      subst hb
      rfl
theorem strip_end (t : ByteArray) (h : ¬ (1 < t.size ∧ t.data.toList.getD 0 0 = 48)) : stripL t.data.toList = t.data.toList := by
  apply strip_id
  intro b c l e hb
  apply h
  refine ⟨by rw [Lib.size_eq, e]; simp, ?_⟩
  rw [e, hb]; rfl
def strOf : Value → ByteArray | .string s => s | _ => ByteArray.empty
set_option maxRecDepth 100000 in
set_option maxHeartbeats 1000000 in
theorem strip_r (s : ByteArray) (w : World) (hs : s.size ≤ 1000) : Calls Tryz.prog 56 #[.string s] w fun e w' => e = .returned (.string (mkS (stripL s.data.toList))) ∧ w = w' := by
  go_enter Tryz.func56, Tryz.ntmps56
  go_wp2
  go_loop [0] (fun v => ∃ t : ByteArray, v = .string t ∧ t.size ≤ 1000 ∧ stripL t.data.toList = stripL s.data.toList) (fun v => (strOf v).size)
  case atStart => exact ⟨s, rfl, hs, rfl⟩
  case round =>
    obtain ⟨t, rfl, ht, hrel⟩ := hrel
    have HR := Lib.hid hrel
    clear hrel
    by_cases h1 : 1 < t.size
    · have h1' : (1 : Int) < (t.size : Int) := by omega
      have h0t : 0 < t.size := by omega
      have hq := byte_eq t 0 h0t 48 48 rfl
      by_cases hb : t.data.toList.getD 0 0 = 48
      · rw [hb] at hq
        simp only [decide_true] at hq
        have HS := Lib.hid (strip_step t h1 hb)
        clear hb
        go_wp2
        go_round
        case rel => exact ⟨_, rfl, by rw [HS.out.2]; omega, by rw [HS.out.1, HR.out]⟩
        case measure => simp [strOf]; omega
      · rw [decide_eq_false hb] at hq
        have HS := Lib.hid (strip_end t (fun h => hb h.2))
        clear hb
        go_wp2
        go_ret
        exact ⟨ret_str (mkS_of (by rw [← HR.out, HS.out])), rfl⟩
    · have h1' : ¬ (1 : Int) < (t.size : Int) := by omega
      have HS := Lib.hid (strip_end t (fun h => h1 h.1))
      go_wp2
      go_ret
      exact ⟨ret_str (mkS_of (by rw [← HR.out, HS.out])), rfl⟩

set_option maxRecDepth 100000 in
set_option maxHeartbeats 1000000 in
theorem above_r (a b : ByteArray) (w : World) (ha : a.size ≤ 1000) (hb : b.size ≤ 1000) : Calls Tryz.prog 48 #[.string a, .string b] w fun e w' => e = .returned (.bool (aboveB a.data.toList b.data.toList)) ∧ w = w' := by
  have HA := Lib.hid (fun W => strip_r a W ha)
  have HB := Lib.hid (fun W => strip_r b W hb)
  have HV : Hid (aboveB a.data.toList b.data.toList = if (mkS (stripL a.data.toList)).size = (mkS (stripL b.data.toList)).size then !(Op.bytesLess (mkS (stripL a.data.toList)).toList (mkS (stripL b.data.toList)).toList || (mkS (stripL a.data.toList)).toList == (mkS (stripL b.data.toList)).toList) else decide ((mkS (stripL b.data.toList)).size < (mkS (stripL a.data.toList)).size)) := by
    show aboveB a.data.toList b.data.toList = _
    rw [size_mkS, size_mkS, toL, toL]; rfl
  have hxa : (mkS (stripL a.data.toList)).size ≤ 1000 := by rw [size_mkS]; have := (strip_len a.data.toList).1; rw [← Lib.size_eq] at this; omega
  have hxb : (mkS (stripL b.data.toList)).size ≤ 1000 := by rw [size_mkS]; have := (strip_len b.data.toList).1; rw [← Lib.size_eq] at this; omega
  revert HA HB HV hxa hxb
  generalize aboveB a.data.toList b.data.toList = r
  generalize mkS (stripL a.data.toList) = x
  generalize mkS (stripL b.data.toList) = y
  intro HA HB HV hxa hxb
  by_cases he : x.size = y.size
  · have e1 : ((x.size : Int) != (y.size : Int)) = false := by simp [he]
    have e2 : (x.size != y.size) = false := by simp [he]
    rw [if_pos he] at HV
    clear he
    go_enter Tryz.func48, Tryz.ntmps48
    go_wp2_with fail
    refine (HA.out _).mono ?_
    rintro e w' ⟨rfl, rfl⟩
    go_wp2_with fail
    refine (HB.out _).mono ?_
    rintro e w' ⟨rfl, rfl⟩
    go_wp2
    go_ret
    exact ⟨ret_bool (by rw [HV.out, Bool.not_or]), rfl⟩
  · have e1 : ((x.size : Int) != (y.size : Int)) = true := by simp; omega
    have e2 : (x.size != y.size) = true := by simp [he]
    rw [if_neg he] at HV
    clear he
    go_enter Tryz.func48, Tryz.ntmps48
    go_wp2_with fail
    refine (HA.out _).mono ?_
    rintro e w' ⟨rfl, rfl⟩
    go_wp2_with fail
    refine (HB.out _).mono ?_
    rintro e w' ⟨rfl, rfl⟩
    go_wp2
    go_ret
    exact ⟨ret_bool (by rw [HV.out]), rfl⟩
end Go.Proofs.YtpgllcdcpdeicaaGreatDoor.Nu
namespace Go.Proofs.YtpgllcdcpdeicaaGreatDoor.Nu
open Go.RowKit
set_option linter.unusedSimpArgs false
set_option linter.unusedVariables false

theorem kNeg_all : allB [57, 50, 50, 51, 51, 55, 50, 48, 51, 54, 56, 53, 52, 55, 55, 53, 56, 48, 56] = true := by decide +kernel
theorem kNeg_val : val 10 [57, 50, 50, 51, 51, 55, 50, 48, 51, 54, 56, 53, 52, 55, 55, 53, 56, 48, 56] = 9223372036854775808 := by decide +kernel
theorem aboveNeg (t : ByteArray) (w : World) (ht : t.size ≤ 1000) (ha : allB t.data.toList = true) : Calls Tryz.prog 48 #[.string t, .string ⟨#[57, 50, 50, 51, 51, 55, 50, 48, 51, 54, 56, 53, 52, 55, 55, 53, 56, 48, 56]⟩] w fun e w' => e = .returned (.bool (decide (9223372036854775808 < val 10 t.data.toList))) ∧ w = w' := by
  have h := above_r t ⟨#[57, 50, 50, 51, 51, 55, 50, 48, 51, 54, 56, 53, 52, 55, 55, 53, 56, 48, 56]⟩ w ht (by decide)
  have e : (ByteArray.mk #[57, 50, 50, 51, 51, 55, 50, 48, 51, 54, 56, 53, 52, 55, 55, 53, 56, 48, 56]).data.toList = [57, 50, 50, 51, 51, 55, 50, 48, 51, 54, 56, 53, 52, 55, 55, 53, 56, 48, 56] := rfl
  obtain ⟨a1, a2⟩ := (all_iff _).1 ha
  obtain ⟨b1, b2⟩ := (all_iff _).1 kNeg_all
  rw [e, above_eq _ _ a2 b2 a1 b1, kNeg_val] at h
  exact h

set_option maxRecDepth 100000 in
set_option maxHeartbeats 1000000 in
theorem parseRNeg_form (s : ByteArray) (w : World) (hs : s.size ≤ 1000) (h0 : 0 < s.size) (hq : ((s[0].toNat : Int) == 45) = true) (hn : allB (s.extract 1 s.size).data.toList = false) :
    Calls Tryz.prog 31 #[.string s] w fun e w' => e = .returned (.tuple #[.int .i64 0, .int .i64 3]) ∧ w = w' := by
  have hem := empty_no (s := s) (by omega)
  have hs1 : 1 ≤ s.size := h0
  have hs1' : (1 : Int) ≤ (s.size : Int) := by omega
  have ht : (s.extract 1 s.size).size ≤ 1000 := by rw [ByteArray.size_extract]; omega
  have HA := Lib.hid (fun W => all_r (s.extract 1 s.size) W ht)
  rw [hn] at HA
  clear hn
  go_enter Tryz.func31, Tryz.ntmps31
  go_wp2_with fail
  refine (HA.out _).mono ?_
  rintro e w' ⟨rfl, rfl⟩
  go_wp2
  go_ret2
  exact ⟨rfl, rfl⟩
set_option maxRecDepth 100000 in
set_option maxHeartbeats 1000000 in
theorem parseRNeg_bad (s : ByteArray) (w : World) (hs : s.size ≤ 1000) (h0 : 0 < s.size) (hq : ((s[0].toNat : Int) == 45) = true) (hn : allB (s.extract 1 s.size).data.toList = true) (hb : badB (s.extract 1 s.size).data.toList = true) :
    Calls Tryz.prog 31 #[.string s] w fun e w' => e = .returned (.tuple #[.int .i64 0, .int .i64 3]) ∧ w = w' := by
  have hem := empty_no (s := s) (by omega)
  have hs1 : 1 ≤ s.size := h0
  have hs1' : (1 : Int) ≤ (s.size : Int) := by omega
  have ht : (s.extract 1 s.size).size ≤ 1000 := by rw [ByteArray.size_extract]; omega
  have HA := Lib.hid (fun W => all_r (s.extract 1 s.size) W ht)
  rw [hn] at HA
  obtain ⟨b1, b2⟩ := of_decide_eq_true hb
  rw [← Lib.size_eq] at b1
  have hq1 := fun h => byte_eq (s.extract 1 s.size) 0 h 48 48 rfl
  rw [b2] at hq1
  simp only [decide_true] at hq1
  clear hn hb b2
  have h0t : 0 < (s.extract 1 s.size).size := by omega
  have hq2 := hq1 h0t
  have b1' : (1 : Int) < ((s.extract 1 s.size).size : Int) := by omega
  clear hq1 b1
  go_enter Tryz.func31, Tryz.ntmps31
  go_wp2_with fail
  refine (HA.out _).mono ?_
  rintro e w' ⟨rfl, rfl⟩
  clear HA
  revert ht h0t hq2 b1'
  generalize s.extract 1 s.size = t
  intro ht h0t hq2 b1'
  go_wp2
  go_ret2
  exact ⟨rfl, rfl⟩

theorem kPos_all : allB [57, 50, 50, 51, 51, 55, 50, 48, 51, 54, 56, 53, 52, 55, 55, 53, 56, 48, 55] = true := by decide +kernel
theorem kPos_val : val 10 [57, 50, 50, 51, 51, 55, 50, 48, 51, 54, 56, 53, 52, 55, 55, 53, 56, 48, 55] = 9223372036854775807 := by decide +kernel
theorem abovePos (t : ByteArray) (w : World) (ht : t.size ≤ 1000) (ha : allB t.data.toList = true) : Calls Tryz.prog 48 #[.string t, .string ⟨#[57, 50, 50, 51, 51, 55, 50, 48, 51, 54, 56, 53, 52, 55, 55, 53, 56, 48, 55]⟩] w fun e w' => e = .returned (.bool (decide (9223372036854775807 < val 10 t.data.toList))) ∧ w = w' := by
  have h := above_r t ⟨#[57, 50, 50, 51, 51, 55, 50, 48, 51, 54, 56, 53, 52, 55, 55, 53, 56, 48, 55]⟩ w ht (by decide)
  have e : (ByteArray.mk #[57, 50, 50, 51, 51, 55, 50, 48, 51, 54, 56, 53, 52, 55, 55, 53, 56, 48, 55]).data.toList = [57, 50, 50, 51, 51, 55, 50, 48, 51, 54, 56, 53, 52, 55, 55, 53, 56, 48, 55] := rfl
  obtain ⟨a1, a2⟩ := (all_iff _).1 ha
  obtain ⟨b1, b2⟩ := (all_iff _).1 kPos_all
  rw [e, above_eq _ _ a2 b2 a1 b1, kPos_val] at h
  exact h

set_option maxRecDepth 100000 in
set_option maxHeartbeats 1000000 in
theorem parseRPos_form (s : ByteArray) (w : World) (hs : s.size ≤ 1000) (h0 : 0 < s.size) (hq : ((s[0].toNat : Int) == 45) = false) (hn : allB (s).data.toList = false) :
    Calls Tryz.prog 31 #[.string s] w fun e w' => e = .returned (.tuple #[.int .i64 0, .int .i64 3]) ∧ w = w' := by
  have hem := empty_no (s := s) (by omega)
  have hs1 : 1 ≤ s.size := h0
  have ht : s.size ≤ 1000 := hs
  have HA := Lib.hid (fun W => all_r (s) W ht)
  rw [hn] at HA
  clear hn
  go_enter Tryz.func31, Tryz.ntmps31
  go_wp2_with fail
  refine (HA.out _).mono ?_
  rintro e w' ⟨rfl, rfl⟩
  go_wp2
  go_ret2
  exact ⟨rfl, rfl⟩
set_option maxRecDepth 100000 in
set_option maxHeartbeats 1000000 in
theorem parseRPos_bad (s : ByteArray) (w : World) (hs : s.size ≤ 1000) (h0 : 0 < s.size) (hq : ((s[0].toNat : Int) == 45) = false) (hn : allB (s).data.toList = true) (hb : badB (s).data.toList = true) :
    Calls Tryz.prog 31 #[.string s] w fun e w' => e = .returned (.tuple #[.int .i64 0, .int .i64 3]) ∧ w = w' := by
  have hem := empty_no (s := s) (by omega)
  have hs1 : 1 ≤ s.size := h0
  have ht : s.size ≤ 1000 := hs
  have HA := Lib.hid (fun W => all_r (s) W ht)
  rw [hn] at HA
  obtain ⟨b1, b2⟩ := of_decide_eq_true hb
  rw [← Lib.size_eq] at b1
  have hq1 := fun h => byte_eq (s) 0 h 48 48 rfl
  rw [b2] at hq1
  simp only [decide_true] at hq1
  clear hn hb b2
  have h0t : 0 < s.size := by omega
  have hq2 := hq1 h0t
  have b1' : (1 : Int) < (s.size : Int) := by omega
  clear hq1
  go_enter Tryz.func31, Tryz.ntmps31
  go_wp2_with fail
  refine (HA.out _).mono ?_
  rintro e w' ⟨rfl, rfl⟩
  go_wp2
  go_ret2
  exact ⟨rfl, rfl⟩
end Go.Proofs.YtpgllcdcpdeicaaGreatDoor.Nu
namespace Go.Proofs.YtpgllcdcpdeicaaGreatDoor.Nu
open Go.RowKit
set_option linter.unusedSimpArgs false
set_option linter.unusedVariables false

set_option maxRecDepth 100000 in
set_option maxHeartbeats 1000000 in
theorem parseRNeg_long (s : ByteArray) (w : World) (hs : s.size ≤ 1000) (h0 : 0 < s.size) (hq : ((s[0].toNat : Int) == 45) = true) (hn : allB (s.extract 1 s.size).data.toList = true) (hb : badB (s.extract 1 s.size).data.toList = false) (hv : 9223372036854775808 < val 10 (s.extract 1 s.size).data.toList) :
    Calls Tryz.prog 31 #[.string s] w fun e w' => e = .returned (.tuple #[.int .i64 0, .int .i64 5]) ∧ w = w' := by
  have hem := empty_no (s := s) (by omega)
  have hs1 : 1 ≤ s.size := h0
  have hs1' : (1 : Int) ≤ (s.size : Int) := by omega
  have ht : (s.extract 1 s.size).size ≤ 1000 := by rw [ByteArray.size_extract]; omega
  have HA := Lib.hid (fun W => all_r (s.extract 1 s.size) W ht)
  rw [hn] at HA
  have HAB := Lib.hid (fun W => aboveNeg (s.extract 1 s.size) W ht hn)
  rw [decide_eq_true hv] at HAB
  have hh : ∀ (g : 0 < (s.extract 1 s.size).size), 1 < (s.extract 1 s.size).size → ((((s.extract 1 s.size)[0]'g).toNat : Int) == 48) = false := fun g h => by
    rw [byte_eq (s.extract 1 s.size) 0 g 48 48 rfl]
    apply decide_eq_false
    intro e
    exact (of_decide_eq_false hb) ⟨by rw [← Lib.size_eq]; exact h, e⟩
  clear hb
  clear hn hv
  go_enter Tryz.func31, Tryz.ntmps31
  go_wp2_with fail
  refine (HA.out _).mono ?_
  rintro e w' ⟨rfl, rfl⟩
  clear HA
  revert ht HAB hh
  generalize s.extract 1 s.size = t
  intro ht HAB hh
  by_cases b1 : 1 < t.size
  · have b1' : (1 : Int) < (t.size : Int) := by omega
    have h0t : 0 < t.size := by omega
    have hq2 := hh h0t b1
    clear hh
    go_wp2_with fail
    refine (HAB.out _).mono ?_
    rintro e w' ⟨rfl, rfl⟩
    go_wp2
    go_ret2
    exact ⟨rfl, rfl⟩
  · have b1' : ¬ (1 : Int) < (t.size : Int) := by omega
    clear hh
    go_wp2_with fail
    refine (HAB.out _).mono ?_
    rintro e w' ⟨rfl, rfl⟩
    go_wp2
    go_ret2
    exact ⟨rfl, rfl⟩

set_option maxRecDepth 100000 in
set_option maxHeartbeats 2000000 in
theorem parseRNeg_num (r : Int) (s : ByteArray) (w : World) (hs : s.size ≤ 1000) (h0 : 0 < s.size) (hq : ((s[0].toNat : Int) == 45) = true) (hn : allB (s.extract 1 s.size).data.toList = true) (hb : badB (s.extract 1 s.size).data.toList = false) (hv : val 10 (s.extract 1 s.size).data.toList ≤ 9223372036854775808) (hr : r = -val 10 (s.extract 1 s.size).data.toList) :
    Calls Tryz.prog 31 #[.string s] w fun e w' => e = .returned (.tuple #[.int .i64 r, .int .i64 0]) ∧ w = w' := by
  have hem := empty_no (s := s) (by omega)
  have hs1 : 1 ≤ s.size := h0
  have hs1' : (1 : Int) ≤ (s.size : Int) := by omega
  have ht : (s.extract 1 s.size).size ≤ 1000 := by rw [ByteArray.size_extract]; omega
  have HA := Lib.hid (fun W => all_r (s.extract 1 s.size) W ht)
  rw [hn] at HA
  have HAB := Lib.hid (fun W => aboveNeg (s.extract 1 s.size) W ht hn)
  rw [decide_eq_false (show ¬ 9223372036854775808 < val 10 (s.extract 1 s.size).data.toList by omega)] at HAB
  have hh : ∀ (g : 0 < (s.extract 1 s.size).size), 1 < (s.extract 1 s.size).size → ((((s.extract 1 s.size)[0]'g).toNat : Int) == 48) = false := fun g h => by
    rw [byte_eq (s.extract 1 s.size) 0 g 48 48 rfl]
    apply decide_eq_false
    intro e
    exact (of_decide_eq_false hb) ⟨by rw [← Lib.size_eq]; exact h, e⟩
  clear hb
  have HAL := Lib.hid ((all_iff _).1 hn).2
  have HV := Lib.hid hv
  have HR := Lib.hid hr
  have hsl := Lib.hid (Lib.size_eq (s.extract 1 s.size))
  clear hn hv hr
  go_enter Tryz.func31, Tryz.ntmps31
  go_wp2_with fail
  refine (HA.out _).mono ?_
  rintro e w' ⟨rfl, rfl⟩
  clear HA
  revert ht HAB hh HAL HV HR hsl
  generalize s.extract 1 s.size = t
  intro ht HAB hh HAL HV HR hsl
  by_cases b1 : 1 < t.size
  · have b1' : (1 : Int) < (t.size : Int) := by omega
    have h0t : 0 < t.size := by omega
    have hq2 := hh h0t b1
    clear hh
    go_wp2_with fail
    refine (HAB.out _).mono ?_
    rintro e w' ⟨rfl, rfl⟩
    go_wp2
    go_loop [6, 7] (fun v i => ∃ k : Nat, k ≤ t.size ∧ i = .int .i64 k ∧ v = .int .i64 (-val 10 (t.data.toList.take k))) (fun _ i => t.size - (intOf i).toNat)
    case atStart => exact ⟨0, by omega, rfl, by simp [val]⟩
    case round =>
      obtain ⟨k, hk, rfl, rfl⟩ := hrel
      have hak : (t.data.toList.take k).all (okD 10) = true := List.all_eq_true.2 fun x hx => List.all_eq_true.1 HAL.out x (List.mem_of_mem_take hx)
      have v0 := (val_bd (B := 10) (.inl rfl) _ hak).1
      have v1 : val 10 (t.data.toList.take k) ≤ 9223372036854775808 := Int.le_trans (val_take_le (.inl rfl) _ HAL.out k) HV.out
      clear hak
      by_cases hlt : k < t.size
      · have hb : okD 10 t[k] = true := List.all_eq_true.1 HAL.out _ (by rw [← gdat t k hlt]; exact List.getElem_mem _)
        have v2 : val 10 (t.data.toList.take (k + 1)) ≤ 9223372036854775808 := Int.le_trans (val_take_le (.inl rfl) _ HAL.out (k + 1)) HV.out
        have HS : Hid (val 10 (t.data.toList.take (k + 1)) = val 10 (t.data.toList.take k) * 10 + ((t[k].toNat : Int) - 48)) := by
          show val 10 (t.data.toList.take (k + 1)) = _
          rw [take_snoc hlt, val_snoc]
          rw [ok_dig] at hb
          unfold hvU hv
          rw [if_pos (of_decide_eq_true hb)]
        rw [ok_dig] at hb
        obtain ⟨d0, d1⟩ := of_decide_eq_true hb
        rw [HS.out] at v2
        clear hb
        revert HS v0 v1 v2
        generalize val 10 (t.data.toList.take k) = v
        intro v0 v1 v2 HS
        go_wp2
        go_round
        case rel => exact ⟨k + 1, by omega, by go_num, by rw [HS.out]; go_num⟩
        case measure => simp [intOf]; omega
      · have HT : Hid (t.data.toList.take k = t.data.toList) := List.take_of_length_le (by rw [← hsl.out]; omega)
        go_wp2
        go_ret2
        exact ⟨ret2_ii (by rw [HR.out, HT.out]) rfl, rfl⟩
  · have b1' : ¬ (1 : Int) < (t.size : Int) := by omega
    clear hh
    go_wp2_with fail
    refine (HAB.out _).mono ?_
    rintro e w' ⟨rfl, rfl⟩
    go_wp2
    go_loop [6, 7] (fun v i => ∃ k : Nat, k ≤ t.size ∧ i = .int .i64 k ∧ v = .int .i64 (-val 10 (t.data.toList.take k))) (fun _ i => t.size - (intOf i).toNat)
    case atStart => exact ⟨0, by omega, rfl, by simp [val]⟩
    case round =>
      obtain ⟨k, hk, rfl, rfl⟩ := hrel
      have hak : (t.data.toList.take k).all (okD 10) = true := List.all_eq_true.2 fun x hx => List.all_eq_true.1 HAL.out x (List.mem_of_mem_take hx)
      have v0 := (val_bd (B := 10) (.inl rfl) _ hak).1
      have v1 : val 10 (t.data.toList.take k) ≤ 9223372036854775808 := Int.le_trans (val_take_le (.inl rfl) _ HAL.out k) HV.out
      clear hak
      by_cases hlt : k < t.size
      · have hb : okD 10 t[k] = true := List.all_eq_true.1 HAL.out _ (by rw [← gdat t k hlt]; exact List.getElem_mem _)
        have v2 : val 10 (t.data.toList.take (k + 1)) ≤ 9223372036854775808 := Int.le_trans (val_take_le (.inl rfl) _ HAL.out (k + 1)) HV.out
        have HS : Hid (val 10 (t.data.toList.take (k + 1)) = val 10 (t.data.toList.take k) * 10 + ((t[k].toNat : Int) - 48)) := by
          show val 10 (t.data.toList.take (k + 1)) = _
          rw [take_snoc hlt, val_snoc]
          rw [ok_dig] at hb
          unfold hvU hv
          rw [if_pos (of_decide_eq_true hb)]
        rw [ok_dig] at hb
        obtain ⟨d0, d1⟩ := of_decide_eq_true hb
        rw [HS.out] at v2
        clear hb
        revert HS v0 v1 v2
        generalize val 10 (t.data.toList.take k) = v
        intro v0 v1 v2 HS
        go_wp2
        go_round
        case rel => exact ⟨k + 1, by omega, by go_num, by rw [HS.out]; go_num⟩
        case measure => simp [intOf]; omega
      · have HT : Hid (t.data.toList.take k = t.data.toList) := List.take_of_length_le (by rw [← hsl.out]; omega)
        go_wp2
        go_ret2
        exact ⟨ret2_ii (by rw [HR.out, HT.out]) rfl, rfl⟩

set_option maxRecDepth 100000 in
set_option maxHeartbeats 1000000 in
theorem parseRPos_long (s : ByteArray) (w : World) (hs : s.size ≤ 1000) (h0 : 0 < s.size) (hq : ((s[0].toNat : Int) == 45) = false) (hn : allB s.data.toList = true) (hb : badB s.data.toList = false) (hv : 9223372036854775807 < val 10 s.data.toList) :
    Calls Tryz.prog 31 #[.string s] w fun e w' => e = .returned (.tuple #[.int .i64 0, .int .i64 5]) ∧ w = w' := by
  have hem := empty_no (s := s) (by omega)
  have hs1 : 1 ≤ s.size := h0
  have ht : s.size ≤ 1000 := hs
  have HA := Lib.hid (fun W => all_r s W ht)
  rw [hn] at HA
  have HAB := Lib.hid (fun W => abovePos s W ht hn)
  rw [decide_eq_true hv] at HAB
  have hh : ∀ (g : 0 < s.size), 1 < s.size → (((s[0]'g).toNat : Int) == 48) = false := fun g h => by
    rw [byte_eq s 0 g 48 48 rfl]
    apply decide_eq_false
    intro e
    exact (of_decide_eq_false hb) ⟨by rw [← Lib.size_eq]; exact h, e⟩
  clear hb
  clear hn hv
  go_enter Tryz.func31, Tryz.ntmps31
  go_wp2_with fail
  refine (HA.out _).mono ?_
  rintro e w' ⟨rfl, rfl⟩
  clear HA
  by_cases b1 : 1 < s.size
  · have b1' : (1 : Int) < (s.size : Int) := by omega
    have h0t : 0 < s.size := by omega
    have hq2 := hh h0t b1
    clear hh
    go_wp2_with fail
    refine (HAB.out _).mono ?_
    rintro e w' ⟨rfl, rfl⟩
    go_wp2
    go_ret2
    exact ⟨rfl, rfl⟩
  · have b1' : ¬ (1 : Int) < (s.size : Int) := by omega
    clear hh
    go_wp2_with fail
    refine (HAB.out _).mono ?_
    rintro e w' ⟨rfl, rfl⟩
    go_wp2
    go_ret2
    exact ⟨rfl, rfl⟩

set_option maxRecDepth 100000 in
set_option maxHeartbeats 2000000 in
theorem parseRPos_num (r : Int) (s : ByteArray) (w : World) (hs : s.size ≤ 1000) (h0 : 0 < s.size) (hq : ((s[0].toNat : Int) == 45) = false) (hn : allB s.data.toList = true) (hb : badB s.data.toList = false) (hv : val 10 s.data.toList ≤ 9223372036854775807) (hr : r = val 10 s.data.toList) :
    Calls Tryz.prog 31 #[.string s] w fun e w' => e = .returned (.tuple #[.int .i64 r, .int .i64 0]) ∧ w = w' := by
  have hem := empty_no (s := s) (by omega)
  have hs1 : 1 ≤ s.size := h0
  have ht : s.size ≤ 1000 := hs
  have HA := Lib.hid (fun W => all_r s W ht)
  rw [hn] at HA
  have HAB := Lib.hid (fun W => abovePos s W ht hn)
  rw [decide_eq_false (show ¬ 9223372036854775807 < val 10 s.data.toList by omega)] at HAB
  have hh : ∀ (g : 0 < s.size), 1 < s.size → (((s[0]'g).toNat : Int) == 48) = false := fun g h => by
    rw [byte_eq s 0 g 48 48 rfl]
    apply decide_eq_false
    intro e
    exact (of_decide_eq_false hb) ⟨by rw [← Lib.size_eq]; exact h, e⟩
  clear hb
  have HAL := Lib.hid ((all_iff _).1 hn).2
  have HV := Lib.hid hv
  have HR := Lib.hid hr
  have hsl := Lib.hid (Lib.size_eq s)
  clear hn hv hr
  go_enter Tryz.func31, Tryz.ntmps31
  go_wp2_with fail
  refine (HA.out _).mono ?_
  rintro e w' ⟨rfl, rfl⟩
  clear HA
  by_cases b1 : 1 < s.size
  · have b1' : (1 : Int) < (s.size : Int) := by omega
    have h0t : 0 < s.size := by omega
    have hq2 := hh h0t b1
    clear hh
    go_wp2_with fail
    refine (HAB.out _).mono ?_
    rintro e w' ⟨rfl, rfl⟩
    go_wp2
    go_loop [6, 7] (fun v i => ∃ k : Nat, k ≤ s.size ∧ i = .int .i64 k ∧ v = .int .i64 (val 10 (s.data.toList.take k))) (fun _ i => s.size - (intOf i).toNat)
    case atStart => exact ⟨0, by omega, rfl, by simp [val]⟩
    case round =>
      obtain ⟨k, hk, rfl, rfl⟩ := hrel
      have hak : (s.data.toList.take k).all (okD 10) = true := List.all_eq_true.2 fun x hx => List.all_eq_true.1 HAL.out x (List.mem_of_mem_take hx)
      have v0 := (val_bd (B := 10) (.inl rfl) _ hak).1
      have v1 : val 10 (s.data.toList.take k) ≤ 9223372036854775807 := Int.le_trans (val_take_le (.inl rfl) _ HAL.out k) HV.out
      clear hak
      by_cases hlt : k < s.size
      · have hb : okD 10 s[k] = true := List.all_eq_true.1 HAL.out _ (by rw [← gdat s k hlt]; exact List.getElem_mem _)
        have v2 : val 10 (s.data.toList.take (k + 1)) ≤ 9223372036854775807 := Int.le_trans (val_take_le (.inl rfl) _ HAL.out (k + 1)) HV.out
        have HS : Hid (val 10 (s.data.toList.take (k + 1)) = val 10 (s.data.toList.take k) * 10 + ((s[k].toNat : Int) - 48)) := by
          show val 10 (s.data.toList.take (k + 1)) = _
          rw [take_snoc hlt, val_snoc]
          rw [ok_dig] at hb
          unfold hvU hv
          rw [if_pos (of_decide_eq_true hb)]
        rw [ok_dig] at hb
        obtain ⟨d0, d1⟩ := of_decide_eq_true hb
        rw [HS.out] at v2
        clear hb
        revert HS v0 v1 v2
        generalize val 10 (s.data.toList.take k) = v
        intro v0 v1 v2 HS
        go_wp2
        go_round
        case rel => exact ⟨k + 1, by omega, by go_num, by rw [HS.out]; go_num⟩
        case measure => simp [intOf]; omega
      · have HT : Hid (s.data.toList.take k = s.data.toList) := List.take_of_length_le (by rw [← hsl.out]; omega)
        go_wp2
        go_ret2
        exact ⟨ret2_ii (by rw [HR.out, HT.out]) rfl, rfl⟩
  · have b1' : ¬ (1 : Int) < (s.size : Int) := by omega
    clear hh
    go_wp2_with fail
    refine (HAB.out _).mono ?_
    rintro e w' ⟨rfl, rfl⟩
    go_wp2
    go_loop [6, 7] (fun v i => ∃ k : Nat, k ≤ s.size ∧ i = .int .i64 k ∧ v = .int .i64 (val 10 (s.data.toList.take k))) (fun _ i => s.size - (intOf i).toNat)
    case atStart => exact ⟨0, by omega, rfl, by simp [val]⟩
    case round =>
      obtain ⟨k, hk, rfl, rfl⟩ := hrel
      have hak : (s.data.toList.take k).all (okD 10) = true := List.all_eq_true.2 fun x hx => List.all_eq_true.1 HAL.out x (List.mem_of_mem_take hx)
      have v0 := (val_bd (B := 10) (.inl rfl) _ hak).1
      have v1 : val 10 (s.data.toList.take k) ≤ 9223372036854775807 := Int.le_trans (val_take_le (.inl rfl) _ HAL.out k) HV.out
      clear hak
      by_cases hlt : k < s.size
      · have hb : okD 10 s[k] = true := List.all_eq_true.1 HAL.out _ (by rw [← gdat s k hlt]; exact List.getElem_mem _)
        have v2 : val 10 (s.data.toList.take (k + 1)) ≤ 9223372036854775807 := Int.le_trans (val_take_le (.inl rfl) _ HAL.out (k + 1)) HV.out
        have HS : Hid (val 10 (s.data.toList.take (k + 1)) = val 10 (s.data.toList.take k) * 10 + ((s[k].toNat : Int) - 48)) := by
          show val 10 (s.data.toList.take (k + 1)) = _
          rw [take_snoc hlt, val_snoc]
          rw [ok_dig] at hb
          unfold hvU hv
          rw [if_pos (of_decide_eq_true hb)]
        rw [ok_dig] at hb
        obtain ⟨d0, d1⟩ := of_decide_eq_true hb
        rw [HS.out] at v2
        clear hb
        revert HS v0 v1 v2
        generalize val 10 (s.data.toList.take k) = v
        intro v0 v1 v2 HS
        go_wp2
        go_round
        case rel => exact ⟨k + 1, by omega, by go_num, by rw [HS.out]; go_num⟩
        case measure => simp [intOf]; omega
      · have HT : Hid (s.data.toList.take k = s.data.toList) := List.take_of_length_le (by rw [← hsl.out]; omega)
        go_wp2
        go_ret2
        exact ⟨ret2_ii (by rw [HR.out, HT.out]) rfl, rfl⟩
end Go.Proofs.YtpgllcdcpdeicaaGreatDoor.Nu
namespace Go.Proofs.YtpgllcdcpdeicaaGreatDoor.Nu
open Go.RowKit
set_option linter.unusedSimpArgs false
set_option linter.unusedVariables false

theorem neg_cons (b : UInt8) (l : List UInt8) : negB (b :: l) = decide (b = 45) := by
  have h : negB (b :: l) = ((45 : UInt8) == b && true) := by unfold negB Lib.hasPrefix; cases l <;> rfl
  rw [h, Bool.and_true]
  by_cases e : b = 45
  · subst e; rfl
  · rw [decide_eq_false e]
    exact beq_eq_false_iff_ne.2 (fun h => e h.symm)
theorem body_cons (b : UInt8) (l : List UInt8) : bodyL (b :: l) = if b = 45 then l else b :: l := by
  unfold bodyL Lib.trimPrefix
  have h := neg_cons b l
  unfold negB at h
  rw [h]
  by_cases e : b = 45 <;> simp [e]
theorem parts_neg (s : ByteArray) (h0 : 0 < s.size) (hq : ((s[0].toNat : Int) == 45) = true) : negB s.data.toList = true ∧ bodyL s.data.toList = (s.extract 1 s.size).data.toList := by
  rw [byte_eq s 0 h0 45 45 rfl] at hq
  have h := of_decide_eq_true hq
  rw [Lib.extract_to_end]
  cases e : s.data.toList with
  | nil => rw [Lib.size_eq, e] at h0; simp at h0
  | cons b l =>
    rw [e] at h
    have hb : b = 45 := by simpa [List.getD] using h
    subst hb
    exact ⟨by rw [neg_cons]; rfl, by rw [body_cons]; rfl⟩
theorem parts_pos (s : ByteArray) (h0 : 0 < s.size) (hq : ((s[0].toNat : Int) == 45) = false) : negB s.data.toList = false ∧ bodyL s.data.toList = s.data.toList := by
  rw [byte_eq s 0 h0 45 45 rfl] at hq
  have h := of_decide_eq_false hq
  cases e : s.data.toList with
  | nil => rw [Lib.size_eq, e] at h0; simp at h0
  | cons b l =>
    rw [e] at h
    have hb : ¬ b = 45 := by simpa [List.getD] using h
    exact ⟨by rw [neg_cons]; exact decide_eq_false hb, by rw [body_cons, if_neg hb]⟩
theorem parseR_nil (s : ByteArray) (w : World) (h : s.size = 0) : Calls Tryz.prog 31 #[.string s] w fun e w' => e = .returned (.tuple #[.int .i64 0, .int .i64 3]) ∧ w = w' := by
  have hem := empty_of h
  have HA := Lib.hid (fun W => all_r s W (by omega))
  have e : allB s.data.toList = false := by unfold allB; rw [← Lib.toList_data, hem]; rfl
  rw [e] at HA
  clear e h
  go_enter Tryz.func31, Tryz.ntmps31
  go_wp2_with fail
  refine (HA.out _).mono ?_
  rintro e w' ⟨rfl, rfl⟩
  go_wp2
  go_ret2
  exact ⟨rfl, rfl⟩
theorem p_bad {l : List UInt8} (h : badB (bodyL l) = true) : pN l = 0 ∧ pE l = 3 := ⟨by unfold pN; rw [h]; rfl, by unfold pE; rw [h]; rfl⟩
theorem p_form {l : List UInt8} (h : ¬ (bodyL l ≠ [] ∧ (bodyL l).all (okD 10) = true)) : pN l = 0 ∧ pE l = 3 := by
  unfold pN pE
  rw [(rd_no h).1, (rd_no h).1, (rd_no h).2, (rd_no h).2]
  constructor
  · split
    · rfl
    · split <;> rfl
  · split
    · rfl
    · split <;> rfl
theorem allB_no {l : List UInt8} (h : allB l = false) : ¬ (l ≠ [] ∧ l.all (okD 10) = true) := fun g => by rw [(all_iff l).2 g] at h; cases h

theorem parse_r (s : ByteArray) (w : World) (hs : s.size ≤ 1000) : Calls Tryz.prog 31 #[.string s] w fun e w' => e = .returned (.tuple #[.int .i64 (pN s.data.toList), .int .i64 (pE s.data.toList)]) ∧ w = w' := by
  by_cases hz : s.size = 0
  · have e : s.data.toList = [] := List.length_eq_zero_iff.1 (by rw [← Lib.size_eq]; exact hz)
    rw [e, show pN [] = 0 from by decide +kernel, show pE [] = 3 from by decide +kernel]
    exact parseR_nil s w hz
  have h0 : 0 < s.size := by omega
  cases hq : ((s[0].toNat : Int) == 45) with
  | true =>
    obtain ⟨hn, hb⟩ := parts_neg s h0 hq
    cases ha : allB (s.extract 1 s.size).data.toList with
    | false =>
      have hf := p_form (l := s.data.toList) (by rw [hb]; exact allB_no ha)
      rw [hf.1, hf.2]
      exact parseRNeg_form s w hs h0 hq ha
    | true =>
      obtain ⟨a1, a2⟩ := (all_iff _).1 ha
      cases hbd : badB (s.extract 1 s.size).data.toList with
      | true =>
        have hf := p_bad (l := s.data.toList) (by rw [hb]; exact hbd)
        rw [hf.1, hf.2]
        exact parseRNeg_bad s w hs h0 hq ha hbd
      | false =>
        by_cases hv : val 10 (s.extract 1 s.size).data.toList ≤ 9223372036854775808
        · have e1 : pN s.data.toList = -val 10 (s.extract 1 s.size).data.toList := by unfold pN; rw [hb, hbd, hn, (rd_yes ⟨a1, a2⟩ hv).1]; rfl
          have e2 : pE s.data.toList = 0 := by unfold pE; rw [hb, hbd, hn, (rd_yes ⟨a1, a2⟩ hv).2]; rfl
          rw [e2]
          exact parseRNeg_num _ s w hs h0 hq ha hbd hv e1
        · have e1 : pN s.data.toList = 0 := by unfold pN; rw [hb, hbd, hn, (rd_long ⟨a1, a2⟩ hv).1]; rfl
          have e2 : pE s.data.toList = 5 := by unfold pE; rw [hb, hbd, hn, (rd_long ⟨a1, a2⟩ hv).2]; rfl
          rw [e1, e2]
          exact parseRNeg_long s w hs h0 hq ha hbd (by omega)
  | false =>
    obtain ⟨hn, hb⟩ := parts_pos s h0 hq
    cases ha : allB s.data.toList with
    | false =>
      have hf := p_form (l := s.data.toList) (by rw [hb]; exact allB_no ha)
      rw [hf.1, hf.2]
      exact parseRPos_form s w hs h0 hq ha
    | true =>
      obtain ⟨a1, a2⟩ := (all_iff _).1 ha
      cases hbd : badB s.data.toList with
      | true =>
        have hf := p_bad (l := s.data.toList) (by rw [hb]; exact hbd)
        rw [hf.1, hf.2]
        exact parseRPos_bad s w hs h0 hq ha hbd
      | false =>
        by_cases hv : val 10 s.data.toList ≤ 9223372036854775807
        · have e1 : pN s.data.toList = val 10 s.data.toList := by unfold pN; rw [hb, hbd, hn, (rd_yes ⟨a1, a2⟩ hv).1]; rfl
          have e2 : pE s.data.toList = 0 := by unfold pE; rw [hb, hbd, hn, (rd_yes ⟨a1, a2⟩ hv).2]; rfl
          rw [e2]
          exact parseRPos_num _ s w hs h0 hq ha hbd hv e1
        · have e1 : pN s.data.toList = 0 := by unfold pN; rw [hb, hbd, hn, (rd_long ⟨a1, a2⟩ hv).1]; rfl
          have e2 : pE s.data.toList = 5 := by unfold pE; rw [hb, hbd, hn, (rd_long ⟨a1, a2⟩ hv).2]; rfl
          rw [e1, e2]
          exact parseRPos_long s w hs h0 hq ha hbd (by omega)

/-- what is read of digits without noughts ahead -/
theorem p_digits {l : List UInt8} (h : l ≠ []) (ha : l.all (okD 10) = true) (hb : badB l = false) (hv : val 10 l ≤ 9223372036854775807) : pN l = val 10 l ∧ pE l = 0 := by
  cases l with
  | nil => exact absurd rfl h
  | cons b t =>
    have hd : okD 10 b = true := by rw [List.all_cons, Bool.and_eq_true] at ha; exact ha.1
    have hn : ¬ b = 45 := fun e => by subst e; rw [okD_ten] at hd; revert hd; decide
    have e1 : negB (b :: t) = false := by rw [neg_cons]; exact decide_eq_false hn
    have e2 : bodyL (b :: t) = b :: t := by rw [body_cons, if_neg hn]
    unfold pN pE
    rw [e1, e2, hb, (rd_yes ⟨h, ha⟩ hv).1, (rd_yes ⟨h, ha⟩ hv).2]
    exact ⟨rfl, rfl⟩
theorem strip_bad (l : List UInt8) : badB (stripL l) = false := by
  apply decide_eq_false
  intro h
  cases e : stripL l with
  | nil => rw [e] at h; simp at h
  | cons b t =>
    rw [e] at h
    have ht : t ≠ [] := fun e2 => by subst e2; simp at h
    exact strip_head l b t e ht (by simpa [List.getD] using h.2)
theorem kSize_all : allB [50, 49, 52, 55, 52, 56, 51, 54, 52, 55] = true := by decide +kernel
theorem kSize_val : val 10 [50, 49, 52, 55, 52, 56, 51, 54, 52, 55] = 2147483647 := by decide +kernel
theorem aboveSize (t : ByteArray) (w : World) (ht : t.size ≤ 1000) (ha : allB t.data.toList = true) : Calls Tryz.prog 48 #[.string t, .string ⟨#[50, 49, 52, 55, 52, 56, 51, 54, 52, 55]⟩] w fun e w' => e = .returned (.bool (decide (2147483647 < val 10 t.data.toList))) ∧ w = w' := by
  have h := above_r t ⟨#[50, 49, 52, 55, 52, 56, 51, 54, 52, 55]⟩ w ht (by decide)
  have e : (ByteArray.mk #[50, 49, 52, 55, 52, 56, 51, 54, 52, 55]).data.toList = [50, 49, 52, 55, 52, 56, 51, 54, 52, 55] := rfl
  obtain ⟨a1, a2⟩ := (all_iff _).1 ha
  obtain ⟨b1, b2⟩ := (all_iff _).1 kSize_all
  rw [e, above_eq _ _ a2 b2 a1 b1, kSize_val] at h
  exact h
end Go.Proofs.YtpgllcdcpdeicaaGreatDoor.Nu
namespace Go.Proofs.YtpgllcdcpdeicaaGreatDoor.Nu
open Go.RowKit
set_option linter.unusedSimpArgs false
set_option linter.unusedVariables false

def tabL : List Int := [48, 49, 50, 51, 52, 53, 54, 55, 56, 57, 97, 98, 99, 100, 101, 102, 65, 66, 67, 68, 69, 70]
def tabA : Array Value := #[.int .u8 48, .int .u8 49, .int .u8 50, .int .u8 51, .int .u8 52, .int .u8 53, .int .u8 54, .int .u8 55, .int .u8 56, .int .u8 57, .int .u8 97, .int .u8 98, .int .u8 99, .int .u8 100, .int .u8 101, .int .u8 102, .int .u8 65, .int .u8 66, .int .u8 67, .int .u8 68, .int .u8 69, .int .u8 70]
theorem tabA_eq : tabA = (tabL.map (fun z => Value.int .u8 z)).toArray := rfl
theorem tab_at (k : Nat) (hk : k < 22) : tabA[k]? = some (.int .u8 (tabL.getD k 0)) := by
  have h : k < tabL.length := hk
  rw [tabA_eq, List.getElem?_toArray, List.getElem?_map, List.getD, List.getElem?_eq_getElem h]; rfl
theorem tab_cell (w : World) (k : Nat) (hk : k < 22) : (w.alloc (.cells tabA 5 (22, 23))).cell? ⟨w.heap.size, k, none⟩ = some (.int .u8 (tabL.getD k 0)) := by
  rw [World.cell?_alloc_mark]; exact tab_at k hk
theorem tab_hv : ∀ k : Fin 22, hv (tabL.getD k.val 0) = if k.val < 16 then (k.val : Int) else (k.val : Int) - 6 := by decide +kernel
theorem tab_no : ∀ n : Fin 256, (List.range 22).all (fun j => decide (tabL.getD j 0 ≠ (n.val : Int))) = true → hv (n.val : Int) = -1 := by decide +kernel
theorem hv_none (c : Int) (h0 : 0 ≤ c) (h1 : c ≤ 255) (h : ∀ j, j < 22 → tabL.getD j 0 ≠ c) : hv c = -1 := by
  have := tab_no ⟨c.toNat, by omega⟩
  have e : ((c.toNat : Nat) : Int) = c := by omega
  simp only [e] at this
  exact this (List.all_eq_true.2 fun j hj => decide_eq_true (h j (List.mem_range.1 hj)))

set_option maxRecDepth 100000 in
set_option maxHeartbeats 1000000 in
theorem digit_r (c : Int) (w : World) (h0 : 0 ≤ c) (h1 : c ≤ 255) : Calls Tryz.prog 77 #[.int .u8 c] w fun e w' => e = .returned (.int .i64 (hv c)) ∧ Below w.heap.size w w' := by
  have HC : Hid (∀ k, k < 22 → (w.alloc (.cells tabA 5 (22, 23))).cell? ⟨w.heap.size, k, none⟩ = some (.int .u8 (tabL.getD k 0))) := fun k hk => tab_cell w k hk
  have HB := Lib.hid ((Below.refl w.heap.size w).alloc (Nat.le_refl _) (.cells tabA 5 (22, 23)))
  unfold tabA at HC HB
  have kc := fun (w : World) (C : Array Value) (n c : Nat) => Lib.run_convert_bytes_const (P := Tryz.prog) w 82 5 C n c Tryz.underlying82 Tryz.underlying5
  go_enter Tryz.func77, Tryz.ntmps77
  go_wp2
  clear kc
  revert HC HB
  generalize w.alloc (.cells #[.int .u8 48, .int .u8 49, .int .u8 50, .int .u8 51, .int .u8 52, .int .u8 53, .int .u8 54, .int .u8 55, .int .u8 56, .int .u8 57, .int .u8 97, .int .u8 98, .int .u8 99, .int .u8 100, .int .u8 101, .int .u8 102, .int .u8 65, .int .u8 66, .int .u8 67, .int .u8 68, .int .u8 69, .int .u8 70] 5 (22, 23)) = W1
  intro HC HB
  go_loop [8] (fun i => ∃ k : Nat, k ≤ 22 ∧ i = .int .i64 k ∧ ∀ j, j < k → tabL.getD j 0 ≠ c) (fun i => 22 - (intOf i).toNat)
  case atStart => exact ⟨0, by omega, rfl, fun j hj => by omega⟩
  case round =>
    obtain ⟨k, hk, rfl, hno⟩ := hrel
    have HN := Lib.hid hno
    clear hno
    by_cases hlt : k < 22
    · have hc := HC.out k hlt
      have HT := Lib.hid (tab_hv ⟨k, hlt⟩)
      simp only [] at HT
      by_cases he : tabL.getD k 0 = c
      · rw [he] at hc HT
        clear he
        by_cases h16 : k < 16
        · have h16' : (k : Int) < 16 := by omega
          rw [if_pos h16] at HT
          go_wp2
          go_ret
          exact ⟨ret_int HT.out.symm, HB.out⟩
        · have h16' : ¬ (k : Int) < 16 := by omega
          have h16d : decide ((k : Int) < 16) = false := by simpa using h16'
          rw [if_neg h16] at HT
          go_wp2
          go_ret
          exact ⟨ret_int HT.out.symm, HB.out⟩
      · have he2 : (tabL.getD k 0 == c) = false := by simpa using he
        have HN2 : Hid (∀ j, j < k + 1 → tabL.getD j 0 ≠ c) := fun j hj => by
          by_cases e : j = k
          · subst e; exact he
          · exact HN.out j (by omega)
        clear he HT
        revert hc he2
        generalize tabL.getD k 0 = x
        intro hc he2
        go_wp2
        go_round
        case rel => exact ⟨k + 1, by omega, by go_num, HN2.out⟩
        case measure => simp [intOf]; omega
    · have HK := Lib.hid (hv_none c h0 h1 (fun j hj => HN.out j (by omega)))
      go_wp2
      go_ret
      exact ⟨ret_int HK.out.symm, HB.out⟩
end Go.Proofs.YtpgllcdcpdeicaaGreatDoor.Nu
namespace Go.Proofs.YtpgllcdcpdeicaaGreatDoor.Nu
open Go.RowKit
set_option linter.unusedSimpArgs false
set_option linter.unusedVariables false

theorem hex_big {l : List UInt8} (ha : l.all (okD 16) = true) (h : 8 < (stripL l).length) : ¬ val 16 l ≤ 2147483647 := by
  have := strip_big (.inr rfl) l ha 8 h (by decide)
  have e : (16 : Int) ^ 8 = 4294967296 := by decide
  omega
theorem hex_small {l : List UInt8} (ha : l.all (okD 16) = true) (h : (stripL l).length < 8) : val 16 l ≤ 2147483647 := by
  have h1 := strip_small (.inr rfl) l ha
  have h2 := pow_mono (B := 16) (.inr rfl) (n := (stripL l).length) (m := 7) (by omega)
  have e : (16 : Int) ^ 7 = 268435456 := by decide
  omega
theorem hex_eight {l : List UInt8} (ha : l.all (okD 16) = true) (h : (stripL l).length = 8) (b : UInt8) (hb : (stripL l).getD 0 0 = b) : (val 16 l ≤ 2147483647 ↔ hvU b ≤ 7) := by
  have hs := strip_all _ l ha
  have hv := strip_val 16 l
  cases e : stripL l with
  | nil => rw [e] at h; simp at h
  | cons c t =>
    rw [e] at h hs hv hb
    have hc : c = b := by simpa [List.getD] using hb
    subst hc
    rw [List.all_cons, Bool.and_eq_true] at hs
    have hl : t.length = 7 := by simpa using h
    have hb2 := okD_bd hs.1
    have hv2 := val_bd (.inr rfl) t hs.2
    rw [val_cons, hl] at hv
    rw [hl] at hv2
    have e7 : (16 : Int) ^ 7 = 268435456 := by decide
    rw [e7] at hv hv2
    omega
theorem ok16 (b : UInt8) : okD 16 b = decide (0 ≤ hv (b.toNat : Int)) := by
  unfold okD hvU
  have := (hv_bd (b.toNat : Int)).2
  rw [Bool.eq_iff_iff]
  simp only [decide_eq_true_eq]
  omega

/-- the rest of Hex behind the test of its digits: the loop that reads them -/
def H2 (t : ByteArray) (w : World) (k : Nat) (v : Value) (wr : World) : Prop := v = .int .i64 (val 16 (t.data.toList.take k)) ∧ Below w.heap.size w wr

set_option maxRecDepth 100000 in
set_option maxHeartbeats 2000000 in
theorem hex_r (s : ByteArray) (w : World) (hs : s.size ≤ 1000) : Calls Tryz.prog 67 #[.string s] w fun e w' => e = .returned (.tuple #[.int .i64 (rdN 16 2147483647 s.data.toList), .int .i64 (rdE 16 2147483647 s.data.toList)]) ∧ Below w.heap.size w w' := by
  have hsl := Lib.hid (Lib.size_eq s)
  go_enter Tryz.func67, Tryz.ntmps67
  go_wp2
  go_loopw [4] (fun i wr => ∃ k : Nat, k ≤ s.size ∧ i = .int .i64 k ∧ (s.data.toList.take k).all (okD 16) = true ∧ Below w.heap.size w wr) (fun i _ => s.size - (intOf i).toNat)
  case atStart => exact ⟨0, by omega, rfl, rfl, Below.refl _ _⟩
  case round =>
    obtain ⟨k, hk, rfl, hal, hB⟩ := hrel
    have HA := Lib.hid hal
    have HB := Lib.hid hB
    clear hal hB
    by_cases hlt : k < s.size
    · have h0 : 0 ≤ ((s[k].toNat : Nat) : Int) := by omega
      have h1 : ((s[k].toNat : Nat) : Int) ≤ 255 := by have := s[k].toNat_lt; omega
      have HD := Lib.hid (fun W => digit_r (s[k].toNat : Int) W h0 h1)
      by_cases hd : 0 ≤ hv (s[k].toNat : Int)
      · have HOK : Hid ((s.data.toList.take (k + 1)).all (okD 16) = true) := all_snoc (p := okD 16) hlt HA.out (by rw [ok16]; exact decide_eq_true hd)
        revert HD hd
        generalize hv (s[k].toNat : Int) = d
        intro HD hd
        go_wp2_with fail
        refine (HD.out _).mono ?_
        rintro e w1 ⟨rfl, hb1⟩
        have B1 := Lib.hid hb1
        clear hb1 HD
        go_wp2
        go_roundw
        case rel => exact ⟨k + 1, by omega, by go_num, HOK.out, HB.out.trans (B1.out.mono HB.out.size)⟩
        case measure => simp [intOf]; omega
      · have HN : Hid (¬ (s.data.toList ≠ [] ∧ s.data.toList.all (okD 16) = true)) := fun g => by
          have := all_no (p := okD 16) hlt (by rw [ok16]; exact decide_eq_false hd)
          rw [g.2] at this; cases this
        have hd2 : hv (s[k].toNat : Int) < 0 := by omega
        clear hd
        revert HD hd2
        generalize hv (s[k].toNat : Int) = d
        intro HD hd2
        go_wp2_with fail
        refine (HD.out _).mono ?_
        rintro e w1 ⟨rfl, hb1⟩
        have B1 := Lib.hid hb1
        clear hb1 HD
        go_wp2
        go_ret2
        exact ⟨ret2_ii (rd_no HN.out).1.symm (rd_no HN.out).2.symm, HB.out.trans (B1.out.mono HB.out.size)⟩
    · have HAL : Hid (s.data.toList.all (okD 16) = true) := by
        have h := HA.out
        rw [List.take_of_length_le (by rw [← hsl.out]; omega)] at h
        exact h
      clear HA
      by_cases hz : s.size = 0
      · have hem := empty_of hz
        have HN : Hid (¬ (s.data.toList ≠ [] ∧ s.data.toList.all (okD 16) = true)) := fun g => g.1 (List.length_eq_zero_iff.1 (by rw [← hsl.out]; exact hz))
        clear hz
        go_wp2
        go_ret2
        exact ⟨ret2_ii (rd_no HN.out).1.symm (rd_no HN.out).2.symm, HB.out⟩
      have hem := empty_no hz
      have HNE := Lib.hid (ne_of hz)
      have HS := Lib.hid (fun W => strip_r s W hs)
      have hts : (mkS (stripL s.data.toList)).size ≤ 1000 := by rw [size_mkS]; have := (strip_len s.data.toList).1; rw [← Lib.size_eq] at this; omega
      have ht1 : 1 ≤ (mkS (stripL s.data.toList)).size := by rw [size_mkS]; exact (strip_len s.data.toList).2 HNE.out
      have HTL : Hid ((mkS (stripL s.data.toList)).data.toList = stripL s.data.toList) := data_mkS _
      clear hz
      go_wp2_with fail
      refine (HS.out _).mono ?_
      rintro e w' ⟨rfl, rfl⟩
      clear HS
      revert hts ht1 HTL
      generalize mkS (stripL s.data.toList) = t
      intro hts ht1 HTL
      have htl := Lib.hid (Lib.size_eq t)
      have HTA : Hid (t.data.toList.all (okD 16) = true) := by show t.data.toList.all (okD 16) = true; rw [HTL.out]; exact strip_all _ _ HAL.out
      have HTV : Hid (val 16 t.data.toList = val 16 s.data.toList) := by show val 16 t.data.toList = _; rw [HTL.out]; exact strip_val _ _
      by_cases h8 : 8 < t.size
      · have h8' : (8 : Int) < (t.size : Int) := by omega
        have HL : Hid (2147483647 < val 16 s.data.toList) := by have h := hex_big HAL.out (l := s.data.toList) (by have := htl.out; rw [HTL.out] at this; omega); show 2147483647 < val 16 s.data.toList; omega
        go_wp2
        go_ret2
        exact ⟨ret2_ii (rd_long ⟨HNE.out, HAL.out⟩ (by have := HL.out; omega)).1.symm (rd_long ⟨HNE.out, HAL.out⟩ (by have := HL.out; omega)).2.symm, HB.out⟩
      have h8n : ¬ (8 : Int) < (t.size : Int) := by omega
      have ht0 : 0 < t.size := by omega
      by_cases h8e : t.size = 8
      · have q0 : 0 ≤ ((t[0].toNat : Nat) : Int) := by omega
        have q1 : ((t[0].toNat : Nat) : Int) ≤ 255 := by have := t[0].toNat_lt; omega
        have HD := Lib.hid (fun W => digit_r (t[0].toNat : Int) W q0 q1)
        have HX := Lib.hid (hex_eight HAL.out (by rw [← HTL.out, ← htl.out]; exact h8e) t[0] (by rw [← HTL.out, getD_at t 0 ht0]))
        have e8 : ((t.size : Int) == 8) = true := by simp [h8e]
        clear h8 h8e
        by_cases h7 : hv (t[0].toNat : Int) ≤ 7
        · have HL : Hid (val 16 s.data.toList ≤ 2147483647) := HX.out.2 h7
          clear HX
          revert HD h7
          generalize hv (t[0].toNat : Int) = d
          intro HD h7
          go_wp2_with fail
          refine (HD.out _).mono ?_
          rintro e w1 ⟨rfl, hb1⟩
          have B1 : Hid (Below w.heap.size w w1) := HB.out.trans (hb1.mono HB.out.size)
          clear hb1 HD
          go_wp2
          go_loopw [5, 6] (fun v i wr => ∃ j : Nat, j ≤ t.size ∧ i = .int .i64 j ∧ H2 t w j v wr) (fun _ i _ => t.size - (intOf i).toNat)
          case atStart => exact ⟨0, by omega, rfl, by simp [val], B1.out⟩
          case round =>
            rename World => wq
            obtain ⟨j, hj, rfl, rfl, hW⟩ := hrel
            have HW := Lib.hid hW
            have haj : (t.data.toList.take j).all (okD 16) = true := List.all_eq_true.2 fun x hx => List.all_eq_true.1 HTA.out x (List.mem_of_mem_take hx)
            have v0 := (val_bd (B := 16) (.inr rfl) _ haj).1
            have v1 : val 16 (t.data.toList.take j) ≤ 2147483647 := Int.le_trans (val_take_le (.inr rfl) _ HTA.out j) (by rw [HTV.out]; exact HL.out)
            clear haj hW
            by_cases hlt2 : j < t.size
            · have g0 : 0 ≤ ((t[j].toNat : Nat) : Int) := by omega
              have g1 : ((t[j].toNat : Nat) : Int) ≤ 255 := by have := t[j].toNat_lt; omega
              have HD := Lib.hid (fun W => digit_r (t[j].toNat : Int) W g0 g1)
              have HSV : Hid (val 16 (t.data.toList.take (j + 1)) = val 16 (t.data.toList.take j) * 16 + hv (t[j].toNat : Int)) := by
                show val 16 (t.data.toList.take (j + 1)) = _
                rw [take_snoc hlt2, val_snoc]; rfl
              have hd0 := (hv_bd (t[j].toNat : Int)).1
              have hd1 := (hv_bd (t[j].toNat : Int)).2
              revert HSV HD hd0 hd1
              generalize hv (t[j].toNat : Int) = d
              intro HD HSV hd0 hd1
              go_wp2_with fail
              refine (HD.out _).mono ?_
              rintro e w2 ⟨rfl, hb2⟩
              have B2 := Lib.hid hb2
              clear hb2 HD
              revert HSV v0 v1
              generalize val 16 (t.data.toList.take j) = v
              intro v0 v1 HSV
              go_wp2
              go_roundw
              case rel => exact ⟨j + 1, by omega, by go_num, by rw [HSV.out]; go_num, HW.out.trans (B2.out.mono HW.out.size)⟩
              case measure => simp [intOf]; omega
            · have HT : Hid (t.data.toList.take j = t.data.toList) := List.take_of_length_le (by rw [← htl.out]; omega)
              go_wp2
              go_ret2
              exact ⟨ret2_ii (by rw [(rd_yes ⟨HNE.out, HAL.out⟩ HL.out).1, HT.out, HTV.out]) (rd_yes ⟨HNE.out, HAL.out⟩ HL.out).2.symm, HW.out⟩
        · have h7n : 7 < hv (t[0].toNat : Int) := by omega
          have HL : Hid (2147483647 < val 16 s.data.toList) := by
            show 2147483647 < val 16 s.data.toList
            have : ¬ val 16 s.data.toList ≤ 2147483647 := fun h => h7 (HX.out.1 h)
            omega
          clear HX h7
          revert HD h7n
          generalize hv (t[0].toNat : Int) = d
          intro HD h7n
          go_wp2_with fail
          refine (HD.out _).mono ?_
          rintro e w1 ⟨rfl, hb1⟩
          have B1 : Hid (Below w.heap.size w w1) := HB.out.trans (hb1.mono HB.out.size)
          clear hb1 HD
          go_wp2
          go_ret2
          exact ⟨ret2_ii (rd_long ⟨HNE.out, HAL.out⟩ (by have := HL.out; omega)).1.symm (rd_long ⟨HNE.out, HAL.out⟩ (by have := HL.out; omega)).2.symm, B1.out⟩
      · have e8 : ((t.size : Int) == 8) = false := by simp; omega
        have HL : Hid (val 16 s.data.toList ≤ 2147483647) := hex_small HAL.out (by have := htl.out; rw [HTL.out] at this; omega)
        have B1 : Hid (Below w.heap.size w wr) := HB.out
        clear h8 h8e
        go_wp2
        go_loopw [5, 6] (fun v i wr => ∃ j : Nat, j ≤ t.size ∧ i = .int .i64 j ∧ H2 t w j v wr) (fun _ i _ => t.size - (intOf i).toNat)
        case atStart => exact ⟨0, by omega, rfl, by simp [val], B1.out⟩
        case round =>
          rename World => wq
          obtain ⟨j, hj, rfl, rfl, hW⟩ := hrel
          have HW := Lib.hid hW
          have haj : (t.data.toList.take j).all (okD 16) = true := List.all_eq_true.2 fun x hx => List.all_eq_true.1 HTA.out x (List.mem_of_mem_take hx)
          have v0 := (val_bd (B := 16) (.inr rfl) _ haj).1
          have v1 : val 16 (t.data.toList.take j) ≤ 2147483647 := Int.le_trans (val_take_le (.inr rfl) _ HTA.out j) (by rw [HTV.out]; exact HL.out)
          clear haj hW
          by_cases hlt2 : j < t.size
          · have g0 : 0 ≤ ((t[j].toNat : Nat) : Int) := by omega
            have g1 : ((t[j].toNat : Nat) : Int) ≤ 255 := by have := t[j].toNat_lt; omega
            have HD := Lib.hid (fun W => digit_r (t[j].toNat : Int) W g0 g1)
            have HSV : Hid (val 16 (t.data.toList.take (j + 1)) = val 16 (t.data.toList.take j) * 16 + hv (t[j].toNat : Int)) := by
              show val 16 (t.data.toList.take (j + 1)) = _
              rw [take_snoc hlt2, val_snoc]; rfl
            have hd0 := (hv_bd (t[j].toNat : Int)).1
            have hd1 := (hv_bd (t[j].toNat : Int)).2
            revert HSV HD hd0 hd1
            generalize hv (t[j].toNat : Int) = d
            intro HD HSV hd0 hd1
            go_wp2_with fail
            refine (HD.out _).mono ?_
            rintro e w2 ⟨rfl, hb2⟩
            have B2 := Lib.hid hb2
            clear hb2 HD
            revert HSV v0 v1
            generalize val 16 (t.data.toList.take j) = v
            intro v0 v1 HSV
            go_wp2
            go_roundw
            case rel => exact ⟨j + 1, by omega, by go_num, by rw [HSV.out]; go_num, HW.out.trans (B2.out.mono HW.out.size)⟩
            case measure => simp [intOf]; omega
          · have HT : Hid (t.data.toList.take j = t.data.toList) := List.take_of_length_le (by rw [← htl.out]; omega)
            go_wp2
            go_ret2
            exact ⟨ret2_ii (by rw [(rd_yes ⟨HNE.out, HAL.out⟩ HL.out).1, HT.out, HTV.out]) (rd_yes ⟨HNE.out, HAL.out⟩ HL.out).2.symm, HW.out⟩
end Go.Proofs.YtpgllcdcpdeicaaGreatDoor.Nu
