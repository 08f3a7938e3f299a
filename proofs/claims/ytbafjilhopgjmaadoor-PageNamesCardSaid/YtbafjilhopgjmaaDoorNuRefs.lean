/- Contracts of the document's own all, strip, above and Parse: for every text of at most a thousand bytes. -/
import Derived.Test.YtbafjilhopgjmaaDoorNuParses
import Derived.Laws.Cover1
namespace Go.Proofs.YtbafjilhopgjmaaDoor.Nu
open Go.RowKit
set_option linter.unusedSimpArgs false
set_option linter.unusedVariables false

def allB (l : List UInt8) : Bool := !l.isEmpty && l.all (okD 10)
theorem all_iff (l : List UInt8) : allB l = true ↔ (l ≠ [] ∧ l.all (okD 10) = true) := by
  unfold allB
  rw [Bool.and_eq_true]
  cases l <;> simp
theorem ok_dig (b : UInt8) : okD 10 b = digB (b.toNat : Int) := okD_ten b
set_option maxRecDepth 100000 in
set_option maxHeartbeats 1000000 in
theorem all_r (s : ByteArray) (w : World) (hs : s.size ≤ 1000) : Calls Tryd.prog 30 #[.string s] w fun e w' => e = .returned (.bool (allB s.data.toList)) ∧ w = w' := by
  have hsl := Lib.hid (Lib.size_eq s)
  go_enter Tryd.func30, Tryd.ntmps30
  go_wp2
  go_loop [3] (fun i => ∃ k : Nat, k ≤ s.size ∧ i = .int .i64 k ∧ (s.data.toList.take k).all (okD 10) = true) (fun i => s.size - (intOf i).toNat)
  case atStart => exact ⟨0, by omega, rfl, rfl⟩
  case round =>
    obtain ⟨k, hk, rfl, hal⟩ := hrel
    have HA := Lib.hid hal
    clear hal
    by_cases hlt : k < s.size
    · have h0 : 0 ≤ ((s[k].toNat : Nat) : Int) := by omega
      have h1 : ((s[k].toNat : Nat) : Int) ≤ 255 := by have := s[k].toNat_lt; omega
      cases hb : digB (s[k].toNat : Int) with
      | true =>
        have HB := Lib.hid hb
        go_wp2_with (go_at_call 40; refine (dig_r _ _ h0 h1).mono ?_; rintro e w' ⟨rfl, rfl⟩)
        go_round
        case rel => exact ⟨k + 1, by omega, by go_num, all_snoc (p := okD 10) hlt HA.out (by rw [ok_dig]; exact HB.out)⟩
        case measure => simp [intOf]; omega
      | false =>
        have HB := Lib.hid hb
        go_wp2_with (go_at_call 40; refine (dig_r _ _ h0 h1).mono ?_; rintro e w' ⟨rfl, rfl⟩)
        go_ret
        refine ⟨ret_bool ?_, rfl⟩
        unfold allB
        rw [all_no (p := okD 10) hlt (by rw [ok_dig]; exact HB.out), Bool.and_false]
    · have HT : Hid (s.data.toList.take k = s.data.toList) := List.take_of_length_le (by rw [← hsl.out]; omega)
      go_wp2
      go_ret
      refine ⟨ret_bool ?_, rfl⟩
      have h := HA.out
      rw [HT.out] at h
      unfold allB
      rw [h, Bool.and_true, ← Lib.toList_data]

theorem strip_step (t : ByteArray) (h1 : 1 < t.size) (hb : t.data.toList.getD 0 0 = 48) : stripL (t.extract 1 t.size).data.toList = stripL t.data.toList ∧ (t.extract 1 t.size).size = t.size - 1 := by
  refine ⟨?_, by rw [ByteArray.size_extract]; omega⟩
  rw [Lib.extract_to_end]
  have hl : 1 < t.data.toList.length := by rw [← Lib.size_eq]; exact h1
  cases e : t.data.toList with
  | nil => rw [e] at hl; simp at hl
  | cons b l =>
    rw [e] at hl hb
    cases l with
    | nil => simp at hl
    | cons c l =>
      have hb : b = 48 := by simpa [List.getD] using hb
      subst hb
      rfl
theorem strip_end (t : ByteArray) (h : ¬ (1 < t.size ∧ t.data.toList.getD 0 0 = 48)) : stripL t.data.toList = t.data.toList := by
  apply strip_id
  intro b c l e hb
  apply h
  refine ⟨by rw [Lib.size_eq, e]; simp, ?_⟩
  rw [e, hb]; rfl
def strOf : Value → ByteArray | .string s => s | _ => ByteArray.empty
set_option maxRecDepth 100000 in
set_option maxHeartbeats 1000000 in
theorem strip_r (s : ByteArray) (w : World) (hs : s.size ≤ 1000) : Calls Tryd.prog 33 #[.string s] w fun e w' => e = .returned (.string (mkS (stripL s.data.toList))) ∧ w = w' := by
  go_enter Tryd.func33, Tryd.ntmps33
  go_wp2
  go_loop [0] (fun v => ∃ t : ByteArray, v = .string t ∧ t.size ≤ 1000 ∧ stripL t.data.toList = stripL s.data.toList) (fun v => (strOf v).size)
  case atStart => exact ⟨s, rfl, hs, rfl⟩
  case round =>
    obtain ⟨t, rfl, ht, hrel⟩ := hrel
    have HR := Lib.hid hrel
    clear hrel
    by_cases h1 : 1 < t.size
    · have h1' : (1 : Int) < (t.size : Int) := by omega
      have h0t : 0 < t.size := by omega
      have hq := byte_eq t 0 h0t 48 48 rfl
      by_cases hb : t.data.toList.getD 0 0 = 48
      · rw [hb] at hq
        simp only [decide_true] at hq
        have HS := Lib.hid (strip_step t h1 hb)
        clear hb
        go_wp2
        go_round
        case rel => exact ⟨_, rfl, by rw [HS.out.2]; omega, by rw [HS.out.1, HR.out]⟩
        case measure => simp [strOf]; omega
      · rw [decide_eq_false hb] at hq
        have HS := Lib.hid (strip_end t (fun h => hb h.2))
        clear hb
        go_wp2
        go_ret
        exact ⟨ret_str (mkS_of (by rw [← HR.out, HS.out])), rfl⟩
    · have h1' : ¬ (1 : Int) < (t.size : Int) := by omega
      have HS := Lib.hid (strip_end t (fun h => h1 h.1))
      go_wp2
      go_ret
      exact ⟨ret_str (mkS_of (by rw [← HR.out, HS.out])), rfl⟩

set_option maxRecDepth 100000 in
set_option maxHeartbeats 1000000 in
theorem above_r (a b : ByteArray) (w : World) (ha : a.size ≤ 1000) (hb : b.size ≤ 1000) : Calls Tryd.prog 31 #[.string a, .string b] w fun e w' => e = .returned (.bool (aboveB a.data.toList b.data.toList)) ∧ w = w' := by
  have HA := Lib.hid (fun W => strip_r a W ha)
  have HB := Lib.hid (fun W => strip_r b W hb)
  have HV : Hid (aboveB a.data.toList b.data.toList = if (mkS (stripL a.data.toList)).size = (mkS (stripL b.data.toList)).size then !(Op.bytesLess (mkS (stripL a.data.toList)).toList (mkS (stripL b.data.toList)).toList || (mkS (stripL a.data.toList)).toList == (mkS (stripL b.data.toList)).toList) else decide ((mkS (stripL b.data.toList)).size < (mkS (stripL a.data.toList)).size)) := by
    show aboveB a.data.toList b.data.toList = _
    rw [size_mkS, size_mkS, toL, toL]; rfl
  have hxa : (mkS (stripL a.data.toList)).size ≤ 1000 := by rw [size_mkS]; have := (strip_len a.data.toList).1; rw [← Lib.size_eq] at this; omega
  have hxb : (mkS (stripL b.data.toList)).size ≤ 1000 := by rw [size_mkS]; have := (strip_len b.data.toList).1; rw [← Lib.size_eq] at this; omega
  revert HA HB HV hxa hxb
  generalize aboveB a.data.toList b.data.toList = r
  generalize mkS (stripL a.data.toList) = x
  generalize mkS (stripL b.data.toList) = y
  intro HA HB HV hxa hxb
  by_cases he : x.size = y.size
  · have e1 : ((x.size : Int) != (y.size : Int)) = false := by simp [he]
    have e2 : (x.size != y.size) = false := by simp [he]
    rw [if_pos he] at HV
    clear he
    go_enter Tryd.func31, Tryd.ntmps31
    go_wp2_with fail
    refine (HA.out _).mono ?_
    rintro e w' ⟨rfl, rfl⟩
    go_wp2_with fail
    refine (HB.out _).mono ?_
    rintro e w' ⟨rfl, rfl⟩
    go_wp2
    go_ret
    exact ⟨ret_bool (by rw [HV.out, Bool.not_or]), rfl⟩
  · have e1 : ((x.size : Int) != (y.size : Int)) = true := by simp; omega
    have e2 : (x.size != y.size) = true := by simp [he]
    rw [if_neg he] at HV
    clear he
    go_enter Tryd.func31, Tryd.ntmps31
    go_wp2_with fail
    refine (HA.out _).mono ?_
    rintro e w' ⟨rfl, rfl⟩
    go_wp2_with fail
    refine (HB.out _).mono ?_
    rintro e w' ⟨rfl, rfl⟩
    go_wp2
    go_ret
    exact ⟨ret_bool (by rw [HV.out]), rfl⟩
end Go.Proofs.YtbafjilhopgjmaaDoor.Nu
