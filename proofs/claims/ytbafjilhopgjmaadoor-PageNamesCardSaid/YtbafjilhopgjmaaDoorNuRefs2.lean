/- Contracts of the document's own Parse where the text is none: for every text of at most a thousand bytes. -/
import Derived.Test.YtbafjilhopgjmaaDoorNuRefs
namespace Go.Proofs.YtbafjilhopgjmaaDoor.Nu
open Go.RowKit
set_option linter.unusedSimpArgs false
set_option linter.unusedVariables false

theorem kNeg_all : allB [57, 50, 50, 51, 51, 55, 50, 48, 51, 54, 56, 53, 52, 55, 55, 53, 56, 48, 56] = true := by decide +kernel
theorem kNeg_val : val 10 [57, 50, 50, 51, 51, 55, 50, 48, 51, 54, 56, 53, 52, 55, 55, 53, 56, 48, 56] = 9223372036854775808 := by decide +kernel
theorem aboveNeg (t : ByteArray) (w : World) (ht : t.size ≤ 1000) (ha : allB t.data.toList = true) : Calls Tryd.prog 31 #[.string t, .string ⟨#[57, 50, 50, 51, 51, 55, 50, 48, 51, 54, 56, 53, 52, 55, 55, 53, 56, 48, 56]⟩] w fun e w' => e = .returned (.bool (decide (9223372036854775808 < val 10 t.data.toList))) ∧ w = w' := by
  have h := above_r t ⟨#[57, 50, 50, 51, 51, 55, 50, 48, 51, 54, 56, 53, 52, 55, 55, 53, 56, 48, 56]⟩ w ht (by decide)
  have e : (ByteArray.mk #[57, 50, 50, 51, 51, 55, 50, 48, 51, 54, 56, 53, 52, 55, 55, 53, 56, 48, 56]).data.toList = [57, 50, 50, 51, 51, 55, 50, 48, 51, 54, 56, 53, 52, 55, 55, 53, 56, 48, 56] := rfl
  obtain ⟨a1, a2⟩ := (all_iff _).1 ha
  obtain ⟨b1, b2⟩ := (all_iff _).1 kNeg_all
  rw [e, above_eq _ _ a2 b2 a1 b1, kNeg_val] at h
  exact h

set_option maxRecDepth 100000 in
set_option maxHeartbeats 1000000 in
theorem parseRNeg_form (s : ByteArray) (w : World) (hs : s.size ≤ 1000) (h0 : 0 < s.size) (hq : ((s[0].toNat : Int) == 45) = true) (hn : allB (s.extract 1 s.size).data.toList = false) :
    Calls Tryd.prog 32 #[.string s] w fun e w' => e = .returned (.tuple #[.int .i64 0, .int .i64 3]) ∧ w = w' := by
  have hem := empty_no (s := s) (by omega)
  have hs1 : 1 ≤ s.size := h0
  have hs1' : (1 : Int) ≤ (s.size : Int) := by omega
  have ht : (s.extract 1 s.size).size ≤ 1000 := by rw [ByteArray.size_extract]; omega
  have HA := Lib.hid (fun W => all_r (s.extract 1 s.size) W ht)
  rw [hn] at HA
  clear hn
  go_enter Tryd.func32, Tryd.ntmps32
  go_wp2_with fail
  refine (HA.out _).mono ?_
  rintro e w' ⟨rfl, rfl⟩
  go_wp2
  go_ret2
  exact ⟨rfl, rfl⟩
set_option maxRecDepth 100000 in
set_option maxHeartbeats 1000000 in
theorem parseRNeg_bad (s : ByteArray) (w : World) (hs : s.size ≤ 1000) (h0 : 0 < s.size) (hq : ((s[0].toNat : Int) == 45) = true) (hn : allB (s.extract 1 s.size).data.toList = true) (hb : badB (s.extract 1 s.size).data.toList = true) :
    Calls Tryd.prog 32 #[.string s] w fun e w' => e = .returned (.tuple #[.int .i64 0, .int .i64 3]) ∧ w = w' := by
  have hem := empty_no (s := s) (by omega)
  have hs1 : 1 ≤ s.size := h0
  have hs1' : (1 : Int) ≤ (s.size : Int) := by omega
  have ht : (s.extract 1 s.size).size ≤ 1000 := by rw [ByteArray.size_extract]; omega
  have HA := Lib.hid (fun W => all_r (s.extract 1 s.size) W ht)
  rw [hn] at HA
  obtain ⟨b1, b2⟩ := of_decide_eq_true hb
  rw [← Lib.size_eq] at b1
  have hq1 := fun h => byte_eq (s.extract 1 s.size) 0 h 48 48 rfl
  rw [b2] at hq1
  simp only [decide_true] at hq1
  clear hn hb b2
  have h0t : 0 < (s.extract 1 s.size).size := by omega
  have hq2 := hq1 h0t
  have b1' : (1 : Int) < ((s.extract 1 s.size).size : Int) := by omega
  clear hq1 b1
  go_enter Tryd.func32, Tryd.ntmps32
  go_wp2_with fail
  refine (HA.out _).mono ?_
  rintro e w' ⟨rfl, rfl⟩
  clear HA
  revert ht h0t hq2 b1'
  generalize s.extract 1 s.size = t
  intro ht h0t hq2 b1'
  go_wp2
  go_ret2
  exact ⟨rfl, rfl⟩

theorem kPos_all : allB [57, 50, 50, 51, 51, 55, 50, 48, 51, 54, 56, 53, 52, 55, 55, 53, 56, 48, 55] = true := by decide +kernel
theorem kPos_val : val 10 [57, 50, 50, 51, 51, 55, 50, 48, 51, 54, 56, 53, 52, 55, 55, 53, 56, 48, 55] = 9223372036854775807 := by decide +kernel
theorem abovePos (t : ByteArray) (w : World) (ht : t.size ≤ 1000) (ha : allB t.data.toList = true) : Calls Tryd.prog 31 #[.string t, .string ⟨#[57, 50, 50, 51, 51, 55, 50, 48, 51, 54, 56, 53, 52, 55, 55, 53, 56, 48, 55]⟩] w fun e w' => e = .returned (.bool (decide (9223372036854775807 < val 10 t.data.toList))) ∧ w = w' := by
  have h := above_r t ⟨#[57, 50, 50, 51, 51, 55, 50, 48, 51, 54, 56, 53, 52, 55, 55, 53, 56, 48, 55]⟩ w ht (by decide)
  have e : (ByteArray.mk #[57, 50, 50, 51, 51, 55, 50, 48, 51, 54, 56, 53, 52, 55, 55, 53, 56, 48, 55]).data.toList = [57, 50, 50, 51, 51, 55, 50, 48, 51, 54, 56, 53, 52, 55, 55, 53, 56, 48, 55] := rfl
  obtain ⟨a1, a2⟩ := (all_iff _).1 ha
  obtain ⟨b1, b2⟩ := (all_iff _).1 kPos_all
  rw [e, above_eq _ _ a2 b2 a1 b1, kPos_val] at h
  exact h

set_option maxRecDepth 100000 in
set_option maxHeartbeats 1000000 in
theorem parseRPos_form (s : ByteArray) (w : World) (hs : s.size ≤ 1000) (h0 : 0 < s.size) (hq : ((s[0].toNat : Int) == 45) = false) (hn : allB (s).data.toList = false) :
    Calls Tryd.prog 32 #[.string s] w fun e w' => e = .returned (.tuple #[.int .i64 0, .int .i64 3]) ∧ w = w' := by
  have hem := empty_no (s := s) (by omega)
  have hs1 : 1 ≤ s.size := h0
  have ht : s.size ≤ 1000 := hs
  have HA := Lib.hid (fun W => all_r (s) W ht)
  rw [hn] at HA
  clear hn
  go_enter Tryd.func32, Tryd.ntmps32
  go_wp2_with fail
  refine (HA.out _).mono ?_
  rintro e w' ⟨rfl, rfl⟩
  go_wp2
  go_ret2
  exact ⟨rfl, rfl⟩
set_option maxRecDepth 100000 in
set_option maxHeartbeats 1000000 in
theorem parseRPos_bad (s : ByteArray) (w : World) (hs : s.size ≤ 1000) (h0 : 0 < s.size) (hq : ((s[0].toNat : Int) == 45) = false) (hn : allB (s).data.toList = true) (hb : badB (s).data.toList = true) :
    Calls Tryd.prog 32 #[.string s] w fun e w' => e = .returned (.tuple #[.int .i64 0, .int .i64 3]) ∧ w = w' := by
  have hem := empty_no (s := s) (by omega)
  have hs1 : 1 ≤ s.size := h0
  have ht : s.size ≤ 1000 := hs
  have HA := Lib.hid (fun W => all_r (s) W ht)
  rw [hn] at HA
  obtain ⟨b1, b2⟩ := of_decide_eq_true hb
  rw [← Lib.size_eq] at b1
  have hq1 := fun h => byte_eq (s) 0 h 48 48 rfl
  rw [b2] at hq1
  simp only [decide_true] at hq1
  clear hn hb b2
  have h0t : 0 < s.size := by omega
  have hq2 := hq1 h0t
  have b1' : (1 : Int) < (s.size : Int) := by omega
  clear hq1
  go_enter Tryd.func32, Tryd.ntmps32
  go_wp2_with fail
  refine (HA.out _).mono ?_
  rintro e w' ⟨rfl, rfl⟩
  go_wp2
  go_ret2
  exact ⟨rfl, rfl⟩
end Go.Proofs.YtbafjilhopgjmaaDoor.Nu
