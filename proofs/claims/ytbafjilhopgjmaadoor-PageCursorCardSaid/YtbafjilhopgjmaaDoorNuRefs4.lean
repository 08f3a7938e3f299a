/- Contracts of the document's own Parse and Size: for every text of at most a thousand bytes. -/
import Derived.Test.YtbafjilhopgjmaaDoorNuRefs3
namespace Go.Proofs.YtbafjilhopgjmaaDoor.Nu
open Go.RowKit
set_option linter.unusedSimpArgs false
set_option linter.unusedVariables false

theorem neg_cons (b : UInt8) (l : List UInt8) : negB (b :: l) = decide (b = 45) := by
  have h : negB (b :: l) = ((45 : UInt8) == b && true) := by unfold negB Lib.hasPrefix; cases l <;> rfl
  rw [h, Bool.and_true]
  by_cases e : b = 45
  · subst e; rfl
  · rw [decide_eq_false e]
    exact beq_eq_false_iff_ne.2 (fun h => e h.symm)
theorem body_cons (b : UInt8) (l : List UInt8) : bodyL (b :: l) = if b = 45 then l else b :: l := by
  unfold bodyL Lib.trimPrefix
  have h := neg_cons b l
  unfold negB at h
  rw [h]
  by_cases e : b = 45 <;> simp [e]
theorem parts_neg (s : ByteArray) (h0 : 0 < s.size) (hq : ((s[0].toNat : Int) == 45) = true) : negB s.data.toList = true ∧ bodyL s.data.toList = (s.extract 1 s.size).data.toList := by
  rw [byte_eq s 0 h0 45 45 rfl] at hq
  have h := of_decide_eq_true hq
  rw [Lib.extract_to_end]
  cases e : s.data.toList with
  | nil => rw [Lib.size_eq, e] at h0; simp at h0
  | cons b l =>
    rw [e] at h
    have hb : b = 45 := by simpa [List.getD] using h
    subst hb
    exact ⟨by rw [neg_cons]; rfl, by rw [body_cons]; rfl⟩
theorem parts_pos (s : ByteArray) (h0 : 0 < s.size) (hq : ((s[0].toNat : Int) == 45) = false) : negB s.data.toList = false ∧ bodyL s.data.toList = s.data.toList := by
  rw [byte_eq s 0 h0 45 45 rfl] at hq
  have h := of_decide_eq_false hq
  cases e : s.data.toList with
  | nil => rw [Lib.size_eq, e] at h0; simp at h0
  | cons b l =>
    rw [e] at h
    have hb : ¬ b = 45 := by simpa [List.getD] using h
    exact ⟨by rw [neg_cons]; exact decide_eq_false hb, by rw [body_cons, if_neg hb]⟩
theorem parseR_nil (s : ByteArray) (w : World) (h : s.size = 0) : Calls Tryd.prog 32 #[.string s] w fun e w' => e = .returned (.tuple #[.int .i64 0, .int .i64 3]) ∧ w = w' := by
  have hem := empty_of h
  have HA := Lib.hid (fun W => all_r s W (by omega))
  have e : allB s.data.toList = false := by unfold allB; rw [← Lib.toList_data, hem]; rfl
  rw [e] at HA
  clear e h
  go_enter Tryd.func32, Tryd.ntmps32
  go_wp2_with fail
  refine (HA.out _).mono ?_
  rintro e w' ⟨rfl, rfl⟩
  go_wp2
  go_ret2
  exact ⟨rfl, rfl⟩
theorem p_bad {l : List UInt8} (h : badB (bodyL l) = true) : pN l = 0 ∧ pE l = 3 := ⟨by unfold pN; rw [h]; rfl, by unfold pE; rw [h]; rfl⟩
theorem p_form {l : List UInt8} (h : ¬ (bodyL l ≠ [] ∧ (bodyL l).all (okD 10) = true)) : pN l = 0 ∧ pE l = 3 := by
  unfold pN pE
  rw [(rd_no h).1, (rd_no h).1, (rd_no h).2, (rd_no h).2]
  constructor
  · split
    · rfl
    · split <;> rfl
  · split
    · rfl
    · split <;> rfl
theorem allB_no {l : List UInt8} (h : allB l = false) : ¬ (l ≠ [] ∧ l.all (okD 10) = true) := fun g => by rw [(all_iff l).2 g] at h; cases h

theorem parse_r (s : ByteArray) (w : World) (hs : s.size ≤ 1000) : Calls Tryd.prog 32 #[.string s] w fun e w' => e = .returned (.tuple #[.int .i64 (pN s.data.toList), .int .i64 (pE s.data.toList)]) ∧ w = w' := by
  by_cases hz : s.size = 0
  · have e : s.data.toList = [] := List.length_eq_zero_iff.1 (by rw [← Lib.size_eq]; exact hz)
    rw [e, show pN [] = 0 from by decide +kernel, show pE [] = 3 from by decide +kernel]
    exact parseR_nil s w hz
  have h0 : 0 < s.size := by omega
  cases hq : ((s[0].toNat : Int) == 45) with
  | true =>
    obtain ⟨hn, hb⟩ := parts_neg s h0 hq
    cases ha : allB (s.extract 1 s.size).data.toList with
    | false =>
      have hf := p_form (l := s.data.toList) (by rw [hb]; exact allB_no ha)
      rw [hf.1, hf.2]
      exact parseRNeg_form s w hs h0 hq ha
    | true =>
      obtain ⟨a1, a2⟩ := (all_iff _).1 ha
      cases hbd : badB (s.extract 1 s.size).data.toList with
      | true =>
        have hf := p_bad (l := s.data.toList) (by rw [hb]; exact hbd)
        rw [hf.1, hf.2]
        exact parseRNeg_bad s w hs h0 hq ha hbd
      | false =>
        by_cases hv : val 10 (s.extract 1 s.size).data.toList ≤ 9223372036854775808
        · have e1 : pN s.data.toList = -val 10 (s.extract 1 s.size).data.toList := by unfold pN; rw [hb, hbd, hn, (rd_yes ⟨a1, a2⟩ hv).1]; rfl
          have e2 : pE s.data.toList = 0 := by unfold pE; rw [hb, hbd, hn, (rd_yes ⟨a1, a2⟩ hv).2]; rfl
          rw [e2]
          exact parseRNeg_num _ s w hs h0 hq ha hbd hv e1
        · have e1 : pN s.data.toList = 0 := by unfold pN; rw [hb, hbd, hn, (rd_long ⟨a1, a2⟩ hv).1]; rfl
          have e2 : pE s.data.toList = 5 := by unfold pE; rw [hb, hbd, hn, (rd_long ⟨a1, a2⟩ hv).2]; rfl
          rw [e1, e2]
          exact parseRNeg_long s w hs h0 hq ha hbd (by omega)
  | false =>
    obtain ⟨hn, hb⟩ := parts_pos s h0 hq
    cases ha : allB s.data.toList with
    | false =>
      have hf := p_form (l := s.data.toList) (by rw [hb]; exact allB_no ha)
      rw [hf.1, hf.2]
      exact parseRPos_form s w hs h0 hq ha
    | true =>
      obtain ⟨a1, a2⟩ := (all_iff _).1 ha
      cases hbd : badB s.data.toList with
      | true =>
        have hf := p_bad (l := s.data.toList) (by rw [hb]; exact hbd)
        rw [hf.1, hf.2]
        exact parseRPos_bad s w hs h0 hq ha hbd
      | false =>
        by_cases hv : val 10 s.data.toList ≤ 9223372036854775807
        · have e1 : pN s.data.toList = val 10 s.data.toList := by unfold pN; rw [hb, hbd, hn, (rd_yes ⟨a1, a2⟩ hv).1]; rfl
          have e2 : pE s.data.toList = 0 := by unfold pE; rw [hb, hbd, hn, (rd_yes ⟨a1, a2⟩ hv).2]; rfl
          rw [e2]
          exact parseRPos_num _ s w hs h0 hq ha hbd hv e1
        · have e1 : pN s.data.toList = 0 := by unfold pN; rw [hb, hbd, hn, (rd_long ⟨a1, a2⟩ hv).1]; rfl
          have e2 : pE s.data.toList = 5 := by unfold pE; rw [hb, hbd, hn, (rd_long ⟨a1, a2⟩ hv).2]; rfl
          rw [e1, e2]
          exact parseRPos_long s w hs h0 hq ha hbd (by omega)

/-- what is read of digits without noughts ahead -/
theorem p_digits {l : List UInt8} (h : l ≠ []) (ha : l.all (okD 10) = true) (hb : badB l = false) (hv : val 10 l ≤ 9223372036854775807) : pN l = val 10 l ∧ pE l = 0 := by
  cases l with
  | nil => exact absurd rfl h
  | cons b t =>
    have hd : okD 10 b = true := by rw [List.all_cons, Bool.and_eq_true] at ha; exact ha.1
    have hn : ¬ b = 45 := fun e => by subst e; rw [okD_ten] at hd; revert hd; decide
    have e1 : negB (b :: t) = false := by rw [neg_cons]; exact decide_eq_false hn
    have e2 : bodyL (b :: t) = b :: t := by rw [body_cons, if_neg hn]
    unfold pN pE
    rw [e1, e2, hb, (rd_yes ⟨h, ha⟩ hv).1, (rd_yes ⟨h, ha⟩ hv).2]
    exact ⟨rfl, rfl⟩
theorem strip_bad (l : List UInt8) : badB (stripL l) = false := by
  apply decide_eq_false
  intro h
  cases e : stripL l with
  | nil => rw [e] at h; simp at h
  | cons b t =>
    rw [e] at h
    have ht : t ≠ [] := fun e2 => by subst e2; simp at h
    exact strip_head l b t e ht (by simpa [List.getD] using h.2)
theorem kSize_all : allB [50, 49, 52, 55, 52, 56, 51, 54, 52, 55] = true := by decide +kernel
theorem kSize_val : val 10 [50, 49, 52, 55, 52, 56, 51, 54, 52, 55] = 2147483647 := by decide +kernel
theorem aboveSize (t : ByteArray) (w : World) (ht : t.size ≤ 1000) (ha : allB t.data.toList = true) : Calls Tryd.prog 31 #[.string t, .string ⟨#[50, 49, 52, 55, 52, 56, 51, 54, 52, 55]⟩] w fun e w' => e = .returned (.bool (decide (2147483647 < val 10 t.data.toList))) ∧ w = w' := by
  have h := above_r t ⟨#[50, 49, 52, 55, 52, 56, 51, 54, 52, 55]⟩ w ht (by decide)
  have e : (ByteArray.mk #[50, 49, 52, 55, 52, 56, 51, 54, 52, 55]).data.toList = [50, 49, 52, 55, 52, 56, 51, 54, 52, 55] := rfl
  obtain ⟨a1, a2⟩ := (all_iff _).1 ha
  obtain ⟨b1, b2⟩ := (all_iff _).1 kSize_all
  rw [e, above_eq _ _ a2 b2 a1 b1, kSize_val] at h
  exact h
set_option maxRecDepth 100000 in
set_option maxHeartbeats 1000000 in
theorem size_r (s : ByteArray) (w : World) (hs : s.size ≤ 1000) : Calls Tryd.prog 20 #[.string s] w fun e w' => e = .returned (.tuple #[.int .i64 (rdN 10 2147483647 s.data.toList), .int .i64 (rdE 10 2147483647 s.data.toList)]) ∧ w = w' := by
  have HA := Lib.hid (fun W => all_r s W hs)
  cases ha : allB s.data.toList with
  | false =>
    rw [ha] at HA
    rw [(rd_no (allB_no ha)).1, (rd_no (allB_no ha)).2]
    clear ha
    go_enter Tryd.func20, Tryd.ntmps20
    go_wp2_with fail
    refine (HA.out _).mono ?_
    rintro e w' ⟨rfl, rfl⟩
    go_wp2
    go_ret2
    exact ⟨rfl, rfl⟩
  | true =>
    obtain ⟨a1, a2⟩ := (all_iff _).1 ha
    rw [ha] at HA
    have HAB := Lib.hid (fun W => aboveSize s W hs ha)
    by_cases hv : val 10 s.data.toList ≤ 2147483647
    · rw [decide_eq_false (by omega)] at HAB
      rw [(rd_yes ⟨a1, a2⟩ hv).1, (rd_yes ⟨a1, a2⟩ hv).2]
      have HS := Lib.hid (fun W => strip_r s W hs)
      have hsz : (mkS (stripL s.data.toList)).size ≤ 1000 := by rw [size_mkS]; have := (strip_len s.data.toList).1; rw [← Lib.size_eq] at this; omega
      have HP := Lib.hid (fun W => parse_r (mkS (stripL s.data.toList)) W hsz)
      have hd := p_digits (l := stripL s.data.toList) (fun e => by have := (strip_len s.data.toList).2 a1; rw [e] at this; simp at this) (strip_all _ _ a2) (strip_bad _) (by rw [strip_val]; omega)
      rw [data_mkS, hd.1, hd.2, strip_val] at HP
      clear hv ha hsz hd a1 a2
      revert HS HP
      generalize mkS (stripL s.data.toList) = t
      generalize val 10 s.data.toList = v
      intro HS HP
      go_enter Tryd.func20, Tryd.ntmps20
      go_wp2_with fail
      refine (HA.out _).mono ?_
      rintro e w' ⟨rfl, rfl⟩
      go_wp2_with fail
      refine (HAB.out _).mono ?_
      rintro e w' ⟨rfl, rfl⟩
      go_wp2_with fail
      refine (HS.out _).mono ?_
      rintro e w' ⟨rfl, rfl⟩
      go_wp2_with fail
      refine (HP.out _).mono ?_
      rintro e w' ⟨rfl, rfl⟩
      go_wp2
      go_ret2
      exact ⟨rfl, rfl⟩
    · rw [decide_eq_true (by omega)] at HAB
      rw [(rd_long ⟨a1, a2⟩ hv).1, (rd_long ⟨a1, a2⟩ hv).2]
      clear hv ha a1 a2
      go_enter Tryd.func20, Tryd.ntmps20
      go_wp2_with fail
      refine (HA.out _).mono ?_
      rintro e w' ⟨rfl, rfl⟩
      go_wp2_with fail
      refine (HAB.out _).mono ?_
      rintro e w' ⟨rfl, rfl⟩
      go_wp2
      go_ret2
      exact ⟨rfl, rfl⟩
end Go.Proofs.YtbafjilhopgjmaaDoor.Nu
