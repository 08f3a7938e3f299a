/- Contracts of the document's own Parse and Size: for every text of at most a thousand bytes. -/
import Derived.Test.YteegbcjpganobaaDoorNuRefs3
namespace Go.Proofs.YteegbcjpganobaaDoor.Nu
open Go.RowKit
set_option linter.unusedSimpArgs false
set_option linter.unusedVariables false

theorem neg_cons (b : UInt8) (l : List UInt8) : negB (b :: l) = decide (b = 45) := by
  have h : negB (b :: l) = ((45 : UInt8) == b && true) := by unfold negB Lib.hasPrefix; cases l <;> rfl
  rw [h, Bool.and_true]
  by_cases e : b = 45
  · subst e; rfl
  · rw [decide_eq_false e]
    exact beq_eq_false_iff_ne.2 (fun h => e h.symm)
theorem body_cons (b : UInt8) (l : List UInt8) : bodyL (b :: l) = if b = 45 then l else b :: l := by
  unfold bodyL Lib.trimPrefix
  have h := neg_cons b l
  unfold negB at h
  rw [h]
  by_cases e : b = 45 <;> simp [e]
theorem parts_neg (s : ByteArray) (h0 : 0 < s.size) (hq : ((s[0].toNat : Int) == 45) = true) : negB s.data.toList = true ∧ bodyL s.data.toList = (s.extract 1 s.size).data.toList := by
  rw [byte_eq s 0 h0 45 45 rfl] at hq
  have h := of_decide_eq_true hq
  rw [Lib.extract_to_end]
  cases e : s.data.toList with
  | nil => rw [Lib.size_eq, e] at h0; simp at h0
  | cons b l =>
    rw [e] at h
    have hb : b = 45 := by simpa [List.getD] using h
    subst hb
    exact ⟨by rw [neg_cons]; rfl, by rw [body_cons]; rfl⟩
theorem parts_pos (s : ByteArray) (h0 : 0 < s.size) (hq : ((s[0].toNat : Int) == 45) = false) : negB s.data.toList = false ∧ bodyL s.data.toList = s.data.toList := by
  rw [byte_eq s 0 h0 45 45 rfl] at hq
  have h := of_decide_eq_false hq
  cases e : s.data.toList with
  | nil => rw [Lib.size_eq, e] at h0; simp at h0
  | cons b l =>
    rw [e] at h
    have hb : ¬ b = 45 := by simpa [List.getD] using h
    exact ⟨by rw [neg_cons]; exact decide_eq_false hb, by rw [body_cons, if_neg hb]⟩
theorem p_bad {l : List UInt8} (h : badB (bodyL l) = true) : pN l = 0 ∧ pE l = 3 := ⟨by unfold pN; rw [h]; rfl, by unfold pE; rw [h]; rfl⟩
theorem p_form {l : List UInt8} (h : ¬ (bodyL l ≠ [] ∧ (bodyL l).all (okD 10) = true)) : pN l = 0 ∧ pE l = 3 := by
  unfold pN pE
  rw [(rd_no h).1, (rd_no h).1, (rd_no h).2, (rd_no h).2]
  constructor
  · split
    · rfl
    · split <;> rfl
  · split
    · rfl
    · split <;> rfl
theorem allB_no {l : List UInt8} (h : allB l = false) : ¬ (l ≠ [] ∧ l.all (okD 10) = true) := fun g => by rw [(all_iff l).2 g] at h; cases h

/-- what is read of digits without noughts ahead -/
theorem p_digits {l : List UInt8} (h : l ≠ []) (ha : l.all (okD 10) = true) (hb : badB l = false) (hv : val 10 l ≤ 9223372036854775807) : pN l = val 10 l ∧ pE l = 0 := by
  cases l with
  | nil => exact absurd rfl h
  | cons b t =>
    have hd : okD 10 b = true := by rw [List.all_cons, Bool.and_eq_true] at ha; exact ha.1
    have hn : ¬ b = 45 := fun e => by subst e; rw [okD_ten] at hd; revert hd; decide
    have e1 : negB (b :: t) = false := by rw [neg_cons]; exact decide_eq_false hn
    have e2 : bodyL (b :: t) = b :: t := by rw [body_cons, if_neg hn]
    unfold pN pE
    rw [e1, e2, hb, (rd_yes ⟨h, ha⟩ hv).1, (rd_yes ⟨h, ha⟩ hv).2]
    exact ⟨rfl, rfl⟩
theorem strip_bad (l : List UInt8) : badB (stripL l) = false := by
  apply decide_eq_false
  intro h
  cases e : stripL l with
  | nil => rw [e] at h; simp at h
  | cons b t =>
    rw [e] at h
    have ht : t ≠ [] := fun e2 => by subst e2; simp at h
    exact strip_head l b t e ht (by simpa [List.getD] using h.2)
theorem kSize_all : allB [50, 49, 52, 55, 52, 56, 51, 54, 52, 55] = true := by decide +kernel
theorem kSize_val : val 10 [50, 49, 52, 55, 52, 56, 51, 54, 52, 55] = 2147483647 := by decide +kernel
end Go.Proofs.YteegbcjpganobaaDoor.Nu
