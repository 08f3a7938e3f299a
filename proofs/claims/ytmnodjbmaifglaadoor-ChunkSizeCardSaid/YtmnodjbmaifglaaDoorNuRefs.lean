/- Contracts of the document's own all, strip, above and Parse: for every text of at most a thousand bytes. -/
import Derived.Test.YtmnodjbmaifglaaDoorNuParses
import Derived.Laws.Cover1
namespace Go.Proofs.YtmnodjbmaifglaaDoor.Nu
open Go.RowKit
set_option linter.unusedSimpArgs false
set_option linter.unusedVariables false

def allB (l : List UInt8) : Bool := !l.isEmpty && l.all (okD 10)
theorem all_iff (l : List UInt8) : allB l = true ↔ (l ≠ [] ∧ l.all (okD 10) = true) := by
  unfold allB
  rw [Bool.and_eq_true]
  cases l <;> simp
theorem ok_dig (b : UInt8) : okD 10 b = digB (b.toNat : Int) := okD_ten b
theorem strip_step (t : ByteArray) (h1 : 1 < t.size) (hb : t.data.toList.getD 0 0 = 48) : stripL (t.extract 1 t.size).data.toList = stripL t.data.toList ∧ (t.extract 1 t.size).size = t.size - 1 := by
  refine ⟨?_, by rw [ByteArray.size_extract]; omega⟩
  rw [Lib.extract_to_end]
  have hl : 1 < t.data.toList.length := by rw [← Lib.size_eq]; exact h1
  cases e : t.data.toList with
  | nil => rw [e] at hl; simp at hl
  | cons b l =>
    rw [e] at hl hb
    cases l with
    | nil => simp at hl
    | cons c l =>
      have hb : b = 48 := by simpa [List.getD] using hb
      subst hb
      rfl
theorem strip_end (t : ByteArray) (h : ¬ (1 < t.size ∧ t.data.toList.getD 0 0 = 48)) : stripL t.data.toList = t.data.toList := by
  apply strip_id
  intro b c l e hb
  apply h
  refine ⟨by rw [Lib.size_eq, e]; simp, ?_⟩
  rw [e, hb]; rfl
def strOf : Value → ByteArray | .string s => s | _ => ByteArray.empty
set_option maxRecDepth 100000 in
set_option maxHeartbeats 1000000 in
theorem strip_r (s : ByteArray) (w : World) (hs : s.size ≤ 1000) : Calls Tryd.prog 41 #[.string s] w fun e w' => e = .returned (.string (mkS (stripL s.data.toList))) ∧ w = w' := by
  go_enter Tryd.func41, Tryd.ntmps41
  go_wp2
  go_loop [0] (fun v => ∃ t : ByteArray, v = .string t ∧ t.size ≤ 1000 ∧ stripL t.data.toList = stripL s.data.toList) (fun v => (strOf v).size)
  case atStart => exact ⟨s, rfl, hs, rfl⟩
  case round =>
    obtain ⟨t, rfl, ht, hrel⟩ := hrel
    have HR := Lib.hid hrel
    clear hrel
    by_cases h1 : 1 < t.size
    · have h1' : (1 : Int) < (t.size : Int) := by omega
      have h0t : 0 < t.size := by omega
      have hq := byte_eq t 0 h0t 48 48 rfl
      by_cases hb : t.data.toList.getD 0 0 = 48
      · rw [hb] at hq
        simp only [decide_true] at hq
        have HS := Lib.hid (strip_step t h1 hb)
        clear hb
        go_wp2
        go_round
        case rel => exact ⟨_, rfl, by rw [HS.out.2]; omega, by rw [HS.out.1, HR.out]⟩
        case measure => simp [strOf]; omega
      · rw [decide_eq_false hb] at hq
        have HS := Lib.hid (strip_end t (fun h => hb h.2))
        clear hb
        go_wp2
        go_ret
        exact ⟨ret_str (mkS_of (by rw [← HR.out, HS.out])), rfl⟩
    · have h1' : ¬ (1 : Int) < (t.size : Int) := by omega
      have HS := Lib.hid (strip_end t (fun h => h1 h.1))
      go_wp2
      go_ret
      exact ⟨ret_str (mkS_of (by rw [← HR.out, HS.out])), rfl⟩

end Go.Proofs.YtmnodjbmaifglaaDoor.Nu
