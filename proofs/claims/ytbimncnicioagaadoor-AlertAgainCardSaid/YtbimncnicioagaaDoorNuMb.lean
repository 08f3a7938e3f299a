/- Contracts and plain mathematics of some packages' functions, laid together; conditions as each one says. -/
import Derived.Test.YtbimncnicioagaaDoorNuMa
import Derived.Laws.Cover1
import Derived.Lib.SlBytesConst
import Derived.Laws.IdiomStrings
namespace Go.Proofs.YtbimncnicioagaaDoor.Nu
open Go.RowKit
set_option linter.unusedSimpArgs false
set_option linter.unusedVariables false

def allB (l : List UInt8) : Bool := !l.isEmpty && l.all (okD 10)
theorem all_iff (l : List UInt8) : allB l = true ↔ (l ≠ [] ∧ l.all (okD 10) = true) := by
  unfold allB
  rw [Bool.and_eq_true]
  cases l <;> simp
theorem ok_dig (b : UInt8) : okD 10 b = digB (b.toNat : Int) := okD_ten b
theorem strip_step (t : ByteArray) (h1 : 1 < t.size) (hb : t.data.toList.getD 0 0 = 48) : stripL (t.extract 1 t.size).data.toList = stripL t.data.toList ∧ (t.extract 1 t.size).size = t.size - 1 := by
  refine ⟨?_, by rw [ByteArray.size_extract]; omega⟩
  rw [Lib.extract_to_end]
  have hl : 1 < t.data.toList.length := by rw [← Lib.size_eq]; exact h1
  cases e : t.data.toList with
  | nil => rw [e] at hl; simp at hl
  | cons b l =>
    rw [e] at hl hb
    cases l with
    | nil => simp at hl
    | cons c l =>
      have hb : b = 48 := by simpa [List.getD] using hb
      subst hb
      rfl
theorem strip_end (t : ByteArray) (h : ¬ (1 < t.size ∧ t.data.toList.getD 0 0 = 48)) : stripL t.data.toList = t.data.toList := by
  apply strip_id
  intro b c l e hb
  apply h
  refine ⟨by rw [Lib.size_eq, e]; simp, ?_⟩
  rw [e, hb]; rfl
def strOf : Value → ByteArray | .string s => s | _ => ByteArray.empty
end Go.Proofs.YtbimncnicioagaaDoor.Nu
namespace Go.Proofs.YtbimncnicioagaaDoor.Nu
open Go.RowKit
set_option linter.unusedSimpArgs false
set_option linter.unusedVariables false

theorem kNeg_all : allB [57, 50, 50, 51, 51, 55, 50, 48, 51, 54, 56, 53, 52, 55, 55, 53, 56, 48, 56] = true := by decide +kernel
theorem kNeg_val : val 10 [57, 50, 50, 51, 51, 55, 50, 48, 51, 54, 56, 53, 52, 55, 55, 53, 56, 48, 56] = 9223372036854775808 := by decide +kernel
theorem kPos_all : allB [57, 50, 50, 51, 51, 55, 50, 48, 51, 54, 56, 53, 52, 55, 55, 53, 56, 48, 55] = true := by decide +kernel
theorem kPos_val : val 10 [57, 50, 50, 51, 51, 55, 50, 48, 51, 54, 56, 53, 52, 55, 55, 53, 56, 48, 55] = 9223372036854775807 := by decide +kernel
end Go.Proofs.YtbimncnicioagaaDoor.Nu
namespace Go.Proofs.YtbimncnicioagaaDoor.Nu
open Go.RowKit
set_option linter.unusedSimpArgs false
set_option linter.unusedVariables false

end Go.Proofs.YtbimncnicioagaaDoor.Nu
namespace Go.Proofs.YtbimncnicioagaaDoor.Nu
open Go.RowKit
set_option linter.unusedSimpArgs false
set_option linter.unusedVariables false

theorem neg_cons (b : UInt8) (l : List UInt8) : negB (b :: l) = decide (b = 45) := by
  have h : negB (b :: l) = ((45 : UInt8) == b && true) := by unfold negB Lib.hasPrefix; cases l <;> rfl
  rw [h, Bool.and_true]
  by_cases e : b = 45
  · subst e; rfl
  · rw [decide_eq_false e]
    exact beq_eq_false_iff_ne.2 (fun h => e h.symm)
theorem body_cons (b : UInt8) (l : List UInt8) : bodyL (b :: l) = if b = 45 then l else b :: l := by
  unfold bodyL Lib.trimPrefix
  have h := neg_cons b l
  unfold negB at h
  rw [h]
  by_cases e : b = 45 <;> simp [e]
theorem parts_neg (s : ByteArray) (h0 : 0 < s.size) (hq : ((s[0].toNat : Int) == 45) = true) : negB s.data.toList = true ∧ bodyL s.data.toList = (s.extract 1 s.size).data.toList := by
  rw [byte_eq s 0 h0 45 45 rfl] at hq
  have h := of_decide_eq_true hq
  rw [Lib.extract_to_end]
  cases e : s.data.toList with
  | nil => rw [Lib.size_eq, e] at h0; simp at h0
  | cons b l =>
    rw [e] at h
    have hb : b = 45 := by simpa [List.getD] using h
    subst hb
    exact ⟨by rw [neg_cons]; rfl, by rw [body_cons]; rfl⟩
theorem parts_pos (s : ByteArray) (h0 : 0 < s.size) (hq : ((s[0].toNat : Int) == 45) = false) : negB s.data.toList = false ∧ bodyL s.data.toList = s.data.toList := by
  rw [byte_eq s 0 h0 45 45 rfl] at hq
  have h := of_decide_eq_false hq
  cases e : s.data.toList with
  | nil => rw [Lib.size_eq, e] at h0; simp at h0
  | cons b l =>
    rw [e] at h
    have hb : ¬ b = 45 := by simpa [List.getD] using h
    exact ⟨by rw [neg_cons]; exact decide_eq_false hb, by rw [body_cons, if_neg hb]⟩
theorem p_bad {l : List UInt8} (h : badB (bodyL l) = true) : pN l = 0 ∧ pE l = 3 := ⟨by unfold pN; rw [h]; rfl, by unfold pE; rw [h]; rfl⟩
theorem p_form {l : List UInt8} (h : ¬ (bodyL l ≠ [] ∧ (bodyL l).all (okD 10) = true)) : pN l = 0 ∧ pE l = 3 := by
  unfold pN pE
  rw [(rd_no h).1, (rd_no h).1, (rd_no h).2, (rd_no h).2]
  constructor
  · split
    · rfl
    · split <;> rfl
  · split
    · rfl
    · split <;> rfl
theorem allB_no {l : List UInt8} (h : allB l = false) : ¬ (l ≠ [] ∧ l.all (okD 10) = true) := fun g => by rw [(all_iff l).2 g] at h; cases h

/-- what is read of digits without noughts ahead -/
theorem p_digits {l : List UInt8} (h : l ≠ []) (ha : l.all (okD 10) = true) (hb : badB l = false) (hv : val 10 l ≤ 9223372036854775807) : pN l = val 10 l ∧ pE l = 0 := by
  cases l with
  | nil => exact absurd rfl h
  | cons b t =>
    have hd : okD 10 b = true := by rw [List.all_cons, Bool.and_eq_true] at ha; exact ha.1
    have hn : ¬ b = 45 := fun e => by subst e; rw [okD_ten] at hd; revert hd; decide
    have e1 : negB (b :: t) = false := by rw [neg_cons]; exact decide_eq_false hn
    have e2 : bodyL (b :: t) = b :: t := by rw [body_cons, if_neg hn]
    unfold pN pE
    rw [e1, e2, hb, (rd_yes ⟨h, ha⟩ hv).1, (rd_yes ⟨h, ha⟩ hv).2]
    exact ⟨rfl, rfl⟩
theorem strip_bad (l : List UInt8) : badB (stripL l) = false := by
  apply decide_eq_false
  intro h
  cases e : stripL l with
  | nil => rw [e] at h; simp at h
  | cons b t =>
    rw [e] at h
    have ht : t ≠ [] := fun e2 => by subst e2; simp at h
    exact strip_head l b t e ht (by simpa [List.getD] using h.2)
theorem kSize_all : allB [50, 49, 52, 55, 52, 56, 51, 54, 52, 55] = true := by decide +kernel
theorem kSize_val : val 10 [50, 49, 52, 55, 52, 56, 51, 54, 52, 55] = 2147483647 := by decide +kernel
end Go.Proofs.YtbimncnicioagaaDoor.Nu
namespace Go.Proofs.YtbimncnicioagaaDoor.Nu
open Go.RowKit
set_option linter.unusedSimpArgs false
set_option linter.unusedVariables false

def tabL : List Int := [48, 49, 50, 51, 52, 53, 54, 55, 56, 57, 97, 98, 99, 100, 101, 102, 65, 66, 67, 68, 69, 70]
def tabA : Array Value := #[.int .u8 48, .int .u8 49, .int .u8 50, .int .u8 51, .int .u8 52, .int .u8 53, .int .u8 54, .int .u8 55, .int .u8 56, .int .u8 57, .int .u8 97, .int .u8 98, .int .u8 99, .int .u8 100, .int .u8 101, .int .u8 102, .int .u8 65, .int .u8 66, .int .u8 67, .int .u8 68, .int .u8 69, .int .u8 70]
theorem tabA_eq : tabA = (tabL.map (fun z => Value.int .u8 z)).toArray := rfl
theorem tab_at (k : Nat) (hk : k < 22) : tabA[k]? = some (.int .u8 (tabL.getD k 0)) := by
  have h : k < tabL.length := hk
  rw [tabA_eq, List.getElem?_toArray, List.getElem?_map, List.getD, List.getElem?_eq_getElem h]; rfl
theorem tab_cell (w : World) (k : Nat) (hk : k < 22) : (w.alloc (.cells tabA 5 (22, 23))).cell? ⟨w.heap.size, k, none⟩ = some (.int .u8 (tabL.getD k 0)) := by
  rw [World.cell?_alloc_mark]; exact tab_at k hk
theorem tab_hv : ∀ k : Fin 22, hv (tabL.getD k.val 0) = if k.val < 16 then (k.val : Int) else (k.val : Int) - 6 := by decide +kernel
theorem tab_no : ∀ n : Fin 256, (List.range 22).all (fun j => decide (tabL.getD j 0 ≠ (n.val : Int))) = true → hv (n.val : Int) = -1 := by decide +kernel
theorem hv_none (c : Int) (h0 : 0 ≤ c) (h1 : c ≤ 255) (h : ∀ j, j < 22 → tabL.getD j 0 ≠ c) : hv c = -1 := by
  have := tab_no ⟨c.toNat, by omega⟩
  have e : ((c.toNat : Nat) : Int) = c := by omega
  simp only [e] at this
  exact this (List.all_eq_true.2 fun j hj => decide_eq_true (h j (List.mem_range.1 hj)))

end Go.Proofs.YtbimncnicioagaaDoor.Nu
namespace Go.Proofs.YtbimncnicioagaaDoor.Nu
open Go.RowKit
set_option linter.unusedSimpArgs false
set_option linter.unusedVariables false

theorem hex_big {l : List UInt8} (ha : l.all (okD 16) = true) (h : 8 < (stripL l).length) : ¬ val 16 l ≤ 2147483647 := by
  have := strip_big (.inr rfl) l ha 8 h (by decide)
  have e : (16 : Int) ^ 8 = 4294967296 := by decide
  omega
theorem hex_small {l : List UInt8} (ha : l.all (okD 16) = true) (h : (stripL l).length < 8) : val 16 l ≤ 2147483647 := by
  have h1 := strip_small (.inr rfl) l ha
  have h2 := pow_mono (B := 16) (.inr rfl) (n := (stripL l).length) (m := 7) (by omega)
  have e : (16 : Int) ^ 7 = 268435456 := by decide
  omega
theorem hex_eight {l : List UInt8} (ha : l.all (okD 16) = true) (h : (stripL l).length = 8) (b : UInt8) (hb : (stripL l).getD 0 0 = b) : (val 16 l ≤ 2147483647 ↔ hvU b ≤ 7) := by
  have hs := strip_all _ l ha
  have hv := strip_val 16 l
  cases e : stripL l with
  | nil => rw [e] at h; simp at h
  | cons c t =>
    rw [e] at h hs hv hb
    have hc : c = b := by simpa [List.getD] using hb
    subst hc
    rw [List.all_cons, Bool.and_eq_true] at hs
    have hl : t.length = 7 := by simpa using h
    have hb2 := okD_bd hs.1
    have hv2 := val_bd (.inr rfl) t hs.2
    rw [val_cons, hl] at hv
    rw [hl] at hv2
    have e7 : (16 : Int) ^ 7 = 268435456 := by decide
    rw [e7] at hv hv2
    omega
theorem ok16 (b : UInt8) : okD 16 b = decide (0 ≤ hv (b.toNat : Int)) := by
  unfold okD hvU
  have := (hv_bd (b.toNat : Int)).2
  rw [Bool.eq_iff_iff]
  simp only [decide_eq_true_eq]
  omega

/-- the rest of Hex behind the test of its digits: the loop that reads them -/
def H2 (t : ByteArray) (w : World) (k : Nat) (v : Value) (wr : World) : Prop := v = .int .i64 (val 16 (t.data.toList.take k)) ∧ Below w.heap.size w wr

end Go.Proofs.YtbimncnicioagaaDoor.Nu
