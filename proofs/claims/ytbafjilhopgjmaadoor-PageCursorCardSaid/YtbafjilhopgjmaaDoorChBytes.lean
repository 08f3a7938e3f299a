/- Contracts of the questions about one byte: package chars and the document's own answers give the same Bool; no condition but that the byte is one. -/
import Derived.Test.YtbafjilhopgjmaaDoorRows
import Derived.WalkKit
import Derived.WalkSpells
import Derived.Lib.Hide
import Derived.Lib.Bytealg
namespace Go.Proofs.YtbafjilhopgjmaaDoor.Ch
open Go.RowKit
set_option linter.unusedSimpArgs false
set_option linter.unusedVariables false

theorem ret_bool {a b : Bool} (h : a = b) : Ending.returned (.bool a) = .returned (.bool b) := by rw [h]
theorem dec_iff {p q : Prop} [Decidable p] [Decidable q] (h : p ↔ q) : decide p = decide q := by simp [h]

def digB (c : Int) : Bool := decide (48 ≤ c ∧ c ≤ 57)
def greB (c : Int) : Bool := decide (65 ≤ c ∧ c ≤ 90)
def letB (c : Int) : Bool := decide ((65 ≤ c ∧ c ≤ 90) ∨ (97 ≤ c ∧ c ≤ 122))
def visB (c : Int) : Bool := decide (33 ≤ c ∧ c ≤ 126)
def spaB (c : Int) : Bool := decide (c = 32 ∨ c = 9)
def marksL : List Int := [33, 35, 36, 37, 38, 39, 42, 43, 45, 46, 94, 95, 96, 124, 126]
def marB (c : Int) : Bool := decide (c ∈ marksL)
def tokB (c : Int) : Bool := letB c || digB c || marB c

theorem two_t {c lo hi : Int} (h : lo ≤ c) : decide (c ≤ hi) = decide (lo ≤ c ∧ c ≤ hi) := by simp [h]
theorem two_f {c lo hi : Int} (h : c < lo) : false = (decide (lo ≤ c) && decide (c ≤ hi)) := by
  have : decide (lo ≤ c) = false := by simp; omega
  rw [this]; rfl

theorem dig_c (c : Int) (w : World) : Calls Tryd.prog 36 #[.int .u8 c] w fun e w' => e = .returned (.bool (digB c)) ∧ w = w' := by
  unfold digB
  by_cases h1 : 48 ≤ c
  · go_enter Tryd.func36, Tryd.ntmps36
    go_wp2
    go_ret
    exact ⟨ret_bool (two_t h1), rfl⟩
  · go_enter Tryd.func36, Tryd.ntmps36
    go_wp2
    go_ret
    exact ⟨ret_bool (two_f h1), rfl⟩

theorem gre_c (c : Int) (w : World) : Calls Tryd.prog 61 #[.int .u8 c] w fun e w' => e = .returned (.bool (greB c)) ∧ w = w' := by
  unfold greB
  by_cases h1 : 65 ≤ c
  · go_enter Tryd.func61, Tryd.ntmps61
    go_wp2
    go_ret
    exact ⟨ret_bool (two_t h1), rfl⟩
  · go_enter Tryd.func61, Tryd.ntmps61
    go_wp2
    go_ret
    exact ⟨ret_bool (two_f h1), rfl⟩

theorem let_c (c : Int) (w : World) : Calls Tryd.prog 48 #[.int .u8 c] w fun e w' => e = .returned (.bool (letB c)) ∧ w = w' := by
  unfold letB
  by_cases h1 : 97 ≤ c
  · by_cases h2 : c ≤ 122
    · go_enter Tryd.func48, Tryd.ntmps48
      go_wp2
      go_ret
      exact ⟨ret_bool (by simp [h1, h2]), rfl⟩
    · have H := Lib.hid h2
      go_enter Tryd.func48, Tryd.ntmps48
      go_wp2_with (go_at_call 61; refine (gre_c _ _).mono ?_; rintro e w' ⟨rfl, rfl⟩)
      go_ret
      exact ⟨ret_bool (by have := H.out; simp [greB]; omega), rfl⟩
  · have H := Lib.hid h1
    go_enter Tryd.func48, Tryd.ntmps48
    go_wp2_with (go_at_call 61; refine (gre_c _ _).mono ?_; rintro e w' ⟨rfl, rfl⟩)
    go_ret
    exact ⟨ret_bool (by have := H.out; simp [greB]; omega), rfl⟩

theorem is_r (c lo hi : Int) (w : World) (h0 : 0 ≤ c) (h9 : c ≤ 255) : Calls Tryd.prog 49 #[.int .u8 c, .int .i64 lo, .int .i64 hi] w fun e w' => e = .returned (.bool (decide (lo ≤ c ∧ c ≤ hi))) ∧ w = w' := by
  by_cases h1 : lo ≤ c
  · go_enter Tryd.func49, Tryd.ntmps49
    go_wp2
    go_ret
    exact ⟨ret_bool (two_t h1), rfl⟩
  · go_enter Tryd.func49, Tryd.ntmps49
    go_wp2
    go_ret
    exact ⟨ret_bool (two_f h1), rfl⟩

theorem dig_r (c : Int) (w : World) (h0 : 0 ≤ c) (h1 : c ≤ 255) : Calls Tryd.prog 40 #[.int .u8 c] w fun e w' => e = .returned (.bool (digB c)) ∧ w = w' := by
  go_enter Tryd.func40, Tryd.ntmps40
  go_wp2_with (go_at_call 49; refine (is_r _ _ _ _ h0 h1).mono ?_; rintro e w' ⟨rfl, rfl⟩)
  go_ret
  exact ⟨ret_bool (by simp [digB]), rfl⟩

theorem let_r (c : Int) (w : World) (h0 : 0 ≤ c) (h1 : c ≤ 255) : Calls Tryd.prog 39 #[.int .u8 c] w fun e w' => e = .returned (.bool (letB c)) ∧ w = w' := by
  unfold letB
  by_cases h : 65 ≤ c ∧ c ≤ 90
  · have H := Lib.hid h
    obtain ⟨ha, hb⟩ := h
    go_enter Tryd.func39, Tryd.ntmps39
    go_wp2_with (go_at_call 49; refine (is_r _ _ _ _ h0 h1).mono ?_; rintro e w' ⟨rfl, rfl⟩)
    go_ret
    exact ⟨ret_bool (by simp [H.out]), rfl⟩
  · have H := Lib.hid h
    have e1 : decide (65 ≤ c ∧ c ≤ 90) = false := by simp; omega
    have e2 : (decide (65 ≤ c) && decide (c ≤ 90)) = false := by rw [← e1]; simp
    clear h
    go_enter Tryd.func39, Tryd.ntmps39
    go_wp2_with (go_at_call 49; refine (is_r _ _ _ _ h0 h1).mono ?_; rintro e w' ⟨rfl, rfl⟩)
    go_ret
    exact ⟨ret_bool (by have := H.out; rw [Bool.eq_iff_iff]; simp; omega), rfl⟩

theorem idx_ge (l : List UInt8) (c : UInt8) : (0 ≤ Lib.indexByte l c) ↔ c ∈ l := by
  induction l with
  | nil => simp [Lib.indexByte]
  | cons b l ih =>
    have hg := Lib.indexByte_ge l c
    unfold Lib.indexByte
    by_cases h : b = c
    · subst h; simp
    · have h' : (b == c) = false := by simpa using h
      have h3 : ¬ c = b := fun e => h e.symm
      by_cases h2 : Lib.indexByte l c = -1
      · have h4 : ¬ c ∈ l := by rw [← ih]; omega
        simp [h', h2, h3, h4]
      · have h4 : c ∈ l := by rw [← ih]; omega
        simp [h', h2, h4]
        omega

def marksU : List UInt8 := [33, 35, 36, 37, 38, 39, 42, 43, 45, 46, 94, 95, 96, 124, 126]
theorem mar_all : ∀ n : Fin 256, decide (0 ≤ Lib.indexByte marksU (UInt8.ofNat n.val)) = marB (n.val : Int) := by decide +kernel
theorem mar_eq (c : Int) (h0 : 0 ≤ c) (h1 : c ≤ 255) : decide (0 ≤ Lib.indexByte marksU c.toNat.toUInt8) = marB c := by
  have h := mar_all ⟨c.toNat, by omega⟩
  have e : ((c.toNat : Nat) : Int) = c := by omega
  simp only [e] at h
  exact h

set_option maxRecDepth 100000 in
theorem idx33_c (s : ByteArray) (c : Int) (w : World) : Calls Tryd.prog 54 #[.string s, .int .u8 c] w fun e w' => e = .returned (.int .i64 (Lib.indexByte s.data.toList c.toNat.toUInt8)) ∧ w = w' := by
  go_enter Tryd.func54, Tryd.ntmps54
  go_wp2
  rw [run_callFunc_extern Tryd.func67 (by kernel_rfl) (by kernel_rfl) (by kernel_rfl) (e := Extern.BytealgIndexByte.indexByte) (by kernel_rfl), Lib.run_indexByteString]
  simp only [Result.andThen]
  rw [Oper.upon_value]
  go_wp2
  go_ret
  exact ⟨rfl, rfl⟩

theorem mar_take (c : Int) (k : Nat) (h : k < 15) : (c ∈ marksL.take (k + 1)) ↔ (c ∈ marksL.take k ∨ c = marksL.getD k 0) := by
  have hl : marksL.length = 15 := rfl
  have e : marksL.getD k 0 = marksL[k]'(by omega) := by simp [List.getD, List.getElem?_eq_getElem (show k < marksL.length by omega)]
  rw [List.take_succ_eq_append_getElem (by omega), e, List.mem_append, List.mem_singleton]

theorem marks_cells (w : World) : ∀ j, j < 15 → (w.alloc (.cells #[.int .i64 33, .int .i64 35, .int .i64 36, .int .i64 37, .int .i64 38, .int .i64 39, .int .i64 42, .int .i64 43, .int .i64 45, .int .i64 46, .int .i64 94, .int .i64 95, .int .i64 96, .int .i64 124, .int .i64 126] 3)).cell? ⟨w.heap.size, j, none⟩ = some (.int .i64 (marksL.getD j 0)) := by
  intro j hj
  rw [World.cell?_alloc_at _ _ _ _ rfl]
  have : ∀ j : Fin 15, (#[Value.int .i64 33, .int .i64 35, .int .i64 36, .int .i64 37, .int .i64 38, .int .i64 39, .int .i64 42, .int .i64 43, .int .i64 45, .int .i64 46, .int .i64 94, .int .i64 95, .int .i64 96, .int .i64 124, .int .i64 126])[j.val]? = some (.int .i64 (marksL.getD j.val 0)) := by
    intro j
    match j with
    | ⟨0, _⟩ | ⟨1, _⟩ | ⟨2, _⟩ | ⟨3, _⟩ | ⟨4, _⟩ | ⟨5, _⟩ | ⟨6, _⟩ | ⟨7, _⟩ | ⟨8, _⟩ | ⟨9, _⟩ | ⟨10, _⟩ | ⟨11, _⟩ | ⟨12, _⟩ | ⟨13, _⟩ | ⟨14, _⟩ => rfl
  exact this ⟨j, hj⟩

theorem tok_mar (c : Int) (k : Nat) (h : c ∈ marksL.take k) : tokB c = true := by
  have : c ∈ marksL := List.mem_of_mem_take h
  simp [tokB, marB, this]

theorem tok_nomar (c : Int) (h : ¬ c ∈ marksL.take 15) : tokB c = (digB c || letB c) := by
  have e : marksL.take 15 = marksL := rfl
  rw [e] at h
  simp [tokB, marB, h, Bool.or_comm]

end Go.Proofs.YtbafjilhopgjmaaDoor.Ch
