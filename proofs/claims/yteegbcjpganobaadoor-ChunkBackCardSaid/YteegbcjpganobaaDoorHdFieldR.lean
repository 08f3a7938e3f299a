/- The contract of the document's own OfField: for every text of at most a thousand bytes. -/
import Derived.Test.YteegbcjpganobaaDoorHdField
import Derived.IntWalk
namespace Go.Proofs.YteegbcjpganobaaDoor.Hd
open Go.RowKit Ch
set_option linter.unusedSimpArgs false
set_option linter.unusedVariables false

theorem cutP_k {s : ByteArray} {k : Nat} (hk : k < s.size) (hn : ¬ 58 ∈ s.data.toList.take k) (h : s[k] = 58) : cutP 58 s.data.toList = (s.data.toList.take k, s.data.toList.drop (k + 1)) ∧ 58 ∈ s.data.toList := by
  have hl : k < s.data.toList.length := by rw [← Lib.size_eq]; exact hk
  have e : s.data.toList = s.data.toList.take k ++ 58 :: s.data.toList.drop (k + 1) := by
    conv => lhs; rw [← List.take_append_drop k s.data.toList]
    rw [List.drop_eq_getElem_cons hl, gdat s k hk, h]
  have := cutP_at (c := 58) (p := s.data.toList.take k) (q := s.data.toList.drop (k + 1)) hn
  rw [← e] at this
  refine ⟨this, ?_⟩
  rw [e]; simp
theorem no58_step {s : ByteArray} {k : Nat} (hk : k < s.size) (hn : ¬ 58 ∈ s.data.toList.take k) (h : ¬ s[k] = 58) : ¬ 58 ∈ s.data.toList.take (k + 1) := by
  have hl : k < s.data.toList.length := by rw [← Lib.size_eq]; exact hk
  rw [List.take_succ_eq_append_getElem hl, gdat s k hk]
  intro hm
  rcases List.mem_append.1 hm with h1 | h1
  · exact hn h1
  · simp at h1; exact h h1.symm
theorem valU_iff (c : UInt8) : valU c = (decide (c = 9) || (!decide ((c.toNat : Int) < 32) && !decide (c = 127))) := by
  unfold valU valI
  have e9 : ((c.toNat : Int) = 9) ↔ c = 9 := ⟨fun h => UInt8.toNat_inj.1 (by show c.toNat = 9; omega), fun h => by rw [h]; rfl⟩
  have e127 : ((c.toNat : Int) = 127) ↔ c = 127 := ⟨fun h => UInt8.toNat_inj.1 (by show c.toNat = 127; omega), fun h => by rw [h]; rfl⟩
  rw [Bool.eq_iff_iff]
  simp [e9, e127]
def VlR (l : List UInt8) (k i : Nat) : Prop := allU valU ((l.drop (k + 1)).take (i - (k + 1))) = true
theorem vlr_start (l : List UInt8) (k : Nat) : VlR l k (k + 1) := by unfold VlR; rw [show k + 1 - (k + 1) = 0 by omega]; rfl
theorem vlr_step {s : ByteArray} {k i : Nat} (hi : i < s.size) (hk : k + 1 ≤ i) (h : VlR s.data.toList k i) (hv : valU s[i] = true) : VlR s.data.toList k (i + 1) := by
  unfold VlR allU at *
  have hl : i - (k + 1) < (s.data.toList.drop (k + 1)).length := by rw [List.length_drop, ← Lib.size_eq]; omega
  rw [show i + 1 - (k + 1) = (i - (k + 1)) + 1 by omega, List.take_succ_eq_append_getElem hl, List.all_append, h]
  have e : (s.data.toList.drop (k + 1))[i - (k + 1)] = s[i] := by
    rw [List.getElem_drop]
    have := gdat s i hi
    rw [← this]
    congr 1
    omega
  rw [e]; simp [hv]
theorem vlr_bad {s : ByteArray} {k i : Nat} (hi : i < s.size) (hk : k + 1 ≤ i) (hv : valU s[i] = false) : allU valU (s.data.toList.drop (k + 1)) = false := by
  unfold allU
  rw [List.all_eq_false]
  have hl : i - (k + 1) < (s.data.toList.drop (k + 1)).length := by rw [List.length_drop, ← Lib.size_eq]; omega
  have e : (s.data.toList.drop (k + 1))[i - (k + 1)] = s[i] := by
    rw [List.getElem_drop]
    have := gdat s i hi
    rw [← this]
    congr 1
    omega
  exact ⟨s[i], by rw [← e]; exact List.getElem_mem _, by simp [hv]⟩
theorem vlr_end {s : ByteArray} {k i : Nat} (hi : s.size ≤ i) (h : VlR s.data.toList k i) : allU valU (s.data.toList.drop (k + 1)) = true := by
  unfold VlR at h
  rwa [List.take_of_length_le (by rw [List.length_drop, ← Lib.size_eq]; omega)] at h
/-- what a cell holds, by name alone -/
def cg (V : World) (p : Addr) : Value := (V.cell? p).getD (.bool false)
theorem cg_of {V : World} {p : Addr} {v : Value} (h : V.cell? p = some v) : V.cell? p = some (cg V p) := by unfold cg; rw [h]; rfl
theorem sk_of {V : World} {g : Nat} {a b : Value} {T : TypeId} (h : V.heap[g]? = some (.cells #[a, b] T (0, 0))) : V.cell? ⟨g, 0, none⟩ = some (cg V ⟨g, 0, none⟩) ∧ V.cell? ⟨g, 1, none⟩ = some (cg V ⟨g, 1, none⟩) ∧ V.frozen? ⟨g, 0, none⟩ = false ∧ V.frozen? ⟨g, 1, none⟩ = false :=
  ⟨cg_of (cell_of_row _ _ 0 _ _ _ h), cg_of (cell_of_row _ _ 1 _ _ _ h), frz2 h 0, frz2 h 1⟩
end Go.Proofs.YteegbcjpganobaaDoor.Hd
