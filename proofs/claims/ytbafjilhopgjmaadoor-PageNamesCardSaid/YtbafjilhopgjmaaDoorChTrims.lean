/- Contracts of Trim, of both packages, and of the cut to eighty bytes: for every text that fits a string. -/
import Derived.Test.YtbafjilhopgjmaaDoorChPlain
namespace Go.Proofs.YtbafjilhopgjmaaDoor.Ch
open Go.RowKit
set_option linter.unusedSimpArgs false
set_option linter.unusedVariables false

theorem ret_str {a b : ByteArray} (h : a = b) : Ending.returned (.string a) = .returned (.string b) := by rw [h]
theorem gdat (s : ByteArray) (k : Nat) (h : k < s.size) : s.data.toList[k]'(by rw [← Lib.size_eq]; exact h) = s[k] := by
  have := Lib.data_getElem? s k h
  rw [List.getElem?_eq_getElem (by rw [← Lib.size_eq]; exact h)] at this
  exact Option.some.inj this

def shortL (l : List UInt8) : List UInt8 := l.take 80
theorem take_step {s : ByteArray} {k : Nat} (hk : k < s.size) (h : ∀ a ∈ s.data.toList.take k, spU a = true) (hb : spaB (s[k].toNat : Int) = true) : ∀ a ∈ s.data.toList.take (k + 1), spU a = true := by
  rw [List.take_succ_eq_append_getElem (by rw [← Lib.size_eq]; exact hk)]
  intro a ha
  rcases List.mem_append.1 ha with ha | ha
  · exact h a ha
  · rw [List.mem_singleton, gdat s k hk] at ha
    subst ha; exact hb
theorem drop_step {s : ByteArray} {m : Nat} (hm : m < s.size) (h : ∀ a ∈ s.data.toList.drop (m + 1), spU a = true) (hb : spaB (s[m].toNat : Int) = true) : ∀ a ∈ s.data.toList.drop m, spU a = true := by
  rw [List.drop_eq_getElem_cons (by rw [← Lib.size_eq]; exact hm)]
  intro a ha
  rcases List.mem_cons.1 ha with ha | ha
  · rw [gdat s m hm] at ha; subst ha; exact hb
  · exact h a ha
theorem trim_end {s : ByteArray} {k m : Nat} (hk : k ≤ m) (hm : m ≤ s.size) (hA : ∀ a ∈ s.data.toList.take k, spU a = true) (hC : ∀ a ∈ s.data.toList.drop m, spU a = true)
    (h1 : ∀ h : k < s.size, spaB (s[k].toNat : Int) = false) (h2 : ∀ h : k < m, spaB (s[m - 1].toNat : Int) = false) : s.extract k m = mkS (trimL s.data.toList) := by
  apply mkS_of
  rw [Lib.extract_data]
  have hl := Lib.size_eq s
  refine trim_at _ k m hk (by omega) hA hC (fun h => ?_) (fun h => ?_)
  · rw [gdat s k (by omega)]; exact h1 _
  · rw [gdat s (m - 1) (by omega)]; exact h2 h

theorem bcons (t : ByteArray) (h : 0 < t.size) : t.data.toList = t[0] :: t.data.toList.drop 1 := by
  have := List.drop_eq_getElem_cons (l := t.data.toList) (i := 0) (by rw [← Lib.size_eq]; exact h)
  rw [gdat t 0 h] at this
  simpa using this
theorem bsnoc (t : ByteArray) (h : 0 < t.size) : t.data.toList = t.data.toList.take (t.size - 1) ++ [t[t.size - 1]] := by
  have hl := Lib.size_eq t
  have := List.take_succ_eq_append_getElem (l := t.data.toList) (i := t.size - 1) (by omega)
  rw [gdat t (t.size - 1) (by omega), show t.size - 1 + 1 = t.size by omega, List.take_of_length_le (by omega)] at this
  exact this

def RelA (l : List UInt8) (t : ByteArray) : Prop := ∃ A, l = A ++ t.data.toList ∧ ∀ a ∈ A, spU a = true
def RelC (l : List UInt8) (t : ByteArray) : Prop := ∃ A C, l = A ++ t.data.toList ++ C ∧ (∀ a ∈ A, spU a = true) ∧ (∀ a ∈ C, spU a = true) ∧ ∀ h : 0 < t.size, spaB (t[0].toNat : Int) = false
theorem relA_size {l : List UInt8} {t : ByteArray} (h : RelA l t) : t.size ≤ l.length := by
  obtain ⟨A, e, _⟩ := h; rw [Lib.size_eq, e]; simp
theorem relC_size {l : List UInt8} {t : ByteArray} (h : RelC l t) : t.size ≤ l.length := by
  obtain ⟨A, C, e, _⟩ := h; rw [Lib.size_eq, e]; simp; omega
theorem relA_step {l : List UInt8} {t : ByteArray} (h : RelA l t) (hp : 0 < t.size) (hb : spaB (t[0].toNat : Int) = true) : RelA l (t.extract 1 t.size) := by
  obtain ⟨A, e, hA⟩ := h
  refine ⟨A ++ [t[0]], ?_, ?_⟩
  · rw [Lib.extract_to_end, e, bcons t hp]; simp
  · intro a ha
    rcases List.mem_append.1 ha with ha | ha
    · exact hA a ha
    · have : a = t[0] := List.mem_singleton.1 ha
      subst this; exact hb
theorem relA_end {l : List UInt8} {t : ByteArray} (h : RelA l t) (hx : ∀ h : 0 < t.size, spaB (t[0].toNat : Int) = false) : RelC l t := by
  obtain ⟨A, e, hA⟩ := h
  exact ⟨A, [], by simp [e], hA, by simp, hx⟩
theorem relC_step {l : List UInt8} {t : ByteArray} (h : RelC l t) (hp : 0 < t.size) (hb : spaB (t[t.size - 1].toNat : Int) = true) : RelC l (t.extract 0 (t.size - 1)) := by
  obtain ⟨A, C, e, hA, hC, h0⟩ := h
  have ed : (t.extract 0 (t.size - 1)).data.toList = t.data.toList.take (t.size - 1) := by rw [Lib.extract_data]; simp
  refine ⟨A, t[t.size - 1] :: C, ?_, hA, ?_, ?_⟩
  · rw [ed, e]
    conv => lhs; rw [bsnoc t hp]
    simp
  · intro a ha
    rcases List.mem_cons.1 ha with ha | ha
    · subst ha; exact hb
    · exact hC a ha
  · intro hq
    have hl := Lib.size_eq t
    have hq2 : 0 < (t.extract 0 (t.size - 1)).data.toList.length := by rw [← Lib.size_eq]; exact hq
    have hs1 : 0 < t.size - 1 := by rw [ed, List.length_take] at hq2; omega
    have : (t.extract 0 (t.size - 1))[0] = t[0] := by
      rw [← gdat _ 0 hq, ← gdat t 0 hp]
      simp only [ed]
      rw [List.getElem_take]
    rw [this]; exact h0 hp
theorem relC_end {l : List UInt8} {t : ByteArray} (h : RelC l t) (hx : ∀ h : 0 < t.size, spaB (t[t.size - 1].toNat : Int) = false) : t = mkS (trimL l) := by
  obtain ⟨A, C, e, hA, hC, h0⟩ := h
  have hl := Lib.size_eq t
  apply mkS_of
  rw [e, trim_of A t.data.toList C hA hC ?_ ?_]
  · intro b hb
    rw [List.head?_eq_getElem?] at hb
    by_cases hp : 0 < t.size
    · rw [Lib.data_getElem? t 0 hp] at hb; cases hb; exact h0 hp
    · rw [List.getElem?_eq_none (by omega)] at hb; cases hb
  · intro b hb
    rw [List.getLast?_eq_getElem?, ← hl] at hb
    by_cases hp : 0 < t.size
    · rw [Lib.data_getElem? t (t.size - 1) (by omega)] at hb; cases hb; exact hx hp
    · rw [List.getElem?_eq_none (by omega)] at hb; cases hb

def strOf : Value → ByteArray | .string s => s | _ => ByteArray.empty

end Go.Proofs.YtbafjilhopgjmaaDoor.Ch
