/- Plain lists of bytes: a text without blanks around, cut at a byte, and without great letters; no condition. -/
import Derived.Test.YtbafjilhopgjmaaDoorChBytes
import Derived.Lib.IndexBytes
namespace Go.Proofs.YtbafjilhopgjmaaDoor.Ch
open Go.RowKit
set_option linter.unusedSimpArgs false
set_option linter.unusedVariables false

def mkS (l : List UInt8) : ByteArray := ⟨l.toArray⟩
theorem mkS_of {s : ByteArray} {l : List UInt8} (h : s.data.toList = l) : s = mkS l := by subst h; exact (Lib.mk_data s).symm
theorem data_mkS (l : List UInt8) : (mkS l).data.toList = l := rfl
theorem size_mkS (l : List UInt8) : (mkS l).size = l.length := by rw [Lib.size_eq, data_mkS]
theorem mkS_inj {a b : List UInt8} (h : mkS a = mkS b) : a = b := by have := congrArg (fun s : ByteArray => s.data.toList) h; simpa [data_mkS] using this

def spU (b : UInt8) : Bool := spaB (b.toNat : Int)
def trimL (l : List UInt8) : List UInt8 := ((l.dropWhile spU).reverse.dropWhile spU).reverse

theorem dw_all {l : List UInt8} (h : ∀ a ∈ l, spU a = true) : l.dropWhile spU = [] := by
  induction l with
  | nil => rfl
  | cons b l ih => rw [List.dropWhile_cons, h b (by simp)]; simpa using ih (fun a ha => h a (by simp [ha]))
theorem dw_app {A X : List UInt8} (h : ∀ a ∈ A, spU a = true) : (A ++ X).dropWhile spU = X.dropWhile spU := by
  induction A with
  | nil => rfl
  | cons b l ih => rw [List.cons_append, List.dropWhile_cons, h b (by simp)]; simpa using ih (fun a ha => h a (by simp [ha]))
theorem dw_no {X : List UInt8} (h : ∀ b, X.head? = some b → spU b = false) : X.dropWhile spU = X := by
  cases X with
  | nil => rfl
  | cons b l => rw [List.dropWhile_cons, h b rfl]; rfl

theorem trim_of (A M C : List UInt8) (hA : ∀ a ∈ A, spU a = true) (hC : ∀ a ∈ C, spU a = true) (h1 : ∀ b, M.head? = some b → spU b = false) (h2 : ∀ b, M.getLast? = some b → spU b = false) : trimL (A ++ M ++ C) = M := by
  unfold trimL
  rw [List.append_assoc, dw_app hA]
  cases M with
  | nil => simp [dw_all hC]
  | cons b M' =>
    have e : (b :: M' ++ C).dropWhile spU = b :: M' ++ C := dw_no (fun x hx => h1 x (by simpa using hx))
    rw [e, List.reverse_append, dw_app (A := C.reverse) (fun a ha => hC a (by simpa using ha)), dw_no (X := (b :: M').reverse) (fun x hx => h2 x (by rw [List.head?_reverse] at hx; exact hx)), List.reverse_reverse]

theorem trim_at (l : List UInt8) (k m : Nat) (hk : k ≤ m) (hm : m ≤ l.length) (hA : ∀ a ∈ l.take k, spU a = true) (hC : ∀ a ∈ l.drop m, spU a = true)
    (h1 : ∀ h : k < m, spU (l[k]'(by omega)) = false) (h2 : ∀ h : k < m, spU (l[m - 1]'(by omega)) = false) : (l.drop k).take (m - k) = trimL l := by
  have e : l = l.take k ++ (l.drop k).take (m - k) ++ l.drop m := by
    have e1 : l.drop m = (l.drop k).drop (m - k) := by rw [List.drop_drop]; congr 1; omega
    rw [e1, List.append_assoc, List.take_append_drop, List.take_append_drop]
  have := trim_of (l.take k) ((l.drop k).take (m - k)) (l.drop m) hA hC ?_ ?_
  · rw [← e] at this; exact this.symm
  · intro b hb
    rw [List.head?_eq_getElem?, List.getElem?_take] at hb
    split at hb
    · rename_i h0
      have hkm : k < m := by omega
      rw [List.getElem?_drop, Nat.add_zero, List.getElem?_eq_getElem (by omega)] at hb
      cases hb; exact h1 hkm
    · cases hb
  · intro b hb
    rw [List.getLast?_eq_getElem?] at hb
    have hl : ((l.drop k).take (m - k)).length = m - k := by rw [List.length_take, List.length_drop]; omega
    rw [hl, List.getElem?_take] at hb
    split at hb
    · rename_i h0
      have hkm : k < m := by omega
      rw [List.getElem?_drop, List.getElem?_eq_getElem (by omega)] at hb
      cases hb
      have e2 : k + (m - k - 1) = m - 1 := by omega
      simp only [e2]; exact h2 hkm
    · cases hb

/-- one step of the document's cut -/
def cutStep (c : UInt8) (st : List (List UInt8) × List UInt8) (b : UInt8) : List (List UInt8) × List UInt8 := if b = c then (st.1 ++ [st.2], []) else (st.1, st.2 ++ [b])
def cutF (c : UInt8) (l : List UInt8) : List (List UInt8) × List UInt8 := l.foldl (cutStep c) ([], [])
def cutL (c : UInt8) (l : List UInt8) : List (List UInt8) := (cutF c l).1 ++ [(cutF c l).2]

theorem cut_from (c : UInt8) (l : List UInt8) : ∀ A W, l.foldl (cutStep c) (A, W) = (A ++ (l.foldl (cutStep c) ([], W)).1, (l.foldl (cutStep c) ([], W)).2) := by
  induction l with
  | nil => intro A W; simp
  | cons b l ih =>
    intro A W
    rw [List.foldl_cons, List.foldl_cons]
    unfold cutStep
    by_cases h : b = c
    · simp only [h, if_true, List.nil_append]
      have := ih (A ++ [W]) []; have h2 := ih [W] []
      unfold cutStep at this h2
      rw [this, h2]; simp
    · simp only [h, if_false, List.nil_append]
      have := ih A (W ++ [b])
      unfold cutStep at this
      exact this
theorem cut_none (c : UInt8) (l : List UInt8) (h : ¬ c ∈ l) : ∀ W, l.foldl (cutStep c) ([], W) = ([], W ++ l) := by
  induction l with
  | nil => intro W; simp
  | cons b l ih =>
    intro W
    have hb : ¬ b = c := fun e => h (by simp [e])
    rw [List.foldl_cons]
    have : cutStep c ([], W) b = ([], W ++ [b]) := by unfold cutStep; simp [hb]
    rw [this, ih (fun hm => h (by simp [hm]))]; simp
theorem cutL_none (c : UInt8) (l : List UInt8) (h : ¬ c ∈ l) : cutL c l = [l] := by unfold cutL cutF; rw [cut_none c l h]; simp
theorem cutL_at (c : UInt8) (p q : List UInt8) (h : ¬ c ∈ p) : cutL c (p ++ c :: q) = p :: cutL c q := by
  unfold cutL cutF
  rw [List.foldl_append, cut_none c p h, List.foldl_cons]
  have : cutStep c ([], [] ++ p) c = ([p], []) := by unfold cutStep; simp
  rw [this, cut_from]; simp

/-- the index of a byte: what stands ahead of it and behind it -/
theorem idx_split (l : List UInt8) (c : UInt8) (h : 0 ≤ Lib.indexByte l c) : ∃ k : Nat, Lib.indexByte l c = k ∧ k < l.length ∧ ¬ c ∈ l.take k ∧ l = l.take k ++ c :: l.drop (k + 1) := by
  induction l with
  | nil => simp [Lib.indexByte] at h
  | cons b l ih =>
    by_cases hb : b = c
    · subst hb; exact ⟨0, by simp [Lib.indexByte], by simp, by simp, by simp⟩
    · have hb' : (b == c) = false := by simpa using hb
      have hg := Lib.indexByte_ge l c
      by_cases h2 : Lib.indexByte l c = -1
      · exfalso; unfold Lib.indexByte at h; simp [hb', h2] at h
      · obtain ⟨k, e1, e2, e3, e4⟩ := ih (by omega)
        refine ⟨k + 1, ?_, by simp; omega, ?_, ?_⟩
        · unfold Lib.indexByte; simp [hb', h2, e1]
        · simp [e3]; exact fun e => hb e.symm
        · rw [List.take_succ_cons, List.drop_succ_cons, List.cons_append, ← e4]
theorem idx_no (l : List UInt8) (c : UInt8) (h : ¬ 0 ≤ Lib.indexByte l c) : ¬ c ∈ l := fun hm => h ((idx_ge l c).2 hm)

def keepL (p : List UInt8) : List (List UInt8) := if trimL p = [] then [] else [trimL p]
def keepsL (ps : List (List UInt8)) : List (List UInt8) := ps.flatMap keepL
def fieldsL (c : UInt8) (l : List UInt8) : List (List UInt8) := keepsL (cutL c l)
theorem fields_none (c : UInt8) (l : List UInt8) (h : ¬ c ∈ l) : fieldsL c l = keepL l := by unfold fieldsL keepsL; rw [cutL_none c l h]; simp
theorem fields_at (c : UInt8) (p q : List UInt8) (h : ¬ c ∈ p) : fieldsL c (p ++ c :: q) = keepL p ++ fieldsL c q := by unfold fieldsL keepsL; rw [cutL_at c p q h]; simp
theorem keepL_len (p : List UInt8) : (keepL p).length ≤ 1 := by unfold keepL; split <;> simp
theorem keepsL_len (ps : List (List UInt8)) : (keepsL ps).length ≤ ps.length := by
  induction ps with
  | nil => simp [keepsL]
  | cons p ps ih => unfold keepsL at *; rw [List.flatMap_cons, List.length_append]; have := keepL_len p; rw [List.length_cons]; omega
theorem cutF_len (c : UInt8) (l : List UInt8) : ∀ A W, (l.foldl (cutStep c) (A, W)).1.length ≤ A.length + l.length := by
  induction l with
  | nil => intro A W; simp
  | cons b l ih =>
    intro A W
    rw [List.foldl_cons]
    unfold cutStep
    by_cases h : b = c
    · simp only [h, if_true]; have := ih (A ++ [W]) []; unfold cutStep at this; simp at this ⊢; omega
    · simp only [h, if_false]; have := ih A (W ++ [b]); unfold cutStep at this; simp at this ⊢; omega
theorem cutL_len (c : UInt8) (l : List UInt8) : (cutL c l).length ≤ l.length + 1 := by
  unfold cutL cutF; have := cutF_len c l [] []; simp at this ⊢; omega

/-- without great letters -/
def lowB (b : UInt8) : UInt8 := if greB (b.toNat : Int) then b + 32 else b
def lowL (l : List UInt8) : List UInt8 := l.map lowB
end Go.Proofs.YtbafjilhopgjmaaDoor.Ch
