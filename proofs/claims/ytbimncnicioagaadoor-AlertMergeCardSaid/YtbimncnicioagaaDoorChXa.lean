/- Contracts and plain mathematics of some packages' functions, laid together; conditions as each one says. -/
import Derived.Test.YtbimncnicioagaaDoorChBytes
import Derived.Lib.IndexBytes
import Derived.Lib.SmallJoins
namespace Go.Proofs.YtbimncnicioagaaDoor.Ch
open Go.RowKit
set_option linter.unusedSimpArgs false
set_option linter.unusedVariables false

def mkS (l : List UInt8) : ByteArray := ⟨l.toArray⟩
theorem mkS_of {s : ByteArray} {l : List UInt8} (h : s.data.toList = l) : s = mkS l := by subst h; exact (Lib.mk_data s).symm
theorem data_mkS (l : List UInt8) : (mkS l).data.toList = l := rfl
theorem size_mkS (l : List UInt8) : (mkS l).size = l.length := by rw [Lib.size_eq, data_mkS]
theorem mkS_inj {a b : List UInt8} (h : mkS a = mkS b) : a = b := by have := congrArg (fun s : ByteArray => s.data.toList) h; simpa [data_mkS] using this

def spU (b : UInt8) : Bool := spaB (b.toNat : Int)
def trimL (l : List UInt8) : List UInt8 := ((l.dropWhile spU).reverse.dropWhile spU).reverse

theorem dw_all {l : List UInt8} (h : ∀ a ∈ l, spU a = true) : l.dropWhile spU = [] := by
  induction l with
  | nil => rfl
  | cons b l ih => rw [List.dropWhile_cons, h b (by simp)]; simpa using ih (fun a ha => h a (by simp [ha]))
theorem dw_app {A X : List UInt8} (h : ∀ a ∈ A, spU a = true) : (A ++ X).dropWhile spU = X.dropWhile spU := by
  induction A with
  | nil => rfl
  | cons b l ih => rw [List.cons_append, List.dropWhile_cons, h b (by simp)]; simpa using ih (fun a ha => h a (by simp [ha]))
theorem dw_no {X : List UInt8} (h : ∀ b, X.head? = some b → spU b = false) : X.dropWhile spU = X := by
  cases X with
  | nil => rfl
  | cons b l => rw [List.dropWhile_cons, h b rfl]; rfl

theorem trim_of (A M C : List UInt8) (hA : ∀ a ∈ A, spU a = true) (hC : ∀ a ∈ C, spU a = true) (h1 : ∀ b, M.head? = some b → spU b = false) (h2 : ∀ b, M.getLast? = some b → spU b = false) : trimL (A ++ M ++ C) = M := by
  unfold trimL
  rw [List.append_assoc, dw_app hA]
  cases M with
  | nil => simp [dw_all hC]
  | cons b M' =>
    have e : (b :: M' ++ C).dropWhile spU = b :: M' ++ C := dw_no (fun x hx => h1 x (by simpa using hx))
    rw [e, List.reverse_append, dw_app (A := C.reverse) (fun a ha => hC a (by simpa using ha)), dw_no (X := (b :: M').reverse) (fun x hx => h2 x (by rw [List.head?_reverse] at hx; exact hx)), List.reverse_reverse]

theorem trim_at (l : List UInt8) (k m : Nat) (hk : k ≤ m) (hm : m ≤ l.length) (hA : ∀ a ∈ l.take k, spU a = true) (hC : ∀ a ∈ l.drop m, spU a = true)
    (h1 : ∀ h : k < m, spU (l[k]'(by omega)) = false) (h2 : ∀ h : k < m, spU (l[m - 1]'(by omega)) = false) : (l.drop k).take (m - k) = trimL l := by
  have e : l = l.take k ++ (l.drop k).take (m - k) ++ l.drop m := by
    have e1 : l.drop m = (l.drop k).drop (m - k) := by rw [List.drop_drop]; congr 1; omega
    rw [e1, List.append_assoc, List.take_append_drop, List.take_append_drop]
  have := trim_of (l.take k) ((l.drop k).take (m - k)) (l.drop m) hA hC ?_ ?_
  · rw [← e] at this; exact this.symm
  · intro b hb
    rw [List.head?_eq_getElem?, List.getElem?_take] at hb
    split at hb
    · rename_i h0
      have hkm : k < m := by omega
      rw [List.getElem?_drop, Nat.add_zero, List.getElem?_eq_getElem (by omega)] at hb
      cases hb; exact h1 hkm
    · cases hb
  · intro b hb
    rw [List.getLast?_eq_getElem?] at hb
    have hl : ((l.drop k).take (m - k)).length = m - k := by rw [List.length_take, List.length_drop]; omega
    rw [hl, List.getElem?_take] at hb
    split at hb
    · rename_i h0
      have hkm : k < m := by omega
      rw [List.getElem?_drop, List.getElem?_eq_getElem (by omega)] at hb
      cases hb
      have e2 : k + (m - k - 1) = m - 1 := by omega
      simp only [e2]; exact h2 hkm
    · cases hb

/-- one step of the document's cut -/
def cutStep (c : UInt8) (st : List (List UInt8) × List UInt8) (b : UInt8) : List (List UInt8) × List UInt8 := if b = c then (st.1 ++ [st.2], []) else (st.1, st.2 ++ [b])
def cutF (c : UInt8) (l : List UInt8) : List (List UInt8) × List UInt8 := l.foldl (cutStep c) ([], [])
def cutL (c : UInt8) (l : List UInt8) : List (List UInt8) := (cutF c l).1 ++ [(cutF c l).2]

theorem cut_from (c : UInt8) (l : List UInt8) : ∀ A W, l.foldl (cutStep c) (A, W) = (A ++ (l.foldl (cutStep c) ([], W)).1, (l.foldl (cutStep c) ([], W)).2) := by
  induction l with
  | nil => intro A W; simp
  | cons b l ih =>
    intro A W
    rw [List.foldl_cons, List.foldl_cons]
    unfold cutStep
    by_cases h : b = c
    · simp only [h, if_true, List.nil_append]
      have := ih (A ++ [W]) []; have h2 := ih [W] []
      unfold cutStep at this h2
      rw [this, h2]; simp
    · simp only [h, if_false, List.nil_append]
      have := ih A (W ++ [b])
      unfold cutStep at this
      exact this
theorem cut_none (c : UInt8) (l : List UInt8) (h : ¬ c ∈ l) : ∀ W, l.foldl (cutStep c) ([], W) = ([], W ++ l) := by
  induction l with
  | nil => intro W; simp
  | cons b l ih =>
    intro W
    have hb : ¬ b = c := fun e => h (by simp [e])
    rw [List.foldl_cons]
    have : cutStep c ([], W) b = ([], W ++ [b]) := by unfold cutStep; simp [hb]
    rw [this, ih (fun hm => h (by simp [hm]))]; simp
theorem cutL_none (c : UInt8) (l : List UInt8) (h : ¬ c ∈ l) : cutL c l = [l] := by unfold cutL cutF; rw [cut_none c l h]; simp
theorem cutL_at (c : UInt8) (p q : List UInt8) (h : ¬ c ∈ p) : cutL c (p ++ c :: q) = p :: cutL c q := by
  unfold cutL cutF
  rw [List.foldl_append, cut_none c p h, List.foldl_cons]
  have : cutStep c ([], [] ++ p) c = ([p], []) := by unfold cutStep; simp
  rw [this, cut_from]; simp

/-- the index of a byte: what stands ahead of it and behind it -/
theorem idx_split (l : List UInt8) (c : UInt8) (h : 0 ≤ Lib.indexByte l c) : ∃ k : Nat, Lib.indexByte l c = k ∧ k < l.length ∧ ¬ c ∈ l.take k ∧ l = l.take k ++ c :: l.drop (k + 1) := by
  induction l with
  | nil => simp [Lib.indexByte] at h
  | cons b l ih =>
    by_cases hb : b = c
    · subst hb; exact ⟨0, by simp [Lib.indexByte], by simp, by simp, by simp⟩
    · have hb' : (b == c) = false := by simpa using hb
      have hg := Lib.indexByte_ge l c
      by_cases h2 : Lib.indexByte l c = -1
      · exfalso; unfold Lib.indexByte at h; simp [hb', h2] at h
      · obtain ⟨k, e1, e2, e3, e4⟩ := ih (by omega)
        refine ⟨k + 1, ?_, by simp; omega, ?_, ?_⟩
        · unfold Lib.indexByte; simp [hb', h2, e1]
        · simp [e3]; exact fun e => hb e.symm
        · rw [List.take_succ_cons, List.drop_succ_cons, List.cons_append, ← e4]
theorem idx_no (l : List UInt8) (c : UInt8) (h : ¬ 0 ≤ Lib.indexByte l c) : ¬ c ∈ l := fun hm => h ((idx_ge l c).2 hm)

def keepL (p : List UInt8) : List (List UInt8) := if trimL p = [] then [] else [trimL p]
def keepsL (ps : List (List UInt8)) : List (List UInt8) := ps.flatMap keepL
def fieldsL (c : UInt8) (l : List UInt8) : List (List UInt8) := keepsL (cutL c l)
theorem fields_none (c : UInt8) (l : List UInt8) (h : ¬ c ∈ l) : fieldsL c l = keepL l := by unfold fieldsL keepsL; rw [cutL_none c l h]; simp
theorem fields_at (c : UInt8) (p q : List UInt8) (h : ¬ c ∈ p) : fieldsL c (p ++ c :: q) = keepL p ++ fieldsL c q := by unfold fieldsL keepsL; rw [cutL_at c p q h]; simp
theorem keepL_len (p : List UInt8) : (keepL p).length ≤ 1 := by unfold keepL; split <;> simp
theorem keepsL_len (ps : List (List UInt8)) : (keepsL ps).length ≤ ps.length := by
  induction ps with
  | nil => simp [keepsL]
  | cons p ps ih => unfold keepsL at *; rw [List.flatMap_cons, List.length_append]; have := keepL_len p; rw [List.length_cons]; omega
theorem cutF_len (c : UInt8) (l : List UInt8) : ∀ A W, (l.foldl (cutStep c) (A, W)).1.length ≤ A.length + l.length := by
  induction l with
  | nil => intro A W; simp
  | cons b l ih =>
    intro A W
    rw [List.foldl_cons]
    unfold cutStep
    by_cases h : b = c
    · simp only [h, if_true]; have := ih (A ++ [W]) []; unfold cutStep at this; simp at this ⊢; omega
    · simp only [h, if_false]; have := ih A (W ++ [b]); unfold cutStep at this; simp at this ⊢; omega
theorem cutL_len (c : UInt8) (l : List UInt8) : (cutL c l).length ≤ l.length + 1 := by
  unfold cutL cutF; have := cutF_len c l [] []; simp at this ⊢; omega

/-- without great letters -/
def lowB (b : UInt8) : UInt8 := if greB (b.toNat : Int) then b + 32 else b
def lowL (l : List UInt8) : List UInt8 := l.map lowB
end Go.Proofs.YtbimncnicioagaaDoor.Ch
namespace Go.Proofs.YtbimncnicioagaaDoor.Ch
open Go.RowKit
set_option linter.unusedSimpArgs false
set_option linter.unusedVariables false

theorem ret_str {a b : ByteArray} (h : a = b) : Ending.returned (.string a) = .returned (.string b) := by rw [h]
theorem gdat (s : ByteArray) (k : Nat) (h : k < s.size) : s.data.toList[k]'(by rw [← Lib.size_eq]; exact h) = s[k] := by
  have := Lib.data_getElem? s k h
  rw [List.getElem?_eq_getElem (by rw [← Lib.size_eq]; exact h)] at this
  exact Option.some.inj this

def shortL (l : List UInt8) : List UInt8 := l.take 80
theorem take_step {s : ByteArray} {k : Nat} (hk : k < s.size) (h : ∀ a ∈ s.data.toList.take k, spU a = true) (hb : spaB (s[k].toNat : Int) = true) : ∀ a ∈ s.data.toList.take (k + 1), spU a = true := by
  rw [List.take_succ_eq_append_getElem (by rw [← Lib.size_eq]; exact hk)]
  intro a ha
  rcases List.mem_append.1 ha with ha | ha
  · exact h a ha
  · rw [List.mem_singleton, gdat s k hk] at ha
    subst ha; exact hb
theorem drop_step {s : ByteArray} {m : Nat} (hm : m < s.size) (h : ∀ a ∈ s.data.toList.drop (m + 1), spU a = true) (hb : spaB (s[m].toNat : Int) = true) : ∀ a ∈ s.data.toList.drop m, spU a = true := by
  rw [List.drop_eq_getElem_cons (by rw [← Lib.size_eq]; exact hm)]
  intro a ha
  rcases List.mem_cons.1 ha with ha | ha
  · rw [gdat s m hm] at ha; subst ha; exact hb
  · exact h a ha
theorem trim_end {s : ByteArray} {k m : Nat} (hk : k ≤ m) (hm : m ≤ s.size) (hA : ∀ a ∈ s.data.toList.take k, spU a = true) (hC : ∀ a ∈ s.data.toList.drop m, spU a = true)
    (h1 : ∀ h : k < s.size, spaB (s[k].toNat : Int) = false) (h2 : ∀ h : k < m, spaB (s[m - 1].toNat : Int) = false) : s.extract k m = mkS (trimL s.data.toList) := by
  apply mkS_of
  rw [Lib.extract_data]
  have hl := Lib.size_eq s
  refine trim_at _ k m hk (by omega) hA hC (fun h => ?_) (fun h => ?_)
  · rw [gdat s k (by omega)]; exact h1 _
  · rw [gdat s (m - 1) (by omega)]; exact h2 h

theorem bcons (t : ByteArray) (h : 0 < t.size) : t.data.toList = t[0] :: t.data.toList.drop 1 := by
  have := List.drop_eq_getElem_cons (l := t.data.toList) (i := 0) (by rw [← Lib.size_eq]; exact h)
  rw [gdat t 0 h] at this
  simpa using this
theorem bsnoc (t : ByteArray) (h : 0 < t.size) : t.data.toList = t.data.toList.take (t.size - 1) ++ [t[t.size - 1]] := by
  have hl := Lib.size_eq t
  have := List.take_succ_eq_append_getElem (l := t.data.toList) (i := t.size - 1) (by omega)
  rw [gdat t (t.size - 1) (by omega), show t.size - 1 + 1 = t.size by omega, List.take_of_length_le (by omega)] at this
  exact this

def RelA (l : List UInt8) (t : ByteArray) : Prop := ∃ A, l = A ++ t.data.toList ∧ ∀ a ∈ A, spU a = true
def RelC (l : List UInt8) (t : ByteArray) : Prop := ∃ A C, l = A ++ t.data.toList ++ C ∧ (∀ a ∈ A, spU a = true) ∧ (∀ a ∈ C, spU a = true) ∧ ∀ h : 0 < t.size, spaB (t[0].toNat : Int) = false
theorem relA_size {l : List UInt8} {t : ByteArray} (h : RelA l t) : t.size ≤ l.length := by
  obtain ⟨A, e, _⟩ := h; rw [Lib.size_eq, e]; simp
theorem relC_size {l : List UInt8} {t : ByteArray} (h : RelC l t) : t.size ≤ l.length := by
  obtain ⟨A, C, e, _⟩ := h; rw [Lib.size_eq, e]; simp; omega
theorem relA_step {l : List UInt8} {t : ByteArray} (h : RelA l t) (hp : 0 < t.size) (hb : spaB (t[0].toNat : Int) = true) : RelA l (t.extract 1 t.size) := by
  obtain ⟨A, e, hA⟩ := h
  refine ⟨A ++ [t[0]], ?_, ?_⟩
  · rw [Lib.extract_to_end, e, bcons t hp]; simp
  · intro a ha
    rcases List.mem_append.1 ha with ha | ha
    · exact hA a ha
    · have : a = t[0] := List.mem_singleton.1 ha
      subst this; exact hb
theorem relA_end {l : List UInt8} {t : ByteArray} (h : RelA l t) (hx : ∀ h : 0 < t.size, spaB (t[0].toNat : Int) = false) : RelC l t := by
  obtain ⟨A, e, hA⟩ := h
  exact ⟨A, [], by simp [e], hA, by simp, hx⟩
theorem relC_step {l : List UInt8} {t : ByteArray} (h : RelC l t) (hp : 0 < t.size) (hb : spaB (t[t.size - 1].toNat : Int) = true) : RelC l (t.extract 0 (t.size - 1)) := by
  obtain ⟨A, C, e, hA, hC, h0⟩ := h
  have ed : (t.extract 0 (t.size - 1)).data.toList = t.data.toList.take (t.size - 1) := by rw [Lib.extract_data]; simp
  refine ⟨A, t[t.size - 1] :: C, ?_, hA, ?_, ?_⟩
  · rw [ed, e]
    conv => lhs; rw [bsnoc t hp]
    simp
  · intro a ha
    rcases List.mem_cons.1 ha with ha | ha
    · subst ha; exact hb
    · exact hC a ha
  · intro hq
    have hl := Lib.size_eq t
    have hq2 : 0 < (t.extract 0 (t.size - 1)).data.toList.length := by rw [← Lib.size_eq]; exact hq
    have hs1 : 0 < t.size - 1 := by rw [ed, List.length_take] at hq2; omega
    have : (t.extract 0 (t.size - 1))[0] = t[0] := by
      rw [← gdat _ 0 hq, ← gdat t 0 hp]
      simp only [ed]
      rw [List.getElem_take]
    rw [this]; exact h0 hp
theorem relC_end {l : List UInt8} {t : ByteArray} (h : RelC l t) (hx : ∀ h : 0 < t.size, spaB (t[t.size - 1].toNat : Int) = false) : t = mkS (trimL l) := by
  obtain ⟨A, C, e, hA, hC, h0⟩ := h
  have hl := Lib.size_eq t
  apply mkS_of
  rw [e, trim_of A t.data.toList C hA hC ?_ ?_]
  · intro b hb
    rw [List.head?_eq_getElem?] at hb
    by_cases hp : 0 < t.size
    · rw [Lib.data_getElem? t 0 hp] at hb; cases hb; exact h0 hp
    · rw [List.getElem?_eq_none (by omega)] at hb; cases hb
  · intro b hb
    rw [List.getLast?_eq_getElem?, ← hl] at hb
    by_cases hp : 0 < t.size
    · rw [Lib.data_getElem? t (t.size - 1) (by omega)] at hb; cases hb; exact hx hp
    · rw [List.getElem?_eq_none (by omega)] at hb; cases hb

def strOf : Value → ByteArray | .string s => s | _ => ByteArray.empty

end Go.Proofs.YtbimncnicioagaaDoor.Ch
namespace Go.Proofs.YtbimncnicioagaaDoor.Ch
open Go.RowKit
set_option linter.unusedSimpArgs false
set_option linter.unusedVariables false

def vs (ss : List (List UInt8)) : List Value := ss.map (fun l => .string (mkS l))
theorem vs_len (ss : List (List UInt8)) : (vs ss).length = ss.length := by simp [vs]
theorem vs_app (a b : List (List UInt8)) : vs (a ++ b) = vs a ++ vs b := by simp [vs]
/-- the call hands back a slice of its own, of just these texts, and leaves what lies below B as it was -/
def Owned (B : Nat) (ss : List (List UInt8)) (w : World) (e : Ending) (w' : World) : Prop := ∃ v, e = .returned v ∧ w'.ownsRow B 9 1 v ss.length (vs ss) ∧ Below B w w' 

theorem info9 : (Tryd.prog.info? 9).map (fun i => (i.zero, i.size, i.bytes)) = some (some (.string ByteArray.empty), 1, 16) := by kernel_rfl

theorem str_empty (l : List UInt8) : (mkS l).toList = l := by rw [Lib.toList_data, data_mkS]

/-- what the loop of Fields keeps: what has been gathered, and what is left -/
def FRel (B : Nat) (c : UInt8) (l : List UInt8) (w : World) (v0 v : Value) (wr : World) : Prop :=
  ∃ (t : ByteArray) (ss : List (List UInt8)), v0 = .string t ∧ t.size ≤ l.length ∧ ss.length + t.size ≤ l.length ∧ ss ++ fieldsL c t.data.toList = fieldsL c l ∧ wr.ownsRow B 9 1 v ss.length (vs ss) ∧ Below B w wr ∧ B ≤ wr.heap.size

theorem frel_step {B : Nat} {c : UInt8} {l : List UInt8} {w wr w1 : World} {v' : Value} {t : ByteArray} {ss : List (List UInt8)} {k : Nat} (hk : k < t.size)
    (h2 : ss.length + t.size ≤ l.length) (h3 : ss ++ fieldsL c t.data.toList = fieldsL c l) (h5 : Below B w wr) (h6 : B ≤ wr.heap.size)
    (hn : ¬ c ∈ t.data.toList.take k) (h4 : t.data.toList = t.data.toList.take k ++ c :: t.data.toList.drop (k + 1))
    (hO : w1.ownsRow B 9 1 v' (ss ++ keepL (t.extract 0 k).data.toList).length (vs (ss ++ keepL (t.extract 0 k).data.toList))) (hb : Below B wr w1) : FRel B c l w (.string (t.extract (k + 1) t.size)) v' w1 := by
  have e0 : (t.extract 0 k).data.toList = t.data.toList.take k := by rw [Lib.extract_data]; simp
  have hz : (t.extract (k + 1) t.size).size = t.size - (k + 1) := by rw [Lib.size_eq, Lib.extract_to_end, List.length_drop, ← Lib.size_eq]
  rw [e0] at hO
  refine ⟨_, ss ++ keepL (t.data.toList.take k), rfl, by omega, ?_, ?_, hO, h5.trans hb, Nat.le_trans h6 hb.size⟩
  · rw [List.length_append, hz]; have := keepL_len (t.data.toList.take k); omega
  · rw [Lib.extract_to_end, List.append_assoc, ← h3, ← fields_at c _ _ hn, ← h4]
theorem frel_end {B : Nat} {c : UInt8} {l : List UInt8} {w wr w1 : World} {v' : Value} {t : ByteArray} {ss : List (List UInt8)}
    (h3 : ss ++ fieldsL c t.data.toList = fieldsL c l) (h5 : Below B w wr) (hn : ¬ c ∈ t.data.toList)
    (hO : w1.ownsRow B 9 1 v' (ss ++ keepL t.data.toList).length (vs (ss ++ keepL t.data.toList))) (hb : Below B wr w1) : Owned B (fieldsL c l) w (.returned v') w1 := by
  rw [← fields_none c _ hn, h3] at hO
  exact ⟨v', rfl, hO, h5.trans hb⟩

end Go.Proofs.YtbimncnicioagaaDoor.Ch
namespace Go.Proofs.YtbimncnicioagaaDoor.Ch
open Go.RowKit
set_option linter.unusedSimpArgs false
set_option linter.unusedVariables false

theorem byte_dec (b : UInt8) (c : Int) (h0 : 0 ≤ c) (h1 : c ≤ 255) : ((b.toNat : Int) == c) = decide (b = c.toNat.toUInt8) := by
  rw [Bool.eq_iff_iff]
  simp only [beq_iff_eq, decide_eq_true_eq]
  constructor
  · intro h; subst h; simp
  · intro h; subst h
    have : c.toNat < 256 := by omega
    simp [Nat.mod_eq_of_lt this]; omega

/-- what the loop of Cut keeps behind k bytes -/
def CRel (B : Nat) (c : UInt8) (l : List UInt8) (w : World) (k : Nat) (v u : Value) (wr : World) : Prop :=
  ∃ (ss : List (List UInt8)) (t : ByteArray), cutF c (l.take k) = (ss, t.data.toList) ∧ u = .string t ∧ t.size ≤ k ∧ ss.length ≤ k ∧ wr.ownsRow B 9 1 v ss.length (vs ss) ∧ Below B w wr ∧ B ≤ wr.heap.size

theorem cutF_snoc (c : UInt8) (l : List UInt8) (b : UInt8) : cutF c (l ++ [b]) = cutStep c (cutF c l) b := by unfold cutF; rw [List.foldl_append]; rfl
theorem take_snoc {s : ByteArray} {k : Nat} (hk : k < s.size) : s.data.toList.take (k + 1) = s.data.toList.take k ++ [s[k]] := by
  rw [List.take_succ_eq_append_getElem (by rw [← Lib.size_eq]; exact hk), gdat s k hk]

theorem app_data (a b : ByteArray) : (a ++ b).data.toList = a.data.toList ++ b.data.toList := by simp
theorem one_data {s : ByteArray} {k : Nat} (hk : k < s.size) : (s.extract k (k + 1)).data.toList = [s[k]] := by
  rw [Lib.extract_data, List.drop_eq_getElem_cons (by rw [← Lib.size_eq]; exact hk), gdat s k hk, show k + 1 - k = 1 by omega]; rfl
theorem crel_no {B : Nat} {c : UInt8} {s t : ByteArray} {w wr : World} {k : Nat} {v : Value} {ss : List (List UInt8)} (hk : k < s.size) (ht : t.size ≤ k) (hss : ss.length ≤ k)
    (hc : cutF c (s.data.toList.take k) = (ss, t.data.toList)) (hO : wr.ownsRow B 9 1 v ss.length (vs ss)) (hB : Below B w wr) (hz : B ≤ wr.heap.size) (hn : ¬ s[k] = c) :
    CRel B c s.data.toList w (k + 1) v (.string (t ++ s.extract k (k + 1))) wr := by
  refine ⟨ss, _, ?_, rfl, ?_, by omega, hO, hB, hz⟩
  · rw [take_snoc hk, cutF_snoc, hc, app_data, one_data hk]
    unfold cutStep
    rw [if_neg hn]
  · rw [Lib.size_eq, app_data, one_data hk, List.length_append, ← Lib.size_eq]; simp; omega

/-- what the loop of the document's Fields keeps behind k parts -/
def PRel (B : Nat) (ps : List (List UInt8)) (w : World) (k : Nat) (v : Value) (wr : World) : Prop :=
  wr.ownsRow B 9 1 v (keepsL (ps.take k)).length (vs (keepsL (ps.take k))) ∧ Below B w wr ∧ B ≤ wr.heap.size

theorem cutF_part (c : UInt8) (l : List UInt8) (N : Nat) : ∀ A W, (∀ p ∈ A, p.length ≤ N) → W.length + l.length ≤ N → (∀ p ∈ (l.foldl (cutStep c) (A, W)).1, p.length ≤ N) ∧ (l.foldl (cutStep c) (A, W)).2.length ≤ N := by
  induction l with
  | nil => intro A W h1 h2; exact ⟨h1, by simpa using h2⟩
  | cons b l ih =>
    intro A W h1 h2
    rw [List.foldl_cons]
    rw [List.length_cons] at h2
    by_cases h : b = c
    · have e : cutStep c (A, W) b = (A ++ [W], []) := by unfold cutStep; rw [if_pos h]
      rw [e]
      refine ih _ _ (fun p hp => ?_) (by simp; omega)
      rcases List.mem_append.1 hp with hp | hp
      · exact h1 p hp
      · rw [List.mem_singleton.1 hp]; omega
    · have e : cutStep c (A, W) b = (A, W ++ [b]) := by unfold cutStep; rw [if_neg h]
      rw [e]
      exact ih _ _ h1 (by simp; omega)
theorem cutL_part (c : UInt8) (l : List UInt8) : ∀ p ∈ cutL c l, p.length ≤ l.length := by
  intro p hp
  have h := cutF_part c l l.length [] [] (by simp) (by simp)
  unfold cutL cutF at hp
  rcases List.mem_append.1 hp with hp | hp
  · exact h.1 p hp
  · rw [List.mem_singleton.1 hp]; exact h.2

theorem keeps_snoc (ps : List (List UInt8)) (k : Nat) (h : k < ps.length) : keepsL (ps.take (k + 1)) = keepsL (ps.take k) ++ keepL ps[k] := by
  unfold keepsL; rw [List.take_succ_eq_append_getElem h, List.flatMap_append, List.flatMap_singleton]

theorem cell_of_owned {w : World} {B g cap : Nat} {ps : List (List UInt8)} (h : w.ownsRow B 9 1 (.slice (some ⟨g, 0, none⟩) ps.length cap) ps.length (vs ps)) (k : Nat) (hk : k < ps.length) :
    w.cell? ⟨g, k, none⟩ = some (.string (mkS ps[k])) := by
  rw [h.cellAt k (by omega)]
  simp [vs, hk]

end Go.Proofs.YtbimncnicioagaaDoor.Ch
