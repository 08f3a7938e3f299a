/- Plain mathematics of JSON's tokens, first part: rows of bytes of one kind, and where they end; no program. -/
import Derived.Test.YtpgllcdcpdeicaaGreatDoorChBytes
namespace Go.Proofs.YtpgllcdcpdeicaaGreatDoor.Jt
set_option linter.unusedSimpArgs false
set_option linter.unusedVariables false

def nb (c : UInt8) : Int := (c.toNat : Int)
theorem nb_bd (c : UInt8) : 0 ≤ nb c ∧ nb c ≤ 255 := by unfold nb; have := c.toNat_lt; omega
theorem nb_inj {a b : UInt8} (h : nb a = nb b) : a = b := by unfold nb at h; exact UInt8.toNat_inj.1 (by omega)
def blkB (c : UInt8) : Bool := decide (nb c = 32 ∨ nb c = 9 ∨ nb c = 10 ∨ nb c = 13)
def wordB (c : UInt8) : Bool := Ch.letB (nb c) || Ch.digB (nb c)
def numB (c : UInt8) : Bool := wordB c || decide (nb c = 43 ∨ nb c = 45 ∨ nb c = 46)
def plnB (c : UInt8) : Bool := decide (32 ≤ nb c ∧ nb c ≠ 34 ∧ nb c ≠ 92)
/-- where the longest row of such bytes ends that begins at a place -/
def endP (p : UInt8 → Bool) (l : List UInt8) (k : Nat) : Nat := k + ((l.drop k).takeWhile p).length
theorem drop_at {l : List UInt8} {k : Nat} (h : k < l.length) : l.drop k = l[k] :: l.drop (k + 1) := List.drop_eq_getElem_cons h
theorem endP_yes {p : UInt8 → Bool} {l : List UInt8} {k : Nat} (h : k < l.length) (hp : p l[k] = true) : endP p l (k + 1) = endP p l k := by
  unfold endP; rw [drop_at h, List.takeWhile_cons, if_pos hp, List.length_cons]; omega
theorem endP_no {p : UInt8 → Bool} {l : List UInt8} {k : Nat} (h : k < l.length) (hp : p l[k] = false) : endP p l k = k := by
  unfold endP; rw [drop_at h, List.takeWhile_cons, if_neg (by simp [hp])]; rfl
theorem endP_end {p : UInt8 → Bool} {l : List UInt8} {k : Nat} (h : l.length ≤ k) : endP p l k = k := by
  unfold endP; rw [List.drop_eq_nil_of_le h]; rfl
theorem endP_ge (p : UInt8 → Bool) (l : List UInt8) (k : Nat) : k ≤ endP p l k := by unfold endP; omega
theorem endP_le {p : UInt8 → Bool} {l : List UInt8} {k : Nat} (h : k ≤ l.length) : endP p l k ≤ l.length := by
  unfold endP
  have := (List.takeWhile_prefix p (l := l.drop k)).length_le
  rw [List.length_drop] at this
  omega
theorem endP_all {p : UInt8 → Bool} {l : List UInt8} : ∀ {k j : Nat}, k ≤ j → j < endP p l k → ∃ h : j < l.length, p l[j] = true := by
  intro k j hk hj
  obtain ⟨d, rfl⟩ : ∃ d, j = k + d := ⟨j - k, by omega⟩
  induction d generalizing k with
  | zero =>
    have hl : k < l.length := by
      rcases Nat.lt_or_ge k l.length with h | h
      · exact h
      · rw [endP_end h] at hj; omega
    refine ⟨hl, ?_⟩
    cases e : p l[k] with
    | true => rfl
    | false => rw [endP_no hl e] at hj; omega
  | succ d ih =>
    have hl : k < l.length := by
      rcases Nat.lt_or_ge k l.length with h | h
      · exact h
      · rw [endP_end h] at hj; omega
    cases e : p l[k] with
    | true =>
      have := ih (k := k + 1) (by omega) (by rw [endP_yes hl e]; omega)
      rw [show k + 1 + d = k + (d + 1) by omega] at this
      simpa only [show k + 1 + d = k + (d + 1) by omega] using this
    | false => rw [endP_no hl e] at hj; omega
theorem endP_from {p : UInt8 → Bool} {l : List UInt8} {k : Nat} : ∀ {j : Nat}, k ≤ j → j ≤ endP p l k → endP p l j = endP p l k := by
  intro j hk hj
  obtain ⟨d, rfl⟩ : ∃ d, j = k + d := ⟨j - k, by omega⟩
  induction d with
  | zero => rfl
  | succ d ih =>
    obtain ⟨h1, h2⟩ := endP_all (p := p) (l := l) (k := k) (j := k + d) (by omega) (by omega)
    rw [show k + (d + 1) = k + d + 1 by omega, endP_yes h1 h2]
    exact ih (by omega) (by omega)
theorem endP_stop {p : UInt8 → Bool} {l : List UInt8} {k : Nat} (h : endP p l k < l.length) : p l[endP p l k] = false := by
  cases e : p l[endP p l k] with
  | false => rfl
  | true =>
    have h1 := endP_yes h e
    rw [endP_from (endP_ge p l k) (Nat.le_refl _)] at h1
    have h2 := endP_ge p l (endP p l k + 1)
    omega
/-- the bytes from one place up to another one -/
def cutL (l : List UInt8) (a b : Nat) : List UInt8 := (l.drop a).take (b - a)
theorem cutL_len {l : List UInt8} {a b : Nat} (hb : b ≤ l.length) : (cutL l a b).length = b - a := by unfold cutL; rw [List.length_take, List.length_drop]; omega
theorem cutL_get {l : List UInt8} {a b j : Nat} (hb : b ≤ l.length) (h : j < (cutL l a b).length) : (cutL l a b)[j] = l[a + j]'(by rw [cutL_len hb] at h; omega) := by
  have h' : j < ((l.drop a).take (b - a)).length := h
  show ((l.drop a).take (b - a))[j]'h' = _
  rw [List.getElem_take, List.getElem_drop]
theorem extract_cut (s : ByteArray) (a b : Nat) : (s.extract a b).data.toList = cutL s.data.toList a b := by rw [Lib.extract_data]; rfl
end Go.Proofs.YtpgllcdcpdeicaaGreatDoor.Jt
