/- What lies while package note's Step gives numbers: a row whose elements get a number and a revision, one behind the other; no walk. -/
import Derived.Test.YtneogelhdikcaaaNtG
namespace Go.Proofs.Ytneogelhdikcaaa.Nt
open Go.RowKit Go.Lib Go.Maps
set_option linter.unusedSimpArgs false
set_option linter.unusedVariables false

theorem OwW.at {B k n : Nat} {v : Value} {cs : List Value} {w : World} (h : OwW B k n v cs w) (h0 : 0 < n) : ∃ g o cap, v = .slice (some ⟨g, o, none⟩) n cap ∧ n ≤ cap ∧ B ≤ g ∧ g < w.heap.size ∧ w.rangeAt g o cs ∧ w.there g o (n * k) := by
  obtain ⟨_, ao, cap, rfl, hc, h⟩ := h
  rcases h with ⟨rfl, h1⟩ | ⟨g, o, rfl, h1, h2, h5, h6⟩
  · omega
  · exact ⟨g, o, cap, rfl, hc, h1, h2, h5, h6⟩
theorem OwW.set2 {B : Nat} {L : List Ent} {g o cap : Nat} {W : World} (h : OwW B 4 L.length (.slice (some ⟨g, o, none⟩) L.length cap) (eC L) W) {j : Nat} (hj : j < L.length) (s r : Int) :
    OwW B 4 L.length (.slice (some ⟨g, o, none⟩) L.length cap) (eC (L.set j (s, r, L[j].2.2))) (W.setCells g (o + j * 4) [.int .i64 s, .int .i64 r]) := by
  obtain ⟨h0, ao, cap', e, hc, h⟩ := h
  injection e with e1 e2 e3
  subst e1 e3
  rcases h with ⟨e, h1⟩ | ⟨g', o', e, h1, h2, h5, h6⟩
  · cases e
  · injection e with e
    injection e with e1 e2
    subst e1 e2
    refine ⟨by rw [eC_len, List.length_set], _, _, rfl, hc, .inr ⟨g, o, rfl, h1, by rw [size_sets]; exact h2, fun i u hu => ?_, World.there_setCells h6 _ _ _⟩⟩
    rw [eC_set L j L[j] s r (List.getElem?_eq_getElem hj)] at hu
    have hl := eC_len L
    by_cases hi : i < j * 4 ∨ j * 4 + 2 ≤ i
    · rw [World.cell?_setCells_out _ _ _ _ _ (fun _ _ => by simp only; simp; omega)]
      refine h5 i u ?_
      rw [List.getElem?_set_ne (by omega), List.getElem?_set_ne (by omega)] at hu
      exact hu
    · have hs := World.rangeAt_setCells_same W g (o + j * 4) [.int .i64 s, .int .i64 r] (fun q hq => by
        have := h6 (j * 4 + q) (by simp at hq; omega)
        rwa [← Nat.add_assoc] at this)
      rcases (show i = j * 4 ∨ i = j * 4 + 1 by omega) with rfl | rfl
      · rw [List.getElem?_set_ne (by omega), List.getElem?_set_self (by rw [hl]; omega)] at hu
        have := hs 0 _ rfl
        rw [Nat.add_zero] at this
        rw [this]; exact hu
      · rw [List.getElem?_set_self (by rw [List.length_set, hl]; omega)] at hu
        have := hs 1 _ rfl
        rw [show o + (j * 4 + 1) = o + j * 4 + 1 by omega, this]; exact hu
/-- the first j have their numbers -/
def half (rev : Int) (n : Nat) (tl : List TB) (j : Nat) : List Ent := nums rev n (tl.take j) ++ bare (tl.drop j)
theorem half_len (rev : Int) (n : Nat) (tl : List TB) (j : Nat) : (half rev n tl j).length = tl.length := by
  unfold half
  rw [List.length_append, nums_len, bare_len, List.length_take, List.length_drop]; omega
theorem half_zero (rev : Int) (n : Nat) (tl : List TB) : half rev n tl 0 = bare tl := by simp [half, nums]
theorem half_all (rev : Int) (n : Nat) (tl : List TB) : half rev n tl tl.length = nums rev n tl := by simp [half, bare]
theorem half_at {rev : Int} {n : Nat} {tl : List TB} {j : Nat} (hj : j < tl.length) : (half rev n tl j)[j]'(by rw [half_len]; exact hj) = (0, 0, tl[j].1, tl[j].2) := by
  have h : (half rev n tl j)[j]? = some (0, 0, tl[j].1, tl[j].2) := by
    unfold half
    have hl : (nums rev n (tl.take j)).length = j := by rw [nums_len, List.length_take]; omega
    rw [List.getElem?_append_right (by rw [hl]; exact Nat.le_refl _), hl, Nat.sub_self]
    simp [bare, List.getElem?_drop, List.getElem?_eq_getElem hj]
  rw [List.getElem?_eq_getElem (by rw [half_len]; exact hj)] at h
  exact Option.some.inj h
theorem half_succ {rev : Int} {n : Nat} {tl : List TB} {j : Nat} (hj : j < tl.length) : half rev n tl (j + 1) = (half rev n tl j).set j ((n : Int) + (j : Int) + 1, rev, tl[j].1, tl[j].2) := by
  unfold half
  have hl : (nums rev n (tl.take j)).length = j := by rw [nums_len, List.length_take]; omega
  have e : bare (tl.drop j) = (0, 0, tl[j].1, tl[j].2) :: bare (tl.drop (j + 1)) := by rw [List.drop_eq_getElem_cons hj]; rfl
  rw [List.set_append_right _ _ (by rw [hl]; exact Nat.le_refl _), hl, Nat.sub_self, e, List.set_cons_zero, List.take_succ_eq_append_getElem hj, nums_app, List.length_take, show min j tl.length = j by omega]
  simp [nums]
theorem round_ob {B c : Nat} {gb mb : Option Nat} {m : Int} {now : List Tx} {E : List Ent} {fl la : Int} {W : World} (h : IsOb B c gb mb m now E fl la W) (g o : Nat) (vs : List Value) (hgc : g ≠ c) (hgb : gb ≠ some g) (hmb : mb ≠ some g) :
    IsOb B c gb mb m now E fl (la + 1) ((W.setCell ⟨c, 4, none⟩ (.int .i64 (la + 1))).setCells g o vs) ∧ Ch c (some g) W ((W.setCell ⟨c, 4, none⟩ (.int .i64 (la + 1))).setCells g o vs) := by
  have hC : Ch c (some g) W ((W.setCell ⟨c, 4, none⟩ (.int .i64 (la + 1))).setCells g o vs) := (Ch.set _ _ _).tr (Ch.sets _ _ _)
  refine ⟨?_, hC⟩
  obtain ⟨v, hv, ho, e⟩ := h.ex
  have hcl := h.lt
  refine ⟨⟨v, ?_, ho.kept hC.size (fun q hq => hC.block q (ho.lt q hq).2 (fun e2 => h.ne (by rw [← e, hq, e2])) (fun e2 => hgb (by rw [← e, hq, e2]))), e⟩, h.ne, h.mne, h.ap, h.mp.keep (fun q hq => hC.block q (h.mp.lt q hq) (fun e2 => h.mne (by rw [hq, e2])) (fun e2 => hmb (by rw [hq, e2]))), h.mB⟩
  rw [World.heap_setCells_other _ _ _ _ (by rw [size_set]; exact hcl) (fun e => hgc e.symm)]
  simpa using blk_set hv 4 (.int .i64 (la + 1))
end Go.Proofs.Ytneogelhdikcaaa.Nt
