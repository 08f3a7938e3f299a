/- Pages of a range, plain; no walk. -/
import Derived.Test.YtjceofkcahfhmaaMvEl
namespace Go.Proofs.Ytjceofkcahfhmaa.Mv
open Go.RowKit Go.Lib Go.Maps Go.Shelf Go.Sort
open Go.Proofs.Ytjceofkcahfhmaa.Cn
set_option linter.unusedSimpArgs false
set_option linter.unusedVariables false

theorem pg_take (n : Nat) : ∀ (F acc : List ItT), acc.length ≤ n → pg (n : Int) F acc = (acc ++ F.take (n - acc.length), decide (n < acc.length + F.length))
  | [], acc, h => by
    unfold pg
    have : ¬ n < acc.length + 0 := by omega
    simp [this]; omega
  | x :: xs, acc, h => by
    unfold pg
    by_cases hn : n ≤ acc.length
    · rw [if_pos (by omega)]
      have e : n - acc.length = 0 := by omega
      rw [e, List.take_zero, List.append_nil]
      have : n < acc.length + (x :: xs).length := by rw [List.length_cons]; omega
      rw [decide_eq_true this]
    · rw [if_neg (by omega), pg_take n xs (acc ++ [x]) (by rw [List.length_append, List.length_cons, List.length_nil]; omega)]
      have e : n - acc.length = (n - (acc ++ [x]).length) + 1 := by rw [List.length_append, List.length_cons, List.length_nil]; omega
      rw [e, List.take_succ_cons, List.append_assoc]
      congr 1
      rw [List.length_append, List.length_cons, List.length_nil, List.length_cons]
      congr 1
      exact propext ⟨fun _ => by omega, fun _ => by omega⟩
/-- all items of a prefix -/
def allP (X : Sx) (p a : ByteArray) : List ItT := (lastA X.A).filter fun x => inB p a x.1
theorem rgW_rev {n : Nat} {X : Sx} (h : Pln n X) (p a : ByteArray) (m : Nat) : rgW X.A X.fl p a m X.rev = ((allP X p a).take m, decide (m < (allP X p a).length), 0) := by
  have r0 : refE (revA X.A) X.fl X.rev = 0 := by unfold refE; rw [h.hA, if_neg (by have := h.h0; have := h.h1; omega), if_neg (by have := h.h1; omega)]
  have hg : X.A.getD X.rev.toNat [] = lastA X.A := lastA_get (by have := h.len; have := h.h0; have := h.h1; omega)
  unfold rgW
  rw [r0, if_neg (by decide), hg, rgD_pg, pg_take m _ [] (Nat.zero_le _)]
  simp only [List.nil_append, List.length_nil, Nat.sub_zero, Nat.zero_add]
  rfl
theorem srt_drop {l : List ItT} (h : l.Pairwise (fun a b => kyI a < kyI b)) {t : Nat} (ht : t < l.length) : (l.filter fun x => gtB x.1 l[t].1) = l.drop (t + 1) := by
  have hsp : l.take (t + 1) ++ l.drop (t + 1) = l := List.take_append_drop _ _
  have hpw := List.pairwise_iff_getElem.1 h
  have h1 : (l.take (t + 1)).filter (fun x => gtB x.1 l[t].1) = [] := by
    rw [List.filter_eq_nil_iff]
    intro x hx hg
    obtain ⟨i, hi, rfl⟩ := List.getElem_of_mem hx
    rw [List.length_take] at hi
    rw [List.getElem_take] at hg
    have hlt := (gt_iff _ _).1 hg
    by_cases hit : i = t
    · subst hit; exact klt_ne hlt rfl
    · have := hpw i t (by omega) ht (by omega)
      exact klt_ne (klt_trans hlt this) rfl
  have h2 : (l.drop (t + 1)).filter (fun x => gtB x.1 l[t].1) = l.drop (t + 1) := by
    rw [List.filter_eq_self]
    intro x hx
    obtain ⟨i, hi, rfl⟩ := List.getElem_of_mem hx
    rw [List.length_drop] at hi
    rw [List.getElem_drop]
    exact (gt_iff _ _).2 (hpw t (t + 1 + i) ht (by omega) (by omega))
  generalize l[t].1 = y at h1 h2
  have h3 : l.filter (fun x => gtB x.1 y) = (l.take (t + 1) ++ l.drop (t + 1)).filter (fun x => gtB x.1 y) := by rw [hsp]
  rw [h3, List.filter_append, h1, h2, List.nil_append]
theorem inB_nil (p x : ByteArray) : inB p ⟨#[]⟩ x = pfx p.data.toList x.data.toList := by
  unfold inB
  rw [show (⟨#[]⟩ : ByteArray).toList.isEmpty = true by simp [Lib.toList_data], Bool.true_or, Bool.and_true]
theorem allP_srt {n : Nat} {X : Sx} (h : Pln n X) (p a : ByteArray) : (allP X p a).Pairwise (fun a b => kyI a < kyI b) := h.last.so.filter _
theorem allP_len {n : Nat} {X : Sx} (h : Pln n X) (p a : ByteArray) : (allP X p a).length ≤ 6 * n := Nat.le_trans (List.length_filter_le _ _) h.lastLen
/-- what is behind the item at t -/
theorem allP_after {n : Nat} {X : Sx} (h : Pln n X) (p : ByteArray) {t : Nat} (ht : t < (allP X p ⟨#[]⟩).length) : allP X p (allP X p ⟨#[]⟩)[t].1 = (allP X p ⟨#[]⟩).drop (t + 1) := by
  rw [← srt_drop (allP_srt h p ⟨#[]⟩) ht]
  have hm : (allP X p ⟨#[]⟩)[t] ∈ lastA X.A := (List.mem_filter.1 (List.getElem_mem ht)).1
  have hne : kyI (allP X p ⟨#[]⟩)[t] ≠ [] := (h.kn _ (tells_key h.last h.dm hm)).1
  generalize (allP X p ⟨#[]⟩)[t] = y at hne
  have he : y.1.toList.isEmpty = false := by
    rw [Lib.toList_data]
    cases hy : y.1.data.toList with
    | nil => exact absurd hy hne
    | cons _ _ => rfl
  unfold allP
  rw [List.filter_filter]
  refine List.filter_congr fun x _ => ?_
  rw [inB_nil]
  unfold inB
  rw [he, Bool.false_or, Bool.and_comm]
end Go.Proofs.Ytjceofkcahfhmaa.Mv
