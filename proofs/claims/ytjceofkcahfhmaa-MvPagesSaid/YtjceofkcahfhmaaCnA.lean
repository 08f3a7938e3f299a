/- Versions as lists, plain: how many count at a revision, what is spare, rows of their cells; no condition. -/
import Derived.Test.YtjceofkcahfhmaaRows
import Derived.WalkKit
import Derived.WalkSpells
import Derived.Lib.Hide
import Derived.Laws.AppendOwn
import Derived.OwnWalk
namespace Go.Proofs.Ytjceofkcahfhmaa.Cn
open Go.RowKit
set_option linter.unusedSimpArgs false
set_option linter.unusedVariables false

abbrev Ver := Int × ByteArray × Bool
def encV (x : Ver) : List Value := [.int .i64 x.1, .string x.2.1, .bool x.2.2]
def aggV (x : Ver) : Value := .agg #[.int .i64 x.1, .string x.2.1, .bool x.2.2]
def cellsV (x : Ver) : Array Value := #[.int .i64 x.1, .string x.2.1, .bool x.2.2]
def vC (l : List Ver) : List Value := l.flatMap encV
theorem vC_len (l : List Ver) : (vC l).length = l.length * 3 := by
  induction l with
  | nil => rfl
  | cons x r ih => rw [show vC (x :: r) = encV x ++ vC r from rfl, List.length_append, ih]; simp [encV]; omega
theorem vC_at : ∀ (l : List Ver) (k : Nat) (hk : k < l.length), (vC l)[k * 3]? = some (.int .i64 l[k].1) ∧ (vC l)[k * 3 + 1]? = some (.string l[k].2.1) ∧ (vC l)[k * 3 + 2]? = some (.bool l[k].2.2)
  | [], k, hk => by simp at hk
  | x :: l, 0, _ => ⟨rfl, rfl, rfl⟩
  | x :: l, k + 1, hk => by
    have ih := vC_at l k (by simpa using hk)
    have e : vC (x :: l) = .int .i64 x.1 :: .string x.2.1 :: .bool x.2.2 :: vC l := rfl
    rw [e, show (k + 1) * 3 = k * 3 + 3 by omega]
    exact ih
theorem vC_app (a b : List Ver) : vC (a ++ b) = vC a ++ vC b := by unfold vC; rw [List.flatMap_append]
theorem vC_snoc (l : List Ver) (x : Ver) : vC (l ++ [x]) = vC l ++ encV x := by rw [vC_app]; simp [vC]
theorem vC_one (l : List Ver) : ∀ v ∈ vC l, v.oneCell' = true := fun v hv => by
  obtain ⟨x, _, hx⟩ := List.mem_flatMap.1 hv
  simp [encV] at hx
  rcases hx with rfl | rfl | rfl <;> rfl
theorem enc_ok (x : Ver) : ∀ u ∈ encV x, u.oneCell' = true := fun u hu => by
  simp [encV] at hu; rcases hu with rfl | rfl | rfl <;> rfl
/-- what counts: rising -/
def Asc (l : List Ver) : Prop := l.Pairwise (fun a b => a.1 < b.1)
/-- how many count from rev or below -/
def cnt (l : List Ver) (rev : Int) : Nat := l.countP fun x => decide (x.1 ≤ rev)
theorem cnt_le (l : List Ver) (rev : Int) : cnt l rev ≤ l.length := List.countP_le_length
theorem Asc.lt {l : List Ver} (h : Asc l) {i j : Nat} (hi : i < l.length) (hj : j < l.length) (hij : i < j) : l[i].1 < l[j].1 := List.pairwise_iff_getElem.1 h i j hi hj hij
theorem asc_tail {x : Ver} {l : List Ver} (h : Asc (x :: l)) : Asc l := (List.pairwise_cons.1 h).2
theorem Asc.drop {l : List Ver} (h : Asc l) (k : Nat) : Asc (l.drop k) := List.Pairwise.sublist (List.drop_sublist k l) h
/-- of a rising list those that count are the first ones -/
theorem cnt_iff : ∀ {l : List Ver} {rev : Int}, Asc l → ∀ {i : Nat} (hi : i < l.length), l[i].1 ≤ rev ↔ i < cnt l rev
  | [], _, _, i, hi => by simp at hi
  | x :: l, rev, h, i, hi => by
    have hx := (List.pairwise_cons.1 h).1
    by_cases hr : x.1 ≤ rev
    · have e : cnt (x :: l) rev = cnt l rev + 1 := by unfold cnt; rw [List.countP_cons_of_pos (by simpa using hr)]
      rw [e]
      cases i with
      | zero => simpa using hr
      | succ i =>
        have := cnt_iff (rev := rev) (asc_tail h) (i := i) (by simpa using hi)
        simp only [List.getElem_cons_succ]
        rw [this]; omega
    · have e : cnt (x :: l) rev = 0 := by
        unfold cnt
        rw [List.countP_eq_zero]
        intro y hy
        rcases List.mem_cons.1 hy with rfl | hy
        · simpa using hr
        · have := hx y hy; simp; omega
      rw [e]
      constructor
      · intro hle
        exfalso
        cases i with
        | zero => exact hr hle
        | succ i =>
          have hi' : i < l.length := by simpa using hi
          have := hx l[i] (List.getElem_mem hi')
          simp only [List.getElem_cons_succ] at hle
          omega
      · intro h0; omega
theorem cnt_take {l : List Ver} {rev : Int} (h : Asc l) (j : Nat) (hj : j ≤ l.length) : cnt (l.take j) rev = min j (cnt l rev) := by
  induction j with
  | zero => simp [cnt]
  | succ j ih =>
    have hlt : j < l.length := by omega
    have e : l.take (j + 1) = l.take j ++ [l[j]] := List.take_succ_eq_append_getElem hlt
    have e2 : cnt (l.take (j + 1)) rev = cnt (l.take j) rev + (if l[j].1 ≤ rev then 1 else 0) := by
      rw [e]; unfold cnt; rw [List.countP_append]; simp [List.countP_cons]
    rw [e2, ih (by omega)]
    have hi := cnt_iff (rev := rev) h hlt
    by_cases hr : l[j].1 ≤ rev
    · have := hi.1 hr; rw [if_pos hr]; omega
    · have : ¬ j < cnt l rev := fun g => hr (hi.2 g)
      rw [if_neg hr]; omega
/-- how many tell nothing from rev on -/
def goneAt (l : List Ver) (i : Nat) : Bool := match l[i]? with | some x => x.2.2 | none => false
def spr (l : List Ver) (rev : Int) : Nat := if cnt l rev = 0 then 0 else if goneAt l (cnt l rev - 1) = true then cnt l rev else cnt l rev - 1
theorem spr_le (l : List Ver) (rev : Int) : spr l rev ≤ cnt l rev := by unfold spr; split <;> (try split) <;> omega
theorem gone_at {l : List Ver} {i : Nat} (hi : i < l.length) : goneAt l i = l[i].2.2 := by unfold goneAt; rw [List.getElem?_eq_getElem hi]
/-- what counts at a revision, if it is there -/
def zeroV : Ver := (0, ByteArray.empty, false)
def atB (l : List Ver) (rev : Int) : Bool := decide (0 < cnt l rev) && !goneAt l (cnt l rev - 1)
def atV (l : List Ver) (rev : Int) : Ver := if atB l rev = true then l.getD (cnt l rev - 1) zeroV else zeroV
/-- what stands behind a compaction -/
def cmp (l : List Ver) (rev : Int) : List Ver := l.drop (spr l rev)
theorem cmp_asc {l : List Ver} (h : Asc l) (rev : Int) : Asc (cmp l rev) := h.drop _
theorem cmp_len (l : List Ver) (rev : Int) : (cmp l rev).length = l.length - spr l rev := by unfold cmp; simp
/-- why a version can't be put: 1, 10; or 0 -/
def putE (l : List Ver) (v : Ver) : Int := if v.1 < 1 ∨ 9007199254740991 < v.1 then 1 else if l.any (fun x => decide (v.1 ≤ x.1)) = true then 10 else 0
def putL (l : List Ver) (v : Ver) : List Ver := if putE l v = 0 then l ++ [v] else l
theorem any_last {l : List Ver} (h : Asc l) (r : Int) (hl : 0 < l.length) : l.any (fun x => decide (r ≤ x.1)) = decide (r ≤ (l[l.length - 1]'(by omega)).1) := by
  rw [Bool.eq_iff_iff]
  simp only [List.any_eq_true, decide_eq_true_eq]
  constructor
  · rintro ⟨x, hx, hr⟩
    obtain ⟨i, hi, rfl⟩ := List.getElem_of_mem hx
    rcases Nat.lt_or_ge i (l.length - 1) with g | g
    · have := h.lt hi (show l.length - 1 < l.length by omega) g; omega
    · have e : i = l.length - 1 := by omega
      subst e; exact hr
  · intro hr
    exact ⟨_, List.getElem_mem _, hr⟩
theorem putL_asc {l : List Ver} (h : Asc l) (v : Ver) : Asc (putL l v) := by
  unfold putL
  split
  · rename_i he
    unfold putE at he
    split at he
    · omega
    · split at he
      · omega
      · rename_i _ hn
        unfold Asc
        rw [List.pairwise_append]
        refine ⟨h, List.pairwise_singleton _ _, fun a ha b hb => ?_⟩
        rw [List.mem_singleton.1 hb]
        simp only [List.any_eq_true, decide_eq_true_eq, not_exists, not_and] at hn
        have := hn a ha
        omega
  · exact h
theorem putL_len (l : List Ver) (v : Ver) : (putL l v).length ≤ l.length + 1 := by unfold putL; split <;> simp
end Go.Proofs.Ytjceofkcahfhmaa.Cn
