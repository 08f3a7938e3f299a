/- The law's step at any call; what a compaction leaves, plain; no other condition. -/
import Derived.Test.YtfilammedofdoaaCnT
namespace Go.Proofs.Ytfilammedofdoaa.Cn
open Go.RowKit Go.Lib Go.Shelf Go.Sort
set_option linter.unusedSimpArgs false
set_option linter.unusedVariables false

theorem step_c {N c : Nat} {gb : Option Nat} {l : List Ver} {w W : World} (h : Kc N c gb l w W) (hb : Bnd l) (sv : Value) (hO : OwV 27 w.heap.size sv l W) (o : OpT) (hN : N + 1 ≤ 1000000) :
    Calls Try.prog 7 #[.pointer (some ⟨c, 0, none⟩), sv, opV o] W (StQ N c l o w) := by
  obtain ⟨k, v, b, r⟩ := o
  by_cases hk : k = 0 ∨ k = 1 ∨ k = 2
  · cases b with
    | false => exact step_put1 h sv hO k v r hN hk
    | true =>
      by_cases hl : 0 < l.length
      · exact step_put3 h sv hO k v r hN hk hl hb
      · exact step_put2 h sv hO k v r hN hk (List.eq_nil_of_length_eq_zero (by omega))
  · by_cases hk3 : k = 3
    · subst hk3; exact step_com h sv hO v b r hN
    · exact step_none h sv hO k v b r hk hk3
/-- the versions behind the first j calls -/
def runL (ts : List OpT) (j : Nat) : List Ver := (ts.take j).foldl stepL []
theorem runL_zero (ts : List OpT) : runL ts 0 = [] := rfl
theorem runL_succ {ts : List OpT} {j : Nat} (hj : j < ts.length) : runL ts (j + 1) = stepL (runL ts j) ts[j] := by
  unfold runL
  rw [List.take_succ_eq_append_getElem hj, List.foldl_append]
  rfl
theorem runL_bnd (ts : List OpT) : ∀ j, Bnd (runL ts j) := fun j => by
  unfold runL
  have : ∀ (us : List OpT) (l : List Ver), Bnd l → Bnd (us.foldl stepL l) := by
    intro us
    induction us with
    | nil => exact fun l h => h
    | cons u us ih => exact fun l h => ih _ (h.step u)
  exact this _ _ (fun x hx => by cases hx)
theorem cnt_mono (l : List Ver) {a b : Int} (h : a ≤ b) : cnt l a ≤ cnt l b := by
  unfold cnt
  apply List.countP_mono_left
  intro x _ hx
  simp only [decide_eq_true_eq] at hx ⊢
  omega
theorem cnt_drop {l : List Ver} (h : Asc l) {r : Int} {s : Nat} (hs : s ≤ cnt l r) : cnt (l.drop s) r = cnt l r - s := by
  have hl := cnt_le l r
  have h1 : cnt l r = cnt (l.take s) r + cnt (l.drop s) r := by
    conv => lhs; rw [← List.take_append_drop s l]
    unfold cnt; rw [List.countP_append]
  have h2 := cnt_take (rev := r) h s (by omega)
  omega
theorem gone_drop (l : List Ver) (s i : Nat) : goneAt (l.drop s) i = goneAt l (s + i) := by unfold goneAt; rw [List.getElem?_drop]
theorem getD_drop (l : List Ver) (s i : Nat) : (l.drop s).getD i zeroV = l.getD (s + i) zeroV := by rw [List.getD_eq_getElem?_getD, List.getD_eq_getElem?_getD, List.getElem?_drop]
theorem spr_gone {l : List Ver} {rev : Int} (h : spr l rev = cnt l rev) (h0 : 0 < cnt l rev) : goneAt l (cnt l rev - 1) = true := by
  unfold spr at h
  rw [if_neg (by omega)] at h
  split at h
  · assumption
  · omega
/-- what counts at the compaction's revision and above is as it was -/
theorem at_cmp {l : List Ver} (h : Asc l) {rev r : Int} (hr : rev ≤ r) : atB (cmp l rev) r = atB l r ∧ atV (cmp l rev) r = atV l r := by
  have hs : spr l rev ≤ cnt l rev := spr_le l rev
  have hm := cnt_mono l hr
  have hc : cnt (cmp l rev) r = cnt l r - spr l rev := cnt_drop h (by omega)
  have hb : atB (cmp l rev) r = atB l r := by
    unfold atB
    rw [hc]
    by_cases h0 : cnt l r = spr l rev
    · by_cases hz : cnt l r = 0
      · rw [hz]; simp
      · have he : spr l rev = cnt l rev := by omega
        have hg := spr_gone he (by omega)
        have e2 : cnt l r = cnt l rev := by omega
        rw [e2, hg, he]; simp
    · unfold cmp
      rw [gone_drop, show spr l rev + (cnt l r - spr l rev - 1) = cnt l r - 1 by omega, decide_eq_true (show 0 < cnt l r - spr l rev by omega), decide_eq_true (show 0 < cnt l r by omega)]
  refine ⟨hb, ?_⟩
  unfold atV
  rw [hb]
  by_cases ha : atB l r = true
  · rw [if_pos ha, if_pos ha]
    have h0 : 0 < cnt (cmp l rev) r := by
      rw [← hb] at ha
      unfold atB at ha
      simp at ha
      exact ha.1
    rw [hc] at h0 ⊢
    unfold cmp
    rw [getD_drop, show spr l rev + (cnt l r - spr l rev - 1) = cnt l r - 1 by omega]
  · rw [if_neg ha, if_neg ha]
theorem spr_cmp {l : List Ver} (h : Asc l) (rev : Int) : spr (cmp l rev) rev = 0 := by
  have hs : spr l rev ≤ cnt l rev := spr_le l rev
  have hc : cnt (cmp l rev) rev = cnt l rev - spr l rev := cnt_drop h hs
  unfold spr
  rw [hc]
  by_cases h0 : cnt l rev = spr l rev
  · rw [if_pos (by omega)]
  · rw [if_neg (by omega)]
    have h1 : spr l rev = cnt l rev - 1 ∧ goneAt l (cnt l rev - 1) = false := by
      have e : spr l rev = if cnt l rev = 0 then 0 else if goneAt l (cnt l rev - 1) = true then cnt l rev else cnt l rev - 1 := rfl
      rw [if_neg (by omega)] at e
      split at e
      · omega
      · rename_i hg; exact ⟨e, by simpa using hg⟩
    have hg : goneAt (cmp l rev) (cnt l rev - spr l rev - 1) = false := by
      unfold cmp
      rw [gone_drop, show spr l rev + (cnt l rev - spr l rev - 1) = cnt l rev - 1 by omega]
      exact h1.2
    rw [hg, if_neg (by decide)]
    omega
theorem eqlV (a c : Int) (b d : ByteArray) (x y : Bool) (W : World) : (binOp .eql 33 (.agg #[.int .i64 a, .string b, .bool x]) (.agg #[.int .i64 c, .string d, .bool y])).run Try.prog W = .ok (.bool (decide (a = c ∧ b.data.toList = d.data.toList ∧ x = y))) W := by
  have u9 := Try.underlying9
  have hS : Try.prog.underlying 33 = some (.struct (Try.prog.fieldsOf 33)) := by kernel_rfl
  have hp : Try.prog.stoodInHeld 33 = false := by kernel_rfl
  rw [run_eql_struct, show (10000 : Nat) = 9999 + 1 from rfl, run_equalIn_agg W 9999 33 _ _ hS hp]
  simp only [Program.fieldsOf, Try.underlying33]
  go_simp
  simp only [Lib.toList_data]
  by_cases h1 : a = c <;> by_cases h2 : b.data = d.data <;> by_cases h3 : x = y <;> simp [h1, h2, h3]
end Go.Proofs.Ytfilammedofdoaa.Cn
