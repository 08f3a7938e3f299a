/- The document's pins as they lie; its New, Len, Held, Rev; no other condition. -/
import Derived.Test.YtjjnjankjbiigaaPnG
namespace Go.Proofs.Ytjjnjankjbiigaa.Pn
open Go.RowKit Go.Lib Go.Maps
set_option linter.unusedSimpArgs false
set_option linter.unusedVariables false

theorem own_form {T : TypeId} {B k n : Nat} {v : Value} {xs : List Value} {w : World} (h : w.ownsRow B T k v n xs) : ∃ ao cap, v = .slice ao n cap := by
  rcases h.2 with ⟨e, h0⟩ | ⟨g, cap, cur, hv, _⟩
  · exact ⟨none, 0, by rw [e, h0]⟩
  · exact ⟨_, _, hv⟩
theorem own_go {T : TypeId} {B k n : Nat} {v : Value} {xs : List Value} {w w' : World} (h : w.ownsRow B T k v n xs) (hb : Below w.heap.size w w') : w'.ownsRow B T k v n xs :=
  World.ownsRow.kept h (row := none) ⟨hb.os, hb.tape, hb.output, hb.size, fun k hk _ => hb.block k hk⟩ (by cases hv : v.ownBlock <;> simp)
theorem own_kept {T : TypeId} {B k n : Nat} {v : Value} {xs : List Value} {w W : World} (h : w.ownsRow B T k v n xs) (hb : ∀ g, v.ownBlock = some g → W.heap[g]? = w.heap[g]?) : W.ownsRow B T k v n xs := by
  refine ⟨h.1, ?_⟩
  rcases h.2 with h | ⟨g, cap, cur, rfl, e2, e3, e4⟩
  · exact .inl h
  · exact .inr ⟨g, cap, cur, rfl, e2, (hb g rfl).trans e3, e4⟩
/-- a row's cells, from a block's head on -/
def AtR (w : World) (g : Nat) (xs : List Value) : Prop := ∀ j v, xs[j]? = some v → w.cell? ⟨g, j, none⟩ = some v
theorem own_at {T : TypeId} {B k n : Nat} {v : Value} {xs : List Value} {w : World} (h : w.ownsRow B T k v n xs) (h0 : 0 < n) : ∃ g cap, v = .slice (some ⟨g, 0, none⟩) n cap ∧ g < w.heap.size ∧ B ≤ g ∧ AtR w g xs ∧ ∀ j, w.frozen? ⟨g, j, none⟩ = false := by
  rcases h.2 with ⟨e, e0⟩ | ⟨g, cap, cur, hv, hB, hgh, hn, hm, hz, htk⟩
  · omega
  · refine ⟨g, cap, hv, (Array.getElem?_eq_some_iff.1 hgh).1, hB, fun j v hv => ?_, fun j => frzB hgh j⟩
    have hj : j < n * k := by
      rcases Nat.lt_or_ge j (n * k) with q | q
      · exact q
      · rw [← htk, List.getElem?_eq_none (by rw [List.length_take]; omega)] at hv; cases hv
    rw [cell_of_row _ _ _ _ _ _ hgh, ← hv, ← htk, List.getElem?_take_of_lt hj, Array.getElem?_toList]
theorem row_set {B : Nat} {e : TypeId} {sz g m c i : Nat} {ys : List Value} {w : World} (h : w.ownsRow B e sz (.slice (some ⟨g, 0, none⟩) m c) m ys) (v : Value) : (w.setCell ⟨g, i, none⟩ v).ownsRow B e sz (.slice (some ⟨g, 0, none⟩) m c) m (ys.set i v) := by
  refine ⟨by rw [List.length_set]; exact h.1, ?_⟩
  rcases h.2 with ⟨e1, _⟩ | ⟨gg, cap, cur, e1, e2, e3, e4, e5, e6, e7⟩
  · cases e1
  cases e1
  exact .inr ⟨_, _, cur.setIfInBounds i v, rfl, e2, blk_set e3 i v, e4, e5, by rw [Array.size_setIfInBounds]; exact e6, by rw [Array.toList_setIfInBounds, List.take_set, e7]⟩
theorem cellP {g : Nat} {l : List Pin} {w : World} (h : AtR w g (pC l)) {i : Nat} (hi : i < l.length) : w.cell? ⟨g, i * 3, none⟩ = some (.int .i64 l[i].1) ∧ w.cell? ⟨g, i * 3 + 1, none⟩ = some (.int .i64 l[i].2.1) ∧ w.cell? ⟨g, i * 3 + 2, none⟩ = some (.bool l[i].2.2) := by
  obtain ⟨a, b, c⟩ := pC_at l i hi
  exact ⟨h _ _ a, h _ _ b, h _ _ c⟩
abbrev obR (m : Int) (v : Value) : Obj := .cells #[v, .int .i64 m] 38
/-- the document's pins: their block d, their row's block gd, how many may be, all that ever were -/
structure IsRp (B d : Nat) (gd : Option Nat) (m : Int) (l : List Pin) (W : World) : Prop where
  ex : ∃ v, W.heap[d]? = some (.cells #[v, .int .i64 m] 38 (0, 0)) ∧ W.ownsRow B 50 3 v l.length (pC l) ∧ v.ownBlock = gd
  ne : gd ≠ some d
theorem IsRp.lt {B d : Nat} {gd : Option Nat} {m : Int} {l : List Pin} {W : World} (h : IsRp B d gd m l W) : d < W.heap.size := by
  obtain ⟨v, hv, _⟩ := h.ex
  exact (Array.getElem?_eq_some_iff.1 hv).1
theorem IsRp.row {B d : Nat} {gd : Option Nat} {m : Int} {l : List Pin} {W : World} (h : IsRp B d gd m l W) : ∀ g, gd = some g → B ≤ g ∧ g < W.heap.size := by
  obtain ⟨v, hv, ho, e⟩ := h.ex
  intro g hg
  exact World.ownsRow.lt ho g (e.trans hg)
theorem IsRp.kept {B d : Nat} {gd : Option Nat} {m : Int} {l : List Pin} {w W : World} (h : IsRp B d gd m l w) (hd : W.heap[d]? = w.heap[d]?) (hb : ∀ g, gd = some g → W.heap[g]? = w.heap[g]?) : IsRp B d gd m l W := by
  obtain ⟨v, hv, ho, e⟩ := h.ex
  exact ⟨⟨v, hd.trans hv, own_kept ho (fun g hg => hb g (e.symm.trans hg)), e⟩, h.ne⟩
theorem IsRp.go {B d : Nat} {gd : Option Nat} {m : Int} {l : List Pin} {w W : World} (h : IsRp B d gd m l w) (hb : Below w.heap.size w W) : IsRp B d gd m l W :=
  h.kept (hb.block _ h.lt) (fun g hg => hb.block _ (h.row g hg).2)
set_option maxRecDepth 100000 in
set_option maxHeartbeats 1000000 in
theorem New_r (m : Int) (w : World) : Calls Try.prog 7 #[.int .i64 m] w fun e w' => e = .returned (.pointer (some ⟨w.heap.size, 0, none⟩)) ∧ IsRp w.heap.size w.heap.size none (max m 1) [] w' ∧ Below w.heap.size w w' := by
  obtain ⟨W, hW, hk, hb⟩ := new2 w (.slice none 0 0) (.int .i64 (max m 1)) 38
  have HF : Hid (IsRp w.heap.size w.heap.size none (max m 1) [] W ∧ Below w.heap.size w W) := ⟨⟨⟨_, hk, World.ownsRow_nil _ _ _ _, rfl⟩, by simp⟩, hb⟩
  clear hk hb
  by_cases hm : m < 1
  · have e : max m 1 = 1 := by omega
    rw [e] at hW HF ⊢
    have HW := Lib.hid hW
    clear hW
    go_enter Try.func7, Try.ntmps7
    go_wp2
    rw [← HW.out]
    go_ret
    exact ⟨rfl, HF.out⟩
  · have e : max m 1 = m := by omega
    rw [e] at hW HF ⊢
    have HW := Lib.hid hW
    clear hW
    go_enter Try.func7, Try.ntmps7
    go_wp2
    rw [← HW.out]
    go_ret
    exact ⟨rfl, HF.out⟩
theorem cnt_take {l : List Pin} {j : Nat} (hj : j < l.length) : cnt (l.take (j + 1)) = cnt (l.take j) + (if l[j].2.2 then 1 else 0) := by
  rw [List.take_succ_eq_append_getElem hj]
  unfold cnt
  rw [List.countP_append]
  congr 1
  obtain ⟨⟨a, b, c⟩, hx⟩ : ∃ x : Pin, l[j] = x := ⟨_, rfl⟩
  rw [hx]
  cases c <;> rfl
set_option maxRecDepth 100000 in
set_option maxHeartbeats 2000000 in
theorem Len_r {B d : Nat} {gd : Option Nat} {m : Int} {l : List Pin} {w : World} (h : IsRp B d gd m l w) (hm : l.length ≤ 1000000) : Calls Try.prog 10 #[.pointer (some ⟨d, 0, none⟩)] w fun e w' => e = .returned (.int .i64 (cnt l : Nat)) ∧ Below w.heap.size w w' := by
  obtain ⟨v, hv, ho, _⟩ := h.ex
  obtain ⟨ao, cap, rfl⟩ := own_form ho
  have HO := Lib.hid ho
  obtain ⟨c0, c1⟩ := cells2 hv
  clear h hv ho
  go_enter Try.func10, Try.ntmps10
  go_wp2
  clear c0 c1
  go_loopw [3, 11] (fun nv iv wr => ∃ j : Nat, j ≤ l.length ∧ iv = .int .i64 j ∧ nv = .int .i64 (cnt (l.take j) : Nat) ∧ Hid (Below w.heap.size w wr)) (fun _ iv _ => l.length - (intOf iv).toNat)
  case atStart => exact ⟨0, by omega, rfl, rfl, Below.refl _ _⟩
  case round =>
    obtain ⟨j, hj, rfl, rfl, HB⟩ := hrel
    by_cases hlt : j < l.length
    · obtain ⟨g, cp, e, hg, _, hat, _⟩ := own_at (own_go HO.out HB.out) (by omega)
      injection e with e1 e2 e3
      subst e1 e3
      obtain ⟨p0, p1, p2⟩ := cellP hat hlt
      have hj0 : (0 : Int) ≤ (j : Int) := by omega
      have hjl : (j : Int) < (l.length : Int) := by omega
      have hct := cnt_take hlt
      have hcl : cnt (l.take j) ≤ j := Nat.le_trans (cnt_le _) (by rw [List.length_take]; omega)
      obtain ⟨⟨x0, x1, x2⟩, hx⟩ : ∃ x : Pin, l[j] = x := ⟨_, rfl⟩
      rw [hx] at p0 p1 p2 hct
      simp only at p0 p1 p2 hct
      obtain ⟨W2, hW2, hk2, hb2⟩ := new3 wr (.int .i64 x0) (.int .i64 x1) (.bool x2) 50
      have HW2 := Lib.hid hW2
      obtain ⟨d0, d1, d2⟩ := cells3 hk2
      have HB2 : Hid (Below w.heap.size w W2) := HB.out.trans (hb2.mono HB.out.size)
      have HCT := Lib.hid hct
      have hgn : g ≠ wr.heap.size := by omega
      clear hat hx hW2 hk2 hb2 HB hct
      revert HCT hcl
      generalize cnt (l.take j) = k
      intro hcl HCT
      have hkb : (k : Int) ≤ 1000000 := by omega
      cases x2 with
      | true =>
        rw [if_pos rfl] at HCT
        go_upto_region 5 with (fail)
        rw [← HW2.out]
        go_wp2
        go_roundw
        case rel => exact ⟨j + 1, by omega, by go_num, by rw [HCT.out]; go_num, HB2⟩
        case measure => simp [intOf]; omega
      | false =>
        rw [if_neg (by decide)] at HCT
        go_upto_region 5 with (fail)
        rw [← HW2.out]
        go_wp2
        go_roundw
        case rel => exact ⟨j + 1, by omega, by go_num, by rw [HCT.out]; go_num, HB2⟩
        case measure => simp [intOf]; omega
    · have hjl : ¬ (j : Int) < (l.length : Int) := by omega
      have hjj : j = l.length := by omega
      rw [hjj, List.take_of_length_le (Nat.le_refl _)]
      clear hj hlt
      go_wp2
      go_ret
      exact ⟨rfl, HB.out⟩
theorem hb_lo {l : List Pin} {i : Int} (h : ¬ 1 ≤ i) : hb l i = false := by unfold hb att; rw [if_neg h]; rfl
theorem hb_hi {l : List Pin} {i : Int} (h : (l.length : Int) < i) : hb l i = false := by
  cases e : att l i with
  | none => unfold hb; rw [e]; rfl
  | some x => have := att_le e; omega
theorem att_at {l : List Pin} {k : Nat} (hk : k < l.length) : att l ((k : Int) + 1) = if l[k].2.2 then some (l[k].1, l[k].2.1) else none := by
  unfold att
  rw [if_pos (by omega), show ((k : Int) + 1 - 1).toNat = k by omega, List.getElem?_eq_getElem hk]
  obtain ⟨⟨a, b, c⟩, hx⟩ : ∃ x : Pin, l[k] = x := ⟨_, rfl⟩
  rw [hx]
  cases c <;> rfl
theorem hb_at {l : List Pin} {k : Nat} (hk : k < l.length) : hb l ((k : Int) + 1) = l[k].2.2 := by
  unfold hb; rw [att_at hk]; cases l[k].2.2 <;> rfl
set_option maxRecDepth 100000 in
set_option maxHeartbeats 2000000 in
theorem Held_r {B d : Nat} {gd : Option Nat} {m : Int} {l : List Pin} {w : World} (h : IsRp B d gd m l w) (i : Int) (hm : l.length ≤ 1000000) : Calls Try.prog 24 #[.pointer (some ⟨d, 0, none⟩), .int .i64 i] w fun e w' => e = .returned (.bool (hb l i)) ∧ w' = w := by
  obtain ⟨v, hv, ho, _⟩ := h.ex
  obtain ⟨ao, cap, rfl⟩ := own_form ho
  obtain ⟨c0, c1⟩ := cells2 hv
  clear h hv
  by_cases h1 : 1 ≤ i
  · by_cases h2 : i ≤ l.length
    · obtain ⟨k, rfl⟩ : ∃ k : Nat, i = (k : Int) + 1 := ⟨(i - 1).toNat, by omega⟩
      have hk : k < l.length := by omega
      rw [hb_at hk]
      obtain ⟨g, cp, e, hg, _, hat, _⟩ := own_at ho (by omega)
      injection e with e1 e2 e3
      subst e1 e3
      obtain ⟨p0, p1, p2⟩ := cellP hat hk
      have hk0 : (0 : Int) ≤ (k : Int) := by omega
      have hkl : (k : Int) < (l.length : Int) := by omega
      clear hat ho
      generalize l[k] = x at *
      obtain ⟨x0, x1, x2⟩ := x
      go_enter Try.func24, Try.ntmps24
      go_wp2
      go_ret
      exact ⟨rfl, rfl⟩
    · rw [hb_hi (by omega)]
      clear ho
      go_enter Try.func24, Try.ntmps24
      go_wp2
      go_ret
      exact ⟨rfl, rfl⟩
  · rw [hb_lo h1]
    clear ho
    go_enter Try.func24, Try.ntmps24
    go_wp2
    go_ret
    exact ⟨rfl, rfl⟩
theorem rv_at {l : List Pin} {k : Nat} (hk : k < l.length) (hh : l[k].2.2 = true) : rv l ((k : Int) + 1) = l[k].1 := by
  unfold rv; rw [att_at hk, hh]; rfl
theorem rv_no {l : List Pin} {i : Int} (hh : hb l i = false) : rv l i = 0 := by
  unfold rv; unfold hb at hh
  cases e : att l i with
  | none => rfl
  | some x => rw [e] at hh; cases hh
theorem held_ix {l : List Pin} {i : Int} (hh : hb l i = true) : ∃ k : Nat, ∃ hk : k < l.length, i = (k : Int) + 1 ∧ l[k].2.2 = true := by
  have h1 : 1 ≤ i := by
    rcases Int.lt_or_le i 1 with q | q
    · rw [hb_lo (by omega)] at hh; cases hh
    · exact q
  have h2 : i ≤ l.length := by
    rcases Int.lt_or_le (l.length : Int) i with q | q
    · rw [hb_hi q] at hh; cases hh
    · exact q
  have hk : (i - 1).toNat < l.length := by omega
  have e : i = ((i - 1).toNat : Int) + 1 := by omega
  refine ⟨(i - 1).toNat, hk, e, ?_⟩
  have := hb_at hk
  rw [← e, hh] at this; exact this.symm
set_option maxRecDepth 100000 in
set_option maxHeartbeats 2000000 in
theorem Rev_r {B d : Nat} {gd : Option Nat} {m : Int} {l : List Pin} {w : World} (h : IsRp B d gd m l w) (i : Int) (hm : l.length ≤ 1000000) : Calls Try.prog 12 #[.pointer (some ⟨d, 0, none⟩), .int .i64 i] w fun e w' => e = .returned (.tuple #[.int .i64 (rv l i), .bool (hb l i)]) ∧ w' = w := by
  have HH := Lib.hid (Held_r h i hm)
  obtain ⟨v, hv, ho, _⟩ := h.ex
  obtain ⟨ao, cap, rfl⟩ := own_form ho
  obtain ⟨c0, c1⟩ := cells2 hv
  clear h hv
  cases hh : hb l i with
  | false =>
    rw [hh] at HH
    rw [rv_no hh]
    clear ho
    go_enter Try.func12, Try.ntmps12
    go_wp2_with fail
    refine HH.out.mono ?_
    rintro e w1 ⟨rfl, rfl⟩
    go_wp2
    exact bodyPost_ret (v := .tuple #[.int .i64 0, .bool false]) (by simp [results, Try.results12, go_sem]) rfl ⟨rfl, rfl⟩
  | true =>
    rw [hh] at HH
    obtain ⟨k, hk, rfl, hx2⟩ := held_ix hh
    rw [rv_at hk hx2]
    obtain ⟨g, cp, e, hg, _, hat, _⟩ := own_at ho (by omega)
    injection e with e1 e2 e3
    subst e1 e3
    obtain ⟨p0, p1, p2⟩ := cellP hat hk
    have hk0 : (0 : Int) ≤ (k : Int) := by omega
    have hkl : (k : Int) < (l.length : Int) := by omega
    clear hat ho hh hx2
    generalize l[k] = x at *
    obtain ⟨x0, x1, x2⟩ := x
    go_enter Try.func12, Try.ntmps12
    go_wp2_with fail
    refine HH.out.mono ?_
    rintro e w1 ⟨rfl, rfl⟩
    clear HH
    go_wp2
    exact bodyPost_ret (v := .tuple #[.int .i64 x0, .bool true]) (by simp [results, Try.results12, go_sem]) rfl ⟨rfl, rfl⟩
end Go.Proofs.Ytjjnjankjbiigaa.Pn
