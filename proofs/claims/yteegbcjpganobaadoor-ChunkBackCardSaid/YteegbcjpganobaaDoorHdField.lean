/- Contracts of package head's OfField and of the document's token: for every text of at most a thousand bytes. -/
import Derived.Test.YteegbcjpganobaaDoorHdLine
namespace Go.Proofs.YteegbcjpganobaaDoor.Hd
open Go.RowKit Ch
set_option linter.unusedSimpArgs false
set_option linter.unusedVariables false

theorem idx_neg {l : List UInt8} {c : UInt8} (h : ¬ c ∈ l) : Lib.indexByte l c = -1 := by
  have h1 := Lib.indexByte_ge l c
  have h2 : ¬ 0 ≤ Lib.indexByte l c := fun g => h ((Ch.idx_ge l c).1 g)
  omega
def cutP (c : UInt8) (l : List UInt8) : List UInt8 × List UInt8 := (l.takeWhile (· ≠ c), (l.dropWhile (· ≠ c)).drop 1)
theorem cutP_no {c : UInt8} {l : List UInt8} (h : ¬ c ∈ l) : cutP c l = (l, []) := by
  unfold cutP
  have hp : ∀ x ∈ l, (decide (x ≠ c)) = true := fun x hx => by simp; exact fun e => h (e ▸ hx)
  have h1 := List.takeWhile_append_of_pos (l₂ := []) hp
  have h2 := List.dropWhile_append_of_pos (l₂ := []) hp
  rw [List.append_nil] at h1 h2
  rw [h1, h2]; simp
theorem cutP_at {c : UInt8} {p q : List UInt8} (h : ¬ c ∈ p) : cutP c (p ++ c :: q) = (p, q) := by
  unfold cutP
  have hp : ∀ x ∈ p, (decide (x ≠ c)) = true := fun x hx => by simp; exact fun e => h (e ▸ hx)
  rw [List.takeWhile_append_of_pos hp, List.dropWhile_append_of_pos hp]
  simp
theorem cutP_len (c : UInt8) (l : List UInt8) : (cutP c l).1.length ≤ l.length ∧ (cutP c l).2.length ≤ l.length := by
  by_cases h : c ∈ l
  · obtain ⟨p, q, e, hp⟩ := List.eq_append_cons_of_mem h
    subst e
    rw [cutP_at hp]; simp; omega
  · rw [cutP_no h]; simp
def cutV (c : UInt8) (l : List UInt8) : Ending := .returned (.tuple #[.string (mkS (cutP c l).1), .string (mkS (cutP c l).2), .bool (decide (c ∈ l))])
set_option maxRecDepth 100000 in
set_option maxHeartbeats 2000000 in
theorem lcut_c (s : ByteArray) (c : UInt8) (w : World) (hs : s.size ≤ 10000) : Calls Tryd.prog 47 #[.string s, .string ⟨#[c]⟩] w fun e w' => e = cutV c s.data.toList ∧ ∃ n, w' = w.drewN n := by
  have HI := Lib.hid (fun W => Any.stringslite_Index_one Tryd.lays219 s c W)
  have hsl := Lib.hid (Lib.size_eq s)
  unfold cutV
  by_cases h : c ∈ s.data.toList
  · obtain ⟨k, hk, hkl, hnm, hsp⟩ := Ch.idx_split s.data.toList c ((Ch.idx_ge _ c).2 h)
    rw [hk] at HI
    have hcp : cutP c s.data.toList = (s.data.toList.take k, s.data.toList.drop (k + 1)) := by
      have := cutP_at (c := c) (p := s.data.toList.take k) (q := s.data.toList.drop (k + 1)) hnm
      rw [← hsp] at this; exact this
    rw [hcp, decide_eq_true h]
    rw [← hsl.out] at hkl
    have HE1 := Lib.hid (ext0 s k)
    have HE2 := Lib.hid (extN s (k + 1))
    have c1 : (0 : Int) ≤ (k : Int) := by omega
    have c2 : (k : Int) ≤ (s.size : Int) := by omega
    have c3 : (0 : Int) ≤ (k : Int) + 1 := by omega
    have c4 : (k : Int) + 1 ≤ (s.size : Int) := by omega
    have hs1 : (ByteArray.mk #[c]).size = 1 := rfl
    clear hk hnm hsp hcp h
    go_enter Tryd.func47, Tryd.ntmps47
    go_wp2_with (go_at_call 61; refine (HI.out _).mono ?_; rintro e w' ⟨rfl, rfl⟩)
    go_quiet (fail)
    go_wp2
    go_ret3
    exact ⟨by rw [← HE1.out, ← HE2.out]; rfl, _, rfl⟩
  · rw [idx_neg h] at HI
    rw [cutP_no h, decide_eq_false h]
    have HE : Hid (s = mkS s.data.toList) := mkS_of rfl
    clear h
    go_enter Tryd.func47, Tryd.ntmps47
    go_wp2_with (go_at_call 61; refine (HI.out _).mono ?_; rintro e w' ⟨rfl, rfl⟩)
    go_ret3
    exact ⟨by rw [← HE.out]; rfl, 0, rfl⟩
set_option maxRecDepth 100000 in
set_option maxHeartbeats 2000000 in
theorem scut_c (s : ByteArray) (c : UInt8) (w : World) (hs : s.size ≤ 10000) : Calls Tryd.prog 35 #[.string s, .string ⟨#[c]⟩] w fun e w' => e = cutV c s.data.toList ∧ ∃ n, w' = w.drewN n := by
  have HI := Lib.hid (fun W => lcut_c s c W hs)
  unfold cutV at HI ⊢
  revert HI
  generalize decide (c ∈ s.data.toList) = fd
  intro HI
  go_enter Tryd.func35, Tryd.ntmps35
  go_wp2_with (go_at_call 47; refine (HI.out _).mono ?_; rintro e w' ⟨rfl, n, rfl⟩)
  go_ret3
  exact ⟨rfl, n, rfl⟩
/-- which field a line is -/
def ofL (l : List UInt8) : Option (List UInt8 × List UInt8) := if 58 ∈ l ∧ (cutP 58 l).1 ≠ [] ∧ allU tokU (cutP 58 l).1 = true ∧ allU valU (cutP 58 l).2 = true then some ((cutP 58 l).1, trimL (cutP 58 l).2) else none
def ofV (q : Option (List UInt8 × List UInt8)) : Ending := match q with
  | none => .returned (.tuple #[.agg #[.string ⟨#[]⟩, .string ⟨#[]⟩], .bool false])
  | some x => .returned (.tuple #[.agg #[.string (mkS x.1), .string (mkS x.2)], .bool true])
theorem ofV_no {q : Option (List UInt8 × List UInt8)} (h : q = none) : ofV q = .returned (.tuple #[.agg #[.string ⟨#[]⟩, .string ⟨#[]⟩], .bool false]) := by subst h; rfl
theorem ofV_yes {q : Option (List UInt8 × List UInt8)} {x : List UInt8 × List UInt8} (h : q = some x) : ofV q = .returned (.tuple #[.agg #[.string (mkS x.1), .string (mkS x.2)], .bool true]) := by subst h; rfl
theorem mkS_emp (l : List UInt8) : (mkS l).toList.isEmpty = l.isEmpty := by rw [Lib.toList_data, data_mkS]
theorem frz2 {w : World} {g : Nat} {cs : Array Value} {t : TypeId} (h : w.heap[g]? = some (.cells cs t (0, 0))) (j : Nat) : w.frozen? ⟨g, j, none⟩ = false := by simp [World.frozen?, h]
theorem blk_set {w : World} {g : Nat} {cs : Array Value} {t : TypeId} (h : w.heap[g]? = some (.cells cs t (0, 0))) (j : Nat) (v : Value) : (w.setCell ⟨g, j, none⟩ v).heap[g]? = some (.cells (cs.setIfInBounds j v) t (0, 0)) := by
  simp [World.setCell, Array.getElem?_modify, h]
theorem set2 {w : World} {g : Nat} {a b : Value} {t : TypeId} (h : w.heap[g]? = some (.cells #[a, b] t (0, 0))) (x y : Value) : ((w.setCell ⟨g, 0, none⟩ x).setCell ⟨g, 1, none⟩ y).heap[g]? = some (.cells #[x, y] t (0, 0)) := by
  have := blk_set (blk_set h 0 x) 1 y
  simpa using this
theorem res_blk (w : World) (n : Nat) (T : TypeId) : ((w.alloc (.cells #[.string ⟨#[]⟩, .string ⟨#[]⟩] T)).drewN n).heap[w.heap.size]? = some (.cells #[.string ⟨#[]⟩, .string ⟨#[]⟩] T (0, 0)) := heap_alloc_new w _
theorem res_bel (w : World) (n : Nat) (T : TypeId) : Below w.heap.size w ((w.alloc (.cells #[.string ⟨#[]⟩, .string ⟨#[]⟩] T)).drewN n) := by
  have h := (Below.refl w.heap.size w).alloc (Nat.le_refl _) (.cells #[.string ⟨#[]⟩, .string ⟨#[]⟩] T)
  exact ⟨h.os, h.tape, h.output, h.size, h.block⟩
set_option maxRecDepth 100000 in
set_option maxHeartbeats 1000000 in
theorem of_no (s a b : ByteArray) (w : World) (HC : Hid (∀ W, Calls Tryd.prog 35 #[.string s, .string ⟨#[58]⟩] W fun e w' => e = .returned (.tuple #[.string a, .string b, .bool false]) ∧ ∃ n, w' = W.drewN n)) : Calls Tryd.prog 40 #[.string s] w fun e w' => e = .returned (.tuple #[.agg #[.string ⟨#[]⟩, .string ⟨#[]⟩], .bool false]) ∧ Below w.heap.size w w' := by
  go_enter Tryd.func40, Tryd.ntmps40
  go_wp2_with fail
  refine (HC.out _).mono ?_
  rintro e w3 ⟨rfl, n, hw⟩
  rw [hw]; clear hw
  have HK := Lib.hid (res_blk w n 77)
  have HB := Lib.hid (res_bel w n 77)
  revert HK HB
  generalize (w.alloc (.cells #[.string ⟨#[]⟩, .string ⟨#[]⟩] 77)).drewN n = wn
  intro HK HB
  have c0 := cell_of_row _ _ 0 _ _ _ HK.out
  have c1 := cell_of_row _ _ 1 _ _ _ HK.out
  have z0 := frz2 HK.out 0
  have z1 := frz2 HK.out 1
  go_wp2
  have H2 := set2 HK.out (.string ⟨#[]⟩) (.string ⟨#[]⟩)
  have d0 := cell_of_row _ _ 0 _ _ _ H2
  have d1 := cell_of_row _ _ 1 _ _ _ H2
  clear c0 c1 z0 z1
  refine bodyPost_ret (v := .tuple #[.agg #[.string ⟨#[]⟩, .string ⟨#[]⟩], .bool false]) (by simp [results, Tryd.results40, go_sem, d0, d1]) rfl ⟨rfl, ?_⟩
  exact (HB.out.setCell (p := ⟨w.heap.size, 0, none⟩) (Nat.le_refl _) _).setCell (p := ⟨w.heap.size, 1, none⟩) (Nat.le_refl _) _
set_option maxRecDepth 100000 in
set_option maxHeartbeats 1000000 in
theorem of_em (s a b : ByteArray) (w : World) (HC : Hid (∀ W, Calls Tryd.prog 35 #[.string s, .string ⟨#[58]⟩] W fun e w' => e = .returned (.tuple #[.string a, .string b, .bool true]) ∧ ∃ n, w' = W.drewN n)) (hem : a.toList.isEmpty = true) : Calls Tryd.prog 40 #[.string s] w fun e w' => e = .returned (.tuple #[.agg #[.string ⟨#[]⟩, .string ⟨#[]⟩], .bool false]) ∧ Below w.heap.size w w' := by
  go_enter Tryd.func40, Tryd.ntmps40
  go_wp2_with fail
  refine (HC.out _).mono ?_
  rintro e w3 ⟨rfl, n, hw⟩
  rw [hw]; clear hw
  have HK := Lib.hid (res_blk w n 77)
  have HB := Lib.hid (res_bel w n 77)
  revert HK HB
  generalize (w.alloc (.cells #[.string ⟨#[]⟩, .string ⟨#[]⟩] 77)).drewN n = wn
  intro HK HB
  have c0 := cell_of_row _ _ 0 _ _ _ HK.out
  have c1 := cell_of_row _ _ 1 _ _ _ HK.out
  have z0 := frz2 HK.out 0
  have z1 := frz2 HK.out 1
  go_wp2
  have H2 := set2 HK.out (.string ⟨#[]⟩) (.string ⟨#[]⟩)
  have d0 := cell_of_row _ _ 0 _ _ _ H2
  have d1 := cell_of_row _ _ 1 _ _ _ H2
  clear c0 c1 z0 z1
  refine bodyPost_ret (v := .tuple #[.agg #[.string ⟨#[]⟩, .string ⟨#[]⟩], .bool false]) (by simp [results, Tryd.results40, go_sem, d0, d1]) rfl ⟨rfl, ?_⟩
  exact (HB.out.setCell (p := ⟨w.heap.size, 0, none⟩) (Nat.le_refl _) _).setCell (p := ⟨w.heap.size, 1, none⟩) (Nat.le_refl _) _
set_option maxRecDepth 100000 in
set_option maxHeartbeats 1000000 in
theorem of_tk (s a b : ByteArray) (w : World) (HC : Hid (∀ W, Calls Tryd.prog 35 #[.string s, .string ⟨#[58]⟩] W fun e w' => e = .returned (.tuple #[.string a, .string b, .bool true]) ∧ ∃ n, w' = W.drewN n)) (hem : a.toList.isEmpty = false) (HA : Hid (∀ W, Calls Tryd.prog 38 #[.string a, .func (.func 55) #[] #[]] W fun e w' => e = .returned (.bool false) ∧ W = w')) : Calls Tryd.prog 40 #[.string s] w fun e w' => e = .returned (.tuple #[.agg #[.string ⟨#[]⟩, .string ⟨#[]⟩], .bool false]) ∧ Below w.heap.size w w' := by
  go_enter Tryd.func40, Tryd.ntmps40
  go_wp2_with fail
  refine (HC.out _).mono ?_
  rintro e w3 ⟨rfl, n, hw⟩
  rw [hw]; clear hw
  have HK := Lib.hid (res_blk w n 77)
  have HB := Lib.hid (res_bel w n 77)
  revert HK HB
  generalize (w.alloc (.cells #[.string ⟨#[]⟩, .string ⟨#[]⟩] 77)).drewN n = wn
  intro HK HB
  have c0 := cell_of_row _ _ 0 _ _ _ HK.out
  have c1 := cell_of_row _ _ 1 _ _ _ HK.out
  have z0 := frz2 HK.out 0
  have z1 := frz2 HK.out 1
  go_wp2_with fail
  refine (HA.out _).mono ?_
  rintro e w4 ⟨rfl, hw⟩
  rw [← hw]; clear hw
  go_wp2
  have H2 := set2 HK.out (.string ⟨#[]⟩) (.string ⟨#[]⟩)
  have d0 := cell_of_row _ _ 0 _ _ _ H2
  have d1 := cell_of_row _ _ 1 _ _ _ H2
  clear c0 c1 z0 z1
  refine bodyPost_ret (v := .tuple #[.agg #[.string ⟨#[]⟩, .string ⟨#[]⟩], .bool false]) (by simp [results, Tryd.results40, go_sem, d0, d1]) rfl ⟨rfl, ?_⟩
  exact (HB.out.setCell (p := ⟨w.heap.size, 0, none⟩) (Nat.le_refl _) _).setCell (p := ⟨w.heap.size, 1, none⟩) (Nat.le_refl _) _
set_option maxRecDepth 100000 in
set_option maxHeartbeats 1000000 in
theorem of_vl (s a b : ByteArray) (w : World) (HC : Hid (∀ W, Calls Tryd.prog 35 #[.string s, .string ⟨#[58]⟩] W fun e w' => e = .returned (.tuple #[.string a, .string b, .bool true]) ∧ ∃ n, w' = W.drewN n)) (hem : a.toList.isEmpty = false) (HA : Hid (∀ W, Calls Tryd.prog 38 #[.string a, .func (.func 55) #[] #[]] W fun e w' => e = .returned (.bool true) ∧ W = w')) (HV : Hid (∀ W, Calls Tryd.prog 38 #[.string b, .func (.func 56) #[] #[]] W fun e w' => e = .returned (.bool false) ∧ W = w')) : Calls Tryd.prog 40 #[.string s] w fun e w' => e = .returned (.tuple #[.agg #[.string ⟨#[]⟩, .string ⟨#[]⟩], .bool false]) ∧ Below w.heap.size w w' := by
  go_enter Tryd.func40, Tryd.ntmps40
  go_wp2_with fail
  refine (HC.out _).mono ?_
  rintro e w3 ⟨rfl, n, hw⟩
  rw [hw]; clear hw
  have HK := Lib.hid (res_blk w n 77)
  have HB := Lib.hid (res_bel w n 77)
  revert HK HB
  generalize (w.alloc (.cells #[.string ⟨#[]⟩, .string ⟨#[]⟩] 77)).drewN n = wn
  intro HK HB
  have c0 := cell_of_row _ _ 0 _ _ _ HK.out
  have c1 := cell_of_row _ _ 1 _ _ _ HK.out
  have z0 := frz2 HK.out 0
  have z1 := frz2 HK.out 1
  go_wp2_with fail
  refine (HA.out _).mono ?_
  rintro e w4 ⟨rfl, hw⟩
  rw [← hw]; clear hw
  go_wp2_with fail
  refine (HV.out _).mono ?_
  rintro e w4 ⟨rfl, hw⟩
  rw [← hw]; clear hw
  go_wp2
  have H2 := set2 HK.out (.string ⟨#[]⟩) (.string ⟨#[]⟩)
  have d0 := cell_of_row _ _ 0 _ _ _ H2
  have d1 := cell_of_row _ _ 1 _ _ _ H2
  clear c0 c1 z0 z1
  refine bodyPost_ret (v := .tuple #[.agg #[.string ⟨#[]⟩, .string ⟨#[]⟩], .bool false]) (by simp [results, Tryd.results40, go_sem, d0, d1]) rfl ⟨rfl, ?_⟩
  exact (HB.out.setCell (p := ⟨w.heap.size, 0, none⟩) (Nat.le_refl _) _).setCell (p := ⟨w.heap.size, 1, none⟩) (Nat.le_refl _) _
set_option maxRecDepth 100000 in
set_option maxHeartbeats 1000000 in
theorem of_ok (s a b c : ByteArray) (w : World) (HC : Hid (∀ W, Calls Tryd.prog 35 #[.string s, .string ⟨#[58]⟩] W fun e w' => e = .returned (.tuple #[.string a, .string b, .bool true]) ∧ ∃ n, w' = W.drewN n)) (hem : a.toList.isEmpty = false) (HA : Hid (∀ W, Calls Tryd.prog 38 #[.string a, .func (.func 55) #[] #[]] W fun e w' => e = .returned (.bool true) ∧ W = w')) (HV : Hid (∀ W, Calls Tryd.prog 38 #[.string b, .func (.func 56) #[] #[]] W fun e w' => e = .returned (.bool true) ∧ W = w')) (HT : Hid (∀ W, Calls Tryd.prog 57 #[.string b] W fun e w' => e = .returned (.string c) ∧ W = w')) : Calls Tryd.prog 40 #[.string s] w fun e w' => e = .returned (.tuple #[.agg #[.string a, .string c], .bool true]) ∧ Below w.heap.size w w' := by
  go_enter Tryd.func40, Tryd.ntmps40
  go_wp2_with fail
  refine (HC.out _).mono ?_
  rintro e w3 ⟨rfl, n, hw⟩
  rw [hw]; clear hw
  have HK := Lib.hid (res_blk w n 77)
  have HB := Lib.hid (res_bel w n 77)
  revert HK HB
  generalize (w.alloc (.cells #[.string ⟨#[]⟩, .string ⟨#[]⟩] 77)).drewN n = wn
  intro HK HB
  have c0 := cell_of_row _ _ 0 _ _ _ HK.out
  have c1 := cell_of_row _ _ 1 _ _ _ HK.out
  have z0 := frz2 HK.out 0
  have z1 := frz2 HK.out 1
  go_wp2_with fail
  refine (HA.out _).mono ?_
  rintro e w4 ⟨rfl, hw⟩
  rw [← hw]; clear hw
  go_wp2_with fail
  refine (HV.out _).mono ?_
  rintro e w4 ⟨rfl, hw⟩
  rw [← hw]; clear hw
  go_wp2_with fail
  refine (HT.out _).mono ?_
  rintro e w4 ⟨rfl, hw⟩
  rw [← hw]; clear hw
  go_wp2
  have H2 := set2 HK.out (.string a) (.string c)
  have d0 := cell_of_row _ _ 0 _ _ _ H2
  have d1 := cell_of_row _ _ 1 _ _ _ H2
  clear c0 c1 z0 z1
  refine bodyPost_ret (v := .tuple #[.agg #[.string a, .string c], .bool true]) (by simp [results, Tryd.results40, go_sem, d0, d1]) rfl ⟨rfl, ?_⟩
  exact (HB.out.setCell (p := ⟨w.heap.size, 0, none⟩) (Nat.le_refl _) _).setCell (p := ⟨w.heap.size, 1, none⟩) (Nat.le_refl _) _
theorem OfField_c (s : ByteArray) (w : World) (hs : s.size ≤ 10000) : Calls Tryd.prog 40 #[.string s] w fun e w' => e = ofV (ofL s.data.toList) ∧ Below w.heap.size w w' := by
  have HC := Lib.hid (fun W => scut_c s 58 W hs)
  unfold cutV at HC
  have hcl := cutP_len 58 s.data.toList
  rw [← Lib.size_eq] at hcl
  have HA := Lib.hid (fun W => all_tok (mkS (cutP 58 s.data.toList).1) W (by rw [size_mkS]; omega))
  have HV := Lib.hid (fun W => all_val (mkS (cutP 58 s.data.toList).2) W (by rw [size_mkS]; omega))
  have HT := Lib.hid (fun W => trim_c (mkS (cutP 58 s.data.toList).2) W (by rw [size_mkS]; unfold maxLen; omega))
  rw [data_mkS] at HA HV HT
  have hem := mkS_emp (cutP 58 s.data.toList).1
  by_cases h1 : 58 ∈ s.data.toList
  · rw [decide_eq_true h1] at HC
    by_cases h2 : (cutP 58 s.data.toList).1 = []
    · have hq : ofL s.data.toList = none := by unfold ofL; rw [if_neg (fun g => g.2.1 h2)]
      rw [ofV_no hq]
      rw [h2] at hem
      exact of_em s _ _ w HC (by rw [h2]; exact hem)
    · have hem2 : (mkS (cutP 58 s.data.toList).1).toList.isEmpty = false := by
        rw [hem]
        cases h : (cutP 58 s.data.toList).1 with
        | nil => exact absurd h h2
        | cons => rfl
      cases h3 : allU tokU (cutP 58 s.data.toList).1 with
      | false =>
        have hq : ofL s.data.toList = none := by unfold ofL; rw [if_neg (fun g => by rw [h3] at g; exact absurd g.2.2.1 (by simp))]
        rw [ofV_no hq]
        rw [h3] at HA
        exact of_tk s _ _ w HC hem2 HA
      | true =>
        rw [h3] at HA
        cases h4 : allU valU (cutP 58 s.data.toList).2 with
        | false =>
          have hq : ofL s.data.toList = none := by unfold ofL; rw [if_neg (fun g => by rw [h4] at g; exact absurd g.2.2.2 (by simp))]
          rw [ofV_no hq]
          rw [h4] at HV
          exact of_vl s _ _ w HC hem2 HA HV
        | true =>
          have hq : ofL s.data.toList = some ((cutP 58 s.data.toList).1, trimL (cutP 58 s.data.toList).2) := by unfold ofL; rw [if_pos ⟨h1, h2, h3, h4⟩]
          rw [ofV_yes hq]
          rw [h4] at HV
          exact of_ok s _ _ _ w HC hem2 HA HV HT
  · rw [decide_eq_false h1] at HC
    have hq : ofL s.data.toList = none := by unfold ofL; rw [if_neg (fun g => h1 g.1)]
    rw [ofV_no hq]
    exact of_no s _ _ w HC
end Go.Proofs.YteegbcjpganobaaDoor.Hd
