/- Contracts and plain mathematics of some packages' functions, laid together; conditions as each one says. -/
import Derived.Test.YtbimncnicioagaaDoorLbN
import Derived.Test.YtbimncnicioagaaDoorLbV
import Derived.Deep.RegionHeld3
namespace Go.Proofs.YtbimncnicioagaaDoor.Al
open Go.RowKit Ch Jt Lb
set_option linter.unusedSimpArgs false
set_option linter.unusedVariables false

/-- an alert's cells: two sets' slices, two times -/
abbrev obA (v u : Value) (s e : Int) : Obj := .cells #[v, u, .int .i64 s, .int .i64 e] 29
abbrev obB (v u : Value) (s e : Int) : Obj := .cells #[v, u, .int .i64 s, .int .i64 e] 24
abbrev agA (v u : Value) (s e : Int) : Value := .agg #[v, u, .int .i64 s, .int .i64 e]
theorem new4 (w : World) (x y z u : Value) (T : TypeId) : ∃ W, W = w.alloc (.cells #[x, y, z, u] T) ∧ W.heap[w.heap.size]? = some (.cells #[x, y, z, u] T (0, 0)) ∧ Below w.heap.size w W := ⟨_, rfl, heap_alloc_new w _, (Below.refl _ _).alloc (Nat.le_refl _) _⟩
theorem cells4 {w : World} {g : Nat} {a b c d : Value} {t : TypeId} (h : w.heap[g]? = some (.cells #[a, b, c, d] t (0, 0))) : w.cell? ⟨g, 0, none⟩ = some a ∧ w.cell? ⟨g, 1, none⟩ = some b ∧ w.cell? ⟨g, 2, none⟩ = some c ∧ w.cell? ⟨g, 3, none⟩ = some d := ⟨cell_of_row _ _ 0 _ _ _ h, cell_of_row _ _ 1 _ _ _ h, cell_of_row _ _ 2 _ _ _ h, cell_of_row _ _ 3 _ _ _ h⟩
theorem blk_set {w : World} {g : Nat} {cs : Array Value} {t : TypeId} (h : w.heap[g]? = some (.cells cs t (0, 0))) (j : Nat) (v : Value) : (w.setCell ⟨g, j, none⟩ v).heap[g]? = some (.cells (cs.setIfInBounds j v) t (0, 0)) := by
  simp [World.setCell, Array.getElem?_modify, h]
theorem frzB {w : World} {g : Nat} {cs : Array Value} {t : TypeId} (h : w.heap[g]? = some (.cells cs t (0, 0))) (j : Nat) : w.frozen? ⟨g, j, none⟩ = false := by simp [World.frozen?, h]
theorem bel_set {B : Nat} {w W : World} (h : Below B w W) {g : Nat} (hg : B ≤ g) (j : Nat) (v : Value) : Below B w (W.setCell ⟨g, j, none⟩ v) := h.setCell (p := ⟨g, j, none⟩) hg v
/-- a time? -/
def tim (s : Int) : Bool := decide (0 ≤ s) && decide (s ≤ 137438953472)
def rgt (n : Nat) (s e : Int) : Bool := decide (0 < n) && tim s && tim e && decide (s < e)
def act (s e now : Int) : Bool := decide (s ≤ now) && decide (now < e)
/-- its beginning behind a merge; its end behind a resolve -/
def mrg (s e s2 : Int) : Int := if s2 ≤ e then min s2 s else s2
def rsv (s e now : Int) : Int := if act s e now then max now (s + 1) else e
set_option maxRecDepth 100000 in
theorem near_c (s : Int) (w : World) : Calls Tryd.prog 36 #[.int .i64 s] w fun e w' => e = .returned (.int .i64 (min (max s 0) 137438953472)) ∧ w' = w := by
  go_enter Tryd.func36, Tryd.ntmps36
  go_wp2
  go_ret
  exact ⟨rfl, rfl⟩
theorem tim_iff (s : Int) : (s == min (max s 0) 137438953472) = tim s := by
  unfold tim
  by_cases h1 : 0 ≤ s
  · by_cases h2 : s ≤ 137438953472
    · rw [decide_eq_true h1, decide_eq_true h2]
      simp; omega
    · rw [decide_eq_true h1, decide_eq_false h2]
      simp; omega
  · rw [decide_eq_false h1]
    simp; omega
set_option maxRecDepth 100000 in
theorem isTime_c (s : Int) (w : World) : Calls Tryd.prog 23 #[.int .i64 s] w fun e w' => e = .returned (.bool (tim s)) ∧ w' = w := by
  rw [← tim_iff]
  have HN := Lib.hid (near_c s w)
  generalize min (max s 0) 137438953472 = z at *
  go_enter Tryd.func23, Tryd.ntmps23
  go_wp2_with fail
  refine HN.out.mono ?_
  rintro e w1 ⟨rfl, rfl⟩
  go_wp2
  go_ret
  exact ⟨rfl, rfl⟩
set_option maxRecDepth 100000 in
theorem Time_r (s : Int) (w : World) : Calls Tryd.prog 24 #[.int .i64 s] w fun e w' => e = .returned (.bool (tim s)) ∧ w' = w := by
  unfold tim
  by_cases h1 : 0 ≤ s
  · rw [decide_eq_true h1]
    go_enter Tryd.func24, Tryd.ntmps24
    go_wp2
    go_ret
    exact ⟨rfl, rfl⟩
  · rw [decide_eq_false h1]
    go_enter Tryd.func24, Tryd.ntmps24
    go_wp2
    go_ret
    exact ⟨rfl, rfl⟩
theorem bel4 (w : World) (x y z u : Value) (T : TypeId) : Below w.heap.size w (w.alloc (.cells #[x, y, z, u] T)) := (Below.refl _ _).alloc (Nat.le_refl _) _
set_option maxRecDepth 100000 in
theorem Active_c (v u : Value) (s e now : Int) (w : World) : Calls Tryd.prog 13 #[agA v u s e, .int .i64 now] w fun r w' => r = .returned (.bool (act s e now)) ∧ Below w.heap.size w w' := by
  obtain ⟨W, hW, hk, hb⟩ := new4 w v u (.int .i64 s) (.int .i64 e) 29
  obtain ⟨c0, c1, c2, c3⟩ := cells4 hk
  have HW := Lib.hid hW
  have HB := Lib.hid hb
  clear hW hk hb
  unfold act
  by_cases h1 : s ≤ now
  · rw [decide_eq_true h1]
    go_enter Tryd.func13, Tryd.ntmps13
    go_upto_region 1 with (fail)
    rw [← HW.out]
    go_wp2
    go_ret
    exact ⟨rfl, HB.out⟩
  · rw [decide_eq_false h1]
    go_enter Tryd.func13, Tryd.ntmps13
    go_upto_region 1 with (fail)
    rw [← HW.out]
    go_wp2
    go_ret
    exact ⟨rfl, HB.out⟩
set_option maxRecDepth 100000 in
theorem Active_r (v u : Value) (s e now : Int) (w : World) : Calls Tryd.prog 14 #[agA v u s e, .int .i64 now] w fun r w' => r = .returned (.bool (act s e now)) ∧ Below w.heap.size w w' := by
  obtain ⟨W, hW, hk, hb⟩ := new4 w v u (.int .i64 s) (.int .i64 e) 24
  obtain ⟨c0, c1, c2, c3⟩ := cells4 hk
  have HW := Lib.hid hW
  have HB := Lib.hid hb
  clear hW hk hb
  unfold act
  by_cases h1 : s ≤ now
  · rw [decide_eq_true h1]
    go_enter Tryd.func14, Tryd.ntmps14
    go_upto_region 1 with (fail)
    rw [← HW.out]
    go_wp2
    go_ret
    exact ⟨rfl, HB.out⟩
  · rw [decide_eq_false h1]
    go_enter Tryd.func14, Tryd.ntmps14
    go_upto_region 1 with (fail)
    rw [← HW.out]
    go_wp2
    go_ret
    exact ⟨rfl, HB.out⟩
theorem rgt_e (n : Nat) (s e : Int) : (n == 0 || !tim s || !tim e || decide (e ≤ s)) = !rgt n s e := by
  unfold rgt
  by_cases h : s < e
  · rw [decide_eq_true h, decide_eq_false (show ¬ e ≤ s by omega)]
    cases n <;> cases tim s <;> cases tim e <;> simp
  · rw [decide_eq_false h, decide_eq_true (show e ≤ s by omega)]
    simp
def rgtE (n : Nat) (s e : Int) : Int := if rgt n s e then 0 else 1
set_option maxRecDepth 100000 in
set_option maxHeartbeats 2000000 in
theorem Right_c (a : Option Addr) (n c : Nat) (u : Value) (s e : Int) (w : World) (hn : n ≤ 9223372036854775807) : Calls Tryd.prog 7 #[agA (.slice a n c) u s e] w fun r w' => r = .returned (.int .i64 (rgtE n s e)) ∧ Below w.heap.size w w' := by
  obtain ⟨W, hW, hk, hb⟩ := new4 w (.slice a n c) u (.int .i64 s) (.int .i64 e) 29
  have HK := Lib.hid hk
  have HW := Lib.hid hW
  have HB := Lib.hid hb
  obtain ⟨c0, c1, c2, c3⟩ := cells4 hk
  have hR := rgt_e n s e
  clear hW hk hb
  have HL := Lib.hid (Len_c a n c W hn)
  unfold rgtE
  have PT : Hid (∀ z V, Calls Tryd.prog 23 #[.int .i64 z] V fun r w' => r = .returned (.bool (tim z)) ∧ w' = V) := fun z V => isTime_c z V
  have FIN : Hid (∀ V, Below W.heap.size W V → Below w.heap.size w V) := fun V hV => HB.out.trans (hV.mono HB.out.size)
  have HC : Hid (∀ V, Below W.heap.size W V → V.cell? ⟨w.heap.size, 2, none⟩ = some (.int .i64 s) ∧ V.cell? ⟨w.heap.size, 3, none⟩ = some (.int .i64 e)) := fun V hV => by
    obtain ⟨_, _, k2, k3⟩ := cells4 ((hV.block _ (Array.getElem?_eq_some_iff.1 HK.out).1).trans HK.out)
    exact ⟨k2, k3⟩
  by_cases h0 : n = 0
  · subst h0
    have e1 : rgt 0 s e = false := by unfold rgt; simp
    rw [e1]
    go_enter Tryd.func7, Tryd.ntmps7
    go_upto_region 1 with (fail)
    rw [← HW.out]
    go_wp2_with fail
    refine HL.out.mono ?_
    rintro r w1 ⟨rfl, hb1⟩
    have B1 := Lib.hid (FIN.out _ hb1)
    clear hb1
    go_wp2
    go_ret
    exact ⟨rfl, B1.out⟩
  · have hn0 : ((n : Int) == 0) = false := by simp; omega
    have hn1 : (n == 0) = false := by simp; omega
    rw [hn1] at hR
    simp only [Bool.false_or] at hR
    cases hs : tim s with
    | false =>
      rw [hs] at hR
      have e1 : rgt n s e = false := by simpa using hR.symm
      rw [e1]
      go_enter Tryd.func7, Tryd.ntmps7
      go_upto_region 1 with (fail)
      rw [← HW.out]
      go_wp2_with fail
      refine HL.out.mono ?_
      rintro r w1 ⟨rfl, hb1⟩
      have B1 := Lib.hid (FIN.out _ hb1)
      obtain ⟨k2, k3⟩ := HC.out _ hb1
      clear hb1
      go_wp2_with fail
      refine (PT.out s w1).mono ?_
      rintro r w2 ⟨rfl, rfl⟩
      rw [hs]
      go_wp2
      go_ret
      exact ⟨rfl, B1.out⟩
    | true =>
      rw [hs] at hR
      simp only [Bool.not_true, Bool.false_or] at hR
      cases he : tim e with
      | false =>
        rw [he] at hR
        have e1 : rgt n s e = false := by simpa using hR.symm
        rw [e1]
        go_enter Tryd.func7, Tryd.ntmps7
        go_upto_region 1 with (fail)
        rw [← HW.out]
        go_wp2_with fail
        refine HL.out.mono ?_
        rintro r w1 ⟨rfl, hb1⟩
        have B1 := Lib.hid (FIN.out _ hb1)
        obtain ⟨k2, k3⟩ := HC.out _ hb1
        clear hb1
        go_wp2_with fail
        refine (PT.out s w1).mono ?_
        rintro r w2 ⟨rfl, rfl⟩
        rw [hs]
        go_wp2_with fail
        refine (PT.out e w2).mono ?_
        rintro r w3 ⟨rfl, rfl⟩
        rw [he]
        go_wp2
        go_ret
        exact ⟨rfl, B1.out⟩
      | true =>
        rw [he] at hR
        simp only [Bool.not_true, Bool.false_or] at hR
        cases hle : decide (e ≤ s) with
        | true =>
          rw [hle] at hR
          have e1 : rgt n s e = false := by simpa using hR.symm
          rw [e1]
          have hle' := of_decide_eq_true hle
          clear hR e1 hle hn1
          go_enter Tryd.func7, Tryd.ntmps7
          go_upto_region 1 with (fail)
          rw [← HW.out]
          go_wp2_with fail
          refine HL.out.mono ?_
          rintro r w1 ⟨rfl, hb1⟩
          have B1 := Lib.hid (FIN.out _ hb1)
          obtain ⟨k2, k3⟩ := HC.out _ hb1
          clear hb1
          go_wp2_with fail
          refine (PT.out s w1).mono ?_
          rintro r w2 ⟨rfl, rfl⟩
          rw [hs]
          go_wp2_with fail
          refine (PT.out e w2).mono ?_
          rintro r w3 ⟨rfl, rfl⟩
          rw [he]
          go_wp2
          go_ret
          exact ⟨rfl, B1.out⟩
        | false =>
          rw [hle] at hR
          have e1 : rgt n s e = true := by simpa using hR.symm
          rw [e1]
          have hle' : s < e := by have := of_decide_eq_false hle; omega
          clear hR e1 hle hn1
          go_enter Tryd.func7, Tryd.ntmps7
          go_upto_region 1 with (fail)
          rw [← HW.out]
          go_wp2_with fail
          refine HL.out.mono ?_
          rintro r w1 ⟨rfl, hb1⟩
          have B1 := Lib.hid (FIN.out _ hb1)
          obtain ⟨k2, k3⟩ := HC.out _ hb1
          clear hb1
          go_wp2_with fail
          refine (PT.out s w1).mono ?_
          rintro r w2 ⟨rfl, rfl⟩
          rw [hs]
          go_wp2_with fail
          refine (PT.out e w2).mono ?_
          rintro r w3 ⟨rfl, rfl⟩
          rw [he]
          go_wp2
          go_ret
          exact ⟨rfl, B1.out⟩
set_option maxRecDepth 100000 in
set_option maxHeartbeats 2000000 in
theorem Right_r (a : Option Addr) (n c : Nat) (u : Value) (s e : Int) (w : World) : Calls Tryd.prog 8 #[agA (.slice a n c) u s e] w fun r w' => r = .returned (.bool (rgt n s e)) ∧ Below w.heap.size w w' := by
  obtain ⟨W, hW, hk, hb⟩ := new4 w (.slice a n c) u (.int .i64 s) (.int .i64 e) 24
  obtain ⟨c0, c1, c2, c3⟩ := cells4 hk
  have HW := Lib.hid hW
  have HB := Lib.hid hb
  clear hW hk hb
  have PT : Hid (∀ z V, Calls Tryd.prog 24 #[.int .i64 z] V fun r w' => r = .returned (.bool (tim z)) ∧ w' = V) := fun z V => Time_r z V
  unfold rgt
  by_cases h0 : 0 < n
  · have h0' : (0 : Int) < (n : Int) := by omega
    rw [decide_eq_true h0]
    simp only [Bool.true_and]
    cases hs : tim s with
    | false =>
      go_enter Tryd.func8, Tryd.ntmps8
      go_upto_region 1 with (fail)
      rw [← HW.out]
      go_wp2_with fail
      refine (PT.out s W).mono ?_
      rintro r w1 ⟨rfl, rfl⟩
      rw [hs]
      go_wp2
      go_ret
      exact ⟨rfl, HB.out⟩
    | true =>
      simp only [Bool.true_and]
      cases he : tim e with
      | false =>
        go_enter Tryd.func8, Tryd.ntmps8
        go_upto_region 1 with (fail)
        rw [← HW.out]
        go_wp2_with fail
        refine (PT.out s W).mono ?_
        rintro r w1 ⟨rfl, rfl⟩
        rw [hs]
        go_wp2_with fail
        refine (PT.out e w1).mono ?_
        rintro r w2 ⟨rfl, rfl⟩
        rw [he]
        go_wp2
        go_ret
        exact ⟨rfl, HB.out⟩
      | true =>
        simp only [Bool.true_and]
        go_enter Tryd.func8, Tryd.ntmps8
        go_upto_region 1 with (fail)
        rw [← HW.out]
        go_wp2_with fail
        refine (PT.out s W).mono ?_
        rintro r w1 ⟨rfl, rfl⟩
        rw [hs]
        go_wp2_with fail
        refine (PT.out e w1).mono ?_
        rintro r w2 ⟨rfl, rfl⟩
        rw [he]
        go_wp2
        go_ret
        exact ⟨rfl, HB.out⟩
  · have h0' : ¬ (0 : Int) < (n : Int) := by omega
    rw [decide_eq_false h0]
    go_enter Tryd.func8, Tryd.ntmps8
    go_upto_region 1 with (fail)
    rw [← HW.out]
    go_wp2
    go_ret
    exact ⟨rfl, HB.out⟩
end Go.Proofs.YtbimncnicioagaaDoor.Al
namespace Go.Proofs.YtbimncnicioagaaDoor.Al
open Go.RowKit Ch Jt Lb
set_option linter.unusedSimpArgs false
set_option linter.unusedVariables false

theorem st4 {V : World} {q B : Nat} {a b c d : Value} {T : TypeId} (hk : V.heap[q]? = some (.cells #[a, b, c, d] T (0, 0))) (hB : B ≤ q) (x y z u : Value) :
    ∃ W, W = (((V.setCell ⟨q, 0, none⟩ x).setCell ⟨q, 1, none⟩ y).setCell ⟨q, 2, none⟩ z).setCell ⟨q, 3, none⟩ u ∧ W.heap[q]? = some (.cells #[x, y, z, u] T (0, 0)) ∧ (∀ w, Below B w V → Below B w W) :=
  ⟨_, rfl, by simpa using blk_set (blk_set (blk_set (blk_set hk 0 x) 1 y) 2 z) 3 u, fun w h => (((h.setCell (p := ⟨q, 0, none⟩) hB x).setCell (p := ⟨q, 1, none⟩) hB y).setCell (p := ⟨q, 2, none⟩) hB z).setCell (p := ⟨q, 3, none⟩) hB u⟩
theorem size_set (w : World) (a : Addr) (v : Value) : (w.setCell a v).heap.size = w.heap.size := by simp [World.setCell]
theorem set_oth (w : World) (c i : Nat) (u : Value) {k : Nat} (h : k ≠ c) : (w.setCell ⟨c, i, none⟩ u).heap[k]? = w.heap[k]? := Below.heap_setCell _ _ _ _ h
set_option maxRecDepth 100000 in
set_option maxHeartbeats 2000000 in
theorem Merge_c (v u : Value) (oa ob : Option Addr) (na ca nb cb : Nat) (s e s2 e2 : Int) (w : World) : Calls Tryd.prog 18 #[agA v u s e, agA (.slice oa na ca) (.slice ob nb cb) s2 e2] w fun r w' => r = .returned (agA (.slice oa na ca) (.slice ob nb cb) (mrg s e s2) e2) ∧ Below w.heap.size w w' := by
  obtain ⟨W1, hW1, hk1, hb1⟩ := new4 w v u (.int .i64 s) (.int .i64 e) 29
  obtain ⟨W2, hW2, hk2, hb2⟩ := new4 W1 (.slice oa na ca) (.slice ob nb cb) (.int .i64 s2) (.int .i64 e2) 29
  have hs1 : W1.heap.size = w.heap.size + 1 := by rw [hW1]; simp
  have hs2 : W2.heap.size = W1.heap.size + 1 := by rw [hW2]; simp
  obtain ⟨W3, hW3, hk3, hb3⟩ := new4 W2 (.slice none 0 0) (.slice none 0 0) (.int .i64 0) (.int .i64 0) 29
  have hk13 := (hb3.block _ (by omega)).trans ((hb2.block _ (by omega)).trans hk1)
  have hk23 := (hb3.block _ (by omega)).trans hk2
  have hb03 : Below w.heap.size w W3 := (hb1.trans (hb2.mono (by omega))).trans (hb3.mono (by omega))
  rw [hs1] at hk23 hs2
  rw [hs2] at hk3
  obtain ⟨c0, c1, c2, c3⟩ := cells4 hk13
  obtain ⟨d0, d1, d2, d3⟩ := cells4 hk23
  have f2 := frzB hk23 2
  have hq12 : w.heap.size + 1 + 1 ≠ w.heap.size + 1 := by omega
  have HB := Lib.hid hb03
  have HK2 := Lib.hid hk23
  have HK3 := Lib.hid hk3
  have HW1 := Lib.hid hW1
  have HW2 := Lib.hid hW2
  have HW3 := Lib.hid hW3
  have hB1 : w.heap.size ≤ w.heap.size + 1 := by omega
  have hB2 : w.heap.size ≤ w.heap.size + 1 + 1 := by omega
  clear hW1 hW2 hW3 hk1 hk2 hk3 hb1 hb2 hb3 hs1 hs2 hk13 hk23 hb03
  unfold mrg
  by_cases h1 : s2 ≤ e
  · rw [if_pos h1]
    obtain ⟨V, hV⟩ : ∃ V, V = W3.setCell ⟨w.heap.size + 1, 2, none⟩ (.int .i64 (min s2 s)) := ⟨_, rfl⟩
    have hkV : V.heap[w.heap.size + 1]? = some (.cells #[(.slice oa na ca), (.slice ob nb cb), .int .i64 (min s2 s), .int .i64 e2] 29 (0, 0)) := by rw [hV]; simpa using blk_set HK2.out 2 (.int .i64 (min s2 s))
    have hkR : V.heap[w.heap.size + 1 + 1]? = some (.cells #[.slice none 0 0, .slice none 0 0, .int .i64 0, .int .i64 0] 29 (0, 0)) := by rw [hV, set_oth _ _ _ _ hq12]; exact HK3.out
    have hbV : Below w.heap.size w V := by rw [hV]; exact bel_set HB.out hB1 _ _
    obtain ⟨WE, hWE, hkE, hbE⟩ := st4 hkR hB2 (.slice oa na ca) (.slice ob nb cb) (.int .i64 (min s2 s)) (.int .i64 e2)
    have HBE := Lib.hid (hbE _ hbV)
    obtain ⟨x0, x1, x2, x3⟩ := cells4 hkV
    obtain ⟨y0, y1, y2, y3⟩ := cells4 hkR
    have g0 := frzB hkR 0
    have g1 := frzB hkR 1
    have g2 := frzB hkR 2
    have g3 := frzB hkR 3
    obtain ⟨z0, z1, z2, z3⟩ := cells4 hkE
    have HV := Lib.hid hV
    have HWE := Lib.hid hWE
    clear hbE hbV hkV hkR hkE hV hWE HB HK2 HK3
    go_enter Tryd.func18, Tryd.ntmps18
    go_upto_region 1 with (fail)
    rw [← HW1.out, ← HW2.out, ← HW3.out]
    go_upto_region 3 with (fail)
    rw [← HV.out]
    clear c0 c1 c2 c3 d0 d1 d2 d3 f2
    go_wp2
    rw [← HWE.out]
    (with_reducible refine bodyPost_ret (v := agA (.slice oa na ca) (.slice ob nb cb) ((min s2 s)) e2) (by simp [results, Tryd.results18, go_sem, z0, z1, z2, z3]) rfl ⟨rfl, HBE.out⟩)
  · rw [if_neg h1]
    obtain ⟨V, hV⟩ : ∃ V, V = W3 := ⟨_, rfl⟩
    have hkV : V.heap[w.heap.size + 1]? = some (.cells #[(.slice oa na ca), (.slice ob nb cb), .int .i64 s2, .int .i64 e2] 29 (0, 0)) := by rw [hV]; exact HK2.out
    have hkR : V.heap[w.heap.size + 1 + 1]? = some (.cells #[.slice none 0 0, .slice none 0 0, .int .i64 0, .int .i64 0] 29 (0, 0)) := by rw [hV]; exact HK3.out
    have hbV : Below w.heap.size w V := by rw [hV]; exact HB.out
    obtain ⟨WE, hWE, hkE, hbE⟩ := st4 hkR hB2 (.slice oa na ca) (.slice ob nb cb) (.int .i64 s2) (.int .i64 e2)
    have HBE := Lib.hid (hbE _ hbV)
    obtain ⟨x0, x1, x2, x3⟩ := cells4 hkV
    obtain ⟨y0, y1, y2, y3⟩ := cells4 hkR
    have g0 := frzB hkR 0
    have g1 := frzB hkR 1
    have g2 := frzB hkR 2
    have g3 := frzB hkR 3
    obtain ⟨z0, z1, z2, z3⟩ := cells4 hkE
    have HV := Lib.hid hV
    have HWE := Lib.hid hWE
    clear hbE hbV hkV hkR hkE hV hWE HB HK2 HK3
    go_enter Tryd.func18, Tryd.ntmps18
    go_upto_region 1 with (fail)
    rw [← HW1.out, ← HW2.out, ← HW3.out]
    go_upto_region 3 with (fail)
    rw [← HV.out]
    clear c0 c1 c2 c3 d0 d1 d2 d3 f2
    go_wp2
    rw [← HWE.out]
    (with_reducible refine bodyPost_ret (v := agA (.slice oa na ca) (.slice ob nb cb) (s2) e2) (by simp [results, Tryd.results18, go_sem, z0, z1, z2, z3]) rfl ⟨rfl, HBE.out⟩)
set_option maxRecDepth 100000 in
set_option maxHeartbeats 2000000 in
theorem Merge_r (v u : Value) (oa ob : Option Addr) (na ca nb cb : Nat) (s e s2 e2 : Int) (w : World) : Calls Tryd.prog 19 #[agA v u s e, agA (.slice oa na ca) (.slice ob nb cb) s2 e2] w fun r w' => r = .returned (agA (.slice oa na ca) (.slice ob nb cb) (mrg s e s2) e2) ∧ Below w.heap.size w w' := by
  obtain ⟨W1, hW1, hk1, hb1⟩ := new4 w v u (.int .i64 s) (.int .i64 e) 24
  obtain ⟨W2, hW2, hk2, hb2⟩ := new4 W1 (.slice oa na ca) (.slice ob nb cb) (.int .i64 s2) (.int .i64 e2) 24
  have hs1 : W1.heap.size = w.heap.size + 1 := by rw [hW1]; simp
  have hs2 : W2.heap.size = W1.heap.size + 1 := by rw [hW2]; simp
  obtain ⟨W3, hW3, hk3, hb3⟩ := new4 W2 (.slice none 0 0) (.slice none 0 0) (.int .i64 0) (.int .i64 0) 24
  have hk13 := (hb3.block _ (by omega)).trans ((hb2.block _ (by omega)).trans hk1)
  have hk23 := (hb3.block _ (by omega)).trans hk2
  have hb03 : Below w.heap.size w W3 := (hb1.trans (hb2.mono (by omega))).trans (hb3.mono (by omega))
  rw [hs1] at hk23 hs2
  rw [hs2] at hk3
  obtain ⟨c0, c1, c2, c3⟩ := cells4 hk13
  obtain ⟨d0, d1, d2, d3⟩ := cells4 hk23
  have f2 := frzB hk23 2
  have hq12 : w.heap.size + 1 + 1 ≠ w.heap.size + 1 := by omega
  have HB := Lib.hid hb03
  have HK2 := Lib.hid hk23
  have HK3 := Lib.hid hk3
  have HW1 := Lib.hid hW1
  have HW2 := Lib.hid hW2
  have HW3 := Lib.hid hW3
  have hB1 : w.heap.size ≤ w.heap.size + 1 := by omega
  have hB2 : w.heap.size ≤ w.heap.size + 1 + 1 := by omega
  clear hW1 hW2 hW3 hk1 hk2 hk3 hb1 hb2 hb3 hs1 hs2 hk13 hk23 hb03
  unfold mrg
  by_cases h1 : s2 ≤ e
  · rw [if_pos h1]
    by_cases h2 : s < s2
    · rw [show min s2 s = s by omega]
      obtain ⟨V, hV⟩ : ∃ V, V = W3.setCell ⟨w.heap.size + 1, 2, none⟩ (.int .i64 s) := ⟨_, rfl⟩
      have hkV : V.heap[w.heap.size + 1]? = some (.cells #[(.slice oa na ca), (.slice ob nb cb), .int .i64 s, .int .i64 e2] 24 (0, 0)) := by rw [hV]; simpa using blk_set HK2.out 2 (.int .i64 s)
      have hkR : V.heap[w.heap.size + 1 + 1]? = some (.cells #[.slice none 0 0, .slice none 0 0, .int .i64 0, .int .i64 0] 24 (0, 0)) := by rw [hV, set_oth _ _ _ _ hq12]; exact HK3.out
      have hbV : Below w.heap.size w V := by rw [hV]; exact bel_set HB.out hB1 _ _
      obtain ⟨WE, hWE, hkE, hbE⟩ := st4 hkR hB2 (.slice oa na ca) (.slice ob nb cb) (.int .i64 s) (.int .i64 e2)
      have HBE := Lib.hid (hbE _ hbV)
      obtain ⟨x0, x1, x2, x3⟩ := cells4 hkV
      obtain ⟨y0, y1, y2, y3⟩ := cells4 hkR
      have g0 := frzB hkR 0
      have g1 := frzB hkR 1
      have g2 := frzB hkR 2
      have g3 := frzB hkR 3
      obtain ⟨z0, z1, z2, z3⟩ := cells4 hkE
      have HV := Lib.hid hV
      have HWE := Lib.hid hWE
      clear hbE hbV hkV hkR hkE hV hWE HB HK2 HK3
      go_enter Tryd.func19, Tryd.ntmps19
      go_upto_region 1 with (fail)
      rw [← HW1.out, ← HW2.out, ← HW3.out]
      go_upto_region 3 with (fail)
      rw [← HV.out]
      clear c0 c1 c2 c3 d0 d1 d2 d3 f2
      go_wp2
      rw [← HWE.out]
      (with_reducible refine bodyPost_ret (v := agA (.slice oa na ca) (.slice ob nb cb) (s) e2) (by simp [results, Tryd.results19, go_sem, z0, z1, z2, z3]) rfl ⟨rfl, HBE.out⟩)
    · rw [show min s2 s = s2 by omega]
      obtain ⟨V, hV⟩ : ∃ V, V = W3 := ⟨_, rfl⟩
      have hkV : V.heap[w.heap.size + 1]? = some (.cells #[(.slice oa na ca), (.slice ob nb cb), .int .i64 s2, .int .i64 e2] 24 (0, 0)) := by rw [hV]; exact HK2.out
      have hkR : V.heap[w.heap.size + 1 + 1]? = some (.cells #[.slice none 0 0, .slice none 0 0, .int .i64 0, .int .i64 0] 24 (0, 0)) := by rw [hV]; exact HK3.out
      have hbV : Below w.heap.size w V := by rw [hV]; exact HB.out
      obtain ⟨WE, hWE, hkE, hbE⟩ := st4 hkR hB2 (.slice oa na ca) (.slice ob nb cb) (.int .i64 s2) (.int .i64 e2)
      have HBE := Lib.hid (hbE _ hbV)
      obtain ⟨x0, x1, x2, x3⟩ := cells4 hkV
      obtain ⟨y0, y1, y2, y3⟩ := cells4 hkR
      have g0 := frzB hkR 0
      have g1 := frzB hkR 1
      have g2 := frzB hkR 2
      have g3 := frzB hkR 3
      obtain ⟨z0, z1, z2, z3⟩ := cells4 hkE
      have HV := Lib.hid hV
      have HWE := Lib.hid hWE
      clear hbE hbV hkV hkR hkE hV hWE HB HK2 HK3
      go_enter Tryd.func19, Tryd.ntmps19
      go_upto_region 1 with (fail)
      rw [← HW1.out, ← HW2.out, ← HW3.out]
      go_upto_region 3 with (fail)
      rw [← HV.out]
      clear c0 c1 c2 c3 d0 d1 d2 d3 f2
      go_wp2
      rw [← HWE.out]
      (with_reducible refine bodyPost_ret (v := agA (.slice oa na ca) (.slice ob nb cb) (s2) e2) (by simp [results, Tryd.results19, go_sem, z0, z1, z2, z3]) rfl ⟨rfl, HBE.out⟩)
  · rw [if_neg h1]
    obtain ⟨V, hV⟩ : ∃ V, V = W3 := ⟨_, rfl⟩
    have hkV : V.heap[w.heap.size + 1]? = some (.cells #[(.slice oa na ca), (.slice ob nb cb), .int .i64 s2, .int .i64 e2] 24 (0, 0)) := by rw [hV]; exact HK2.out
    have hkR : V.heap[w.heap.size + 1 + 1]? = some (.cells #[.slice none 0 0, .slice none 0 0, .int .i64 0, .int .i64 0] 24 (0, 0)) := by rw [hV]; exact HK3.out
    have hbV : Below w.heap.size w V := by rw [hV]; exact HB.out
    obtain ⟨WE, hWE, hkE, hbE⟩ := st4 hkR hB2 (.slice oa na ca) (.slice ob nb cb) (.int .i64 s2) (.int .i64 e2)
    have HBE := Lib.hid (hbE _ hbV)
    obtain ⟨x0, x1, x2, x3⟩ := cells4 hkV
    obtain ⟨y0, y1, y2, y3⟩ := cells4 hkR
    have g0 := frzB hkR 0
    have g1 := frzB hkR 1
    have g2 := frzB hkR 2
    have g3 := frzB hkR 3
    obtain ⟨z0, z1, z2, z3⟩ := cells4 hkE
    have HV := Lib.hid hV
    have HWE := Lib.hid hWE
    clear hbE hbV hkV hkR hkE hV hWE HB HK2 HK3
    go_enter Tryd.func19, Tryd.ntmps19
    go_upto_region 1 with (fail)
    rw [← HW1.out, ← HW2.out, ← HW3.out]
    go_upto_region 3 with (fail)
    rw [← HV.out]
    clear c0 c1 c2 c3 d0 d1 d2 d3 f2
    go_wp2
    rw [← HWE.out]
    (with_reducible refine bodyPost_ret (v := agA (.slice oa na ca) (.slice ob nb cb) (s2) e2) (by simp [results, Tryd.results19, go_sem, z0, z1, z2, z3]) rfl ⟨rfl, HBE.out⟩)
end Go.Proofs.YtbimncnicioagaaDoor.Al
namespace Go.Proofs.YtbimncnicioagaaDoor.Al
open Go.RowKit Ch Jt Lb
set_option linter.unusedSimpArgs false
set_option linter.unusedVariables false

set_option maxRecDepth 100000 in
set_option maxHeartbeats 2000000 in
theorem Resolve_c (oa ob : Option Addr) (na ca nb cb : Nat) (s e now : Int) (hr : -9223372036854775808 ≤ s ∧ e ≤ 9223372036854775807) (w : World) : Calls Tryd.prog 9 #[agA (.slice oa na ca) (.slice ob nb cb) s e, .int .i64 now] w fun r w' => r = .returned (agA (.slice oa na ca) (.slice ob nb cb) s (rsv s e now)) ∧ Below w.heap.size w w' := by
  obtain ⟨W1, hW1, hk1, hb1⟩ := new4 w (.slice oa na ca) (.slice ob nb cb) (.int .i64 s) (.int .i64 e) 29
  have hs1 : W1.heap.size = w.heap.size + 1 := by rw [hW1]; simp
  obtain ⟨W2, hW2, hk2, hb2⟩ := new4 W1 (.slice none 0 0) (.slice none 0 0) (.int .i64 0) (.int .i64 0) 29
  have hs2 : W2.heap.size = w.heap.size + 1 + 1 := by rw [hW2]; simp [hs1]
  rw [hs1] at hk2
  have hb02 : Below w.heap.size w W2 := hb1.trans (hb2.mono (by omega))
  have hk1' := (hb2.block _ (by omega)).trans hk1
  obtain ⟨c0, c1, c2, c3⟩ := cells4 hk1'
  have HW1 := Lib.hid hW1
  have HW2 := Lib.hid hW2
  have HA := Lib.hid (Active_c (.slice oa na ca) (.slice ob nb cb) s e now W2)
  have HK : Hid (∀ V, Below W2.heap.size W2 V → V.heap[w.heap.size]? = some (.cells #[(.slice oa na ca), (.slice ob nb cb), .int .i64 s, .int .i64 e] 29 (0, 0)) ∧ V.heap[w.heap.size + 1]? = some (.cells #[.slice none 0 0, .slice none 0 0, .int .i64 0, .int .i64 0] 29 (0, 0)) ∧ Below w.heap.size w V) := fun V hV =>
    ⟨(hV.block _ (by omega)).trans hk1', (hV.block _ (by omega)).trans hk2, hb02.trans (hV.mono (by omega))⟩
  have hne : w.heap.size + 1 ≠ w.heap.size := by omega
  have hB0 : w.heap.size ≤ w.heap.size := Nat.le_refl _
  have hB1 : w.heap.size ≤ w.heap.size + 1 := by omega
  clear hW1 hW2 hk1 hk2 hb1 hb2 hs1 hs2 hb02 hk1'
  unfold rsv
  cases ha : act s e now with
  | true =>
    rw [ha] at HA
    rw [if_pos rfl]
    have ha1 : s ≤ now ∧ now < e := by unfold act at ha; simpa using ha
    obtain ⟨ha1, ha2⟩ := ha1
    have hw1 : s + 1 ≤ 9223372036854775807 := by omega
    have hw2 : -9223372036854775808 ≤ s + 1 := by omega
    go_enter Tryd.func9, Tryd.ntmps9
    go_upto_region 1 with (fail)
    rw [← HW1.out, ← HW2.out]
    go_wp2_with fail
    refine HA.out.mono ?_
    rintro r w3 ⟨rfl, hb3⟩
    obtain ⟨hkB, hkR0, hbw⟩ := HK.out w3 hb3
    obtain ⟨e0, e1, e2, e3⟩ := cells4 hkB
    have f3 := frzB hkB 3
    obtain ⟨V, hV⟩ : ∃ V, V = w3.setCell ⟨w.heap.size, 3, none⟩ (.int .i64 (max now (s + 1))) := ⟨_, rfl⟩
    have hkV : V.heap[w.heap.size]? = some (.cells #[(.slice oa na ca), (.slice ob nb cb), .int .i64 s, .int .i64 (max now (s + 1))] 29 (0, 0)) := by rw [hV]; simpa using blk_set hkB 3 (.int .i64 (max now (s + 1)))
    have hkR : V.heap[w.heap.size + 1]? = some (.cells #[.slice none 0 0, .slice none 0 0, .int .i64 0, .int .i64 0] 29 (0, 0)) := by rw [hV, set_oth _ _ _ _ hne]; exact hkR0
    have hbV : Below w.heap.size w V := by rw [hV]; exact bel_set hbw hB0 _ _
    obtain ⟨WE, hWE, hkE, hbE⟩ := st4 hkR hB1 (.slice oa na ca) (.slice ob nb cb) (.int .i64 s) (.int .i64 (max now (s + 1)))
    have HBE := Lib.hid (hbE _ hbV)
    obtain ⟨x0, x1, x2, x3⟩ := cells4 hkV
    obtain ⟨y0, y1, y2, y3⟩ := cells4 hkR
    have g0 := frzB hkR 0
    have g1 := frzB hkR 1
    have g2 := frzB hkR 2
    have g3 := frzB hkR 3
    obtain ⟨z0, z1, z2, z3⟩ := cells4 hkE
    have HV := Lib.hid hV
    have HWE := Lib.hid hWE
    clear hbE hbV hkV hkR hkE hV hWE hkB hkR0 hbw hb3 HA HK c0 c1 c2 c3
    go_upto_region 3 with (fail)
    rw [← HV.out]
    clear e0 e1 e2 e3 f3
    go_wp2
    rw [← HWE.out]
    (with_reducible refine bodyPost_ret (v := agA (.slice oa na ca) (.slice ob nb cb) s ((max now (s + 1)))) (by simp [results, Tryd.results9, go_sem, z0, z1, z2, z3]) rfl ⟨rfl, HBE.out⟩)
  | false =>
    rw [ha] at HA
    rw [if_neg (by decide)]
    go_enter Tryd.func9, Tryd.ntmps9
    go_upto_region 1 with (fail)
    rw [← HW1.out, ← HW2.out]
    go_wp2_with fail
    refine HA.out.mono ?_
    rintro r w3 ⟨rfl, hb3⟩
    obtain ⟨hkB, hkR0, hbw⟩ := HK.out w3 hb3
    obtain ⟨e0, e1, e2, e3⟩ := cells4 hkB
    have f3 := frzB hkB 3
    obtain ⟨V, hV⟩ : ∃ V, V = w3 := ⟨_, rfl⟩
    have hkV : V.heap[w.heap.size]? = some (.cells #[(.slice oa na ca), (.slice ob nb cb), .int .i64 s, .int .i64 e] 29 (0, 0)) := by rw [hV]; exact hkB
    have hkR : V.heap[w.heap.size + 1]? = some (.cells #[.slice none 0 0, .slice none 0 0, .int .i64 0, .int .i64 0] 29 (0, 0)) := by rw [hV]; exact hkR0
    have hbV : Below w.heap.size w V := by rw [hV]; exact hbw
    obtain ⟨WE, hWE, hkE, hbE⟩ := st4 hkR hB1 (.slice oa na ca) (.slice ob nb cb) (.int .i64 s) (.int .i64 e)
    have HBE := Lib.hid (hbE _ hbV)
    obtain ⟨x0, x1, x2, x3⟩ := cells4 hkV
    obtain ⟨y0, y1, y2, y3⟩ := cells4 hkR
    have g0 := frzB hkR 0
    have g1 := frzB hkR 1
    have g2 := frzB hkR 2
    have g3 := frzB hkR 3
    obtain ⟨z0, z1, z2, z3⟩ := cells4 hkE
    have HV := Lib.hid hV
    have HWE := Lib.hid hWE
    clear hbE hbV hkV hkR hkE hV hWE hkB hkR0 hbw hb3 HA HK c0 c1 c2 c3
    go_upto_region 3 with (fail)
    rw [← HV.out]
    clear e0 e1 e2 e3 f3
    go_wp2
    rw [← HWE.out]
    (with_reducible refine bodyPost_ret (v := agA (.slice oa na ca) (.slice ob nb cb) s (e)) (by simp [results, Tryd.results9, go_sem, z0, z1, z2, z3]) rfl ⟨rfl, HBE.out⟩)
set_option maxRecDepth 100000 in
set_option maxHeartbeats 2000000 in
theorem Resolve_r (oa ob : Option Addr) (na ca nb cb : Nat) (s e now : Int) (hr : -9223372036854775808 ≤ s ∧ e ≤ 9223372036854775807) (w : World) : Calls Tryd.prog 12 #[agA (.slice oa na ca) (.slice ob nb cb) s e, .int .i64 now] w fun r w' => r = .returned (agA (.slice oa na ca) (.slice ob nb cb) s (rsv s e now)) ∧ Below w.heap.size w w' := by
  obtain ⟨W1, hW1, hk1, hb1⟩ := new4 w (.slice oa na ca) (.slice ob nb cb) (.int .i64 s) (.int .i64 e) 24
  have hs1 : W1.heap.size = w.heap.size + 1 := by rw [hW1]; simp
  obtain ⟨W2, hW2, hk2, hb2⟩ := new4 W1 (.slice none 0 0) (.slice none 0 0) (.int .i64 0) (.int .i64 0) 24
  have hs2 : W2.heap.size = w.heap.size + 1 + 1 := by rw [hW2]; simp [hs1]
  rw [hs1] at hk2
  have hb02 : Below w.heap.size w W2 := hb1.trans (hb2.mono (by omega))
  have hk1' := (hb2.block _ (by omega)).trans hk1
  obtain ⟨c0, c1, c2, c3⟩ := cells4 hk1'
  have HW1 := Lib.hid hW1
  have HW2 := Lib.hid hW2
  have HA := Lib.hid (Active_r (.slice oa na ca) (.slice ob nb cb) s e now W2)
  have HK : Hid (∀ V, Below W2.heap.size W2 V → V.heap[w.heap.size]? = some (.cells #[(.slice oa na ca), (.slice ob nb cb), .int .i64 s, .int .i64 e] 24 (0, 0)) ∧ V.heap[w.heap.size + 1]? = some (.cells #[.slice none 0 0, .slice none 0 0, .int .i64 0, .int .i64 0] 24 (0, 0)) ∧ Below w.heap.size w V) := fun V hV =>
    ⟨(hV.block _ (by omega)).trans hk1', (hV.block _ (by omega)).trans hk2, hb02.trans (hV.mono (by omega))⟩
  have hne : w.heap.size + 1 ≠ w.heap.size := by omega
  have hB0 : w.heap.size ≤ w.heap.size := Nat.le_refl _
  have hB1 : w.heap.size ≤ w.heap.size + 1 := by omega
  clear hW1 hW2 hk1 hk2 hb1 hb2 hs1 hs2 hb02 hk1'
  unfold rsv
  cases ha : act s e now with
  | true =>
    rw [ha] at HA
    rw [if_pos rfl]
    have ha1 : s ≤ now ∧ now < e := by unfold act at ha; simpa using ha
    obtain ⟨ha1, ha2⟩ := ha1
    by_cases hs : now = s
    · subst hs
      rw [show max now (now + 1) = now + 1 by omega]
      have hw1 : now + 1 ≤ 9223372036854775807 := by omega
      have hw2 : -9223372036854775808 ≤ now + 1 := by omega
      go_enter Tryd.func12, Tryd.ntmps12
      go_upto_region 1 with (fail)
      rw [← HW1.out, ← HW2.out]
      go_wp2_with fail
      refine HA.out.mono ?_
      rintro r w3 ⟨rfl, hb3⟩
      obtain ⟨hkB, hkR0, hbw⟩ := HK.out w3 hb3
      obtain ⟨e0, e1, e2, e3⟩ := cells4 hkB
      have f3 := frzB hkB 3
      obtain ⟨V, hV⟩ : ∃ V, V = w3.setCell ⟨w.heap.size, 3, none⟩ (.int .i64 (now + 1)) := ⟨_, rfl⟩
      have hkV : V.heap[w.heap.size]? = some (.cells #[(.slice oa na ca), (.slice ob nb cb), .int .i64 now, .int .i64 (now + 1)] 24 (0, 0)) := by rw [hV]; simpa using blk_set hkB 3 (.int .i64 (now + 1))
      have hkR : V.heap[w.heap.size + 1]? = some (.cells #[.slice none 0 0, .slice none 0 0, .int .i64 0, .int .i64 0] 24 (0, 0)) := by rw [hV, set_oth _ _ _ _ hne]; exact hkR0
      have hbV : Below w.heap.size w V := by rw [hV]; exact bel_set hbw hB0 _ _
      obtain ⟨WE, hWE, hkE, hbE⟩ := st4 hkR hB1 (.slice oa na ca) (.slice ob nb cb) (.int .i64 now) (.int .i64 (now + 1))
      have HBE := Lib.hid (hbE _ hbV)
      obtain ⟨x0, x1, x2, x3⟩ := cells4 hkV
      obtain ⟨y0, y1, y2, y3⟩ := cells4 hkR
      have g0 := frzB hkR 0
      have g1 := frzB hkR 1
      have g2 := frzB hkR 2
      have g3 := frzB hkR 3
      obtain ⟨z0, z1, z2, z3⟩ := cells4 hkE
      have HV := Lib.hid hV
      have HWE := Lib.hid hWE
      clear hbE hbV hkV hkR hkE hV hWE hkB hkR0 hbw hb3 HA HK c0 c1 c2 c3
      go_upto_region 6 with (fail)
      rw [← HV.out]
      clear e0 e1 e2 e3 f3
      go_wp2
      rw [← HWE.out]
      (with_reducible refine bodyPost_ret (v := agA (.slice oa na ca) (.slice ob nb cb) now ((now + 1))) (by simp [results, Tryd.results12, go_sem, z0, z1, z2, z3]) rfl ⟨rfl, HBE.out⟩)
    · rw [show max now (s + 1) = now by omega]
      go_enter Tryd.func12, Tryd.ntmps12
      go_upto_region 1 with (fail)
      rw [← HW1.out, ← HW2.out]
      go_wp2_with fail
      refine HA.out.mono ?_
      rintro r w3 ⟨rfl, hb3⟩
      obtain ⟨hkB, hkR0, hbw⟩ := HK.out w3 hb3
      obtain ⟨e0, e1, e2, e3⟩ := cells4 hkB
      have f3 := frzB hkB 3
      obtain ⟨V, hV⟩ : ∃ V, V = w3.setCell ⟨w.heap.size, 3, none⟩ (.int .i64 now) := ⟨_, rfl⟩
      have hkV : V.heap[w.heap.size]? = some (.cells #[(.slice oa na ca), (.slice ob nb cb), .int .i64 s, .int .i64 now] 24 (0, 0)) := by rw [hV]; simpa using blk_set hkB 3 (.int .i64 now)
      have hkR : V.heap[w.heap.size + 1]? = some (.cells #[.slice none 0 0, .slice none 0 0, .int .i64 0, .int .i64 0] 24 (0, 0)) := by rw [hV, set_oth _ _ _ _ hne]; exact hkR0
      have hbV : Below w.heap.size w V := by rw [hV]; exact bel_set hbw hB0 _ _
      obtain ⟨WE, hWE, hkE, hbE⟩ := st4 hkR hB1 (.slice oa na ca) (.slice ob nb cb) (.int .i64 s) (.int .i64 now)
      have HBE := Lib.hid (hbE _ hbV)
      obtain ⟨x0, x1, x2, x3⟩ := cells4 hkV
      obtain ⟨y0, y1, y2, y3⟩ := cells4 hkR
      have g0 := frzB hkR 0
      have g1 := frzB hkR 1
      have g2 := frzB hkR 2
      have g3 := frzB hkR 3
      obtain ⟨z0, z1, z2, z3⟩ := cells4 hkE
      have HV := Lib.hid hV
      have HWE := Lib.hid hWE
      clear hbE hbV hkV hkR hkE hV hWE hkB hkR0 hbw hb3 HA HK c0 c1 c2 c3
      go_upto_region 6 with (fail)
      rw [← HV.out]
      clear e0 e1 e2 e3 f3
      go_wp2
      rw [← HWE.out]
      (with_reducible refine bodyPost_ret (v := agA (.slice oa na ca) (.slice ob nb cb) s (now)) (by simp [results, Tryd.results12, go_sem, z0, z1, z2, z3]) rfl ⟨rfl, HBE.out⟩)
  | false =>
    rw [ha] at HA
    rw [if_neg (by decide)]
    go_enter Tryd.func12, Tryd.ntmps12
    go_upto_region 1 with (fail)
    rw [← HW1.out, ← HW2.out]
    go_wp2_with fail
    refine HA.out.mono ?_
    rintro r w3 ⟨rfl, hb3⟩
    obtain ⟨hkB, hkR0, hbw⟩ := HK.out w3 hb3
    obtain ⟨e0, e1, e2, e3⟩ := cells4 hkB
    have f3 := frzB hkB 3
    obtain ⟨V, hV⟩ : ∃ V, V = w3 := ⟨_, rfl⟩
    have hkV : V.heap[w.heap.size]? = some (.cells #[(.slice oa na ca), (.slice ob nb cb), .int .i64 s, .int .i64 e] 24 (0, 0)) := by rw [hV]; exact hkB
    have hkR : V.heap[w.heap.size + 1]? = some (.cells #[.slice none 0 0, .slice none 0 0, .int .i64 0, .int .i64 0] 24 (0, 0)) := by rw [hV]; exact hkR0
    have hbV : Below w.heap.size w V := by rw [hV]; exact hbw
    obtain ⟨WE, hWE, hkE, hbE⟩ := st4 hkR hB1 (.slice oa na ca) (.slice ob nb cb) (.int .i64 s) (.int .i64 e)
    have HBE := Lib.hid (hbE _ hbV)
    obtain ⟨x0, x1, x2, x3⟩ := cells4 hkV
    obtain ⟨y0, y1, y2, y3⟩ := cells4 hkR
    have g0 := frzB hkR 0
    have g1 := frzB hkR 1
    have g2 := frzB hkR 2
    have g3 := frzB hkR 3
    obtain ⟨z0, z1, z2, z3⟩ := cells4 hkE
    have HV := Lib.hid hV
    have HWE := Lib.hid hWE
    clear hbE hbV hkV hkR hkE hV hWE hkB hkR0 hbw hb3 HA HK c0 c1 c2 c3
    go_upto_region 2 with (fail)
    rw [← HV.out]
    clear e0 e1 e2 e3 f3
    go_wp2
    rw [← HWE.out]
    (with_reducible refine bodyPost_ret (v := agA (.slice oa na ca) (.slice ob nb cb) s (e)) (by simp [results, Tryd.results12, go_sem, z0, z1, z2, z3]) rfl ⟨rfl, HBE.out⟩)
end Go.Proofs.YtbimncnicioagaaDoor.Al
namespace Go.Proofs.YtbimncnicioagaaDoor.Al
open Go.RowKit Ch Jt Lb
set_option linter.unusedSimpArgs false
set_option linter.unusedVariables false

theorem bdr (W : World) : Below W.heap.size W W.drew := (Below.refl _ _).drew
theorem btr {a b d : World} (h : Below a.heap.size a b) (k : Below b.heap.size b d) : Below a.heap.size a d := h.trans (k.mono h.size)
/-- a cell's value -/
def cg (w : World) (a : Addr) : Value := (w.cell? a).getD (.bool false)
theorem cg_of {w : World} {a : Addr} {v : Value} (h : w.cell? a = some v) : w.cell? a = some (cg w a) := by unfold cg; rw [h]; rfl
theorem owf_kept {T : TypeId} {B : Nat} {v : Value} {fs : List FB} {w W : World} (h : OwF T B v fs w) (hb : ∀ g, B ≤ g → g < w.heap.size → W.heap[g]? = w.heap[g]?) : OwF T B v fs W := by
  refine ⟨h.1, ?_⟩
  rcases h.2 with h | ⟨g, cap, cur, rfl, e2, e3, e4⟩
  · exact .inl h
  · exact .inr ⟨g, cap, cur, rfl, e2, (hb g e2 (Array.getElem?_eq_some_iff.1 e3).1).trans e3, e4⟩
theorem set4_oth (V : World) (q : Nat) (x y z u : Value) {k : Nat} (h : k ≠ q) : ((((V.setCell ⟨q, 0, none⟩ x).setCell ⟨q, 1, none⟩ y).setCell ⟨q, 2, none⟩ z).setCell ⟨q, 3, none⟩ u).heap[k]? = V.heap[k]? := by
  rw [set_oth _ _ _ _ h, set_oth _ _ _ _ h, set_oth _ _ _ _ h, set_oth _ _ _ _ h]
theorem owf_pl {T : TypeId} {B n : Nat} {ao : Option Addr} {cap : Nat} {fs : List FB} {w : World} (h : OwF T B (.slice ao n cap) fs w) : Pl ao := by
  rcases h.2 with ⟨e, _⟩ | ⟨g, _, _, e, _⟩
  · injection e with e _ _; exact .inl e
  · injection e with e _ _; exact .inr ⟨g, e⟩
/-- two slices of pairs that can be read -/
structure Rd2 (v u : Value) (gs hs : List FB) (w : World) : Prop where
  a : RdF v gs w
  b : RdF u hs w
theorem Rd2.go {v u : Value} {gs hs : List FB} {w W : World} (h : Rd2 v u gs hs w) (hb : Below w.heap.size w W) : Rd2 v u gs hs W := ⟨h.a.go hb, h.b.go hb⟩
def PlQ (gs hs : List FB) (s e : Int) (w : World) (r : Ending) (w' : World) : Prop := ∃ b1 d1 b2 d2, r = .returned (agA (.slice b1 gs.length d1) (.slice b2 hs.length d2) s e) ∧ Rd2 (.slice b1 gs.length d1) (.slice b2 hs.length d2) gs hs w' ∧ Below w.heap.size w w' ∧ Pl b1 ∧ Pl b2
set_option maxRecDepth 100000 in
set_option maxHeartbeats 4000000 in
theorem PlainA_c (a1 a2 : Option Addr) (c1 c2 : Nat) (gs hs : List FB) (s e : Int) (w : World) (h : Rd2 (.slice a1 gs.length c1) (.slice a2 hs.length c2) gs hs w) (p1 : Pl a1) (p2 : Pl a2) (m1 : gs.length ≤ 1000) (m2 : hs.length ≤ 1000) :
    Calls Tryd.prog 11 #[agA (.slice a1 gs.length c1) (.slice a2 hs.length c2) s e] w (PlQ gs hs s e w) := by
  obtain ⟨W1, hW1, hk1, hb1⟩ := new4 w (.slice a1 gs.length c1) (.slice a2 hs.length c2) (.int .i64 s) (.int .i64 e) 29
  have hs1 : W1.heap.size = w.heap.size + 1 := by rw [hW1]; simp
  obtain ⟨W2, hW2, hk2, hb2⟩ := new4 W1 (.slice none 0 0) (.slice none 0 0) (.int .i64 0) (.int .i64 0) 24
  have hs2 : W2.heap.size = w.heap.size + 1 + 1 := by rw [hW2]; simp [hs1]
  rw [hs1] at hk2
  have hb02 : Below w.heap.size w W2 := hb1.trans (hb2.mono (by omega))
  have hk1' := (hb2.block _ (by omega)).trans hk1
  have hR2 := h.go hb02
  have HW1 := Lib.hid hW1
  have HW2 := Lib.hid hW2
  have HP1 : Hid (∀ V, Below W2.heap.size W2 V → Calls Tryd.prog 26 #[.agg #[.slice a1 gs.length c1]] V fun r w' => ∃ b d, r = .returned (.slice b gs.length d) ∧ OwF 56 V.heap.size (.slice b gs.length d) gs w' ∧ Below V.heap.size V w') := fun V hV => by
    refine (Plain_c a1 c1 gs V (hR2.go hV).a p1 m1).mono ?_
    rintro r w' ⟨v, rfl, ho, hb⟩
    obtain ⟨b, d, rfl⟩ := own_lenF ho
    exact ⟨b, d, rfl, ho, hb⟩
  have HP2 : Hid (∀ V, Below W2.heap.size W2 V → Calls Tryd.prog 26 #[.agg #[.slice a2 hs.length c2]] V fun r w' => ∃ b d, r = .returned (.slice b hs.length d) ∧ OwF 56 V.heap.size (.slice b hs.length d) hs w' ∧ Below V.heap.size V w') := fun V hV => by
    refine (Plain_c a2 c2 hs V (hR2.go hV).b p2 m2).mono ?_
    rintro r w' ⟨v, rfl, ho, hb⟩
    obtain ⟨b, d, rfl⟩ := own_lenF ho
    exact ⟨b, d, rfl, ho, hb⟩
  have HS : Hid (∀ V, Below W2.heap.size W2 V → V.heap[w.heap.size]? = some (obA (.slice a1 gs.length c1) (.slice a2 hs.length c2) s e) ∧ V.heap[w.heap.size + 1]? = some (obB (.slice none 0 0) (.slice none 0 0) 0 0) ∧ Below w.heap.size w V) := fun V hV =>
    ⟨(hV.block _ (by omega)).trans hk1', (hV.block _ (by omega)).trans hk2, hb02.trans (hV.mono (by omega))⟩
  have HZ : Hid (W2.heap.size = w.heap.size + 1 + 1) := hs2
  clear hW1 hW2 hk1 hk2 hb1 hb2 hs1 hs2 hb02 hk1' hR2 h
  have HE : Hid (∀ w3 w4 b1 d1 b2 d2, Below W2.heap.size W2 w3 → Below w3.heap.size w3 w4 → OwF 56 W2.drew.heap.size (.slice b1 gs.length d1) gs w3 → OwF 56 w3.heap.size (.slice b2 hs.length d2) hs w4 →
      ∃ WE, WE = (((w4.setCell ⟨w.heap.size + 1, 0, none⟩ (.slice b1 gs.length d1)).setCell ⟨w.heap.size + 1, 1, none⟩ (.slice b2 hs.length d2)).setCell ⟨w.heap.size + 1, 2, none⟩ (.int .i64 s)).setCell ⟨w.heap.size + 1, 3, none⟩ (.int .i64 e) ∧
        WE.heap[w.heap.size]? = some (obA (.slice a1 gs.length c1) (.slice a2 hs.length c2) s e) ∧ WE.heap[w.heap.size + 1]? = some (obB (.slice b1 gs.length d1) (.slice b2 hs.length d2) s e) ∧ Rd2 (.slice b1 gs.length d1) (.slice b2 hs.length d2) gs hs WE ∧ Below w.heap.size w WE) := fun w3 w4 b1 d1 b2 d2 hb3 hb4 ho1 ho2 => by
    have hz := HZ.out
    obtain ⟨q1, q2, q3⟩ := HS.out w4 (btr hb3 hb4)
    obtain ⟨WE, hWE, hkE, hbE⟩ := st4 q2 (show w.heap.size ≤ w.heap.size + 1 by omega) (.slice b1 gs.length d1) (.slice b2 hs.length d2) (.int .i64 s) (.int .i64 e)
    have hoth : ∀ k, k ≠ w.heap.size + 1 → WE.heap[k]? = w4.heap[k]? := fun k hk => by rw [hWE]; exact set4_oth _ _ _ _ _ _ hk
    have hsz := hb3.size
    refine ⟨WE, hWE, (hoth _ (by omega)).trans q1, hkE, ⟨?_, ?_⟩, hbE _ q3⟩
    · refine (owf_kept (ho1.go hb4) fun g hg hg2 => hoth g ?_).rd
      have : W2.drew.heap.size = W2.heap.size := rfl
      omega
    · exact (owf_kept ho2 fun g hg hg2 => hoth g (by omega)).rd
  obtain ⟨q1, q2, _⟩ := HS.out _ (bdr W2)
  obtain ⟨x0, x1, x2, x3⟩ := cells4 q1
  obtain ⟨y0, y1, y2, y3⟩ := cells4 q2
  have BD := Lib.hid (bdr W2)
  clear q1 q2
  go_enter Tryd.func11, Tryd.ntmps11
  go_upto_region 1 with (fail)
  rw [← HW1.out, ← HW2.out]
  go_region_held3 (fun V => V.cell? ⟨w.heap.size, 0, none⟩ = some (.slice a1 gs.length c1) ∧ V.cell? ⟨w.heap.size, 1, none⟩ = some (.slice a2 hs.length c2) ∧ V.cell? ⟨w.heap.size, 2, none⟩ = some (.int .i64 s) ∧ V.cell? ⟨w.heap.size, 3, none⟩ = some (.int .i64 e))
    (first | exact ⟨x0, x1, x2, x3⟩ | exact HX3.out | exact HX4.out | (rw [← HWE.out]; exact HXE.out))
    (first | (go_at_call 26; (with_reducible refine (HP1.out _ (bdr W2)).mono ?_); rintro r w3 ⟨b1, d1, rfl, ho1, hb3⟩; have HO1 := Lib.hid ho1; have HB3 := Lib.hid (btr BD.out hb3); have HX3 := Lib.hid (cells4 (HS.out _ HB3.out).1); clear ho1 hb3) | (go_at_call 26; (with_reducible refine (HP2.out _ HB3.out).mono ?_); rintro r w4 ⟨b2, d2, rfl, ho2, hb4⟩; have HO2 := Lib.hid ho2; have HX4 := Lib.hid (cells4 (HS.out _ (btr HB3.out hb4)).1); have hkR4 := (HS.out _ (btr HB3.out hb4)).2.1; obtain ⟨y0, y1, y2, y3⟩ := cells4 hkR4; have g0 := frzB hkR4 0; have g1 := frzB hkR4 1; have g2 := frzB hkR4 2; have g3 := frzB hkR4 3; obtain ⟨WE, hWE, hkA, hkE, hrd, hbE⟩ := HE.out w3 w4 b1 d1 b2 d2 HB3.out hb4 HO1.out ho2; have HWE := Lib.hid hWE; have HXE := Lib.hid (cells4 hkA); have HKE := Lib.hid hkE; have HRD := Lib.hid hrd; have HBE := Lib.hid hbE; clear ho2 hb4 hWE hkA hkE hrd hbE hkR4))
  all_goals
    rw [← HWE.out]
    obtain ⟨z0, z1, z2, z3⟩ := cells4 HKE.out
    have HQ : PlQ gs hs s e w (.returned (agA (.slice b1 gs.length d1) (.slice b2 hs.length d2) s e)) WE := ⟨b1, d1, b2, d2, rfl, HRD.out, HBE.out, owf_pl HO1.out, owf_pl HO2.out⟩
    go_wp2
    (with_reducible refine bodyPost_ret (v := agA (.slice b1 gs.length d1) (.slice b2 hs.length d2) s e) (by simp [results, Tryd.results11, go_sem, z0, z1, z2, z3]) rfl HQ)
end Go.Proofs.YtbimncnicioagaaDoor.Al
namespace Go.Proofs.YtbimncnicioagaaDoor.Al
open Go.RowKit Ch Jt Lb
set_option linter.unusedSimpArgs false
set_option linter.unusedVariables false

def keyS (gs : List FB) : ByteArray := ⟨#[97, 47]⟩ ++ Jt.mkS (txtL gs)
set_option maxRecDepth 100000 in
set_option maxHeartbeats 2000000 in
theorem Key_c (a1 : Option Addr) (c1 : Nat) (gs : List FB) (u : Value) (s e : Int) (w : World) (hE : Ev w) (hR : RdF (.slice a1 gs.length c1) gs w) (hm : gs.length ≤ 100) (hs : ∀ x ∈ gs, shortF x) (hv : ∀ x ∈ gs, vldB x.2.data.toList = true) :
    Calls Tryd.prog 15 #[agA (.slice a1 gs.length c1) u s e] w fun r w' => r = .returned (.string (keyS gs)) ∧ Below w.heap.size w w' := by
  obtain ⟨W, hW, hk, hb⟩ := new4 w (.slice a1 gs.length c1) u (.int .i64 s) (.int .i64 e) 29
  obtain ⟨c0, c1, c2, c3⟩ := cells4 hk
  have HS := Lib.hid (String_c a1 _ gs W (hE.go hb) (hR.go hb) hm hs hv)
  have HW := Lib.hid hW
  have HB := Lib.hid hb
  have hsz : (Jt.mkS (txtL gs)).size ≤ 220102 := by
    have := prs_len hs
    rw [Jt.size_mkS]; unfold txtL; simp only [List.length_cons, List.length_append, List.length_nil]; omega
  clear hW hk hb hE hR hs hv
  unfold keyS
  revert HS hsz
  generalize Jt.mkS (txtL gs) = t
  intro HS hsz
  go_enter Tryd.func15, Tryd.ntmps15
  go_upto_region 1 with (fail)
  rw [← HW.out]
  go_wp2_with fail
  refine HS.out.mono ?_
  rintro r w1 ⟨rfl, hb1⟩
  have HB1 : Hid (Below w.heap.size w w1) := HB.out.trans (hb1.mono HB.out.size)
  clear hb1
  go_wp2
  go_ret
  exact ⟨rfl, HB1.out⟩
/-- two that are the same -/
def SmQ (w : World) (r : Ending) (w' : World) : Prop := r = .returned (.bool true) ∧ Below w.heap.size w w'
set_option maxRecDepth 100000 in
set_option maxHeartbeats 2000000 in
theorem Same_c (a1 a2 b1 b2 : Option Addr) (c1 c2 d1 d2 : Nat) (gs hs : List FB) (s e : Int) (w : World) (h : Rd2 (.slice a1 gs.length c1) (.slice a2 hs.length c2) gs hs w) (k : Rd2 (.slice b1 gs.length d1) (.slice b2 hs.length d2) gs hs w) (m1 : gs.length ≤ 1000) (m2 : hs.length ≤ 1000) :
    Calls Tryd.prog 10 #[agA (.slice a1 gs.length c1) (.slice a2 hs.length c2) s e, agA (.slice b1 gs.length d1) (.slice b2 hs.length d2) s e] w (SmQ w) := by
  obtain ⟨W1, hW1, hk1, hb1⟩ := new4 w (.slice a1 gs.length c1) (.slice a2 hs.length c2) (.int .i64 s) (.int .i64 e) 24
  have hs1 : W1.heap.size = w.heap.size + 1 := by rw [hW1]; simp
  obtain ⟨W2, hW2, hk2, hb2⟩ := new4 W1 (.slice b1 gs.length d1) (.slice b2 hs.length d2) (.int .i64 s) (.int .i64 e) 24
  have hs2 : W2.heap.size = w.heap.size + 1 + 1 := by rw [hW2]; simp [hs1]
  rw [hs1] at hk2
  have hb02 : Below w.heap.size w W2 := hb1.trans (hb2.mono (by omega))
  have hk1' := (hb2.block _ (by omega)).trans hk1
  have hR := h.go hb02
  have hQ := k.go hb02
  have HW1 := Lib.hid hW1
  have HW2 := Lib.hid hW2
  have HC : Hid (∀ V, Below W2.heap.size W2 V → V.heap[w.heap.size]? = some (obB (.slice a1 gs.length c1) (.slice a2 hs.length c2) s e) ∧ V.heap[w.heap.size + 1]? = some (obB (.slice b1 gs.length d1) (.slice b2 hs.length d2) s e) ∧ Below w.heap.size w V) := fun V hV =>
    ⟨(hV.block _ (by omega)).trans hk1', (hV.block _ (by omega)).trans hk2, hb02.trans (hV.mono (by omega))⟩
  have H1 : Hid (∀ V, Below W2.heap.size W2 V → Calls Tryd.prog 25 #[.slice a1 gs.length c1, .slice b1 gs.length d1] V fun e w' => e = .returned (.bool true) ∧ Below V.heap.size V w') := fun V hV => RSame_c a1 b1 c1 d1 gs V (hR.go hV).a (hQ.go hV).a m1
  have H2 : Hid (∀ V, Below W2.heap.size W2 V → Calls Tryd.prog 25 #[.slice a2 hs.length c2, .slice b2 hs.length d2] V fun e w' => e = .returned (.bool true) ∧ Below V.heap.size V w') := fun V hV => RSame_c a2 b2 c2 d2 hs V (hR.go hV).b (hQ.go hV).b m2
  obtain ⟨q1, q2, _⟩ := HC.out W2 (Below.refl _ _)
  obtain ⟨x0, x1, x2, x3⟩ := cells4 q1
  obtain ⟨y0, y1, y2, y3⟩ := cells4 q2
  clear hW1 hW2 hk1 hk2 hb1 hb2 hs1 hs2 hb02 hk1' hR hQ h k q1 q2
  go_enter Tryd.func10, Tryd.ntmps10
  go_upto_region 1 with (fail)
  rw [← HW1.out, ← HW2.out]
  go_wp2_with fail
  refine (H1.out W2 (Below.refl _ _)).mono ?_
  rintro r w3 ⟨rfl, hb3⟩
  obtain ⟨q1, q2, _⟩ := HC.out _ hb3
  obtain ⟨x0, x1, x2, x3⟩ := cells4 q1
  obtain ⟨y0, y1, y2, y3⟩ := cells4 q2
  have H23 := Lib.hid (H2.out _ hb3)
  have HB3 := Lib.hid hb3
  clear q1 q2 hb3 H1 H2
  go_wp2_with fail
  refine H23.out.mono ?_
  rintro r w4 ⟨rfl, hb4⟩
  obtain ⟨q1, q2, hb04⟩ := HC.out _ (btr HB3.out hb4)
  obtain ⟨x0, x1, x2, x3⟩ := cells4 q1
  obtain ⟨y0, y1, y2, y3⟩ := cells4 q2
  have HB4 := Lib.hid hb04
  clear q1 q2 hb4 hb04 H23
  go_wp2
  go_ret
  exact ⟨rfl, HB4.out⟩
end Go.Proofs.YtbimncnicioagaaDoor.Al
namespace Go.Proofs.YtbimncnicioagaaDoor.Al
open Go.RowKit Ch Jt Lb
set_option linter.unusedSimpArgs false
set_option linter.unusedVariables false

/-- few pairs, short, whose values are runes -/
structure Okg (gs : List FB) : Prop where
  len : gs.length ≤ 6
  short : ∀ x ∈ gs, shortF x
  vld : ∀ x ∈ gs, vldB x.2.data.toList = true
theorem okg_of (ts : List FB) : Okg (ofA (prK ts 6)) := by
  have h6 := prK_len ts (Nat.le_refl 6)
  have hl := ofA_len (prK ts 6)
  exact ⟨by omega, fun x hx => by have := prK_short (ofA_mem hx).1; exact ⟨by omega, by omega⟩, fun x hx => (bad_vld (ofA_mem hx).2).1⟩
theorem IsPrs.go {w W : World} {a : Option Addr} {len : Nat} {ts : List FB} (h : IsPrs w a len ts) (hb : Below w.heap.size w W) : IsPrs W a len ts := by
  obtain ⟨h1, h2, h3, h4⟩ := h
  refine ⟨h1, h2, h3, fun hne => ?_⟩
  obtain ⟨b, off, e, hlt, hc⟩ := h4 hne
  refine ⟨b, off, e, Nat.lt_of_lt_of_le hlt hb.size, fun i hi => ?_⟩
  obtain ⟨k1, k2⟩ := hc i hi
  exact ⟨(hb.cell (p := ⟨b, off + i * 2, none⟩) hlt).trans k1, (hb.cell (p := ⟨b, off + i * 2 + 1, none⟩) hlt).trans k2⟩
/-- a set's slice stays where a block that holds no string is written -/
theorem rdf_kept {ao : Option Addr} {c : Nat} {gs : List FB} {w W : World} (h : RdF (.slice ao gs.length c) gs w) (hp : Pl ao) (hs : w.heap.size ≤ W.heap.size) (hb : ∀ g x, w.cell? ⟨g, 0, none⟩ = some (.string x) → W.heap[g]? = w.heap[g]?) : RdF (.slice ao gs.length c) gs W := by
  obtain ⟨ao', c', e, hh⟩ := h
  injection e with e1 e2 e3
  subst e1 e3
  refine ⟨_, _, rfl, fun h0 => ?_⟩
  obtain ⟨g, off, e, hlt, hc⟩ := hh h0
  subst e
  have ho : off = 0 := by
    rcases hp with e | ⟨g', e⟩
    · cases e
    · injection e with e; injection e with _ e
  subst ho
  have hc0 := (hc 0 h0).1
  rw [Nat.zero_add, Nat.zero_mul] at hc0
  have hg := hb g _ hc0
  refine ⟨g, 0, rfl, Nat.lt_of_lt_of_le hlt hs, fun i hi => ?_⟩
  obtain ⟨k1, k2⟩ := hc i hi
  rw [World.cell?_of_block (w := w) (a := ⟨g, 0 + i * 2, none⟩) hg, World.cell?_of_block (w := w) (a := ⟨g, 0 + i * 2 + 1, none⟩) hg]
  exact ⟨k1, k2⟩
def OuQ (gs hs : List FB) (s e : Int) (w : World) (r : Ending) (w' : World) : Prop := ∃ a1 c1 a2 c2 b1 d1 b2 d2, r = .returned (.tuple #[agA (.slice a1 gs.length c1) (.slice a2 hs.length c2) s e, agA (.slice b1 gs.length d1) (.slice b2 hs.length d2) s e]) ∧
  Rd2 (.slice a1 gs.length c1) (.slice a2 hs.length c2) gs hs w' ∧ Rd2 (.slice b1 gs.length d1) (.slice b2 hs.length d2) gs hs w' ∧ Pl a1 ∧ Pl a2 ∧ Below w.heap.size w w'
/-- the last statement: both results stored -/
theorem ours_end {w7 : World} {B : Nat} {a1 a2 b1 b2 : Option Addr} {c1 c2 d1 d2 : Nat} {gs hs : List FB} {s e : Int}
    (hk1 : w7.heap[B + 1]? = some (obA (.slice none 0 0) (.slice none 0 0) 0 0)) (hk2 : w7.heap[B + 1 + 1]? = some (obB (.slice none 0 0) (.slice none 0 0) 0 0))
    (hr : Rd2 (.slice a1 gs.length c1) (.slice a2 hs.length c2) gs hs w7) (hp1 : Pl a1) (hp2 : Pl a2) (hq : Rd2 (.slice b1 gs.length d1) (.slice b2 hs.length d2) gs hs w7) (hp3 : Pl b1) (hp4 : Pl b2) {w : World} (hb : Below w.heap.size w w7) (hB : w.heap.size = B) :
    ∃ X Y, X = (((w7.setCell ⟨B + 1, 0, none⟩ (.slice a1 gs.length c1)).setCell ⟨B + 1, 1, none⟩ (.slice a2 hs.length c2)).setCell ⟨B + 1, 2, none⟩ (.int .i64 s)).setCell ⟨B + 1, 3, none⟩ (.int .i64 e) ∧
      Y = (((X.setCell ⟨B + 1 + 1, 0, none⟩ (.slice b1 gs.length d1)).setCell ⟨B + 1 + 1, 1, none⟩ (.slice b2 hs.length d2)).setCell ⟨B + 1 + 1, 2, none⟩ (.int .i64 s)).setCell ⟨B + 1 + 1, 3, none⟩ (.int .i64 e) ∧
      X.heap[B + 1 + 1]? = some (obB (.slice none 0 0) (.slice none 0 0) 0 0) ∧ Y.heap[B + 1]? = some (obA (.slice a1 gs.length c1) (.slice a2 hs.length c2) s e) ∧ Y.heap[B + 1 + 1]? = some (obB (.slice b1 gs.length d1) (.slice b2 hs.length d2) s e) ∧
      (∀ k, k ≠ B + 1 → X.heap[k]? = w7.heap[k]?) ∧ (∀ k, k ≠ B + 1 → k ≠ B + 1 + 1 → Y.heap[k]? = w7.heap[k]?) ∧
      Rd2 (.slice a1 gs.length c1) (.slice a2 hs.length c2) gs hs Y ∧ Rd2 (.slice b1 gs.length d1) (.slice b2 hs.length d2) gs hs Y ∧ Below w.heap.size w Y := by
  obtain ⟨X, hX, hkX, hbX⟩ := st4 hk1 (show w.heap.size ≤ B + 1 by omega) (.slice a1 gs.length c1) (.slice a2 hs.length c2) (.int .i64 s) (.int .i64 e)
  have hoX : ∀ k, k ≠ B + 1 → X.heap[k]? = w7.heap[k]? := fun k hk => by rw [hX]; exact set4_oth _ _ _ _ _ _ hk
  have hkX2 : X.heap[B + 1 + 1]? = some (obB (.slice none 0 0) (.slice none 0 0) 0 0) := (hoX _ (by omega)).trans hk2
  obtain ⟨Y, hY, hkY, hbY⟩ := st4 hkX2 (show w.heap.size ≤ B + 1 + 1 by omega) (.slice b1 gs.length d1) (.slice b2 hs.length d2) (.int .i64 s) (.int .i64 e)
  have hoY : ∀ k, k ≠ B + 1 + 1 → Y.heap[k]? = X.heap[k]? := fun k hk => by rw [hY]; exact set4_oth _ _ _ _ _ _ hk
  have hb2 := hbY _ (hbX _ hb)
  have ho : ∀ k, k ≠ B + 1 → k ≠ B + 1 + 1 → Y.heap[k]? = w7.heap[k]? := fun k h1 h2 => (hoY k h2).trans (hoX k h1)
  have hsz : w7.heap.size ≤ Y.heap.size := by
    rw [hY, size_set, size_set, size_set, size_set, hX, size_set, size_set, size_set, size_set]
    exact Nat.le_refl _
  have keep : ∀ g x, w7.cell? ⟨g, 0, none⟩ = some (.string x) → Y.heap[g]? = w7.heap[g]? := fun g x hx => by
    refine ho g (fun e => ?_) (fun e => ?_)
    · subst e; rw [(cells4 hk1).1] at hx; cases hx
    · subst e; rw [(cells4 hk2).1] at hx; cases hx
  exact ⟨X, Y, hX, hY, hkX2, (hoY _ (by omega)).trans hkX, hkY, hoX, ho, ⟨rdf_kept hr.a hp1 hsz keep, rdf_kept hr.b hp2 hsz keep⟩, ⟨rdf_kept hq.a hp3 hsz keep, rdf_kept hq.b hp4 hsz keep⟩, hb2⟩
set_option maxRecDepth 100000 in
set_option maxHeartbeats 8000000 in
theorem Ours_c (la na : Option Addr) (lc nc : Nat) (ts us : List FB) (s e : Int) (w : World) (hE : Ev w) (hT : IsPrs w la ts.length ts) (hU : IsPrs w na us.length us) :
    Calls Tryd.prog 6 #[agA (.slice la ts.length lc) (.slice na us.length nc) s e] w (OuQ (ofA (prK ts 6)) (ofA (prK us 6)) s e w) := by
  have okT := okg_of ts
  have okU := okg_of us
  have h6T := prK_len ts (Nat.le_refl 6)
  have h6U := prK_len us (Nat.le_refl 6)
  have HST : Hid (∀ x ∈ prK ts 6, smallF x) := fun x hx => by have := prK_short hx; exact ⟨by omega, by omega⟩
  have HSU : Hid (∀ x ∈ prK us 6, smallF x) := fun x hx => by have := prK_short hx; exact ⟨by omega, by omega⟩
  obtain ⟨B, hB⟩ : ∃ B, B = w.heap.size := ⟨_, rfl⟩
  obtain ⟨W1, hW1, hk1, hb1⟩ := new4 w (.slice la ts.length lc) (.slice na us.length nc) (.int .i64 s) (.int .i64 e) 24
  have hs1 : W1.heap.size = w.heap.size + 1 := by rw [hW1]; simp
  obtain ⟨W2, hW2, hk2, hb2⟩ := new4 W1 (.slice none 0 0) (.slice none 0 0) (.int .i64 0) (.int .i64 0) 29
  have hs2 : W2.heap.size = w.heap.size + 1 + 1 := by rw [hW2]; simp [hs1]
  obtain ⟨W3, hW3, hk3, hb3⟩ := new4 W2 (.slice none 0 0) (.slice none 0 0) (.int .i64 0) (.int .i64 0) 24
  have hs3 : W3.heap.size = w.heap.size + 1 + 1 + 1 := by rw [hW3]; simp [hs2]
  rw [hs1] at hk2
  rw [hs2] at hk3
  have hb03 : Below w.heap.size w W3 := (hb1.trans (hb2.mono (by omega))).trans (hb3.mono (by omega))
  have hk1' := (hb3.block _ (by omega)).trans ((hb2.block _ (by omega)).trans hk1)
  have hk2' := (hb3.block _ (by omega)).trans hk2
  have HS : Hid (∀ V, Below W3.heap.size W3 V → V.heap[w.heap.size]? = some (obB (.slice la ts.length lc) (.slice na us.length nc) s e) ∧ V.heap[w.heap.size + 1]? = some (obA (.slice none 0 0) (.slice none 0 0) 0 0) ∧ V.heap[w.heap.size + 1 + 1]? = some (obB (.slice none 0 0) (.slice none 0 0) 0 0) ∧ Below w.heap.size w V) := fun V hV =>
    ⟨(hV.block _ (by omega)).trans hk1', (hV.block _ (by omega)).trans hk2', (hV.block _ (by omega)).trans hk3, hb03.trans (hV.mono (by omega))⟩
  have HTE : Hid (∀ V, Below W3.heap.size W3 V → Ev V ∧ IsPrs V la ts.length ts ∧ IsPrs V na us.length us) := fun V hV => by
    have := hb03.trans (hV.mono (by omega))
    exact ⟨hE.go this, IsPrs.go hT this, IsPrs.go hU this⟩
  have HW1 := Lib.hid hW1
  have HW2 := Lib.hid hW2
  have HW3 := Lib.hid hW3
  have HS3 := Lib.hid hs3
  obtain ⟨q0, _, _, _⟩ := HS.out W3 (Below.refl _ _)
  obtain ⟨x0, x1, x2, x3⟩ := cells4 q0
  have HP := Lib.hid (Pairs_c la lc ts W3 (HTE.out W3 (Below.refl _ _)).2.1)
  clear hW1 hW2 hW3 hk1 hk2 hk3 hb1 hb2 hb3 hs1 hs2 hs3 hb03 hk1' hk2' q0 hE hT hU
  revert okT okU h6T h6U HST HSU HP
  generalize hfs : prK ts 6 = fs
  generalize hfu : prK us 6 = fu
  intro okT okU h6T h6U HST HSU HP
  go_enter Tryd.func6, Tryd.ntmps6
  go_upto_region 1 with (fail)
  rw [← HW1.out, ← HW2.out, ← HW3.out]
  go_wp2_with fail
  refine HP.out.mono ?_
  rintro r w4 ⟨vo, vw, rfl, ho, ho2, hb4⟩
  obtain ⟨ao, co, rfl⟩ := own_lenF ho
  obtain ⟨aw, cw, rfl⟩ := own_lenF ho2
  obtain ⟨q0, _, _, _⟩ := HS.out w4 hb4
  obtain ⟨x0, x1, x2, x3⟩ := cells4 q0
  have HP2 := Lib.hid (Pairs_c na nc us w4 (HTE.out w4 hb4).2.2)
  have HR4 := Lib.hid ho.rd
  have HB4 := Lib.hid hb4
  clear hb4 ho ho2 q0 HP
  rw [hfu] at HP2
  go_wp2_with fail
  refine HP2.out.mono ?_
  rintro r w5 ⟨vo2, vw2, rfl, ho3, ho4, hb5⟩
  obtain ⟨ao2, co2, rfl⟩ := own_lenF ho3
  obtain ⟨aw2, cw2, rfl⟩ := own_lenF ho4
  have hb35 := btr HB4.out hb5
  have HOF1 := Lib.hid (Of_c (.slice ao fs.length co) fs w5 (HTE.out w5 hb35).1 (HR4.out.go hb5) (by omega) HST.out)
  have HR5 := Lib.hid ho3.rd
  have HB5 := Lib.hid hb35
  clear hb5 ho3 ho4 hb35 HP2 HR4 HB4 x0 x1 x2 x3
  go_wp2_with fail
  (with_reducible refine HOF1.out.mono ?_)
  intro r w6 h6
  obtain ⟨a1, c1, hpl1, rfl, hr1, hb6⟩ := of_uni h6
  obtain ⟨W6, hW6, hk6, hbW6⟩ : ∃ W6, W6 = w6.alloc (.cells #[.slice a1 (ofA fs).length c1] 27) ∧ W6.heap[w6.heap.size]? = some (.cells #[.slice a1 (ofA fs).length c1] 27 (0, 0)) ∧ Below w6.heap.size w6 W6 := ⟨_, rfl, heap_alloc_new w6 _, (Below.refl _ _).alloc (Nat.le_refl _) _⟩
  have hb56 := btr hb6 hbW6
  have hb36 := btr HB5.out hb56
  have HOF2 := Lib.hid (Of_c (.slice ao2 fu.length co2) fu W6 (HTE.out W6 hb36).1 (HR5.out.go hb56) (by omega) HSU.out)
  have HR1 := Lib.hid (hr1.go hbW6)
  have HB6 := Lib.hid hb36
  have HK6 := Lib.hid hk6
  have HW6 := Lib.hid hW6
  have HPL1 := Lib.hid hpl1
  have hl6 : w6.heap.size < W6.heap.size := (Array.getElem?_eq_some_iff.1 hk6).1
  clear h6 hr1 hb6 hbW6 hb56 hb36 hW6 hk6 hpl1 HOF1 HR5 HB5
  go_wp2_with fail
  rw [← HW6.out]
  (with_reducible refine HOF2.out.mono ?_)
  intro r w7 h7
  obtain ⟨a2, c2, hpl2, rfl, hr2, hb7⟩ := of_uni h7
  obtain ⟨W7, hW7, hk7, hbW7⟩ : ∃ W7, W7 = w7.alloc (.cells #[.slice a2 (ofA fu).length c2] 27) ∧ W7.heap[w7.heap.size]? = some (.cells #[.slice a2 (ofA fu).length c2] 27 (0, 0)) ∧ Below w7.heap.size w7 W7 := ⟨_, rfl, heap_alloc_new w7 _, (Below.refl _ _).alloc (Nat.le_refl _) _⟩
  have hb67 := btr hb7 hbW7
  have hb37 := btr HB6.out hb67
  have hk67 := (hb67.block _ hl6).trans HK6.out
  have HR1 := Lib.hid (HR1.out.go hb67)
  have HR2 := Lib.hid (hr2.go hbW7)
  have HPL2 := Lib.hid hpl2
  have HB7 := Lib.hid hb37
  have HW7 := Lib.hid hW7
  obtain ⟨q0, _, _, _⟩ := HS.out W7 hb37
  obtain ⟨x0, x1, x2, x3⟩ := cells4 q0
  have s6 := cell_of_row _ _ 0 _ _ _ hk67
  have s7 := cell_of_row _ _ 0 _ _ _ hk7
  obtain ⟨W8, hW8, hk8, hbW8⟩ := new4 W7 (.slice a1 (ofA fs).length c1) (.slice a2 (ofA fu).length c2) (.int .i64 s) (.int .i64 e) 29
  have HW8 := Lib.hid hW8
  have hb38 := btr HB7.out hbW8
  have HR8 := Lib.hid (show Rd2 _ _ _ _ W8 from ⟨HR1.out.go hbW8, HR2.out.go hbW8⟩)
  have HPA := Lib.hid (fun V (hV : Below W8.heap.size W8 V) => PlainA_c a1 a2 c1 c2 (ofA fs) (ofA fu) s e V (HR8.out.go hV) HPL1.out HPL2.out (by have := okT.len; omega) (by have := okU.len; omega))
  have HK8 := Lib.hid hk8
  have HL8 : Hid (W7.heap.size < W8.heap.size) := (Array.getElem?_eq_some_iff.1 hk8).1
  have HB8 := Lib.hid hb38
  clear h7 hr2 hb7 hbW7 hb67 hb37 hk67 hW7 hk7 hpl2 q0 hW8 hk8 hbW8 hb38 HR1 HR2 HOF2 HB6 HK6 HW6
  go_upto_region 5 with (fail)
  rw [← HW7.out]
  go_upto_region 6 with (fail)
  rw [← HW8.out]
  clear x0 x1 x2 x3 s6 s7
  generalize ofA fs = gs at *
  generalize ofA fu = hs at *
  have BD := Lib.hid (bdr W8)
  have hk8 := HK8.out
  obtain ⟨x0, x1, x2, x3⟩ := cells4 (show W8.drew.heap[W7.heap.size]? = _ from hk8)
  clear hk8
  have HE : Hid (∀ w9 b1 d1 b2 d2, Below W8.heap.size W8 w9 → Rd2 (.slice b1 gs.length d1) (.slice b2 hs.length d2) gs hs w9 → Pl b1 → Pl b2 → _) := fun w9 b1 d1 b2 d2 hb9 hrd hp3 hp4 => by
    obtain ⟨_, k1, k2, kb⟩ := HS.out w9 (btr HB8.out hb9)
    exact ours_end (s := s) (e := e) k1 k2 (HR8.out.go hb9) HPL1.out HPL2.out hrd hp3 hp4 kb rfl
  have HX : Hid (∀ w9, Below W8.heap.size W8 w9 → w9.heap[W7.heap.size]? = some (obA (.slice a1 gs.length c1) (.slice a2 hs.length c2) s e)) := fun w9 hb9 => (hb9.block _ HL8.out).trans HK8.out
  have hz7 : w.heap.size + 1 + 1 + 1 ≤ W7.heap.size := by have := HB7.out.size; have := HS3.out; omega
  have hn1 : W7.heap.size ≠ w.heap.size + 1 := by omega
  have hn2 : W7.heap.size ≠ w.heap.size + 1 + 1 := by omega
  have hn3 : w.heap.size + 1 + 1 ≠ w.heap.size + 1 := by omega
  go_region_held3 (fun V => V.cell? ⟨W7.heap.size, 0, none⟩ = some (.slice a1 gs.length c1) ∧ V.cell? ⟨W7.heap.size, 1, none⟩ = some (.slice a2 hs.length c2) ∧ V.cell? ⟨W7.heap.size, 2, none⟩ = some (.int .i64 s) ∧ V.cell? ⟨W7.heap.size, 3, none⟩ = some (.int .i64 e))
    (first | (with_reducible exact ⟨x0, x1, x2, x3⟩) | (with_reducible exact HX9.out) | (rw [← HX1.out]; with_reducible exact HXX.out) | (rw [← HX1.out, ← HY1.out]; with_reducible exact HXY.out))
    (first | (go_at_call 11; (with_reducible refine (HPA.out _ (bdr W8)).mono ?_); rintro r w9 ⟨b1, d1, b2, d2, rfl, hrd, hb9, hp3, hp4⟩; have hb89 := btr BD.out hb9; obtain ⟨_, k1, k2, _⟩ := HS.out w9 (btr HB8.out hb89); have HX9 := Lib.hid (cells4 (HX.out w9 hb89)); obtain ⟨y0, y1, y2, y3⟩ := cells4 k1; have g0 := frzB k1 0; have g1 := frzB k1 1; have g2 := frzB k1 2; have g3 := frzB k1 3; obtain ⟨X, Y, hX, hY, kX2, kY1, kY2, oX, oY, rA, rB, bY⟩ := HE.out w9 b1 d1 b2 d2 hb89 hrd hp3 hp4; obtain ⟨z0, z1, z2, z3⟩ := cells4 kX2; have e0 := frzB kX2 0; have e1 := frzB kX2 1; have e2 := frzB kX2 2; have e3 := frzB kX2 3; rw [hX] at z0 z1 z2 z3 e0 e1 e2 e3; have HXX := Lib.hid (cells4 ((oX _ hn1).trans (HX.out w9 hb89))); have HXY := Lib.hid (cells4 ((oY _ hn1 hn2).trans (HX.out w9 hb89))); have HX1 := Lib.hid hX; have HY1 := Lib.hid hY; have HY2 := Lib.hid kY1; have HY3 := Lib.hid kY2; have HRA := Lib.hid rA; have HRB := Lib.hid rB; have HBY := Lib.hid bY; clear hrd hb9 hp3 hp4 hb89 k1 k2 hX hY kX2 kY1 kY2 oX oY rA rB bY))
  all_goals
    rw [← HX1.out, ← HY1.out]
    have HQ : OuQ gs hs s e w (.returned (.tuple #[agA (.slice a1 gs.length c1) (.slice a2 hs.length c2) s e, agA (.slice b1 gs.length d1) (.slice b2 hs.length d2) s e])) Y := ⟨a1, c1, a2, c2, b1, d1, b2, d2, rfl, HRA.out, HRB.out, HPL1.out, HPL2.out, HBY.out⟩
    obtain ⟨t0, t1, t2, t3⟩ := cells4 HY2.out
    obtain ⟨v0, v1, v2, v3⟩ := cells4 HY3.out
    go_wp2
    (with_reducible refine bodyPost_ret (v := .tuple #[agA (.slice a1 gs.length c1) (.slice a2 hs.length c2) s e, agA (.slice b1 gs.length d1) (.slice b2 hs.length d2) s e]) (by simp [results, Tryd.results6, go_sem, t0, t1, t2, t3, v0, v1, v2, v3]) rfl HQ)
end Go.Proofs.YtbimncnicioagaaDoor.Al
namespace Go.Proofs.YtbimncnicioagaaDoor.Al
open Go.RowKit Ch Jt Lb
set_option linter.unusedSimpArgs false
set_option linter.unusedVariables false

def exP : List FB := [(⟨#[97]⟩, ⟨#[49]⟩)]
theorem exP_bad : exP.any badB = false := by decide +kernel
theorem exP_onc : Onc exP := by decide +kernel
theorem exP_of : ofA exP = exP ∧ ofZ exP = 0 := by
  unfold ofA ofZ
  rw [exP_bad, if_neg (by decide), if_pos exP_onc, if_neg (by decide), if_pos exP_onc]
  refine ⟨?_, rfl⟩
  have := srt_perm exP
  exact List.perm_singleton.1 this
theorem exP_key : keyS exP = ⟨#[97, 47, 123, 97, 61, 34, 49, 34, 125]⟩ := by decide +kernel
theorem exP_short : ∀ x ∈ exP, shortF x := by
  intro x hx
  simp [exP] at hx
  subst hx
  exact ⟨by decide, by decide⟩
theorem exP_small : ∀ x ∈ exP, smallF x := by
  intro x hx
  simp [exP] at hx
  subst hx
  exact ⟨by decide, by decide⟩
theorem exP_vld : ∀ x ∈ exP, vldB x.2.data.toList = true := by
  intro x hx
  simp [exP] at hx
  subst hx
  decide +kernel
set_option maxRecDepth 100000 in
set_option maxHeartbeats 4000000 in
theorem awake_c (w : World) (hE : Ev w) : Calls Tryd.prog 17 #[] w fun e w' => e = .returned (.bool true) ∧ Below w.heap.size w w' := by
  have HE := Lib.hid hE
  clear hE
  go_enter Tryd.func17, Tryd.ntmps17
  go_wp2_with fail
  refine (Merge_c (.slice none 0 0) (.slice none 0 0) none none 0 0 0 0 5 9 7 20 w).mono ?_
  rintro r w1 ⟨rfl, hb1⟩
  rw [show mrg 5 9 7 = 5 from by decide]
  obtain ⟨W1, hW1, hk1, hbW1⟩ := new4 w1 (.slice none 0 0) (.slice none 0 0) (.int .i64 5) (.int .i64 20) 29
  have HB1 := Lib.hid (btr hb1 hbW1)
  have HK1 := Lib.hid hk1
  have HW1 := Lib.hid hW1
  have hl1 : w1.heap.size < W1.heap.size := (Array.getElem?_eq_some_iff.1 hk1).1
  clear hb1 hW1 hk1 hbW1
  go_wp2_with fail
  rw [← HW1.out]
  refine (Merge_c (.slice none 0 0) (.slice none 0 0) none none 0 0 0 0 5 9 11 20 W1).mono ?_
  rintro r w2 ⟨rfl, hb2⟩
  rw [show mrg 5 9 11 = 11 from by decide]
  obtain ⟨W2, hW2, hk2, hbW2⟩ := new4 w2 (.slice none 0 0) (.slice none 0 0) (.int .i64 11) (.int .i64 20) 29
  have hb12 := btr hb2 hbW2
  have HB2 := Lib.hid (btr HB1.out hb12)
  have HK12 := Lib.hid ((hb12.block _ hl1).trans HK1.out)
  have HK2 := Lib.hid hk2
  have HW2 := Lib.hid hW2
  have hl2 : w2.heap.size < W2.heap.size := (Array.getElem?_eq_some_iff.1 hk2).1
  have hl12 : w1.heap.size < W2.heap.size := Nat.lt_of_lt_of_le hl1 hb12.size
  obtain ⟨W3, hW3⟩ : ∃ W3, W3 = W2.alloc (.cells #[.string ⟨#[97]⟩, .string ⟨#[49]⟩] 58) := ⟨_, rfl⟩
  have hk3 : W3.heap[W2.heap.size]? = some (.cells #[.string ⟨#[97]⟩, .string ⟨#[49]⟩] 58 (0, 0)) := by rw [hW3]; exact heap_alloc_new W2 _
  have hb23 : Below W2.heap.size W2 W3 := by rw [hW3]; exact (Below.refl _ _).alloc (Nat.le_refl _) _
  have hR3 : RdF (.slice (some ⟨W2.heap.size, 0, none⟩) exP.length 1) exP W3 := ⟨_, _, rfl, fun _ => ⟨W2.heap.size, 0, rfl, (Array.getElem?_eq_some_iff.1 hk3).1, fun i hi => by
    have hi0 : i = 0 := by simp [exP] at hi; omega
    subst hi0
    exact cell2 hk3⟩⟩
  have HOF : Hid (Calls Tryd.prog 21 #[.slice (some ⟨W2.heap.size, 0, none⟩) 1 1] W3 (OfQ exP W3)) := Of_c (.slice (some ⟨W2.heap.size, 0, none⟩) exP.length 1) exP W3 (HE.out.go (btr HB2.out hb23)) hR3 (by simp [exP]) exP_small
  have HB3 := Lib.hid (btr HB2.out hb23)
  have HB23 := Lib.hid hb23
  have HW3 := Lib.hid hW3
  clear hb2 hW2 hk2 hbW2 hb12 HB1 HK1 HW1 hW3 hk3 hb23 hR3
  go_upto_region 3 with (fail)
  rw [← HW2.out]
  go_wp2_with fail
  rw [← HW3.out]
  (with_reducible refine HOF.out.mono ?_)
  intro r w4 h4
  obtain ⟨a1, c1, hpl, rfl, hr4, hb4⟩ := of_uni h4
  rw [exP_of.1] at hr4 ⊢
  rw [exP_of.2]
  have e1 : exP.length = 1 := rfl
  rw [e1] at hr4 ⊢
  obtain ⟨W4, hW4, hk4, hbW4⟩ : ∃ W4, W4 = w4.alloc (.cells #[.slice a1 1 c1] 27) ∧ W4.heap[w4.heap.size]? = some (.cells #[.slice a1 1 c1] 27 (0, 0)) ∧ Below w4.heap.size w4 W4 := ⟨_, rfl, heap_alloc_new w4 _, (Below.refl _ _).alloc (Nat.le_refl _) _⟩
  have hb24 := btr HB23.out (btr hb4 hbW4)
  have hq1 := (hb24.block _ hl12).trans HK12.out
  have hq2 := (hb24.block _ hl2).trans HK2.out
  obtain ⟨x0, x1, x2, x3⟩ := cells4 hq1
  obtain ⟨y0, y1, y2, y3⟩ := cells4 hq2
  have s4 := cell_of_row _ _ 0 _ _ _ hk4
  have HW4 := Lib.hid hW4
  have HB4 := Lib.hid (btr HB2.out hb24)
  have HKE := Lib.hid (Key_c a1 c1 exP (.slice none 0 0) 0 0 W4 (HE.out.go HB4.out) (hr4.go hbW4) (by simp [exP]) exP_short exP_vld)
  rw [exP_key] at HKE
  clear h4 hpl hr4 hb4 hW4 hk4 hbW4 hb24 hq1 hq2 HOF HB3 HB23 HW3 HK12 HK2 HW2
  go_upto_region 4 with (fail)
  rw [← HW4.out]
  go_wp2_with fail
  refine HKE.out.mono ?_
  rintro r w5 ⟨rfl, hb5⟩
  have HB5 := Lib.hid (btr HB4.out hb5)
  clear hb5
  go_wp2
  go_ret
  exact ⟨rfl, HB5.out⟩
end Go.Proofs.YtbimncnicioagaaDoor.Al
