/- The walk of the statement that what package chunk's Parse tells it tells wherever its text ends. -/
import Derived.Test.YtmnodjbmaifglaaDoorCkAwk
import Derived.Test.YtmnodjbmaifglaaDoorCkEnd
namespace Go.Proofs.YtmnodjbmaifglaaDoor.Hd
open Go.RowKit Ch
set_option linter.unusedSimpArgs false
set_option linter.unusedVariables false

set_option maxRecDepth 100000 in
set_option maxHeartbeats 2000000 in
theorem cwA (a0 a1 s m : ByteArray) (la lb lc n st : Int) (w : World) (HM : Hid (Mx w)) (hz : s.size ≤ 500) (hz2 : m.size ≤ 500)
    (hsh : Hid (∀ W, Calls Tryd.prog 6 #[.string a0] W fun e w' => e = .returned (.string s) ∧ W = w'))
    (hsh2 : Hid (∀ W, Calls Tryd.prog 6 #[.string a1] W fun e w' => e = .returned (.string m) ∧ W = w'))
    (HP : Hid (∀ W, Mx W → Calls Tryd.prog 7 #[.string s, .agg #[.int .i64 la, .int .i64 lb, .int .i64 lc]] W fun e w' => e = .returned (.tuple #[.string ⟨#[]⟩, .int .i64 0, .int .i64 1]) ∧ Below W.heap.size W w')) :
    Calls Tryd.prog 3 #[.string a0, .string a1, .agg #[.int .i64 la, .int .i64 lb, .int .i64 lc]] w fun e w' => e = .returned (.bool true) ∧ Below w.heap.size w w' := by
  have HD : Hid (∃ W0, W0 = w.alloc (.cells #[.int .i64 la, .int .i64 lb, .int .i64 lc] 23) ∧ W0.heap[w.heap.size]? = some (.cells #[.int .i64 la, .int .i64 lb, .int .i64 lc] 23 (0, 0)) ∧ Below w.heap.size w W0) := ⟨_, rfl, heap_alloc_new w _, (Below.refl _ _).alloc (Nat.le_refl _) _⟩
  obtain ⟨W0, hW0, hL0, hB0⟩ := HD.out
  have HWE := Lib.hid hW0
  have HL0 := Lib.hid hL0
  have HB0 := Lib.hid hB0
  have HM0 := Lib.hid (HM.out.go hB0)
  have hsz0 : w.heap.size < W0.heap.size := (Array.getElem?_eq_some_iff.1 hL0).1
  clear HD hW0 hL0 hB0 HM
  go_enter Tryd.func3, Tryd.ntmps3
  go_wp2_with fail
  rw [← HWE.out]
  clear HWE
  (with_reducible refine (hsh.out _).mono ?_)
  rintro e w1 ⟨rfl, hw⟩
  rw [← hw]; clear hw
  go_wp2_with fail
  (with_reducible refine (hsh2.out _).mono ?_)
  rintro e w1 ⟨rfl, hw⟩
  rw [← hw]; clear hw
  have l0 := heap_cell HL0.out 0
  have l1 := heap_cell HL0.out 1
  have l2 := heap_cell HL0.out 2
  go_wp2_with fail
  (with_reducible refine (Ours_c la lb lc W0).mono ?_)
  rintro e w2 ⟨rfl, hb2⟩
  have HB2 : Hid (Below w.heap.size w w2) := HB0.out.trans (hb2.mono (Nat.le_of_lt hsz0))
  have HL2 : Hid (w2.heap[w.heap.size]? = some (.cells #[.int .i64 la, .int .i64 lb, .int .i64 lc] 23 (0, 0))) := (hb2.block _ hsz0).trans HL0.out
  have HM2 := Lib.hid (HM0.out.go hb2)
  have hsz2 : w.heap.size < w2.heap.size := (Array.getElem?_eq_some_iff.1 HL2.out).1
  clear hb2 l0 l1 l2
  go_wp2_with fail
  (with_reducible refine (HP.out _ HM2.out).mono ?_)
  rintro e w3 ⟨rfl, hb3⟩
  have HB3 : Hid (Below w.heap.size w w3) := HB2.out.trans (hb3.mono (Nat.le_of_lt hsz2))
  have HM3 := Lib.hid (HM2.out.go hb3)
  have HL3 : Hid (w3.heap[w.heap.size]? = some (.cells #[.int .i64 la, .int .i64 lb, .int .i64 lc] 23 (0, 0))) := (hb3.block _ hsz2).trans HL2.out
  have hsz3 : w.heap.size < w3.heap.size := (Array.getElem?_eq_some_iff.1 HL3.out).1
  clear hb3
  go_wp2_with fail
  (with_reducible refine (awakeC_c _ HM3.out).mono ?_)
  rintro e w9 ⟨rfl, hb9⟩
  have HB9 := Lib.hid (HB3.out.trans (hb9.mono HB3.out.size))
  clear hb9
  go_wp2
  go_ret
  exact ⟨rfl, HB9.out⟩
set_option maxRecDepth 100000 in
set_option maxHeartbeats 2000000 in
theorem cwB (a0 a1 s m bv : ByteArray) (la lb lc n st : Int) (w : World) (HM : Hid (Mx w)) (h1 : (st == 1) = false) (hn : n ≤ (s.size : Int)) (hn0 : 0 ≤ n) (hz : s.size ≤ 500) (hz2 : m.size ≤ 500)
    (hsh : Hid (∀ W, Calls Tryd.prog 6 #[.string a0] W fun e w' => e = .returned (.string s) ∧ W = w'))
    (hsh2 : Hid (∀ W, Calls Tryd.prog 6 #[.string a1] W fun e w' => e = .returned (.string m) ∧ W = w'))
    (HP : Hid (∀ W, Mx W → Calls Tryd.prog 7 #[.string s, .agg #[.int .i64 la, .int .i64 lb, .int .i64 lc]] W fun e w' => e = .returned (.tuple #[.string bv, .int .i64 n, .int .i64 st]) ∧ Below W.heap.size W w'))
    (HQ : Hid (∀ W, Mx W → Calls Tryd.prog 7 #[.string (s ++ m), .agg #[.int .i64 la, .int .i64 lb, .int .i64 lc]] W fun e w' => e = .returned (.tuple #[.string bv, .int .i64 n, .int .i64 st]) ∧ Below W.heap.size W w')) :
    Calls Tryd.prog 3 #[.string a0, .string a1, .agg #[.int .i64 la, .int .i64 lb, .int .i64 lc]] w fun e w' => e = .returned (.bool true) ∧ Below w.heap.size w w' := by
  have HD : Hid (∃ W0, W0 = w.alloc (.cells #[.int .i64 la, .int .i64 lb, .int .i64 lc] 23) ∧ W0.heap[w.heap.size]? = some (.cells #[.int .i64 la, .int .i64 lb, .int .i64 lc] 23 (0, 0)) ∧ Below w.heap.size w W0) := ⟨_, rfl, heap_alloc_new w _, (Below.refl _ _).alloc (Nat.le_refl _) _⟩
  obtain ⟨W0, hW0, hL0, hB0⟩ := HD.out
  have HWE := Lib.hid hW0
  have HL0 := Lib.hid hL0
  have HB0 := Lib.hid hB0
  have HM0 := Lib.hid (HM.out.go hB0)
  have hsz0 : w.heap.size < W0.heap.size := (Array.getElem?_eq_some_iff.1 hL0).1
  clear HD hW0 hL0 hB0 HM
  go_enter Tryd.func3, Tryd.ntmps3
  go_wp2_with fail
  rw [← HWE.out]
  clear HWE
  (with_reducible refine (hsh.out _).mono ?_)
  rintro e w1 ⟨rfl, hw⟩
  rw [← hw]; clear hw
  go_wp2_with fail
  (with_reducible refine (hsh2.out _).mono ?_)
  rintro e w1 ⟨rfl, hw⟩
  rw [← hw]; clear hw
  have l0 := heap_cell HL0.out 0
  have l1 := heap_cell HL0.out 1
  have l2 := heap_cell HL0.out 2
  go_wp2_with fail
  (with_reducible refine (Ours_c la lb lc W0).mono ?_)
  rintro e w2 ⟨rfl, hb2⟩
  have HB2 : Hid (Below w.heap.size w w2) := HB0.out.trans (hb2.mono (Nat.le_of_lt hsz0))
  have HL2 : Hid (w2.heap[w.heap.size]? = some (.cells #[.int .i64 la, .int .i64 lb, .int .i64 lc] 23 (0, 0))) := (hb2.block _ hsz0).trans HL0.out
  have HM2 := Lib.hid (HM0.out.go hb2)
  have hsz2 : w.heap.size < w2.heap.size := (Array.getElem?_eq_some_iff.1 HL2.out).1
  clear hb2 l0 l1 l2
  go_wp2_with fail
  (with_reducible refine (HP.out _ HM2.out).mono ?_)
  rintro e w3 ⟨rfl, hb3⟩
  have HB3 : Hid (Below w.heap.size w w3) := HB2.out.trans (hb3.mono (Nat.le_of_lt hsz2))
  have HM3 := Lib.hid (HM2.out.go hb3)
  have HL3 : Hid (w3.heap[w.heap.size]? = some (.cells #[.int .i64 la, .int .i64 lb, .int .i64 lc] 23 (0, 0))) := (hb3.block _ hsz2).trans HL2.out
  have hsz3 : w.heap.size < w3.heap.size := (Array.getElem?_eq_some_iff.1 HL3.out).1
  clear hb3
  have l0 := heap_cell HL3.out 0
  have l1 := heap_cell HL3.out 1
  have l2 := heap_cell HL3.out 2
  have hsum : ∀ W, (Op.stringOp .add s m).run Tryd.prog W = .ok (.string (s ++ m)) W := fun W => run_string_add_sum W s m (by omega)
  go_wp2_with fail
  (with_reducible refine (Ours_c la lb lc w3).mono ?_)
  rintro e w5 ⟨rfl, hb5⟩
  have HB5 : Hid (Below w.heap.size w w5) := HB3.out.trans (hb5.mono (Nat.le_of_lt hsz3))
  have HM5 := Lib.hid (HM3.out.go hb5)
  clear hb5 l0 l1 l2
  go_wp2_with fail
  (with_reducible refine (HQ.out _ HM5.out).mono ?_)
  rintro e w6 ⟨rfl, hb6⟩
  have HB6 : Hid (Below w.heap.size w w6) := HB5.out.trans (hb6.mono HB5.out.size)
  have HM6 := Lib.hid (HM5.out.go hb6)
  clear hb6
  go_wp2_with fail
  (with_reducible refine (awakeC_c _ HM6.out).mono ?_)
  rintro e w9 ⟨rfl, hb9⟩
  have HB9 := Lib.hid (HB6.out.trans (hb9.mono HB6.out.size))
  clear hb9
  go_wp2
  go_ret
  exact ⟨rfl, HB9.out⟩
end Go.Proofs.YtmnodjbmaifglaaDoor.Hd
