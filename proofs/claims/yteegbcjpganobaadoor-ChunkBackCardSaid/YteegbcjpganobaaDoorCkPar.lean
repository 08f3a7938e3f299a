/- The contract of package chunk's Parse: for every text of at most a thousand bytes and any limits; where the library's variable MaxLen holds a number. -/
import Derived.Test.YteegbcjpganobaaDoorCkRun
import Derived.Test.YteegbcjpganobaaDoorCkStr
namespace Go.Proofs.YteegbcjpganobaaDoor.Hd
open Go.RowKit Ch
set_option linter.unusedSimpArgs false
set_option linter.unusedVariables false

abbrev clmp (n lo hi : Int) : Int := min (max n lo) hi
set_option maxRecDepth 100000 in
set_option maxHeartbeats 800000 in
theorem cp_e (s : ByteArray) (a b c a' b' c' : Int) (k : Nat) (sz n st : Int) (l : List UInt8) (w : World) (hM : Mx w) (h0 : (st != 0) = true) (h1 : (st == 0) = false)
    (HRT : Hid (∀ W : World, Calls Tryd.prog 15 #[.agg #[.int .i64 a, .int .i64 b, .int .i64 c]] W fun e w' => e = .returned (.agg #[.int .i64 a', .int .i64 b', .int .i64 c']) ∧ Below W.heap.size W w'))
    (HRN : Hid (∀ g W, St g s 0 a' b' c' 0 0 [] 0 W → Mx W → 3 < g → Calls Tryd.prog 16 #[.pointer (some ⟨g, 0, none⟩)] W fun e w' => e = .returned (.tuple #[]) ∧ St g s k a' b' c' sz n l st w' ∧ Below g W w')) :
    Calls Tryd.prog 7 #[.string s, .agg #[.int .i64 a, .int .i64 b, .int .i64 c]] w fun e w' => e = .returned (.tuple #[.string ⟨#[]⟩, .int .i64 0, .int .i64 st]) ∧ Below w.heap.size w w' := by
  have hml := hM.lt
  have HD : Hid (∃ W0, W0 = w.alloc (.cells #[.int .i64 a, .int .i64 b, .int .i64 c] 28) ∧ W0.heap[w.heap.size]? = some (.cells #[.int .i64 a, .int .i64 b, .int .i64 c] 28 (0, 0)) ∧ Below w.heap.size w W0) := ⟨_, rfl, heap_alloc_new w _, (Below.refl _ _).alloc (Nat.le_refl _) _⟩
  obtain ⟨W0, hW0, hL0, hB0⟩ := HD.out
  have HWE := Lib.hid hW0
  have HB0 := Lib.hid hB0
  have HM0 := Lib.hid (hM.go hB0)
  have l0 := heap_cell hL0 0
  have l1 := heap_cell hL0 1
  have l2 := heap_cell hL0 2
  clear HD hW0 hB0 hL0 hM
  go_enter Tryd.func7, Tryd.ntmps7
  go_wp2_with fail
  rw [← HWE.out]
  (with_reducible refine (HRT.out _).mono ?_)
  rintro e w1 ⟨rfl, hb1⟩
  have HB1 : Hid (Below w.heap.size w w1) := HB0.out.trans (hb1.mono HB0.out.size)
  have HM1 := Lib.hid (HM0.out.go hb1)
  have hs1 : w.heap.size ≤ w1.heap.size := HB1.out.size
  clear hb1 l0 l1 l2
  have HD : Hid (∃ W2, W2 = w1.alloc (.cells #[.string s, .int .i64 0, .int .i64 a', .int .i64 b', .int .i64 c', .int .i64 0, .int .i64 0, .pointer none, .slice none 0 0, .int .i64 0] 45) ∧ St w1.heap.size s 0 a' b' c' 0 0 [] 0 W2 ∧ Below w1.heap.size w1 W2) := ⟨_, rfl, ⟨.pointer none, .slice none 0 0, heap_alloc_new w1 _, .inl rfl, ⟨rfl, .inl ⟨rfl, rfl⟩⟩, fun _ => rfl⟩, (Below.refl _ _).alloc (Nat.le_refl _) _⟩
  obtain ⟨W2, hW2, hS2, hb2⟩ := HD.out
  have HWE2 := Lib.hid hW2
  have HB2 : Hid (Below w.heap.size w W2) := HB1.out.trans (hb2.mono hs1)
  have HRR := Lib.hid (HRN.out w1.heap.size W2 hS2 (HM1.out.go hb2) (by omega))
  clear HD hW2 hS2 hb2
  go_wp2_with fail
  rw [← HWE2.out]
  (with_reducible refine HRR.out.mono ?_)
  rintro e w3 ⟨rfl, hS3, hb3⟩
  have HS3 := Lib.hid hS3
  have HB3 : Hid (Below w.heap.size w w3) := HB2.out.trans (hb3.mono hs1)
  have hlt3 := hS3.lt
  obtain ⟨p, v, h3, _, _, _⟩ := hS3
  have c9 := heap_cell h3 9
  have c1 := heap_cell h3 1
  clear h3 hb3 HRR
  go_wp2_with fail
  go_quiet (fail)
  go_wp2
  go_ret3
  exact ⟨rfl, ⟨HB3.out.os, HB3.out.tape, HB3.out.output, HB3.out.size, HB3.out.block⟩⟩
set_option maxRecDepth 100000 in
set_option maxHeartbeats 800000 in
theorem cp_o (s : ByteArray) (a b c a' b' c' : Int) (k : Nat) (sz n st : Int) (l : List UInt8) (w : World) (hM : Mx w) (h0 : st = 0)
    (HRT : Hid (∀ W : World, Calls Tryd.prog 15 #[.agg #[.int .i64 a, .int .i64 b, .int .i64 c]] W fun e w' => e = .returned (.agg #[.int .i64 a', .int .i64 b', .int .i64 c']) ∧ Below W.heap.size W w'))
    (HRN : Hid (∀ g W, St g s 0 a' b' c' 0 0 [] 0 W → Mx W → 3 < g → Calls Tryd.prog 16 #[.pointer (some ⟨g, 0, none⟩)] W fun e w' => e = .returned (.tuple #[]) ∧ St g s k a' b' c' sz n l st w' ∧ Below g W w')) :
    Calls Tryd.prog 7 #[.string s, .agg #[.int .i64 a, .int .i64 b, .int .i64 c]] w fun e w' => e = .returned (.tuple #[.string (mkS l), .int .i64 (k : Int), .int .i64 0]) ∧ Below w.heap.size w w' := by
  have hml := hM.lt
  have HD : Hid (∃ W0, W0 = w.alloc (.cells #[.int .i64 a, .int .i64 b, .int .i64 c] 28) ∧ W0.heap[w.heap.size]? = some (.cells #[.int .i64 a, .int .i64 b, .int .i64 c] 28 (0, 0)) ∧ Below w.heap.size w W0) := ⟨_, rfl, heap_alloc_new w _, (Below.refl _ _).alloc (Nat.le_refl _) _⟩
  obtain ⟨W0, hW0, hL0, hB0⟩ := HD.out
  have HWE := Lib.hid hW0
  have HB0 := Lib.hid hB0
  have HM0 := Lib.hid (hM.go hB0)
  have l0 := heap_cell hL0 0
  have l1 := heap_cell hL0 1
  have l2 := heap_cell hL0 2
  clear HD hW0 hB0 hL0 hM
  go_enter Tryd.func7, Tryd.ntmps7
  go_wp2_with fail
  rw [← HWE.out]
  (with_reducible refine (HRT.out _).mono ?_)
  rintro e w1 ⟨rfl, hb1⟩
  have HB1 : Hid (Below w.heap.size w w1) := HB0.out.trans (hb1.mono HB0.out.size)
  have HM1 := Lib.hid (HM0.out.go hb1)
  have hs1 : w.heap.size ≤ w1.heap.size := HB1.out.size
  clear hb1 l0 l1 l2
  have HD : Hid (∃ W2, W2 = w1.alloc (.cells #[.string s, .int .i64 0, .int .i64 a', .int .i64 b', .int .i64 c', .int .i64 0, .int .i64 0, .pointer none, .slice none 0 0, .int .i64 0] 45) ∧ St w1.heap.size s 0 a' b' c' 0 0 [] 0 W2 ∧ Below w1.heap.size w1 W2) := ⟨_, rfl, ⟨.pointer none, .slice none 0 0, heap_alloc_new w1 _, .inl rfl, ⟨rfl, .inl ⟨rfl, rfl⟩⟩, fun _ => rfl⟩, (Below.refl _ _).alloc (Nat.le_refl _) _⟩
  obtain ⟨W2, hW2, hS2, hb2⟩ := HD.out
  have HWE2 := Lib.hid hW2
  have HB2 : Hid (Below w.heap.size w W2) := HB1.out.trans (hb2.mono hs1)
  have HRR := Lib.hid (HRN.out w1.heap.size W2 hS2 (HM1.out.go hb2) (by omega))
  clear HD hW2 hS2 hb2
  go_wp2_with fail
  rw [← HWE2.out]
  (with_reducible refine HRR.out.mono ?_)
  rintro e w3 ⟨rfl, hS3, hb3⟩
  have HS3 := Lib.hid hS3
  have HB3 : Hid (Below w.heap.size w w3) := HB2.out.trans (hb3.mono hs1)
  have hlt3 := hS3.lt
  obtain ⟨p, v, h3, _, _, _⟩ := hS3
  have c9 := heap_cell h3 9
  have c1 := heap_cell h3 1
  clear h3 hb3 HRR
  subst h0
  have HST := Lib.hid (strB_c w1.heap.size s k a' b' c' sz n l 0 w3.drew HS3.out)
  go_wp2_with fail
  go_region_held3 (fun V => V.cell? ⟨w1.heap.size, 1, none⟩ = some (.int .i64 (k : Int)))
    (first | exact e1 | exact c1)
    (first | (go_at_call 13; (with_reducible refine HST.out.mono ?_); rintro e w4 ⟨rfl, e1, hb4⟩; have HB4 : Hid (Below w.heap.size w w4) := HB3.out.trans (Below.mono ⟨hb4.os, hb4.tape, hb4.output, hb4.size, hb4.block⟩ hs1); clear hb4))
  go_wp2
  go_ret3
  exact ⟨rfl, HB4.out⟩
/-- how the reader of a text stands at the end -/
def finL (l : List UInt8) (a b c : Int) : MS := mach l a b c (l.length + 1) x0
theorem CParse_c (s : ByteArray) (a b c : Int) (w : World) (hM : Mx w) (hs : s.size ≤ 10000) (q : MS) (hq : finL s.data.toList (clmp a 16 8192) (clmp b 1 100) (clmp c 0 1048576) = q) :
    Calls Tryd.prog 7 #[.string s, .agg #[.int .i64 a, .int .i64 b, .int .i64 c]] w fun e w' => e = (if q.st = 0 then .returned (.tuple #[.string (mkS q.bd), .int .i64 (q.k : Int), .int .i64 0]) else .returned (.tuple #[.string ⟨#[]⟩, .int .i64 0, .int .i64 q.st])) ∧ Below w.heap.size w w' := by
  have HRT := Lib.hid (fun W => Right_c a b c W)
  have HRN : ∀ g W, St g s 0 (clmp a 16 8192) (clmp b 1 100) (clmp c 0 1048576) 0 0 [] 0 W → Mx W → 3 < g → Calls Tryd.prog 16 #[.pointer (some ⟨g, 0, none⟩)] W fun e w' => e = .returned (.tuple #[]) ∧ St g s q.k (clmp a 16 8192) (clmp b 1 100) (clmp c 0 1048576) q.sz q.n q.bd q.st w' ∧ Below g W w' :=
    fun g W h k hg => run_c g s _ _ _ W h k hg hs (by unfold clmp; omega) (by unfold clmp; omega) q hq
  by_cases h0 : q.st = 0
  · rw [if_pos h0]
    rw [h0] at HRN
    exact cp_o s a b c _ _ _ q.k q.sz q.n 0 q.bd w hM rfl HRT (Lib.hid HRN)
  · rw [if_neg h0]
    exact cp_e s a b c _ _ _ q.k q.sz q.n q.st q.bd w hM (bne_iff_ne.2 h0) (beq_eq_false_iff_ne.2 h0) HRT (Lib.hid HRN)
end Go.Proofs.YteegbcjpganobaaDoor.Hd
