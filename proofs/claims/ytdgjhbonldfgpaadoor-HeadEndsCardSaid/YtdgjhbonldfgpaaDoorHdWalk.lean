/- The walk of the statement on package head's Parse. -/
import Derived.Test.YtdgjhbonldfgpaaDoorHdLaw
import Derived.Test.YtdgjhbonldfgpaaDoorHdAwake
namespace Go.Proofs.YtdgjhbonldfgpaaDoor.Hd
open Go.RowKit Ch
set_option linter.unusedSimpArgs false
set_option linter.unusedVariables false

theorem stoodR : Tryd.prog.stoodInHeld 47 = false := by kernel_rfl
set_option maxRecDepth 100000 in
set_option maxHeartbeats 4000000 in
theorem walkB (a0 a1 s m pm pt : ByteArray) (la lb lc mn n st : Int) (fs : List FldL) (w : World) (HM : Hid (Mx w)) (HE : Hid (ErT w)) (hm : fs.length ≤ 2000) (h1 : (st == 1) = false) (hn : n ≤ (s.size : Int)) (hn0 : 0 ≤ n) (hz : s.size ≤ 500) (hz2 : m.size ≤ 500)
    (hsh : Hid (∀ W, Calls Tryd.prog 5 #[.string a0] W fun e w' => e = .returned (.string s) ∧ W = w'))
    (hsh2 : Hid (∀ W, Calls Tryd.prog 5 #[.string a1] W fun e w' => e = .returned (.string m) ∧ W = w'))
    (HP : Hid (∀ W, Mx W → ErT W → Calls Tryd.prog 6 #[.string s, .agg #[.int .i64 la, .int .i64 lb, .int .i64 lc]] W fun e w' => ∃ ao cp, e = .returned (.tuple #[.agg #[.string pm, .string pt, .int .i64 mn, .slice ao fs.length cp], .int .i64 n, .int .i64 st]) ∧ OwL W.heap.size (.slice ao fs.length cp) fs w' ∧ Below W.heap.size W w'))
    (HQ : Hid (∀ W, Mx W → ErT W → Calls Tryd.prog 6 #[.string (s ++ m), .agg #[.int .i64 la, .int .i64 lb, .int .i64 lc]] W fun e w' => ∃ ao cp, e = .returned (.tuple #[.agg #[.string pm, .string pt, .int .i64 mn, .slice ao fs.length cp], .int .i64 n, .int .i64 st]) ∧ OwL W.heap.size (.slice ao fs.length cp) fs w' ∧ Below W.heap.size W w')) :
    Calls Tryd.prog 3 #[.string a0, .string a1, .agg #[.int .i64 la, .int .i64 lb, .int .i64 lc]] w fun e w' => e = .returned (.bool true) ∧ Below w.heap.size w w' := by
  have HD : Hid (∃ W0, W0 = w.alloc (.cells #[.int .i64 la, .int .i64 lb, .int .i64 lc] 23) ∧ W0.heap[w.heap.size]? = some (.cells #[.int .i64 la, .int .i64 lb, .int .i64 lc] 23 (0, 0)) ∧ Below w.heap.size w W0) := ⟨_, rfl, heap_alloc_new w _, (Below.refl _ _).alloc (Nat.le_refl _) _⟩
  obtain ⟨W0, hW0, hL0, hB0⟩ := HD.out
  have HWE := Lib.hid hW0
  have HL0 := Lib.hid hL0
  have HB0 := Lib.hid hB0
  have HM0 := Lib.hid (HM.out.go hB0)
  have HE0 := Lib.hid (HE.out.go hB0)
  have hsz0 : w.heap.size < W0.heap.size := (Array.getElem?_eq_some_iff.1 hL0).1
  clear HD hW0 hL0 hB0 HM HE
  go_enter Tryd.func3, Tryd.ntmps3
  go_wp2_with fail
  rw [← HWE.out]
  clear HWE
  (with_reducible refine (hsh.out _).mono ?_)
  rintro e w1 ⟨rfl, hw⟩
  rw [← hw]; clear hw
  go_wp2_with fail
  (with_reducible refine (hsh2.out _).mono ?_)
  rintro e w1 ⟨rfl, hw⟩
  rw [← hw]; clear hw
  have l0 := cell_of_row _ _ 0 _ _ _ HL0.out
  have l1 := cell_of_row _ _ 1 _ _ _ HL0.out
  have l2 := cell_of_row _ _ 2 _ _ _ HL0.out
  go_wp2_with fail
  (with_reducible refine (Ours_c la lb lc W0).mono ?_)
  rintro e w2 ⟨rfl, hb2⟩
  have HB2 : Hid (Below w.heap.size w w2) := HB0.out.trans (hb2.mono HB0.out.size)
  have HL2 : Hid (w2.heap[w.heap.size]? = some (.cells #[.int .i64 la, .int .i64 lb, .int .i64 lc] 23 (0, 0))) := (hb2.block _ hsz0).trans HL0.out
  have HM2 := Lib.hid (HM0.out.go hb2)
  have HE2 := Lib.hid (HE0.out.go hb2)
  have hsz2 : w.heap.size < w2.heap.size := (Array.getElem?_eq_some_iff.1 HL2.out).1
  clear hb2 l0 l1 l2
  go_wp2_with fail
  (with_reducible refine (HP.out _ HM2.out HE2.out).mono ?_)
  rintro e w3 ⟨ao, cp, rfl, ho3, hb3⟩
  have hsz3 : w2.heap.size ≤ w3.heap.size := hb3.size
  have HD : Hid (∃ W4, W4 = w3.alloc (.cells #[.string pm, .string pt, .int .i64 mn, .slice ao fs.length cp] 27) ∧ W4.heap[w3.heap.size]? = some (.cells #[.string pm, .string pt, .int .i64 mn, .slice ao fs.length cp] 27 (0, 0)) ∧ Below w3.heap.size w3 W4) := ⟨_, rfl, heap_alloc_new w3 _, (Below.refl _ _).alloc (Nat.le_refl _) _⟩
  obtain ⟨W4, hW4, hT4, hb4⟩ := HD.out
  have HWE4 := Lib.hid hW4
  have HT4 := Lib.hid hT4
  have hb34 : Below w2.heap.size w2 W4 := hb3.trans (hb4.mono hsz3)
  have HB4 : Hid (Below w.heap.size w W4) := HB2.out.trans (hb34.mono (Nat.le_of_lt hsz2))
  have HO4 := Lib.hid (OwL.go ho3 hb4)
  have HM4 := Lib.hid (HM2.out.go hb34)
  have HE4 := Lib.hid (HE2.out.go hb34)
  have HL4 : Hid (W4.heap[w.heap.size]? = some (.cells #[.int .i64 la, .int .i64 lb, .int .i64 lc] 23 (0, 0))) := (hb34.block _ hsz2).trans HL2.out
  have hsz4 : w3.heap.size < W4.heap.size := (Array.getElem?_eq_some_iff.1 hT4).1
  have HL3 : Hid (w3.heap[w.heap.size]? = some (.cells #[.int .i64 la, .int .i64 lb, .int .i64 lc] 23 (0, 0))) := (hb3.block _ hsz2).trans HL2.out
  clear HD hW4 hT4 hb4 ho3 hb3 hb34
  have l0 := cell_of_row _ _ 0 _ _ _ HL3.out
  have l1 := cell_of_row _ _ 1 _ _ _ HL3.out
  have l2 := cell_of_row _ _ 2 _ _ _ HL3.out
  have hq1 : w.heap.size < w3.heap.size := by omega
  have hq2 : w.heap.size ≠ w3.heap.size := by omega
  have hsum : ∀ W, (Op.stringOp .add s m).run Tryd.prog W = .ok (.string (s ++ m)) W := fun W => run_string_add_sum W s m (by omega)
  go_wp2_with fail
  rw [← HWE4.out]
  (with_reducible refine (Ours_c la lb lc W4).mono ?_)
  rintro e w5 ⟨rfl, hb5⟩
  have HB5 : Hid (Below w.heap.size w w5) := HB4.out.trans (hb5.mono HB4.out.size)
  have HT5 : Hid (w5.heap[w3.heap.size]? = some (.cells #[.string pm, .string pt, .int .i64 mn, .slice ao fs.length cp] 27 (0, 0))) := (hb5.block _ hsz4).trans HT4.out
  have HO5 := Lib.hid (HO4.out.go hb5)
  have HM5 := Lib.hid (HM4.out.go hb5)
  have HE5 := Lib.hid (HE4.out.go hb5)
  have hsz5 : w3.heap.size < w5.heap.size := (Array.getElem?_eq_some_iff.1 HT5.out).1
  clear hb5 l0 l1 l2
  go_wp2_with fail
  (with_reducible refine (HQ.out _ HM5.out HE5.out).mono ?_)
  rintro e w6 ⟨aq, cq, rfl, ho6, hb6⟩
  have HD : Hid (∃ W7, W7 = w6.alloc (.cells #[.string pm, .string pt, .int .i64 mn, .slice aq fs.length cq] 27) ∧ W7.heap[w6.heap.size]? = some (.cells #[.string pm, .string pt, .int .i64 mn, .slice aq fs.length cq] 27 (0, 0)) ∧ Below w6.heap.size w6 W7) := ⟨_, rfl, heap_alloc_new w6 _, (Below.refl _ _).alloc (Nat.le_refl _) _⟩
  obtain ⟨W7, hW7, hT7, hb7⟩ := HD.out
  have hb57 : Below w5.heap.size w5 W7 := hb6.trans (hb7.mono hb6.size)
  have HWE7 := Lib.hid hW7
  have HB7 : Hid (Below w.heap.size w W7) := HB5.out.trans (hb57.mono HB5.out.size)
  have HU7 : Hid (W7.heap[w3.heap.size]? = some (.cells #[.string pm, .string pt, .int .i64 mn, .slice ao fs.length cp] 27 (0, 0))) := (hb57.block _ hsz5).trans HT5.out
  have HO7 := Lib.hid (HO5.out.go hb57)
  have HP7 := Lib.hid (OwL.go ho6 hb7)
  have HM7 := Lib.hid (HM5.out.go hb57)
  have HK6 : Hid (w6.heap[w3.heap.size]? = some (.cells #[.string pm, .string pt, .int .i64 mn, .slice ao fs.length cp] 27 (0, 0))) := (hb6.block _ hsz5).trans HT5.out
  have hsz7 : w6.heap.size < W7.heap.size := (Array.getElem?_eq_some_iff.1 hT7).1
  have HT7 := Lib.hid hT7
  have hsz6 : w3.heap.size < w6.heap.size := (Array.getElem?_eq_some_iff.1 HK6.out).1
  clear HD hW7 hT7 hb7 ho6 hb6 hb57
  have hnn : w3.heap.size ≠ w6.heap.size := by omega
  go_wp2_with fail
  rw [← HWE7.out]
  have HOW := Lib.hid (HO7.out.go (bel_drew _))
  have HPW := Lib.hid (HP7.out.go (bel_drew _))
  have t0 := cell_of_row _ _ 0 _ _ _ HU7.out
  have t1 := cell_of_row _ _ 1 _ _ _ HU7.out
  have t2 := cell_of_row _ _ 2 _ _ _ HU7.out
  have t3 := cell_of_row _ _ 3 _ _ _ HU7.out
  have t4 := cell_of_row _ _ 0 _ _ _ HT7.out
  have t5 := cell_of_row _ _ 1 _ _ _ HT7.out
  have t6 := cell_of_row _ _ 2 _ _ _ HT7.out
  have t7 := cell_of_row _ _ 3 _ _ _ HT7.out
  have hns : (n ≤ (s.size : Int)) = True := by simpa using hn
  have hsw : w3.heap.size < W7.heap.size := by omega
  go_region_held3 (fun V => V.cell? ⟨w3.heap.size, 0, none⟩ = some (.string pm) ∧ V.cell? ⟨w3.heap.size, 1, none⟩ = some (.string pt) ∧ V.cell? ⟨w3.heap.size, 2, none⟩ = some (.int .i64 mn) ∧ V.cell? ⟨w3.heap.size, 3, none⟩ = some (.slice ao fs.length cp) ∧ V.cell? ⟨w6.heap.size, 0, none⟩ = some (.string pm) ∧ V.cell? ⟨w6.heap.size, 1, none⟩ = some (.string pt) ∧ V.cell? ⟨w6.heap.size, 2, none⟩ = some (.int .i64 mn) ∧ V.cell? ⟨w6.heap.size, 3, none⟩ = some (.slice aq fs.length cq))
    (first | exact ⟨v0, v1, v2, v3, v4, v5, v6, v7⟩ | exact ⟨z0, z1, z2, z3, z4, z5, z6, z7⟩ | exact ⟨y0, y1, y2, y3, y4, y5, y6, y7⟩ | exact ⟨x0, x1, x2, x3, x4, x5, x6, x7⟩ | exact ⟨t0, t1, t2, t3, t4, t5, t6, t7⟩)
    (first
      | (go_at_call 10; (with_reducible refine (Plain_c pm pt mn aq cq fs _ _ HPW.out hm).mono ?_); rintro e w8 ⟨a8, c8, rfl, ho8, hb8⟩; have hb8' : Below W7.heap.size W7 w8 := ⟨hb8.os, hb8.tape, hb8.output, hb8.size, hb8.block⟩; have HU8 : Hid (w8.heap[w3.heap.size]? = some (.cells #[.string pm, .string pt, .int .i64 mn, .slice ao fs.length cp] 27 (0, 0))) := (hb8'.block _ hsw).trans HU7.out; have HT8 : Hid (w8.heap[w6.heap.size]? = some (.cells #[.string pm, .string pt, .int .i64 mn, .slice aq fs.length cq] 27 (0, 0))) := (hb8'.block _ hsz7).trans HT7.out; have HO8 := Lib.hid (HOW.out.go hb8); have HP8 := Lib.hid ho8; have HM8 := Lib.hid (HM7.out.go hb8'); have HB8 : Hid (Below w.heap.size w w8) := HB7.out.trans (hb8'.mono HB7.out.size); have hsx8 := hb8'.size; clear hb8 hb8' ho8; have x0 := cell_of_row _ _ 0 _ _ _ HU8.out; have x1 := cell_of_row _ _ 1 _ _ _ HU8.out; have x2 := cell_of_row _ _ 2 _ _ _ HU8.out; have x3 := cell_of_row _ _ 3 _ _ _ HU8.out; have x4 := cell_of_row _ _ 0 _ _ _ HT8.out; have x5 := cell_of_row _ _ 1 _ _ _ HT8.out; have x6 := cell_of_row _ _ 2 _ _ _ HT8.out; have x7 := cell_of_row _ _ 3 _ _ _ HT8.out)
      | (go_at_call 10; (with_reducible refine (Plain_c pm pt mn ao cp fs _ _ HO8.out hm).mono ?_); rintro e w9 ⟨a9, c9, rfl, ho9, hb9⟩; have HU9 : Hid (w9.heap[w3.heap.size]? = some (.cells #[.string pm, .string pt, .int .i64 mn, .slice ao fs.length cp] 27 (0, 0))) := (hb9.block _ (by omega)).trans HU8.out; have HT9 : Hid (w9.heap[w6.heap.size]? = some (.cells #[.string pm, .string pt, .int .i64 mn, .slice aq fs.length cq] 27 (0, 0))) := (hb9.block _ (by omega)).trans HT8.out; have HO9 := Lib.hid ho9; have HP9 := Lib.hid (HP8.out.go hb9); have HM9 := Lib.hid (HM8.out.go hb9); have HB9 : Hid (Below w.heap.size w w9) := HB8.out.trans (hb9.mono HB8.out.size); have hsx9 := hb9.size; clear hb9 ho9; have y0 := cell_of_row _ _ 0 _ _ _ HU9.out; have y1 := cell_of_row _ _ 1 _ _ _ HU9.out; have y2 := cell_of_row _ _ 2 _ _ _ HU9.out; have y3 := cell_of_row _ _ 3 _ _ _ HU9.out; have y4 := cell_of_row _ _ 0 _ _ _ HT9.out; have y5 := cell_of_row _ _ 1 _ _ _ HT9.out; have y6 := cell_of_row _ _ 2 _ _ _ HT9.out; have y7 := cell_of_row _ _ 3 _ _ _ HT9.out)
      | (go_at_call 9; (with_reducible refine (Same_c pm pt mn _ _ _ _ fs _ _ _ HP9.out HO9.out hm stoodR).mono ?_); rintro e w10 ⟨rfl, hb10⟩; have HU10 : Hid (w10.heap[w3.heap.size]? = some (.cells #[.string pm, .string pt, .int .i64 mn, .slice ao fs.length cp] 27 (0, 0))) := (hb10.block _ (by omega)).trans HU9.out; have HT10 : Hid (w10.heap[w6.heap.size]? = some (.cells #[.string pm, .string pt, .int .i64 mn, .slice aq fs.length cq] 27 (0, 0))) := (hb10.block _ (by omega)).trans HT9.out; have HM10 := Lib.hid (HM9.out.go hb10); have HB10 : Hid (Below w.heap.size w w10) := HB9.out.trans (hb10.mono HB9.out.size); have hsx10 := hb10.size; clear hb10; have z0 := cell_of_row _ _ 0 _ _ _ HU10.out; have z1 := cell_of_row _ _ 1 _ _ _ HU10.out; have z2 := cell_of_row _ _ 2 _ _ _ HU10.out; have z3 := cell_of_row _ _ 3 _ _ _ HU10.out; have z4 := cell_of_row _ _ 0 _ _ _ HT10.out; have z5 := cell_of_row _ _ 1 _ _ _ HT10.out; have z6 := cell_of_row _ _ 2 _ _ _ HT10.out; have z7 := cell_of_row _ _ 3 _ _ _ HT10.out)
      | (go_at_call 8; (with_reducible refine (awake_c _ HM10.out).mono ?_); rintro e w11 ⟨rfl, hb11⟩; have HU11 : Hid (w11.heap[w3.heap.size]? = some (.cells #[.string pm, .string pt, .int .i64 mn, .slice ao fs.length cp] 27 (0, 0))) := (hb11.block _ (by omega)).trans HU10.out; have HT11 : Hid (w11.heap[w6.heap.size]? = some (.cells #[.string pm, .string pt, .int .i64 mn, .slice aq fs.length cq] 27 (0, 0))) := (hb11.block _ (by omega)).trans HT10.out; have HB11 : Hid (Below w.heap.size w w11) := HB10.out.trans (hb11.mono HB10.out.size); clear hb11; have v0 := cell_of_row _ _ 0 _ _ _ HU11.out; have v1 := cell_of_row _ _ 1 _ _ _ HU11.out; have v2 := cell_of_row _ _ 2 _ _ _ HU11.out; have v3 := cell_of_row _ _ 3 _ _ _ HU11.out; have v4 := cell_of_row _ _ 0 _ _ _ HT11.out; have v5 := cell_of_row _ _ 1 _ _ _ HT11.out; have v6 := cell_of_row _ _ 2 _ _ _ HT11.out; have v7 := cell_of_row _ _ 3 _ _ _ HT11.out))
  go_wp2
  go_ret
  exact ⟨rfl, HB11.out⟩
set_option maxRecDepth 100000 in
set_option maxHeartbeats 4000000 in
theorem walkA (a0 a1 s m pm pt : ByteArray) (la lb lc mn : Int) (fs : List FldL) (w : World) (HM : Hid (Mx w)) (HE : Hid (ErT w)) (hm : fs.length ≤ 2000) (hz : s.size ≤ 500) (hz2 : m.size ≤ 500)
    (hsh : Hid (∀ W, Calls Tryd.prog 5 #[.string a0] W fun e w' => e = .returned (.string s) ∧ W = w'))
    (hsh2 : Hid (∀ W, Calls Tryd.prog 5 #[.string a1] W fun e w' => e = .returned (.string m) ∧ W = w'))
    (HP : Hid (∀ W, Mx W → ErT W → Calls Tryd.prog 6 #[.string s, .agg #[.int .i64 la, .int .i64 lb, .int .i64 lc]] W fun e w' => ∃ ao cp, e = .returned (.tuple #[.agg #[.string pm, .string pt, .int .i64 mn, .slice ao fs.length cp], .int .i64 0, .int .i64 1]) ∧ OwL W.heap.size (.slice ao fs.length cp) fs w' ∧ Below W.heap.size W w')) :
    Calls Tryd.prog 3 #[.string a0, .string a1, .agg #[.int .i64 la, .int .i64 lb, .int .i64 lc]] w fun e w' => e = .returned (.bool true) ∧ Below w.heap.size w w' := by
  have HD : Hid (∃ W0, W0 = w.alloc (.cells #[.int .i64 la, .int .i64 lb, .int .i64 lc] 23) ∧ W0.heap[w.heap.size]? = some (.cells #[.int .i64 la, .int .i64 lb, .int .i64 lc] 23 (0, 0)) ∧ Below w.heap.size w W0) := ⟨_, rfl, heap_alloc_new w _, (Below.refl _ _).alloc (Nat.le_refl _) _⟩
  obtain ⟨W0, hW0, hL0, hB0⟩ := HD.out
  have HWE := Lib.hid hW0
  have HL0 := Lib.hid hL0
  have HB0 := Lib.hid hB0
  have HM0 := Lib.hid (HM.out.go hB0)
  have HE0 := Lib.hid (HE.out.go hB0)
  have hsz0 : w.heap.size < W0.heap.size := (Array.getElem?_eq_some_iff.1 hL0).1
  clear HD hW0 hL0 hB0 HM HE
  go_enter Tryd.func3, Tryd.ntmps3
  go_wp2_with fail
  rw [← HWE.out]
  clear HWE
  (with_reducible refine (hsh.out _).mono ?_)
  rintro e w1 ⟨rfl, hw⟩
  rw [← hw]; clear hw
  go_wp2_with fail
  (with_reducible refine (hsh2.out _).mono ?_)
  rintro e w1 ⟨rfl, hw⟩
  rw [← hw]; clear hw
  have l0 := cell_of_row _ _ 0 _ _ _ HL0.out
  have l1 := cell_of_row _ _ 1 _ _ _ HL0.out
  have l2 := cell_of_row _ _ 2 _ _ _ HL0.out
  go_wp2_with fail
  (with_reducible refine (Ours_c la lb lc W0).mono ?_)
  rintro e w2 ⟨rfl, hb2⟩
  have HB2 : Hid (Below w.heap.size w w2) := HB0.out.trans (hb2.mono HB0.out.size)
  have HL2 : Hid (w2.heap[w.heap.size]? = some (.cells #[.int .i64 la, .int .i64 lb, .int .i64 lc] 23 (0, 0))) := (hb2.block _ hsz0).trans HL0.out
  have HM2 := Lib.hid (HM0.out.go hb2)
  have HE2 := Lib.hid (HE0.out.go hb2)
  have hsz2 : w.heap.size < w2.heap.size := (Array.getElem?_eq_some_iff.1 HL2.out).1
  clear hb2 l0 l1 l2
  go_wp2_with fail
  (with_reducible refine (HP.out _ HM2.out HE2.out).mono ?_)
  rintro e w3 ⟨ao, cp, rfl, ho3, hb3⟩
  have hsz3 : w2.heap.size ≤ w3.heap.size := hb3.size
  have hb4 : Below w3.heap.size w3 (w3.alloc (.cells #[.string pm, .string pt, .int .i64 mn, .slice ao fs.length cp] 27)) := (Below.refl _ _).alloc (Nat.le_refl _) _
  have hb34 := hb3.trans (hb4.mono hsz3)
  have HB4 : Hid (Below w.heap.size w (w3.alloc (.cells #[.string pm, .string pt, .int .i64 mn, .slice ao fs.length cp] 27))) := HB2.out.trans (hb34.mono (Nat.le_of_lt hsz2))
  have HM4 := Lib.hid (HM2.out.go hb34)
  clear hb3 hb4 hb34 ho3
  go_wp2_with fail
  (with_reducible refine (awake_c _ HM4.out).mono ?_)
  rintro e w9 ⟨rfl, hb9⟩
  have HB9 := Lib.hid (HB4.out.trans (hb9.mono HB4.out.size))
  clear hb9
  go_wp2
  go_ret
  exact ⟨rfl, HB9.out⟩
end Go.Proofs.YtdgjhbonldfgpaaDoor.Hd
