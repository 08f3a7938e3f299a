/- The contract of package wire's first at a head without fields and nothing behind it. -/
import Derived.Test.YtkblggpnghdnmaaGreatDoorWrFirst
namespace Go.Proofs.YtkblggpnghdnmaaGreatDoor.Hd
open Go.RowKit Ch
set_option linter.unusedSimpArgs false
set_option linter.unusedVariables false

set_option maxRecDepth 100000 in
set_option maxHeartbeats 600000 in
theorem first_ok (s pm pt : ByteArray) (a b c mn : Int) (n : Nat) (w : World) (hn : s.size = n) (hs : s.size ≤ 1000)
    (HP : Hid (∀ W, Mx W → ErT W → Calls Tryz.prog 20 #[.string s, .agg #[.int .i64 a, .int .i64 b, .int .i64 c]] W fun e w' => ∃ ao cp, e = .returned (.tuple #[.agg #[.string pm, .string pt, .int .i64 mn, .slice ao 0 cp], .int .i64 (n : Int), .int .i64 0]) ∧ Below W.heap.size W w')) (hM : Mx w) (hE : ErT w) :
    Calls Tryz.prog 17 #[.string s, .agg #[.int .i64 a, .int .i64 b, .int .i64 c]] w fun e w' => ∃ ao cp, e = .returned (.tuple #[.agg #[.string pm, .string pt, .int .i64 mn, .slice ao 0 cp, .string ⟨#[]⟩], .int .i64 (n : Int), .int .i64 0]) ∧ Below w.heap.size w w' := by
  have HD : Hid (∃ W0, W0 = (w.alloc (.cells #[.int .i64 a, .int .i64 b, .int .i64 c] 27)).alloc (.cells #[.string ⟨#[]⟩, .string ⟨#[]⟩, .int .i64 0, .slice none 0 0, .string ⟨#[]⟩] 37) ∧ W0.heap[w.heap.size]? = some (.cells #[.int .i64 a, .int .i64 b, .int .i64 c] 27 (0, 0)) ∧ W0.heap[w.heap.size + 1]? = some (.cells #[.string ⟨#[]⟩, .string ⟨#[]⟩, .int .i64 0, .slice none 0 0, .string ⟨#[]⟩] 37 (0, 0)) ∧ Below w.heap.size w W0) := by
    refine ⟨_, rfl, heap_oldW _ (heap_alloc_new w _), ?_, ((Below.refl _ _).alloc (Nat.le_refl _) _).alloc (by simp) _⟩
    have := heap_alloc_new (w.alloc (.cells #[.int .i64 a, .int .i64 b, .int .i64 c] 27)) (.cells #[.string ⟨#[]⟩, .string ⟨#[]⟩, .int .i64 0, .slice none 0 0, .string ⟨#[]⟩] 37)
    simpa using this
  obtain ⟨W0, hW0, hL0, hT0, hB0⟩ := HD.out
  have HWE := Lib.hid hW0
  have HT0 := Lib.hid hT0
  have HL0 := Lib.hid hL0
  have HB0 := Lib.hid hB0
  have HPP := Lib.hid (HP.out W0 (hM.go hB0) (hE.go hB0))
  have hz0 : w.heap.size + 1 < W0.heap.size := (Array.getElem?_eq_some_iff.1 hT0).1
  have hn0 : (0 : Int) ≤ (n : Int) := by omega
  have hn1 : (n : Int) ≤ (s.size : Int) := by omega
  have hex : s.extract n s.size = ⟨#[]⟩ := by rw [extN, List.drop_eq_nil_of_le (by rw [← Lib.size_eq]; omega)]; rfl
  have hwr : IntKind.i64.wrap ((n : Int) + 0) = (n : Int) := IntWalk.i64_in _ (by omega) |>.trans (by omega)
  clear HD hW0 hT0 hL0 hB0 hM hE HP
  go_enter Tryz.func17, Tryz.ntmps17
  go_wp2_with fail
  rw [← HWE.out]
  (with_reducible refine HPP.out.mono ?_)
  rintro e w1 ⟨ao, cp, rfl, hb1⟩
  have hz1 : w.heap.size + 1 < w1.heap.size := Nat.lt_of_lt_of_le hz0 hb1.size
  have HD : Hid (∃ W2, W2 = w1.alloc (.cells #[.string pm, .string pt, .int .i64 mn, .slice ao 0 cp] 35) ∧ W2.heap[w1.heap.size]? = some (.cells #[.string pm, .string pt, .int .i64 mn, .slice ao 0 cp] 35 (0, 0)) ∧ Below w1.heap.size w1 W2) := ⟨_, rfl, heap_alloc_new w1 _, (Below.refl _ _).alloc (Nat.le_refl _) _⟩
  obtain ⟨W2, hW2, hH2, hb2⟩ := HD.out
  have HWE2 := Lib.hid hW2
  have HH2 := Lib.hid hH2
  have hb12 : Below W0.heap.size W0 W2 := hb1.trans (hb2.mono hb1.size)
  have HL2 : Hid (W2.heap[w.heap.size]? = some (.cells #[.int .i64 a, .int .i64 b, .int .i64 c] 27 (0, 0))) := (hb12.block _ (Nat.lt_trans (Nat.lt_succ_self _) hz0)).trans HL0.out
  have HT2 : Hid (W2.heap[w.heap.size + 1]? = some (.cells #[.string ⟨#[]⟩, .string ⟨#[]⟩, .int .i64 0, .slice none 0 0, .string ⟨#[]⟩] 37 (0, 0))) := (hb12.block _ hz0).trans HT0.out
  have HB2 : Hid (Below w.heap.size w W2) := HB0.out.trans (hb12.mono HB0.out.size)
  have hz2 : w1.heap.size < W2.heap.size := (Array.getElem?_eq_some_iff.1 hH2).1
  clear HD hW2 hH2 hb1 hb2 hb12 HPP
  have HEX := Lib.hid hex
  have t0 := cell_of_row _ _ 0 _ _ _ HH2.out
  have t1 := cell_of_row _ _ 1 _ _ _ HH2.out
  have t2 := cell_of_row _ _ 2 _ _ _ HH2.out
  have t3 := cell_of_row _ _ 3 _ _ _ HH2.out
  have t4 := cell_of_row _ _ 0 _ _ _ HL2.out
  have t5 := cell_of_row _ _ 1 _ _ _ HL2.out
  have t6 := cell_of_row _ _ 2 _ _ _ HL2.out
  have HKA : Hid (W2.drew.cell? ⟨w1.heap.size, 0, none⟩ = some (.string pm) ∧ W2.drew.cell? ⟨w1.heap.size, 1, none⟩ = some (.string pt) ∧ W2.drew.cell? ⟨w1.heap.size, 2, none⟩ = some (.int .i64 mn) ∧ W2.drew.cell? ⟨w1.heap.size, 3, none⟩ = some (.slice ao 0 cp) ∧ W2.drew.cell? ⟨w.heap.size, 0, none⟩ = some (.int .i64 a) ∧ W2.drew.cell? ⟨w.heap.size, 1, none⟩ = some (.int .i64 b) ∧ W2.drew.cell? ⟨w.heap.size, 2, none⟩ = some (.int .i64 c)) := ⟨cell_of_row _ _ 0 _ _ _ HH2.out, cell_of_row _ _ 1 _ _ _ HH2.out, cell_of_row _ _ 2 _ _ _ HH2.out, cell_of_row _ _ 3 _ _ _ HH2.out, cell_of_row _ _ 0 _ _ _ HL2.out, cell_of_row _ _ 1 _ _ _ HL2.out, cell_of_row _ _ 2 _ _ _ HL2.out⟩
  have HBO : Hid (∀ W : World, Calls Tryz.prog 21 #[.agg #[.string pm, .string pt, .int .i64 mn, .slice ao 0 cp],   .string ByteArray.empty, .agg #[.int .i64 a, .int .i64 b, .int .i64 c]] W fun e w' => e = .returned (.tuple #[.string ⟨#[]⟩, .int .i64 0, .int .i64 0]) ∧ Below W.heap.size W w') := fun W => bodyOf_c pm pt mn a b c ao cp W
  clear hex
  go_wp2_with fail
  rw [← HWE2.out]
  go_region_held3 (fun V => V.cell? ⟨w1.heap.size, 0, none⟩ = some (.string pm) ∧ V.cell? ⟨w1.heap.size, 1, none⟩ = some (.string pt) ∧ V.cell? ⟨w1.heap.size, 2, none⟩ = some (.int .i64 mn) ∧ V.cell? ⟨w1.heap.size, 3, none⟩ = some (.slice ao 0 cp) ∧ V.cell? ⟨w.heap.size, 0, none⟩ = some (.int .i64 a) ∧ V.cell? ⟨w.heap.size, 1, none⟩ = some (.int .i64 b) ∧ V.cell? ⟨w.heap.size, 2, none⟩ = some (.int .i64 c))
    (first | (with_reducible exact HKA.out) | (with_reducible exact HK3.out))
    (first | (go_at_call 21; (with_reducible refine (HBO.out W2.drew).mono ?_); rintro e w3 ⟨rfl, hb3⟩; have HH3 : Hid (w3.heap[w1.heap.size]? = some (.cells #[.string pm, .string pt, .int .i64 mn, .slice ao 0 cp] 35 (0, 0))) := (hb3.block _ hz2).trans HH2.out; have HL3 : Hid (w3.heap[w.heap.size]? = some (.cells #[.int .i64 a, .int .i64 b, .int .i64 c] 27 (0, 0))) := (hb3.block _ (Nat.lt_trans (Nat.lt_trans (Nat.lt_succ_self _) hz1) hz2)).trans HL2.out; have HT3 : Hid (w3.heap[w.heap.size + 1]? = some (.cells #[.string ⟨#[]⟩, .string ⟨#[]⟩, .int .i64 0, .slice none 0 0, .string ⟨#[]⟩] 37 (0, 0))) := (hb3.block _ (Nat.lt_trans hz1 hz2)).trans HT2.out; have HB3 : Hid (Below w.heap.size w w3) := HB2.out.trans (Below.mono ⟨hb3.os, hb3.tape, hb3.output, hb3.size, hb3.block⟩ HB2.out.size); have HK3 : Hid (w3.cell? ⟨w1.heap.size, 0, none⟩ = some (.string pm) ∧ w3.cell? ⟨w1.heap.size, 1, none⟩ = some (.string pt) ∧ w3.cell? ⟨w1.heap.size, 2, none⟩ = some (.int .i64 mn) ∧ w3.cell? ⟨w1.heap.size, 3, none⟩ = some (.slice ao 0 cp) ∧ w3.cell? ⟨w.heap.size, 0, none⟩ = some (.int .i64 a) ∧ w3.cell? ⟨w.heap.size, 1, none⟩ = some (.int .i64 b) ∧ w3.cell? ⟨w.heap.size, 2, none⟩ = some (.int .i64 c)) := ⟨cell_of_row _ _ 0 _ _ _ HH3.out, cell_of_row _ _ 1 _ _ _ HH3.out, cell_of_row _ _ 2 _ _ _ HH3.out, cell_of_row _ _ 3 _ _ _ HH3.out, cell_of_row _ _ 0 _ _ _ HL3.out, cell_of_row _ _ 1 _ _ _ HL3.out, cell_of_row _ _ 2 _ _ _ HL3.out⟩; clear hb3))
  clear t0 t1 t2 t3 t4 t5 t6
  have t0 := cell_of_row _ _ 0 _ _ _ HH3.out
  have t1 := cell_of_row _ _ 1 _ _ _ HH3.out
  have t2 := cell_of_row _ _ 2 _ _ _ HH3.out
  have t3 := cell_of_row _ _ 3 _ _ _ HH3.out
  have c0 := cell_of_row _ _ 0 _ _ _ HT3.out
  have c1 := cell_of_row _ _ 1 _ _ _ HT3.out
  have c2 := cell_of_row _ _ 2 _ _ _ HT3.out
  have c3 := cell_of_row _ _ 3 _ _ _ HT3.out
  have c4 := cell_of_row _ _ 4 _ _ _ HT3.out
  have z0 := frz2 HT3.out 0
  have z1 := frz2 HT3.out 1
  have z2 := frz2 HT3.out 2
  have z3 := frz2 HT3.out 3
  have z4 := frz2 HT3.out 4
  have hne : w.heap.size + 1 ≠ w1.heap.size := by omega
  have HH := Lib.hid (set5 HT3.out (.string pm) (.string pt) (.int .i64 mn) (.slice ao 0 cp) (.string ⟨#[]⟩))
  have HHB := Lib.hid (bel5 HB3.out (Nat.le_succ w.heap.size) (.string pm) (.string pt) (.int .i64 mn) (.slice ao 0 cp) (.string ⟨#[]⟩))
  go_wp2
  have d0 := cell_of_row _ _ 0 _ _ _ HH.out
  have d1 := cell_of_row _ _ 1 _ _ _ HH.out
  have d2 := cell_of_row _ _ 2 _ _ _ HH.out
  have d3 := cell_of_row _ _ 3 _ _ _ HH.out
  have d4 := cell_of_row _ _ 4 _ _ _ HH.out
  clear c0 c1 c2 c3 c4 z0 z1 z2 z3 z4 t0 t1 t2 t3
  (with_reducible refine bodyPost_ret (v := .tuple #[.agg #[.string pm, .string pt, .int .i64 mn, .slice ao 0 cp, .string ⟨#[]⟩], .int .i64 (n : Int), .int .i64 0]) (by simp [results, Tryz.results17, go_sem, d0, d1, d2, d3, d4]) rfl ⟨ao, cp, rfl, HHB.out⟩)
end Go.Proofs.YtkblggpnghdnmaaGreatDoor.Hd
