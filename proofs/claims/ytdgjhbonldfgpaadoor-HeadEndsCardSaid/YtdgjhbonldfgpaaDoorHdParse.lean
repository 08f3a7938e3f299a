/- The contract of package head's Parse at chapter 10's example; where the library's variable MaxLen holds a number. -/
import Derived.Test.YtdgjhbonldfgpaaDoorHdHead
namespace Go.Proofs.YtdgjhbonldfgpaaDoor.Hd
open Go.RowKit Ch
set_option linter.unusedSimpArgs false
set_option linter.unusedVariables false

theorem bel_drew (W : World) : Below W.heap.size W W.drew := ⟨rfl, rfl, rfl, Nat.le_refl _, fun _ _ => rfl⟩
theorem rt_ex (w : World) : Calls Tryd.prog 15 #[.agg #[.int .i64 0, .int .i64 0, .int .i64 0]] w fun e w' => e = .returned (.agg #[.int .i64 16, .int .i64 1, .int .i64 0]) ∧ Below w.heap.size w w' := Right_c 0 0 0 w
set_option maxRecDepth 100000 in
set_option maxHeartbeats 800000 in
theorem Parse_ex (w : World) (hM : Mx w) :
    Calls Tryd.prog 6 #[.string exT, .agg #[.int .i64 0, .int .i64 0, .int .i64 0]] w fun e w' => ∃ ao c, e = .returned (.tuple #[.agg #[.string ⟨#[71, 69, 84]⟩, .string ⟨#[47, 97]⟩, .int .i64 1, .slice ao 1 c], .int .i64 28, .int .i64 0]) ∧ OwF w.heap.size ao c w' ∧ Below w.heap.size w w' := by
  have hml := hM.lt
  have HD : Hid (∃ W0, W0 = (w.alloc (.cells #[.int .i64 0, .int .i64 0, .int .i64 0] 30)).alloc (.cells #[.string ⟨#[]⟩, .string ⟨#[]⟩, .int .i64 0, .slice none 0 0] 27) ∧ W0.heap[w.heap.size]? = some (.cells #[.int .i64 0, .int .i64 0, .int .i64 0] 30 (0, 0)) ∧ W0.heap[w.heap.size + 1]? = some (.cells #[.string ⟨#[]⟩, .string ⟨#[]⟩, .int .i64 0, .slice none 0 0] 27 (0, 0)) ∧ Below w.heap.size w W0 ∧ W0.heap.size = w.heap.size + 2) := by
    refine ⟨_, rfl, ?_, ?_, ((Below.refl _ _).alloc (Nat.le_refl _) _).alloc (by simp) _, by simp⟩
    · have hb := (Below.refl (w.heap.size + 1) (w.alloc (.cells #[.int .i64 0, .int .i64 0, .int .i64 0] 30))).alloc (by simp) (.cells #[.string ⟨#[]⟩, .string ⟨#[]⟩, .int .i64 0, .slice none 0 0] 27)
      exact (hb.block _ (by omega)).trans (heap_alloc_new w _)
    · have := heap_alloc_new (w.alloc (.cells #[.int .i64 0, .int .i64 0, .int .i64 0] 30)) (.cells #[.string ⟨#[]⟩, .string ⟨#[]⟩, .int .i64 0, .slice none 0 0] 27)
      simpa using this
  obtain ⟨W0, hW0, hL0, hT0, hB0, hz0⟩ := HD.out
  have HWE := Lib.hid hW0
  have HT0 := Lib.hid hT0
  have HB0 := Lib.hid hB0
  have HM0 := Lib.hid (hM.go hB0)
  have l0 := cell_of_row _ _ 0 _ _ _ hL0
  have l1 := cell_of_row _ _ 1 _ _ _ hL0
  have l2 := cell_of_row _ _ 2 _ _ _ hL0
  have HZ0 := Lib.hid hz0
  clear HD hW0 hT0 hB0 hL0 hz0 hM
  go_enter Tryd.func6, Tryd.ntmps6
  go_wp2_with fail
  rw [← HWE.out]
  (with_reducible refine (rt_ex _).mono ?_)
  rintro e w1 ⟨rfl, hb1⟩
  have HT1 : Hid (w1.heap[w.heap.size + 1]? = some (.cells #[.string ⟨#[]⟩, .string ⟨#[]⟩, .int .i64 0, .slice none 0 0] 27 (0, 0))) := (hb1.block _ (by rw [HZ0.out]; omega)).trans HT0.out
  have HB1 : Hid (Below w.heap.size w w1) := HB0.out.trans (hb1.mono HB0.out.size)
  have HM1 := Lib.hid (HM0.out.go hb1)
  have hs1 : w.heap.size + 2 ≤ w1.heap.size := by have := hb1.size; rw [HZ0.out] at this; exact this
  clear hb1 l0 l1 l2
  have hb2 : Below w1.heap.size w1 (w1.alloc (.cells #[.string exT, .int .i64 0, .int .i64 0, .int .i64 16, .int .i64 1, .int .i64 0] 53)) := (Below.refl _ _).alloc (Nat.le_refl _) _
  have HR2 : Hid (RdB w1.heap.size exT 0 0 16 1 0 (w1.alloc (.cells #[.string exT, .int .i64 0, .int .i64 0, .int .i64 16, .int .i64 1, .int .i64 0] 53))) := heap_alloc_new w1 _
  have HT2 : Hid ((w1.alloc (.cells #[.string exT, .int .i64 0, .int .i64 0, .int .i64 16, .int .i64 1, .int .i64 0] 53)).heap[w.heap.size + 1]? = some (.cells #[.string ⟨#[]⟩, .string ⟨#[]⟩, .int .i64 0, .slice none 0 0] 27 (0, 0))) := (hb2.block _ (by omega)).trans HT1.out
  have HB2 : Hid (Below w.heap.size w (w1.alloc (.cells #[.string exT, .int .i64 0, .int .i64 0, .int .i64 16, .int .i64 1, .int .i64 0] 53))) := HB1.out.trans (hb2.mono HB1.out.size)
  have HHD := Lib.hid (head_c w1.heap.size _ HR2.out (HM1.out.go hb2) (by omega))
  have hz2 : ∀ o, (w1.alloc o).heap.size = w1.heap.size + 1 := fun o => by simp
  clear hb2
  go_wp2_with fail
  (with_reducible refine HHD.out.mono ?_)
  rintro e w3 ⟨ao, c, rfl, hO3, hR3, hG3⟩
  rw [hz2] at hO3
  have hs3 : w1.heap.size < w3.heap.size := by have := hG3.size; rw [hz2] at this; omega
  have hb4 : Below w3.heap.size w3 (w3.alloc (.cells #[.string ⟨#[71, 69, 84]⟩, .string ⟨#[47, 97]⟩, .int .i64 1, .slice ao 1 c] 27)) := (Below.refl _ _).alloc (Nat.le_refl _) _
  have HT4 : Hid ((w3.alloc (.cells #[.string ⟨#[71, 69, 84]⟩, .string ⟨#[47, 97]⟩, .int .i64 1, .slice ao 1 c] 27)).heap[w.heap.size + 1]? = some (.cells #[.string ⟨#[]⟩, .string ⟨#[]⟩, .int .i64 0, .slice none 0 0] 27 (0, 0))) := (hb4.block _ (by omega)).trans ((hG3.block _ (by rw [hz2]; omega) (fun e => by injection e with e; omega)).trans HT2.out)
  have HU4 := Lib.hid (heap_alloc_new w3 (.cells #[.string ⟨#[71, 69, 84]⟩, .string ⟨#[47, 97]⟩, .int .i64 1, .slice ao 1 c] 27))
  have HO4 := Lib.hid (hO3.go hb4)
  have HR4 := Lib.hid (hR3.go hb4)
  have HB3 : Hid (Below w.heap.size w w3) := HB2.out.grown hG3 HB2.out.size (fun k hk => by injection hk with e; omega)
  have HB4 : Hid (Below w.heap.size w (w3.alloc (.cells #[.string ⟨#[71, 69, 84]⟩, .string ⟨#[47, 97]⟩, .int .i64 1, .slice ao 1 c] 27))) := HB3.out.trans (hb4.mono HB3.out.size)
  have hz4 : ∀ o, (w3.alloc o).heap.size = w3.heap.size + 1 := fun o => by simp
  clear hO3 hR3 hG3 hb4 HHD
  go_wp2_with fail
  (with_reducible refine (told_nil _).mono ?_)
  rintro e w5 ⟨rfl, hb5⟩
  have HT5 : Hid (w5.heap[w.heap.size + 1]? = some (.cells #[.string ⟨#[]⟩, .string ⟨#[]⟩, .int .i64 0, .slice none 0 0] 27 (0, 0))) := (hb5.block _ (by rw [hz4]; omega)).trans HT4.out
  have HU5 : Hid (w5.heap[w3.heap.size]? = some (.cells #[.string ⟨#[71, 69, 84]⟩, .string ⟨#[47, 97]⟩, .int .i64 1, .slice ao 1 c] 27 (0, 0))) := (hb5.block _ (by rw [hz4]; omega)).trans HU4.out
  have HO5 := Lib.hid (HO4.out.go hb5)
  have HR5 := Lib.hid (HR4.out.go hb5)
  have HB5 : Hid (Below w.heap.size w w5) := HB4.out.trans (hb5.mono HB4.out.size)
  clear hb5 HT4 HU4 HO4 HR4 HB4
  have m0 := cell_of_row _ _ 0 _ _ _ HU5.out
  have m1 := cell_of_row _ _ 1 _ _ _ HU5.out
  have m2 := cell_of_row _ _ 2 _ _ _ HU5.out
  have m3 := cell_of_row _ _ 3 _ _ _ HU5.out
  have r1 := cell_of_row _ _ 1 _ _ _ HR5.out
  have c0 := cell_of_row _ _ 0 _ _ _ HT5.out
  have c1 := cell_of_row _ _ 1 _ _ _ HT5.out
  have c2 := cell_of_row _ _ 2 _ _ _ HT5.out
  have c3 := cell_of_row _ _ 3 _ _ _ HT5.out
  have z0 := frz2 HT5.out 0
  have z1 := frz2 HT5.out 1
  have z2 := frz2 HT5.out 2
  have z3 := frz2 HT5.out 3
  have HH := Lib.hid (set4 HT5.out (.string ⟨#[71, 69, 84]⟩) (.string ⟨#[47, 97]⟩) (.int .i64 1) (.slice ao 1 c))
  have HHU := Lib.hid (ne4 (g := w.heap.size + 1) HU5.out (by omega) (.string ⟨#[71, 69, 84]⟩) (.string ⟨#[47, 97]⟩) (.int .i64 1) (.slice ao 1 c))
  have HHR := Lib.hid (ne4 (g := w.heap.size + 1) HR5.out (by omega) (.string ⟨#[71, 69, 84]⟩) (.string ⟨#[47, 97]⟩) (.int .i64 1) (.slice ao 1 c))
  have HGS := Lib.hid (gb_trans (gb_trans (gb_trans (gb_set w5 (w.heap.size + 1) 0 (.string ⟨#[71, 69, 84]⟩)) (gb_set _ (w.heap.size + 1) 1 (.string ⟨#[47, 97]⟩))) (gb_set _ (w.heap.size + 1) 2 (.int .i64 1))) (gb_set _ (w.heap.size + 1) 3 (.slice ao 1 c)))
  have HOS := Lib.hid (World.ownsRow.mono (base' := w.heap.size) ((HO5.out.gb HGS.out (by omega)).go (bel_drew _)) (by omega))
  have hn1 : w.heap.size + 1 ≠ w3.heap.size := by omega
  have hn2 : w.heap.size + 1 ≠ w1.heap.size := by omega
  have HKA : Hid ((w5.drew).cell? ⟨w3.heap.size, 0, none⟩ = some (.string ⟨#[71, 69, 84]⟩) ∧ (w5.drew).cell? ⟨w3.heap.size, 1, none⟩ = some (.string ⟨#[47, 97]⟩) ∧ (w5.drew).cell? ⟨w3.heap.size, 2, none⟩ = some (.int .i64 1) ∧ (w5.drew).cell? ⟨w3.heap.size, 3, none⟩ = some (.slice ao 1 c) ∧ (w5.drew).cell? ⟨w1.heap.size, 1, none⟩ = some (.int .i64 28) ∧ (w5.drew).cell? ⟨w.heap.size + 1, 0, none⟩ = some (cg (w5.drew) ⟨w.heap.size + 1, 0, none⟩) ∧ (w5.drew).cell? ⟨w.heap.size + 1, 1, none⟩ = some (cg (w5.drew) ⟨w.heap.size + 1, 1, none⟩) ∧ (w5.drew).cell? ⟨w.heap.size + 1, 2, none⟩ = some (cg (w5.drew) ⟨w.heap.size + 1, 2, none⟩) ∧ (w5.drew).cell? ⟨w.heap.size + 1, 3, none⟩ = some (cg (w5.drew) ⟨w.heap.size + 1, 3, none⟩) ∧ (w5.drew).frozen? ⟨w.heap.size + 1, 0, none⟩ = false ∧ (w5.drew).frozen? ⟨w.heap.size + 1, 1, none⟩ = false ∧ (w5.drew).frozen? ⟨w.heap.size + 1, 2, none⟩ = false ∧ (w5.drew).frozen? ⟨w.heap.size + 1, 3, none⟩ = false) := ⟨m0, m1, m2, m3, r1, sk4_of HT5.out⟩
  have HKB : Hid ((((((w5.setCell ⟨w.heap.size + 1, 0, none⟩ (.string ⟨#[71, 69, 84]⟩)).setCell ⟨w.heap.size + 1, 1, none⟩ (.string ⟨#[47, 97]⟩)).setCell ⟨w.heap.size + 1, 2, none⟩ (.int .i64 1)).setCell ⟨w.heap.size + 1, 3, none⟩ (.slice ao 1 c)).drew).cell? ⟨w3.heap.size, 0, none⟩ = some (.string ⟨#[71, 69, 84]⟩) ∧ (((((w5.setCell ⟨w.heap.size + 1, 0, none⟩ (.string ⟨#[71, 69, 84]⟩)).setCell ⟨w.heap.size + 1, 1, none⟩ (.string ⟨#[47, 97]⟩)).setCell ⟨w.heap.size + 1, 2, none⟩ (.int .i64 1)).setCell ⟨w.heap.size + 1, 3, none⟩ (.slice ao 1 c)).drew).cell? ⟨w3.heap.size, 1, none⟩ = some (.string ⟨#[47, 97]⟩) ∧ (((((w5.setCell ⟨w.heap.size + 1, 0, none⟩ (.string ⟨#[71, 69, 84]⟩)).setCell ⟨w.heap.size + 1, 1, none⟩ (.string ⟨#[47, 97]⟩)).setCell ⟨w.heap.size + 1, 2, none⟩ (.int .i64 1)).setCell ⟨w.heap.size + 1, 3, none⟩ (.slice ao 1 c)).drew).cell? ⟨w3.heap.size, 2, none⟩ = some (.int .i64 1) ∧ (((((w5.setCell ⟨w.heap.size + 1, 0, none⟩ (.string ⟨#[71, 69, 84]⟩)).setCell ⟨w.heap.size + 1, 1, none⟩ (.string ⟨#[47, 97]⟩)).setCell ⟨w.heap.size + 1, 2, none⟩ (.int .i64 1)).setCell ⟨w.heap.size + 1, 3, none⟩ (.slice ao 1 c)).drew).cell? ⟨w3.heap.size, 3, none⟩ = some (.slice ao 1 c) ∧ (((((w5.setCell ⟨w.heap.size + 1, 0, none⟩ (.string ⟨#[71, 69, 84]⟩)).setCell ⟨w.heap.size + 1, 1, none⟩ (.string ⟨#[47, 97]⟩)).setCell ⟨w.heap.size + 1, 2, none⟩ (.int .i64 1)).setCell ⟨w.heap.size + 1, 3, none⟩ (.slice ao 1 c)).drew).cell? ⟨w1.heap.size, 1, none⟩ = some (.int .i64 28) ∧ (((((w5.setCell ⟨w.heap.size + 1, 0, none⟩ (.string ⟨#[71, 69, 84]⟩)).setCell ⟨w.heap.size + 1, 1, none⟩ (.string ⟨#[47, 97]⟩)).setCell ⟨w.heap.size + 1, 2, none⟩ (.int .i64 1)).setCell ⟨w.heap.size + 1, 3, none⟩ (.slice ao 1 c)).drew).cell? ⟨w.heap.size + 1, 0, none⟩ = some (cg (((((w5.setCell ⟨w.heap.size + 1, 0, none⟩ (.string ⟨#[71, 69, 84]⟩)).setCell ⟨w.heap.size + 1, 1, none⟩ (.string ⟨#[47, 97]⟩)).setCell ⟨w.heap.size + 1, 2, none⟩ (.int .i64 1)).setCell ⟨w.heap.size + 1, 3, none⟩ (.slice ao 1 c)).drew) ⟨w.heap.size + 1, 0, none⟩) ∧ (((((w5.setCell ⟨w.heap.size + 1, 0, none⟩ (.string ⟨#[71, 69, 84]⟩)).setCell ⟨w.heap.size + 1, 1, none⟩ (.string ⟨#[47, 97]⟩)).setCell ⟨w.heap.size + 1, 2, none⟩ (.int .i64 1)).setCell ⟨w.heap.size + 1, 3, none⟩ (.slice ao 1 c)).drew).cell? ⟨w.heap.size + 1, 1, none⟩ = some (cg (((((w5.setCell ⟨w.heap.size + 1, 0, none⟩ (.string ⟨#[71, 69, 84]⟩)).setCell ⟨w.heap.size + 1, 1, none⟩ (.string ⟨#[47, 97]⟩)).setCell ⟨w.heap.size + 1, 2, none⟩ (.int .i64 1)).setCell ⟨w.heap.size + 1, 3, none⟩ (.slice ao 1 c)).drew) ⟨w.heap.size + 1, 1, none⟩) ∧ (((((w5.setCell ⟨w.heap.size + 1, 0, none⟩ (.string ⟨#[71, 69, 84]⟩)).setCell ⟨w.heap.size + 1, 1, none⟩ (.string ⟨#[47, 97]⟩)).setCell ⟨w.heap.size + 1, 2, none⟩ (.int .i64 1)).setCell ⟨w.heap.size + 1, 3, none⟩ (.slice ao 1 c)).drew).cell? ⟨w.heap.size + 1, 2, none⟩ = some (cg (((((w5.setCell ⟨w.heap.size + 1, 0, none⟩ (.string ⟨#[71, 69, 84]⟩)).setCell ⟨w.heap.size + 1, 1, none⟩ (.string ⟨#[47, 97]⟩)).setCell ⟨w.heap.size + 1, 2, none⟩ (.int .i64 1)).setCell ⟨w.heap.size + 1, 3, none⟩ (.slice ao 1 c)).drew) ⟨w.heap.size + 1, 2, none⟩) ∧ (((((w5.setCell ⟨w.heap.size + 1, 0, none⟩ (.string ⟨#[71, 69, 84]⟩)).setCell ⟨w.heap.size + 1, 1, none⟩ (.string ⟨#[47, 97]⟩)).setCell ⟨w.heap.size + 1, 2, none⟩ (.int .i64 1)).setCell ⟨w.heap.size + 1, 3, none⟩ (.slice ao 1 c)).drew).cell? ⟨w.heap.size + 1, 3, none⟩ = some (cg (((((w5.setCell ⟨w.heap.size + 1, 0, none⟩ (.string ⟨#[71, 69, 84]⟩)).setCell ⟨w.heap.size + 1, 1, none⟩ (.string ⟨#[47, 97]⟩)).setCell ⟨w.heap.size + 1, 2, none⟩ (.int .i64 1)).setCell ⟨w.heap.size + 1, 3, none⟩ (.slice ao 1 c)).drew) ⟨w.heap.size + 1, 3, none⟩) ∧ (((((w5.setCell ⟨w.heap.size + 1, 0, none⟩ (.string ⟨#[71, 69, 84]⟩)).setCell ⟨w.heap.size + 1, 1, none⟩ (.string ⟨#[47, 97]⟩)).setCell ⟨w.heap.size + 1, 2, none⟩ (.int .i64 1)).setCell ⟨w.heap.size + 1, 3, none⟩ (.slice ao 1 c)).drew).frozen? ⟨w.heap.size + 1, 0, none⟩ = false ∧ (((((w5.setCell ⟨w.heap.size + 1, 0, none⟩ (.string ⟨#[71, 69, 84]⟩)).setCell ⟨w.heap.size + 1, 1, none⟩ (.string ⟨#[47, 97]⟩)).setCell ⟨w.heap.size + 1, 2, none⟩ (.int .i64 1)).setCell ⟨w.heap.size + 1, 3, none⟩ (.slice ao 1 c)).drew).frozen? ⟨w.heap.size + 1, 1, none⟩ = false ∧ (((((w5.setCell ⟨w.heap.size + 1, 0, none⟩ (.string ⟨#[71, 69, 84]⟩)).setCell ⟨w.heap.size + 1, 1, none⟩ (.string ⟨#[47, 97]⟩)).setCell ⟨w.heap.size + 1, 2, none⟩ (.int .i64 1)).setCell ⟨w.heap.size + 1, 3, none⟩ (.slice ao 1 c)).drew).frozen? ⟨w.heap.size + 1, 2, none⟩ = false ∧ (((((w5.setCell ⟨w.heap.size + 1, 0, none⟩ (.string ⟨#[71, 69, 84]⟩)).setCell ⟨w.heap.size + 1, 1, none⟩ (.string ⟨#[47, 97]⟩)).setCell ⟨w.heap.size + 1, 2, none⟩ (.int .i64 1)).setCell ⟨w.heap.size + 1, 3, none⟩ (.slice ao 1 c)).drew).frozen? ⟨w.heap.size + 1, 3, none⟩ = false) := ⟨cell_of_row _ _ 0 _ _ _ HHU.out, cell_of_row _ _ 1 _ _ _ HHU.out, cell_of_row _ _ 2 _ _ _ HHU.out, cell_of_row _ _ 3 _ _ _ HHU.out, cell_of_row _ _ 1 _ _ _ HHR.out, sk4_of HH.out⟩
  go_wp2_with fail
  go_region_held3 (fun V => V.cell? ⟨w3.heap.size, 0, none⟩ = some (.string ⟨#[71, 69, 84]⟩) ∧ V.cell? ⟨w3.heap.size, 1, none⟩ = some (.string ⟨#[47, 97]⟩) ∧ V.cell? ⟨w3.heap.size, 2, none⟩ = some (.int .i64 1) ∧ V.cell? ⟨w3.heap.size, 3, none⟩ = some (.slice ao 1 c) ∧ V.cell? ⟨w1.heap.size, 1, none⟩ = some (.int .i64 28) ∧ V.cell? ⟨w.heap.size + 1, 0, none⟩ = some (cg V ⟨w.heap.size + 1, 0, none⟩) ∧ V.cell? ⟨w.heap.size + 1, 1, none⟩ = some (cg V ⟨w.heap.size + 1, 1, none⟩) ∧ V.cell? ⟨w.heap.size + 1, 2, none⟩ = some (cg V ⟨w.heap.size + 1, 2, none⟩) ∧ V.cell? ⟨w.heap.size + 1, 3, none⟩ = some (cg V ⟨w.heap.size + 1, 3, none⟩) ∧ V.frozen? ⟨w.heap.size + 1, 0, none⟩ = false ∧ V.frozen? ⟨w.heap.size + 1, 1, none⟩ = false ∧ V.frozen? ⟨w.heap.size + 1, 2, none⟩ = false ∧ V.frozen? ⟨w.heap.size + 1, 3, none⟩ = false)
    (first | (with_reducible exact HKA.out) | (with_reducible exact HKB.out))
    (fail)
  have d0 := cell_of_row _ _ 0 _ _ _ HH.out
  have d1 := cell_of_row _ _ 1 _ _ _ HH.out
  have d2 := cell_of_row _ _ 2 _ _ _ HH.out
  have d3 := cell_of_row _ _ 3 _ _ _ HH.out
  clear m0 m1 m2 m3 r1 c0 c1 c2 c3 z0 z1 z2 z3
  go_wp2
  refine bodyPost_ret (v := .tuple #[.agg #[.string ⟨#[71, 69, 84]⟩, .string ⟨#[47, 97]⟩, .int .i64 1, .slice ao 1 c], .int .i64 28, .int .i64 0]) (by simp [results, Tryd.results6, go_sem, d0, d1, d2, d3]) rfl ⟨ao, c, rfl, HOS.out, ?_⟩
  have hbb := bel4 HB5.out (Nat.le_succ w.heap.size) (.string ⟨#[71, 69, 84]⟩) (.string ⟨#[47, 97]⟩) (.int .i64 1) (.slice ao 1 c)
  exact ⟨hbb.os, hbb.tape, hbb.output, hbb.size, hbb.block⟩
end Go.Proofs.YtdgjhbonldfgpaaDoor.Hd
