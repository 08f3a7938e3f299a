/- The contract of package head's reader's head at chapter 10's example; where the library's variable MaxLen holds a number. -/
import Derived.Test.YtkblggpnghdnmaaGreatDoorHdPlaces
namespace Go.Proofs.YtkblggpnghdnmaaGreatDoor.Hd
open Go.RowKit Ch
set_option linter.unusedSimpArgs false
set_option linter.unusedVariables false

set_option maxRecDepth 100000 in
set_option maxHeartbeats 800000 in
theorem head_c (g : Nat) (w : World) (hR : RdB g exT 0 0 16 1 0 w) (hM : Mx w) (hg : g ≠ 1) :
    Calls Tryz.prog 22 #[.pointer (some ⟨g, 0, none⟩)] w fun e w' => ∃ ao c, e = .returned (.tuple #[.agg #[.string ⟨#[71, 69, 84]⟩, .string ⟨#[47, 97]⟩, .int .i64 1, .slice ao 1 c], .nilIface]) ∧ OwF w.heap.size ao c w' ∧ RdB g exT 28 3 16 1 0 w' ∧ w.grownBy w' (some g) := by
  have hgl := hR.lt
  have hb0 : Below w.heap.size w (w.alloc (.cells #[.string ⟨#[]⟩, .string ⟨#[]⟩, .int .i64 0, .slice none 0 0] 35)) := (Below.refl _ _).alloc (Nat.le_refl _) _
  have HF := Lib.hid (first_c g (w.alloc (.cells #[.string ⟨#[]⟩, .string ⟨#[]⟩, .int .i64 0, .slice none 0 0] 35)) (hR.go hb0) (hM.go hb0) hg)
  have HB0 := Lib.hid hb0
  have HM0 := Lib.hid (hM.go hb0)
  have HT0 := Lib.hid (heap_alloc_new w (.cells #[.string ⟨#[]⟩, .string ⟨#[]⟩, .int .i64 0, .slice none 0 0] 35))
  have hz0 : ∀ o, (w.alloc o).heap.size = w.heap.size + 1 := fun o => by simp
  clear hR hM hb0
  go_enter Tryz.func22, Tryz.ntmps22
  go_wp2_with fail
  (with_reducible refine HF.out.mono ?_)
  rintro e w1 ⟨rfl, hR1, hG1⟩
  have hs1 : w.heap.size < w1.heap.size := by have := hG1.size; rw [hz0] at this; omega
  have hb1 : Below w1.heap.size w1 (w1.alloc (.cells #[.string ⟨#[71, 69, 84]⟩, .string ⟨#[47, 97]⟩, .int .i64 1, .slice none 0 0] 35)) := (Below.refl _ _).alloc (Nat.le_refl _) _
  have HT1 : Hid ((w1.alloc (.cells #[.string ⟨#[71, 69, 84]⟩, .string ⟨#[47, 97]⟩, .int .i64 1, .slice none 0 0] 35)).heap[w.heap.size]? = some (.cells #[.string ⟨#[]⟩, .string ⟨#[]⟩, .int .i64 0, .slice none 0 0] 35 (0, 0))) := (hb1.block _ hs1).trans ((hG1.block _ (by rw [hz0]; omega) (fun e => by injection e with e; omega)).trans HT0.out)
  have HU1 := Lib.hid (heap_alloc_new w1 (.cells #[.string ⟨#[71, 69, 84]⟩, .string ⟨#[47, 97]⟩, .int .i64 1, .slice none 0 0] 35))
  have HG1 : Hid (w.grownBy (w1.alloc (.cells #[.string ⟨#[71, 69, 84]⟩, .string ⟨#[47, 97]⟩, .int .i64 1, .slice none 0 0] 35)) (some g)) := gb_trans (gb_trans (gb_below HB0.out) hG1) (gb_below hb1)
  have HFD := Lib.hid (fields_c g _ (hR1.go hb1) ((HM0.out.gb hG1 hg).go hb1) hg)
  have hz1 : ∀ o, (w1.alloc o).heap.size = w1.heap.size + 1 := fun o => by simp
  clear hR1 hG1 hb1 HF
  go_wp2_with fail
  (with_reducible refine HFD.out.mono ?_)
  rintro e w3 ⟨ao, c, rfl, hO3, hR3, hG3⟩
  rw [hz1] at hO3
  have hs3 : w1.heap.size < w3.heap.size := by have := hG3.size; rw [hz1] at this; omega
  have HT3 : Hid (w3.heap[w.heap.size]? = some (.cells #[.string ⟨#[]⟩, .string ⟨#[]⟩, .int .i64 0, .slice none 0 0] 35 (0, 0))) := (hG3.block _ (by rw [hz1]; omega) (fun e => by injection e with e; omega)).trans HT1.out
  have HU3 : Hid (w3.heap[w1.heap.size]? = some (.cells #[.string ⟨#[71, 69, 84]⟩, .string ⟨#[47, 97]⟩, .int .i64 1, .slice none 0 0] 35 (0, 0))) := (hG3.block _ (by rw [hz1]; omega) (fun e => by injection e with e; omega)).trans HU1.out
  have HG3 : Hid (w.grownBy w3 (some g)) := gb_trans HG1.out hG3
  have HW : Hid (∃ W4, W4 = w3.setCell ⟨w1.heap.size, 3, none⟩ (.slice ao 1 c) ∧ W4.heap[w.heap.size]? = some (.cells #[.string ⟨#[]⟩, .string ⟨#[]⟩, .int .i64 0, .slice none 0 0] 35 (0, 0)) ∧ W4.heap[w1.heap.size]? = some (.cells #[.string ⟨#[71, 69, 84]⟩, .string ⟨#[47, 97]⟩, .int .i64 1, .slice ao 1 c] 35 (0, 0)) ∧ OwF (w1.heap.size + 1) ao c W4 ∧ RdB g exT 28 3 16 1 0 W4 ∧ w.grownBy W4 (some g) ∧ W4.heap.size = w3.heap.size) := by
    refine ⟨_, rfl, set_ne HT3.out (by omega) 3 _, ?_, hO3.gb (gb_set w3 w1.heap.size 3 _) (Nat.lt_succ_self _), set_ne hR3 (by omega) 3 _, ?_, by simp [World.setCell]⟩
    · have := blk_set HU3.out 3 (.slice ao 1 c)
      simpa using this
    · have hb := (Below.refl w1.heap.size w3).setCell (p := ⟨w1.heap.size, 3, none⟩) (Nat.le_refl _) (.slice ao 1 c)
      exact gb_up HG3.out hb (by omega)
  obtain ⟨W4, hW4, hT4, hU4, hO4, hR4, hG4, hz4⟩ := HW.out
  have HWE := Lib.hid hW4
  have HT4 := Lib.hid hT4
  have HU4 := Lib.hid hU4
  have HO4 := Lib.hid hO4
  have HR4 := Lib.hid hR4
  have HG4 := Lib.hid hG4
  have u0 := cell_of_row _ _ 0 _ _ _ HU3.out
  have u1 := cell_of_row _ _ 1 _ _ _ HU3.out
  have u2 := cell_of_row _ _ 2 _ _ _ HU3.out
  have u3 := cell_of_row _ _ 3 _ _ _ HU3.out
  have v3 := frz2 HU3.out 3
  clear HW hW4 hT4 hU4 hO4 hR4 hG4 hO3 hR3 hG3 HFD HU1 HT1
  obtain ⟨f, hao, hfl, hfB, hc1, f0, f1⟩ := owf_at HO4.out
  subst hao
  have hs4 : w1.heap.size < W4.heap.size := by omega
  have hb5 : Below W4.heap.size W4 (W4.alloc (.cells #[.string ⟨#[72, 111, 115, 116]⟩] 9)) := (Below.refl _ _).alloc (Nat.le_refl _) _
  have hq5 := cell_of_row _ _ 0 _ _ _ (heap_alloc_new W4 (.cells #[.string ⟨#[72, 111, 115, 116]⟩] 9))
  have hpl := (places_c f W4.heap.size c ⟨#[71, 69, 84]⟩ ⟨#[47, 97]⟩ (W4.alloc (.cells #[.string ⟨#[72, 111, 115, 116]⟩] 9)) (Nat.lt_of_lt_of_le hfl hb5.size) (by rw [World.size_alloc]; exact Nat.lt_succ_self _) hc1 ((hb5.cell (p := ⟨f, 0, none⟩) hfl).trans f0) ((hb5.cell (p := ⟨f, 1, none⟩) hfl).trans f1) hq5)
  rw [hz4] at hpl
  have HPL := Lib.hid hpl
  have HB5 := Lib.hid hb5
  clear hb5 hq5 f0 f1 hpl hz4
  go_wp2_with fail
  rw [← HWE.out]
  (with_reducible refine HPL.out.mono ?_)
  rintro e w6 ⟨ap, cp, rfl, hb6⟩
  have hb6' : Below W4.heap.size W4 w6 := HB5.out.trans (hb6.mono HB5.out.size)
  have HT6 : Hid (w6.heap[w.heap.size]? = some (.cells #[.string ⟨#[]⟩, .string ⟨#[]⟩, .int .i64 0, .slice none 0 0] 35 (0, 0))) := (hb6'.block _ (by omega)).trans HT4.out
  have HU6 : Hid (w6.heap[w1.heap.size]? = some (.cells #[.string ⟨#[71, 69, 84]⟩, .string ⟨#[47, 97]⟩, .int .i64 1, .slice (some ⟨f, 0, none⟩) 1 c] 35 (0, 0))) := (hb6'.block _ hs4).trans HU4.out
  have HO6 := Lib.hid (HO4.out.go hb6')
  have HR6 := Lib.hid (HR4.out.go hb6')
  have HG6 : Hid (w.grownBy w6 (some g)) := gb_trans HG4.out (gb_below hb6')
  clear hb6 hb6' HPL u0 u1 u2 u3 v3
  have m0 := cell_of_row _ _ 0 _ _ _ HU6.out
  have m1 := cell_of_row _ _ 1 _ _ _ HU6.out
  have m2 := cell_of_row _ _ 2 _ _ _ HU6.out
  have m3 := cell_of_row _ _ 3 _ _ _ HU6.out
  have c0 := cell_of_row _ _ 0 _ _ _ HT6.out
  have c1 := cell_of_row _ _ 1 _ _ _ HT6.out
  have c2 := cell_of_row _ _ 2 _ _ _ HT6.out
  have c3 := cell_of_row _ _ 3 _ _ _ HT6.out
  have z0 := frz2 HT6.out 0
  have z1 := frz2 HT6.out 1
  have z2 := frz2 HT6.out 2
  have z3 := frz2 HT6.out 3
  have HH := Lib.hid (set4 HT6.out (.string ⟨#[71, 69, 84]⟩) (.string ⟨#[47, 97]⟩) (.int .i64 1) (.slice (some ⟨f, 0, none⟩) 1 c))
  have HHR := Lib.hid (ne4 (g := w.heap.size) HR6.out (by omega) (.string ⟨#[71, 69, 84]⟩) (.string ⟨#[47, 97]⟩) (.int .i64 1) (.slice (some ⟨f, 0, none⟩) 1 c))
  have HGS := Lib.hid (gb_trans (gb_trans (gb_trans (gb_set w6 w.heap.size 0 (.string ⟨#[71, 69, 84]⟩)) (gb_set _ w.heap.size 1 (.string ⟨#[47, 97]⟩))) (gb_set _ w.heap.size 2 (.int .i64 1))) (gb_set _ w.heap.size 3 (.slice (some ⟨f, 0, none⟩) 1 c)))
  have HOS := Lib.hid (HO6.out.gb HGS.out (by omega))
  have hn1 : w.heap.size ≠ w1.heap.size := by omega
  go_wp2
  have d0 := cell_of_row _ _ 0 _ _ _ HH.out
  have d1 := cell_of_row _ _ 1 _ _ _ HH.out
  have d2 := cell_of_row _ _ 2 _ _ _ HH.out
  have d3 := cell_of_row _ _ 3 _ _ _ HH.out
  clear m0 m1 m2 m3 c0 c1 c2 c3 z0 z1 z2 z3
  refine bodyPost_ret (v := .tuple #[.agg #[.string ⟨#[71, 69, 84]⟩, .string ⟨#[47, 97]⟩, .int .i64 1, .slice (some ⟨f, 0, none⟩) 1 c], .nilIface]) (by simp [results, Tryz.results22, go_sem, d0, d1, d2, d3]) rfl ⟨_, _, rfl, World.ownsRow.mono HOS.out (by omega), HHR.out, ?_⟩
  exact gb_up HG6.out (bel4 (Below.refl w.heap.size w6) (Nat.le_refl _) _ _ _ _) (Nat.le_refl _)
end Go.Proofs.YtkblggpnghdnmaaGreatDoor.Hd
