/- The contract of package head's reader's first line, whatever it is: for every text of at most a thousand bytes; where the library's variable MaxLen holds a number. -/
import Derived.Test.YtkblggpnghdnmaaGreatDoorHdWords
namespace Go.Proofs.YtkblggpnghdnmaaGreatDoor.Hd
open Go.RowKit Ch
set_option linter.unusedSimpArgs false
set_option linter.unusedVariables false

set_option maxRecDepth 100000 in
set_option maxHeartbeats 4000000 in
theorem fir_n (g : Nat) (s ln0 : ByteArray) (k1 : Nat) (a b c mn : Int) (n : Nat) (cs : Array Value) (w : World) (hgl : g < w.heap.size)
    (HN : Hid (Calls Tryz.prog 34 #[.pointer (some ⟨g, 0, none⟩), .int .i64 414] (w.alloc (.cells #[.string ⟨#[]⟩, .string ⟨#[]⟩, .int .i64 0, .slice none 0 0] 35)) fun e w' => e = .returned (.tuple #[.string ln0, .nilIface]) ∧ RdB g s k1 1 a b c w' ∧ (w.alloc (.cells #[.string ⟨#[]⟩, .string ⟨#[]⟩, .int .i64 0, .slice none 0 0] 35)).grownBy w' (some g)))
    (HSP : Hid (∀ W, Calls Tryz.prog 35 #[.string ln0, .string ⟨#[32]⟩] W fun e w' => e = .returned (.slice (some ⟨W.heap.size, 0, none⟩) n n) ∧ w' = W.alloc (.cells cs 9))) (hn : ((n : Int) == 3) = false) (hn2 : ((n : Int) != 3) = true) :
    Calls Tryz.prog 26 #[.pointer (some ⟨g, 0, none⟩)] w fun e w' => e = .returned (.tuple #[.agg #[.string ⟨#[]⟩, .string ⟨#[]⟩, .int .i64 0, .slice none 0 0], fltV 1 400]) ∧ RdB g s k1 1 a b c w' ∧ w.grownBy w' (some g) := by
  have HB0 : Hid (Below w.heap.size w (w.alloc (.cells #[.string ⟨#[]⟩, .string ⟨#[]⟩, .int .i64 0, .slice none 0 0] 35))) := (Below.refl _ _).alloc (Nat.le_refl _) _
  have HT2 := Lib.hid (heap_alloc_new w (.cells #[.string ⟨#[]⟩, .string ⟨#[]⟩, .int .i64 0, .slice none 0 0] 35))
  have hz0 : ∀ o, (w.alloc o).heap.size = w.heap.size + 1 := fun o => by simp
  go_enter Tryz.func26, Tryz.ntmps26
  go_wp2_with fail
  refine HN.out.mono ?_
  rintro e w1 ⟨rfl, hR1, hG1⟩
  have HR1 := Lib.hid hR1
  have HG1 := Lib.hid hG1
  have hs1 : w.heap.size < w1.heap.size := by have := hG1.size; rw [hz0] at this; omega
  have HT1 : Hid (w1.heap[w.heap.size]? = some (.cells #[.string ⟨#[]⟩, .string ⟨#[]⟩, .int .i64 0, .slice none 0 0] 35 (0, 0))) := (hG1.block _ (by rw [hz0]; omega) (fun e => by injection e with e; omega)).trans HT2.out
  clear hR1 hG1 HN
  go_wp2_with fail
  refine (HSP.out _).mono ?_
  rintro e w2 ⟨rfl, hw2⟩
  have hb2 : Below w1.heap.size w1 w2 := by rw [hw2]; exact (Below.refl _ _).alloc (Nat.le_refl _) _
  have HP2 : Hid (w2.heap[w1.heap.size]? = some (.cells cs 9 (0, 0))) := by
    show w2.heap[w1.heap.size]? = _
    rw [hw2]; exact heap_alloc_new w1 _
  have HR2 := Lib.hid (HR1.out.go hb2)
  have HT3 : Hid (w2.heap[w.heap.size]? = some (.cells #[.string ⟨#[]⟩, .string ⟨#[]⟩, .int .i64 0, .slice none 0 0] 35 (0, 0))) := (hb2.block _ hs1).trans HT1.out
  have HG2 : Hid (w.grownBy w2 (some g)) := gb_up (gb_trans (gb_below HB0.out) HG1.out) hb2 (Nat.le_of_lt hs1)
  clear hw2 hb2 HSP
  have c0 := cell_of_row _ _ 0 _ _ _ HT3.out
  have c1 := cell_of_row _ _ 1 _ _ _ HT3.out
  have c2 := cell_of_row _ _ 2 _ _ _ HT3.out
  have c3 := cell_of_row _ _ 3 _ _ _ HT3.out
  have z0 := frz2 HT3.out 0
  have z1 := frz2 HT3.out 1
  have z2 := frz2 HT3.out 2
  have z3 := frz2 HT3.out 3
  have hsn : w.heap.size ≠ w1.heap.size := by omega
  have HF := Lib.hid (fault_c g s k1 1 a b c 400 w2 HR2.out)
  unfold fltV at HF
  go_wp2_with fail
  refine HF.out.mono ?_
  rintro e w3 ⟨rfl, hw⟩
  rw [← hw]; clear hw
  have HH := Lib.hid (set4 HT3.out (.string ⟨#[]⟩) (.string ⟨#[]⟩) (.int .i64 0) (.slice none 0 0))
  have HHP := Lib.hid (ne4 (g := w.heap.size) HP2.out (by omega) (.string ⟨#[]⟩) (.string ⟨#[]⟩) (.int .i64 0) (.slice none 0 0))
  have HHR := Lib.hid (ne4 (g := w.heap.size) HR2.out (by omega) (.string ⟨#[]⟩) (.string ⟨#[]⟩) (.int .i64 0) (.slice none 0 0))
  go_wp2
  have d0 := cell_of_row _ _ 0 _ _ _ HH.out
  have d1 := cell_of_row _ _ 1 _ _ _ HH.out
  have d2 := cell_of_row _ _ 2 _ _ _ HH.out
  have d3 := cell_of_row _ _ 3 _ _ _ HH.out
  clear c0 c1 c2 c3 z0 z1 z2 z3
  refine bodyPost_ret (v := .tuple #[.agg #[.string ⟨#[]⟩, .string ⟨#[]⟩, .int .i64 0, .slice none 0 0], fltV 1 400]) (by simp [results, Tryz.results26, go_sem, fltV, d0, d1, d2, d3]) rfl ⟨rfl, HHR.out, ?_⟩
  have hbb := bel4 (Below.refl w.heap.size w2) (Nat.le_refl _) (.string ⟨#[]⟩) (.string ⟨#[]⟩) (.int .i64 0) (.slice none 0 0)
  have h2 : Below w.heap.size w2 ((((w2.setCell ⟨w.heap.size, 0, none⟩ (.string ⟨#[]⟩)).setCell ⟨w.heap.size, 1, none⟩ (.string ⟨#[]⟩)).setCell ⟨w.heap.size, 2, none⟩ (.int .i64 0)).setCell ⟨w.heap.size, 3, none⟩ (.slice none 0 0)) := ⟨hbb.os, hbb.tape, hbb.output, hbb.size, hbb.block⟩
  exact gb_up HG2.out h2 (Nat.le_refl _)
set_option maxRecDepth 100000 in
set_option maxHeartbeats 4000000 in
theorem fir_m (g : Nat) (s ln0 : ByteArray) (k1 : Nat) (a b c mn : Int) (pm pt pv : ByteArray) (w : World) (hgl : g < w.heap.size)
    (HN : Hid (Calls Tryz.prog 34 #[.pointer (some ⟨g, 0, none⟩), .int .i64 414] (w.alloc (.cells #[.string ⟨#[]⟩, .string ⟨#[]⟩, .int .i64 0, .slice none 0 0] 35)) fun e w' => e = .returned (.tuple #[.string ln0, .nilIface]) ∧ RdB g s k1 1 a b c w' ∧ (w.alloc (.cells #[.string ⟨#[]⟩, .string ⟨#[]⟩, .int .i64 0, .slice none 0 0] 35)).grownBy w' (some g)))
    (HSP : Hid (∀ W, Calls Tryz.prog 35 #[.string ln0, .string ⟨#[32]⟩] W fun e w' => e = .returned (.slice (some ⟨W.heap.size, 0, none⟩) 3 3) ∧ w' = W.alloc (.cells #[.string pm, .string pt, .string pv] 9))) (HM : Hid (∀ W, Calls Tryz.prog 36 #[.string pm] W fun e w' => e = .returned (.bool false) ∧ W = w')) :
    Calls Tryz.prog 26 #[.pointer (some ⟨g, 0, none⟩)] w fun e w' => e = .returned (.tuple #[.agg #[.string ⟨#[]⟩, .string ⟨#[]⟩, .int .i64 0, .slice none 0 0], fltV 1 400]) ∧ RdB g s k1 1 a b c w' ∧ w.grownBy w' (some g) := by
  have HB0 : Hid (Below w.heap.size w (w.alloc (.cells #[.string ⟨#[]⟩, .string ⟨#[]⟩, .int .i64 0, .slice none 0 0] 35))) := (Below.refl _ _).alloc (Nat.le_refl _) _
  have HT2 := Lib.hid (heap_alloc_new w (.cells #[.string ⟨#[]⟩, .string ⟨#[]⟩, .int .i64 0, .slice none 0 0] 35))
  have hz0 : ∀ o, (w.alloc o).heap.size = w.heap.size + 1 := fun o => by simp
  go_enter Tryz.func26, Tryz.ntmps26
  go_wp2_with fail
  refine HN.out.mono ?_
  rintro e w1 ⟨rfl, hR1, hG1⟩
  have HR1 := Lib.hid hR1
  have HG1 := Lib.hid hG1
  have hs1 : w.heap.size < w1.heap.size := by have := hG1.size; rw [hz0] at this; omega
  have HT1 : Hid (w1.heap[w.heap.size]? = some (.cells #[.string ⟨#[]⟩, .string ⟨#[]⟩, .int .i64 0, .slice none 0 0] 35 (0, 0))) := (hG1.block _ (by rw [hz0]; omega) (fun e => by injection e with e; omega)).trans HT2.out
  clear hR1 hG1 HN
  go_wp2_with fail
  refine (HSP.out _).mono ?_
  rintro e w2 ⟨rfl, hw2⟩
  have hb2 : Below w1.heap.size w1 w2 := by rw [hw2]; exact (Below.refl _ _).alloc (Nat.le_refl _) _
  have HP2 : Hid (w2.heap[w1.heap.size]? = some (.cells #[.string pm, .string pt, .string pv] 9 (0, 0))) := by
    show w2.heap[w1.heap.size]? = _
    rw [hw2]; exact heap_alloc_new w1 _
  have HR2 := Lib.hid (HR1.out.go hb2)
  have HT3 : Hid (w2.heap[w.heap.size]? = some (.cells #[.string ⟨#[]⟩, .string ⟨#[]⟩, .int .i64 0, .slice none 0 0] 35 (0, 0))) := (hb2.block _ hs1).trans HT1.out
  have HG2 : Hid (w.grownBy w2 (some g)) := gb_up (gb_trans (gb_below HB0.out) HG1.out) hb2 (Nat.le_of_lt hs1)
  clear hw2 hb2 HSP
  have p0 := cell_of_row _ _ 0 _ _ _ HP2.out
  have p1 := cell_of_row _ _ 1 _ _ _ HP2.out
  have p2 := cell_of_row _ _ 2 _ _ _ HP2.out
  have c0 := cell_of_row _ _ 0 _ _ _ HT3.out
  have c1 := cell_of_row _ _ 1 _ _ _ HT3.out
  have c2 := cell_of_row _ _ 2 _ _ _ HT3.out
  have c3 := cell_of_row _ _ 3 _ _ _ HT3.out
  have z0 := frz2 HT3.out 0
  have z1 := frz2 HT3.out 1
  have z2 := frz2 HT3.out 2
  have z3 := frz2 HT3.out 3
  have hsn : w.heap.size ≠ w1.heap.size := by omega
  go_wp2_with fail
  refine (HM.out _).mono ?_
  rintro e w3 ⟨rfl, hw⟩
  rw [← hw]; clear hw
  have HF := Lib.hid (fault_c g s k1 1 a b c 400 w2 HR2.out)
  unfold fltV at HF
  go_wp2_with fail
  refine HF.out.mono ?_
  rintro e w3 ⟨rfl, hw⟩
  rw [← hw]; clear hw
  have HH := Lib.hid (set4 HT3.out (.string ⟨#[]⟩) (.string ⟨#[]⟩) (.int .i64 0) (.slice none 0 0))
  have HHP := Lib.hid (ne4 (g := w.heap.size) HP2.out (by omega) (.string ⟨#[]⟩) (.string ⟨#[]⟩) (.int .i64 0) (.slice none 0 0))
  have HHR := Lib.hid (ne4 (g := w.heap.size) HR2.out (by omega) (.string ⟨#[]⟩) (.string ⟨#[]⟩) (.int .i64 0) (.slice none 0 0))
  go_wp2
  have d0 := cell_of_row _ _ 0 _ _ _ HH.out
  have d1 := cell_of_row _ _ 1 _ _ _ HH.out
  have d2 := cell_of_row _ _ 2 _ _ _ HH.out
  have d3 := cell_of_row _ _ 3 _ _ _ HH.out
  clear c0 c1 c2 c3 z0 z1 z2 z3
  refine bodyPost_ret (v := .tuple #[.agg #[.string ⟨#[]⟩, .string ⟨#[]⟩, .int .i64 0, .slice none 0 0], fltV 1 400]) (by simp [results, Tryz.results26, go_sem, fltV, d0, d1, d2, d3]) rfl ⟨rfl, HHR.out, ?_⟩
  have hbb := bel4 (Below.refl w.heap.size w2) (Nat.le_refl _) (.string ⟨#[]⟩) (.string ⟨#[]⟩) (.int .i64 0) (.slice none 0 0)
  have h2 : Below w.heap.size w2 ((((w2.setCell ⟨w.heap.size, 0, none⟩ (.string ⟨#[]⟩)).setCell ⟨w.heap.size, 1, none⟩ (.string ⟨#[]⟩)).setCell ⟨w.heap.size, 2, none⟩ (.int .i64 0)).setCell ⟨w.heap.size, 3, none⟩ (.slice none 0 0)) := ⟨hbb.os, hbb.tape, hbb.output, hbb.size, hbb.block⟩
  exact gb_up HG2.out h2 (Nat.le_refl _)
set_option maxRecDepth 100000 in
set_option maxHeartbeats 4000000 in
theorem fir_t (g : Nat) (s ln0 : ByteArray) (k1 : Nat) (a b c mn : Int) (pm pt pv : ByteArray) (w : World) (hgl : g < w.heap.size)
    (HN : Hid (Calls Tryz.prog 34 #[.pointer (some ⟨g, 0, none⟩), .int .i64 414] (w.alloc (.cells #[.string ⟨#[]⟩, .string ⟨#[]⟩, .int .i64 0, .slice none 0 0] 35)) fun e w' => e = .returned (.tuple #[.string ln0, .nilIface]) ∧ RdB g s k1 1 a b c w' ∧ (w.alloc (.cells #[.string ⟨#[]⟩, .string ⟨#[]⟩, .int .i64 0, .slice none 0 0] 35)).grownBy w' (some g)))
    (HSP : Hid (∀ W, Calls Tryz.prog 35 #[.string ln0, .string ⟨#[32]⟩] W fun e w' => e = .returned (.slice (some ⟨W.heap.size, 0, none⟩) 3 3) ∧ w' = W.alloc (.cells #[.string pm, .string pt, .string pv] 9))) (HM : Hid (∀ W, Calls Tryz.prog 36 #[.string pm] W fun e w' => e = .returned (.bool true) ∧ W = w')) (HT : Hid (∀ W, Calls Tryz.prog 37 #[.string pt] W fun e w' => e = .returned (.bool false) ∧ W = w')) :
    Calls Tryz.prog 26 #[.pointer (some ⟨g, 0, none⟩)] w fun e w' => e = .returned (.tuple #[.agg #[.string ⟨#[]⟩, .string ⟨#[]⟩, .int .i64 0, .slice none 0 0], fltV 1 400]) ∧ RdB g s k1 1 a b c w' ∧ w.grownBy w' (some g) := by
  have HB0 : Hid (Below w.heap.size w (w.alloc (.cells #[.string ⟨#[]⟩, .string ⟨#[]⟩, .int .i64 0, .slice none 0 0] 35))) := (Below.refl _ _).alloc (Nat.le_refl _) _
  have HT2 := Lib.hid (heap_alloc_new w (.cells #[.string ⟨#[]⟩, .string ⟨#[]⟩, .int .i64 0, .slice none 0 0] 35))
  have hz0 : ∀ o, (w.alloc o).heap.size = w.heap.size + 1 := fun o => by simp
  go_enter Tryz.func26, Tryz.ntmps26
  go_wp2_with fail
  refine HN.out.mono ?_
  rintro e w1 ⟨rfl, hR1, hG1⟩
  have HR1 := Lib.hid hR1
  have HG1 := Lib.hid hG1
  have hs1 : w.heap.size < w1.heap.size := by have := hG1.size; rw [hz0] at this; omega
  have HT1 : Hid (w1.heap[w.heap.size]? = some (.cells #[.string ⟨#[]⟩, .string ⟨#[]⟩, .int .i64 0, .slice none 0 0] 35 (0, 0))) := (hG1.block _ (by rw [hz0]; omega) (fun e => by injection e with e; omega)).trans HT2.out
  clear hR1 hG1 HN
  go_wp2_with fail
  refine (HSP.out _).mono ?_
  rintro e w2 ⟨rfl, hw2⟩
  have hb2 : Below w1.heap.size w1 w2 := by rw [hw2]; exact (Below.refl _ _).alloc (Nat.le_refl _) _
  have HP2 : Hid (w2.heap[w1.heap.size]? = some (.cells #[.string pm, .string pt, .string pv] 9 (0, 0))) := by
    show w2.heap[w1.heap.size]? = _
    rw [hw2]; exact heap_alloc_new w1 _
  have HR2 := Lib.hid (HR1.out.go hb2)
  have HT3 : Hid (w2.heap[w.heap.size]? = some (.cells #[.string ⟨#[]⟩, .string ⟨#[]⟩, .int .i64 0, .slice none 0 0] 35 (0, 0))) := (hb2.block _ hs1).trans HT1.out
  have HG2 : Hid (w.grownBy w2 (some g)) := gb_up (gb_trans (gb_below HB0.out) HG1.out) hb2 (Nat.le_of_lt hs1)
  clear hw2 hb2 HSP
  have p0 := cell_of_row _ _ 0 _ _ _ HP2.out
  have p1 := cell_of_row _ _ 1 _ _ _ HP2.out
  have p2 := cell_of_row _ _ 2 _ _ _ HP2.out
  have c0 := cell_of_row _ _ 0 _ _ _ HT3.out
  have c1 := cell_of_row _ _ 1 _ _ _ HT3.out
  have c2 := cell_of_row _ _ 2 _ _ _ HT3.out
  have c3 := cell_of_row _ _ 3 _ _ _ HT3.out
  have z0 := frz2 HT3.out 0
  have z1 := frz2 HT3.out 1
  have z2 := frz2 HT3.out 2
  have z3 := frz2 HT3.out 3
  have hsn : w.heap.size ≠ w1.heap.size := by omega
  go_wp2_with fail
  refine (HM.out _).mono ?_
  rintro e w3 ⟨rfl, hw⟩
  rw [← hw]; clear hw
  go_wp2_with fail
  refine (HT.out _).mono ?_
  rintro e w3 ⟨rfl, hw⟩
  rw [← hw]; clear hw
  have HF := Lib.hid (fault_c g s k1 1 a b c 400 w2 HR2.out)
  unfold fltV at HF
  go_wp2_with fail
  refine HF.out.mono ?_
  rintro e w3 ⟨rfl, hw⟩
  rw [← hw]; clear hw
  have HH := Lib.hid (set4 HT3.out (.string ⟨#[]⟩) (.string ⟨#[]⟩) (.int .i64 0) (.slice none 0 0))
  have HHP := Lib.hid (ne4 (g := w.heap.size) HP2.out (by omega) (.string ⟨#[]⟩) (.string ⟨#[]⟩) (.int .i64 0) (.slice none 0 0))
  have HHR := Lib.hid (ne4 (g := w.heap.size) HR2.out (by omega) (.string ⟨#[]⟩) (.string ⟨#[]⟩) (.int .i64 0) (.slice none 0 0))
  go_wp2
  have d0 := cell_of_row _ _ 0 _ _ _ HH.out
  have d1 := cell_of_row _ _ 1 _ _ _ HH.out
  have d2 := cell_of_row _ _ 2 _ _ _ HH.out
  have d3 := cell_of_row _ _ 3 _ _ _ HH.out
  clear c0 c1 c2 c3 z0 z1 z2 z3
  refine bodyPost_ret (v := .tuple #[.agg #[.string ⟨#[]⟩, .string ⟨#[]⟩, .int .i64 0, .slice none 0 0], fltV 1 400]) (by simp [results, Tryz.results26, go_sem, fltV, d0, d1, d2, d3]) rfl ⟨rfl, HHR.out, ?_⟩
  have hbb := bel4 (Below.refl w.heap.size w2) (Nat.le_refl _) (.string ⟨#[]⟩) (.string ⟨#[]⟩) (.int .i64 0) (.slice none 0 0)
  have h2 : Below w.heap.size w2 ((((w2.setCell ⟨w.heap.size, 0, none⟩ (.string ⟨#[]⟩)).setCell ⟨w.heap.size, 1, none⟩ (.string ⟨#[]⟩)).setCell ⟨w.heap.size, 2, none⟩ (.int .i64 0)).setCell ⟨w.heap.size, 3, none⟩ (.slice none 0 0)) := ⟨hbb.os, hbb.tape, hbb.output, hbb.size, hbb.block⟩
  exact gb_up HG2.out h2 (Nat.le_refl _)
set_option maxRecDepth 100000 in
set_option maxHeartbeats 4000000 in
theorem fir_v (g : Nat) (s ln0 : ByteArray) (k1 : Nat) (a b c mn : Int) (pm pt pv : ByteArray) (w : World) (hgl : g < w.heap.size)
    (HN : Hid (Calls Tryz.prog 34 #[.pointer (some ⟨g, 0, none⟩), .int .i64 414] (w.alloc (.cells #[.string ⟨#[]⟩, .string ⟨#[]⟩, .int .i64 0, .slice none 0 0] 35)) fun e w' => e = .returned (.tuple #[.string ln0, .nilIface]) ∧ RdB g s k1 1 a b c w' ∧ (w.alloc (.cells #[.string ⟨#[]⟩, .string ⟨#[]⟩, .int .i64 0, .slice none 0 0] 35)).grownBy w' (some g)))
    (HSP : Hid (∀ W, Calls Tryz.prog 35 #[.string ln0, .string ⟨#[32]⟩] W fun e w' => e = .returned (.slice (some ⟨W.heap.size, 0, none⟩) 3 3) ∧ w' = W.alloc (.cells #[.string pm, .string pt, .string pv] 9))) (HM : Hid (∀ W, Calls Tryz.prog 36 #[.string pm] W fun e w' => e = .returned (.bool true) ∧ W = w')) (HT : Hid (∀ W, Calls Tryz.prog 37 #[.string pt] W fun e w' => e = .returned (.bool true) ∧ W = w')) (HV : Hid (∀ W, Calls Tryz.prog 38 #[.string pv] W fun e w' => e = .returned (.bool false) ∧ W = w')) :
    Calls Tryz.prog 26 #[.pointer (some ⟨g, 0, none⟩)] w fun e w' => e = .returned (.tuple #[.agg #[.string ⟨#[]⟩, .string ⟨#[]⟩, .int .i64 0, .slice none 0 0], fltV 1 400]) ∧ RdB g s k1 1 a b c w' ∧ w.grownBy w' (some g) := by
  have HB0 : Hid (Below w.heap.size w (w.alloc (.cells #[.string ⟨#[]⟩, .string ⟨#[]⟩, .int .i64 0, .slice none 0 0] 35))) := (Below.refl _ _).alloc (Nat.le_refl _) _
  have HT2 := Lib.hid (heap_alloc_new w (.cells #[.string ⟨#[]⟩, .string ⟨#[]⟩, .int .i64 0, .slice none 0 0] 35))
  have hz0 : ∀ o, (w.alloc o).heap.size = w.heap.size + 1 := fun o => by simp
  go_enter Tryz.func26, Tryz.ntmps26
  go_wp2_with fail
  refine HN.out.mono ?_
  rintro e w1 ⟨rfl, hR1, hG1⟩
  have HR1 := Lib.hid hR1
  have HG1 := Lib.hid hG1
  have hs1 : w.heap.size < w1.heap.size := by have := hG1.size; rw [hz0] at this; omega
  have HT1 : Hid (w1.heap[w.heap.size]? = some (.cells #[.string ⟨#[]⟩, .string ⟨#[]⟩, .int .i64 0, .slice none 0 0] 35 (0, 0))) := (hG1.block _ (by rw [hz0]; omega) (fun e => by injection e with e; omega)).trans HT2.out
  clear hR1 hG1 HN
  go_wp2_with fail
  refine (HSP.out _).mono ?_
  rintro e w2 ⟨rfl, hw2⟩
  have hb2 : Below w1.heap.size w1 w2 := by rw [hw2]; exact (Below.refl _ _).alloc (Nat.le_refl _) _
  have HP2 : Hid (w2.heap[w1.heap.size]? = some (.cells #[.string pm, .string pt, .string pv] 9 (0, 0))) := by
    show w2.heap[w1.heap.size]? = _
    rw [hw2]; exact heap_alloc_new w1 _
  have HR2 := Lib.hid (HR1.out.go hb2)
  have HT3 : Hid (w2.heap[w.heap.size]? = some (.cells #[.string ⟨#[]⟩, .string ⟨#[]⟩, .int .i64 0, .slice none 0 0] 35 (0, 0))) := (hb2.block _ hs1).trans HT1.out
  have HG2 : Hid (w.grownBy w2 (some g)) := gb_up (gb_trans (gb_below HB0.out) HG1.out) hb2 (Nat.le_of_lt hs1)
  clear hw2 hb2 HSP
  have p0 := cell_of_row _ _ 0 _ _ _ HP2.out
  have p1 := cell_of_row _ _ 1 _ _ _ HP2.out
  have p2 := cell_of_row _ _ 2 _ _ _ HP2.out
  have c0 := cell_of_row _ _ 0 _ _ _ HT3.out
  have c1 := cell_of_row _ _ 1 _ _ _ HT3.out
  have c2 := cell_of_row _ _ 2 _ _ _ HT3.out
  have c3 := cell_of_row _ _ 3 _ _ _ HT3.out
  have z0 := frz2 HT3.out 0
  have z1 := frz2 HT3.out 1
  have z2 := frz2 HT3.out 2
  have z3 := frz2 HT3.out 3
  have hsn : w.heap.size ≠ w1.heap.size := by omega
  go_wp2_with fail
  refine (HM.out _).mono ?_
  rintro e w3 ⟨rfl, hw⟩
  rw [← hw]; clear hw
  go_wp2_with fail
  refine (HT.out _).mono ?_
  rintro e w3 ⟨rfl, hw⟩
  rw [← hw]; clear hw
  go_wp2_with fail
  refine (HV.out _).mono ?_
  rintro e w3 ⟨rfl, hw⟩
  rw [← hw]; clear hw
  have HF := Lib.hid (fault_c g s k1 1 a b c 400 w2 HR2.out)
  unfold fltV at HF
  go_wp2_with fail
  refine HF.out.mono ?_
  rintro e w3 ⟨rfl, hw⟩
  rw [← hw]; clear hw
  have HH := Lib.hid (set4 HT3.out (.string ⟨#[]⟩) (.string ⟨#[]⟩) (.int .i64 0) (.slice none 0 0))
  have HHP := Lib.hid (ne4 (g := w.heap.size) HP2.out (by omega) (.string ⟨#[]⟩) (.string ⟨#[]⟩) (.int .i64 0) (.slice none 0 0))
  have HHR := Lib.hid (ne4 (g := w.heap.size) HR2.out (by omega) (.string ⟨#[]⟩) (.string ⟨#[]⟩) (.int .i64 0) (.slice none 0 0))
  go_wp2
  have d0 := cell_of_row _ _ 0 _ _ _ HH.out
  have d1 := cell_of_row _ _ 1 _ _ _ HH.out
  have d2 := cell_of_row _ _ 2 _ _ _ HH.out
  have d3 := cell_of_row _ _ 3 _ _ _ HH.out
  clear c0 c1 c2 c3 z0 z1 z2 z3
  refine bodyPost_ret (v := .tuple #[.agg #[.string ⟨#[]⟩, .string ⟨#[]⟩, .int .i64 0, .slice none 0 0], fltV 1 400]) (by simp [results, Tryz.results26, go_sem, fltV, d0, d1, d2, d3]) rfl ⟨rfl, HHR.out, ?_⟩
  have hbb := bel4 (Below.refl w.heap.size w2) (Nat.le_refl _) (.string ⟨#[]⟩) (.string ⟨#[]⟩) (.int .i64 0) (.slice none 0 0)
  have h2 : Below w.heap.size w2 ((((w2.setCell ⟨w.heap.size, 0, none⟩ (.string ⟨#[]⟩)).setCell ⟨w.heap.size, 1, none⟩ (.string ⟨#[]⟩)).setCell ⟨w.heap.size, 2, none⟩ (.int .i64 0)).setCell ⟨w.heap.size, 3, none⟩ (.slice none 0 0)) := ⟨hbb.os, hbb.tape, hbb.output, hbb.size, hbb.block⟩
  exact gb_up HG2.out h2 (Nat.le_refl _)
set_option maxRecDepth 100000 in
set_option maxHeartbeats 4000000 in
theorem fir_j (g : Nat) (s ln0 : ByteArray) (k1 : Nat) (a b c mn : Int) (pm pt pv : ByteArray) (w : World) (hgl : g < w.heap.size)
    (HN : Hid (Calls Tryz.prog 34 #[.pointer (some ⟨g, 0, none⟩), .int .i64 414] (w.alloc (.cells #[.string ⟨#[]⟩, .string ⟨#[]⟩, .int .i64 0, .slice none 0 0] 35)) fun e w' => e = .returned (.tuple #[.string ln0, .nilIface]) ∧ RdB g s k1 1 a b c w' ∧ (w.alloc (.cells #[.string ⟨#[]⟩, .string ⟨#[]⟩, .int .i64 0, .slice none 0 0] 35)).grownBy w' (some g)))
    (HSP : Hid (∀ W, Calls Tryz.prog 35 #[.string ln0, .string ⟨#[32]⟩] W fun e w' => e = .returned (.slice (some ⟨W.heap.size, 0, none⟩) 3 3) ∧ w' = W.alloc (.cells #[.string pm, .string pt, .string pv] 9))) (HM : Hid (∀ W, Calls Tryz.prog 36 #[.string pm] W fun e w' => e = .returned (.bool true) ∧ W = w')) (HT : Hid (∀ W, Calls Tryz.prog 37 #[.string pt] W fun e w' => e = .returned (.bool true) ∧ W = w')) (HV : Hid (∀ W, Calls Tryz.prog 38 #[.string pv] W fun e w' => e = .returned (.bool true) ∧ W = w')) (mj : Int) (HJ : Hid (∀ W, Calls Tryz.prog 39 #[.string pv] W fun e w' => e = .returned (.int .i64 mj) ∧ W = w')) (hj : (mj == 1) = false) (hj2 : (mj != 1) = true) :
    Calls Tryz.prog 26 #[.pointer (some ⟨g, 0, none⟩)] w fun e w' => e = .returned (.tuple #[.agg #[.string ⟨#[]⟩, .string ⟨#[]⟩, .int .i64 0, .slice none 0 0], fltV 1 505]) ∧ RdB g s k1 1 a b c w' ∧ w.grownBy w' (some g) := by
  have HB0 : Hid (Below w.heap.size w (w.alloc (.cells #[.string ⟨#[]⟩, .string ⟨#[]⟩, .int .i64 0, .slice none 0 0] 35))) := (Below.refl _ _).alloc (Nat.le_refl _) _
  have HT2 := Lib.hid (heap_alloc_new w (.cells #[.string ⟨#[]⟩, .string ⟨#[]⟩, .int .i64 0, .slice none 0 0] 35))
  have hz0 : ∀ o, (w.alloc o).heap.size = w.heap.size + 1 := fun o => by simp
  go_enter Tryz.func26, Tryz.ntmps26
  go_wp2_with fail
  refine HN.out.mono ?_
  rintro e w1 ⟨rfl, hR1, hG1⟩
  have HR1 := Lib.hid hR1
  have HG1 := Lib.hid hG1
  have hs1 : w.heap.size < w1.heap.size := by have := hG1.size; rw [hz0] at this; omega
  have HT1 : Hid (w1.heap[w.heap.size]? = some (.cells #[.string ⟨#[]⟩, .string ⟨#[]⟩, .int .i64 0, .slice none 0 0] 35 (0, 0))) := (hG1.block _ (by rw [hz0]; omega) (fun e => by injection e with e; omega)).trans HT2.out
  clear hR1 hG1 HN
  go_wp2_with fail
  refine (HSP.out _).mono ?_
  rintro e w2 ⟨rfl, hw2⟩
  have hb2 : Below w1.heap.size w1 w2 := by rw [hw2]; exact (Below.refl _ _).alloc (Nat.le_refl _) _
  have HP2 : Hid (w2.heap[w1.heap.size]? = some (.cells #[.string pm, .string pt, .string pv] 9 (0, 0))) := by
    show w2.heap[w1.heap.size]? = _
    rw [hw2]; exact heap_alloc_new w1 _
  have HR2 := Lib.hid (HR1.out.go hb2)
  have HT3 : Hid (w2.heap[w.heap.size]? = some (.cells #[.string ⟨#[]⟩, .string ⟨#[]⟩, .int .i64 0, .slice none 0 0] 35 (0, 0))) := (hb2.block _ hs1).trans HT1.out
  have HG2 : Hid (w.grownBy w2 (some g)) := gb_up (gb_trans (gb_below HB0.out) HG1.out) hb2 (Nat.le_of_lt hs1)
  clear hw2 hb2 HSP
  have p0 := cell_of_row _ _ 0 _ _ _ HP2.out
  have p1 := cell_of_row _ _ 1 _ _ _ HP2.out
  have p2 := cell_of_row _ _ 2 _ _ _ HP2.out
  have c0 := cell_of_row _ _ 0 _ _ _ HT3.out
  have c1 := cell_of_row _ _ 1 _ _ _ HT3.out
  have c2 := cell_of_row _ _ 2 _ _ _ HT3.out
  have c3 := cell_of_row _ _ 3 _ _ _ HT3.out
  have z0 := frz2 HT3.out 0
  have z1 := frz2 HT3.out 1
  have z2 := frz2 HT3.out 2
  have z3 := frz2 HT3.out 3
  have hsn : w.heap.size ≠ w1.heap.size := by omega
  go_wp2_with fail
  refine (HM.out _).mono ?_
  rintro e w3 ⟨rfl, hw⟩
  rw [← hw]; clear hw
  go_wp2_with fail
  refine (HT.out _).mono ?_
  rintro e w3 ⟨rfl, hw⟩
  rw [← hw]; clear hw
  go_wp2_with fail
  refine (HV.out _).mono ?_
  rintro e w3 ⟨rfl, hw⟩
  rw [← hw]; clear hw
  go_wp2_with fail
  refine (HJ.out _).mono ?_
  rintro e w3 ⟨rfl, hw⟩
  rw [← hw]; clear hw
  have HF := Lib.hid (fault_c g s k1 1 a b c 505 w2 HR2.out)
  unfold fltV at HF
  go_wp2_with fail
  refine HF.out.mono ?_
  rintro e w3 ⟨rfl, hw⟩
  rw [← hw]; clear hw
  have HH := Lib.hid (set4 HT3.out (.string ⟨#[]⟩) (.string ⟨#[]⟩) (.int .i64 0) (.slice none 0 0))
  have HHP := Lib.hid (ne4 (g := w.heap.size) HP2.out (by omega) (.string ⟨#[]⟩) (.string ⟨#[]⟩) (.int .i64 0) (.slice none 0 0))
  have HHR := Lib.hid (ne4 (g := w.heap.size) HR2.out (by omega) (.string ⟨#[]⟩) (.string ⟨#[]⟩) (.int .i64 0) (.slice none 0 0))
  go_wp2
  have d0 := cell_of_row _ _ 0 _ _ _ HH.out
  have d1 := cell_of_row _ _ 1 _ _ _ HH.out
  have d2 := cell_of_row _ _ 2 _ _ _ HH.out
  have d3 := cell_of_row _ _ 3 _ _ _ HH.out
  clear c0 c1 c2 c3 z0 z1 z2 z3
  refine bodyPost_ret (v := .tuple #[.agg #[.string ⟨#[]⟩, .string ⟨#[]⟩, .int .i64 0, .slice none 0 0], fltV 1 505]) (by simp [results, Tryz.results26, go_sem, fltV, d0, d1, d2, d3]) rfl ⟨rfl, HHR.out, ?_⟩
  have hbb := bel4 (Below.refl w.heap.size w2) (Nat.le_refl _) (.string ⟨#[]⟩) (.string ⟨#[]⟩) (.int .i64 0) (.slice none 0 0)
  have h2 : Below w.heap.size w2 ((((w2.setCell ⟨w.heap.size, 0, none⟩ (.string ⟨#[]⟩)).setCell ⟨w.heap.size, 1, none⟩ (.string ⟨#[]⟩)).setCell ⟨w.heap.size, 2, none⟩ (.int .i64 0)).setCell ⟨w.heap.size, 3, none⟩ (.slice none 0 0)) := ⟨hbb.os, hbb.tape, hbb.output, hbb.size, hbb.block⟩
  exact gb_up HG2.out h2 (Nat.le_refl _)
set_option maxRecDepth 100000 in
set_option maxHeartbeats 4000000 in
theorem fir_k (g : Nat) (s ln0 : ByteArray) (k1 : Nat) (a b c mn : Int) (pm pt pv : ByteArray) (w : World) (hgl : g < w.heap.size)
    (HN : Hid (Calls Tryz.prog 34 #[.pointer (some ⟨g, 0, none⟩), .int .i64 414] (w.alloc (.cells #[.string ⟨#[]⟩, .string ⟨#[]⟩, .int .i64 0, .slice none 0 0] 35)) fun e w' => e = .returned (.tuple #[.string ln0, .nilIface]) ∧ RdB g s k1 1 a b c w' ∧ (w.alloc (.cells #[.string ⟨#[]⟩, .string ⟨#[]⟩, .int .i64 0, .slice none 0 0] 35)).grownBy w' (some g)))
    (HSP : Hid (∀ W, Calls Tryz.prog 35 #[.string ln0, .string ⟨#[32]⟩] W fun e w' => e = .returned (.slice (some ⟨W.heap.size, 0, none⟩) 3 3) ∧ w' = W.alloc (.cells #[.string pm, .string pt, .string pv] 9))) (HM : Hid (∀ W, Calls Tryz.prog 36 #[.string pm] W fun e w' => e = .returned (.bool true) ∧ W = w')) (HT : Hid (∀ W, Calls Tryz.prog 37 #[.string pt] W fun e w' => e = .returned (.bool true) ∧ W = w')) (HV : Hid (∀ W, Calls Tryz.prog 38 #[.string pv] W fun e w' => e = .returned (.bool true) ∧ W = w')) (HJ : Hid (∀ W, Calls Tryz.prog 39 #[.string pv] W fun e w' => e = .returned (.int .i64 1) ∧ W = w')) (HK : Hid (∀ W, Calls Tryz.prog 40 #[.string pm] W fun e w' => e = .returned (.bool false) ∧ W = w')) :
    Calls Tryz.prog 26 #[.pointer (some ⟨g, 0, none⟩)] w fun e w' => e = .returned (.tuple #[.agg #[.string ⟨#[]⟩, .string ⟨#[]⟩, .int .i64 0, .slice none 0 0], fltV 1 501]) ∧ RdB g s k1 1 a b c w' ∧ w.grownBy w' (some g) := by
  have HB0 : Hid (Below w.heap.size w (w.alloc (.cells #[.string ⟨#[]⟩, .string ⟨#[]⟩, .int .i64 0, .slice none 0 0] 35))) := (Below.refl _ _).alloc (Nat.le_refl _) _
  have HT2 := Lib.hid (heap_alloc_new w (.cells #[.string ⟨#[]⟩, .string ⟨#[]⟩, .int .i64 0, .slice none 0 0] 35))
  have hz0 : ∀ o, (w.alloc o).heap.size = w.heap.size + 1 := fun o => by simp
  go_enter Tryz.func26, Tryz.ntmps26
  go_wp2_with fail
  refine HN.out.mono ?_
  rintro e w1 ⟨rfl, hR1, hG1⟩
  have HR1 := Lib.hid hR1
  have HG1 := Lib.hid hG1
  have hs1 : w.heap.size < w1.heap.size := by have := hG1.size; rw [hz0] at this; omega
  have HT1 : Hid (w1.heap[w.heap.size]? = some (.cells #[.string ⟨#[]⟩, .string ⟨#[]⟩, .int .i64 0, .slice none 0 0] 35 (0, 0))) := (hG1.block _ (by rw [hz0]; omega) (fun e => by injection e with e; omega)).trans HT2.out
  clear hR1 hG1 HN
  go_wp2_with fail
  refine (HSP.out _).mono ?_
  rintro e w2 ⟨rfl, hw2⟩
  have hb2 : Below w1.heap.size w1 w2 := by rw [hw2]; exact (Below.refl _ _).alloc (Nat.le_refl _) _
  have HP2 : Hid (w2.heap[w1.heap.size]? = some (.cells #[.string pm, .string pt, .string pv] 9 (0, 0))) := by
    show w2.heap[w1.heap.size]? = _
    rw [hw2]; exact heap_alloc_new w1 _
  have HR2 := Lib.hid (HR1.out.go hb2)
  have HT3 : Hid (w2.heap[w.heap.size]? = some (.cells #[.string ⟨#[]⟩, .string ⟨#[]⟩, .int .i64 0, .slice none 0 0] 35 (0, 0))) := (hb2.block _ hs1).trans HT1.out
  have HG2 : Hid (w.grownBy w2 (some g)) := gb_up (gb_trans (gb_below HB0.out) HG1.out) hb2 (Nat.le_of_lt hs1)
  clear hw2 hb2 HSP
  have p0 := cell_of_row _ _ 0 _ _ _ HP2.out
  have p1 := cell_of_row _ _ 1 _ _ _ HP2.out
  have p2 := cell_of_row _ _ 2 _ _ _ HP2.out
  have c0 := cell_of_row _ _ 0 _ _ _ HT3.out
  have c1 := cell_of_row _ _ 1 _ _ _ HT3.out
  have c2 := cell_of_row _ _ 2 _ _ _ HT3.out
  have c3 := cell_of_row _ _ 3 _ _ _ HT3.out
  have z0 := frz2 HT3.out 0
  have z1 := frz2 HT3.out 1
  have z2 := frz2 HT3.out 2
  have z3 := frz2 HT3.out 3
  have hsn : w.heap.size ≠ w1.heap.size := by omega
  go_wp2_with fail
  refine (HM.out _).mono ?_
  rintro e w3 ⟨rfl, hw⟩
  rw [← hw]; clear hw
  go_wp2_with fail
  refine (HT.out _).mono ?_
  rintro e w3 ⟨rfl, hw⟩
  rw [← hw]; clear hw
  go_wp2_with fail
  refine (HV.out _).mono ?_
  rintro e w3 ⟨rfl, hw⟩
  rw [← hw]; clear hw
  go_wp2_with fail
  refine (HJ.out _).mono ?_
  rintro e w3 ⟨rfl, hw⟩
  rw [← hw]; clear hw
  go_wp2_with fail
  refine (HK.out _).mono ?_
  rintro e w3 ⟨rfl, hw⟩
  rw [← hw]; clear hw
  have HF := Lib.hid (fault_c g s k1 1 a b c 501 w2 HR2.out)
  unfold fltV at HF
  go_wp2_with fail
  refine HF.out.mono ?_
  rintro e w3 ⟨rfl, hw⟩
  rw [← hw]; clear hw
  have HH := Lib.hid (set4 HT3.out (.string ⟨#[]⟩) (.string ⟨#[]⟩) (.int .i64 0) (.slice none 0 0))
  have HHP := Lib.hid (ne4 (g := w.heap.size) HP2.out (by omega) (.string ⟨#[]⟩) (.string ⟨#[]⟩) (.int .i64 0) (.slice none 0 0))
  have HHR := Lib.hid (ne4 (g := w.heap.size) HR2.out (by omega) (.string ⟨#[]⟩) (.string ⟨#[]⟩) (.int .i64 0) (.slice none 0 0))
  go_wp2
  have d0 := cell_of_row _ _ 0 _ _ _ HH.out
  have d1 := cell_of_row _ _ 1 _ _ _ HH.out
  have d2 := cell_of_row _ _ 2 _ _ _ HH.out
  have d3 := cell_of_row _ _ 3 _ _ _ HH.out
  clear c0 c1 c2 c3 z0 z1 z2 z3
  refine bodyPost_ret (v := .tuple #[.agg #[.string ⟨#[]⟩, .string ⟨#[]⟩, .int .i64 0, .slice none 0 0], fltV 1 501]) (by simp [results, Tryz.results26, go_sem, fltV, d0, d1, d2, d3]) rfl ⟨rfl, HHR.out, ?_⟩
  have hbb := bel4 (Below.refl w.heap.size w2) (Nat.le_refl _) (.string ⟨#[]⟩) (.string ⟨#[]⟩) (.int .i64 0) (.slice none 0 0)
  have h2 : Below w.heap.size w2 ((((w2.setCell ⟨w.heap.size, 0, none⟩ (.string ⟨#[]⟩)).setCell ⟨w.heap.size, 1, none⟩ (.string ⟨#[]⟩)).setCell ⟨w.heap.size, 2, none⟩ (.int .i64 0)).setCell ⟨w.heap.size, 3, none⟩ (.slice none 0 0)) := ⟨hbb.os, hbb.tape, hbb.output, hbb.size, hbb.block⟩
  exact gb_up HG2.out h2 (Nat.le_refl _)
set_option maxRecDepth 100000 in
set_option maxHeartbeats 4000000 in
theorem fir_ok (g : Nat) (s ln0 : ByteArray) (k1 : Nat) (a b c mn : Int) (pm pt pv : ByteArray) (w : World) (hgl : g < w.heap.size)
    (HN : Hid (Calls Tryz.prog 34 #[.pointer (some ⟨g, 0, none⟩), .int .i64 414] (w.alloc (.cells #[.string ⟨#[]⟩, .string ⟨#[]⟩, .int .i64 0, .slice none 0 0] 35)) fun e w' => e = .returned (.tuple #[.string ln0, .nilIface]) ∧ RdB g s k1 1 a b c w' ∧ (w.alloc (.cells #[.string ⟨#[]⟩, .string ⟨#[]⟩, .int .i64 0, .slice none 0 0] 35)).grownBy w' (some g)))
    (HSP : Hid (∀ W, Calls Tryz.prog 35 #[.string ln0, .string ⟨#[32]⟩] W fun e w' => e = .returned (.slice (some ⟨W.heap.size, 0, none⟩) 3 3) ∧ w' = W.alloc (.cells #[.string pm, .string pt, .string pv] 9))) (HM : Hid (∀ W, Calls Tryz.prog 36 #[.string pm] W fun e w' => e = .returned (.bool true) ∧ W = w')) (HT : Hid (∀ W, Calls Tryz.prog 37 #[.string pt] W fun e w' => e = .returned (.bool true) ∧ W = w')) (HV : Hid (∀ W, Calls Tryz.prog 38 #[.string pv] W fun e w' => e = .returned (.bool true) ∧ W = w')) (HJ : Hid (∀ W, Calls Tryz.prog 39 #[.string pv] W fun e w' => e = .returned (.int .i64 1) ∧ W = w')) (HK : Hid (∀ W, Calls Tryz.prog 40 #[.string pm] W fun e w' => e = .returned (.bool true) ∧ W = w')) (HMI : Hid (∀ W, Calls Tryz.prog 41 #[.string pv] W fun e w' => e = .returned (.int .i64 mn) ∧ W = w')) :
    Calls Tryz.prog 26 #[.pointer (some ⟨g, 0, none⟩)] w fun e w' => e = .returned (.tuple #[.agg #[.string pm, .string pt, .int .i64 mn, .slice none 0 0], .nilIface]) ∧ RdB g s k1 1 a b c w' ∧ w.grownBy w' (some g) := by
  have HB0 : Hid (Below w.heap.size w (w.alloc (.cells #[.string ⟨#[]⟩, .string ⟨#[]⟩, .int .i64 0, .slice none 0 0] 35))) := (Below.refl _ _).alloc (Nat.le_refl _) _
  have HT2 := Lib.hid (heap_alloc_new w (.cells #[.string ⟨#[]⟩, .string ⟨#[]⟩, .int .i64 0, .slice none 0 0] 35))
  have hz0 : ∀ o, (w.alloc o).heap.size = w.heap.size + 1 := fun o => by simp
  go_enter Tryz.func26, Tryz.ntmps26
  go_wp2_with fail
  refine HN.out.mono ?_
  rintro e w1 ⟨rfl, hR1, hG1⟩
  have HR1 := Lib.hid hR1
  have HG1 := Lib.hid hG1
  have hs1 : w.heap.size < w1.heap.size := by have := hG1.size; rw [hz0] at this; omega
  have HT1 : Hid (w1.heap[w.heap.size]? = some (.cells #[.string ⟨#[]⟩, .string ⟨#[]⟩, .int .i64 0, .slice none 0 0] 35 (0, 0))) := (hG1.block _ (by rw [hz0]; omega) (fun e => by injection e with e; omega)).trans HT2.out
  clear hR1 hG1 HN
  go_wp2_with fail
  refine (HSP.out _).mono ?_
  rintro e w2 ⟨rfl, hw2⟩
  have hb2 : Below w1.heap.size w1 w2 := by rw [hw2]; exact (Below.refl _ _).alloc (Nat.le_refl _) _
  have HP2 : Hid (w2.heap[w1.heap.size]? = some (.cells #[.string pm, .string pt, .string pv] 9 (0, 0))) := by
    show w2.heap[w1.heap.size]? = _
    rw [hw2]; exact heap_alloc_new w1 _
  have HR2 := Lib.hid (HR1.out.go hb2)
  have HT3 : Hid (w2.heap[w.heap.size]? = some (.cells #[.string ⟨#[]⟩, .string ⟨#[]⟩, .int .i64 0, .slice none 0 0] 35 (0, 0))) := (hb2.block _ hs1).trans HT1.out
  have HG2 : Hid (w.grownBy w2 (some g)) := gb_up (gb_trans (gb_below HB0.out) HG1.out) hb2 (Nat.le_of_lt hs1)
  clear hw2 hb2 HSP
  have p0 := cell_of_row _ _ 0 _ _ _ HP2.out
  have p1 := cell_of_row _ _ 1 _ _ _ HP2.out
  have p2 := cell_of_row _ _ 2 _ _ _ HP2.out
  have c0 := cell_of_row _ _ 0 _ _ _ HT3.out
  have c1 := cell_of_row _ _ 1 _ _ _ HT3.out
  have c2 := cell_of_row _ _ 2 _ _ _ HT3.out
  have c3 := cell_of_row _ _ 3 _ _ _ HT3.out
  have z0 := frz2 HT3.out 0
  have z1 := frz2 HT3.out 1
  have z2 := frz2 HT3.out 2
  have z3 := frz2 HT3.out 3
  have hsn : w.heap.size ≠ w1.heap.size := by omega
  go_wp2_with fail
  refine (HM.out _).mono ?_
  rintro e w3 ⟨rfl, hw⟩
  rw [← hw]; clear hw
  go_wp2_with fail
  refine (HT.out _).mono ?_
  rintro e w3 ⟨rfl, hw⟩
  rw [← hw]; clear hw
  go_wp2_with fail
  refine (HV.out _).mono ?_
  rintro e w3 ⟨rfl, hw⟩
  rw [← hw]; clear hw
  go_wp2_with fail
  refine (HJ.out _).mono ?_
  rintro e w3 ⟨rfl, hw⟩
  rw [← hw]; clear hw
  go_wp2_with fail
  refine (HK.out _).mono ?_
  rintro e w3 ⟨rfl, hw⟩
  rw [← hw]; clear hw
  have HH := Lib.hid (set4 HT3.out (.string pm) (.string pt) (.int .i64 mn) (.slice none 0 0))
  have HHP := Lib.hid (ne4 (g := w.heap.size) HP2.out (by omega) (.string pm) (.string pt) (.int .i64 mn) (.slice none 0 0))
  have HHR := Lib.hid (ne4 (g := w.heap.size) HR2.out (by omega) (.string pm) (.string pt) (.int .i64 mn) (.slice none 0 0))
  go_wp2_with fail
  go_region_held3 (fun V => V.cell? ⟨w1.heap.size, 0, none⟩ = some (.string pm) ∧ V.cell? ⟨w1.heap.size, 1, none⟩ = some (.string pt) ∧ V.cell? ⟨w1.heap.size, 2, none⟩ = some (.string pv) ∧ V.cell? ⟨w.heap.size, 0, none⟩ = some (cg V ⟨w.heap.size, 0, none⟩) ∧ V.cell? ⟨w.heap.size, 1, none⟩ = some (cg V ⟨w.heap.size, 1, none⟩) ∧ V.cell? ⟨w.heap.size, 2, none⟩ = some (cg V ⟨w.heap.size, 2, none⟩) ∧ V.cell? ⟨w.heap.size, 3, none⟩ = some (cg V ⟨w.heap.size, 3, none⟩) ∧ V.frozen? ⟨w.heap.size, 0, none⟩ = false ∧ V.frozen? ⟨w.heap.size, 1, none⟩ = false ∧ V.frozen? ⟨w.heap.size, 2, none⟩ = false ∧ V.frozen? ⟨w.heap.size, 3, none⟩ = false)
    (first | exact ⟨p0, p1, p2, sk4_of HT3.out⟩ | exact ⟨cell_of_row _ _ 0 _ _ _ HHP.out, cell_of_row _ _ 1 _ _ _ HHP.out, cell_of_row _ _ 2 _ _ _ HHP.out, sk4_of HH.out⟩)
    (first | (go_at_call 41; refine (HMI.out _).mono ?_; rintro e w3 ⟨rfl, rfl⟩))
  have d0 := cell_of_row _ _ 0 _ _ _ HH.out
  have d1 := cell_of_row _ _ 1 _ _ _ HH.out
  have d2 := cell_of_row _ _ 2 _ _ _ HH.out
  have d3 := cell_of_row _ _ 3 _ _ _ HH.out
  clear p0 p1 p2 c0 c1 c2 c3 z0 z1 z2 z3
  go_wp2
  refine bodyPost_ret (v := .tuple #[.agg #[.string pm, .string pt, .int .i64 mn, .slice none 0 0], .nilIface]) (by simp [results, Tryz.results26, go_sem, fltV, d0, d1, d2, d3]) rfl ⟨rfl, HHR.out, ?_⟩
  have hbb := bel4 (Below.refl w.heap.size w2) (Nat.le_refl _) (.string pm) (.string pt) (.int .i64 mn) (.slice none 0 0)
  have h2 : Below w.heap.size w2 (((((w2.setCell ⟨w.heap.size, 0, none⟩ (.string pm)).setCell ⟨w.heap.size, 1, none⟩ (.string pt)).setCell ⟨w.heap.size, 2, none⟩ (.int .i64 mn)).setCell ⟨w.heap.size, 3, none⟩ (.slice none 0 0)).drew) := ⟨hbb.os, hbb.tape, hbb.output, hbb.size, hbb.block⟩
  exact gb_up HG2.out h2 (Nat.le_refl _)
end Go.Proofs.YtkblggpnghdnmaaGreatDoor.Hd
