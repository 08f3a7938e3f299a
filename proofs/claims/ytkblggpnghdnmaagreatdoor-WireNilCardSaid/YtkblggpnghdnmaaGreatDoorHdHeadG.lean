/- The contract of package head's reader's head, whatever it is: for every text of at most a thousand bytes; where the library's variable MaxLen holds a number. -/
import Derived.Test.YtkblggpnghdnmaaGreatDoorHdPlcG
namespace Go.Proofs.YtkblggpnghdnmaaGreatDoor.Hd
open Go.RowKit Ch
set_option linter.unusedSimpArgs false
set_option linter.unusedVariables false

set_option maxRecDepth 100000 in
set_option maxHeartbeats 400000 in
theorem hd_f (g : Nat) (s pm pt : ByteArray) (k1 k2 : Nat) (a b c mn st : Int) (fs : List FldL) (w : World) (hR : RdB g s 0 0 a b c w) (hM : Mx w) (hg : g ≠ 1) (HF : Hid (∀ W, RdB g s 0 0 a b c W → Mx W → Calls Tryz.prog 26 #[.pointer (some ⟨g, 0, none⟩)] W fun e w' => e = .returned (.tuple #[.agg #[.string pm, .string pt, .int .i64 mn, .slice none 0 0], .nilIface]) ∧ RdB g s k1 1 a b c w' ∧ W.grownBy w' (some g))) (HD : Hid (∀ W, RdB g s k1 1 a b c W → Mx W → Calls Tryz.prog 27 #[.pointer (some ⟨g, 0, none⟩)] W fun e w' => ∃ k ln n, e = .returned (.tuple #[.slice none 0 0, fltV n st]) ∧ RdB g s k ln a b c w' ∧ W.grownBy w' (some g))) :
    Calls Tryz.prog 22 #[.pointer (some ⟨g, 0, none⟩)] w fun e w' => ∃ k ln n, e = .returned (.tuple #[.agg #[.string ⟨#[]⟩, .string ⟨#[]⟩, .int .i64 0, .slice none 0 0], fltV n st]) ∧ RdB g s k ln a b c w' ∧ w.grownBy w' (some g) := by
  have hgl := hR.lt
  have hb0 : Below w.heap.size w (w.alloc (.cells #[.string ⟨#[]⟩, .string ⟨#[]⟩, .int .i64 0, .slice none 0 0] 35)) := (Below.refl _ _).alloc (Nat.le_refl _) _
  have HF0 := Lib.hid (HF.out _ (hR.go hb0) (hM.go hb0))
  have HB0 := Lib.hid hb0
  have HM0 := Lib.hid (hM.go hb0)
  have HT0 := Lib.hid (heap_alloc_new w (.cells #[.string ⟨#[]⟩, .string ⟨#[]⟩, .int .i64 0, .slice none 0 0] 35))
  have hz0 : ∀ o, (w.alloc o).heap.size = w.heap.size + 1 := fun o => by simp
  clear hR hM hb0
  go_enter Tryz.func22, Tryz.ntmps22
  go_wp2_with fail
  (with_reducible refine HF0.out.mono ?_)
  rintro e w1 ⟨rfl, hR1, hG1⟩
  have hs1 : w.heap.size < w1.heap.size := by have := hG1.size; rw [hz0] at this; omega
  have hb1 : Below w1.heap.size w1 (w1.alloc (.cells #[.string pm, .string pt, .int .i64 mn, .slice none 0 0] 35)) := (Below.refl _ _).alloc (Nat.le_refl _) _
  have HT1 : Hid ((w1.alloc (.cells #[.string pm, .string pt, .int .i64 mn, .slice none 0 0] 35)).heap[w.heap.size]? = some (.cells #[.string ⟨#[]⟩, .string ⟨#[]⟩, .int .i64 0, .slice none 0 0] 35 (0, 0))) := (hb1.block _ hs1).trans ((hG1.block _ (by rw [hz0]; omega) (fun e => by injection e with e; omega)).trans HT0.out)
  have HU1 := Lib.hid (heap_alloc_new w1 (.cells #[.string pm, .string pt, .int .i64 mn, .slice none 0 0] 35))
  have HG1 : Hid (w.grownBy (w1.alloc (.cells #[.string pm, .string pt, .int .i64 mn, .slice none 0 0] 35)) (some g)) := gb_trans (gb_trans (gb_below HB0.out) hG1) (gb_below hb1)
  have HR1 := Lib.hid (hR1.go hb1)
  have HM1 := Lib.hid ((HM0.out.gb hG1 hg).go hb1)
  have hz1 : ∀ o, (w1.alloc o).heap.size = w1.heap.size + 1 := fun o => by simp
  clear hR1 hG1 hb1 HF0
  have HD1 := Lib.hid (HD.out _ HR1.out HM1.out)
  unfold fltV at HD1
  go_wp2_with fail
  (with_reducible refine HD1.out.mono ?_)
  rintro e w3 ⟨k, ln, n, rfl, hR3, hG3⟩
  have hs3 : w1.heap.size < w3.heap.size := by have := hG3.size; rw [hz1] at this; omega
  have HT3 : Hid (w3.heap[w.heap.size]? = some (.cells #[.string ⟨#[]⟩, .string ⟨#[]⟩, .int .i64 0, .slice none 0 0] 35 (0, 0))) := (hG3.block _ (by rw [hz1]; omega) (fun e => by injection e with e; omega)).trans HT1.out
  have HU3 : Hid (w3.heap[w1.heap.size]? = some (.cells #[.string pm, .string pt, .int .i64 mn, .slice none 0 0] 35 (0, 0))) := (hG3.block _ (by rw [hz1]; omega) (fun e => by injection e with e; omega)).trans HU1.out
  have HG3 : Hid (w.grownBy w3 (some g)) := gb_trans HG1.out hG3
  have HW : Hid (∃ W4, W4 = w3.setCell ⟨w1.heap.size, 3, none⟩ (.slice none 0 0) ∧ W4.heap[w.heap.size]? = some (.cells #[.string ⟨#[]⟩, .string ⟨#[]⟩, .int .i64 0, .slice none 0 0] 35 (0, 0)) ∧ W4.heap[w1.heap.size]? = some (.cells #[.string pm, .string pt, .int .i64 mn, .slice none 0 0] 35 (0, 0)) ∧ RdB g s k ln a b c W4 ∧ w.grownBy W4 (some g) ∧ W4.heap.size = w3.heap.size) := by
    refine ⟨_, rfl, set_ne HT3.out (by omega) 3 _, ?_, set_ne hR3 (by omega) 3 _, ?_, by simp [World.setCell]⟩
    · have := blk_set HU3.out 3 (.slice none 0 0)
      simpa using this
    · have hb := (Below.refl w1.heap.size w3).setCell (p := ⟨w1.heap.size, 3, none⟩) (Nat.le_refl _) (.slice none 0 0)
      exact gb_up HG3.out hb (by omega)
  obtain ⟨W4, hW4, hT4, hU4, hR4, hG4, hz4⟩ := HW.out
  have HWE := Lib.hid hW4
  have HT4 := Lib.hid hT4
  have HU4 := Lib.hid hU4
  have HR4 := Lib.hid hR4
  have HG4 := Lib.hid hG4
  have u0 := cell_of_row _ _ 0 _ _ _ HU3.out
  have u1 := cell_of_row _ _ 1 _ _ _ HU3.out
  have u2 := cell_of_row _ _ 2 _ _ _ HU3.out
  have u3 := cell_of_row _ _ 3 _ _ _ HU3.out
  have v3 := frz2 HU3.out 3
  have hs4 : w1.heap.size < W4.heap.size := by omega
  have HZ4 := Lib.hid hz4
  clear HW hW4 hT4 hU4 hR4 hG4 hR3 hG3 HD1 HU1 HT1 hz4
  have hn1' : w.heap.size ≠ w1.heap.size := by omega
  have c0 := cell_of_row _ _ 0 _ _ _ HT3.out
  have c1 := cell_of_row _ _ 1 _ _ _ HT3.out
  have c2 := cell_of_row _ _ 2 _ _ _ HT3.out
  have c3 := cell_of_row _ _ 3 _ _ _ HT3.out
  have z0 := frz2 HT3.out 0
  have z1 := frz2 HT3.out 1
  have z2 := frz2 HT3.out 2
  have z3 := frz2 HT3.out 3
  have HH := Lib.hid (set4 HT4.out (.string ⟨#[]⟩) (.string ⟨#[]⟩) (.int .i64 0) (.slice none 0 0))
  have HHR := Lib.hid (ne4 (g := w.heap.size) HR4.out (by omega) (.string ⟨#[]⟩) (.string ⟨#[]⟩) (.int .i64 0) (.slice none 0 0))
  rw [HWE.out] at HH HHR
  go_wp2
  have d0 := cell_of_row _ _ 0 _ _ _ HH.out
  have d1 := cell_of_row _ _ 1 _ _ _ HH.out
  have d2 := cell_of_row _ _ 2 _ _ _ HH.out
  have d3 := cell_of_row _ _ 3 _ _ _ HH.out
  clear c0 c1 c2 c3 z0 z1 z2 z3 u0 u1 u2 u3 v3
  refine bodyPost_ret (v := .tuple #[.agg #[.string ⟨#[]⟩, .string ⟨#[]⟩, .int .i64 0, .slice none 0 0], fltV n st]) (by simp [results, Tryz.results22, go_sem, fltV, d0, d1, d2, d3]) rfl ⟨_, _, n, rfl, HHR.out, ?_⟩
  have hgg := gb_up HG4.out (bel4 (Below.refl w.heap.size W4) (Nat.le_refl _) (.string ⟨#[]⟩) (.string ⟨#[]⟩) (.int .i64 0) (.slice none 0 0)) (Nat.le_refl _)
  rw [HWE.out] at hgg
  exact hgg
set_option maxRecDepth 100000 in
set_option maxHeartbeats 400000 in
theorem hd_h (g : Nat) (s pm pt : ByteArray) (k1 k2 : Nat) (a b c mn st : Int) (fs : List FldL) (w : World) (hR : RdB g s 0 0 a b c w) (hM : Mx w) (hg : g ≠ 1) (HF : Hid (∀ W, RdB g s 0 0 a b c W → Mx W → Calls Tryz.prog 26 #[.pointer (some ⟨g, 0, none⟩)] W fun e w' => e = .returned (.tuple #[.agg #[.string pm, .string pt, .int .i64 mn, .slice none 0 0], .nilIface]) ∧ RdB g s k1 1 a b c w' ∧ W.grownBy w' (some g))) (HD : Hid (∀ W, RdB g s k1 1 a b c W → Mx W → Calls Tryz.prog 27 #[.pointer (some ⟨g, 0, none⟩)] W fun e w' => ∃ ao cp ln, e = .returned (.tuple #[.slice ao fs.length cp, .nilIface]) ∧ OwL W.heap.size (.slice ao fs.length cp) fs w' ∧ RdB g s k2 ln a b c w' ∧ W.grownBy w' (some g) ∧ 0 ≤ ln ∧ ln ≤ 5000)) (hm : fs.length ≤ 2000) (hfs : ∀ x ∈ fs, x.1.length ≤ 1000) (hn0 : (mn == 0) = false) (hn1 : (mn != 0) = true) (hc : ((cntL [72, 111, 115, 116] fs : Int) == 1) = false) (hc2 : ((cntL [72, 111, 115, 116] fs : Int) != 1) = true) (hc3 : cntL [72, 111, 115, 116] fs ≠ 1) :
    Calls Tryz.prog 22 #[.pointer (some ⟨g, 0, none⟩)] w fun e w' => ∃ k ln n, e = .returned (.tuple #[.agg #[.string ⟨#[]⟩, .string ⟨#[]⟩, .int .i64 0, .slice none 0 0], fltV n 400]) ∧ RdB g s k ln a b c w' ∧ w.grownBy w' (some g) := by
  have hcn : 0 ≤ (cntL [72, 111, 115, 116] fs : Int) := by omega
  have hgl := hR.lt
  have hb0 : Below w.heap.size w (w.alloc (.cells #[.string ⟨#[]⟩, .string ⟨#[]⟩, .int .i64 0, .slice none 0 0] 35)) := (Below.refl _ _).alloc (Nat.le_refl _) _
  have HF0 := Lib.hid (HF.out _ (hR.go hb0) (hM.go hb0))
  have HB0 := Lib.hid hb0
  have HM0 := Lib.hid (hM.go hb0)
  have HT0 := Lib.hid (heap_alloc_new w (.cells #[.string ⟨#[]⟩, .string ⟨#[]⟩, .int .i64 0, .slice none 0 0] 35))
  have hz0 : ∀ o, (w.alloc o).heap.size = w.heap.size + 1 := fun o => by simp
  clear hR hM hb0
  go_enter Tryz.func22, Tryz.ntmps22
  go_wp2_with fail
  (with_reducible refine HF0.out.mono ?_)
  rintro e w1 ⟨rfl, hR1, hG1⟩
  have hs1 : w.heap.size < w1.heap.size := by have := hG1.size; rw [hz0] at this; omega
  have hb1 : Below w1.heap.size w1 (w1.alloc (.cells #[.string pm, .string pt, .int .i64 mn, .slice none 0 0] 35)) := (Below.refl _ _).alloc (Nat.le_refl _) _
  have HT1 : Hid ((w1.alloc (.cells #[.string pm, .string pt, .int .i64 mn, .slice none 0 0] 35)).heap[w.heap.size]? = some (.cells #[.string ⟨#[]⟩, .string ⟨#[]⟩, .int .i64 0, .slice none 0 0] 35 (0, 0))) := (hb1.block _ hs1).trans ((hG1.block _ (by rw [hz0]; omega) (fun e => by injection e with e; omega)).trans HT0.out)
  have HU1 := Lib.hid (heap_alloc_new w1 (.cells #[.string pm, .string pt, .int .i64 mn, .slice none 0 0] 35))
  have HG1 : Hid (w.grownBy (w1.alloc (.cells #[.string pm, .string pt, .int .i64 mn, .slice none 0 0] 35)) (some g)) := gb_trans (gb_trans (gb_below HB0.out) hG1) (gb_below hb1)
  have HR1 := Lib.hid (hR1.go hb1)
  have HM1 := Lib.hid ((HM0.out.gb hG1 hg).go hb1)
  have hz1 : ∀ o, (w1.alloc o).heap.size = w1.heap.size + 1 := fun o => by simp
  clear hR1 hG1 hb1 HF0
  have HD1 := Lib.hid (HD.out _ HR1.out HM1.out)
  go_wp2_with fail
  (with_reducible refine HD1.out.mono ?_)
  rintro e w3 ⟨ao, cp, ln, rfl, hO3, hR3, hG3, _, _⟩
  rw [hz1] at hO3
  have hs3 : w1.heap.size < w3.heap.size := by have := hG3.size; rw [hz1] at this; omega
  have HT3 : Hid (w3.heap[w.heap.size]? = some (.cells #[.string ⟨#[]⟩, .string ⟨#[]⟩, .int .i64 0, .slice none 0 0] 35 (0, 0))) := (hG3.block _ (by rw [hz1]; omega) (fun e => by injection e with e; omega)).trans HT1.out
  have HU3 : Hid (w3.heap[w1.heap.size]? = some (.cells #[.string pm, .string pt, .int .i64 mn, .slice none 0 0] 35 (0, 0))) := (hG3.block _ (by rw [hz1]; omega) (fun e => by injection e with e; omega)).trans HU1.out
  have HG3 : Hid (w.grownBy w3 (some g)) := gb_trans HG1.out hG3
  have HW : Hid (∃ W4, W4 = w3.setCell ⟨w1.heap.size, 3, none⟩ (.slice ao fs.length cp) ∧ W4.heap[w.heap.size]? = some (.cells #[.string ⟨#[]⟩, .string ⟨#[]⟩, .int .i64 0, .slice none 0 0] 35 (0, 0)) ∧ W4.heap[w1.heap.size]? = some (.cells #[.string pm, .string pt, .int .i64 mn, .slice ao fs.length cp] 35 (0, 0)) ∧ OwL (w1.heap.size + 1) (.slice ao fs.length cp) fs W4 ∧ RdB g s k2 ln a b c W4 ∧ w.grownBy W4 (some g) ∧ W4.heap.size = w3.heap.size) := by
    refine ⟨_, rfl, set_ne HT3.out (by omega) 3 _, ?_, hO3.gb (gb_set w3 w1.heap.size 3 _) (Nat.lt_succ_self _), set_ne hR3 (by omega) 3 _, ?_, by simp [World.setCell]⟩
    · have := blk_set HU3.out 3 (.slice ao fs.length cp)
      simpa using this
    · have hb := (Below.refl w1.heap.size w3).setCell (p := ⟨w1.heap.size, 3, none⟩) (Nat.le_refl _) (.slice ao fs.length cp)
      exact gb_up HG3.out hb (by omega)
  obtain ⟨W4, hW4, hT4, hU4, hO4, hR4, hG4, hz4⟩ := HW.out
  have HWE := Lib.hid hW4
  have HT4 := Lib.hid hT4
  have HU4 := Lib.hid hU4
  have HR4 := Lib.hid hR4
  have HG4 := Lib.hid hG4
  have HO4 := Lib.hid hO4
  have u0 := cell_of_row _ _ 0 _ _ _ HU3.out
  have u1 := cell_of_row _ _ 1 _ _ _ HU3.out
  have u2 := cell_of_row _ _ 2 _ _ _ HU3.out
  have u3 := cell_of_row _ _ 3 _ _ _ HU3.out
  have v3 := frz2 HU3.out 3
  have hs4 : w1.heap.size < W4.heap.size := by omega
  have HZ4 := Lib.hid hz4
  clear HW hW4 hT4 hU4 hR4 hG4 hR3 hG3 HD1 HU1 HT1 hz4 hO4 hO3
  have hb5 : Below W4.heap.size W4 (W4.alloc (.cells #[.string ⟨#[72, 111, 115, 116]⟩] 9)) := (Below.refl _ _).alloc (Nat.le_refl _) _
  have hq5 := cell_of_row _ _ 0 _ _ _ (heap_alloc_new W4 (.cells #[.string ⟨#[72, 111, 115, 116]⟩] 9))
  have hpl := places_g ⟨#[72, 111, 115, 116]⟩ pm pt mn (.slice ao fs.length cp) fs W4.heap.size (w1.heap.size + 1) (W4.alloc (.cells #[.string ⟨#[72, 111, 115, 116]⟩] 9)) (HO4.out.go hb5) hm hfs (by decide) (by rw [World.size_alloc]; exact Nat.lt_succ_self _) hq5
  rw [HZ4.out, show (ByteArray.mk #[72, 111, 115, 116]).data.toList = [72, 111, 115, 116] from rfl] at hpl
  have HPL := Lib.hid hpl
  have HB5 := Lib.hid hb5
  clear hb5 hq5 hpl
  go_wp2_with fail
  rw [← HWE.out]
  (with_reducible refine HPL.out.mono ?_)
  rintro e w6 ⟨ap, cq, rfl, hb6⟩
  have hb6' : Below W4.heap.size W4 w6 := HB5.out.trans (hb6.mono HB5.out.size)
  have HT6 : Hid (w6.heap[w.heap.size]? = some (.cells #[.string ⟨#[]⟩, .string ⟨#[]⟩, .int .i64 0, .slice none 0 0] 35 (0, 0))) := (hb6'.block _ (by omega)).trans HT4.out
  have HU6 : Hid (w6.heap[w1.heap.size]? = some (.cells #[.string pm, .string pt, .int .i64 mn, .slice ao fs.length cp] 35 (0, 0))) := (hb6'.block _ hs4).trans HU4.out
  have HO6 := Lib.hid (HO4.out.go hb6')
  have HR6 := Lib.hid (HR4.out.go hb6')
  have HG6 : Hid (w.grownBy w6 (some g)) := gb_trans HG4.out (gb_below hb6')
  clear hb6 hb6' HPL u0 u1 u2 u3 v3
  have m0 := cell_of_row _ _ 0 _ _ _ HU6.out
  have m1 := cell_of_row _ _ 1 _ _ _ HU6.out
  have m2 := cell_of_row _ _ 2 _ _ _ HU6.out
  have m3 := cell_of_row _ _ 3 _ _ _ HU6.out
  have hn1' : w.heap.size ≠ w1.heap.size := by omega
  have HFL := Lib.hid (fault_c g s k2 ln a b c 400 w6 HR6.out)
  unfold fltV at HFL
  go_wp2_with fail
  (with_reducible refine HFL.out.mono ?_)
  rintro e w7 ⟨rfl, hw⟩
  rw [← hw]; clear hw
  have c0 := cell_of_row _ _ 0 _ _ _ HT6.out
  have c1 := cell_of_row _ _ 1 _ _ _ HT6.out
  have c2 := cell_of_row _ _ 2 _ _ _ HT6.out
  have c3 := cell_of_row _ _ 3 _ _ _ HT6.out
  have z0 := frz2 HT6.out 0
  have z1 := frz2 HT6.out 1
  have z2 := frz2 HT6.out 2
  have z3 := frz2 HT6.out 3
  have HH := Lib.hid (set4 HT6.out (.string ⟨#[]⟩) (.string ⟨#[]⟩) (.int .i64 0) (.slice none 0 0))
  have HHR := Lib.hid (ne4 (g := w.heap.size) HR6.out (by omega) (.string ⟨#[]⟩) (.string ⟨#[]⟩) (.int .i64 0) (.slice none 0 0))
  go_wp2
  have d0 := cell_of_row _ _ 0 _ _ _ HH.out
  have d1 := cell_of_row _ _ 1 _ _ _ HH.out
  have d2 := cell_of_row _ _ 2 _ _ _ HH.out
  have d3 := cell_of_row _ _ 3 _ _ _ HH.out
  clear c0 c1 c2 c3 z0 z1 z2 z3
  refine bodyPost_ret (v := .tuple #[.agg #[.string ⟨#[]⟩, .string ⟨#[]⟩, .int .i64 0, .slice none 0 0], fltV ln 400]) (by simp [results, Tryz.results22, go_sem, fltV, d0, d1, d2, d3]) rfl ⟨_, _, _, rfl, HHR.out, ?_⟩
  exact gb_up HG6.out (bel4 (Below.refl w.heap.size w6) (Nat.le_refl _) _ _ _ _) (Nat.le_refl _)
set_option maxRecDepth 100000 in
set_option maxHeartbeats 400000 in
theorem hd_z (g : Nat) (s pm pt : ByteArray) (k1 k2 : Nat) (a b c mn st : Int) (fs : List FldL) (w : World) (hR : RdB g s 0 0 a b c w) (hM : Mx w) (hg : g ≠ 1) (HF : Hid (∀ W, RdB g s 0 0 a b c W → Mx W → Calls Tryz.prog 26 #[.pointer (some ⟨g, 0, none⟩)] W fun e w' => e = .returned (.tuple #[.agg #[.string pm, .string pt, .int .i64 mn, .slice none 0 0], .nilIface]) ∧ RdB g s k1 1 a b c w' ∧ W.grownBy w' (some g))) (HD : Hid (∀ W, RdB g s k1 1 a b c W → Mx W → Calls Tryz.prog 27 #[.pointer (some ⟨g, 0, none⟩)] W fun e w' => ∃ ao cp ln, e = .returned (.tuple #[.slice ao fs.length cp, .nilIface]) ∧ OwL W.heap.size (.slice ao fs.length cp) fs w' ∧ RdB g s k2 ln a b c w' ∧ W.grownBy w' (some g) ∧ 0 ≤ ln ∧ ln ≤ 5000)) (hn0 : mn = 0) :
    Calls Tryz.prog 22 #[.pointer (some ⟨g, 0, none⟩)] w fun e w' => ∃ ao cp ln, e = .returned (.tuple #[.agg #[.string pm, .string pt, .int .i64 mn, .slice ao fs.length cp], .nilIface]) ∧ OwL w.heap.size (.slice ao fs.length cp) fs w' ∧ RdB g s k2 ln a b c w' ∧ w.grownBy w' (some g) := by
  subst hn0
  have hgl := hR.lt
  have hb0 : Below w.heap.size w (w.alloc (.cells #[.string ⟨#[]⟩, .string ⟨#[]⟩, .int .i64 0, .slice none 0 0] 35)) := (Below.refl _ _).alloc (Nat.le_refl _) _
  have HF0 := Lib.hid (HF.out _ (hR.go hb0) (hM.go hb0))
  have HB0 := Lib.hid hb0
  have HM0 := Lib.hid (hM.go hb0)
  have HT0 := Lib.hid (heap_alloc_new w (.cells #[.string ⟨#[]⟩, .string ⟨#[]⟩, .int .i64 0, .slice none 0 0] 35))
  have hz0 : ∀ o, (w.alloc o).heap.size = w.heap.size + 1 := fun o => by simp
  clear hR hM hb0
  go_enter Tryz.func22, Tryz.ntmps22
  go_wp2_with fail
  (with_reducible refine HF0.out.mono ?_)
  rintro e w1 ⟨rfl, hR1, hG1⟩
  have hs1 : w.heap.size < w1.heap.size := by have := hG1.size; rw [hz0] at this; omega
  have hb1 : Below w1.heap.size w1 (w1.alloc (.cells #[.string pm, .string pt, .int .i64 0, .slice none 0 0] 35)) := (Below.refl _ _).alloc (Nat.le_refl _) _
  have HT1 : Hid ((w1.alloc (.cells #[.string pm, .string pt, .int .i64 0, .slice none 0 0] 35)).heap[w.heap.size]? = some (.cells #[.string ⟨#[]⟩, .string ⟨#[]⟩, .int .i64 0, .slice none 0 0] 35 (0, 0))) := (hb1.block _ hs1).trans ((hG1.block _ (by rw [hz0]; omega) (fun e => by injection e with e; omega)).trans HT0.out)
  have HU1 := Lib.hid (heap_alloc_new w1 (.cells #[.string pm, .string pt, .int .i64 0, .slice none 0 0] 35))
  have HG1 : Hid (w.grownBy (w1.alloc (.cells #[.string pm, .string pt, .int .i64 0, .slice none 0 0] 35)) (some g)) := gb_trans (gb_trans (gb_below HB0.out) hG1) (gb_below hb1)
  have HR1 := Lib.hid (hR1.go hb1)
  have HM1 := Lib.hid ((HM0.out.gb hG1 hg).go hb1)
  have hz1 : ∀ o, (w1.alloc o).heap.size = w1.heap.size + 1 := fun o => by simp
  clear hR1 hG1 hb1 HF0
  have HD1 := Lib.hid (HD.out _ HR1.out HM1.out)
  go_wp2_with fail
  (with_reducible refine HD1.out.mono ?_)
  rintro e w3 ⟨ao, cp, ln, rfl, hO3, hR3, hG3, _, _⟩
  rw [hz1] at hO3
  have hs3 : w1.heap.size < w3.heap.size := by have := hG3.size; rw [hz1] at this; omega
  have HT3 : Hid (w3.heap[w.heap.size]? = some (.cells #[.string ⟨#[]⟩, .string ⟨#[]⟩, .int .i64 0, .slice none 0 0] 35 (0, 0))) := (hG3.block _ (by rw [hz1]; omega) (fun e => by injection e with e; omega)).trans HT1.out
  have HU3 : Hid (w3.heap[w1.heap.size]? = some (.cells #[.string pm, .string pt, .int .i64 0, .slice none 0 0] 35 (0, 0))) := (hG3.block _ (by rw [hz1]; omega) (fun e => by injection e with e; omega)).trans HU1.out
  have HG3 : Hid (w.grownBy w3 (some g)) := gb_trans HG1.out hG3
  have HW : Hid (∃ W4, W4 = w3.setCell ⟨w1.heap.size, 3, none⟩ (.slice ao fs.length cp) ∧ W4.heap[w.heap.size]? = some (.cells #[.string ⟨#[]⟩, .string ⟨#[]⟩, .int .i64 0, .slice none 0 0] 35 (0, 0)) ∧ W4.heap[w1.heap.size]? = some (.cells #[.string pm, .string pt, .int .i64 0, .slice ao fs.length cp] 35 (0, 0)) ∧ OwL (w1.heap.size + 1) (.slice ao fs.length cp) fs W4 ∧ RdB g s k2 ln a b c W4 ∧ w.grownBy W4 (some g) ∧ W4.heap.size = w3.heap.size) := by
    refine ⟨_, rfl, set_ne HT3.out (by omega) 3 _, ?_, hO3.gb (gb_set w3 w1.heap.size 3 _) (Nat.lt_succ_self _), set_ne hR3 (by omega) 3 _, ?_, by simp [World.setCell]⟩
    · have := blk_set HU3.out 3 (.slice ao fs.length cp)
      simpa using this
    · have hb := (Below.refl w1.heap.size w3).setCell (p := ⟨w1.heap.size, 3, none⟩) (Nat.le_refl _) (.slice ao fs.length cp)
      exact gb_up HG3.out hb (by omega)
  obtain ⟨W4, hW4, hT4, hU4, hO4, hR4, hG4, hz4⟩ := HW.out
  have HWE := Lib.hid hW4
  have HT4 := Lib.hid hT4
  have HU4 := Lib.hid hU4
  have HR4 := Lib.hid hR4
  have HG4 := Lib.hid hG4
  have HO4 := Lib.hid hO4
  have u0 := cell_of_row _ _ 0 _ _ _ HU3.out
  have u1 := cell_of_row _ _ 1 _ _ _ HU3.out
  have u2 := cell_of_row _ _ 2 _ _ _ HU3.out
  have u3 := cell_of_row _ _ 3 _ _ _ HU3.out
  have v3 := frz2 HU3.out 3
  have hs4 : w1.heap.size < W4.heap.size := by omega
  have HZ4 := Lib.hid hz4
  clear HW hW4 hT4 hU4 hR4 hG4 hR3 hG3 HD1 HU1 HT1 hz4 hO4 hO3
  have hn1' : w.heap.size ≠ w1.heap.size := by omega
  have c0 := cell_of_row _ _ 0 _ _ _ HT3.out
  have c1 := cell_of_row _ _ 1 _ _ _ HT3.out
  have c2 := cell_of_row _ _ 2 _ _ _ HT3.out
  have c3 := cell_of_row _ _ 3 _ _ _ HT3.out
  have z0 := frz2 HT3.out 0
  have z1 := frz2 HT3.out 1
  have z2 := frz2 HT3.out 2
  have z3 := frz2 HT3.out 3
  have HH := Lib.hid (set4 HT4.out (.string pm) (.string pt) (.int .i64 0) (.slice ao fs.length cp))
  have HHR := Lib.hid (ne4 (g := w.heap.size) HR4.out (by omega) (.string pm) (.string pt) (.int .i64 0) (.slice ao fs.length cp))
  have HGS := Lib.hid (gb_trans (gb_trans (gb_trans (gb_set W4 w.heap.size 0 (.string pm)) (gb_set _ w.heap.size 1 (.string pt))) (gb_set _ w.heap.size 2 (.int .i64 0))) (gb_set _ w.heap.size 3 (.slice ao fs.length cp)))
  have HOS := Lib.hid (HO4.out.gb HGS.out (by omega))
  rw [HWE.out] at HH HHR HOS
  go_wp2
  have d0 := cell_of_row _ _ 0 _ _ _ HH.out
  have d1 := cell_of_row _ _ 1 _ _ _ HH.out
  have d2 := cell_of_row _ _ 2 _ _ _ HH.out
  have d3 := cell_of_row _ _ 3 _ _ _ HH.out
  clear c0 c1 c2 c3 z0 z1 z2 z3 u0 u1 u2 u3 v3
  refine bodyPost_ret (v := .tuple #[.agg #[.string pm, .string pt, .int .i64 0, .slice ao fs.length cp], .nilIface]) (by simp [results, Tryz.results22, go_sem, fltV, d0, d1, d2, d3]) rfl ⟨ao, cp, ln, rfl, World.ownsRow.mono HOS.out (by omega), HHR.out, ?_⟩
  have hgg := gb_up HG4.out (bel4 (Below.refl w.heap.size W4) (Nat.le_refl _) (.string pm) (.string pt) (.int .i64 0) (.slice ao fs.length cp)) (Nat.le_refl _)
  rw [HWE.out] at hgg
  exact hgg
set_option maxRecDepth 100000 in
set_option maxHeartbeats 400000 in
theorem hd_o (g : Nat) (s pm pt : ByteArray) (k1 k2 : Nat) (a b c mn st : Int) (fs : List FldL) (w : World) (hR : RdB g s 0 0 a b c w) (hM : Mx w) (hg : g ≠ 1) (HF : Hid (∀ W, RdB g s 0 0 a b c W → Mx W → Calls Tryz.prog 26 #[.pointer (some ⟨g, 0, none⟩)] W fun e w' => e = .returned (.tuple #[.agg #[.string pm, .string pt, .int .i64 mn, .slice none 0 0], .nilIface]) ∧ RdB g s k1 1 a b c w' ∧ W.grownBy w' (some g))) (HD : Hid (∀ W, RdB g s k1 1 a b c W → Mx W → Calls Tryz.prog 27 #[.pointer (some ⟨g, 0, none⟩)] W fun e w' => ∃ ao cp ln, e = .returned (.tuple #[.slice ao fs.length cp, .nilIface]) ∧ OwL W.heap.size (.slice ao fs.length cp) fs w' ∧ RdB g s k2 ln a b c w' ∧ W.grownBy w' (some g) ∧ 0 ≤ ln ∧ ln ≤ 5000)) (hm : fs.length ≤ 2000) (hfs : ∀ x ∈ fs, x.1.length ≤ 1000) (hn0 : (mn == 0) = false) (hn1 : (mn != 0) = true) (hc3 : cntL [72, 111, 115, 116] fs = 1) :
    Calls Tryz.prog 22 #[.pointer (some ⟨g, 0, none⟩)] w fun e w' => ∃ ao cp ln, e = .returned (.tuple #[.agg #[.string pm, .string pt, .int .i64 mn, .slice ao fs.length cp], .nilIface]) ∧ OwL w.heap.size (.slice ao fs.length cp) fs w' ∧ RdB g s k2 ln a b c w' ∧ w.grownBy w' (some g) := by
  have hcn : 0 ≤ (cntL [72, 111, 115, 116] fs : Int) := by omega
  have hgl := hR.lt
  have hb0 : Below w.heap.size w (w.alloc (.cells #[.string ⟨#[]⟩, .string ⟨#[]⟩, .int .i64 0, .slice none 0 0] 35)) := (Below.refl _ _).alloc (Nat.le_refl _) _
  have HF0 := Lib.hid (HF.out _ (hR.go hb0) (hM.go hb0))
  have HB0 := Lib.hid hb0
  have HM0 := Lib.hid (hM.go hb0)
  have HT0 := Lib.hid (heap_alloc_new w (.cells #[.string ⟨#[]⟩, .string ⟨#[]⟩, .int .i64 0, .slice none 0 0] 35))
  have hz0 : ∀ o, (w.alloc o).heap.size = w.heap.size + 1 := fun o => by simp
  clear hR hM hb0
  go_enter Tryz.func22, Tryz.ntmps22
  go_wp2_with fail
  (with_reducible refine HF0.out.mono ?_)
  rintro e w1 ⟨rfl, hR1, hG1⟩
  have hs1 : w.heap.size < w1.heap.size := by have := hG1.size; rw [hz0] at this; omega
  have hb1 : Below w1.heap.size w1 (w1.alloc (.cells #[.string pm, .string pt, .int .i64 mn, .slice none 0 0] 35)) := (Below.refl _ _).alloc (Nat.le_refl _) _
  have HT1 : Hid ((w1.alloc (.cells #[.string pm, .string pt, .int .i64 mn, .slice none 0 0] 35)).heap[w.heap.size]? = some (.cells #[.string ⟨#[]⟩, .string ⟨#[]⟩, .int .i64 0, .slice none 0 0] 35 (0, 0))) := (hb1.block _ hs1).trans ((hG1.block _ (by rw [hz0]; omega) (fun e => by injection e with e; omega)).trans HT0.out)
  have HU1 := Lib.hid (heap_alloc_new w1 (.cells #[.string pm, .string pt, .int .i64 mn, .slice none 0 0] 35))
  have HG1 : Hid (w.grownBy (w1.alloc (.cells #[.string pm, .string pt, .int .i64 mn, .slice none 0 0] 35)) (some g)) := gb_trans (gb_trans (gb_below HB0.out) hG1) (gb_below hb1)
  have HR1 := Lib.hid (hR1.go hb1)
  have HM1 := Lib.hid ((HM0.out.gb hG1 hg).go hb1)
  have hz1 : ∀ o, (w1.alloc o).heap.size = w1.heap.size + 1 := fun o => by simp
  clear hR1 hG1 hb1 HF0
  have HD1 := Lib.hid (HD.out _ HR1.out HM1.out)
  go_wp2_with fail
  (with_reducible refine HD1.out.mono ?_)
  rintro e w3 ⟨ao, cp, ln, rfl, hO3, hR3, hG3, _, _⟩
  rw [hz1] at hO3
  have hs3 : w1.heap.size < w3.heap.size := by have := hG3.size; rw [hz1] at this; omega
  have HT3 : Hid (w3.heap[w.heap.size]? = some (.cells #[.string ⟨#[]⟩, .string ⟨#[]⟩, .int .i64 0, .slice none 0 0] 35 (0, 0))) := (hG3.block _ (by rw [hz1]; omega) (fun e => by injection e with e; omega)).trans HT1.out
  have HU3 : Hid (w3.heap[w1.heap.size]? = some (.cells #[.string pm, .string pt, .int .i64 mn, .slice none 0 0] 35 (0, 0))) := (hG3.block _ (by rw [hz1]; omega) (fun e => by injection e with e; omega)).trans HU1.out
  have HG3 : Hid (w.grownBy w3 (some g)) := gb_trans HG1.out hG3
  have HW : Hid (∃ W4, W4 = w3.setCell ⟨w1.heap.size, 3, none⟩ (.slice ao fs.length cp) ∧ W4.heap[w.heap.size]? = some (.cells #[.string ⟨#[]⟩, .string ⟨#[]⟩, .int .i64 0, .slice none 0 0] 35 (0, 0)) ∧ W4.heap[w1.heap.size]? = some (.cells #[.string pm, .string pt, .int .i64 mn, .slice ao fs.length cp] 35 (0, 0)) ∧ OwL (w1.heap.size + 1) (.slice ao fs.length cp) fs W4 ∧ RdB g s k2 ln a b c W4 ∧ w.grownBy W4 (some g) ∧ W4.heap.size = w3.heap.size) := by
    refine ⟨_, rfl, set_ne HT3.out (by omega) 3 _, ?_, hO3.gb (gb_set w3 w1.heap.size 3 _) (Nat.lt_succ_self _), set_ne hR3 (by omega) 3 _, ?_, by simp [World.setCell]⟩
    · have := blk_set HU3.out 3 (.slice ao fs.length cp)
      simpa using this
    · have hb := (Below.refl w1.heap.size w3).setCell (p := ⟨w1.heap.size, 3, none⟩) (Nat.le_refl _) (.slice ao fs.length cp)
      exact gb_up HG3.out hb (by omega)
  obtain ⟨W4, hW4, hT4, hU4, hO4, hR4, hG4, hz4⟩ := HW.out
  have HWE := Lib.hid hW4
  have HT4 := Lib.hid hT4
  have HU4 := Lib.hid hU4
  have HR4 := Lib.hid hR4
  have HG4 := Lib.hid hG4
  have HO4 := Lib.hid hO4
  have u0 := cell_of_row _ _ 0 _ _ _ HU3.out
  have u1 := cell_of_row _ _ 1 _ _ _ HU3.out
  have u2 := cell_of_row _ _ 2 _ _ _ HU3.out
  have u3 := cell_of_row _ _ 3 _ _ _ HU3.out
  have v3 := frz2 HU3.out 3
  have hs4 : w1.heap.size < W4.heap.size := by omega
  have HZ4 := Lib.hid hz4
  clear HW hW4 hT4 hU4 hR4 hG4 hR3 hG3 HD1 HU1 HT1 hz4 hO4 hO3
  have hb5 : Below W4.heap.size W4 (W4.alloc (.cells #[.string ⟨#[72, 111, 115, 116]⟩] 9)) := (Below.refl _ _).alloc (Nat.le_refl _) _
  have hq5 := cell_of_row _ _ 0 _ _ _ (heap_alloc_new W4 (.cells #[.string ⟨#[72, 111, 115, 116]⟩] 9))
  have hpl := places_g ⟨#[72, 111, 115, 116]⟩ pm pt mn (.slice ao fs.length cp) fs W4.heap.size (w1.heap.size + 1) (W4.alloc (.cells #[.string ⟨#[72, 111, 115, 116]⟩] 9)) (HO4.out.go hb5) hm hfs (by decide) (by rw [World.size_alloc]; exact Nat.lt_succ_self _) hq5
  rw [HZ4.out, show (ByteArray.mk #[72, 111, 115, 116]).data.toList = [72, 111, 115, 116] from rfl] at hpl
  have HPL := Lib.hid hpl
  have HB5 := Lib.hid hb5
  clear hb5 hq5 hpl
  rw [hc3] at HPL
  clear hc3
  go_wp2_with fail
  rw [← HWE.out]
  (with_reducible refine HPL.out.mono ?_)
  rintro e w6 ⟨ap, cq, rfl, hb6⟩
  have hb6' : Below W4.heap.size W4 w6 := HB5.out.trans (hb6.mono HB5.out.size)
  have HT6 : Hid (w6.heap[w.heap.size]? = some (.cells #[.string ⟨#[]⟩, .string ⟨#[]⟩, .int .i64 0, .slice none 0 0] 35 (0, 0))) := (hb6'.block _ (by omega)).trans HT4.out
  have HU6 : Hid (w6.heap[w1.heap.size]? = some (.cells #[.string pm, .string pt, .int .i64 mn, .slice ao fs.length cp] 35 (0, 0))) := (hb6'.block _ hs4).trans HU4.out
  have HO6 := Lib.hid (HO4.out.go hb6')
  have HR6 := Lib.hid (HR4.out.go hb6')
  have HG6 : Hid (w.grownBy w6 (some g)) := gb_trans HG4.out (gb_below hb6')
  clear hb6 hb6' HPL u0 u1 u2 u3 v3
  have m0 := cell_of_row _ _ 0 _ _ _ HU6.out
  have m1 := cell_of_row _ _ 1 _ _ _ HU6.out
  have m2 := cell_of_row _ _ 2 _ _ _ HU6.out
  have m3 := cell_of_row _ _ 3 _ _ _ HU6.out
  have hn1' : w.heap.size ≠ w1.heap.size := by omega
  have c0 := cell_of_row _ _ 0 _ _ _ HT6.out
  have c1 := cell_of_row _ _ 1 _ _ _ HT6.out
  have c2 := cell_of_row _ _ 2 _ _ _ HT6.out
  have c3 := cell_of_row _ _ 3 _ _ _ HT6.out
  have z0 := frz2 HT6.out 0
  have z1 := frz2 HT6.out 1
  have z2 := frz2 HT6.out 2
  have z3 := frz2 HT6.out 3
  have HH := Lib.hid (set4 HT6.out (.string pm) (.string pt) (.int .i64 mn) (.slice ao fs.length cp))
  have HHR := Lib.hid (ne4 (g := w.heap.size) HR6.out (by omega) (.string pm) (.string pt) (.int .i64 mn) (.slice ao fs.length cp))
  have HGS := Lib.hid (gb_trans (gb_trans (gb_trans (gb_set w6 w.heap.size 0 (.string pm)) (gb_set _ w.heap.size 1 (.string pt))) (gb_set _ w.heap.size 2 (.int .i64 mn))) (gb_set _ w.heap.size 3 (.slice ao fs.length cp)))
  have HOS := Lib.hid (HO6.out.gb HGS.out (by omega))
  go_wp2
  have d0 := cell_of_row _ _ 0 _ _ _ HH.out
  have d1 := cell_of_row _ _ 1 _ _ _ HH.out
  have d2 := cell_of_row _ _ 2 _ _ _ HH.out
  have d3 := cell_of_row _ _ 3 _ _ _ HH.out
  clear c0 c1 c2 c3 z0 z1 z2 z3
  refine bodyPost_ret (v := .tuple #[.agg #[.string pm, .string pt, .int .i64 mn, .slice ao fs.length cp], .nilIface]) (by simp [results, Tryz.results22, go_sem, fltV, d0, d1, d2, d3]) rfl ⟨ao, cp, ln, rfl, World.ownsRow.mono HOS.out (by omega), HHR.out, ?_⟩
  exact gb_up HG6.out (bel4 (Below.refl w.heap.size w6) (Nat.le_refl _) _ _ _ _) (Nat.le_refl _)
end Go.Proofs.YtkblggpnghdnmaaGreatDoor.Hd
