/- Contracts of package wire's first and Next where there is a status, and at a head without fields. -/
import Derived.Test.YtkblggpnghdnmaaGreatDoorWrBody
import Derived.Test.YtkblggpnghdnmaaGreatDoorHdTold
namespace Go.Proofs.YtkblggpnghdnmaaGreatDoor.Hd
open Go.RowKit Ch
set_option linter.unusedSimpArgs false
set_option linter.unusedVariables false

theorem heap_oldW {w : World} {g : Nat} {o : Obj} (o' : Obj) (h : w.heap[g]? = some o) : (w.alloc o').heap[g]? = some o := ((Below.refl w.heap.size w).alloc (Nat.le_refl _) o').block g (Array.getElem?_eq_some_iff.1 h).1 |>.trans h
theorem set5 {w : World} {g : Nat} {a b c d f : Value} {t : TypeId} (h : w.heap[g]? = some (.cells #[a, b, c, d, f] t (0, 0))) (x y z u v : Value) : (((((w.setCell ⟨g, 0, none⟩ x).setCell ⟨g, 1, none⟩ y).setCell ⟨g, 2, none⟩ z).setCell ⟨g, 3, none⟩ u).setCell ⟨g, 4, none⟩ v).heap[g]? = some (.cells #[x, y, z, u, v] t (0, 0)) := by
  have := blk_set (blk_set (blk_set (blk_set (blk_set h 0 x) 1 y) 2 z) 3 u) 4 v
  simpa using this
theorem ne5 {w : World} {g h : Nat} {o : Option Obj} (hb : w.heap[h]? = o) (hn : ¬ g = h) (x y z u v : Value) : (((((w.setCell ⟨g, 0, none⟩ x).setCell ⟨g, 1, none⟩ y).setCell ⟨g, 2, none⟩ z).setCell ⟨g, 3, none⟩ u).setCell ⟨g, 4, none⟩ v).heap[h]? = o := set_ne (set_ne (set_ne (set_ne (set_ne hb hn 0 _) hn 1 _) hn 2 _) hn 3 _) hn 4 _
theorem bel5 {B g : Nat} {a w : World} (h : Below B a w) (hB : B ≤ g) (x y z u v : Value) : Below B a (((((w.setCell ⟨g, 0, none⟩ x).setCell ⟨g, 1, none⟩ y).setCell ⟨g, 2, none⟩ z).setCell ⟨g, 3, none⟩ u).setCell ⟨g, 4, none⟩ v) := ((((h.setCell (p := ⟨g, 0, none⟩) hB x).setCell (p := ⟨g, 1, none⟩) hB y).setCell (p := ⟨g, 2, none⟩) hB z).setCell (p := ⟨g, 3, none⟩) hB u).setCell (p := ⟨g, 4, none⟩) hB v
set_option maxRecDepth 100000 in
set_option maxHeartbeats 1000000 in
theorem first_st (s : ByteArray) (a b c st : Int) (w : World) (h0 : (st != 0) = true) (h1 : (st == 0) = false)
    (HP : Hid (∀ W, Mx W → ErT W → Calls Tryz.prog 20 #[.string s, .agg #[.int .i64 a, .int .i64 b, .int .i64 c]] W fun e w' => e = .returned (.tuple #[.agg #[.string ⟨#[]⟩, .string ⟨#[]⟩, .int .i64 0, .slice none 0 0], .int .i64 0, .int .i64 st]) ∧ Below W.heap.size W w')) (hM : Mx w) (hE : ErT w) :
    Calls Tryz.prog 17 #[.string s, .agg #[.int .i64 a, .int .i64 b, .int .i64 c]] w fun e w' => e = .returned (.tuple #[RQ0, .int .i64 0, .int .i64 st]) ∧ Below w.heap.size w w' := by
  have HD : Hid (∃ W0, W0 = (w.alloc (.cells #[.int .i64 a, .int .i64 b, .int .i64 c] 27)).alloc (.cells #[.string ⟨#[]⟩, .string ⟨#[]⟩, .int .i64 0, .slice none 0 0, .string ⟨#[]⟩] 37) ∧ W0.heap[w.heap.size + 1]? = some (.cells #[.string ⟨#[]⟩, .string ⟨#[]⟩, .int .i64 0, .slice none 0 0, .string ⟨#[]⟩] 37 (0, 0)) ∧ Below w.heap.size w W0) := by
    refine ⟨_, rfl, ?_, ((Below.refl _ _).alloc (Nat.le_refl _) _).alloc (by simp) _⟩
    have := heap_alloc_new (w.alloc (.cells #[.int .i64 a, .int .i64 b, .int .i64 c] 27)) (.cells #[.string ⟨#[]⟩, .string ⟨#[]⟩, .int .i64 0, .slice none 0 0, .string ⟨#[]⟩] 37)
    simpa using this
  obtain ⟨W0, hW0, hT0, hB0⟩ := HD.out
  have HWE := Lib.hid hW0
  have HT0 := Lib.hid hT0
  have HB0 := Lib.hid hB0
  have HPP := Lib.hid (HP.out W0 (hM.go hB0) (hE.go hB0))
  have hz0 : w.heap.size + 1 < W0.heap.size := (Array.getElem?_eq_some_iff.1 hT0).1
  clear HD hW0 hT0 hB0 hM hE HP
  go_enter Tryz.func17, Tryz.ntmps17
  go_wp2_with fail
  rw [← HWE.out]
  (with_reducible refine HPP.out.mono ?_)
  rintro e w1 ⟨rfl, hb1⟩
  have HT1 : Hid (w1.heap[w.heap.size + 1]? = some (.cells #[.string ⟨#[]⟩, .string ⟨#[]⟩, .int .i64 0, .slice none 0 0, .string ⟨#[]⟩] 37 (0, 0))) := (hb1.block _ hz0).trans HT0.out
  have HB1 : Hid (Below w.heap.size w w1) := HB0.out.trans (hb1.mono HB0.out.size)
  have hz1 : w.heap.size + 1 < w1.heap.size := (Array.getElem?_eq_some_iff.1 HT1.out).1
  have hn1 : w.heap.size + 1 ≠ w1.heap.size := by omega
  clear hb1 HPP
  have c0 := cell_of_row _ _ 0 _ _ _ HT1.out
  have c1 := cell_of_row _ _ 1 _ _ _ HT1.out
  have c2 := cell_of_row _ _ 2 _ _ _ HT1.out
  have c3 := cell_of_row _ _ 3 _ _ _ HT1.out
  have c4 := cell_of_row _ _ 4 _ _ _ HT1.out
  have z0 := frz2 HT1.out 0
  have z1 := frz2 HT1.out 1
  have z2 := frz2 HT1.out 2
  have z3 := frz2 HT1.out 3
  have z4 := frz2 HT1.out 4
  have HH := Lib.hid (heap_oldW (.cells #[.string ⟨#[]⟩, .string ⟨#[]⟩, .int .i64 0, .slice none 0 0] 35) (set5 HT1.out (.string ⟨#[]⟩) (.string ⟨#[]⟩) (.int .i64 0) (.slice none 0 0) (.string ⟨#[]⟩)))
  have HHB := Lib.hid ((bel5 HB1.out (Nat.le_succ w.heap.size) (.string ⟨#[]⟩) (.string ⟨#[]⟩) (.int .i64 0) (.slice none 0 0) (.string ⟨#[]⟩)).alloc (by simp [World.setCell]; omega) (.cells #[.string ⟨#[]⟩, .string ⟨#[]⟩, .int .i64 0, .slice none 0 0] 35))
  go_wp2
  have d0 := cell_of_row _ _ 0 _ _ _ HH.out
  have d1 := cell_of_row _ _ 1 _ _ _ HH.out
  have d2 := cell_of_row _ _ 2 _ _ _ HH.out
  have d3 := cell_of_row _ _ 3 _ _ _ HH.out
  have d4 := cell_of_row _ _ 4 _ _ _ HH.out
  clear c0 c1 c2 c3 c4 z0 z1 z2 z3 z4
  (with_reducible refine bodyPost_ret (v := .tuple #[RQ0, .int .i64 0, .int .i64 st]) (by simp [results, Tryz.results17, go_sem, d0, d1, d2, d3, d4]) rfl ⟨rfl, HHB.out⟩)
set_option maxRecDepth 100000 in
set_option maxHeartbeats 400000 in
theorem next_st (g : Nat) (a b c : Int) (h : ByteArray) (w : World) (hp : PB g a b c h 0 w)
    (HF : Hid (∀ W, Mx W → ErT W → Calls Tryz.prog 17 #[.string h, .agg #[.int .i64 a, .int .i64 b, .int .i64 c]] W fun e w' => e = .returned (.tuple #[RQ0, .int .i64 0, .int .i64 1]) ∧ Below W.heap.size W w')) (hM : Mx w) (hE : ErT w) :
    Calls Tryz.prog 13 #[.pointer (some ⟨g, 0, none⟩)] w fun e w' => e = .returned (.tuple #[RQ0, .bool false]) ∧ Below w.heap.size w w' := by
  have HD : Hid (∃ W0, W0 = w.alloc (.cells #[.string ⟨#[]⟩, .string ⟨#[]⟩, .int .i64 0, .slice none 0 0, .string ⟨#[]⟩] 37) ∧ W0.heap[w.heap.size]? = some (.cells #[.string ⟨#[]⟩, .string ⟨#[]⟩, .int .i64 0, .slice none 0 0, .string ⟨#[]⟩] 37 (0, 0)) ∧ Below w.heap.size w W0) := ⟨_, rfl, heap_alloc_new w _, (Below.refl _ _).alloc (Nat.le_refl _) _⟩
  obtain ⟨W0, hW0, hT0, hB0⟩ := HD.out
  have HWE := Lib.hid hW0
  have HT0 := Lib.hid hT0
  have HB0 := Lib.hid hB0
  have HPW : Hid (PB g a b c h 0 W0.drew) := (hp.go hB0 : PB g a b c h 0 W0)
  have HM0 : Hid (Mx W0.drew) := (hM.go hB0 : Mx W0)
  have HE0 : Hid (ErT W0.drew) := (hE.go hB0 : ErT W0)
  have hz0 : w.heap.size < W0.heap.size := (Array.getElem?_eq_some_iff.1 hT0).1
  have HPX := Lib.hid (hp.go hB0)
  have c0 := cell_of_row _ _ 0 _ _ _ HPX.out
  have c1 := cell_of_row _ _ 1 _ _ _ HPX.out
  have c2 := cell_of_row _ _ 2 _ _ _ HPX.out
  have c3 := cell_of_row _ _ 3 _ _ _ HPX.out
  have c4 := cell_of_row _ _ 4 _ _ _ HPX.out
  have e4 := cell_of_row _ _ 4 _ _ _ hp
  have hq1 : g < w.heap.size := hp.lt
  have hq2 : g ≠ w.heap.size := by omega
  clear HD hW0 hT0 hB0 hM hE hp
  go_enter Tryz.func13, Tryz.ntmps13
  go_wp2_with fail
  rw [← HWE.out]
  clear e4
  have hMx0 : Mx W0 := HM0.out
  have hEr0 : ErT W0 := HE0.out
  have hg0 : g < W0.heap.size := by omega
  have hg0' : g ≠ W0.heap.size := by omega
  have hbB : Below W0.heap.size W0 (W0.alloc (.cells #[.string ⟨#[]⟩, .string ⟨#[]⟩, .int .i64 0, .slice none 0 0, .string ⟨#[]⟩] 37)) := (Below.refl _ _).alloc (Nat.le_refl _) _
  have HPB : Hid (PB g a b c h 0 (W0.alloc (.cells #[.string ⟨#[]⟩, .string ⟨#[]⟩, .int .i64 0, .slice none 0 0, .string ⟨#[]⟩] 37))) := HPX.out.go hbB
  have HMB : Hid (Mx (W0.alloc (.cells #[.string ⟨#[]⟩, .string ⟨#[]⟩, .int .i64 0, .slice none 0 0, .string ⟨#[]⟩] 37)).drew) := (hMx0.go hbB : Mx (W0.alloc (.cells #[.string ⟨#[]⟩, .string ⟨#[]⟩, .int .i64 0, .slice none 0 0, .string ⟨#[]⟩] 37)))
  have HEB : Hid (ErT (W0.alloc (.cells #[.string ⟨#[]⟩, .string ⟨#[]⟩, .int .i64 0, .slice none 0 0, .string ⟨#[]⟩] 37)).drew) := (hEr0.go hbB : ErT (W0.alloc (.cells #[.string ⟨#[]⟩, .string ⟨#[]⟩, .int .i64 0, .slice none 0 0, .string ⟨#[]⟩] 37)))
  have HTB : Hid ((W0.alloc (.cells #[.string ⟨#[]⟩, .string ⟨#[]⟩, .int .i64 0, .slice none 0 0, .string ⟨#[]⟩] 37)).heap[w.heap.size]? = some (.cells #[.string ⟨#[]⟩, .string ⟨#[]⟩, .int .i64 0, .slice none 0 0, .string ⟨#[]⟩] 37 (0, 0))) := heap_oldW _ HT0.out
  have HNB := Lib.hid (heap_alloc_new W0 (.cells #[.string ⟨#[]⟩, .string ⟨#[]⟩, .int .i64 0, .slice none 0 0, .string ⟨#[]⟩] 37))
  have hzB : (W0.alloc (.cells #[.string ⟨#[]⟩, .string ⟨#[]⟩, .int .i64 0, .slice none 0 0, .string ⟨#[]⟩] 37)).heap.size = W0.heap.size + 1 := by simp
  have HBB : Hid (Below w.heap.size w (W0.alloc (.cells #[.string ⟨#[]⟩, .string ⟨#[]⟩, .int .i64 0, .slice none 0 0, .string ⟨#[]⟩] 37))) := HB0.out.trans (hbB.mono (Nat.le_of_lt hz0))
  have HKA : Hid (W0.drew.cell? ⟨g, 0, none⟩ = some (.int .i64 a) ∧ W0.drew.cell? ⟨g, 1, none⟩ = some (.int .i64 b) ∧ W0.drew.cell? ⟨g, 2, none⟩ = some (.int .i64 c) ∧ W0.drew.cell? ⟨g, 3, none⟩ = some (.string h)) := ⟨cell_of_row _ _ 0 _ _ _ HPX.out, cell_of_row _ _ 1 _ _ _ HPX.out, cell_of_row _ _ 2 _ _ _ HPX.out, cell_of_row _ _ 3 _ _ _ HPX.out⟩
  have HKB : Hid ((W0.alloc (.cells #[.string ⟨#[]⟩, .string ⟨#[]⟩, .int .i64 0, .slice none 0 0, .string ⟨#[]⟩] 37)).drew.cell? ⟨g, 0, none⟩ = some (.int .i64 a) ∧ (W0.alloc (.cells #[.string ⟨#[]⟩, .string ⟨#[]⟩, .int .i64 0, .slice none 0 0, .string ⟨#[]⟩] 37)).drew.cell? ⟨g, 1, none⟩ = some (.int .i64 b) ∧ (W0.alloc (.cells #[.string ⟨#[]⟩, .string ⟨#[]⟩, .int .i64 0, .slice none 0 0, .string ⟨#[]⟩] 37)).drew.cell? ⟨g, 2, none⟩ = some (.int .i64 c) ∧ (W0.alloc (.cells #[.string ⟨#[]⟩, .string ⟨#[]⟩, .int .i64 0, .slice none 0 0, .string ⟨#[]⟩] 37)).drew.cell? ⟨g, 3, none⟩ = some (.string h)) := ⟨cell_of_row _ _ 0 _ _ _ HPB.out, cell_of_row _ _ 1 _ _ _ HPB.out, cell_of_row _ _ 2 _ _ _ HPB.out, cell_of_row _ _ 3 _ _ _ HPB.out⟩
  clear hbB hMx0 hEr0
  go_region_held3 (fun V => V.cell? ⟨g, 0, none⟩ = some (.int .i64 a) ∧ V.cell? ⟨g, 1, none⟩ = some (.int .i64 b) ∧ V.cell? ⟨g, 2, none⟩ = some (.int .i64 c) ∧ V.cell? ⟨g, 3, none⟩ = some (.string h))
    (first | (with_reducible exact HKA.out) | (with_reducible exact HKB.out) | (with_reducible exact HK3.out) | (with_reducible exact HK3a.out) | (with_reducible exact HK3s.out) | (with_reducible exact HK4.out) | (with_reducible exact HK4s.out))
    (first
      | (go_at_call 17; (with_reducible refine (HF.out W0.drew HM0.out HE0.out).mono ?_); rintro e w3 ⟨rfl, hb3⟩; have HP3 : Hid (PB g a b c h 0 w3) := HPW.out.go hb3; have HT3 : Hid (w3.heap[w.heap.size]? = some (.cells #[.string ⟨#[]⟩, .string ⟨#[]⟩, .int .i64 0, .slice none 0 0, .string ⟨#[]⟩] 37 (0, 0))) := (hb3.block _ hz0).trans HT0.out; have HB3 : Hid (Below w.heap.size w w3) := HB0.out.trans (Below.mono ⟨hb3.os, hb3.tape, hb3.output, hb3.size, hb3.block⟩ (Nat.le_of_lt hz0)); have HQ3 : Hid (PB g a b c h 0 (w3.alloc (.cells #[.string ⟨#[]⟩, .string ⟨#[]⟩, .int .i64 0, .slice none 0 0, .string ⟨#[]⟩] 37))) := heap_oldW _ HP3.out; have hg3 : g < w3.heap.size := HP3.out.lt; have hg3' : g ≠ w3.heap.size := Nat.ne_of_lt HP3.out.lt; have HK3 : Hid (w3.cell? ⟨g, 0, none⟩ = some (.int .i64 a) ∧ w3.cell? ⟨g, 1, none⟩ = some (.int .i64 b) ∧ w3.cell? ⟨g, 2, none⟩ = some (.int .i64 c) ∧ w3.cell? ⟨g, 3, none⟩ = some (.string h)) := ⟨cell_of_row _ _ 0 _ _ _ HP3.out, cell_of_row _ _ 1 _ _ _ HP3.out, cell_of_row _ _ 2 _ _ _ HP3.out, cell_of_row _ _ 3 _ _ _ HP3.out⟩; have HK3a : Hid ((w3.alloc (.cells #[.string ⟨#[]⟩, .string ⟨#[]⟩, .int .i64 0, .slice none 0 0, .string ⟨#[]⟩] 37)).cell? ⟨g, 0, none⟩ = some (.int .i64 a) ∧ (w3.alloc (.cells #[.string ⟨#[]⟩, .string ⟨#[]⟩, .int .i64 0, .slice none 0 0, .string ⟨#[]⟩] 37)).cell? ⟨g, 1, none⟩ = some (.int .i64 b) ∧ (w3.alloc (.cells #[.string ⟨#[]⟩, .string ⟨#[]⟩, .int .i64 0, .slice none 0 0, .string ⟨#[]⟩] 37)).cell? ⟨g, 2, none⟩ = some (.int .i64 c) ∧ (w3.alloc (.cells #[.string ⟨#[]⟩, .string ⟨#[]⟩, .int .i64 0, .slice none 0 0, .string ⟨#[]⟩] 37)).cell? ⟨g, 3, none⟩ = some (.string h)) := ⟨cell_of_row _ _ 0 _ _ _ HQ3.out, cell_of_row _ _ 1 _ _ _ HQ3.out, cell_of_row _ _ 2 _ _ _ HQ3.out, cell_of_row _ _ 3 _ _ _ HQ3.out⟩; have HQ3s : Hid (PB g a b c h 0 ((((((w3.alloc (.cells #[.string ⟨#[]⟩, .string ⟨#[]⟩, .int .i64 0, .slice none 0 0, .string ⟨#[]⟩] 37)).setCell ⟨w3.heap.size, 0, none⟩ (.string ⟨#[]⟩)).setCell ⟨w3.heap.size, 1, none⟩ (.string ⟨#[]⟩)).setCell ⟨w3.heap.size, 2, none⟩ (.int .i64 0)).setCell ⟨w3.heap.size, 3, none⟩ (.slice none 0 0)).setCell ⟨w3.heap.size, 4, none⟩ (.string ⟨#[]⟩))) := ne5 (g := w3.heap.size) HQ3.out (fun e => Nat.ne_of_lt HP3.out.lt e.symm) _ _ _ _ _; have HK3s : Hid (((((((w3.alloc (.cells #[.string ⟨#[]⟩, .string ⟨#[]⟩, .int .i64 0, .slice none 0 0, .string ⟨#[]⟩] 37)).setCell ⟨w3.heap.size, 0, none⟩ (.string ⟨#[]⟩)).setCell ⟨w3.heap.size, 1, none⟩ (.string ⟨#[]⟩)).setCell ⟨w3.heap.size, 2, none⟩ (.int .i64 0)).setCell ⟨w3.heap.size, 3, none⟩ (.slice none 0 0)).setCell ⟨w3.heap.size, 4, none⟩ (.string ⟨#[]⟩)).cell? ⟨g, 0, none⟩ = some (.int .i64 a) ∧ ((((((w3.alloc (.cells #[.string ⟨#[]⟩, .string ⟨#[]⟩, .int .i64 0, .slice none 0 0, .string ⟨#[]⟩] 37)).setCell ⟨w3.heap.size, 0, none⟩ (.string ⟨#[]⟩)).setCell ⟨w3.heap.size, 1, none⟩ (.string ⟨#[]⟩)).setCell ⟨w3.heap.size, 2, none⟩ (.int .i64 0)).setCell ⟨w3.heap.size, 3, none⟩ (.slice none 0 0)).setCell ⟨w3.heap.size, 4, none⟩ (.string ⟨#[]⟩)).cell? ⟨g, 1, none⟩ = some (.int .i64 b) ∧ ((((((w3.alloc (.cells #[.string ⟨#[]⟩, .string ⟨#[]⟩, .int .i64 0, .slice none 0 0, .string ⟨#[]⟩] 37)).setCell ⟨w3.heap.size, 0, none⟩ (.string ⟨#[]⟩)).setCell ⟨w3.heap.size, 1, none⟩ (.string ⟨#[]⟩)).setCell ⟨w3.heap.size, 2, none⟩ (.int .i64 0)).setCell ⟨w3.heap.size, 3, none⟩ (.slice none 0 0)).setCell ⟨w3.heap.size, 4, none⟩ (.string ⟨#[]⟩)).cell? ⟨g, 2, none⟩ = some (.int .i64 c) ∧ ((((((w3.alloc (.cells #[.string ⟨#[]⟩, .string ⟨#[]⟩, .int .i64 0, .slice none 0 0, .string ⟨#[]⟩] 37)).setCell ⟨w3.heap.size, 0, none⟩ (.string ⟨#[]⟩)).setCell ⟨w3.heap.size, 1, none⟩ (.string ⟨#[]⟩)).setCell ⟨w3.heap.size, 2, none⟩ (.int .i64 0)).setCell ⟨w3.heap.size, 3, none⟩ (.slice none 0 0)).setCell ⟨w3.heap.size, 4, none⟩ (.string ⟨#[]⟩)).cell? ⟨g, 3, none⟩ = some (.string h)) := ⟨cell_of_row _ _ 0 _ _ _ HQ3s.out, cell_of_row _ _ 1 _ _ _ HQ3s.out, cell_of_row _ _ 2 _ _ _ HQ3s.out, cell_of_row _ _ 3 _ _ _ HQ3s.out⟩; clear hb3)
      | (go_at_call 17; (with_reducible refine (HF.out (W0.alloc (.cells #[.string ⟨#[]⟩, .string ⟨#[]⟩, .int .i64 0, .slice none 0 0, .string ⟨#[]⟩] 37)).drew HMB.out HEB.out).mono ?_); rintro e w4 ⟨rfl, hb4⟩; have hb4' : Below (W0.alloc (.cells #[.string ⟨#[]⟩, .string ⟨#[]⟩, .int .i64 0, .slice none 0 0, .string ⟨#[]⟩] 37)).heap.size (W0.alloc (.cells #[.string ⟨#[]⟩, .string ⟨#[]⟩, .int .i64 0, .slice none 0 0, .string ⟨#[]⟩] 37)) w4 := ⟨hb4.os, hb4.tape, hb4.output, hb4.size, hb4.block⟩; have HP4 : Hid (PB g a b c h 0 w4) := HPB.out.go hb4'; have HT4 : Hid (w4.heap[w.heap.size]? = some (.cells #[.string ⟨#[]⟩, .string ⟨#[]⟩, .int .i64 0, .slice none 0 0, .string ⟨#[]⟩] 37 (0, 0))) := (hb4'.block _ (by rw [hzB]; omega)).trans HTB.out; have HN4 : Hid (w4.heap[W0.heap.size]? = some (.cells #[.string ⟨#[]⟩, .string ⟨#[]⟩, .int .i64 0, .slice none 0 0, .string ⟨#[]⟩] 37 (0, 0))) := (hb4'.block _ (by rw [hzB]; omega)).trans HNB.out; have HB4 : Hid (Below w.heap.size w w4) := HBB.out.trans (hb4'.mono HBB.out.size); have n0 := cell_of_row _ _ 0 _ _ _ HN4.out; have n1 := cell_of_row _ _ 1 _ _ _ HN4.out; have n2 := cell_of_row _ _ 2 _ _ _ HN4.out; have n3 := cell_of_row _ _ 3 _ _ _ HN4.out; have n4 := cell_of_row _ _ 4 _ _ _ HN4.out; have f0 := frz2 HN4.out 0; have f1 := frz2 HN4.out 1; have f2 := frz2 HN4.out 2; have f3 := frz2 HN4.out 3; have f4 := frz2 HN4.out 4; have HK4 : Hid (w4.cell? ⟨g, 0, none⟩ = some (.int .i64 a) ∧ w4.cell? ⟨g, 1, none⟩ = some (.int .i64 b) ∧ w4.cell? ⟨g, 2, none⟩ = some (.int .i64 c) ∧ w4.cell? ⟨g, 3, none⟩ = some (.string h)) := ⟨cell_of_row _ _ 0 _ _ _ HP4.out, cell_of_row _ _ 1 _ _ _ HP4.out, cell_of_row _ _ 2 _ _ _ HP4.out, cell_of_row _ _ 3 _ _ _ HP4.out⟩; have HP4s : Hid (PB g a b c h 0 (((((w4.setCell ⟨W0.heap.size, 0, none⟩ (.string ⟨#[]⟩)).setCell ⟨W0.heap.size, 1, none⟩ (.string ⟨#[]⟩)).setCell ⟨W0.heap.size, 2, none⟩ (.int .i64 0)).setCell ⟨W0.heap.size, 3, none⟩ (.slice none 0 0)).setCell ⟨W0.heap.size, 4, none⟩ (.string ⟨#[]⟩))) := ne5 (g := W0.heap.size) HP4.out (fun e => hg0' e.symm) _ _ _ _ _; have HK4s : Hid ((((((w4.setCell ⟨W0.heap.size, 0, none⟩ (.string ⟨#[]⟩)).setCell ⟨W0.heap.size, 1, none⟩ (.string ⟨#[]⟩)).setCell ⟨W0.heap.size, 2, none⟩ (.int .i64 0)).setCell ⟨W0.heap.size, 3, none⟩ (.slice none 0 0)).setCell ⟨W0.heap.size, 4, none⟩ (.string ⟨#[]⟩)).cell? ⟨g, 0, none⟩ = some (.int .i64 a) ∧ (((((w4.setCell ⟨W0.heap.size, 0, none⟩ (.string ⟨#[]⟩)).setCell ⟨W0.heap.size, 1, none⟩ (.string ⟨#[]⟩)).setCell ⟨W0.heap.size, 2, none⟩ (.int .i64 0)).setCell ⟨W0.heap.size, 3, none⟩ (.slice none 0 0)).setCell ⟨W0.heap.size, 4, none⟩ (.string ⟨#[]⟩)).cell? ⟨g, 1, none⟩ = some (.int .i64 b) ∧ (((((w4.setCell ⟨W0.heap.size, 0, none⟩ (.string ⟨#[]⟩)).setCell ⟨W0.heap.size, 1, none⟩ (.string ⟨#[]⟩)).setCell ⟨W0.heap.size, 2, none⟩ (.int .i64 0)).setCell ⟨W0.heap.size, 3, none⟩ (.slice none 0 0)).setCell ⟨W0.heap.size, 4, none⟩ (.string ⟨#[]⟩)).cell? ⟨g, 2, none⟩ = some (.int .i64 c) ∧ (((((w4.setCell ⟨W0.heap.size, 0, none⟩ (.string ⟨#[]⟩)).setCell ⟨W0.heap.size, 1, none⟩ (.string ⟨#[]⟩)).setCell ⟨W0.heap.size, 2, none⟩ (.int .i64 0)).setCell ⟨W0.heap.size, 3, none⟩ (.slice none 0 0)).setCell ⟨W0.heap.size, 4, none⟩ (.string ⟨#[]⟩)).cell? ⟨g, 3, none⟩ = some (.string h)) := ⟨cell_of_row _ _ 0 _ _ _ HP4s.out, cell_of_row _ _ 1 _ _ _ HP4s.out, cell_of_row _ _ 2 _ _ _ HP4s.out, cell_of_row _ _ 3 _ _ _ HP4s.out⟩; clear hb4 hb4'))
  · have HTX : Hid ((w3.alloc (.cells #[.string ⟨#[]⟩, .string ⟨#[]⟩, .int .i64 0, .slice none 0 0, .string ⟨#[]⟩] 37)).heap[w.heap.size]? = some (.cells #[.string ⟨#[]⟩, .string ⟨#[]⟩, .int .i64 0, .slice none 0 0, .string ⟨#[]⟩] 37 (0, 0))) := heap_oldW _ HT3.out
    have HBX : Hid (Below w.heap.size w (w3.alloc (.cells #[.string ⟨#[]⟩, .string ⟨#[]⟩, .int .i64 0, .slice none 0 0, .string ⟨#[]⟩] 37))) := HB3.out.alloc HB3.out.size _
    clear c0 c1 c2 c3 c4
    generalize (w3.alloc (.cells #[.string ⟨#[]⟩, .string ⟨#[]⟩, .int .i64 0, .slice none 0 0, .string ⟨#[]⟩] 37)) = wx at HTX HBX ⊢
    have c0 := cell_of_row _ _ 0 _ _ _ HTX.out
    have c1 := cell_of_row _ _ 1 _ _ _ HTX.out
    have c2 := cell_of_row _ _ 2 _ _ _ HTX.out
    have c3 := cell_of_row _ _ 3 _ _ _ HTX.out
    have c4 := cell_of_row _ _ 4 _ _ _ HTX.out
    have z0 := frz2 HTX.out 0
    have z1 := frz2 HTX.out 1
    have z2 := frz2 HTX.out 2
    have z3 := frz2 HTX.out 3
    have z4 := frz2 HTX.out 4
    have HH := Lib.hid (set5 HTX.out (.string ⟨#[]⟩) (.string ⟨#[]⟩) (.int .i64 0) (.slice none 0 0) (.string ⟨#[]⟩))
    have HHB := Lib.hid (bel5 HBX.out (Nat.le_refl _) (.string ⟨#[]⟩) (.string ⟨#[]⟩) (.int .i64 0) (.slice none 0 0) (.string ⟨#[]⟩))
    go_wp2
    have d0 := cell_of_row _ _ 0 _ _ _ HH.out
    have d1 := cell_of_row _ _ 1 _ _ _ HH.out
    have d2 := cell_of_row _ _ 2 _ _ _ HH.out
    have d3 := cell_of_row _ _ 3 _ _ _ HH.out
    have d4 := cell_of_row _ _ 4 _ _ _ HH.out
    clear c0 c1 c2 c3 c4 z0 z1 z2 z3 z4
    (with_reducible refine bodyPost_ret (v := .tuple #[RQ0, .bool false]) (by simp [results, Tryz.results13, go_sem, d0, d1, d2, d3, d4]) rfl ⟨rfl, HHB.out⟩)
  · have HTX : Hid ((((((w4.setCell ⟨W0.heap.size, 0, none⟩ (.string ⟨#[]⟩)).setCell ⟨W0.heap.size, 1, none⟩ (.string ⟨#[]⟩)).setCell ⟨W0.heap.size, 2, none⟩ (.int .i64 0)).setCell ⟨W0.heap.size, 3, none⟩ (.slice none 0 0)).setCell ⟨W0.heap.size, 4, none⟩ (.string ⟨#[]⟩)).heap[w.heap.size]? = some (.cells #[.string ⟨#[]⟩, .string ⟨#[]⟩, .int .i64 0, .slice none 0 0, .string ⟨#[]⟩] 37 (0, 0))) := ne5 (g := W0.heap.size) HT4.out (Nat.ne_of_gt hz0) _ _ _ _ _
    have HBX : Hid (Below w.heap.size w (((((w4.setCell ⟨W0.heap.size, 0, none⟩ (.string ⟨#[]⟩)).setCell ⟨W0.heap.size, 1, none⟩ (.string ⟨#[]⟩)).setCell ⟨W0.heap.size, 2, none⟩ (.int .i64 0)).setCell ⟨W0.heap.size, 3, none⟩ (.slice none 0 0)).setCell ⟨W0.heap.size, 4, none⟩ (.string ⟨#[]⟩))) := bel5 HB4.out (Nat.le_of_lt hz0) _ _ _ _ _
    clear c0 c1 c2 c3 c4 n0 n1 n2 n3 n4 f0 f1 f2 f3 f4
    generalize (((((w4.setCell ⟨W0.heap.size, 0, none⟩ (.string ⟨#[]⟩)).setCell ⟨W0.heap.size, 1, none⟩ (.string ⟨#[]⟩)).setCell ⟨W0.heap.size, 2, none⟩ (.int .i64 0)).setCell ⟨W0.heap.size, 3, none⟩ (.slice none 0 0)).setCell ⟨W0.heap.size, 4, none⟩ (.string ⟨#[]⟩)) = wx at HTX HBX ⊢
    have c0 := cell_of_row _ _ 0 _ _ _ HTX.out
    have c1 := cell_of_row _ _ 1 _ _ _ HTX.out
    have c2 := cell_of_row _ _ 2 _ _ _ HTX.out
    have c3 := cell_of_row _ _ 3 _ _ _ HTX.out
    have c4 := cell_of_row _ _ 4 _ _ _ HTX.out
    have z0 := frz2 HTX.out 0
    have z1 := frz2 HTX.out 1
    have z2 := frz2 HTX.out 2
    have z3 := frz2 HTX.out 3
    have z4 := frz2 HTX.out 4
    have HH := Lib.hid (set5 HTX.out (.string ⟨#[]⟩) (.string ⟨#[]⟩) (.int .i64 0) (.slice none 0 0) (.string ⟨#[]⟩))
    have HHB := Lib.hid (bel5 HBX.out (Nat.le_refl _) (.string ⟨#[]⟩) (.string ⟨#[]⟩) (.int .i64 0) (.slice none 0 0) (.string ⟨#[]⟩))
    go_wp2
    have d0 := cell_of_row _ _ 0 _ _ _ HH.out
    have d1 := cell_of_row _ _ 1 _ _ _ HH.out
    have d2 := cell_of_row _ _ 2 _ _ _ HH.out
    have d3 := cell_of_row _ _ 3 _ _ _ HH.out
    have d4 := cell_of_row _ _ 4 _ _ _ HH.out
    clear c0 c1 c2 c3 c4 z0 z1 z2 z3 z4
    (with_reducible refine bodyPost_ret (v := .tuple #[RQ0, .bool false]) (by simp [results, Tryz.results13, go_sem, d0, d1, d2, d3, d4]) rfl ⟨rfl, HHB.out⟩)
end Go.Proofs.YtkblggpnghdnmaaGreatDoor.Hd
