/- The contract of package wire's Next at a head without fields and nothing behind it. -/
import Derived.Test.YtkblggpnghdnmaaGreatDoorWrFok
namespace Go.Proofs.YtkblggpnghdnmaaGreatDoor.Hd
open Go.RowKit Ch
set_option linter.unusedSimpArgs false
set_option linter.unusedVariables false

set_option maxRecDepth 100000 in
set_option maxHeartbeats 4000000 in
theorem nextW_ok (g : Nat) (a b c mn : Int) (h pm pt : ByteArray) (n : Nat) (hn : h.size = n) (hs : h.size ≤ 1000) (w : World) (hp : PB g a b c h 0 w)
    (HF : Hid (∀ W, Mx W → ErT W → Calls Tryz.prog 17 #[.string h, .agg #[.int .i64 a, .int .i64 b, .int .i64 c]] W fun e w' => ∃ ao cp, e = .returned (.tuple #[.agg #[.string pm, .string pt, .int .i64 mn, .slice ao 0 cp, .string ⟨#[]⟩], .int .i64 (n : Int), .int .i64 0]) ∧ Below W.heap.size W w')) (hM : Mx w) (hE : ErT w) :
    Calls Tryz.prog 13 #[.pointer (some ⟨g, 0, none⟩)] w fun e w' => ∃ ao cp, e = .returned (.tuple #[.agg #[.string pm, .string pt, .int .i64 mn, .slice ao 0 cp, .string ⟨#[]⟩], .bool true]) ∧ PB g a b c ⟨#[]⟩ 0 w' ∧ w.grownBy w' (some g) := by
  have HD : Hid (∃ W0, W0 = w.alloc (.cells #[.string ⟨#[]⟩, .string ⟨#[]⟩, .int .i64 0, .slice none 0 0, .string ⟨#[]⟩] 37) ∧ W0.heap[w.heap.size]? = some (.cells #[.string ⟨#[]⟩, .string ⟨#[]⟩, .int .i64 0, .slice none 0 0, .string ⟨#[]⟩] 37 (0, 0)) ∧ Below w.heap.size w W0) := ⟨_, rfl, heap_alloc_new w _, (Below.refl _ _).alloc (Nat.le_refl _) _⟩
  obtain ⟨W0, hW0, hT0, hB0⟩ := HD.out
  have HWE := Lib.hid hW0
  have HT0 := Lib.hid hT0
  have HB0 := Lib.hid hB0
  have HPW : Hid (PB g a b c h 0 W0.drew) := (hp.go hB0 : PB g a b c h 0 W0)
  have HM0 : Hid (Mx W0.drew) := (hM.go hB0 : Mx W0)
  have HE0 : Hid (ErT W0.drew) := (hE.go hB0 : ErT W0)
  have hz0 : w.heap.size < W0.heap.size := (Array.getElem?_eq_some_iff.1 hT0).1
  have HPX := Lib.hid (hp.go hB0)
  have c0 := cell_of_row _ _ 0 _ _ _ HPX.out
  have c1 := cell_of_row _ _ 1 _ _ _ HPX.out
  have c2 := cell_of_row _ _ 2 _ _ _ HPX.out
  have c3 := cell_of_row _ _ 3 _ _ _ HPX.out
  have c4 := cell_of_row _ _ 4 _ _ _ HPX.out
  have e4 := cell_of_row _ _ 4 _ _ _ hp
  have hq1 : g < w.heap.size := hp.lt
  have hq2 : g ≠ w.heap.size := by omega
  clear HD hW0 hT0 hB0 hM hE hp
  have HNN : Hid (h.size = n) := hn
  have HSS : Hid (h.size ≤ 1000) := hs
  have hn1 : (n : Int) ≤ (h.size : Int) := by omega
  have hn0 : (0 : Int) ≤ (n : Int) := by omega
  clear hn hs
  go_enter Tryz.func13, Tryz.ntmps13
  go_wp2_with fail
  rw [← HWE.out]
  clear e4
  have hMx0 : Mx W0 := HM0.out
  have hEr0 : ErT W0 := HE0.out
  have hg0 : g < W0.heap.size := by omega
  have hg0' : g ≠ W0.heap.size := by omega
  have hbB : Below W0.heap.size W0 (W0.alloc (.cells #[.string ⟨#[]⟩, .string ⟨#[]⟩, .int .i64 0, .slice none 0 0, .string ⟨#[]⟩] 37)) := (Below.refl _ _).alloc (Nat.le_refl _) _
  have HPB : Hid (PB g a b c h 0 (W0.alloc (.cells #[.string ⟨#[]⟩, .string ⟨#[]⟩, .int .i64 0, .slice none 0 0, .string ⟨#[]⟩] 37))) := HPX.out.go hbB
  have HMB : Hid (Mx (W0.alloc (.cells #[.string ⟨#[]⟩, .string ⟨#[]⟩, .int .i64 0, .slice none 0 0, .string ⟨#[]⟩] 37)).drew) := (hMx0.go hbB : Mx (W0.alloc (.cells #[.string ⟨#[]⟩, .string ⟨#[]⟩, .int .i64 0, .slice none 0 0, .string ⟨#[]⟩] 37)))
  have HEB : Hid (ErT (W0.alloc (.cells #[.string ⟨#[]⟩, .string ⟨#[]⟩, .int .i64 0, .slice none 0 0, .string ⟨#[]⟩] 37)).drew) := (hEr0.go hbB : ErT (W0.alloc (.cells #[.string ⟨#[]⟩, .string ⟨#[]⟩, .int .i64 0, .slice none 0 0, .string ⟨#[]⟩] 37)))
  have HTB : Hid ((W0.alloc (.cells #[.string ⟨#[]⟩, .string ⟨#[]⟩, .int .i64 0, .slice none 0 0, .string ⟨#[]⟩] 37)).heap[w.heap.size]? = some (.cells #[.string ⟨#[]⟩, .string ⟨#[]⟩, .int .i64 0, .slice none 0 0, .string ⟨#[]⟩] 37 (0, 0))) := heap_oldW _ HT0.out
  have HNB := Lib.hid (heap_alloc_new W0 (.cells #[.string ⟨#[]⟩, .string ⟨#[]⟩, .int .i64 0, .slice none 0 0, .string ⟨#[]⟩] 37))
  have hzB : (W0.alloc (.cells #[.string ⟨#[]⟩, .string ⟨#[]⟩, .int .i64 0, .slice none 0 0, .string ⟨#[]⟩] 37)).heap.size = W0.heap.size + 1 := by simp
  have HBB : Hid (Below w.heap.size w (W0.alloc (.cells #[.string ⟨#[]⟩, .string ⟨#[]⟩, .int .i64 0, .slice none 0 0, .string ⟨#[]⟩] 37))) := HB0.out.trans (hbB.mono (Nat.le_of_lt hz0))
  have HKA : Hid (W0.drew.cell? ⟨g, 0, none⟩ = some (.int .i64 a) ∧ W0.drew.cell? ⟨g, 1, none⟩ = some (.int .i64 b) ∧ W0.drew.cell? ⟨g, 2, none⟩ = some (.int .i64 c) ∧ W0.drew.cell? ⟨g, 3, none⟩ = some (.string h)) := ⟨cell_of_row _ _ 0 _ _ _ HPX.out, cell_of_row _ _ 1 _ _ _ HPX.out, cell_of_row _ _ 2 _ _ _ HPX.out, cell_of_row _ _ 3 _ _ _ HPX.out⟩
  have HKB : Hid ((W0.alloc (.cells #[.string ⟨#[]⟩, .string ⟨#[]⟩, .int .i64 0, .slice none 0 0, .string ⟨#[]⟩] 37)).drew.cell? ⟨g, 0, none⟩ = some (.int .i64 a) ∧ (W0.alloc (.cells #[.string ⟨#[]⟩, .string ⟨#[]⟩, .int .i64 0, .slice none 0 0, .string ⟨#[]⟩] 37)).drew.cell? ⟨g, 1, none⟩ = some (.int .i64 b) ∧ (W0.alloc (.cells #[.string ⟨#[]⟩, .string ⟨#[]⟩, .int .i64 0, .slice none 0 0, .string ⟨#[]⟩] 37)).drew.cell? ⟨g, 2, none⟩ = some (.int .i64 c) ∧ (W0.alloc (.cells #[.string ⟨#[]⟩, .string ⟨#[]⟩, .int .i64 0, .slice none 0 0, .string ⟨#[]⟩] 37)).drew.cell? ⟨g, 3, none⟩ = some (.string h)) := ⟨cell_of_row _ _ 0 _ _ _ HPB.out, cell_of_row _ _ 1 _ _ _ HPB.out, cell_of_row _ _ 2 _ _ _ HPB.out, cell_of_row _ _ 3 _ _ _ HPB.out⟩
  clear hbB hMx0 hEr0
  go_region_held3 (fun V => V.cell? ⟨g, 0, none⟩ = some (.int .i64 a) ∧ V.cell? ⟨g, 1, none⟩ = some (.int .i64 b) ∧ V.cell? ⟨g, 2, none⟩ = some (.int .i64 c) ∧ V.cell? ⟨g, 3, none⟩ = some (.string h))
    (first | (with_reducible exact HKA.out) | (with_reducible exact HKB.out) | (with_reducible exact HK3.out) | (with_reducible exact HK3a.out) | (with_reducible exact HK3r.out) | (with_reducible exact HK3s.out) | (with_reducible exact HK4.out) | (with_reducible exact HK4s.out))
    (first
      | (go_at_call 17; (with_reducible refine (HF.out W0.drew HM0.out HE0.out).mono ?_); rintro e w3 ⟨ao, cp, rfl, hb3⟩; have HP3 : Hid (PB g a b c h 0 w3) := HPW.out.go hb3; have HT3 : Hid (w3.heap[w.heap.size]? = some (.cells #[.string ⟨#[]⟩, .string ⟨#[]⟩, .int .i64 0, .slice none 0 0, .string ⟨#[]⟩] 37 (0, 0))) := (hb3.block _ hz0).trans HT0.out; have HB3 : Hid (Below w.heap.size w w3) := HB0.out.trans (Below.mono ⟨hb3.os, hb3.tape, hb3.output, hb3.size, hb3.block⟩ (Nat.le_of_lt hz0)); have HQ3 : Hid (PB g a b c h 0 (w3.alloc (.cells #[.string ⟨#[]⟩, .string ⟨#[]⟩, .int .i64 0, .slice none 0 0, .string ⟨#[]⟩] 37))) := heap_oldW _ HP3.out; have hg3 : g < w3.heap.size := HP3.out.lt; have hg3' : g ≠ w3.heap.size := Nat.ne_of_lt HP3.out.lt; have HK3 : Hid (w3.cell? ⟨g, 0, none⟩ = some (.int .i64 a) ∧ w3.cell? ⟨g, 1, none⟩ = some (.int .i64 b) ∧ w3.cell? ⟨g, 2, none⟩ = some (.int .i64 c) ∧ w3.cell? ⟨g, 3, none⟩ = some (.string h)) := ⟨cell_of_row _ _ 0 _ _ _ HP3.out, cell_of_row _ _ 1 _ _ _ HP3.out, cell_of_row _ _ 2 _ _ _ HP3.out, cell_of_row _ _ 3 _ _ _ HP3.out⟩; have HK3a : Hid ((w3.alloc (.cells #[.string ⟨#[]⟩, .string ⟨#[]⟩, .int .i64 0, .slice none 0 0, .string ⟨#[]⟩] 37)).cell? ⟨g, 0, none⟩ = some (.int .i64 a) ∧ (w3.alloc (.cells #[.string ⟨#[]⟩, .string ⟨#[]⟩, .int .i64 0, .slice none 0 0, .string ⟨#[]⟩] 37)).cell? ⟨g, 1, none⟩ = some (.int .i64 b) ∧ (w3.alloc (.cells #[.string ⟨#[]⟩, .string ⟨#[]⟩, .int .i64 0, .slice none 0 0, .string ⟨#[]⟩] 37)).cell? ⟨g, 2, none⟩ = some (.int .i64 c) ∧ (w3.alloc (.cells #[.string ⟨#[]⟩, .string ⟨#[]⟩, .int .i64 0, .slice none 0 0, .string ⟨#[]⟩] 37)).cell? ⟨g, 3, none⟩ = some (.string h)) := ⟨cell_of_row _ _ 0 _ _ _ HQ3.out, cell_of_row _ _ 1 _ _ _ HQ3.out, cell_of_row _ _ 2 _ _ _ HQ3.out, cell_of_row _ _ 3 _ _ _ HQ3.out⟩; have HQ3r : Hid (PB g a b c h 0 (w3.alloc (.cells #[.string pm, .string pt, .int .i64 mn, .slice ao 0 cp, .string ⟨#[]⟩] 37))) := heap_oldW _ HP3.out; have HK3r : Hid ((w3.alloc (.cells #[.string pm, .string pt, .int .i64 mn, .slice ao 0 cp, .string ⟨#[]⟩] 37)).cell? ⟨g, 0, none⟩ = some (.int .i64 a) ∧ (w3.alloc (.cells #[.string pm, .string pt, .int .i64 mn, .slice ao 0 cp, .string ⟨#[]⟩] 37)).cell? ⟨g, 1, none⟩ = some (.int .i64 b) ∧ (w3.alloc (.cells #[.string pm, .string pt, .int .i64 mn, .slice ao 0 cp, .string ⟨#[]⟩] 37)).cell? ⟨g, 2, none⟩ = some (.int .i64 c) ∧ (w3.alloc (.cells #[.string pm, .string pt, .int .i64 mn, .slice ao 0 cp, .string ⟨#[]⟩] 37)).cell? ⟨g, 3, none⟩ = some (.string h)) := ⟨cell_of_row _ _ 0 _ _ _ HQ3r.out, cell_of_row _ _ 1 _ _ _ HQ3r.out, cell_of_row _ _ 2 _ _ _ HQ3r.out, cell_of_row _ _ 3 _ _ _ HQ3r.out⟩; have HQ3s : Hid (PB g a b c h 0 ((((((w3.alloc (.cells #[.string ⟨#[]⟩, .string ⟨#[]⟩, .int .i64 0, .slice none 0 0, .string ⟨#[]⟩] 37)).setCell ⟨w3.heap.size, 0, none⟩ (.string pm)).setCell ⟨w3.heap.size, 1, none⟩ (.string pt)).setCell ⟨w3.heap.size, 2, none⟩ (.int .i64 mn)).setCell ⟨w3.heap.size, 3, none⟩ (.slice ao 0 cp)).setCell ⟨w3.heap.size, 4, none⟩ (.string ⟨#[]⟩))) := ne5 (g := w3.heap.size) HQ3.out (fun e => Nat.ne_of_lt HP3.out.lt e.symm) _ _ _ _ _; have HK3s : Hid (((((((w3.alloc (.cells #[.string ⟨#[]⟩, .string ⟨#[]⟩, .int .i64 0, .slice none 0 0, .string ⟨#[]⟩] 37)).setCell ⟨w3.heap.size, 0, none⟩ (.string pm)).setCell ⟨w3.heap.size, 1, none⟩ (.string pt)).setCell ⟨w3.heap.size, 2, none⟩ (.int .i64 mn)).setCell ⟨w3.heap.size, 3, none⟩ (.slice ao 0 cp)).setCell ⟨w3.heap.size, 4, none⟩ (.string ⟨#[]⟩)).cell? ⟨g, 0, none⟩ = some (.int .i64 a) ∧ ((((((w3.alloc (.cells #[.string ⟨#[]⟩, .string ⟨#[]⟩, .int .i64 0, .slice none 0 0, .string ⟨#[]⟩] 37)).setCell ⟨w3.heap.size, 0, none⟩ (.string pm)).setCell ⟨w3.heap.size, 1, none⟩ (.string pt)).setCell ⟨w3.heap.size, 2, none⟩ (.int .i64 mn)).setCell ⟨w3.heap.size, 3, none⟩ (.slice ao 0 cp)).setCell ⟨w3.heap.size, 4, none⟩ (.string ⟨#[]⟩)).cell? ⟨g, 1, none⟩ = some (.int .i64 b) ∧ ((((((w3.alloc (.cells #[.string ⟨#[]⟩, .string ⟨#[]⟩, .int .i64 0, .slice none 0 0, .string ⟨#[]⟩] 37)).setCell ⟨w3.heap.size, 0, none⟩ (.string pm)).setCell ⟨w3.heap.size, 1, none⟩ (.string pt)).setCell ⟨w3.heap.size, 2, none⟩ (.int .i64 mn)).setCell ⟨w3.heap.size, 3, none⟩ (.slice ao 0 cp)).setCell ⟨w3.heap.size, 4, none⟩ (.string ⟨#[]⟩)).cell? ⟨g, 2, none⟩ = some (.int .i64 c) ∧ ((((((w3.alloc (.cells #[.string ⟨#[]⟩, .string ⟨#[]⟩, .int .i64 0, .slice none 0 0, .string ⟨#[]⟩] 37)).setCell ⟨w3.heap.size, 0, none⟩ (.string pm)).setCell ⟨w3.heap.size, 1, none⟩ (.string pt)).setCell ⟨w3.heap.size, 2, none⟩ (.int .i64 mn)).setCell ⟨w3.heap.size, 3, none⟩ (.slice ao 0 cp)).setCell ⟨w3.heap.size, 4, none⟩ (.string ⟨#[]⟩)).cell? ⟨g, 3, none⟩ = some (.string h)) := ⟨cell_of_row _ _ 0 _ _ _ HQ3s.out, cell_of_row _ _ 1 _ _ _ HQ3s.out, cell_of_row _ _ 2 _ _ _ HQ3s.out, cell_of_row _ _ 3 _ _ _ HQ3s.out⟩; clear hb3)
      | (go_at_call 17; (with_reducible refine (HF.out (W0.alloc (.cells #[.string ⟨#[]⟩, .string ⟨#[]⟩, .int .i64 0, .slice none 0 0, .string ⟨#[]⟩] 37)).drew HMB.out HEB.out).mono ?_); rintro e w4 ⟨ao, cp, rfl, hb4⟩; have hb4' : Below (W0.alloc (.cells #[.string ⟨#[]⟩, .string ⟨#[]⟩, .int .i64 0, .slice none 0 0, .string ⟨#[]⟩] 37)).heap.size (W0.alloc (.cells #[.string ⟨#[]⟩, .string ⟨#[]⟩, .int .i64 0, .slice none 0 0, .string ⟨#[]⟩] 37)) w4 := ⟨hb4.os, hb4.tape, hb4.output, hb4.size, hb4.block⟩; have HP4 : Hid (PB g a b c h 0 w4) := HPB.out.go hb4'; have HT4 : Hid (w4.heap[w.heap.size]? = some (.cells #[.string ⟨#[]⟩, .string ⟨#[]⟩, .int .i64 0, .slice none 0 0, .string ⟨#[]⟩] 37 (0, 0))) := (hb4'.block _ (by rw [hzB]; omega)).trans HTB.out; have HN4 : Hid (w4.heap[W0.heap.size]? = some (.cells #[.string ⟨#[]⟩, .string ⟨#[]⟩, .int .i64 0, .slice none 0 0, .string ⟨#[]⟩] 37 (0, 0))) := (hb4'.block _ (by rw [hzB]; omega)).trans HNB.out; have HB4 : Hid (Below w.heap.size w w4) := HBB.out.trans (hb4'.mono HBB.out.size); have n0 := cell_of_row _ _ 0 _ _ _ HN4.out; have n1 := cell_of_row _ _ 1 _ _ _ HN4.out; have n2 := cell_of_row _ _ 2 _ _ _ HN4.out; have n3 := cell_of_row _ _ 3 _ _ _ HN4.out; have n4 := cell_of_row _ _ 4 _ _ _ HN4.out; have f0 := frz2 HN4.out 0; have f1 := frz2 HN4.out 1; have f2 := frz2 HN4.out 2; have f3 := frz2 HN4.out 3; have f4 := frz2 HN4.out 4; have HK4 : Hid (w4.cell? ⟨g, 0, none⟩ = some (.int .i64 a) ∧ w4.cell? ⟨g, 1, none⟩ = some (.int .i64 b) ∧ w4.cell? ⟨g, 2, none⟩ = some (.int .i64 c) ∧ w4.cell? ⟨g, 3, none⟩ = some (.string h)) := ⟨cell_of_row _ _ 0 _ _ _ HP4.out, cell_of_row _ _ 1 _ _ _ HP4.out, cell_of_row _ _ 2 _ _ _ HP4.out, cell_of_row _ _ 3 _ _ _ HP4.out⟩; have HP4s : Hid (PB g a b c h 0 (((((w4.setCell ⟨W0.heap.size, 0, none⟩ (.string pm)).setCell ⟨W0.heap.size, 1, none⟩ (.string pt)).setCell ⟨W0.heap.size, 2, none⟩ (.int .i64 mn)).setCell ⟨W0.heap.size, 3, none⟩ (.slice ao 0 cp)).setCell ⟨W0.heap.size, 4, none⟩ (.string ⟨#[]⟩))) := ne5 (g := W0.heap.size) HP4.out (fun e => hg0' e.symm) _ _ _ _ _; have HK4s : Hid ((((((w4.setCell ⟨W0.heap.size, 0, none⟩ (.string pm)).setCell ⟨W0.heap.size, 1, none⟩ (.string pt)).setCell ⟨W0.heap.size, 2, none⟩ (.int .i64 mn)).setCell ⟨W0.heap.size, 3, none⟩ (.slice ao 0 cp)).setCell ⟨W0.heap.size, 4, none⟩ (.string ⟨#[]⟩)).cell? ⟨g, 0, none⟩ = some (.int .i64 a) ∧ (((((w4.setCell ⟨W0.heap.size, 0, none⟩ (.string pm)).setCell ⟨W0.heap.size, 1, none⟩ (.string pt)).setCell ⟨W0.heap.size, 2, none⟩ (.int .i64 mn)).setCell ⟨W0.heap.size, 3, none⟩ (.slice ao 0 cp)).setCell ⟨W0.heap.size, 4, none⟩ (.string ⟨#[]⟩)).cell? ⟨g, 1, none⟩ = some (.int .i64 b) ∧ (((((w4.setCell ⟨W0.heap.size, 0, none⟩ (.string pm)).setCell ⟨W0.heap.size, 1, none⟩ (.string pt)).setCell ⟨W0.heap.size, 2, none⟩ (.int .i64 mn)).setCell ⟨W0.heap.size, 3, none⟩ (.slice ao 0 cp)).setCell ⟨W0.heap.size, 4, none⟩ (.string ⟨#[]⟩)).cell? ⟨g, 2, none⟩ = some (.int .i64 c) ∧ (((((w4.setCell ⟨W0.heap.size, 0, none⟩ (.string pm)).setCell ⟨W0.heap.size, 1, none⟩ (.string pt)).setCell ⟨W0.heap.size, 2, none⟩ (.int .i64 mn)).setCell ⟨W0.heap.size, 3, none⟩ (.slice ao 0 cp)).setCell ⟨W0.heap.size, 4, none⟩ (.string ⟨#[]⟩)).cell? ⟨g, 3, none⟩ = some (.string h)) := ⟨cell_of_row _ _ 0 _ _ _ HP4s.out, cell_of_row _ _ 1 _ _ _ HP4s.out, cell_of_row _ _ 2 _ _ _ HP4s.out, cell_of_row _ _ 3 _ _ _ HP4s.out⟩; clear hb4 hb4'))
  · have HTX : Hid ((w3.alloc (.cells #[.string pm, .string pt, .int .i64 mn, .slice ao 0 cp, .string ⟨#[]⟩] 37)).heap[w.heap.size]? = some (.cells #[.string ⟨#[]⟩, .string ⟨#[]⟩, .int .i64 0, .slice none 0 0, .string ⟨#[]⟩] 37 (0, 0))) := heap_oldW _ HT3.out
    have HBX : Hid (Below w.heap.size w (w3.alloc (.cells #[.string pm, .string pt, .int .i64 mn, .slice ao 0 cp, .string ⟨#[]⟩] 37))) := HB3.out.alloc HB3.out.size _
    have HRX : Hid ((w3.alloc (.cells #[.string pm, .string pt, .int .i64 mn, .slice ao 0 cp, .string ⟨#[]⟩] 37)).heap[w3.heap.size]? = some (.cells #[.string pm, .string pt, .int .i64 mn, .slice ao 0 cp, .string ⟨#[]⟩] 37 (0, 0))) := heap_alloc_new w3 _
    have HPX2 : Hid (PB g a b c h 0 (w3.alloc (.cells #[.string pm, .string pt, .int .i64 mn, .slice ao 0 cp, .string ⟨#[]⟩] 37))) := HQ3r.out
    have hlw : w.heap.size < w3.heap.size := (Array.getElem?_eq_some_iff.1 HT3.out).1
    clear c0 c1 c2 c3 c4
    generalize (w3.alloc (.cells #[.string pm, .string pt, .int .i64 mn, .slice ao 0 cp, .string ⟨#[]⟩] 37)) = wx at HTX HBX HRX HPX2 ⊢
    generalize hrb : w3.heap.size = rb at HRX hlw ⊢
    have hrn : w.heap.size ≠ rb := by omega
    have hgr : g ≠ rb := by omega
    clear hrb
    have x3 := cell_of_row _ _ 3 _ _ _ HPX2.out
    have y3 := frz2 HPX2.out 3
    have r0 := cell_of_row _ _ 0 _ _ _ HRX.out
    have r1 := cell_of_row _ _ 1 _ _ _ HRX.out
    have r2 := cell_of_row _ _ 2 _ _ _ HRX.out
    have r3 := cell_of_row _ _ 3 _ _ _ HRX.out
    have r4 := cell_of_row _ _ 4 _ _ _ HRX.out
    have t0 := cell_of_row _ _ 0 _ _ _ HTX.out
    have t1 := cell_of_row _ _ 1 _ _ _ HTX.out
    have t2 := cell_of_row _ _ 2 _ _ _ HTX.out
    have t3 := cell_of_row _ _ 3 _ _ _ HTX.out
    have t4 := cell_of_row _ _ 4 _ _ _ HTX.out
    have z0 := frz2 HTX.out 0
    have z1 := frz2 HTX.out 1
    have z2 := frz2 HTX.out 2
    have z3 := frz2 HTX.out 3
    have z4 := frz2 HTX.out 4
    have HTY : Hid ((wx.setCell ⟨g, 3, none⟩ (.string (h.extract n h.size))).heap[w.heap.size]? = some (.cells #[.string ⟨#[]⟩, .string ⟨#[]⟩, .int .i64 0, .slice none 0 0, .string ⟨#[]⟩] 37 (0, 0))) := set_ne HTX.out hq2 3 _
    have HPY : Hid (PB g a b c (h.extract n h.size) 0 (wx.setCell ⟨g, 3, none⟩ (.string (h.extract n h.size)))) := by
      have := blk_set HPX2.out 3 (.string (h.extract n h.size))
      show (wx.setCell ⟨g, 3, none⟩ (.string (h.extract n h.size))).heap[g]? = _
      simpa using this
    have HH := Lib.hid (set5 HTY.out (.string pm) (.string pt) (.int .i64 mn) (.slice ao 0 cp) (.string ⟨#[]⟩))
    have HPZ : Hid (PB g a b c (h.extract n h.size) 0 ((((((wx.setCell ⟨g, 3, none⟩ (.string (h.extract n h.size))).setCell ⟨w.heap.size, 0, none⟩ (.string pm)).setCell ⟨w.heap.size, 1, none⟩ (.string pt)).setCell ⟨w.heap.size, 2, none⟩ (.int .i64 mn)).setCell ⟨w.heap.size, 3, none⟩ (.slice ao 0 cp)).setCell ⟨w.heap.size, 4, none⟩ (.string ⟨#[]⟩))) := ne5 (g := w.heap.size) HPY.out (fun e => hq2 e.symm) _ _ _ _ _
    have hee : h.extract n h.size = ⟨#[]⟩ := by rw [extN, ← HNN.out, List.drop_of_length_le (by rw [← Lib.size_eq]; exact Nat.le_refl _)]; rfl
    have HPF : Hid (PB g a b c ⟨#[]⟩ 0 ((((((wx.setCell ⟨g, 3, none⟩ (.string (h.extract n h.size))).setCell ⟨w.heap.size, 0, none⟩ (.string pm)).setCell ⟨w.heap.size, 1, none⟩ (.string pt)).setCell ⟨w.heap.size, 2, none⟩ (.int .i64 mn)).setCell ⟨w.heap.size, 3, none⟩ (.slice ao 0 cp)).setCell ⟨w.heap.size, 4, none⟩ (.string ⟨#[]⟩))) := Eq.mp (congrArg (fun q => PB g a b c q 0 ((((((wx.setCell ⟨g, 3, none⟩ (.string (h.extract n h.size))).setCell ⟨w.heap.size, 0, none⟩ (.string pm)).setCell ⟨w.heap.size, 1, none⟩ (.string pt)).setCell ⟨w.heap.size, 2, none⟩ (.int .i64 mn)).setCell ⟨w.heap.size, 3, none⟩ (.slice ao 0 cp)).setCell ⟨w.heap.size, 4, none⟩ (.string ⟨#[]⟩))) hee) HPZ.out
    have HG1 : Hid (w.grownBy (wx.setCell ⟨g, 3, none⟩ (.string (h.extract n h.size))) (some g)) := gb_trans (gb_below HBX.out) (gb_set wx g 3 _)
    have HB5 : Hid (Below w.heap.size (wx.setCell ⟨g, 3, none⟩ (.string (h.extract n h.size))) ((((((wx.setCell ⟨g, 3, none⟩ (.string (h.extract n h.size))).setCell ⟨w.heap.size, 0, none⟩ (.string pm)).setCell ⟨w.heap.size, 1, none⟩ (.string pt)).setCell ⟨w.heap.size, 2, none⟩ (.int .i64 mn)).setCell ⟨w.heap.size, 3, none⟩ (.slice ao 0 cp)).setCell ⟨w.heap.size, 4, none⟩ (.string ⟨#[]⟩))) := bel5 (Below.refl _ _) (Nat.le_refl _) (.string pm) (.string pt) (.int .i64 mn) (.slice ao 0 cp) (.string ⟨#[]⟩)
    have HGX : Hid (w.grownBy ((((((wx.setCell ⟨g, 3, none⟩ (.string (h.extract n h.size))).setCell ⟨w.heap.size, 0, none⟩ (.string pm)).setCell ⟨w.heap.size, 1, none⟩ (.string pt)).setCell ⟨w.heap.size, 2, none⟩ (.int .i64 mn)).setCell ⟨w.heap.size, 3, none⟩ (.slice ao 0 cp)).setCell ⟨w.heap.size, 4, none⟩ (.string ⟨#[]⟩)) (some g)) := ⟨HB5.out.os.trans HG1.out.os, HB5.out.tape.trans HG1.out.tape, HB5.out.output.trans HG1.out.output, Nat.le_trans HG1.out.size HB5.out.size, fun k hk hr => (HB5.out.block k hk).trans (HG1.out.block k hk hr)⟩
    clear hee HG1 HB5 HPZ
    go_wp2
    have d0 := cell_of_row _ _ 0 _ _ _ HH.out
    have d1 := cell_of_row _ _ 1 _ _ _ HH.out
    have d2 := cell_of_row _ _ 2 _ _ _ HH.out
    have d3 := cell_of_row _ _ 3 _ _ _ HH.out
    have d4 := cell_of_row _ _ 4 _ _ _ HH.out
    clear x3 y3 r0 r1 r2 r3 r4 t0 t1 t2 t3 t4 z0 z1 z2 z3 z4
    (with_reducible refine bodyPost_ret (v := .tuple #[.agg #[.string pm, .string pt, .int .i64 mn, .slice ao 0 cp, .string ⟨#[]⟩], .bool true]) (by simp [results, Tryz.results13, go_sem, d0, d1, d2, d3, d4]) rfl ⟨ao, cp, rfl, HPF.out, HGX.out⟩)
  · have HTX : Hid ((((((w4.setCell ⟨W0.heap.size, 0, none⟩ (.string pm)).setCell ⟨W0.heap.size, 1, none⟩ (.string pt)).setCell ⟨W0.heap.size, 2, none⟩ (.int .i64 mn)).setCell ⟨W0.heap.size, 3, none⟩ (.slice ao 0 cp)).setCell ⟨W0.heap.size, 4, none⟩ (.string ⟨#[]⟩)).heap[w.heap.size]? = some (.cells #[.string ⟨#[]⟩, .string ⟨#[]⟩, .int .i64 0, .slice none 0 0, .string ⟨#[]⟩] 37 (0, 0))) := ne5 (g := W0.heap.size) HT4.out (Nat.ne_of_gt hz0) _ _ _ _ _
    have HBX : Hid (Below w.heap.size w (((((w4.setCell ⟨W0.heap.size, 0, none⟩ (.string pm)).setCell ⟨W0.heap.size, 1, none⟩ (.string pt)).setCell ⟨W0.heap.size, 2, none⟩ (.int .i64 mn)).setCell ⟨W0.heap.size, 3, none⟩ (.slice ao 0 cp)).setCell ⟨W0.heap.size, 4, none⟩ (.string ⟨#[]⟩))) := bel5 HB4.out (Nat.le_of_lt hz0) _ _ _ _ _
    have HRX : Hid ((((((w4.setCell ⟨W0.heap.size, 0, none⟩ (.string pm)).setCell ⟨W0.heap.size, 1, none⟩ (.string pt)).setCell ⟨W0.heap.size, 2, none⟩ (.int .i64 mn)).setCell ⟨W0.heap.size, 3, none⟩ (.slice ao 0 cp)).setCell ⟨W0.heap.size, 4, none⟩ (.string ⟨#[]⟩)).heap[W0.heap.size]? = some (.cells #[.string pm, .string pt, .int .i64 mn, .slice ao 0 cp, .string ⟨#[]⟩] 37 (0, 0))) := set5 HN4.out _ _ _ _ _
    have HPX2 : Hid (PB g a b c h 0 (((((w4.setCell ⟨W0.heap.size, 0, none⟩ (.string pm)).setCell ⟨W0.heap.size, 1, none⟩ (.string pt)).setCell ⟨W0.heap.size, 2, none⟩ (.int .i64 mn)).setCell ⟨W0.heap.size, 3, none⟩ (.slice ao 0 cp)).setCell ⟨W0.heap.size, 4, none⟩ (.string ⟨#[]⟩))) := HP4s.out
    have hlw : w.heap.size < W0.heap.size := hz0
    clear c0 c1 c2 c3 c4 n0 n1 n2 n3 n4 f0 f1 f2 f3 f4
    generalize (((((w4.setCell ⟨W0.heap.size, 0, none⟩ (.string pm)).setCell ⟨W0.heap.size, 1, none⟩ (.string pt)).setCell ⟨W0.heap.size, 2, none⟩ (.int .i64 mn)).setCell ⟨W0.heap.size, 3, none⟩ (.slice ao 0 cp)).setCell ⟨W0.heap.size, 4, none⟩ (.string ⟨#[]⟩)) = wx at HTX HBX HRX HPX2 ⊢
    generalize hrb : W0.heap.size = rb at HRX hlw ⊢
    have hrn : w.heap.size ≠ rb := by omega
    have hgr : g ≠ rb := by omega
    clear hrb
    have x3 := cell_of_row _ _ 3 _ _ _ HPX2.out
    have y3 := frz2 HPX2.out 3
    have r0 := cell_of_row _ _ 0 _ _ _ HRX.out
    have r1 := cell_of_row _ _ 1 _ _ _ HRX.out
    have r2 := cell_of_row _ _ 2 _ _ _ HRX.out
    have r3 := cell_of_row _ _ 3 _ _ _ HRX.out
    have r4 := cell_of_row _ _ 4 _ _ _ HRX.out
    have t0 := cell_of_row _ _ 0 _ _ _ HTX.out
    have t1 := cell_of_row _ _ 1 _ _ _ HTX.out
    have t2 := cell_of_row _ _ 2 _ _ _ HTX.out
    have t3 := cell_of_row _ _ 3 _ _ _ HTX.out
    have t4 := cell_of_row _ _ 4 _ _ _ HTX.out
    have z0 := frz2 HTX.out 0
    have z1 := frz2 HTX.out 1
    have z2 := frz2 HTX.out 2
    have z3 := frz2 HTX.out 3
    have z4 := frz2 HTX.out 4
    have HTY : Hid ((wx.setCell ⟨g, 3, none⟩ (.string (h.extract n h.size))).heap[w.heap.size]? = some (.cells #[.string ⟨#[]⟩, .string ⟨#[]⟩, .int .i64 0, .slice none 0 0, .string ⟨#[]⟩] 37 (0, 0))) := set_ne HTX.out hq2 3 _
    have HPY : Hid (PB g a b c (h.extract n h.size) 0 (wx.setCell ⟨g, 3, none⟩ (.string (h.extract n h.size)))) := by
      have := blk_set HPX2.out 3 (.string (h.extract n h.size))
      show (wx.setCell ⟨g, 3, none⟩ (.string (h.extract n h.size))).heap[g]? = _
      simpa using this
    have HH := Lib.hid (set5 HTY.out (.string pm) (.string pt) (.int .i64 mn) (.slice ao 0 cp) (.string ⟨#[]⟩))
    have HPZ : Hid (PB g a b c (h.extract n h.size) 0 ((((((wx.setCell ⟨g, 3, none⟩ (.string (h.extract n h.size))).setCell ⟨w.heap.size, 0, none⟩ (.string pm)).setCell ⟨w.heap.size, 1, none⟩ (.string pt)).setCell ⟨w.heap.size, 2, none⟩ (.int .i64 mn)).setCell ⟨w.heap.size, 3, none⟩ (.slice ao 0 cp)).setCell ⟨w.heap.size, 4, none⟩ (.string ⟨#[]⟩))) := ne5 (g := w.heap.size) HPY.out (fun e => hq2 e.symm) _ _ _ _ _
    have hee : h.extract n h.size = ⟨#[]⟩ := by rw [extN, ← HNN.out, List.drop_of_length_le (by rw [← Lib.size_eq]; exact Nat.le_refl _)]; rfl
    have HPF : Hid (PB g a b c ⟨#[]⟩ 0 ((((((wx.setCell ⟨g, 3, none⟩ (.string (h.extract n h.size))).setCell ⟨w.heap.size, 0, none⟩ (.string pm)).setCell ⟨w.heap.size, 1, none⟩ (.string pt)).setCell ⟨w.heap.size, 2, none⟩ (.int .i64 mn)).setCell ⟨w.heap.size, 3, none⟩ (.slice ao 0 cp)).setCell ⟨w.heap.size, 4, none⟩ (.string ⟨#[]⟩))) := Eq.mp (congrArg (fun q => PB g a b c q 0 ((((((wx.setCell ⟨g, 3, none⟩ (.string (h.extract n h.size))).setCell ⟨w.heap.size, 0, none⟩ (.string pm)).setCell ⟨w.heap.size, 1, none⟩ (.string pt)).setCell ⟨w.heap.size, 2, none⟩ (.int .i64 mn)).setCell ⟨w.heap.size, 3, none⟩ (.slice ao 0 cp)).setCell ⟨w.heap.size, 4, none⟩ (.string ⟨#[]⟩))) hee) HPZ.out
    have HG1 : Hid (w.grownBy (wx.setCell ⟨g, 3, none⟩ (.string (h.extract n h.size))) (some g)) := gb_trans (gb_below HBX.out) (gb_set wx g 3 _)
    have HB5 : Hid (Below w.heap.size (wx.setCell ⟨g, 3, none⟩ (.string (h.extract n h.size))) ((((((wx.setCell ⟨g, 3, none⟩ (.string (h.extract n h.size))).setCell ⟨w.heap.size, 0, none⟩ (.string pm)).setCell ⟨w.heap.size, 1, none⟩ (.string pt)).setCell ⟨w.heap.size, 2, none⟩ (.int .i64 mn)).setCell ⟨w.heap.size, 3, none⟩ (.slice ao 0 cp)).setCell ⟨w.heap.size, 4, none⟩ (.string ⟨#[]⟩))) := bel5 (Below.refl _ _) (Nat.le_refl _) (.string pm) (.string pt) (.int .i64 mn) (.slice ao 0 cp) (.string ⟨#[]⟩)
    have HGX : Hid (w.grownBy ((((((wx.setCell ⟨g, 3, none⟩ (.string (h.extract n h.size))).setCell ⟨w.heap.size, 0, none⟩ (.string pm)).setCell ⟨w.heap.size, 1, none⟩ (.string pt)).setCell ⟨w.heap.size, 2, none⟩ (.int .i64 mn)).setCell ⟨w.heap.size, 3, none⟩ (.slice ao 0 cp)).setCell ⟨w.heap.size, 4, none⟩ (.string ⟨#[]⟩)) (some g)) := ⟨HB5.out.os.trans HG1.out.os, HB5.out.tape.trans HG1.out.tape, HB5.out.output.trans HG1.out.output, Nat.le_trans HG1.out.size HB5.out.size, fun k hk hr => (HB5.out.block k hk).trans (HG1.out.block k hk hr)⟩
    clear hee HG1 HB5 HPZ
    go_wp2
    have d0 := cell_of_row _ _ 0 _ _ _ HH.out
    have d1 := cell_of_row _ _ 1 _ _ _ HH.out
    have d2 := cell_of_row _ _ 2 _ _ _ HH.out
    have d3 := cell_of_row _ _ 3 _ _ _ HH.out
    have d4 := cell_of_row _ _ 4 _ _ _ HH.out
    clear x3 y3 r0 r1 r2 r3 r4 t0 t1 t2 t3 t4 z0 z1 z2 z3 z4
    (with_reducible refine bodyPost_ret (v := .tuple #[.agg #[.string pm, .string pt, .int .i64 mn, .slice ao 0 cp, .string ⟨#[]⟩], .bool true]) (by simp [results, Tryz.results13, go_sem, d0, d1, d2, d3, d4]) rfl ⟨ao, cp, rfl, HPF.out, HGX.out⟩)
end Go.Proofs.YtkblggpnghdnmaaGreatDoor.Hd
