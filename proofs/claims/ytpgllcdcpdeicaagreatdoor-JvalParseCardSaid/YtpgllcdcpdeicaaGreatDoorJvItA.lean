/- Contract of package jval's item, way by way: a list's. -/
import Derived.Test.YtpgllcdcpdeicaaGreatDoorJvGc
namespace Go.Proofs.YtpgllcdcpdeicaaGreatDoor.Jv
open Jt
open Go.RowKit Go.ChangeMaps Go.MapKept Go.WideMaps
set_option linter.unusedSimpArgs false
set_option linter.unusedVariables false

set_option maxRecDepth 100000 in
set_option maxHeartbeats 16000000 in
theorem item_1 (g pb : Nat) (room k ta tb tn : Int) (tx : ByteArray) (vi : Value) (p x : Int) (w : World) (hgl : g < w.heap.size) (hpg : pb ≠ g) (hP : w.heap[pb]? = some (obP 4 vi (.slice none 0 0) 4 (.map none) room))
    (PV : World → World → List Value → Prop)
    (HV : Hid (∀ V, Grw (fun j => w.heap.size ≤ j) w V → V.heap.size = w.heap.size + 2 → V.heap[w.heap.size]? = some (obT k ta tb tx tn) → Calls Tryz.prog 17 #[.pointer (some ⟨g, 0, none⟩), .agg #[.int .i64 k, .int .i64 ta, .int .i64 tb, .string tx, .int .i64 tn], .int .i64 room] V fun e w' => ∃ xk xb xn xt xo xl xq yo yl yq, e = .returned (.tuple #[.agg #[.int .i64 xk, .bool xb, .int .i64 xn, .string xt, .slice xo xl xq, .slice yo yl yq], .iface 45 (.agg #[.int .i64 p, .int .i64 x])]) ∧ V.grownBy w' (some g) ∧ PV V w' (c6 xk xb xn xt xo xl xq yo yl yq))) :
    Calls Tryz.prog 50 #[.pointer (some ⟨g, 0, none⟩), .pointer (some ⟨pb, 0, none⟩), .agg #[.int .i64 k, .int .i64 ta, .int .i64 tb, .string tx, .int .i64 tn]] w fun e w' => e = .returned (.iface 45 (.agg #[.int .i64 p, .int .i64 x])) ∧ ∃ V w2 l, Grw (fun j => w.heap.size ≤ j) w V ∧ V.grownBy w2 (some g) ∧ PV V w2 l ∧ Grw (fun j => j = w.heap.size + 1) w2 w' := by
  obtain ⟨W0, hW0, hk0, hr0, hb0, hz0⟩ := two_it w k ta tb tx tn
  have hpl : pb < w.heap.size := (Array.getElem?_eq_some_iff.1 hP).1
  have HW0 := Lib.hid hW0
  have HK0 := Lib.hid hk0
  have HR0 := Lib.hid hr0
  have HB0 := Lib.hid hb0
  have HP0 : Hid (W0.heap[pb]? = some (obP 4 vi (.slice none 0 0) 4 (.map none) room)) := (hb0.block _ hpl).trans hP
  have HGL : Hid (g < w.heap.size ∧ pb ≠ g) := ⟨hgl, hpg⟩
  clear hW0 hk0 hr0 hb0 hP hgl hpg
  go_enter Tryz.func50, Tryz.ntmps50
  go_upto_region 3 with (fail)
  rw [← HW0.out]
  have c0 := cell_of_row _ _ 0 _ _ _ HP0.out
  go_upto_region 9 with (fail)
  clear c0
  have HG0 : Hid (Grw (fun j => w.heap.size ≤ j) w W0) := Grw.of_below HB0.out (fun k h1 h2 => h1)
  have HKS : Hid (∀ V : World, V.heap[w.heap.size]? = some (obT k ta tb tx tn) → V.heap[pb]? = some (obP 4 vi (.slice none 0 0) 4 (.map none) room) → V.cell? ⟨w.heap.size, 0, none⟩ = some (.int .i64 k) ∧ V.cell? ⟨w.heap.size, 1, none⟩ = some (.int .i64 ta) ∧ V.cell? ⟨w.heap.size, 2, none⟩ = some (.int .i64 tb) ∧ V.cell? ⟨w.heap.size, 3, none⟩ = some (.string tx) ∧ V.cell? ⟨w.heap.size, 4, none⟩ = some (.int .i64 tn) ∧ V.cell? ⟨pb, 8, none⟩ = some (.int .i64 room)) := by
    intro V h1 h2
    obtain ⟨a0, a1, a2, a3, a4⟩ := cells5 h1
    exact Lib.hid ⟨a0, a1, a2, a3, a4, cell_of_row _ _ 8 _ _ _ h2⟩
  have HSA : Hid (W0.cell? ⟨w.heap.size, 0, none⟩ = some (.int .i64 k) ∧ W0.cell? ⟨w.heap.size, 1, none⟩ = some (.int .i64 ta) ∧ W0.cell? ⟨w.heap.size, 2, none⟩ = some (.int .i64 tb) ∧ W0.cell? ⟨w.heap.size, 3, none⟩ = some (.string tx) ∧ W0.cell? ⟨w.heap.size, 4, none⟩ = some (.int .i64 tn) ∧ W0.cell? ⟨pb, 8, none⟩ = some (.int .i64 room)) := HKS.out W0 HK0.out HP0.out
  have HSD : Hid (W0.drew.cell? ⟨w.heap.size, 0, none⟩ = some (.int .i64 k) ∧ W0.drew.cell? ⟨w.heap.size, 1, none⟩ = some (.int .i64 ta) ∧ W0.drew.cell? ⟨w.heap.size, 2, none⟩ = some (.int .i64 tb) ∧ W0.drew.cell? ⟨w.heap.size, 3, none⟩ = some (.string tx) ∧ W0.drew.cell? ⟨w.heap.size, 4, none⟩ = some (.int .i64 tn) ∧ W0.drew.cell? ⟨pb, 8, none⟩ = some (.int .i64 room)) := HKS.out W0.drew HK0.out HP0.out
  have HGD : Hid (Grw (fun j => w.heap.size ≤ j) w W0.drew) := (HG0.out : Grw (fun j => w.heap.size ≤ j) w W0)
  have hzD : W0.drew.heap.size = w.heap.size + 2 := hz0
  have HKD : Hid (W0.drew.heap[w.heap.size]? = some (obT k ta tb tx tn)) := HK0.out
  go_region_held3 (fun V => V.cell? ⟨w.heap.size, 0, none⟩ = some (.int .i64 k) ∧ V.cell? ⟨w.heap.size, 1, none⟩ = some (.int .i64 ta) ∧ V.cell? ⟨w.heap.size, 2, none⟩ = some (.int .i64 tb) ∧ V.cell? ⟨w.heap.size, 3, none⟩ = some (.string tx) ∧ V.cell? ⟨w.heap.size, 4, none⟩ = some (.int .i64 tn) ∧ V.cell? ⟨pb, 8, none⟩ = some (.int .i64 room))
    (first | (with_reducible exact HSD.out) | (with_reducible exact HS2.out) | (with_reducible exact HS3.out))
    ((go_at_call 17; (with_reducible refine (HV.out W0.drew HGD.out hzD HKD.out).mono ?_); rintro e w2 ⟨xk, xb, xn, xt, xo, xl, xq, yo, yl, yq, rfl, hg2, hp2⟩; have HP2 := Lib.hid hp2; have HG2D : Hid (W0.drew.grownBy w2 (some g)) := hg2; have HG2 : Hid (W0.grownBy w2 (some g)) := ⟨hg2.os, hg2.tape, hg2.output, hg2.size, hg2.block⟩; have HT2 : Hid (w2.heap[w.heap.size]? = some (obT k ta tb tx tn)) := (HG2.out.block _ (by omega) (fun e => by injection e with e; have := HGL.out; omega)).trans HK0.out; have HR2 : Hid (w2.heap[w.heap.size + 1]? = some (obV 0 false 0 ⟨#[]⟩ none 0 0 none 0 0)) := (HG2.out.block _ (by omega) (fun e => by injection e with e; have := HGL.out; omega)).trans HR0.out; have HQ2 : Hid (w2.heap[pb]? = some (obP 4 vi (.slice none 0 0) 4 (.map none) room)) := (HG2.out.block _ (by omega) (fun e => by injection e with e; have := HGL.out; omega)).trans HP0.out; have HS2 := Lib.hid (HKS.out w2 HT2.out HQ2.out); have gx := gr_set6 w2 (w.heap.size + 1) (.int .i64 xk) (.bool xb) (.int .i64 xn) (.string xt) (.slice xo xl xq) (.slice yo yl yq); have HS3 := Lib.hid (HKS.out _ ((gx.block (Array.getElem?_eq_some_iff.1 HT2.out).1 (by omega)).trans HT2.out) ((gx.block (Array.getElem?_eq_some_iff.1 HQ2.out).1 (by omega)).trans HQ2.out)); obtain ⟨b0, b1, b2, b3, b4, b5⟩ := cells6 HR2.out; have e0 := frz HR2.out 0; have e1 := frz HR2.out 1; have e2 := frz HR2.out 2; have e3 := frz HR2.out 3; have e4 := frz HR2.out 4; have e5 := frz HR2.out 5; clear hg2 hp2 gx))
  clear b0 b1 b2 b3 b4 b5 e0 e1 e2 e3 e4 e5 HS2 HS3 HSA HSD HKS
  have HZ := Lib.hid (gr_set6 w2 (w.heap.size + 1) (.int .i64 xk) (.bool xb) (.int .i64 xn) (.string xt) (.slice xo xl xq) (.slice yo yl yq))
  have nF := neF p x
  go_wp2_with fail
  go_ret
  exact ⟨rfl, W0.drew, w2, _, HGD.out, HG2D.out, HP2.out, HZ.out⟩
set_option synthInstance.maxHeartbeats 20000 in
set_option maxRecDepth 100000 in
set_option maxHeartbeats 16000000 in
theorem item_2 (g pb : Nat) (room k ta tb tn : Int) (tx : ByteArray) (B n vc : Nat) (vo : Option Addr) (xs : List Value) (w : World) (hgl : g < w.heap.size) (hpg : pb ≠ g) (hP : w.heap[pb]? = some (obP 4 (.slice vo n vc) (.slice none 0 0) 4 (.map none) room)) (hn : n < 10000) (hBl : B ≤ w.heap.size) (hO : w.ownsRow B 25 6 (.slice vo n vc) n xs) (hv : ∀ j, (Value.slice vo n vc).ownBlock = some j → j < w.heap.size ∧ j ≠ g ∧ j ≠ pb)
    (PV : World → World → List Value → Prop)
    (HV : Hid (∀ V, Grw (fun j => w.heap.size ≤ j) w V → V.heap.size = w.heap.size + 2 → V.heap[w.heap.size]? = some (obT k ta tb tx tn) → Calls Tryz.prog 17 #[.pointer (some ⟨g, 0, none⟩), .agg #[.int .i64 k, .int .i64 ta, .int .i64 tb, .string tx, .int .i64 tn], .int .i64 room] V fun e w' => ∃ xk xb xn xt xo xl xq yo yl yq, e = .returned (.tuple #[.agg #[.int .i64 xk, .bool xb, .int .i64 xn, .string xt, .slice xo xl xq, .slice yo yl yq], .nilIface]) ∧ V.grownBy w' (some g) ∧ PV V w' (c6 xk xb xn xt xo xl xq yo yl yq))) :
    Calls Tryz.prog 50 #[.pointer (some ⟨g, 0, none⟩), .pointer (some ⟨pb, 0, none⟩), .agg #[.int .i64 k, .int .i64 ta, .int .i64 tb, .string tx, .int .i64 tn]] w fun e w' => e = .returned .nilIface ∧ ∃ V, Grw (fun j => w.heap.size ≤ j) w V ∧ ∃ w2, V.grownBy w2 (some g) ∧ ∃ l, PV V w2 l ∧ IO pb B n 4 4 room (.slice vo n vc) (.slice none 0 0) (.map none) xs l (w.heap.size + 1) w2 w' := by
  obtain ⟨W0, hW0, hk0, hr0, hb0, hz0⟩ := two_it w k ta tb tx tn
  have hpl : pb < w.heap.size := (Array.getElem?_eq_some_iff.1 hP).1
  have HW0 := Lib.hid hW0
  have HK0 := Lib.hid hk0
  have HR0 := Lib.hid hr0
  have HB0 := Lib.hid hb0
  have HP0 : Hid (W0.heap[pb]? = some (obP 4 (.slice vo n vc) (.slice none 0 0) 4 (.map none) room)) := (hb0.block _ hpl).trans hP
  have HGL : Hid (g < w.heap.size ∧ pb ≠ g) := ⟨hgl, hpg⟩
  obtain ⟨i0, hi, hz0', hz1, hz2⟩ := info_parts infoV
  clear hW0 hk0 hr0 hb0 hP hgl hpg
  go_enter Tryz.func50, Tryz.ntmps50
  go_upto_region 3 with (fail)
  rw [← HW0.out]
  have c0 := cell_of_row _ _ 0 _ _ _ HP0.out
  go_upto_region 9 with (fail)
  clear c0
  have HG0 : Hid (Grw (fun j => w.heap.size ≤ j) w W0) := Grw.of_below HB0.out (fun k h1 h2 => h1)
  have HKS : Hid (∀ V : World, V.heap[w.heap.size]? = some (obT k ta tb tx tn) → V.heap[pb]? = some (obP 4 (.slice vo n vc) (.slice none 0 0) 4 (.map none) room) → V.cell? ⟨w.heap.size, 0, none⟩ = some (.int .i64 k) ∧ V.cell? ⟨w.heap.size, 1, none⟩ = some (.int .i64 ta) ∧ V.cell? ⟨w.heap.size, 2, none⟩ = some (.int .i64 tb) ∧ V.cell? ⟨w.heap.size, 3, none⟩ = some (.string tx) ∧ V.cell? ⟨w.heap.size, 4, none⟩ = some (.int .i64 tn) ∧ V.cell? ⟨pb, 8, none⟩ = some (.int .i64 room)) := by
    intro V h1 h2
    obtain ⟨a0, a1, a2, a3, a4⟩ := cells5 h1
    exact Lib.hid ⟨a0, a1, a2, a3, a4, cell_of_row _ _ 8 _ _ _ h2⟩
  have HSA : Hid (W0.cell? ⟨w.heap.size, 0, none⟩ = some (.int .i64 k) ∧ W0.cell? ⟨w.heap.size, 1, none⟩ = some (.int .i64 ta) ∧ W0.cell? ⟨w.heap.size, 2, none⟩ = some (.int .i64 tb) ∧ W0.cell? ⟨w.heap.size, 3, none⟩ = some (.string tx) ∧ W0.cell? ⟨w.heap.size, 4, none⟩ = some (.int .i64 tn) ∧ W0.cell? ⟨pb, 8, none⟩ = some (.int .i64 room)) := HKS.out W0 HK0.out HP0.out
  have HSD : Hid (W0.drew.cell? ⟨w.heap.size, 0, none⟩ = some (.int .i64 k) ∧ W0.drew.cell? ⟨w.heap.size, 1, none⟩ = some (.int .i64 ta) ∧ W0.drew.cell? ⟨w.heap.size, 2, none⟩ = some (.int .i64 tb) ∧ W0.drew.cell? ⟨w.heap.size, 3, none⟩ = some (.string tx) ∧ W0.drew.cell? ⟨w.heap.size, 4, none⟩ = some (.int .i64 tn) ∧ W0.drew.cell? ⟨pb, 8, none⟩ = some (.int .i64 room)) := HKS.out W0.drew HK0.out HP0.out
  have HGD : Hid (Grw (fun j => w.heap.size ≤ j) w W0.drew) := (HG0.out : Grw (fun j => w.heap.size ≤ j) w W0)
  have hzD : W0.drew.heap.size = w.heap.size + 2 := hz0
  have HKD : Hid (W0.drew.heap[w.heap.size]? = some (obT k ta tb tx tn)) := HK0.out
  go_region_held3 (fun V => V.cell? ⟨w.heap.size, 0, none⟩ = some (.int .i64 k) ∧ V.cell? ⟨w.heap.size, 1, none⟩ = some (.int .i64 ta) ∧ V.cell? ⟨w.heap.size, 2, none⟩ = some (.int .i64 tb) ∧ V.cell? ⟨w.heap.size, 3, none⟩ = some (.string tx) ∧ V.cell? ⟨w.heap.size, 4, none⟩ = some (.int .i64 tn) ∧ V.cell? ⟨pb, 8, none⟩ = some (.int .i64 room))
    (first | (with_reducible exact HSD.out) | (with_reducible exact HS2.out) | (with_reducible exact HS3.out))
    ((go_at_call 17; (with_reducible refine (HV.out W0.drew HGD.out hzD HKD.out).mono ?_); rintro e w2 ⟨xk, xb, xn, xt, xo, xl, xq, yo, yl, yq, rfl, hg2, hp2⟩; have HP2 := Lib.hid hp2; have HG2D : Hid (W0.drew.grownBy w2 (some g)) := hg2; have HG2 : Hid (W0.grownBy w2 (some g)) := ⟨hg2.os, hg2.tape, hg2.output, hg2.size, hg2.block⟩; have HT2 : Hid (w2.heap[w.heap.size]? = some (obT k ta tb tx tn)) := (HG2.out.block _ (by omega) (fun e => by injection e with e; have := HGL.out; omega)).trans HK0.out; have HR2 : Hid (w2.heap[w.heap.size + 1]? = some (obV 0 false 0 ⟨#[]⟩ none 0 0 none 0 0)) := (HG2.out.block _ (by omega) (fun e => by injection e with e; have := HGL.out; omega)).trans HR0.out; have HQ2 : Hid (w2.heap[pb]? = some (obP 4 (.slice vo n vc) (.slice none 0 0) 4 (.map none) room)) := (HG2.out.block _ (by omega) (fun e => by injection e with e; have := HGL.out; omega)).trans HP0.out; have HS2 := Lib.hid (HKS.out w2 HT2.out HQ2.out); have gx := gr_set6 w2 (w.heap.size + 1) (.int .i64 xk) (.bool xb) (.int .i64 xn) (.string xt) (.slice xo xl xq) (.slice yo yl yq); have HS3 := Lib.hid (HKS.out _ ((gx.block (Array.getElem?_eq_some_iff.1 HT2.out).1 (by omega)).trans HT2.out) ((gx.block (Array.getElem?_eq_some_iff.1 HQ2.out).1 (by omega)).trans HQ2.out)); obtain ⟨b0, b1, b2, b3, b4, b5⟩ := cells6 HR2.out; have e0 := frz HR2.out 0; have e1 := frz HR2.out 1; have e2 := frz HR2.out 2; have e3 := frz HR2.out 3; have e4 := frz HR2.out 4; have e5 := frz HR2.out 5; clear hg2 hp2 gx))
  clear b0 b1 b2 b3 b4 b5 e0 e1 e2 e3 e4 e5 HS2 HS3 HSA HSD HKS
  have nN := neN
  obtain ⟨w3, hw3⟩ : ∃ w3, w3 = (((((((w2.setCell ⟨w.heap.size + 1, 0, none⟩ (.int .i64 xk)).setCell ⟨w.heap.size + 1, 1, none⟩ (.bool xb)).setCell ⟨w.heap.size + 1, 2, none⟩ (.int .i64 xn)).setCell ⟨w.heap.size + 1, 3, none⟩ (.string xt)).setCell ⟨w.heap.size + 1, 4, none⟩ (.slice xo xl xq)).setCell ⟨w.heap.size + 1, 5, none⟩ (.slice yo yl yq))) := ⟨_, rfl⟩
  have HX3 : Hid (w3.heap[w.heap.size + 1]? = some (obV xk xb xn xt xo xl xq yo yl yq)) := by rw [hw3]; exact Lib.hid (set6 HR2.out _ _ _ _ _ _)
  have HZ3 : Hid (Grw (fun j => j = w.heap.size + 1) w2 w3) := by rw [hw3]; exact Lib.hid (gr_set6 w2 (w.heap.size + 1) _ _ _ _ _ _)
  have HQ3 : Hid (w3.heap[pb]? = some (obP 4 (.slice vo n vc) (.slice none 0 0) 4 (.map none) room)) := (HZ3.out.block (Array.getElem?_eq_some_iff.1 HQ2.out).1 (by omega)).trans HQ2.out
  have HO3 : Hid (w3.ownsRow B 25 6 (.slice vo n vc) n xs) := row_keep (row_keep (row_keep hO HGD.out (fun j e => ⟨(hv j e).1, by have := (hv j e).1; omega⟩)) (Grw.of_gb (X := fun j => j = g) HG2D.out (fun j e => by injection e with e; exact e.symm)) (fun j e => ⟨Nat.lt_of_lt_of_le (hv j e).1 HGD.out.size, (hv j e).2.1⟩)) HZ3.out (fun j e => ⟨by have := (hv j e).1; have := HGD.out.size; have := HG2.out.size; omega, by have := (hv j e).1; omega⟩)
  rw [← hw3]
  clear hw3
  go_upto_region 12 with (fail)
  obtain ⟨x0, x1, x2, x3, x4, x5⟩ := cells6 HX3.out
  have m4 := cell_of_row _ _ 4 _ _ _ HQ3.out
  obtain ⟨WB, hWB⟩ : ∃ WB, WB = ((w3.alloc (.cells #[.int .i64 0, .bool false, .int .i64 0, .string ⟨#[]⟩, .slice none 0 0, .slice none 0 0] 25)).drew) := ⟨_, rfl⟩
  have HBB : Hid (Below w3.heap.size w3 WB) := by rw [hWB]; exact Lib.hid (((Below.refl _ _).alloc (Nat.le_refl _) _).drew)
  have HOB : Hid (WB.ownsRow B 25 6 (.slice vo n vc) n xs) := by rw [hWB]; exact Lib.hid ((HO3.out.alloc _).drew)
  have HNB : Hid (WB.heap[w3.heap.size]? = some (.cells #[.int .i64 0, .bool false, .int .i64 0, .string ⟨#[]⟩, .slice none 0 0, .slice none 0 0] 25 (0, 0))) := by rw [hWB]; exact Lib.hid (heap_alloc_new w3 (.cells #[.int .i64 0, .bool false, .int .i64 0, .string ⟨#[]⟩, .slice none 0 0, .slice none 0 0] 25))
  have HWB := Lib.hid hWB
  have hs3 : w.heap.size + 1 < w3.heap.size := (Array.getElem?_eq_some_iff.1 HX3.out).1
  have hlB : B ≤ WB.heap.size := by have := HBB.out.size; omega
  have n4 := World.new_ne w3 _ m4
  have n0 := World.new_ne w3 _ x0
  have l5 : pb < w3.heap.size := by omega
  have hn1 : n + 1 ≤ maxLen := by have : (10000 : Nat) ≤ maxLen := (by decide); omega
  have hni : (n : Int) < (n : Int) + 1 := by omega
  have hni0 : (0 : Int) ≤ (n : Int) := by omega
  have hn2 : (n + 1) * 88 ≤ 140737488355328 := by omega
  clear hWB
  go_region_law (rw [← HWB.out]; refine step_append_lies _ rfl _ _ 22 rfl B 25 i0 _ 6 88 Tryz.underlying22 hi hz0' hz1 hz2 rfl (by decide) _ _ _ rfl HOB.out ⟨w3.heap.size, 0, none⟩ 1 1 [.int .i64 0, .bool false, .int .i64 0, .string ⟨#[]⟩, .slice none 0 0, .slice none 0 0] rfl rfl (World.news_of_block HNB.out) (by simp [Value.oneCell']) (by decide) hn1 hn2 hlB _ rfl ?_; intro g1 c1 V hown hgrow hat hlt; obtain ⟨⟨hgp, hVP⟩, hCE, hFZ⟩ := it_ap (v := .slice vo n vc) hown hgrow HBB.out HQ3.out (fun j e => (hv j e).2.2) hat; have hgp2 : pb ≠ g1 := Ne.symm hgp; have f4 := frz hVP 4; obtain ⟨k0, k1, k2, k3, k4, k5⟩ := hCE; have f0 := hFZ (n * 6); have f1 := hFZ (n * 6 + 1); have f2 := hFZ (n * 6 + 2); have f3 := hFZ (n * 6 + 3); have f5 := hFZ (n * 6 + 4); have f6 := hFZ (n * 6 + 5); have p4 := cell_of_row _ _ 4 _ _ _ hVP; obtain ⟨hIA, hIB⟩ := it_fin (vi := .slice vo n vc) HZ3.out HBB.out hown hgrow hat hlt hVP hgp (.int .i64 xk) (.bool xb) (.int .i64 xn) (.string xt) (.slice xo xl xq) (.slice yo yl yq); have HIA := Lib.hid hIA; have HIB := Lib.hid hIB; clear hFZ hIA hIB hown hgrow hat hlt hVP)
  all_goals
    clear x0 x1 x2 x3 x4 x5 m4
    go_wp2_with fail
    (with_reducible refine bodyPost_ret (v := .nilIface) (by simp [results, Tryz.results50, go_sem]) rfl ?_)
    first
      | (with_reducible exact ⟨rfl, W0.drew, HGD.out, w2, HG2D.out, _, HP2.out, HIA.out⟩)
      | (with_reducible exact ⟨rfl, W0.drew, HGD.out, w2, HG2D.out, _, HP2.out, HIB.out⟩)
end Go.Proofs.YtpgllcdcpdeicaaGreatDoor.Jv
