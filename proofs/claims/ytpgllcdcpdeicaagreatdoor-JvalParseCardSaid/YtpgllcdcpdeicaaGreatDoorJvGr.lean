/- Contracts and plain mathematics of some packages' functions, laid together; conditions as each one says. -/
import Derived.Test.YtpgllcdcpdeicaaGreatDoorJvGq
import Derived.Test.YtpgllcdcpdeicaaGreatDoorJvGh
namespace Go.Proofs.YtpgllcdcpdeicaaGreatDoor.Jv
open Jt
open Go.RowKit Go.ChangeMaps Go.MapKept Go.WideMaps
set_option linter.unusedSimpArgs false
set_option linter.unusedVariables false

theorem newW (w : World) (a0 a1 a2 a3 a4 a5 : Value) : ∃ W, W = w.alloc (obW a0 a1 a2 a3 a4 a5) ∧ W.heap[w.heap.size]? = some (obW a0 a1 a2 a3 a4 a5) ∧ Below w.heap.size w W := ⟨_, rfl, heap_alloc_new w _, (Below.refl _ _).alloc (Nat.le_refl _) _⟩
theorem gb_one {w V V' : World} {g r : Nat} (h : w.grownBy V (some g)) (hr : w.heap.size ≤ r) (k : Grw (fun j => j = r) V V') : w.grownBy V' (some g) := ⟨k.1.trans h.os, k.2.1.trans h.tape, k.2.2.1.trans h.output, Nat.le_trans h.size k.size, fun j hj hn => (k.block (Nat.lt_of_lt_of_le hj h.size) (by omega)).trans (h.block j hj hn)⟩
set_option maxRecDepth 100000 in
set_option maxHeartbeats 2000000 in
theorem vq_b (s : ByteArray) (a p g tk ta tb : Nat) (b : Int) (tt : List UInt8) (tn pe op mo : Int) (w : World) (h : w.heap[g]? = some (obQ s ⟨a, b, p⟩)) (hb : b ≠ 0)
    (HP : Hid (∀ W, W.heap[g]? = some (obQ s ⟨a, b, p⟩) → Calls Tryz.prog 25 #[.pointer (some ⟨g, 0, none⟩)] W fun e w' => e = .returned (.tuple #[.agg #[.int .i64 (tk : Int), .int .i64 (ta : Int), .int .i64 (tb : Int), .string (mkS tt), .int .i64 tn], .int .i64 pe]) ∧ Below W.heap.size W w')) :
    Calls Tryz.prog 12 #[.pointer (some ⟨g, 0, none⟩), .int .i64 op, .int .i64 mo] w fun e w' => e = .returned (.agg #[.int .i64 0, .bool false, .int .i64 0, .string ⟨#[]⟩, .slice none 0 0, .slice none 0 0]) ∧ QsQ g s ⟨a, b, p⟩ w w' := by
  obtain ⟨W0, hW0, hk0, hb0⟩ := newW w (.int .i64 0) (.bool false) (.int .i64 0) (.string ⟨#[]⟩) (.slice none 0 0) (.slice none 0 0)
  have hgl : g < w.heap.size := (Array.getElem?_eq_some_iff.1 h).1
  have HW0 := Lib.hid hW0
  have HB0 := Lib.hid hb0
  have HK0 := Lib.hid hk0
  have HR0 := Lib.hid ((hb0.block _ hgl).trans h)
  have hz0 : w.heap.size < W0.heap.size := (Array.getElem?_eq_some_iff.1 hk0).1
  have HPW := Lib.hid (HP.out W0 HR0.out)
  have e1 : (b == 0) = false := by simpa using hb
  have e2 : (b != 0) = true := by rw [bne, e1]; rfl
  clear hb
  clear hW0 hk0 hb0 h HP
  go_enter Tryz.func12, Tryz.ntmps12
  go_upto_region 1 with (fail)
  rw [← HW0.out]
  go_upto_region 2 with (go_at_call 25; (with_reducible refine HPW.out.mono ?_); rintro e w1 ⟨rfl, hb1⟩; have HB1 := Lib.hid hb1; clear hb1)
  obtain ⟨W2, hW2, hk2, hb2⟩ := newK w1 tk ta tb (mkS tt) tn
  have HW2 := Lib.hid hW2
  have HB02 := Lib.hid (btr1 HB1.out hb2)
  have HB2 : Hid (Below w.heap.size w W2) := HB0.out.trans (HB02.out.mono HB0.out.size)
  have HR2 := Lib.hid ((HB02.out.block _ (by omega)).trans HR0.out)
  have HK2 := Lib.hid ((HB02.out.block _ hz0).trans HK0.out)
  have HT2 := Lib.hid hk2
  have hz1 : w.heap.size < w1.heap.size := Nat.lt_of_lt_of_le hz0 HB1.out.size
  have hz2 : w1.heap.size < W2.heap.size := (Array.getElem?_eq_some_iff.1 hk2).1
  clear hW2 hk2 hb2
  rw [← HW2.out]
  obtain ⟨c0, c1, c2, c3⟩ := cells4q HR2.out
  obtain ⟨t0, t1, t2, t3, t4⟩ := cells5 HT2.out
  obtain ⟨u0, u1, u2, u3, u4, u5⟩ := cells6 HK2.out
  have z0 := frz HK2.out 0
  have z1 := frz HK2.out 1
  have z2 := frz HK2.out 2
  have z3 := frz HK2.out 3
  have z4 := frz HK2.out 4
  have z5 := frz HK2.out 5
  have HH := Lib.hid (set6 HK2.out (.int .i64 0) (.bool false) (.int .i64 0) (.string ⟨#[]⟩) (.slice none 0 0) (.slice none 0 0))
  have HZ := Lib.hid (gr_set6 W2 w.heap.size (.int .i64 0) (.bool false) (.int .i64 0) (.string ⟨#[]⟩) (.slice none 0 0) (.slice none 0 0))
  go_wp2_with fail
  obtain ⟨d0, d1, d2, d3, d4, d5⟩ := cells6 HH.out
  clear u0 u1 u2 u3 u4 u5 z0 z1 z2 z3 z4 z5 c0 c1 c2 c3 t0 t1 t2 t3 t4
  (with_reducible refine bodyPost_ret (v := .agg #[.int .i64 0, .bool false, .int .i64 0, .string ⟨#[]⟩, .slice none 0 0, .slice none 0 0]) (by simp [results, Tryz.results12, go_sem, d0, d1, d2, d3, d4, d5]) rfl ?_)
  exact ⟨rfl, (HZ.out.block (Array.getElem?_eq_some_iff.1 HR2.out).1 (by omega)).trans HR2.out, gb_one (gb_below HB2.out) (Nat.le_refl _) HZ.out⟩
set_option maxRecDepth 100000 in
set_option maxHeartbeats 2000000 in
theorem vq_p (s : ByteArray) (a p g tk ta tb : Nat) (b : Int) (tt : List UInt8) (tn pe op mo : Int) (w : World) (h : w.heap[g]? = some (obQ s ⟨a, b, p⟩)) (hb : b = 0) (hp : pe ≠ 0) (st1 : QS) (HF : Hid (∀ W, W.heap[g]? = some (obQ s ⟨a, 0, p⟩) → Calls Tryz.prog 14 #[.pointer (some ⟨g, 0, none⟩), .int .i64 pe] W fun r w' => r = .returned (.tuple #[]) ∧ QsQ g s st1 W w'))
    (HP : Hid (∀ W, W.heap[g]? = some (obQ s ⟨a, b, p⟩) → Calls Tryz.prog 25 #[.pointer (some ⟨g, 0, none⟩)] W fun e w' => e = .returned (.tuple #[.agg #[.int .i64 (tk : Int), .int .i64 (ta : Int), .int .i64 (tb : Int), .string (mkS tt), .int .i64 tn], .int .i64 pe]) ∧ Below W.heap.size W w')) :
    Calls Tryz.prog 12 #[.pointer (some ⟨g, 0, none⟩), .int .i64 op, .int .i64 mo] w fun e w' => e = .returned (.agg #[.int .i64 0, .bool false, .int .i64 0, .string ⟨#[]⟩, .slice none 0 0, .slice none 0 0]) ∧ QsQ g s st1 w w' := by
  obtain ⟨W0, hW0, hk0, hb0⟩ := newW w (.int .i64 0) (.bool false) (.int .i64 0) (.string ⟨#[]⟩) (.slice none 0 0) (.slice none 0 0)
  have hgl : g < w.heap.size := (Array.getElem?_eq_some_iff.1 h).1
  have HW0 := Lib.hid hW0
  have HB0 := Lib.hid hb0
  have HK0 := Lib.hid hk0
  have HR0 := Lib.hid ((hb0.block _ hgl).trans h)
  have hz0 : w.heap.size < W0.heap.size := (Array.getElem?_eq_some_iff.1 hk0).1
  have HPW := Lib.hid (HP.out W0 HR0.out)
  subst hb
  have e1 : (pe == 0) = false := by simpa using hp
  have e2 : (pe != 0) = true := by rw [bne, e1]; rfl
  clear hp
  clear hW0 hk0 hb0 h HP
  go_enter Tryz.func12, Tryz.ntmps12
  go_upto_region 1 with (fail)
  rw [← HW0.out]
  go_upto_region 2 with (go_at_call 25; (with_reducible refine HPW.out.mono ?_); rintro e w1 ⟨rfl, hb1⟩; have HB1 := Lib.hid hb1; clear hb1)
  obtain ⟨W2, hW2, hk2, hb2⟩ := newK w1 tk ta tb (mkS tt) tn
  have HW2 := Lib.hid hW2
  have HB02 := Lib.hid (btr1 HB1.out hb2)
  have HB2 : Hid (Below w.heap.size w W2) := HB0.out.trans (HB02.out.mono HB0.out.size)
  have HR2 := Lib.hid ((HB02.out.block _ (by omega)).trans HR0.out)
  have HK2 := Lib.hid ((HB02.out.block _ hz0).trans HK0.out)
  have HT2 := Lib.hid hk2
  have hz1 : w.heap.size < w1.heap.size := Nat.lt_of_lt_of_le hz0 HB1.out.size
  have hz2 : w1.heap.size < W2.heap.size := (Array.getElem?_eq_some_iff.1 hk2).1
  clear hW2 hk2 hb2
  rw [← HW2.out]
  obtain ⟨c0, c1, c2, c3⟩ := cells4q HR2.out
  obtain ⟨t0, t1, t2, t3, t4⟩ := cells5 HT2.out
  have HFW := Lib.hid (HF.out W2 HR2.out)
  go_upto_region 6 with (go_at_call 14; (with_reducible refine HFW.out.mono ?_); rintro e w3 ⟨rfl, hq3⟩; have HQ3 := Lib.hid hq3; clear hq3)
  clear c0 c1 c2 c3 t0 t1 t2 t3 t4
  have HK3 := Lib.hid ((HQ3.out.2.block w.heap.size (by omega) (fun e => by injection e with e; omega)).trans HK2.out)
  have hzz : W2.heap.size ≤ w3.heap.size := HQ3.out.2.size
  obtain ⟨u0, u1, u2, u3, u4, u5⟩ := cells6 HK3.out
  have z0 := frz HK3.out 0
  have z1 := frz HK3.out 1
  have z2 := frz HK3.out 2
  have z3 := frz HK3.out 3
  have z4 := frz HK3.out 4
  have z5 := frz HK3.out 5
  have HH := Lib.hid (set6 HK3.out (.int .i64 0) (.bool false) (.int .i64 0) (.string ⟨#[]⟩) (.slice none 0 0) (.slice none 0 0))
  have HZ := Lib.hid (gr_set6 w3 w.heap.size (.int .i64 0) (.bool false) (.int .i64 0) (.string ⟨#[]⟩) (.slice none 0 0) (.slice none 0 0))
  go_wp2_with fail
  obtain ⟨d0, d1, d2, d3, d4, d5⟩ := cells6 HH.out
  clear u0 u1 u2 u3 u4 u5 z0 z1 z2 z3 z4 z5
  (with_reducible refine bodyPost_ret (v := .agg #[.int .i64 0, .bool false, .int .i64 0, .string ⟨#[]⟩, .slice none 0 0, .slice none 0 0]) (by simp [results, Tryz.results12, go_sem, d0, d1, d2, d3, d4, d5]) rfl ?_)
  exact ⟨rfl, (HZ.out.block (by omega) (by omega)).trans HQ3.out.1, gb_one (gb_trans (gb_below HB2.out) HQ3.out.2) (Nat.le_refl _) HZ.out⟩
set_option maxRecDepth 100000 in
set_option maxHeartbeats 2000000 in
theorem vq_d1 (s : ByteArray) (a p g tk ta tb : Nat) (b : Int) (tt : List UInt8) (tn pe op mo : Int) (w : World) (h : w.heap[g]? = some (obQ s ⟨a, b, p⟩)) (hb : b = 0) (hp : pe = 0) (hk : tk = 1) (ho : mo ≤ op) (st1 : QS) (HF : Hid (∀ W, W.heap[g]? = some (obQ s ⟨a, 0, p⟩) → Calls Tryz.prog 14 #[.pointer (some ⟨g, 0, none⟩), .int .i64 4] W fun r w' => r = .returned (.tuple #[]) ∧ QsQ g s st1 W w'))
    (HP : Hid (∀ W, W.heap[g]? = some (obQ s ⟨a, b, p⟩) → Calls Tryz.prog 25 #[.pointer (some ⟨g, 0, none⟩)] W fun e w' => e = .returned (.tuple #[.agg #[.int .i64 (tk : Int), .int .i64 (ta : Int), .int .i64 (tb : Int), .string (mkS tt), .int .i64 tn], .int .i64 pe]) ∧ Below W.heap.size W w')) :
    Calls Tryz.prog 12 #[.pointer (some ⟨g, 0, none⟩), .int .i64 op, .int .i64 mo] w fun e w' => e = .returned (.agg #[.int .i64 0, .bool false, .int .i64 0, .string ⟨#[]⟩, .slice none 0 0, .slice none 0 0]) ∧ QsQ g s st1 w w' := by
  obtain ⟨W0, hW0, hk0, hb0⟩ := newW w (.int .i64 0) (.bool false) (.int .i64 0) (.string ⟨#[]⟩) (.slice none 0 0) (.slice none 0 0)
  have hgl : g < w.heap.size := (Array.getElem?_eq_some_iff.1 h).1
  have HW0 := Lib.hid hW0
  have HB0 := Lib.hid hb0
  have HK0 := Lib.hid hk0
  have HR0 := Lib.hid ((hb0.block _ hgl).trans h)
  have hz0 : w.heap.size < W0.heap.size := (Array.getElem?_eq_some_iff.1 hk0).1
  have HPW := Lib.hid (HP.out W0 HR0.out)
  subst hb
  subst hp
  subst hk
  have ho2 : op ≥ mo := ho
  clear hW0 hk0 hb0 h HP
  go_enter Tryz.func12, Tryz.ntmps12
  go_upto_region 1 with (fail)
  rw [← HW0.out]
  go_upto_region 2 with (go_at_call 25; (with_reducible refine HPW.out.mono ?_); rintro e w1 ⟨rfl, hb1⟩; have HB1 := Lib.hid hb1; clear hb1)
  obtain ⟨W2, hW2, hk2, hb2⟩ := newK w1 1 ta tb (mkS tt) tn
  have HW2 := Lib.hid hW2
  have HB02 := Lib.hid (btr1 HB1.out hb2)
  have HB2 : Hid (Below w.heap.size w W2) := HB0.out.trans (HB02.out.mono HB0.out.size)
  have HR2 := Lib.hid ((HB02.out.block _ (by omega)).trans HR0.out)
  have HK2 := Lib.hid ((HB02.out.block _ hz0).trans HK0.out)
  have HT2 := Lib.hid hk2
  have hz1 : w.heap.size < w1.heap.size := Nat.lt_of_lt_of_le hz0 HB1.out.size
  have hz2 : w1.heap.size < W2.heap.size := (Array.getElem?_eq_some_iff.1 hk2).1
  clear hW2 hk2 hb2
  rw [← HW2.out]
  obtain ⟨c0, c1, c2, c3⟩ := cells4q HR2.out
  obtain ⟨t0, t1, t2, t3, t4⟩ := cells5 HT2.out
  have HFW := Lib.hid (HF.out W2 HR2.out)
  go_upto_region 9 with (go_at_call 14; (with_reducible refine HFW.out.mono ?_); rintro e w3 ⟨rfl, hq3⟩; have HQ3 := Lib.hid hq3; clear hq3)
  clear c0 c1 c2 c3 t0 t1 t2 t3 t4
  have HK3 := Lib.hid ((HQ3.out.2.block w.heap.size (by omega) (fun e => by injection e with e; omega)).trans HK2.out)
  have hzz : W2.heap.size ≤ w3.heap.size := HQ3.out.2.size
  obtain ⟨u0, u1, u2, u3, u4, u5⟩ := cells6 HK3.out
  have z0 := frz HK3.out 0
  have z1 := frz HK3.out 1
  have z2 := frz HK3.out 2
  have z3 := frz HK3.out 3
  have z4 := frz HK3.out 4
  have z5 := frz HK3.out 5
  have HH := Lib.hid (set6 HK3.out (.int .i64 0) (.bool false) (.int .i64 0) (.string ⟨#[]⟩) (.slice none 0 0) (.slice none 0 0))
  have HZ := Lib.hid (gr_set6 w3 w.heap.size (.int .i64 0) (.bool false) (.int .i64 0) (.string ⟨#[]⟩) (.slice none 0 0) (.slice none 0 0))
  go_wp2_with fail
  obtain ⟨d0, d1, d2, d3, d4, d5⟩ := cells6 HH.out
  clear u0 u1 u2 u3 u4 u5 z0 z1 z2 z3 z4 z5
  (with_reducible refine bodyPost_ret (v := .agg #[.int .i64 0, .bool false, .int .i64 0, .string ⟨#[]⟩, .slice none 0 0, .slice none 0 0]) (by simp [results, Tryz.results12, go_sem, d0, d1, d2, d3, d4, d5]) rfl ?_)
  exact ⟨rfl, (HZ.out.block (by omega) (by omega)).trans HQ3.out.1, gb_one (gb_trans (gb_below HB2.out) HQ3.out.2) (Nat.le_refl _) HZ.out⟩
set_option maxRecDepth 100000 in
set_option maxHeartbeats 2000000 in
theorem vq_d3 (s : ByteArray) (a p g tk ta tb : Nat) (b : Int) (tt : List UInt8) (tn pe op mo : Int) (w : World) (h : w.heap[g]? = some (obQ s ⟨a, b, p⟩)) (hb : b = 0) (hp : pe = 0) (hk : tk = 3) (ho : mo ≤ op) (st1 : QS) (HF : Hid (∀ W, W.heap[g]? = some (obQ s ⟨a, 0, p⟩) → Calls Tryz.prog 14 #[.pointer (some ⟨g, 0, none⟩), .int .i64 4] W fun r w' => r = .returned (.tuple #[]) ∧ QsQ g s st1 W w'))
    (HP : Hid (∀ W, W.heap[g]? = some (obQ s ⟨a, b, p⟩) → Calls Tryz.prog 25 #[.pointer (some ⟨g, 0, none⟩)] W fun e w' => e = .returned (.tuple #[.agg #[.int .i64 (tk : Int), .int .i64 (ta : Int), .int .i64 (tb : Int), .string (mkS tt), .int .i64 tn], .int .i64 pe]) ∧ Below W.heap.size W w')) :
    Calls Tryz.prog 12 #[.pointer (some ⟨g, 0, none⟩), .int .i64 op, .int .i64 mo] w fun e w' => e = .returned (.agg #[.int .i64 0, .bool false, .int .i64 0, .string ⟨#[]⟩, .slice none 0 0, .slice none 0 0]) ∧ QsQ g s st1 w w' := by
  obtain ⟨W0, hW0, hk0, hb0⟩ := newW w (.int .i64 0) (.bool false) (.int .i64 0) (.string ⟨#[]⟩) (.slice none 0 0) (.slice none 0 0)
  have hgl : g < w.heap.size := (Array.getElem?_eq_some_iff.1 h).1
  have HW0 := Lib.hid hW0
  have HB0 := Lib.hid hb0
  have HK0 := Lib.hid hk0
  have HR0 := Lib.hid ((hb0.block _ hgl).trans h)
  have hz0 : w.heap.size < W0.heap.size := (Array.getElem?_eq_some_iff.1 hk0).1
  have HPW := Lib.hid (HP.out W0 HR0.out)
  subst hb
  subst hp
  subst hk
  have ho2 : op ≥ mo := ho
  clear hW0 hk0 hb0 h HP
  go_enter Tryz.func12, Tryz.ntmps12
  go_upto_region 1 with (fail)
  rw [← HW0.out]
  go_upto_region 2 with (go_at_call 25; (with_reducible refine HPW.out.mono ?_); rintro e w1 ⟨rfl, hb1⟩; have HB1 := Lib.hid hb1; clear hb1)
  obtain ⟨W2, hW2, hk2, hb2⟩ := newK w1 3 ta tb (mkS tt) tn
  have HW2 := Lib.hid hW2
  have HB02 := Lib.hid (btr1 HB1.out hb2)
  have HB2 : Hid (Below w.heap.size w W2) := HB0.out.trans (HB02.out.mono HB0.out.size)
  have HR2 := Lib.hid ((HB02.out.block _ (by omega)).trans HR0.out)
  have HK2 := Lib.hid ((HB02.out.block _ hz0).trans HK0.out)
  have HT2 := Lib.hid hk2
  have hz1 : w.heap.size < w1.heap.size := Nat.lt_of_lt_of_le hz0 HB1.out.size
  have hz2 : w1.heap.size < W2.heap.size := (Array.getElem?_eq_some_iff.1 hk2).1
  clear hW2 hk2 hb2
  rw [← HW2.out]
  obtain ⟨c0, c1, c2, c3⟩ := cells4q HR2.out
  obtain ⟨t0, t1, t2, t3, t4⟩ := cells5 HT2.out
  have HFW := Lib.hid (HF.out W2 HR2.out)
  go_upto_region 9 with (go_at_call 14; (with_reducible refine HFW.out.mono ?_); rintro e w3 ⟨rfl, hq3⟩; have HQ3 := Lib.hid hq3; clear hq3)
  clear c0 c1 c2 c3 t0 t1 t2 t3 t4
  have HK3 := Lib.hid ((HQ3.out.2.block w.heap.size (by omega) (fun e => by injection e with e; omega)).trans HK2.out)
  have hzz : W2.heap.size ≤ w3.heap.size := HQ3.out.2.size
  obtain ⟨u0, u1, u2, u3, u4, u5⟩ := cells6 HK3.out
  have z0 := frz HK3.out 0
  have z1 := frz HK3.out 1
  have z2 := frz HK3.out 2
  have z3 := frz HK3.out 3
  have z4 := frz HK3.out 4
  have z5 := frz HK3.out 5
  have HH := Lib.hid (set6 HK3.out (.int .i64 0) (.bool false) (.int .i64 0) (.string ⟨#[]⟩) (.slice none 0 0) (.slice none 0 0))
  have HZ := Lib.hid (gr_set6 w3 w.heap.size (.int .i64 0) (.bool false) (.int .i64 0) (.string ⟨#[]⟩) (.slice none 0 0) (.slice none 0 0))
  go_wp2_with fail
  obtain ⟨d0, d1, d2, d3, d4, d5⟩ := cells6 HH.out
  clear u0 u1 u2 u3 u4 u5 z0 z1 z2 z3 z4 z5
  (with_reducible refine bodyPost_ret (v := .agg #[.int .i64 0, .bool false, .int .i64 0, .string ⟨#[]⟩, .slice none 0 0, .slice none 0 0]) (by simp [results, Tryz.results12, go_sem, d0, d1, d2, d3, d4, d5]) rfl ?_)
  exact ⟨rfl, (HZ.out.block (by omega) (by omega)).trans HQ3.out.1, gb_one (gb_trans (gb_below HB2.out) HQ3.out.2) (Nat.le_refl _) HZ.out⟩
set_option maxRecDepth 100000 in
set_option maxHeartbeats 2000000 in
theorem vq_11 (s : ByteArray) (a p g tk ta tb : Nat) (b : Int) (tt : List UInt8) (tn pe op mo : Int) (w : World) (h : w.heap[g]? = some (obQ s ⟨a, b, p⟩)) (hb : b = 0) (hp : pe = 0) (hk : tk = 11)
    (HP : Hid (∀ W, W.heap[g]? = some (obQ s ⟨a, b, p⟩) → Calls Tryz.prog 25 #[.pointer (some ⟨g, 0, none⟩)] W fun e w' => e = .returned (.tuple #[.agg #[.int .i64 (tk : Int), .int .i64 (ta : Int), .int .i64 (tb : Int), .string (mkS tt), .int .i64 tn], .int .i64 pe]) ∧ Below W.heap.size W w')) :
    Calls Tryz.prog 12 #[.pointer (some ⟨g, 0, none⟩), .int .i64 op, .int .i64 mo] w fun e w' => e = .returned (.agg #[.int .i64 0, .bool false, .int .i64 0, .string ⟨#[]⟩, .slice none 0 0, .slice none 0 0]) ∧ QsQ g s ⟨tb, 0, p⟩ w w' := by
  obtain ⟨W0, hW0, hk0, hb0⟩ := newW w (.int .i64 0) (.bool false) (.int .i64 0) (.string ⟨#[]⟩) (.slice none 0 0) (.slice none 0 0)
  have hgl : g < w.heap.size := (Array.getElem?_eq_some_iff.1 h).1
  have HW0 := Lib.hid hW0
  have HB0 := Lib.hid hb0
  have HK0 := Lib.hid hk0
  have HR0 := Lib.hid ((hb0.block _ hgl).trans h)
  have hz0 : w.heap.size < W0.heap.size := (Array.getElem?_eq_some_iff.1 hk0).1
  have HPW := Lib.hid (HP.out W0 HR0.out)
  subst hb
  subst hp
  subst hk
  clear hW0 hk0 hb0 h HP
  go_enter Tryz.func12, Tryz.ntmps12
  go_upto_region 1 with (fail)
  rw [← HW0.out]
  go_upto_region 2 with (go_at_call 25; (with_reducible refine HPW.out.mono ?_); rintro e w1 ⟨rfl, hb1⟩; have HB1 := Lib.hid hb1; clear hb1)
  obtain ⟨W2, hW2, hk2, hb2⟩ := newK w1 11 ta tb (mkS tt) tn
  have HW2 := Lib.hid hW2
  have HB02 := Lib.hid (btr1 HB1.out hb2)
  have HB2 : Hid (Below w.heap.size w W2) := HB0.out.trans (HB02.out.mono HB0.out.size)
  have HR2 := Lib.hid ((HB02.out.block _ (by omega)).trans HR0.out)
  have HK2 := Lib.hid ((HB02.out.block _ hz0).trans HK0.out)
  have HT2 := Lib.hid hk2
  have hz1 : w.heap.size < w1.heap.size := Nat.lt_of_lt_of_le hz0 HB1.out.size
  have hz2 : w1.heap.size < W2.heap.size := (Array.getElem?_eq_some_iff.1 hk2).1
  clear hW2 hk2 hb2
  rw [← HW2.out]
  obtain ⟨c0, c1, c2, c3⟩ := cells4q HR2.out
  obtain ⟨t0, t1, t2, t3, t4⟩ := cells5 HT2.out
  obtain ⟨W3, hW3, hk3, hb3⟩ := newW W2 (.int .i64 0) (.bool false) (.int .i64 0) (.string ⟨#[]⟩) (.slice none 0 0) (.slice none 0 0)
  have HW3 := Lib.hid hW3
  have HB3 : Hid (Below w.heap.size w W3) := HB2.out.trans (hb3.mono HB2.out.size)
  have HR3 := Lib.hid ((hb3.block _ (Array.getElem?_eq_some_iff.1 HR2.out).1).trans HR2.out)
  have HK3 := Lib.hid ((hb3.block _ (Array.getElem?_eq_some_iff.1 HK2.out).1).trans HK2.out)
  have HT3 := Lib.hid ((hb3.block _ hz2).trans HT2.out)
  have HV3 := Lib.hid hk3
  have hz3 : W2.heap.size < W3.heap.size := (Array.getElem?_eq_some_iff.1 hk3).1
  clear hW3 hk3 hb3
  go_upto_region 11 with (fail)
  rw [← HW3.out]
  clear c0 c1 c2 c3 t0 t1 t2 t3 t4
  obtain ⟨c0, c1, c2, c3⟩ := cells4q HR3.out
  obtain ⟨t0, t1, t2, t3, t4⟩ := cells5 HT3.out
  obtain ⟨w4, hw4⟩ : ∃ w4, w4 = W3 := ⟨_, rfl⟩
  have HV4 : Hid (w4.heap[W2.heap.size]? = some (obW (.int .i64 0) (.bool false) (.int .i64 0) (.string ⟨#[]⟩) (.slice none 0 0) (.slice none 0 0))) := by rw [hw4]; exact HV3
  have HG4 : Hid (Grw (fun j => j = W2.heap.size) W3 w4) := by rw [hw4]; exact Lib.hid (Grw.refl _ _)
  go_upto_region 26 with (fail)
  rw [← hw4]
  clear hw4
  clear c0 c1 c2 c3 t0 t1 t2 t3 t4
  have hgs : g < W3.heap.size := (Array.getElem?_eq_some_iff.1 HR3.out).1
  have HR4 := Lib.hid ((HG4.out.block hgs (by omega)).trans HR3.out)
  have HK4 := Lib.hid ((HG4.out.block (Array.getElem?_eq_some_iff.1 HK3.out).1 (by omega)).trans HK3.out)
  have HT4 := Lib.hid ((HG4.out.block (Array.getElem?_eq_some_iff.1 HT3.out).1 (by omega)).trans HT3.out)
  obtain ⟨c0, c1, c2, c3⟩ := cells4q HR4.out
  obtain ⟨t0, t1, t2, t3, t4⟩ := cells5 HT4.out
  have f1 := frz HR4.out 1
  go_upto_region 27 with (fail)
  obtain ⟨w5, hw5⟩ : ∃ w5, w5 = w4.setCell ⟨g, 1, none⟩ (.int .i64 (tb : Int)) := ⟨_, rfl⟩
  have HR5 : Hid (w5.heap[g]? = some (obQ s ⟨tb, 0, p⟩)) := by
    rw [hw5]; have := blk_set HR4.out 1 (.int .i64 (tb : Int)); exact Lib.hid (by simpa using this)
  have HG5 : Hid (Grw (fun j => j = g) w4 w5) := by rw [hw5]; exact Lib.hid (gr_one w4 g 1 _)
  have HK5 := Lib.hid ((HG5.out.block (Array.getElem?_eq_some_iff.1 HK4.out).1 (by omega)).trans HK4.out)
  have HV5 := Lib.hid ((HG5.out.block (Array.getElem?_eq_some_iff.1 HV4.out).1 (by omega)).trans HV4.out)
  have HGB : Hid (w.grownBy w5 (some g)) := gb_trans (gb_one (gb_below HB3.out) (by omega) HG4.out) (by rw [hw5]; exact gb_set w4 g 1 _)
  rw [← hw5]
  clear hw5 c0 c1 c2 c3 t0 t1 t2 t3 t4 f1
  obtain ⟨x0, x1, x2, x3, x4, x5⟩ := cells6 HV5.out
  obtain ⟨u0, u1, u2, u3, u4, u5⟩ := cells6 HK5.out
  have z0 := frz HK5.out 0
  have z1 := frz HK5.out 1
  have z2 := frz HK5.out 2
  have z3 := frz HK5.out 3
  have z4 := frz HK5.out 4
  have z5 := frz HK5.out 5
  have HH := Lib.hid (set6 HK5.out (.int .i64 0) (.bool false) (.int .i64 0) (.string ⟨#[]⟩) (.slice none 0 0) (.slice none 0 0))
  have HZ := Lib.hid (gr_set6 w5 w.heap.size (.int .i64 0) (.bool false) (.int .i64 0) (.string ⟨#[]⟩) (.slice none 0 0) (.slice none 0 0))
  go_wp2_with fail
  obtain ⟨d0, d1, d2, d3, d4, d5⟩ := cells6 HH.out
  clear u0 u1 u2 u3 u4 u5 z0 z1 z2 z3 z4 z5 x0 x1 x2 x3 x4 x5
  (with_reducible refine bodyPost_ret (v := .agg #[.int .i64 0, .bool false, .int .i64 0, .string ⟨#[]⟩, .slice none 0 0, .slice none 0 0]) (by simp [results, Tryz.results12, go_sem, d0, d1, d2, d3, d4, d5]) rfl ?_)
  exact ⟨rfl, (HZ.out.block (Array.getElem?_eq_some_iff.1 HR5.out).1 (by omega)).trans HR5.out, gb_one HGB.out (Nat.le_refl _) HZ.out⟩
set_option maxRecDepth 100000 in
set_option maxHeartbeats 2000000 in
theorem vq_7 (s : ByteArray) (a p g tk ta tb : Nat) (b : Int) (tt : List UInt8) (tn pe op mo : Int) (w : World) (h : w.heap[g]? = some (obQ s ⟨a, b, p⟩)) (hb : b = 0) (hp : pe = 0) (hk : tk = 7)
    (HP : Hid (∀ W, W.heap[g]? = some (obQ s ⟨a, b, p⟩) → Calls Tryz.prog 25 #[.pointer (some ⟨g, 0, none⟩)] W fun e w' => e = .returned (.tuple #[.agg #[.int .i64 (tk : Int), .int .i64 (ta : Int), .int .i64 (tb : Int), .string (mkS tt), .int .i64 tn], .int .i64 pe]) ∧ Below W.heap.size W w')) :
    Calls Tryz.prog 12 #[.pointer (some ⟨g, 0, none⟩), .int .i64 op, .int .i64 mo] w fun e w' => e = .returned (.agg #[.int .i64 3, .bool false, .int .i64 0, .string (mkS tt), .slice none 0 0, .slice none 0 0]) ∧ QsQ g s ⟨tb, 0, p⟩ w w' := by
  obtain ⟨W0, hW0, hk0, hb0⟩ := newW w (.int .i64 0) (.bool false) (.int .i64 0) (.string ⟨#[]⟩) (.slice none 0 0) (.slice none 0 0)
  have hgl : g < w.heap.size := (Array.getElem?_eq_some_iff.1 h).1
  have HW0 := Lib.hid hW0
  have HB0 := Lib.hid hb0
  have HK0 := Lib.hid hk0
  have HR0 := Lib.hid ((hb0.block _ hgl).trans h)
  have hz0 : w.heap.size < W0.heap.size := (Array.getElem?_eq_some_iff.1 hk0).1
  have HPW := Lib.hid (HP.out W0 HR0.out)
  subst hb
  subst hp
  subst hk
  clear hW0 hk0 hb0 h HP
  go_enter Tryz.func12, Tryz.ntmps12
  go_upto_region 1 with (fail)
  rw [← HW0.out]
  go_upto_region 2 with (go_at_call 25; (with_reducible refine HPW.out.mono ?_); rintro e w1 ⟨rfl, hb1⟩; have HB1 := Lib.hid hb1; clear hb1)
  obtain ⟨W2, hW2, hk2, hb2⟩ := newK w1 7 ta tb (mkS tt) tn
  have HW2 := Lib.hid hW2
  have HB02 := Lib.hid (btr1 HB1.out hb2)
  have HB2 : Hid (Below w.heap.size w W2) := HB0.out.trans (HB02.out.mono HB0.out.size)
  have HR2 := Lib.hid ((HB02.out.block _ (by omega)).trans HR0.out)
  have HK2 := Lib.hid ((HB02.out.block _ hz0).trans HK0.out)
  have HT2 := Lib.hid hk2
  have hz1 : w.heap.size < w1.heap.size := Nat.lt_of_lt_of_le hz0 HB1.out.size
  have hz2 : w1.heap.size < W2.heap.size := (Array.getElem?_eq_some_iff.1 hk2).1
  clear hW2 hk2 hb2
  rw [← HW2.out]
  obtain ⟨c0, c1, c2, c3⟩ := cells4q HR2.out
  obtain ⟨t0, t1, t2, t3, t4⟩ := cells5 HT2.out
  obtain ⟨W3, hW3, hk3, hb3⟩ := newW W2 (.int .i64 0) (.bool false) (.int .i64 0) (.string ⟨#[]⟩) (.slice none 0 0) (.slice none 0 0)
  have HW3 := Lib.hid hW3
  have HB3 : Hid (Below w.heap.size w W3) := HB2.out.trans (hb3.mono HB2.out.size)
  have HR3 := Lib.hid ((hb3.block _ (Array.getElem?_eq_some_iff.1 HR2.out).1).trans HR2.out)
  have HK3 := Lib.hid ((hb3.block _ (Array.getElem?_eq_some_iff.1 HK2.out).1).trans HK2.out)
  have HT3 := Lib.hid ((hb3.block _ hz2).trans HT2.out)
  have HV3 := Lib.hid hk3
  have hz3 : W2.heap.size < W3.heap.size := (Array.getElem?_eq_some_iff.1 hk3).1
  clear hW3 hk3 hb3
  go_upto_region 11 with (fail)
  rw [← HW3.out]
  clear c0 c1 c2 c3 t0 t1 t2 t3 t4
  obtain ⟨c0, c1, c2, c3⟩ := cells4q HR3.out
  obtain ⟨t0, t1, t2, t3, t4⟩ := cells5 HT3.out
  obtain ⟨x0, x1, x2, x3, x4, x5⟩ := cells6 HV3.out
  have y0 := frz HV3.out 0
  have y1 := frz HV3.out 1
  have y2 := frz HV3.out 2
  have y3 := frz HV3.out 3
  have y4 := frz HV3.out 4
  have y5 := frz HV3.out 5
  have HV4 := Lib.hid (set6 HV3.out (.int .i64 3) (.bool false) (.int .i64 0) (.string (mkS tt)) (.slice none 0 0) (.slice none 0 0))
  have HG4 := Lib.hid (gr_set6 W3 W2.heap.size (.int .i64 3) (.bool false) (.int .i64 0) (.string (mkS tt)) (.slice none 0 0) (.slice none 0 0))
  go_upto_region 26 with (fail)
  clear x0 x1 x2 x3 x4 x5 y0 y1 y2 y3 y4 y5
  revert HV4 HG4
  generalize ((((((W3.setCell ⟨W2.heap.size, 0, none⟩ (.int .i64 3)).setCell ⟨W2.heap.size, 1, none⟩ (.bool false)).setCell ⟨W2.heap.size, 2, none⟩ (.int .i64 0)).setCell ⟨W2.heap.size, 3, none⟩ (.string (mkS tt))).setCell ⟨W2.heap.size, 4, none⟩ (.slice none 0 0)).setCell ⟨W2.heap.size, 5, none⟩ (.slice none 0 0)) = w4
  intro HV4 HG4
  clear c0 c1 c2 c3 t0 t1 t2 t3 t4
  have hgs : g < W3.heap.size := (Array.getElem?_eq_some_iff.1 HR3.out).1
  have HR4 := Lib.hid ((HG4.out.block hgs (by omega)).trans HR3.out)
  have HK4 := Lib.hid ((HG4.out.block (Array.getElem?_eq_some_iff.1 HK3.out).1 (by omega)).trans HK3.out)
  have HT4 := Lib.hid ((HG4.out.block (Array.getElem?_eq_some_iff.1 HT3.out).1 (by omega)).trans HT3.out)
  obtain ⟨c0, c1, c2, c3⟩ := cells4q HR4.out
  obtain ⟨t0, t1, t2, t3, t4⟩ := cells5 HT4.out
  have f1 := frz HR4.out 1
  go_upto_region 27 with (fail)
  obtain ⟨w5, hw5⟩ : ∃ w5, w5 = w4.setCell ⟨g, 1, none⟩ (.int .i64 (tb : Int)) := ⟨_, rfl⟩
  have HR5 : Hid (w5.heap[g]? = some (obQ s ⟨tb, 0, p⟩)) := by
    rw [hw5]; have := blk_set HR4.out 1 (.int .i64 (tb : Int)); exact Lib.hid (by simpa using this)
  have HG5 : Hid (Grw (fun j => j = g) w4 w5) := by rw [hw5]; exact Lib.hid (gr_one w4 g 1 _)
  have HK5 := Lib.hid ((HG5.out.block (Array.getElem?_eq_some_iff.1 HK4.out).1 (by omega)).trans HK4.out)
  have HV5 := Lib.hid ((HG5.out.block (Array.getElem?_eq_some_iff.1 HV4.out).1 (by omega)).trans HV4.out)
  have HGB : Hid (w.grownBy w5 (some g)) := gb_trans (gb_one (gb_below HB3.out) (by omega) HG4.out) (by rw [hw5]; exact gb_set w4 g 1 _)
  rw [← hw5]
  clear hw5 c0 c1 c2 c3 t0 t1 t2 t3 t4 f1
  obtain ⟨x0, x1, x2, x3, x4, x5⟩ := cells6 HV5.out
  obtain ⟨u0, u1, u2, u3, u4, u5⟩ := cells6 HK5.out
  have z0 := frz HK5.out 0
  have z1 := frz HK5.out 1
  have z2 := frz HK5.out 2
  have z3 := frz HK5.out 3
  have z4 := frz HK5.out 4
  have z5 := frz HK5.out 5
  have HH := Lib.hid (set6 HK5.out (.int .i64 3) (.bool false) (.int .i64 0) (.string (mkS tt)) (.slice none 0 0) (.slice none 0 0))
  have HZ := Lib.hid (gr_set6 w5 w.heap.size (.int .i64 3) (.bool false) (.int .i64 0) (.string (mkS tt)) (.slice none 0 0) (.slice none 0 0))
  go_wp2_with fail
  obtain ⟨d0, d1, d2, d3, d4, d5⟩ := cells6 HH.out
  clear u0 u1 u2 u3 u4 u5 z0 z1 z2 z3 z4 z5 x0 x1 x2 x3 x4 x5
  (with_reducible refine bodyPost_ret (v := .agg #[.int .i64 3, .bool false, .int .i64 0, .string (mkS tt), .slice none 0 0, .slice none 0 0]) (by simp [results, Tryz.results12, go_sem, d0, d1, d2, d3, d4, d5]) rfl ?_)
  exact ⟨rfl, (HZ.out.block (Array.getElem?_eq_some_iff.1 HR5.out).1 (by omega)).trans HR5.out, gb_one HGB.out (Nat.le_refl _) HZ.out⟩
set_option maxRecDepth 100000 in
set_option maxHeartbeats 2000000 in
theorem vq_8 (s : ByteArray) (a p g tk ta tb : Nat) (b : Int) (tt : List UInt8) (tn pe op mo : Int) (w : World) (h : w.heap[g]? = some (obQ s ⟨a, b, p⟩)) (hb : b = 0) (hp : pe = 0) (hk : tk = 8)
    (HP : Hid (∀ W, W.heap[g]? = some (obQ s ⟨a, b, p⟩) → Calls Tryz.prog 25 #[.pointer (some ⟨g, 0, none⟩)] W fun e w' => e = .returned (.tuple #[.agg #[.int .i64 (tk : Int), .int .i64 (ta : Int), .int .i64 (tb : Int), .string (mkS tt), .int .i64 tn], .int .i64 pe]) ∧ Below W.heap.size W w')) :
    Calls Tryz.prog 12 #[.pointer (some ⟨g, 0, none⟩), .int .i64 op, .int .i64 mo] w fun e w' => e = .returned (.agg #[.int .i64 2, .bool false, .int .i64 tn, .string ⟨#[]⟩, .slice none 0 0, .slice none 0 0]) ∧ QsQ g s ⟨tb, 0, p⟩ w w' := by
  obtain ⟨W0, hW0, hk0, hb0⟩ := newW w (.int .i64 0) (.bool false) (.int .i64 0) (.string ⟨#[]⟩) (.slice none 0 0) (.slice none 0 0)
  have hgl : g < w.heap.size := (Array.getElem?_eq_some_iff.1 h).1
  have HW0 := Lib.hid hW0
  have HB0 := Lib.hid hb0
  have HK0 := Lib.hid hk0
  have HR0 := Lib.hid ((hb0.block _ hgl).trans h)
  have hz0 : w.heap.size < W0.heap.size := (Array.getElem?_eq_some_iff.1 hk0).1
  have HPW := Lib.hid (HP.out W0 HR0.out)
  subst hb
  subst hp
  subst hk
  clear hW0 hk0 hb0 h HP
  go_enter Tryz.func12, Tryz.ntmps12
  go_upto_region 1 with (fail)
  rw [← HW0.out]
  go_upto_region 2 with (go_at_call 25; (with_reducible refine HPW.out.mono ?_); rintro e w1 ⟨rfl, hb1⟩; have HB1 := Lib.hid hb1; clear hb1)
  obtain ⟨W2, hW2, hk2, hb2⟩ := newK w1 8 ta tb (mkS tt) tn
  have HW2 := Lib.hid hW2
  have HB02 := Lib.hid (btr1 HB1.out hb2)
  have HB2 : Hid (Below w.heap.size w W2) := HB0.out.trans (HB02.out.mono HB0.out.size)
  have HR2 := Lib.hid ((HB02.out.block _ (by omega)).trans HR0.out)
  have HK2 := Lib.hid ((HB02.out.block _ hz0).trans HK0.out)
  have HT2 := Lib.hid hk2
  have hz1 : w.heap.size < w1.heap.size := Nat.lt_of_lt_of_le hz0 HB1.out.size
  have hz2 : w1.heap.size < W2.heap.size := (Array.getElem?_eq_some_iff.1 hk2).1
  clear hW2 hk2 hb2
  rw [← HW2.out]
  obtain ⟨c0, c1, c2, c3⟩ := cells4q HR2.out
  obtain ⟨t0, t1, t2, t3, t4⟩ := cells5 HT2.out
  obtain ⟨W3, hW3, hk3, hb3⟩ := newW W2 (.int .i64 0) (.bool false) (.int .i64 0) (.string ⟨#[]⟩) (.slice none 0 0) (.slice none 0 0)
  have HW3 := Lib.hid hW3
  have HB3 : Hid (Below w.heap.size w W3) := HB2.out.trans (hb3.mono HB2.out.size)
  have HR3 := Lib.hid ((hb3.block _ (Array.getElem?_eq_some_iff.1 HR2.out).1).trans HR2.out)
  have HK3 := Lib.hid ((hb3.block _ (Array.getElem?_eq_some_iff.1 HK2.out).1).trans HK2.out)
  have HT3 := Lib.hid ((hb3.block _ hz2).trans HT2.out)
  have HV3 := Lib.hid hk3
  have hz3 : W2.heap.size < W3.heap.size := (Array.getElem?_eq_some_iff.1 hk3).1
  clear hW3 hk3 hb3
  go_upto_region 11 with (fail)
  rw [← HW3.out]
  clear c0 c1 c2 c3 t0 t1 t2 t3 t4
  obtain ⟨c0, c1, c2, c3⟩ := cells4q HR3.out
  obtain ⟨t0, t1, t2, t3, t4⟩ := cells5 HT3.out
  obtain ⟨x0, x1, x2, x3, x4, x5⟩ := cells6 HV3.out
  have y0 := frz HV3.out 0
  have y1 := frz HV3.out 1
  have y2 := frz HV3.out 2
  have y3 := frz HV3.out 3
  have y4 := frz HV3.out 4
  have y5 := frz HV3.out 5
  have HV4 := Lib.hid (set6 HV3.out (.int .i64 2) (.bool false) (.int .i64 tn) (.string ⟨#[]⟩) (.slice none 0 0) (.slice none 0 0))
  have HG4 := Lib.hid (gr_set6 W3 W2.heap.size (.int .i64 2) (.bool false) (.int .i64 tn) (.string ⟨#[]⟩) (.slice none 0 0) (.slice none 0 0))
  go_upto_region 26 with (fail)
  clear x0 x1 x2 x3 x4 x5 y0 y1 y2 y3 y4 y5
  revert HV4 HG4
  generalize ((((((W3.setCell ⟨W2.heap.size, 0, none⟩ (.int .i64 2)).setCell ⟨W2.heap.size, 1, none⟩ (.bool false)).setCell ⟨W2.heap.size, 2, none⟩ (.int .i64 tn)).setCell ⟨W2.heap.size, 3, none⟩ (.string ⟨#[]⟩)).setCell ⟨W2.heap.size, 4, none⟩ (.slice none 0 0)).setCell ⟨W2.heap.size, 5, none⟩ (.slice none 0 0)) = w4
  intro HV4 HG4
  clear c0 c1 c2 c3 t0 t1 t2 t3 t4
  have hgs : g < W3.heap.size := (Array.getElem?_eq_some_iff.1 HR3.out).1
  have HR4 := Lib.hid ((HG4.out.block hgs (by omega)).trans HR3.out)
  have HK4 := Lib.hid ((HG4.out.block (Array.getElem?_eq_some_iff.1 HK3.out).1 (by omega)).trans HK3.out)
  have HT4 := Lib.hid ((HG4.out.block (Array.getElem?_eq_some_iff.1 HT3.out).1 (by omega)).trans HT3.out)
  obtain ⟨c0, c1, c2, c3⟩ := cells4q HR4.out
  obtain ⟨t0, t1, t2, t3, t4⟩ := cells5 HT4.out
  have f1 := frz HR4.out 1
  go_upto_region 27 with (fail)
  obtain ⟨w5, hw5⟩ : ∃ w5, w5 = w4.setCell ⟨g, 1, none⟩ (.int .i64 (tb : Int)) := ⟨_, rfl⟩
  have HR5 : Hid (w5.heap[g]? = some (obQ s ⟨tb, 0, p⟩)) := by
    rw [hw5]; have := blk_set HR4.out 1 (.int .i64 (tb : Int)); exact Lib.hid (by simpa using this)
  have HG5 : Hid (Grw (fun j => j = g) w4 w5) := by rw [hw5]; exact Lib.hid (gr_one w4 g 1 _)
  have HK5 := Lib.hid ((HG5.out.block (Array.getElem?_eq_some_iff.1 HK4.out).1 (by omega)).trans HK4.out)
  have HV5 := Lib.hid ((HG5.out.block (Array.getElem?_eq_some_iff.1 HV4.out).1 (by omega)).trans HV4.out)
  have HGB : Hid (w.grownBy w5 (some g)) := gb_trans (gb_one (gb_below HB3.out) (by omega) HG4.out) (by rw [hw5]; exact gb_set w4 g 1 _)
  rw [← hw5]
  clear hw5 c0 c1 c2 c3 t0 t1 t2 t3 t4 f1
  obtain ⟨x0, x1, x2, x3, x4, x5⟩ := cells6 HV5.out
  obtain ⟨u0, u1, u2, u3, u4, u5⟩ := cells6 HK5.out
  have z0 := frz HK5.out 0
  have z1 := frz HK5.out 1
  have z2 := frz HK5.out 2
  have z3 := frz HK5.out 3
  have z4 := frz HK5.out 4
  have z5 := frz HK5.out 5
  have HH := Lib.hid (set6 HK5.out (.int .i64 2) (.bool false) (.int .i64 tn) (.string ⟨#[]⟩) (.slice none 0 0) (.slice none 0 0))
  have HZ := Lib.hid (gr_set6 w5 w.heap.size (.int .i64 2) (.bool false) (.int .i64 tn) (.string ⟨#[]⟩) (.slice none 0 0) (.slice none 0 0))
  go_wp2_with fail
  obtain ⟨d0, d1, d2, d3, d4, d5⟩ := cells6 HH.out
  clear u0 u1 u2 u3 u4 u5 z0 z1 z2 z3 z4 z5 x0 x1 x2 x3 x4 x5
  (with_reducible refine bodyPost_ret (v := .agg #[.int .i64 2, .bool false, .int .i64 tn, .string ⟨#[]⟩, .slice none 0 0, .slice none 0 0]) (by simp [results, Tryz.results12, go_sem, d0, d1, d2, d3, d4, d5]) rfl ?_)
  exact ⟨rfl, (HZ.out.block (Array.getElem?_eq_some_iff.1 HR5.out).1 (by omega)).trans HR5.out, gb_one HGB.out (Nat.le_refl _) HZ.out⟩
set_option maxRecDepth 100000 in
set_option maxHeartbeats 2000000 in
theorem vq_9 (s : ByteArray) (a p g tk ta tb : Nat) (b : Int) (tt : List UInt8) (tn pe op mo : Int) (w : World) (h : w.heap[g]? = some (obQ s ⟨a, b, p⟩)) (hb : b = 0) (hp : pe = 0) (hk : tk = 9)
    (HP : Hid (∀ W, W.heap[g]? = some (obQ s ⟨a, b, p⟩) → Calls Tryz.prog 25 #[.pointer (some ⟨g, 0, none⟩)] W fun e w' => e = .returned (.tuple #[.agg #[.int .i64 (tk : Int), .int .i64 (ta : Int), .int .i64 (tb : Int), .string (mkS tt), .int .i64 tn], .int .i64 pe]) ∧ Below W.heap.size W w')) :
    Calls Tryz.prog 12 #[.pointer (some ⟨g, 0, none⟩), .int .i64 op, .int .i64 mo] w fun e w' => e = .returned (.agg #[.int .i64 1, .bool true, .int .i64 0, .string ⟨#[]⟩, .slice none 0 0, .slice none 0 0]) ∧ QsQ g s ⟨tb, 0, p⟩ w w' := by
  obtain ⟨W0, hW0, hk0, hb0⟩ := newW w (.int .i64 0) (.bool false) (.int .i64 0) (.string ⟨#[]⟩) (.slice none 0 0) (.slice none 0 0)
  have hgl : g < w.heap.size := (Array.getElem?_eq_some_iff.1 h).1
  have HW0 := Lib.hid hW0
  have HB0 := Lib.hid hb0
  have HK0 := Lib.hid hk0
  have HR0 := Lib.hid ((hb0.block _ hgl).trans h)
  have hz0 : w.heap.size < W0.heap.size := (Array.getElem?_eq_some_iff.1 hk0).1
  have HPW := Lib.hid (HP.out W0 HR0.out)
  subst hb
  subst hp
  subst hk
  clear hW0 hk0 hb0 h HP
  go_enter Tryz.func12, Tryz.ntmps12
  go_upto_region 1 with (fail)
  rw [← HW0.out]
  go_upto_region 2 with (go_at_call 25; (with_reducible refine HPW.out.mono ?_); rintro e w1 ⟨rfl, hb1⟩; have HB1 := Lib.hid hb1; clear hb1)
  obtain ⟨W2, hW2, hk2, hb2⟩ := newK w1 9 ta tb (mkS tt) tn
  have HW2 := Lib.hid hW2
  have HB02 := Lib.hid (btr1 HB1.out hb2)
  have HB2 : Hid (Below w.heap.size w W2) := HB0.out.trans (HB02.out.mono HB0.out.size)
  have HR2 := Lib.hid ((HB02.out.block _ (by omega)).trans HR0.out)
  have HK2 := Lib.hid ((HB02.out.block _ hz0).trans HK0.out)
  have HT2 := Lib.hid hk2
  have hz1 : w.heap.size < w1.heap.size := Nat.lt_of_lt_of_le hz0 HB1.out.size
  have hz2 : w1.heap.size < W2.heap.size := (Array.getElem?_eq_some_iff.1 hk2).1
  clear hW2 hk2 hb2
  rw [← HW2.out]
  obtain ⟨c0, c1, c2, c3⟩ := cells4q HR2.out
  obtain ⟨t0, t1, t2, t3, t4⟩ := cells5 HT2.out
  obtain ⟨W3, hW3, hk3, hb3⟩ := newW W2 (.int .i64 0) (.bool false) (.int .i64 0) (.string ⟨#[]⟩) (.slice none 0 0) (.slice none 0 0)
  have HW3 := Lib.hid hW3
  have HB3 : Hid (Below w.heap.size w W3) := HB2.out.trans (hb3.mono HB2.out.size)
  have HR3 := Lib.hid ((hb3.block _ (Array.getElem?_eq_some_iff.1 HR2.out).1).trans HR2.out)
  have HK3 := Lib.hid ((hb3.block _ (Array.getElem?_eq_some_iff.1 HK2.out).1).trans HK2.out)
  have HT3 := Lib.hid ((hb3.block _ hz2).trans HT2.out)
  have HV3 := Lib.hid hk3
  have hz3 : W2.heap.size < W3.heap.size := (Array.getElem?_eq_some_iff.1 hk3).1
  clear hW3 hk3 hb3
  go_upto_region 11 with (fail)
  rw [← HW3.out]
  clear c0 c1 c2 c3 t0 t1 t2 t3 t4
  obtain ⟨c0, c1, c2, c3⟩ := cells4q HR3.out
  obtain ⟨t0, t1, t2, t3, t4⟩ := cells5 HT3.out
  obtain ⟨x0, x1, x2, x3, x4, x5⟩ := cells6 HV3.out
  have y0 := frz HV3.out 0
  have y1 := frz HV3.out 1
  have y2 := frz HV3.out 2
  have y3 := frz HV3.out 3
  have y4 := frz HV3.out 4
  have y5 := frz HV3.out 5
  have HV4 := Lib.hid (set6 HV3.out (.int .i64 1) (.bool true) (.int .i64 0) (.string ⟨#[]⟩) (.slice none 0 0) (.slice none 0 0))
  have HG4 := Lib.hid (gr_set6 W3 W2.heap.size (.int .i64 1) (.bool true) (.int .i64 0) (.string ⟨#[]⟩) (.slice none 0 0) (.slice none 0 0))
  go_upto_region 26 with (fail)
  clear x0 x1 x2 x3 x4 x5 y0 y1 y2 y3 y4 y5
  revert HV4 HG4
  generalize ((((((W3.setCell ⟨W2.heap.size, 0, none⟩ (.int .i64 1)).setCell ⟨W2.heap.size, 1, none⟩ (.bool true)).setCell ⟨W2.heap.size, 2, none⟩ (.int .i64 0)).setCell ⟨W2.heap.size, 3, none⟩ (.string ⟨#[]⟩)).setCell ⟨W2.heap.size, 4, none⟩ (.slice none 0 0)).setCell ⟨W2.heap.size, 5, none⟩ (.slice none 0 0)) = w4
  intro HV4 HG4
  clear c0 c1 c2 c3 t0 t1 t2 t3 t4
  have hgs : g < W3.heap.size := (Array.getElem?_eq_some_iff.1 HR3.out).1
  have HR4 := Lib.hid ((HG4.out.block hgs (by omega)).trans HR3.out)
  have HK4 := Lib.hid ((HG4.out.block (Array.getElem?_eq_some_iff.1 HK3.out).1 (by omega)).trans HK3.out)
  have HT4 := Lib.hid ((HG4.out.block (Array.getElem?_eq_some_iff.1 HT3.out).1 (by omega)).trans HT3.out)
  obtain ⟨c0, c1, c2, c3⟩ := cells4q HR4.out
  obtain ⟨t0, t1, t2, t3, t4⟩ := cells5 HT4.out
  have f1 := frz HR4.out 1
  go_upto_region 27 with (fail)
  obtain ⟨w5, hw5⟩ : ∃ w5, w5 = w4.setCell ⟨g, 1, none⟩ (.int .i64 (tb : Int)) := ⟨_, rfl⟩
  have HR5 : Hid (w5.heap[g]? = some (obQ s ⟨tb, 0, p⟩)) := by
    rw [hw5]; have := blk_set HR4.out 1 (.int .i64 (tb : Int)); exact Lib.hid (by simpa using this)
  have HG5 : Hid (Grw (fun j => j = g) w4 w5) := by rw [hw5]; exact Lib.hid (gr_one w4 g 1 _)
  have HK5 := Lib.hid ((HG5.out.block (Array.getElem?_eq_some_iff.1 HK4.out).1 (by omega)).trans HK4.out)
  have HV5 := Lib.hid ((HG5.out.block (Array.getElem?_eq_some_iff.1 HV4.out).1 (by omega)).trans HV4.out)
  have HGB : Hid (w.grownBy w5 (some g)) := gb_trans (gb_one (gb_below HB3.out) (by omega) HG4.out) (by rw [hw5]; exact gb_set w4 g 1 _)
  rw [← hw5]
  clear hw5 c0 c1 c2 c3 t0 t1 t2 t3 t4 f1
  obtain ⟨x0, x1, x2, x3, x4, x5⟩ := cells6 HV5.out
  obtain ⟨u0, u1, u2, u3, u4, u5⟩ := cells6 HK5.out
  have z0 := frz HK5.out 0
  have z1 := frz HK5.out 1
  have z2 := frz HK5.out 2
  have z3 := frz HK5.out 3
  have z4 := frz HK5.out 4
  have z5 := frz HK5.out 5
  have HH := Lib.hid (set6 HK5.out (.int .i64 1) (.bool true) (.int .i64 0) (.string ⟨#[]⟩) (.slice none 0 0) (.slice none 0 0))
  have HZ := Lib.hid (gr_set6 w5 w.heap.size (.int .i64 1) (.bool true) (.int .i64 0) (.string ⟨#[]⟩) (.slice none 0 0) (.slice none 0 0))
  go_wp2_with fail
  obtain ⟨d0, d1, d2, d3, d4, d5⟩ := cells6 HH.out
  clear u0 u1 u2 u3 u4 u5 z0 z1 z2 z3 z4 z5 x0 x1 x2 x3 x4 x5
  (with_reducible refine bodyPost_ret (v := .agg #[.int .i64 1, .bool true, .int .i64 0, .string ⟨#[]⟩, .slice none 0 0, .slice none 0 0]) (by simp [results, Tryz.results12, go_sem, d0, d1, d2, d3, d4, d5]) rfl ?_)
  exact ⟨rfl, (HZ.out.block (Array.getElem?_eq_some_iff.1 HR5.out).1 (by omega)).trans HR5.out, gb_one HGB.out (Nat.le_refl _) HZ.out⟩
set_option maxRecDepth 100000 in
set_option maxHeartbeats 2000000 in
theorem vq_10 (s : ByteArray) (a p g tk ta tb : Nat) (b : Int) (tt : List UInt8) (tn pe op mo : Int) (w : World) (h : w.heap[g]? = some (obQ s ⟨a, b, p⟩)) (hb : b = 0) (hp : pe = 0) (hk : tk = 10)
    (HP : Hid (∀ W, W.heap[g]? = some (obQ s ⟨a, b, p⟩) → Calls Tryz.prog 25 #[.pointer (some ⟨g, 0, none⟩)] W fun e w' => e = .returned (.tuple #[.agg #[.int .i64 (tk : Int), .int .i64 (ta : Int), .int .i64 (tb : Int), .string (mkS tt), .int .i64 tn], .int .i64 pe]) ∧ Below W.heap.size W w')) :
    Calls Tryz.prog 12 #[.pointer (some ⟨g, 0, none⟩), .int .i64 op, .int .i64 mo] w fun e w' => e = .returned (.agg #[.int .i64 1, .bool false, .int .i64 0, .string ⟨#[]⟩, .slice none 0 0, .slice none 0 0]) ∧ QsQ g s ⟨tb, 0, p⟩ w w' := by
  obtain ⟨W0, hW0, hk0, hb0⟩ := newW w (.int .i64 0) (.bool false) (.int .i64 0) (.string ⟨#[]⟩) (.slice none 0 0) (.slice none 0 0)
  have hgl : g < w.heap.size := (Array.getElem?_eq_some_iff.1 h).1
  have HW0 := Lib.hid hW0
  have HB0 := Lib.hid hb0
  have HK0 := Lib.hid hk0
  have HR0 := Lib.hid ((hb0.block _ hgl).trans h)
  have hz0 : w.heap.size < W0.heap.size := (Array.getElem?_eq_some_iff.1 hk0).1
  have HPW := Lib.hid (HP.out W0 HR0.out)
  subst hb
  subst hp
  subst hk
  clear hW0 hk0 hb0 h HP
  go_enter Tryz.func12, Tryz.ntmps12
  go_upto_region 1 with (fail)
  rw [← HW0.out]
  go_upto_region 2 with (go_at_call 25; (with_reducible refine HPW.out.mono ?_); rintro e w1 ⟨rfl, hb1⟩; have HB1 := Lib.hid hb1; clear hb1)
  obtain ⟨W2, hW2, hk2, hb2⟩ := newK w1 10 ta tb (mkS tt) tn
  have HW2 := Lib.hid hW2
  have HB02 := Lib.hid (btr1 HB1.out hb2)
  have HB2 : Hid (Below w.heap.size w W2) := HB0.out.trans (HB02.out.mono HB0.out.size)
  have HR2 := Lib.hid ((HB02.out.block _ (by omega)).trans HR0.out)
  have HK2 := Lib.hid ((HB02.out.block _ hz0).trans HK0.out)
  have HT2 := Lib.hid hk2
  have hz1 : w.heap.size < w1.heap.size := Nat.lt_of_lt_of_le hz0 HB1.out.size
  have hz2 : w1.heap.size < W2.heap.size := (Array.getElem?_eq_some_iff.1 hk2).1
  clear hW2 hk2 hb2
  rw [← HW2.out]
  obtain ⟨c0, c1, c2, c3⟩ := cells4q HR2.out
  obtain ⟨t0, t1, t2, t3, t4⟩ := cells5 HT2.out
  obtain ⟨W3, hW3, hk3, hb3⟩ := newW W2 (.int .i64 0) (.bool false) (.int .i64 0) (.string ⟨#[]⟩) (.slice none 0 0) (.slice none 0 0)
  have HW3 := Lib.hid hW3
  have HB3 : Hid (Below w.heap.size w W3) := HB2.out.trans (hb3.mono HB2.out.size)
  have HR3 := Lib.hid ((hb3.block _ (Array.getElem?_eq_some_iff.1 HR2.out).1).trans HR2.out)
  have HK3 := Lib.hid ((hb3.block _ (Array.getElem?_eq_some_iff.1 HK2.out).1).trans HK2.out)
  have HT3 := Lib.hid ((hb3.block _ hz2).trans HT2.out)
  have HV3 := Lib.hid hk3
  have hz3 : W2.heap.size < W3.heap.size := (Array.getElem?_eq_some_iff.1 hk3).1
  clear hW3 hk3 hb3
  go_upto_region 11 with (fail)
  rw [← HW3.out]
  clear c0 c1 c2 c3 t0 t1 t2 t3 t4
  obtain ⟨c0, c1, c2, c3⟩ := cells4q HR3.out
  obtain ⟨t0, t1, t2, t3, t4⟩ := cells5 HT3.out
  obtain ⟨x0, x1, x2, x3, x4, x5⟩ := cells6 HV3.out
  have y0 := frz HV3.out 0
  have y1 := frz HV3.out 1
  have y2 := frz HV3.out 2
  have y3 := frz HV3.out 3
  have y4 := frz HV3.out 4
  have y5 := frz HV3.out 5
  have HV4 := Lib.hid (set6 HV3.out (.int .i64 1) (.bool false) (.int .i64 0) (.string ⟨#[]⟩) (.slice none 0 0) (.slice none 0 0))
  have HG4 := Lib.hid (gr_set6 W3 W2.heap.size (.int .i64 1) (.bool false) (.int .i64 0) (.string ⟨#[]⟩) (.slice none 0 0) (.slice none 0 0))
  go_upto_region 26 with (fail)
  clear x0 x1 x2 x3 x4 x5 y0 y1 y2 y3 y4 y5
  revert HV4 HG4
  generalize ((((((W3.setCell ⟨W2.heap.size, 0, none⟩ (.int .i64 1)).setCell ⟨W2.heap.size, 1, none⟩ (.bool false)).setCell ⟨W2.heap.size, 2, none⟩ (.int .i64 0)).setCell ⟨W2.heap.size, 3, none⟩ (.string ⟨#[]⟩)).setCell ⟨W2.heap.size, 4, none⟩ (.slice none 0 0)).setCell ⟨W2.heap.size, 5, none⟩ (.slice none 0 0)) = w4
  intro HV4 HG4
  clear c0 c1 c2 c3 t0 t1 t2 t3 t4
  have hgs : g < W3.heap.size := (Array.getElem?_eq_some_iff.1 HR3.out).1
  have HR4 := Lib.hid ((HG4.out.block hgs (by omega)).trans HR3.out)
  have HK4 := Lib.hid ((HG4.out.block (Array.getElem?_eq_some_iff.1 HK3.out).1 (by omega)).trans HK3.out)
  have HT4 := Lib.hid ((HG4.out.block (Array.getElem?_eq_some_iff.1 HT3.out).1 (by omega)).trans HT3.out)
  obtain ⟨c0, c1, c2, c3⟩ := cells4q HR4.out
  obtain ⟨t0, t1, t2, t3, t4⟩ := cells5 HT4.out
  have f1 := frz HR4.out 1
  go_upto_region 27 with (fail)
  obtain ⟨w5, hw5⟩ : ∃ w5, w5 = w4.setCell ⟨g, 1, none⟩ (.int .i64 (tb : Int)) := ⟨_, rfl⟩
  have HR5 : Hid (w5.heap[g]? = some (obQ s ⟨tb, 0, p⟩)) := by
    rw [hw5]; have := blk_set HR4.out 1 (.int .i64 (tb : Int)); exact Lib.hid (by simpa using this)
  have HG5 : Hid (Grw (fun j => j = g) w4 w5) := by rw [hw5]; exact Lib.hid (gr_one w4 g 1 _)
  have HK5 := Lib.hid ((HG5.out.block (Array.getElem?_eq_some_iff.1 HK4.out).1 (by omega)).trans HK4.out)
  have HV5 := Lib.hid ((HG5.out.block (Array.getElem?_eq_some_iff.1 HV4.out).1 (by omega)).trans HV4.out)
  have HGB : Hid (w.grownBy w5 (some g)) := gb_trans (gb_one (gb_below HB3.out) (by omega) HG4.out) (by rw [hw5]; exact gb_set w4 g 1 _)
  rw [← hw5]
  clear hw5 c0 c1 c2 c3 t0 t1 t2 t3 t4 f1
  obtain ⟨x0, x1, x2, x3, x4, x5⟩ := cells6 HV5.out
  obtain ⟨u0, u1, u2, u3, u4, u5⟩ := cells6 HK5.out
  have z0 := frz HK5.out 0
  have z1 := frz HK5.out 1
  have z2 := frz HK5.out 2
  have z3 := frz HK5.out 3
  have z4 := frz HK5.out 4
  have z5 := frz HK5.out 5
  have HH := Lib.hid (set6 HK5.out (.int .i64 1) (.bool false) (.int .i64 0) (.string ⟨#[]⟩) (.slice none 0 0) (.slice none 0 0))
  have HZ := Lib.hid (gr_set6 w5 w.heap.size (.int .i64 1) (.bool false) (.int .i64 0) (.string ⟨#[]⟩) (.slice none 0 0) (.slice none 0 0))
  go_wp2_with fail
  obtain ⟨d0, d1, d2, d3, d4, d5⟩ := cells6 HH.out
  clear u0 u1 u2 u3 u4 u5 z0 z1 z2 z3 z4 z5 x0 x1 x2 x3 x4 x5
  (with_reducible refine bodyPost_ret (v := .agg #[.int .i64 1, .bool false, .int .i64 0, .string ⟨#[]⟩, .slice none 0 0, .slice none 0 0]) (by simp [results, Tryz.results12, go_sem, d0, d1, d2, d3, d4, d5]) rfl ?_)
  exact ⟨rfl, (HZ.out.block (Array.getElem?_eq_some_iff.1 HR5.out).1 (by omega)).trans HR5.out, gb_one HGB.out (Nat.le_refl _) HZ.out⟩
set_option maxRecDepth 100000 in
set_option maxHeartbeats 2000000 in
theorem vq_o (s : ByteArray) (a p g tk ta tb : Nat) (b : Int) (tt : List UInt8) (tn pe op mo : Int) (w : World) (h : w.heap[g]? = some (obQ s ⟨a, b, p⟩)) (hb : b = 0) (hp : pe = 0) (hk : tk ≠ 1 ∧ tk ≠ 3 ∧ tk ≠ 7 ∧ tk ≠ 8 ∧ tk ≠ 9 ∧ tk ≠ 10 ∧ tk ≠ 11) (st1 : QS) (HF : Hid (∀ W, W.heap[g]? = some (obQ s ⟨a, 0, p⟩) → Calls Tryz.prog 14 #[.pointer (some ⟨g, 0, none⟩), .int .i64 3] W fun r w' => r = .returned (.tuple #[]) ∧ QsQ g s st1 W w'))
    (HP : Hid (∀ W, W.heap[g]? = some (obQ s ⟨a, b, p⟩) → Calls Tryz.prog 25 #[.pointer (some ⟨g, 0, none⟩)] W fun e w' => e = .returned (.tuple #[.agg #[.int .i64 (tk : Int), .int .i64 (ta : Int), .int .i64 (tb : Int), .string (mkS tt), .int .i64 tn], .int .i64 pe]) ∧ Below W.heap.size W w')) :
    Calls Tryz.prog 12 #[.pointer (some ⟨g, 0, none⟩), .int .i64 op, .int .i64 mo] w fun e w' => e = .returned (.agg #[.int .i64 0, .bool false, .int .i64 0, .string ⟨#[]⟩, .slice none 0 0, .slice none 0 0]) ∧ QsQ g s st1 w w' := by
  obtain ⟨W0, hW0, hk0, hb0⟩ := newW w (.int .i64 0) (.bool false) (.int .i64 0) (.string ⟨#[]⟩) (.slice none 0 0) (.slice none 0 0)
  have hgl : g < w.heap.size := (Array.getElem?_eq_some_iff.1 h).1
  have HW0 := Lib.hid hW0
  have HB0 := Lib.hid hb0
  have HK0 := Lib.hid hk0
  have HR0 := Lib.hid ((hb0.block _ hgl).trans h)
  have hz0 : w.heap.size < W0.heap.size := (Array.getElem?_eq_some_iff.1 hk0).1
  have HPW := Lib.hid (HP.out W0 HR0.out)
  subst hb
  subst hp
  have i1 : ((tk : Int) == 1) = false := by simpa using (by omega : ¬ (tk : Int) = 1)
  have i3 : ((tk : Int) == 3) = false := by simpa using (by omega : ¬ (tk : Int) = 3)
  have i7 : ((tk : Int) == 7) = false := by simpa using (by omega : ¬ (tk : Int) = 7)
  have i8 : ((tk : Int) == 8) = false := by simpa using (by omega : ¬ (tk : Int) = 8)
  have i9 : ((tk : Int) == 9) = false := by simpa using (by omega : ¬ (tk : Int) = 9)
  have i10 : ((tk : Int) == 10) = false := by simpa using (by omega : ¬ (tk : Int) = 10)
  have i11 : ((tk : Int) == 11) = false := by simpa using (by omega : ¬ (tk : Int) = 11)
  clear hk
  clear hW0 hk0 hb0 h HP
  go_enter Tryz.func12, Tryz.ntmps12
  go_upto_region 1 with (fail)
  rw [← HW0.out]
  go_upto_region 2 with (go_at_call 25; (with_reducible refine HPW.out.mono ?_); rintro e w1 ⟨rfl, hb1⟩; have HB1 := Lib.hid hb1; clear hb1)
  obtain ⟨W2, hW2, hk2, hb2⟩ := newK w1 tk ta tb (mkS tt) tn
  have HW2 := Lib.hid hW2
  have HB02 := Lib.hid (btr1 HB1.out hb2)
  have HB2 : Hid (Below w.heap.size w W2) := HB0.out.trans (HB02.out.mono HB0.out.size)
  have HR2 := Lib.hid ((HB02.out.block _ (by omega)).trans HR0.out)
  have HK2 := Lib.hid ((HB02.out.block _ hz0).trans HK0.out)
  have HT2 := Lib.hid hk2
  have hz1 : w.heap.size < w1.heap.size := Nat.lt_of_lt_of_le hz0 HB1.out.size
  have hz2 : w1.heap.size < W2.heap.size := (Array.getElem?_eq_some_iff.1 hk2).1
  clear hW2 hk2 hb2
  rw [← HW2.out]
  obtain ⟨c0, c1, c2, c3⟩ := cells4q HR2.out
  obtain ⟨t0, t1, t2, t3, t4⟩ := cells5 HT2.out
  obtain ⟨W3, hW3, hk3, hb3⟩ := newW W2 (.int .i64 0) (.bool false) (.int .i64 0) (.string ⟨#[]⟩) (.slice none 0 0) (.slice none 0 0)
  have HW3 := Lib.hid hW3
  have HB3 : Hid (Below w.heap.size w W3) := HB2.out.trans (hb3.mono HB2.out.size)
  have HR3 := Lib.hid ((hb3.block _ (Array.getElem?_eq_some_iff.1 HR2.out).1).trans HR2.out)
  have HK3 := Lib.hid ((hb3.block _ (Array.getElem?_eq_some_iff.1 HK2.out).1).trans HK2.out)
  have HT3 := Lib.hid ((hb3.block _ hz2).trans HT2.out)
  have HV3 := Lib.hid hk3
  have hz3 : W2.heap.size < W3.heap.size := (Array.getElem?_eq_some_iff.1 hk3).1
  clear hW3 hk3 hb3
  go_upto_region 11 with (fail)
  rw [← HW3.out]
  clear c0 c1 c2 c3 t0 t1 t2 t3 t4
  obtain ⟨c0, c1, c2, c3⟩ := cells4q HR3.out
  obtain ⟨t0, t1, t2, t3, t4⟩ := cells5 HT3.out
  have HFW := Lib.hid (HF.out W3 HR3.out)
  go_upto_region 13 with (go_at_call 14; (with_reducible refine HFW.out.mono ?_); rintro e w3 ⟨rfl, hq3⟩; have HQ3 := Lib.hid hq3; clear hq3)
  clear c0 c1 c2 c3 t0 t1 t2 t3 t4
  have HK3 := Lib.hid ((HQ3.out.2.block w.heap.size (by omega) (fun e => by injection e with e; omega)).trans HK3.out)
  have hzz : W3.heap.size ≤ w3.heap.size := HQ3.out.2.size
  obtain ⟨u0, u1, u2, u3, u4, u5⟩ := cells6 HK3.out
  have z0 := frz HK3.out 0
  have z1 := frz HK3.out 1
  have z2 := frz HK3.out 2
  have z3 := frz HK3.out 3
  have z4 := frz HK3.out 4
  have z5 := frz HK3.out 5
  have HH := Lib.hid (set6 HK3.out (.int .i64 0) (.bool false) (.int .i64 0) (.string ⟨#[]⟩) (.slice none 0 0) (.slice none 0 0))
  have HZ := Lib.hid (gr_set6 w3 w.heap.size (.int .i64 0) (.bool false) (.int .i64 0) (.string ⟨#[]⟩) (.slice none 0 0) (.slice none 0 0))
  go_wp2_with fail
  obtain ⟨d0, d1, d2, d3, d4, d5⟩ := cells6 HH.out
  clear u0 u1 u2 u3 u4 u5 z0 z1 z2 z3 z4 z5
  (with_reducible refine bodyPost_ret (v := .agg #[.int .i64 0, .bool false, .int .i64 0, .string ⟨#[]⟩, .slice none 0 0, .slice none 0 0]) (by simp [results, Tryz.results12, go_sem, d0, d1, d2, d3, d4, d5]) rfl ?_)
  exact ⟨rfl, (HZ.out.block (by omega) (by omega)).trans HQ3.out.1, gb_one (gb_trans (gb_below HB3.out) HQ3.out.2) (Nat.le_refl _) HZ.out⟩
set_option maxRecDepth 100000 in
set_option maxHeartbeats 2000000 in
theorem vq_m1 (s : ByteArray) (a p g tk ta tb : Nat) (b : Int) (tt : List UInt8) (tn pe op mo : Int) (w : World) (h : w.heap[g]? = some (obQ s ⟨a, b, p⟩)) (hb : b = 0) (hp : pe = 0) (hk : tk = 1) (ho : op < mo) (X : JV) (st1 : QS) (HM : Hid (∀ W, W.heap[g]? = some (obQ s ⟨tb, 0, p⟩) → Calls Tryz.prog 26 #[.pointer (some ⟨g, 0, none⟩), .int .i64 1, .int .i64 op, .int .i64 mo] W fun e w' => ∃ xk xb xn xt xo xl xq yo yl yq, e = .returned (.agg #[.int .i64 xk, .bool xb, .int .i64 xn, .string xt, .slice xo xl xq, .slice yo yl yq]) ∧ Rep (fun j => W.heap.size ≤ j) w' X (c6 xk xb xn xt xo xl xq yo yl yq) ∧ QsQ g s st1 W w'))
    (HP : Hid (∀ W, W.heap[g]? = some (obQ s ⟨a, b, p⟩) → Calls Tryz.prog 25 #[.pointer (some ⟨g, 0, none⟩)] W fun e w' => e = .returned (.tuple #[.agg #[.int .i64 (tk : Int), .int .i64 (ta : Int), .int .i64 (tb : Int), .string (mkS tt), .int .i64 tn], .int .i64 pe]) ∧ Below W.heap.size W w')) :
    Calls Tryz.prog 12 #[.pointer (some ⟨g, 0, none⟩), .int .i64 op, .int .i64 mo] w fun e w' => ∃ xk xb xn xt xo xl xq yo yl yq, e = .returned (.agg #[.int .i64 xk, .bool xb, .int .i64 xn, .string xt, .slice xo xl xq, .slice yo yl yq]) ∧ Rep (fun j => w.heap.size ≤ j) w' X (c6 xk xb xn xt xo xl xq yo yl yq) ∧ QsQ g s st1 w w' := by
  obtain ⟨W0, hW0, hk0, hb0⟩ := newW w (.int .i64 0) (.bool false) (.int .i64 0) (.string ⟨#[]⟩) (.slice none 0 0) (.slice none 0 0)
  have hgl : g < w.heap.size := (Array.getElem?_eq_some_iff.1 h).1
  have HW0 := Lib.hid hW0
  have HB0 := Lib.hid hb0
  have HK0 := Lib.hid hk0
  have HR0 := Lib.hid ((hb0.block _ hgl).trans h)
  have hz0 : w.heap.size < W0.heap.size := (Array.getElem?_eq_some_iff.1 hk0).1
  have HPW := Lib.hid (HP.out W0 HR0.out)
  subst hb
  subst hp
  subst hk
  have ho2 : ¬ op ≥ mo := by omega
  clear hW0 hk0 hb0 h HP
  go_enter Tryz.func12, Tryz.ntmps12
  go_upto_region 1 with (fail)
  rw [← HW0.out]
  go_upto_region 2 with (go_at_call 25; (with_reducible refine HPW.out.mono ?_); rintro e w1 ⟨rfl, hb1⟩; have HB1 := Lib.hid hb1; clear hb1)
  obtain ⟨W2, hW2, hk2, hb2⟩ := newK w1 1 ta tb (mkS tt) tn
  have HW2 := Lib.hid hW2
  have HB02 := Lib.hid (btr1 HB1.out hb2)
  have HB2 : Hid (Below w.heap.size w W2) := HB0.out.trans (HB02.out.mono HB0.out.size)
  have HR2 := Lib.hid ((HB02.out.block _ (by omega)).trans HR0.out)
  have HK2 := Lib.hid ((HB02.out.block _ hz0).trans HK0.out)
  have HT2 := Lib.hid hk2
  have hz1 : w.heap.size < w1.heap.size := Nat.lt_of_lt_of_le hz0 HB1.out.size
  have hz2 : w1.heap.size < W2.heap.size := (Array.getElem?_eq_some_iff.1 hk2).1
  clear hW2 hk2 hb2
  rw [← HW2.out]
  obtain ⟨c0, c1, c2, c3⟩ := cells4q HR2.out
  obtain ⟨t0, t1, t2, t3, t4⟩ := cells5 HT2.out
  obtain ⟨W3, hW3, hk3, hb3⟩ := newW W2 (.int .i64 0) (.bool false) (.int .i64 0) (.string ⟨#[]⟩) (.slice none 0 0) (.slice none 0 0)
  have HW3 := Lib.hid hW3
  have HB3 : Hid (Below w.heap.size w W3) := HB2.out.trans (hb3.mono HB2.out.size)
  have HR3 := Lib.hid ((hb3.block _ (Array.getElem?_eq_some_iff.1 HR2.out).1).trans HR2.out)
  have HK3 := Lib.hid ((hb3.block _ (Array.getElem?_eq_some_iff.1 HK2.out).1).trans HK2.out)
  have HT3 := Lib.hid ((hb3.block _ hz2).trans HT2.out)
  have HV3 := Lib.hid hk3
  have hz3 : W2.heap.size < W3.heap.size := (Array.getElem?_eq_some_iff.1 hk3).1
  clear hW3 hk3 hb3
  go_upto_region 11 with (fail)
  rw [← HW3.out]
  clear c0 c1 c2 c3 t0 t1 t2 t3 t4
  obtain ⟨c0, c1, c2, c3⟩ := cells4q HR3.out
  obtain ⟨t0, t1, t2, t3, t4⟩ := cells5 HT3.out
  have f1 := frz HR3.out 1
  obtain ⟨w5, hw5⟩ : ∃ w5, w5 = W3.setCell ⟨g, 1, none⟩ (.int .i64 (tb : Int)) := ⟨_, rfl⟩
  have hgs : g < W3.heap.size := (Array.getElem?_eq_some_iff.1 HR3.out).1
  have HR5 : Hid (w5.heap[g]? = some (obQ s ⟨tb, 0, p⟩)) := by
    rw [hw5]; have := blk_set HR3.out 1 (.int .i64 (tb : Int)); exact Lib.hid (by simpa using this)
  have HG5 : Hid (Grw (fun j => j = g) W3 w5) := by rw [hw5]; exact Lib.hid (gr_one W3 g 1 _)
  have HK5 := Lib.hid ((HG5.out.block (Array.getElem?_eq_some_iff.1 HK3.out).1 (by omega)).trans HK3.out)
  have HGB : Hid (w.grownBy w5 (some g)) := gb_trans (gb_below HB3.out) (by rw [hw5]; exact gb_set W3 g 1 _)
  have HMW := Lib.hid (HM.out w5 HR5.out)
  have hzg : W3.heap.size ≤ w5.heap.size := HG5.out.size
  go_upto_region 17 with (fail)
  rw [← hw5]
  clear hw5 f1
  have HT5 := Lib.hid ((HG5.out.block (Array.getElem?_eq_some_iff.1 HT3.out).1 (by omega)).trans HT3.out)
  clear c0 c1 c2 c3 t0 t1 t2 t3 t4
  obtain ⟨t0, t1, t2, t3, t4⟩ := cells5 HT5.out
  go_wp2_with fail
  (with_reducible refine HMW.out.mono ?_)
  rintro e w6 ⟨xk, xb, xn, xt, xo, xl, xq, yo, yl, yq, rfl, hr6, hq6⟩
  have HR6 := Lib.hid hr6
  have HQ6 := Lib.hid hq6
  have HK6 := Lib.hid ((hq6.2.block w.heap.size (by omega) (fun e => by injection e with e; omega)).trans HK5.out)
  have hz6 : w5.heap.size ≤ w6.heap.size := hq6.2.size
  clear hr6 hq6 t0 t1 t2 t3 t4
  obtain ⟨u0, u1, u2, u3, u4, u5⟩ := cells6 HK6.out
  have z0 := frz HK6.out 0
  have z1 := frz HK6.out 1
  have z2 := frz HK6.out 2
  have z3 := frz HK6.out 3
  have z4 := frz HK6.out 4
  have z5 := frz HK6.out 5
  have HH := Lib.hid (set6 HK6.out (.int .i64 xk) (.bool xb) (.int .i64 xn) (.string xt) (.slice xo xl xq) (.slice yo yl yq))
  have HZ := Lib.hid (gr_set6 w6 w.heap.size (.int .i64 xk) (.bool xb) (.int .i64 xn) (.string xt) (.slice xo xl xq) (.slice yo yl yq))
  go_wp2_with fail
  obtain ⟨d0, d1, d2, d3, d4, d5⟩ := cells6 HH.out
  clear u0 u1 u2 u3 u4 u5 z0 z1 z2 z3 z4 z5
  (with_reducible refine bodyPost_ret (v := .agg #[.int .i64 xk, .bool xb, .int .i64 xn, .string xt, .slice xo xl xq, .slice yo yl yq]) (by simp [results, Tryz.results12, go_sem, d0, d1, d2, d3, d4, d5]) rfl ?_)
  have kep := fun j (hj : w5.heap.size ≤ j) (hl : j < w6.heap.size) => HZ.out.block hl (by omega : ¬ j = w.heap.size)
  exact ⟨_, _, _, _, _, _, _, _, _, _, rfl, Rep.mono (fun j hj _ => by omega) _ (Rep.keep (P := fun j => w5.heap.size ≤ j) ⟨HZ.out.size, kep⟩ _ HR6.out), (HZ.out.block (Array.getElem?_eq_some_iff.1 HQ6.out.1).1 (by omega)).trans HQ6.out.1, gb_one (gb_trans HGB.out HQ6.out.2) (Nat.le_refl _) HZ.out⟩
set_option maxRecDepth 100000 in
set_option maxHeartbeats 2000000 in
theorem vq_m3 (s : ByteArray) (a p g tk ta tb : Nat) (b : Int) (tt : List UInt8) (tn pe op mo : Int) (w : World) (h : w.heap[g]? = some (obQ s ⟨a, b, p⟩)) (hb : b = 0) (hp : pe = 0) (hk : tk = 3) (ho : op < mo) (X : JV) (st1 : QS) (HM : Hid (∀ W, W.heap[g]? = some (obQ s ⟨tb, 0, p⟩) → Calls Tryz.prog 26 #[.pointer (some ⟨g, 0, none⟩), .int .i64 3, .int .i64 op, .int .i64 mo] W fun e w' => ∃ xk xb xn xt xo xl xq yo yl yq, e = .returned (.agg #[.int .i64 xk, .bool xb, .int .i64 xn, .string xt, .slice xo xl xq, .slice yo yl yq]) ∧ Rep (fun j => W.heap.size ≤ j) w' X (c6 xk xb xn xt xo xl xq yo yl yq) ∧ QsQ g s st1 W w'))
    (HP : Hid (∀ W, W.heap[g]? = some (obQ s ⟨a, b, p⟩) → Calls Tryz.prog 25 #[.pointer (some ⟨g, 0, none⟩)] W fun e w' => e = .returned (.tuple #[.agg #[.int .i64 (tk : Int), .int .i64 (ta : Int), .int .i64 (tb : Int), .string (mkS tt), .int .i64 tn], .int .i64 pe]) ∧ Below W.heap.size W w')) :
    Calls Tryz.prog 12 #[.pointer (some ⟨g, 0, none⟩), .int .i64 op, .int .i64 mo] w fun e w' => ∃ xk xb xn xt xo xl xq yo yl yq, e = .returned (.agg #[.int .i64 xk, .bool xb, .int .i64 xn, .string xt, .slice xo xl xq, .slice yo yl yq]) ∧ Rep (fun j => w.heap.size ≤ j) w' X (c6 xk xb xn xt xo xl xq yo yl yq) ∧ QsQ g s st1 w w' := by
  obtain ⟨W0, hW0, hk0, hb0⟩ := newW w (.int .i64 0) (.bool false) (.int .i64 0) (.string ⟨#[]⟩) (.slice none 0 0) (.slice none 0 0)
  have hgl : g < w.heap.size := (Array.getElem?_eq_some_iff.1 h).1
  have HW0 := Lib.hid hW0
  have HB0 := Lib.hid hb0
  have HK0 := Lib.hid hk0
  have HR0 := Lib.hid ((hb0.block _ hgl).trans h)
  have hz0 : w.heap.size < W0.heap.size := (Array.getElem?_eq_some_iff.1 hk0).1
  have HPW := Lib.hid (HP.out W0 HR0.out)
  subst hb
  subst hp
  subst hk
  have ho2 : ¬ op ≥ mo := by omega
  clear hW0 hk0 hb0 h HP
  go_enter Tryz.func12, Tryz.ntmps12
  go_upto_region 1 with (fail)
  rw [← HW0.out]
  go_upto_region 2 with (go_at_call 25; (with_reducible refine HPW.out.mono ?_); rintro e w1 ⟨rfl, hb1⟩; have HB1 := Lib.hid hb1; clear hb1)
  obtain ⟨W2, hW2, hk2, hb2⟩ := newK w1 3 ta tb (mkS tt) tn
  have HW2 := Lib.hid hW2
  have HB02 := Lib.hid (btr1 HB1.out hb2)
  have HB2 : Hid (Below w.heap.size w W2) := HB0.out.trans (HB02.out.mono HB0.out.size)
  have HR2 := Lib.hid ((HB02.out.block _ (by omega)).trans HR0.out)
  have HK2 := Lib.hid ((HB02.out.block _ hz0).trans HK0.out)
  have HT2 := Lib.hid hk2
  have hz1 : w.heap.size < w1.heap.size := Nat.lt_of_lt_of_le hz0 HB1.out.size
  have hz2 : w1.heap.size < W2.heap.size := (Array.getElem?_eq_some_iff.1 hk2).1
  clear hW2 hk2 hb2
  rw [← HW2.out]
  obtain ⟨c0, c1, c2, c3⟩ := cells4q HR2.out
  obtain ⟨t0, t1, t2, t3, t4⟩ := cells5 HT2.out
  obtain ⟨W3, hW3, hk3, hb3⟩ := newW W2 (.int .i64 0) (.bool false) (.int .i64 0) (.string ⟨#[]⟩) (.slice none 0 0) (.slice none 0 0)
  have HW3 := Lib.hid hW3
  have HB3 : Hid (Below w.heap.size w W3) := HB2.out.trans (hb3.mono HB2.out.size)
  have HR3 := Lib.hid ((hb3.block _ (Array.getElem?_eq_some_iff.1 HR2.out).1).trans HR2.out)
  have HK3 := Lib.hid ((hb3.block _ (Array.getElem?_eq_some_iff.1 HK2.out).1).trans HK2.out)
  have HT3 := Lib.hid ((hb3.block _ hz2).trans HT2.out)
  have HV3 := Lib.hid hk3
  have hz3 : W2.heap.size < W3.heap.size := (Array.getElem?_eq_some_iff.1 hk3).1
  clear hW3 hk3 hb3
  go_upto_region 11 with (fail)
  rw [← HW3.out]
  clear c0 c1 c2 c3 t0 t1 t2 t3 t4
  obtain ⟨c0, c1, c2, c3⟩ := cells4q HR3.out
  obtain ⟨t0, t1, t2, t3, t4⟩ := cells5 HT3.out
  have f1 := frz HR3.out 1
  obtain ⟨w5, hw5⟩ : ∃ w5, w5 = W3.setCell ⟨g, 1, none⟩ (.int .i64 (tb : Int)) := ⟨_, rfl⟩
  have hgs : g < W3.heap.size := (Array.getElem?_eq_some_iff.1 HR3.out).1
  have HR5 : Hid (w5.heap[g]? = some (obQ s ⟨tb, 0, p⟩)) := by
    rw [hw5]; have := blk_set HR3.out 1 (.int .i64 (tb : Int)); exact Lib.hid (by simpa using this)
  have HG5 : Hid (Grw (fun j => j = g) W3 w5) := by rw [hw5]; exact Lib.hid (gr_one W3 g 1 _)
  have HK5 := Lib.hid ((HG5.out.block (Array.getElem?_eq_some_iff.1 HK3.out).1 (by omega)).trans HK3.out)
  have HGB : Hid (w.grownBy w5 (some g)) := gb_trans (gb_below HB3.out) (by rw [hw5]; exact gb_set W3 g 1 _)
  have HMW := Lib.hid (HM.out w5 HR5.out)
  have hzg : W3.heap.size ≤ w5.heap.size := HG5.out.size
  go_upto_region 17 with (fail)
  rw [← hw5]
  clear hw5 f1
  have HT5 := Lib.hid ((HG5.out.block (Array.getElem?_eq_some_iff.1 HT3.out).1 (by omega)).trans HT3.out)
  clear c0 c1 c2 c3 t0 t1 t2 t3 t4
  obtain ⟨t0, t1, t2, t3, t4⟩ := cells5 HT5.out
  go_wp2_with fail
  (with_reducible refine HMW.out.mono ?_)
  rintro e w6 ⟨xk, xb, xn, xt, xo, xl, xq, yo, yl, yq, rfl, hr6, hq6⟩
  have HR6 := Lib.hid hr6
  have HQ6 := Lib.hid hq6
  have HK6 := Lib.hid ((hq6.2.block w.heap.size (by omega) (fun e => by injection e with e; omega)).trans HK5.out)
  have hz6 : w5.heap.size ≤ w6.heap.size := hq6.2.size
  clear hr6 hq6 t0 t1 t2 t3 t4
  obtain ⟨u0, u1, u2, u3, u4, u5⟩ := cells6 HK6.out
  have z0 := frz HK6.out 0
  have z1 := frz HK6.out 1
  have z2 := frz HK6.out 2
  have z3 := frz HK6.out 3
  have z4 := frz HK6.out 4
  have z5 := frz HK6.out 5
  have HH := Lib.hid (set6 HK6.out (.int .i64 xk) (.bool xb) (.int .i64 xn) (.string xt) (.slice xo xl xq) (.slice yo yl yq))
  have HZ := Lib.hid (gr_set6 w6 w.heap.size (.int .i64 xk) (.bool xb) (.int .i64 xn) (.string xt) (.slice xo xl xq) (.slice yo yl yq))
  go_wp2_with fail
  obtain ⟨d0, d1, d2, d3, d4, d5⟩ := cells6 HH.out
  clear u0 u1 u2 u3 u4 u5 z0 z1 z2 z3 z4 z5
  (with_reducible refine bodyPost_ret (v := .agg #[.int .i64 xk, .bool xb, .int .i64 xn, .string xt, .slice xo xl xq, .slice yo yl yq]) (by simp [results, Tryz.results12, go_sem, d0, d1, d2, d3, d4, d5]) rfl ?_)
  have kep := fun j (hj : w5.heap.size ≤ j) (hl : j < w6.heap.size) => HZ.out.block hl (by omega : ¬ j = w.heap.size)
  exact ⟨_, _, _, _, _, _, _, _, _, _, rfl, Rep.mono (fun j hj _ => by omega) _ (Rep.keep (P := fun j => w5.heap.size ≤ j) ⟨HZ.out.size, kep⟩ _ HR6.out), (HZ.out.block (Array.getElem?_eq_some_iff.1 HQ6.out.1).1 (by omega)).trans HQ6.out.1, gb_one (gb_trans HGB.out HQ6.out.2) (Nat.le_refl _) HZ.out⟩
end Go.Proofs.YtpgllcdcpdeicaaGreatDoor.Jv
namespace Go.Proofs.YtpgllcdcpdeicaaGreatDoor.Jv
open Jt
set_option linter.unusedSimpArgs false
set_option linter.unusedVariables false

/-- behind a call: not further back, within the text; what has failed stays so -/
def Fw (n : Nat) (st st' : QS) : Prop := st.at' ≤ st'.at' ∧ st'.at' ≤ n ∧ (st'.bad = 0 → st.bad = 0)
theorem Fw.refl {n : Nat} {st : QS} (h : st.at' ≤ n) : Fw n st st := ⟨Nat.le_refl _, h, fun h => h⟩
theorem Fw.trans {n : Nat} {a b c : QS} (h : Fw n a b) (k : Fw n b c) : Fw n a c := ⟨Nat.le_trans h.1 k.1, k.2.1, fun e => h.2.2 (k.2.2 e)⟩
theorem pkE_tok {l : List UInt8} {a : Nat} (ha : a ≤ l.length) (h : pkE l a = 0) : a < (tokA l a).1.b ∧ (tokA l a).1.b ≤ l.length := by
  have h0 : (tokA l a).2 = 0 := by
    unfold pkE er6 at h; split at h <;> omega
  exact tokA_bd ha h0
theorem failQ_ne {l : List UInt8} {e : Int} {st : QS} (he : e ≠ 0) : (failQ l e st).bad ≠ 0 := by
  unfold failQ; split
  · exact he
  · assumption
theorem failQ_fw {l : List UInt8} {e : Int} {st : QS} (h : st.at' ≤ l.length) : Fw l.length st (failQ l e st) := by
  refine ⟨by rw [failQ_at]; exact Nat.le_refl _, by rw [failQ_at]; exact h, ?_⟩
  unfold failQ; split
  · exact fun _ => by assumption
  · exact fun g => g
theorem isQ_fw {l : List UInt8} {k : Nat} {st : QS} (h : st.at' ≤ l.length) : Fw l.length st (isQ l k st).2 ∧ ((isQ l k st).1 = true → st.at' < (isQ l k st).2.at') := by
  unfold isQ; split
  · rename_i hc
    have := pkE_tok h hc.2.1
    exact ⟨⟨Nat.le_of_lt this.1, this.2, fun e => e⟩, fun _ => this.1⟩
  · exact ⟨Fw.refl h, fun e => by cases e⟩
theorem mustQ_fw {l : List UInt8} {k : Nat} {st : QS} (h : st.at' ≤ l.length) : Fw l.length st (mustQ l k st) ∧ ((mustQ l k st).bad = 0 → st.at' < (mustQ l k st).at') := by
  have hi := isQ_fw (k := k) h
  unfold mustQ
  split
  · rename_i hc
    exact ⟨hi.1, fun _ => hi.2 hc⟩
  · rename_i hc
    have hf : (isQ l k st).2 = st := isQ_f (by simpa using hc)
    rw [hf]
    refine ⟨failQ_fw h, fun e => absurd e (failQ_ne ?_)⟩
    split
    · decide
    · assumption
theorem dupQ_fw {l : List UInt8} {ks : List (List UInt8)} {st : QS} (h : st.at' ≤ l.length) : Fw l.length st (dupQ l ks st) := by
  unfold dupQ; split
  · exact failQ_fw h
  · exact Fw.refl h
theorem keyQ_fw {l : List UInt8} {ks : List (List UInt8)} {st : QS} (h : st.at' ≤ l.length) : Fw l.length st (keyQ l ks st) := by
  have h1 := dupQ_fw (ks := ks) h
  have h2 := (mustQ_fw (k := 7) h1.2.1).1
  have h3 := (mustQ_fw (k := 5) h2.2.1).1
  exact (h1.trans h2).trans h3
theorem vl_fw (l : List UInt8) : ∀ f : Nat, (∀ (room : Int) (st : QS), st.at' ≤ l.length → Fw l.length st (valQ l f room st).2 ∧ ((valQ l f room st).2.bad = 0 → st.at' < (valQ l f room st).2.at')) ∧ (∀ (o : Bool) (room : Int) (ks : List (List UInt8)) (xs : List JV) (st : QS), st.at' ≤ l.length → Fw l.length st (loopQ l f o room ks xs st).2) := by
  intro f
  induction f with
  | zero =>
    refine ⟨fun room st h => ?_, fun o room ks xs st h => ?_⟩
    · rw [valQ]
      have h1 := failQ_fw (l := l) (e := 3) (st := ⟨st.at', st.bad, 0⟩) h
      exact ⟨⟨h1.1, h1.2.1, h1.2.2⟩, fun e => absurd e (failQ_ne (by decide))⟩
    · rw [loopQ]; exact failQ_fw h
  | succ f ih =>
    refine ⟨fun room st h => ?_, fun o room ks xs st h => ?_⟩
    · rw [valQ]
      split
      · rename_i hb; exact ⟨Fw.refl h, fun e => absurd e hb⟩
      · rename_i hb
        split
        · rename_i hp; exact ⟨failQ_fw h, fun e => absurd e (failQ_ne hp)⟩
        · rename_i hp
          have ht := pkE_tok h (Classical.byContradiction hp)
          have hfw : Fw l.length st ⟨(tokA l st.at').1.b, st.bad, st.pos⟩ := ⟨Nat.le_of_lt ht.1, ht.2, fun e => e⟩
          split
          · exact ⟨failQ_fw h, fun e => absurd e (failQ_ne (by decide))⟩
          · split
            · split
              · have hi := (isQ_fw (k := lastK ((tokA l st.at').1.k == 1)) hfw.2.1)
                exact ⟨hfw.trans hi.1, fun _ => Nat.lt_of_lt_of_le ht.1 hi.1.1⟩
              · have hl := ih.2 ((tokA l st.at').1.k == 1) (room - 1) [] [] ⟨(tokA l st.at').1.b, st.bad, st.pos⟩ ht.2
                exact ⟨hfw.trans hl, fun _ => Nat.lt_of_lt_of_le ht.1 hl.1⟩
            · split
              · exact ⟨hfw, fun _ => ht.1⟩
              · split
                · exact ⟨hfw, fun _ => ht.1⟩
                · split
                  · exact ⟨hfw, fun _ => ht.1⟩
                  · split
                    · exact ⟨hfw, fun _ => ht.1⟩
                    · exact ⟨failQ_fw h, fun e => absurd e (failQ_ne (by decide))⟩
    · rw [loopQ]
      split
      · exact Fw.refl h
      · have h1 : Fw l.length st (if o = true then keyQ l ks st else st) := by
          split
          · exact keyQ_fw h
          · exact Fw.refl h
        generalize (if o = true then keyQ l ks st else st) = st1 at h1 ⊢
        generalize (if o = true then ks ++ [(tokA l st.at').1.t] else ks) = ks1
        dsimp only
        have h2 := h1.trans (ih.1 room st1 h1.2.1).1
        generalize valQ l f room st1 = r at h2 ⊢
        have h3 := h2.trans (isQ_fw (k := lastK o) h2.2.1).1
        split
        · exact h3
        · have h4 := h3.trans (mustQ_fw (k := 6) h3.2.1).1
          exact h4.trans (ih.2 o room ks1 (xs ++ [r.1]) _ h4.2.1)
end Go.Proofs.YtpgllcdcpdeicaaGreatDoor.Jv
namespace Go.Proofs.YtpgllcdcpdeicaaGreatDoor.Jv
open Jt
open Go.RowKit Go.ChangeMaps Go.MapKept Go.WideMaps
set_option linter.unusedSimpArgs false
set_option linter.unusedVariables false

theorem RW.gr2 {Q X : Nat → Prop} {B : Nat} {T : TypeId} {v : Value} {xs : List JV} {w w' : World} (h : RW Q B T v xs w) (hg : Grw X w w') (hq : ∀ k, Q k → ¬ X k) (hb : ∀ j, v.ownBlock = some j → ¬ X j) : RW Q B T v xs w' := by
  obtain ⟨css, h1, h2⟩ := h
  exact ⟨css, row_keep h1 hg (fun j e => ⟨(World.ownsRow.lt h1 j e).2, hb j e⟩), h2.keep ⟨hg.size, fun k hk hl => hg.block hl (hq k hk.1)⟩⟩
theorem RW.mono {Q Q' : Nat → Prop} {B : Nat} {T : TypeId} {v : Value} {xs : List JV} {w : World} (h : RW Q B T v xs w) (hq : ∀ k, Q k → k < w.heap.size → Q' k) : RW Q' B T v xs w := by
  obtain ⟨css, h1, h2⟩ := h
  exact ⟨css, h1, h2.mono (fun k hk hl => ⟨hq k hk.1 hl, hk.2⟩)⟩
/-- behind the append of a zero value: the value's block, the six new cells, no cell of the row frozen -/
theorem rt_ap {B n g1 c1 pb : Nat} {T : TypeId} {v : Value} {xs : List Value} {w3 WB V : World} {o : Obj} {z0 z1 z2 z3 z4 z5 : Value} (hown : V.ownsRow B T 6 (.slice (some ⟨g1, 0, none⟩) (n + 1) c1) (n + 1) (xs ++ [z0, z1, z2, z3, z4, z5])) (hgrow : WB.grownBy V v.ownBlock) (hB : Below w3.heap.size w3 WB) (hP : w3.heap[pb]? = some o) (hv : ∀ j, v.ownBlock = some j → j ≠ pb) (hat : v.ownBlock = some g1 ∨ g1 = WB.heap.size) :
    (g1 ≠ pb ∧ V.heap[pb]? = some o) ∧ (V.cell? ⟨g1, n * 6, none⟩ = some z0 ∧ V.cell? ⟨g1, n * 6 + 1, none⟩ = some z1 ∧ V.cell? ⟨g1, n * 6 + 2, none⟩ = some z2 ∧ V.cell? ⟨g1, n * 6 + 3, none⟩ = some z3 ∧ V.cell? ⟨g1, n * 6 + 4, none⟩ = some z4 ∧ V.cell? ⟨g1, n * 6 + 5, none⟩ = some z5) ∧ ∀ i, V.frozen? ⟨g1, i, none⟩ = false := by
  have hl : pb < w3.heap.size := (Array.getElem?_eq_some_iff.1 hP).1
  have hlen := hown.1
  rw [List.length_append] at hlen
  simp only [List.length_cons, List.length_nil] at hlen
  rcases hown.2 with ⟨e, _⟩ | ⟨gg, cap, cur, e, e2, e3, e4, e5, e6, e7⟩
  · cases e
  cases e
  refine ⟨⟨?_, (hgrow.block pb (by have := hB.size; omega) (fun e => hv pb e.symm rfl)).trans ((hB.block pb hl).trans hP)⟩, ?_, fun i => frz e3 i⟩
  · rcases hat with h | h
    · exact hv _ h
    · have := hB.size; omega
  have cel : ∀ i z, [z0, z1, z2, z3, z4, z5][i]? = some z → V.cell? ⟨g1, n * 6 + i, none⟩ = some z := by
    intro i z hz
    have hi : i < 6 := by
      rcases Nat.lt_or_ge i 6 with h | h
      · exact h
      · rw [List.getElem?_eq_none (by simpa using h)] at hz; cases hz
    rw [cell_of_row _ _ _ _ _ _ e3]
    have h1 : (cur.toList.take ((n + 1) * 6))[n * 6 + i]? = some z := by
      rw [e7, List.getElem?_append_right (by omega), show n * 6 + i - xs.length = i by omega]; exact hz
    rw [List.getElem?_take, if_pos (by omega)] at h1
    simpa using h1
  exact ⟨cel 0 z0 rfl, cel 1 z1 rfl, cel 2 z2 rfl, cel 3 z3 rfl, cel 4 z4 rfl, cel 5 z5 rfl⟩
/-- what lies when a value was appended -/
def IOR (pb B n : Nat) (a0 a1 a2 a3 vi vk : Value) (xs cs : List Value) (w2 W : World) : Prop :=
  ∃ g1 c1, W.heap[pb]? = some (obW a0 a1 a2 a3 (.slice (some ⟨g1, 0, none⟩) (n + 1) c1) vk) ∧ W.ownsRow B 31 6 (.slice (some ⟨g1, 0, none⟩) (n + 1) c1) (n + 1) (xs ++ cs) ∧ g1 < W.heap.size ∧ (vi.ownBlock = some g1 ∨ w2.heap.size ≤ g1) ∧
    Grw (fun j => j = pb ∨ vi.ownBlock = some j) w2 W
theorem rt_fin {pb B n g1 c1 : Nat} {a0 a1 a2 a3 vi vk : Value} {xs : List Value} {w3 WB V : World} {z0 z1 z2 z3 z4 z5 : Value} (hB : Below w3.heap.size w3 WB)
    (hown : V.ownsRow B 31 6 (.slice (some ⟨g1, 0, none⟩) (n + 1) c1) (n + 1) (xs ++ [z0, z1, z2, z3, z4, z5])) (hgrow : WB.grownBy V vi.ownBlock) (hat : vi.ownBlock = some g1 ∨ g1 = WB.heap.size) (hlt : g1 < V.heap.size)
    (hP : V.heap[pb]? = some (obW a0 a1 a2 a3 vi vk)) (hgp : g1 ≠ pb) (a b d u v x : Value) :
    IOR pb B n a0 a1 a2 a3 vi vk xs [a, b, d, u, v, x] w3 (((((((V.setCell ⟨g1, n * 6, none⟩ a).setCell ⟨g1, n * 6 + 1, none⟩ b).setCell ⟨g1, n * 6 + 2, none⟩ d).setCell ⟨g1, n * 6 + 3, none⟩ u).setCell ⟨g1, n * 6 + 4, none⟩ v).setCell ⟨g1, n * 6 + 5, none⟩ x).setCell ⟨pb, 4, none⟩ (.slice (some ⟨g1, 0, none⟩) (n + 1) c1)) ∧
    IOR pb B n a0 a1 a2 a3 vi vk xs [a, b, d, u, v, x] w3 (((((((V.setCell ⟨pb, 4, none⟩ (.slice (some ⟨g1, 0, none⟩) (n + 1) c1)).setCell ⟨g1, n * 6, none⟩ a).setCell ⟨g1, n * 6 + 1, none⟩ b).setCell ⟨g1, n * 6 + 2, none⟩ d).setCell ⟨g1, n * 6 + 3, none⟩ u).setCell ⟨g1, n * 6 + 4, none⟩ v).setCell ⟨g1, n * 6 + 5, none⟩ x) := by
  have hbs := hB.size
  have hpl : pb < V.heap.size := (Array.getElem?_eq_some_iff.1 hP).1
  have hat2 : vi.ownBlock = some g1 ∨ w3.heap.size ≤ g1 := by
    rcases hat with h | h
    · exact .inl h
    · exact .inr (by omega)
  have x0 : Grw (fun j => j = pb ∨ vi.ownBlock = some j) w3 V := by
    have x2 := (Grw.of_below (X := fun j => j = pb ∨ vi.ownBlock = some j) hB (fun k h1 h2 => by omega))
    exact x2.trans (Grw.of_gb (X := fun j => vi.ownBlock = some j) hgrow (fun j e => e)) (fun j _ e => .inr e)
  have hg1X : ∀ j, j < w3.heap.size → j = g1 → j = pb ∨ vi.ownBlock = some j := fun j hj e => by
    rcases hat2 with h | h
    · exact .inr (by rw [e]; exact h)
    · omega
  have sP : ∀ {W : World} (y : Value), W.heap[pb]? = some (obW a0 a1 a2 a3 vi vk) → (W.setCell ⟨pb, 4, none⟩ y).heap[pb]? = some (obW a0 a1 a2 a3 y vk) := fun y h => by
    have := blk_set h 4 y
    simpa using this
  constructor
  · have g6 := gr_row6 V g1 n a b d u v x
    have r6 := row_set6 hown a b d u v x
    generalize ((((((V.setCell ⟨g1, n * 6, none⟩ a).setCell ⟨g1, n * 6 + 1, none⟩ b).setCell ⟨g1, n * 6 + 2, none⟩ d).setCell ⟨g1, n * 6 + 3, none⟩ u).setCell ⟨g1, n * 6 + 4, none⟩ v).setCell ⟨g1, n * 6 + 5, none⟩ x) = V6 at g6 r6 ⊢
    have h6 : V6.heap[pb]? = some (obW a0 a1 a2 a3 vi vk) := (g6.block hpl (Ne.symm hgp)).trans hP
    have k6 := gr_one V6 pb 4 (.slice (some ⟨g1, 0, none⟩) (n + 1) c1)
    exact ⟨g1, c1, sP _ h6, row_keep r6 k6 (fun j e => by injection e with e; subst e; exact ⟨Nat.lt_of_lt_of_le hlt g6.size, hgp⟩), Nat.lt_of_lt_of_le hlt (Nat.le_trans g6.size k6.size), hat2,
      (x0.trans g6 hg1X).trans k6 (fun j _ e => .inl e)⟩
  · have k6 := gr_one V pb 4 (.slice (some ⟨g1, 0, none⟩) (n + 1) c1)
    have h6 := sP (.slice (some ⟨g1, 0, none⟩) (n + 1) c1) hP
    have o6 := row_keep hown k6 (fun j e => by injection e with e; subst e; exact ⟨hlt, hgp⟩)
    generalize V.setCell ⟨pb, 4, none⟩ (.slice (some ⟨g1, 0, none⟩) (n + 1) c1) = V6 at k6 h6 o6 ⊢
    have g6 := gr_row6 V6 g1 n a b d u v x
    exact ⟨g1, c1, (g6.block (Array.getElem?_eq_some_iff.1 h6).1 (Ne.symm hgp)).trans h6, row_set6 o6 a b d u v x, Nat.lt_of_lt_of_le hlt (Nat.le_trans k6.size g6.size), hat2,
      (x0.trans k6 (fun j _ e => .inl e)).trans g6 hg1X⟩
theorem rt_fin2 {pb B n g1 c1 : Nat} {a0 a1 a2 a3 vi vk : Value} {xs : List Value} {w3 WB V : World} {z0 z1 z2 z3 z4 z5 : Value} (hB : Below w3.heap.size w3 WB)
    (hown : V.ownsRow B 31 6 (.slice (some ⟨g1, 0, none⟩) (n + 1) c1) (n + 1) (xs ++ [z0, z1, z2, z3, z4, z5])) (hgrow : WB.grownBy V vi.ownBlock) (hat : vi.ownBlock = some g1 ∨ g1 = WB.heap.size) (hlt : g1 < V.heap.size)
    (hP : V.heap[pb]? = some (obW a0 a1 a2 a3 vi vk)) (hgp : g1 ≠ pb) (a b d u v x : Value) :
    ∃ Wa Wb, Wa = (((((((V.setCell ⟨g1, n * 6, none⟩ a).setCell ⟨g1, n * 6 + 1, none⟩ b).setCell ⟨g1, n * 6 + 2, none⟩ d).setCell ⟨g1, n * 6 + 3, none⟩ u).setCell ⟨g1, n * 6 + 4, none⟩ v).setCell ⟨g1, n * 6 + 5, none⟩ x).setCell ⟨pb, 4, none⟩ (.slice (some ⟨g1, 0, none⟩) (n + 1) c1)) ∧
      Wb = (((((((V.setCell ⟨pb, 4, none⟩ (.slice (some ⟨g1, 0, none⟩) (n + 1) c1)).setCell ⟨g1, n * 6, none⟩ a).setCell ⟨g1, n * 6 + 1, none⟩ b).setCell ⟨g1, n * 6 + 2, none⟩ d).setCell ⟨g1, n * 6 + 3, none⟩ u).setCell ⟨g1, n * 6 + 4, none⟩ v).setCell ⟨g1, n * 6 + 5, none⟩ x) ∧
      IOR pb B n a0 a1 a2 a3 vi vk xs [a, b, d, u, v, x] w3 Wa ∧ IOR pb B n a0 a1 a2 a3 vi vk xs [a, b, d, u, v, x] w3 Wb := by
  obtain ⟨h1, h2⟩ := rt_fin hB hown hgrow hat hlt hP hgp a b d u v x
  exact ⟨_, _, rfl, rfl, h1, h2⟩
/-- the loop's value: the reader's block, the value's own, its items, its keys, and what else changed -/
structure LC (g q : Nat) (s : ByteArray) (k : Int) (st : QS) (ks : List (List UInt8)) (xs : List JV) (vi vk : Value) (w wr : World) : Prop where
  hg : wr.heap[g]? = some (obQ s st)
  hv : wr.heap[q]? = some (obW (.int .i64 k) (.bool false) (.int .i64 0) (.string ⟨#[]⟩) vi vk)
  it : RW (fun j => w.heap.size ≤ j ∧ vk.ownBlock ≠ some j) w.heap.size 31 vi xs wr
  ky : wr.ownsRow w.heap.size 9 1 vk ks.length (kC ks)
  ne : ∀ j, vi.ownBlock = some j → vk.ownBlock ≠ some j
  gr : Grw (fun j => j = g ∨ j = q) w wr
theorem LC.start {g q : Nat} {s : ByteArray} {k : Int} {st : QS} {w : World} (hg : w.heap[g]? = some (obQ s st)) (hv : w.heap[q]? = some (obW (.int .i64 k) (.bool false) (.int .i64 0) (.string ⟨#[]⟩) (.slice none 0 0) (.slice none 0 0))) : LC g q s k st [] [] (.slice none 0 0) (.slice none 0 0) w w :=
  ⟨hg, hv, RW.nil _ _ _ _, World.ownsRow_nil _ _ _ _, (fun j e => by cases e), Grw.refl _ _⟩
theorem LC.lt {g q : Nat} {s : ByteArray} {k : Int} {st : QS} {ks : List (List UInt8)} {xs : List JV} {vi vk : Value} {w wr : World} (h : LC g q s k st ks xs vi vk w wr) : (∀ j, vi.ownBlock = some j → w.heap.size ≤ j ∧ j < wr.heap.size) ∧ (∀ j, vk.ownBlock = some j → w.heap.size ≤ j ∧ j < wr.heap.size) := ⟨h.it.lt, World.ownsRow.lt h.ky⟩
/-- where the blocks lie -/
structure LP (g q : Nat) (w : World) : Prop where
  hg : g < w.heap.size
  hq : q < w.heap.size
  ne : g ≠ q
theorem LC.grw {g q : Nat} {s : ByteArray} {k : Int} {st st' : QS} {ks : List (List UInt8)} {xs : List JV} {vi vk : Value} {w wr w' : World} {X : Nat → Prop} (h : LC g q s k st ks xs vi vk w wr) (p : LP g q w) (hG : Grw X wr w') (hX : ∀ j, X j → j = g) (hg : w'.heap[g]? = some (obQ s st')) : LC g q s k st' ks xs vi vk w w' := by
  have hz := h.gr.size
  obtain ⟨l1, l2⟩ := h.lt
  have p1 := p.hg
  have p2 := p.hq
  refine ⟨hg, (hG.block (by omega) (fun e => p.ne (hX _ e).symm)).trans h.hv, h.it.gr2 hG (fun j hj e => by have := hX j e; omega) (fun j hj e => by have := hX j e; have := l1 j hj; omega), row_keep h.ky hG (fun j e => ⟨(l2 j e).2, fun x => by have := hX j x; have := l2 j e; omega⟩), h.ne, h.gr.trans hG (fun j _ e => .inl (hX j e))⟩
theorem LC.qs {g q : Nat} {s : ByteArray} {k : Int} {st st' : QS} {ks : List (List UInt8)} {xs : List JV} {vi vk : Value} {w wr w' : World} (h : LC g q s k st ks xs vi vk w wr) (p : LP g q w) (hq : QsQ g s st' wr w') : LC g q s k st' ks xs vi vk w w' :=
  h.grw p (Grw.of_gb (X := fun j => j = g) hq.2 (fun j e => by injection e with e; exact e.symm)) (fun j e => e) hq.1
theorem LC.be {g q : Nat} {s : ByteArray} {k : Int} {st : QS} {ks : List (List UInt8)} {xs : List JV} {vi vk : Value} {w wr w' : World} (h : LC g q s k st ks xs vi vk w wr) (p : LP g q w) (hb : Below wr.heap.size wr w') : LC g q s k st ks xs vi vk w w' :=
  h.grw p (Grw.of_below (X := fun j => j = g) hb (fun j h1 h2 => by omega)) (fun j e => e) ((hb.block _ (by have := h.gr.size; have := p.hg; omega)).trans h.hg)
theorem LC.key {g q g1 c1 : Nat} {s : ByteArray} {k : Int} {st st' : QS} {ks : List (List UInt8)} {t : List UInt8} {xs : List JV} {vi vk : Value} {w wr w' : World} (h : LC g q s k st ks xs vi vk w wr) (p : LP g q w)
    (h1 : w'.heap[g]? = some (obQ s st')) (h2 : w'.heap[q]? = some (obW (.int .i64 k) (.bool false) (.int .i64 0) (.string ⟨#[]⟩) vi (.slice (some ⟨g1, 0, none⟩) (ks.length + 1) c1))) (h3 : w'.ownsRow w.heap.size 9 1 (.slice (some ⟨g1, 0, none⟩) (ks.length + 1) c1) (ks.length + 1) (kC (ks ++ [t])))
    (h4 : vk.ownBlock = some g1 ∨ wr.heap.size ≤ g1) (h5 : Grw (fun j => j = g ∨ j = q ∨ vk.ownBlock = some j) wr w') : LC g q s k st' (ks ++ [t]) xs vi (.slice (some ⟨g1, 0, none⟩) (ks.length + 1) c1) w w' := by
  have hz := h.gr.size
  obtain ⟨l1, l2⟩ := h.lt
  have p1 := p.hg
  have p2 := p.hq
  have hne : ∀ j, j < wr.heap.size → vk.ownBlock ≠ some j → (Value.slice (some ⟨g1, 0, none⟩) (ks.length + 1) c1).ownBlock ≠ some j := fun j hj hn e => by
    have e : g1 = j := by injection e
    rcases h4 with h4 | h4
    · exact hn (by rw [← e]; exact h4)
    · omega
  refine ⟨h1, h2, ?_, by rw [List.length_append]; exact h3, fun j hj => hne j (l1 j hj).2 (h.ne j hj), h.gr.trans h5 (fun j hj e => ?_)⟩
  · have m1 := h.it.mono (Q' := fun j => (w.heap.size ≤ j ∧ vk.ownBlock ≠ some j) ∧ (Value.slice (some ⟨g1, 0, none⟩) (ks.length + 1) c1).ownBlock ≠ some j) (fun j hj hl => ⟨hj, hne j hl hj.2⟩)
    have m2 := m1.gr2 h5 (fun j hj e => by
      rcases e with e | e | e
      · have := hj.1.1; omega
      · have := hj.1.1; omega
      · exact hj.1.2 e) (fun j hj e => by
      have := l1 j hj
      rcases e with e | e | e
      · omega
      · omega
      · exact h.ne j hj e)
    exact m2.mono (fun j hj _ => ⟨hj.1.1, hj.2⟩)
  · rcases e with e | e | e
    · exact .inl e
    · exact .inr e
    · have := (l2 j e).1; omega
/-- ahead of the append: the row's cells, the trees, the new one's -/
theorem LC.pre {g q : Nat} {s : ByteArray} {k : Int} {st : QS} {ks : List (List UInt8)} {xs : List JV} {x : JV} {vi vk : Value} {w wr w4 : World} {cs : List Value} (h : LC g q s k st ks xs vi vk w w4) (hr : Rep (fun j => wr.heap.size ≤ j) w4 x cs) (hwr : w.heap.size ≤ wr.heap.size) (h1 : ∀ j, vi.ownBlock = some j → j < wr.heap.size) (h2 : ∀ j, vk.ownBlock = some j → j < wr.heap.size) :
    ∃ css, w4.ownsRow w.heap.size 31 6 vi xs.length (List.flatten css) ∧ RepA (fun j => (w.heap.size ≤ j ∧ vk.ownBlock ≠ some j) ∧ vi.ownBlock ≠ some j) w4 (xs ++ [x]) (css ++ [cs]) := by
  obtain ⟨css, i1, i2⟩ := h.it
  exact ⟨css, i1, RepA.snoc (hr.mono (fun j hj hl => ⟨⟨by omega, fun e => by have := h2 j e; omega⟩, fun e => by have := h1 j e; omega⟩)) i2⟩
/-- behind the append -/
theorem LC.app {g q : Nat} {s : ByteArray} {k : Int} {st : QS} {ks : List (List UInt8)} {xs : List JV} {x : JV} {vi vk : Value} {w w5 W : World} {css : List (List Value)} {cs : List Value} {n : Nat} (h : LC g q s k st ks xs vi vk w w5) (p : LP g q w) (hn : xs.length = n)
    (hr : RepA (fun j => (w.heap.size ≤ j ∧ vk.ownBlock ≠ some j) ∧ vi.ownBlock ≠ some j) w5 (xs ++ [x]) (css ++ [cs])) (hio : IOR q w.heap.size n (.int .i64 k) (.bool false) (.int .i64 0) (.string ⟨#[]⟩) vi vk (List.flatten css) cs w5 W) : ∃ ao c, LC g q s k st ks (xs ++ [x]) (.slice ao (n + 1) c) vk w W := by
  subst hn
  obtain ⟨g1, c1, o1, o2, o3, o4, o5⟩ := hio
  have hz := h.gr.size
  obtain ⟨l1, l2⟩ := h.lt
  have p1 := p.hg
  have p2 := p.hq
  have hne : ∀ j, j < w5.heap.size → vi.ownBlock ≠ some j → (Value.slice (some ⟨g1, 0, none⟩) (xs.length + 1) c1).ownBlock ≠ some j := fun j hj hn e => by
    have e : g1 = j := by injection e
    rcases o4 with h4 | h4
    · exact hn (by rw [← e]; exact h4)
    · omega
  have hm := RepA.mono (P' := fun j => ((w.heap.size ≤ j ∧ vk.ownBlock ≠ some j) ∧ (Value.slice (some ⟨g1, 0, none⟩) (xs.length + 1) c1).ownBlock ≠ some j) ∧ vi.ownBlock ≠ some j) (fun j hj hl => ⟨⟨hj.1, hne j hl hj.2⟩, hj.2⟩) hr
  have hk := hm.keep (w' := W) ⟨o5.size, fun j hj hl => o5.block hl (fun e => by
    rcases e with e | e
    · have := hj.1.1.1; omega
    · exact hj.2 e)⟩
  refine ⟨_, c1, ?_, o1, ⟨css ++ [cs], ?_, hk.mono (fun j hj _ => hj.1)⟩, row_keep h.ky o5 (fun j e => ⟨(l2 j e).2, fun x => ?_⟩), fun j e e' => ?_, h.gr.trans o5 (fun j hj e => ?_)⟩
  · exact (o5.block (by omega) (fun e => by
      rcases e with e | e
      · exact p.ne e
      · have := (l1 _ e).1; omega)).trans h.hg
  · rw [List.length_append, List.flatten_append]
    simpa using o2
  · rcases x with x | x
    · have := (l2 j e).1; omega
    · exact h.ne j x e
  · have e : g1 = j := by injection e
    subst e
    rcases o4 with h4 | h4
    · exact h.ne _ h4 e'
    · have := (l2 _ e').2; omega
  · rcases e with e | e
    · exact .inr e
    · have := (l1 j e).1; omega
theorem LC.form {g q : Nat} {s : ByteArray} {k : Int} {st : QS} {ks : List (List UInt8)} {xs : List JV} {vi vk : Value} {w wr : World} (h : LC g q s k st ks xs vi vk w wr) : (∃ ao c, vi = .slice ao xs.length c) ∧ ∃ ao c, vk = .slice ao ks.length c := by
  refine ⟨h.it.form, ?_⟩
  obtain ⟨ao, cap, h1, _⟩ := key_at h.ky
  exact ⟨ao, cap, h1⟩
theorem rdk_own {B : Nat} {P : Nat → Prop} {v : Value} {ks : List (List UInt8)} {w : World} (h : w.ownsRow B 9 1 v ks.length (kC ks)) (hp : ∀ j, B ≤ j → P j) : RdK P w v ks := by
  have h' := h
  rcases h.2 with ⟨rfl, h0⟩ | ⟨gg, cap, cur, rfl, e2, e3, e4, e5, e6, e7⟩
  · have : ks = [] := List.eq_nil_of_length_eq_zero h0
    subst this
    exact rdk_nil _ _
  · refine ⟨_, cap, rfl, by omega, fun _ => ⟨gg, 0, rfl, hp gg e2, (Array.getElem?_eq_some_iff.1 e3).1, fun j v hv => ?_⟩⟩
    have hj : j < ks.length := by
      rcases Nat.lt_or_ge j ks.length with h | h
      · exact h
      · rw [List.getElem?_eq_none (by simpa using h)] at hv; cases hv
    have := h'.cellAt j (by omega)
    rw [Nat.zero_add]
    rw [this]
    exact hv
/-- the value as it is told -/
theorem LC.fin {g q : Nat} {s : ByteArray} {k : Int} {st : QS} {ks : List (List UInt8)} {xs : List JV} {ao ap : Option Addr} {l1 q1 l2 q2 : Nat} {w wr : World} {B : Nat} (h : LC g q s k st ks xs (.slice ao l1 q1) (.slice ap l2 q2) w wr) (hB : B ≤ w.heap.size) : Rep (fun j => B ≤ j) wr (.mk k false 0 [] xs ks) (c6 k false 0 ⟨#[]⟩ ao l1 q1 ap l2 q2) := by
  obtain ⟨e1, e2⟩ := h.it.list
  subst e1
  refine ⟨ao, q1, _, rfl, rdk_own h.ky (fun j hj => by omega), fun hne => ?_⟩
  obtain ⟨g1, off, i1, i2, i3, i4⟩ := e2 hne
  refine ⟨g1, off, i1, ?_, i3, RepL.mono (fun j hj _ => ?_) xs i4⟩
  · rcases i2 with i2 | i2 <;> omega
  · rcases hj with hj | hj <;> omega
end Go.Proofs.YtpgllcdcpdeicaaGreatDoor.Jv
namespace Go.Proofs.YtpgllcdcpdeicaaGreatDoor.Jv
open Jt
open Go.RowKit Go.ChangeMaps Go.MapKept Go.WideMaps
set_option linter.unusedSimpArgs false
set_option linter.unusedVariables false

theorem loopQ_bad {l : List UInt8} {f : Nat} {o : Bool} {room : Int} {ks : List (List UInt8)} {xs : List JV} {st : QS} (h : st.bad ≠ 0) : loopQ l f o room ks xs st = (.mk (kndV o) false 0 [] xs ks, st) := by
  cases f with
  | zero => rw [loopQ, failQ_b h]
  | succ f => rw [loopQ, if_pos h]
theorem loopQ_t {l : List UInt8} {f : Nat} {room : Int} {ks : List (List UInt8)} {xs : List JV} {st : QS} (h : st.bad = 0) : loopQ l (f + 1) true room ks xs st = if (isQ l 2 (valQ l f room (keyQ l ks st)).2).1 then (.mk 5 false 0 [] (xs ++ [(valQ l f room (keyQ l ks st)).1]) (ks ++ [(tokA l st.at').1.t]), (isQ l 2 (valQ l f room (keyQ l ks st)).2).2)
    else loopQ l f true room (ks ++ [(tokA l st.at').1.t]) (xs ++ [(valQ l f room (keyQ l ks st)).1]) (mustQ l 6 (isQ l 2 (valQ l f room (keyQ l ks st)).2).2) := by
  rw [loopQ, if_neg (by simpa using h)]
  rfl
theorem loopQ_f {l : List UInt8} {f : Nat} {room : Int} {ks : List (List UInt8)} {xs : List JV} {st : QS} (h : st.bad = 0) : loopQ l (f + 1) false room ks xs st = if (isQ l 4 (valQ l f room st).2).1 then (.mk 4 false 0 [] (xs ++ [(valQ l f room st).1]) ks, (isQ l 4 (valQ l f room st).2).2)
    else loopQ l f false room ks (xs ++ [(valQ l f room st).1]) (mustQ l 6 (isQ l 4 (valQ l f room st).2).2) := by
  rw [loopQ, if_neg (by simpa using h)]
  rfl
/-- how far there is to go -/
def msQ (g n : Nat) (w : World) : Nat := match w.cell? ⟨g, 1, none⟩, w.cell? ⟨g, 2, none⟩ with
  | some (.int _ a), some (.int _ b) => if b = 0 then n + 1 - a.toNat else 0
  | _, _ => 0
theorem msQ_is {g n a p : Nat} {b : Int} {s : ByteArray} {w : World} (h : w.heap[g]? = some (obQ s ⟨a, b, p⟩)) : msQ g n w = if b = 0 then n + 1 - a else 0 := by
  obtain ⟨c0, c1, c2, c3⟩ := cells4q h
  unfold msQ
  rw [c1, c2]
  simp
/-- what a round's calls have come to -/
theorem many_nx {l : List UInt8} {n f m k : Nat} {room : Int} {st st1 : QS} (hn : l.length = n) (h0 : st.bad = 0) (hf : 2 * (n - st.at') + 2 ≤ f + 1) (hm : m ≤ st.at') (h1 : Fw n st st1) :
    (1 ≤ f ∧ (st1.bad = 0 → 2 * (n - st1.at') + 1 ≤ f)) ∧ Fw n st (valQ l f room st1).2 ∧ (isQ l k (valQ l f room st1).2).2.at' ≤ n ∧ (mustQ l 6 (isQ l k (valQ l f room st1).2).2).at' ≤ n ∧ ((mustQ l 6 (isQ l k (valQ l f room st1).2).2).bad = 0 → 2 * (n - (mustQ l 6 (isQ l k (valQ l f room st1).2).2).at') + 2 ≤ f ∧ m + 1 ≤ (mustQ l 6 (isQ l k (valQ l f room st1).2).2).at') ∧
    ((if (mustQ l 6 (isQ l k (valQ l f room st1).2).2).bad = 0 then n + 1 - (mustQ l 6 (isQ l k (valQ l f room st1).2).2).at' else 0) < n + 1 - st.at') := by
  subst hn
  have h2 := (vl_fw l f).1 room st1 h1.2.1
  generalize (valQ l f room st1).2 = st2 at h2 ⊢
  have h3 := isQ_fw (k := k) h2.1.2.1
  generalize (isQ l k st2).2 = st3 at h3 ⊢
  have h4 := mustQ_fw (k := 6) h3.1.2.1
  generalize mustQ l 6 st3 = st4 at h4 ⊢
  have a1 := h1.1
  have a2 := h2.1.1
  have a3 := h3.1.1
  have a4 := h4.1.1
  have b4 := h4.1.2.1
  refine ⟨⟨by omega, fun _ => by omega⟩, h1.trans h2.1, h3.1.2.1, b4, fun e => ?_, ?_⟩
  · have e3 := h4.1.2.2 e
    have e2 := h3.1.2.2 e3
    have := h2.2 e2
    have := h4.2 e
    omega
  · split
    · rename_i e
      have := h4.2 e
      omega
    · omega
/-- what the loop keeps -/
structure LQ (g q : Nat) (s : ByteArray) (o : Bool) (k : Int) (room : Int) (R : JV × QS) (f : Nat) (ks : List (List UInt8)) (xs : List JV) (st : QS) (vi vk : Value) (w wr : World) : Prop where
  lc : LC g q s k st ks xs vi vk w wr
  rs : loopQ s.data.toList f o room ks xs st = R
  le : st.at' ≤ s.size
  fu : st.bad = 0 → 2 * (s.size - st.at') + 2 ≤ f ∧ xs.length ≤ st.at'
  kl : ks.length ≤ xs.length
/-- what value and many answer -/
def MaQ (g : Nat) (s : ByteArray) (R : JV × QS) (W : World) (e : Ending) (w' : World) : Prop := ∃ xk xb xn xt xo xl xq yo yl yq, e = .returned (.agg #[.int .i64 xk, .bool xb, .int .i64 xn, .string xt, .slice xo xl xq, .slice yo yl yq]) ∧ Rep (fun j => W.heap.size ≤ j) w' R.1 (c6 xk xb xn xt xo xl xq yo yl yq) ∧ QsQ g s R.2 W w'
/-- the induction's word of value -/
def VQ (g : Nat) (s : ByteArray) (mo : Int) (f : Nat) : Prop := ∀ (st : QS) (op : Int) (W : World), W.heap[g]? = some (obQ s st) → st.at' ≤ s.size → 0 ≤ op → op ≤ 16 → 1 ≤ f → (st.bad = 0 → 2 * (s.size - st.at') + 1 ≤ f) → Calls Tryz.prog 12 #[.pointer (some ⟨g, 0, none⟩), .int .i64 op, .int .i64 mo] W (MaQ g s (valQ s.data.toList f (mo - op) st) W)
abbrev zW : Obj := obW (.int .i64 0) (.bool false) (.int .i64 0) (.string ⟨#[]⟩) (.slice none 0 0) (.slice none 0 0)
abbrev st6 (W : World) (r : Nat) (k : Int) (xo : Option Addr) (xl xq : Nat) (yo : Option Addr) (yl yq : Nat) : World := ((((((W.setCell ⟨r, 0, none⟩ (.int .i64 k)).setCell ⟨r, 1, none⟩ (.bool false)).setCell ⟨r, 2, none⟩ (.int .i64 0)).setCell ⟨r, 3, none⟩ (.string ⟨#[]⟩)).setCell ⟨r, 4, none⟩ (.slice xo xl xq)).setCell ⟨r, 5, none⟩ (.slice yo yl yq))
/-- at a return: the result's block is as it was, and what is left when the value was stored there -/
theorem fin_m {g : Nat} {s : ByteArray} {k : Int} {st : QS} {ks : List (List UInt8)} {xs : List JV} {ao ap : Option Addr} {l1 q1 l2 q2 : Nat} {w W1 wr : World} (h : LC g (w.heap.size + 1) s k st ks xs (.slice ao l1 q1) (.slice ap l2 q2) W1 wr) (hgl : g < w.heap.size) (hB : Below w.heap.size w W1) (hz : W1.heap.size = w.heap.size + 2) (hK : W1.heap[w.heap.size]? = some zW) :
    Hid (wr.heap[w.heap.size]? = some zW) ∧ Hid (wr.heap[w.heap.size + 1]? = some (obW (.int .i64 k) (.bool false) (.int .i64 0) (.string ⟨#[]⟩) (.slice ao l1 q1) (.slice ap l2 q2))) ∧ Hid ((st6 wr w.heap.size k ao l1 q1 ap l2 q2).heap[w.heap.size]? = some (obW (.int .i64 k) (.bool false) (.int .i64 0) (.string ⟨#[]⟩) (.slice ao l1 q1) (.slice ap l2 q2))) ∧
      Hid (MaQ g s (.mk k false 0 [] xs ks, st) w (.returned (.agg #[.int .i64 k, .bool false, .int .i64 0, .string ⟨#[]⟩, .slice ao l1 q1, .slice ap l2 q2])) (st6 wr w.heap.size k ao l1 q1 ap l2 q2)) := by
  have hzr := h.gr.size
  have hk : wr.heap[w.heap.size]? = some zW := (h.gr.block (by omega) (by omega)).trans hK
  have hx := set6 hk (.int .i64 k) (.bool false) (.int .i64 0) (.string ⟨#[]⟩) (.slice ao l1 q1) (.slice ap l2 q2)
  have hZ := gr_set6 wr w.heap.size (.int .i64 k) (.bool false) (.int .i64 0) (.string ⟨#[]⟩) (.slice ao l1 q1) (.slice ap l2 q2)
  have hr := h.fin (B := w.heap.size + 2) (by omega)
  refine ⟨hk, h.hv, hx, k, false, 0, _, ao, l1, q1, ap, l2, q2, rfl, Rep.mono (fun j hj _ => by omega) _ (Rep.keep (P := fun j => w.heap.size + 2 ≤ j) ⟨hZ.size, fun j hj hl => hZ.block hl (by omega)⟩ _ hr), (hZ.block (by omega) (by omega)).trans h.hg, ?_⟩
  have g1 : Grw (fun j => j = g) w W1 := Grw.of_below hB (fun j h1 h2 => by omega)
  have g2 := g1.trans h.gr (fun j hj e => by omega)
  exact gb_of_grw (g2.trans hZ (fun j hj e => by omega)) (fun j _ e => e)
/-- two blocks, and the second's kind -/
theorem two_w (w : World) : ∃ W, W = (w.alloc zW).alloc (obW (.int .i64 4) (.bool false) (.int .i64 0) (.string ⟨#[]⟩) (.slice none 0 0) (.slice none 0 0)) ∧ W.heap[w.heap.size]? = some zW ∧ W.heap[w.heap.size + 1]? = some (obW (.int .i64 4) (.bool false) (.int .i64 0) (.string ⟨#[]⟩) (.slice none 0 0) (.slice none 0 0)) ∧ Below w.heap.size w W ∧ W.heap.size = w.heap.size + 2 := by
  obtain ⟨W, hW, h0, h1, hb⟩ := two_o w #[.int .i64 0, .bool false, .int .i64 0, .string ⟨#[]⟩, .slice none 0 0, .slice none 0 0] #[.int .i64 4, .bool false, .int .i64 0, .string ⟨#[]⟩, .slice none 0 0, .slice none 0 0] 31 31
  exact ⟨W, hW, h0, h1, hb, by rw [hW]; simp⟩
end Go.Proofs.YtpgllcdcpdeicaaGreatDoor.Jv
