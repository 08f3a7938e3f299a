/- Contracts of package head's small functions: limits; methods, targets and versions at chapter 10's example. -/
import Derived.Test.YteegbcjpganobaaDoorHdFieldR
namespace Go.Proofs.YteegbcjpganobaaDoor.Hd
open Go.RowKit Ch
set_option linter.unusedSimpArgs false
set_option linter.unusedVariables false

set_option maxRecDepth 100000 in
set_option maxHeartbeats 1000000 in
theorem within_c (n lo hi : Int) (w : World) : Calls Tryd.prog 20 #[.int .i64 n, .int .i64 lo, .int .i64 hi] w fun e w' => e = .returned (.int .i64 (min (max n lo) hi)) ∧ w = w' := by
  go_enter Tryd.func20, Tryd.ntmps20
  go_wp2
  go_ret
  exact ⟨rfl, rfl⟩
theorem hasP_c (s p : ByteArray) (w : World) : Calls Tryd.prog 58 #[.string s, .string p] w fun e w' => e = .returned (.bool (Lib.hasPrefix s.data.toList p.data.toList)) ∧ w' = w := Any.strings_HasPrefix Tryd.lays99 s p w
theorem set3 {w : World} {g : Nat} {a b c : Value} {t : TypeId} (h : w.heap[g]? = some (.cells #[a, b, c] t (0, 0))) (x y z : Value) : (((w.setCell ⟨g, 0, none⟩ x).setCell ⟨g, 1, none⟩ y).setCell ⟨g, 2, none⟩ z).heap[g]? = some (.cells #[x, y, z] t (0, 0)) := by
  have := blk_set (blk_set (blk_set h 0 x) 1 y) 2 z
  simpa using this
def Sk3 (g : Nat) (V : World) : Prop := V.cell? ⟨g, 0, none⟩ = some (cg V ⟨g, 0, none⟩) ∧ V.cell? ⟨g, 1, none⟩ = some (cg V ⟨g, 1, none⟩) ∧ V.cell? ⟨g, 2, none⟩ = some (cg V ⟨g, 2, none⟩) ∧ V.frozen? ⟨g, 0, none⟩ = false ∧ V.frozen? ⟨g, 1, none⟩ = false ∧ V.frozen? ⟨g, 2, none⟩ = false
theorem sk3_of {V : World} {g : Nat} {a b c : Value} {T : TypeId} (h : V.heap[g]? = some (.cells #[a, b, c] T (0, 0))) : Sk3 g V :=
  ⟨cg_of (cell_of_row _ _ 0 _ _ _ h), cg_of (cell_of_row _ _ 1 _ _ _ h), cg_of (cell_of_row _ _ 2 _ _ _ h), frz2 h 0, frz2 h 1, frz2 h 2⟩
theorem set_ne {w : World} {g h : Nat} {o : Option Obj} (hb : w.heap[h]? = o) (hn : ¬ g = h) (j : Nat) (v : Value) : (w.setCell ⟨g, j, none⟩ v).heap[h]? = o := by
  simp [World.setCell, Array.getElem?_modify, hn, hb]
set_option maxRecDepth 100000 in
set_option maxHeartbeats 4000000 in
theorem Right_c (a b c : Int) (w : World) : Calls Tryd.prog 15 #[.agg #[.int .i64 a, .int .i64 b, .int .i64 c]] w fun e w' => e = .returned (.agg #[.int .i64 (min (max a 16) 8192), .int .i64 (min (max b 1) 100), .int .i64 (min (max c 0) 1048576)]) ∧ Below w.heap.size w w' := by
  have HW := Lib.hid (fun n lo hi W => within_c n lo hi W)
  have HD : Hid (∃ W, W = (w.alloc (.cells #[.int .i64 a, .int .i64 b, .int .i64 c] 28)).alloc (.cells #[.int .i64 0, .int .i64 0, .int .i64 0] 28) ∧ W.heap[w.heap.size]? = some (.cells #[.int .i64 a, .int .i64 b, .int .i64 c] 28 (0, 0)) ∧ W.heap[w.heap.size + 1]? = some (.cells #[.int .i64 0, .int .i64 0, .int .i64 0] 28 (0, 0)) ∧ Below w.heap.size w W) := by
    refine ⟨_, rfl, ?_, ?_, ((Below.refl _ _).alloc (Nat.le_refl _) _).alloc (by simp) _⟩
    · have hb := (Below.refl (w.heap.size + 1) (w.alloc (.cells #[.int .i64 a, .int .i64 b, .int .i64 c] 28))).alloc (by simp) (.cells #[.int .i64 0, .int .i64 0, .int .i64 0] 28)
      exact (hb.block _ (by omega)).trans (heap_alloc_new w _)
    · have := heap_alloc_new (w.alloc (.cells #[.int .i64 a, .int .i64 b, .int .i64 c] 28)) (.cells #[.int .i64 0, .int .i64 0, .int .i64 0] 28)
      simpa using this
  obtain ⟨W, hW, h0, h1, hB⟩ := HD.out
  have HWE := Lib.hid hW
  have H0 := Lib.hid h0
  have H1 := Lib.hid h1
  have HB := Lib.hid hB
  have HH := Lib.hid (set3 h1 (.int .i64 (min (max a 16) 8192)) (.int .i64 (min (max b 1) 100)) (.int .i64 (min (max c 0) 1048576)))
  have HH0 : Hid ((((W.setCell ⟨w.heap.size + 1, 0, none⟩ (.int .i64 (min (max a 16) 8192))).setCell ⟨w.heap.size + 1, 1, none⟩ (.int .i64 (min (max b 1) 100))).setCell ⟨w.heap.size + 1, 2, none⟩ (.int .i64 (min (max c 0) 1048576))).heap[w.heap.size]? = some (.cells #[.int .i64 a, .int .i64 b, .int .i64 c] 28 (0, 0))) :=
    set_ne (set_ne (set_ne h0 (by omega) 0 _) (by omega) 1 _) (by omega) 2 _
  clear HD hW h0 h1 hB
  generalize hm1 : min (max a 16) 8192 = m1 at HH HH0 ⊢
  generalize hm2 : min (max b 1) 100 = m2 at HH HH0 ⊢
  generalize hm3 : min (max c 0) 1048576 = m3 at HH HH0 ⊢
  have M1 := Lib.hid hm1
  have M2 := Lib.hid hm2
  have M3 := Lib.hid hm3
  have HW1 : Hid (∀ W, Calls Tryd.prog 20 #[.int .i64 a, .int .i64 16, .int .i64 8192] W fun e w' => e = .returned (.int .i64 m1) ∧ W = w') := fun W => by rw [← M1.out]; exact within_c _ _ _ W
  have HW2 : Hid (∀ W, Calls Tryd.prog 20 #[.int .i64 b, .int .i64 1, .int .i64 100] W fun e w' => e = .returned (.int .i64 m2) ∧ W = w') := fun W => by rw [← M2.out]; exact within_c _ _ _ W
  have HW3 : Hid (∀ W, Calls Tryd.prog 20 #[.int .i64 c, .int .i64 0, .int .i64 1048576] W fun e w' => e = .returned (.int .i64 m3) ∧ W = w') := fun W => by rw [← M3.out]; exact within_c _ _ _ W
  clear hm1 hm2 hm3 HW
  go_enter Tryd.func15, Tryd.ntmps15
  go_wp2_with fail
  rw [← HWE.out]
  clear HWE
  have hgl : w.heap.size < w.heap.size + 1 := Nat.lt_succ_self _
  have hgn : w.heap.size ≠ w.heap.size + 1 := by omega
  have hgm : w.heap.size + 1 ≠ w.heap.size := by omega
  generalize w.heap.size + 1 = g1 at HH HH0 H1 hgl hgn hgm ⊢
  have k0 := cell_of_row _ _ 0 _ _ _ H1.out
  have k1 := cell_of_row _ _ 1 _ _ _ H1.out
  have k2 := cell_of_row _ _ 2 _ _ _ H1.out
  have z0 := frz2 H1.out 0
  have z1 := frz2 H1.out 1
  have z2 := frz2 H1.out 2
  go_region_held3 (fun V => V.cell? ⟨w.heap.size, 0, none⟩ = some (.int .i64 a) ∧ V.cell? ⟨w.heap.size, 1, none⟩ = some (.int .i64 b) ∧ V.cell? ⟨w.heap.size, 2, none⟩ = some (.int .i64 c) ∧ V.cell? ⟨g1, 0, none⟩ = some (cg V ⟨g1, 0, none⟩) ∧ V.cell? ⟨g1, 1, none⟩ = some (cg V ⟨g1, 1, none⟩) ∧ V.cell? ⟨g1, 2, none⟩ = some (cg V ⟨g1, 2, none⟩) ∧ V.frozen? ⟨g1, 0, none⟩ = false ∧ V.frozen? ⟨g1, 1, none⟩ = false ∧ V.frozen? ⟨g1, 2, none⟩ = false)
    (first | exact ⟨cell_of_row _ _ 0 _ _ _ H0.out, cell_of_row _ _ 1 _ _ _ H0.out, cell_of_row _ _ 2 _ _ _ H0.out, sk3_of H1.out⟩ | exact ⟨cell_of_row _ _ 0 _ _ _ HH0.out, cell_of_row _ _ 1 _ _ _ HH0.out, cell_of_row _ _ 2 _ _ _ HH0.out, sk3_of HH.out⟩)
    (first | (go_at_call 20; (with_reducible refine (HW1.out _).mono ?_); rintro e w3 ⟨rfl, rfl⟩) | (go_at_call 20; (with_reducible refine (HW2.out _).mono ?_); rintro e w3 ⟨rfl, rfl⟩) | (go_at_call 20; (with_reducible refine (HW3.out _).mono ?_); rintro e w3 ⟨rfl, rfl⟩))
  have d0 := cell_of_row _ _ 0 _ _ _ HH.out
  have d1 := cell_of_row _ _ 1 _ _ _ HH.out
  have d2 := cell_of_row _ _ 2 _ _ _ HH.out
  clear k0 k1 k2 z0 z1 z2
  go_wp2
  refine bodyPost_ret (v := .agg #[.int .i64 m1, .int .i64 m2, .int .i64 m3]) (by simp [results, Tryd.results15, go_sem, d0, d1, d2]) rfl ⟨rfl, ?_⟩
  have hbb := ((HB.out.setCell (p := ⟨g1, 0, none⟩) (Nat.le_of_lt hgl) (.int .i64 m1)).setCell (p := ⟨g1, 1, none⟩) (Nat.le_of_lt hgl) (.int .i64 m2)).setCell (p := ⟨g1, 2, none⟩) (Nat.le_of_lt hgl) (.int .i64 m3)
  exact ⟨hbb.os, hbb.tape, hbb.output, hbb.size, hbb.block⟩
end Go.Proofs.YteegbcjpganobaaDoor.Hd
