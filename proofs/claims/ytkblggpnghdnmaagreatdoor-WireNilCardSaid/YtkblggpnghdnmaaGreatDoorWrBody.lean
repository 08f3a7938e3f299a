/- Contracts of package head's body and Body, and of package wire's bodyOf, at a head without fields. -/
import Derived.Test.YtkblggpnghdnmaaGreatDoorWrSmall
namespace Go.Proofs.YtkblggpnghdnmaaGreatDoor.Hd
open Go.RowKit Ch
set_option linter.unusedSimpArgs false
set_option linter.unusedVariables false

set_option maxRecDepth 100000 in
set_option maxHeartbeats 1000000 in
theorem places_nil (a1 a2 : ByteArray) (mn : Int) (ao : Option Addr) (cp : Nat) (v : Value) (w : World) :
    Calls Tryz.prog 28 #[.agg #[.string a1, .string a2, .int .i64 mn, .slice ao 0 cp], v] w fun e w' => e = .returned (.slice none 0 0) ∧ Below w.heap.size w w' := by
  have HB : Hid (Below w.heap.size w (w.alloc (.cells #[.string a1, .string a2, .int .i64 mn, .slice ao 0 cp] 35))) := (Below.refl _ _).alloc (Nat.le_refl _) _
  go_enter Tryz.func28, Tryz.ntmps28
  go_wp2
  go_loopw [5, 13] (fun v i wr => v = .slice none 0 0 ∧ i = .int .i64 0 ∧ Below w.heap.size w wr) (fun _ i _ => 0)
  case atStart => exact ⟨rfl, rfl, HB.out⟩
  case round =>
    obtain ⟨rfl, rfl, hb⟩ := hrel
    have HBB := Lib.hid hb
    clear hb
    go_wp2
    go_ret
    exact ⟨rfl, HBB.out⟩
set_option maxRecDepth 100000 in
set_option maxHeartbeats 1000000 in
theorem bdy_c (a1 a2 : ByteArray) (mn most : Int) (ao : Option Addr) (cp : Nat) (w : World) :
    Calls Tryz.prog 31 #[.agg #[.string a1, .string a2, .int .i64 mn, .slice ao 0 cp], .int .i64 most] w fun e w' => e = .returned (.tuple #[.int .i64 1, .int .i64 0, .nilIface]) ∧ Below w.heap.size w w' := by
  have HPL := Lib.hid (fun v W => places_nil a1 a2 mn ao cp v W)
  go_enter Tryz.func31, Tryz.ntmps31
  go_wp2_with fail
  refine (HPL.out _ _).mono ?_
  rintro e w1 ⟨rfl, hb⟩
  have HB : Hid (Below w.heap.size w w1) := (((Below.refl _ _).alloc (Nat.le_refl _) _).alloc (by simp) _).trans (hb.mono (by simp; omega))
  clear hb
  go_wp2
  go_ret3
  exact ⟨rfl, HB.out⟩
set_option maxRecDepth 100000 in
set_option maxHeartbeats 1000000 in
theorem Body_c (a1 a2 : ByteArray) (mn la lb lc : Int) (ao : Option Addr) (cp : Nat) (w : World) :
    Calls Tryz.prog 24 #[.agg #[.string a1, .string a2, .int .i64 mn, .slice ao 0 cp], .agg #[.int .i64 la, .int .i64 lb, .int .i64 lc]] w fun e w' => e = .returned (.tuple #[.int .i64 1, .int .i64 0, .int .i64 0]) ∧ Below w.heap.size w w' := by
  have HBD := Lib.hid (fun most W => bdy_c a1 a2 mn most ao cp W)
  obtain ⟨xa, xb, xc, HRT⟩ : ∃ xa xb xc : Int, Hid (∀ W : World, Calls Tryz.prog 15 #[.agg #[.int .i64 la, .int .i64 lb, .int .i64 lc]] W fun e w' => e = .returned (.agg #[.int .i64 xa, .int .i64 xb, .int .i64 xc]) ∧ Below W.heap.size W w') := ⟨_, _, _, fun W => Right_c la lb lc W⟩
  have HTN := Lib.hid (fun W => told_nil W)
  have hfl : ∀ W : World, (Instr.field 27 (.agg #[.int .i64 xa, .int .i64 xb, .int .i64 xc]) 2).run Tryz.prog W = .ok (.int .i64 xc) W := fun _ => by kernel_rfl
  have HD : Hid (∃ W0, W0 = (w.alloc (.cells #[.string a1, .string a2, .int .i64 mn, .slice ao 0 cp] 35)).alloc (.cells #[.int .i64 la, .int .i64 lb, .int .i64 lc] 27) ∧ W0.heap[w.heap.size]? = some (.cells #[.string a1, .string a2, .int .i64 mn, .slice ao 0 cp] 35 (0, 0)) ∧ W0.heap[w.heap.size + 1]? = some (.cells #[.int .i64 la, .int .i64 lb, .int .i64 lc] 27 (0, 0)) ∧ Below w.heap.size w W0) := by
    refine ⟨_, rfl, ?_, ?_, ((Below.refl _ _).alloc (Nat.le_refl _) _).alloc (by simp) _⟩
    · have hb := (Below.refl (w.heap.size + 1) (w.alloc (.cells #[.string a1, .string a2, .int .i64 mn, .slice ao 0 cp] 35))).alloc (by simp) (.cells #[.int .i64 la, .int .i64 lb, .int .i64 lc] 27)
      exact (hb.block _ (by omega)).trans (heap_alloc_new w _)
    · have := heap_alloc_new (w.alloc (.cells #[.string a1, .string a2, .int .i64 mn, .slice ao 0 cp] 35)) (.cells #[.int .i64 la, .int .i64 lb, .int .i64 lc] 27)
      simpa using this
  obtain ⟨W0, hW0, hH0, hL0, hB0⟩ := HD.out
  have HWE := Lib.hid hW0
  have HH0 := Lib.hid hH0
  have HL0 := Lib.hid hL0
  have HB0 := Lib.hid hB0
  have hz1 : w.heap.size + 1 < W0.heap.size := (Array.getElem?_eq_some_iff.1 hL0).1
  have t0 := cell_of_row _ _ 0 _ _ _ hH0
  have t1 := cell_of_row _ _ 1 _ _ _ hH0
  have t2 := cell_of_row _ _ 2 _ _ _ hH0
  have t3 := cell_of_row _ _ 3 _ _ _ hH0
  have t4 := cell_of_row _ _ 0 _ _ _ hL0
  have t5 := cell_of_row _ _ 1 _ _ _ hL0
  have t6 := cell_of_row _ _ 2 _ _ _ hL0
  clear HD hW0 hH0 hL0 hB0
  go_enter Tryz.func24, Tryz.ntmps24
  go_wp2_with fail
  rw [← HWE.out]
  go_region_held3 (fun V => V.cell? ⟨w.heap.size, 0, none⟩ = some (.string a1) ∧ V.cell? ⟨w.heap.size, 1, none⟩ = some (.string a2) ∧ V.cell? ⟨w.heap.size, 2, none⟩ = some (.int .i64 mn) ∧ V.cell? ⟨w.heap.size, 3, none⟩ = some (.slice ao 0 cp) ∧ V.cell? ⟨w.heap.size + 1, 0, none⟩ = some (.int .i64 la) ∧ V.cell? ⟨w.heap.size + 1, 1, none⟩ = some (.int .i64 lb) ∧ V.cell? ⟨w.heap.size + 1, 2, none⟩ = some (.int .i64 lc))
    (first | exact ⟨v0, v1, v2, v3, v4, v5, v6⟩ | exact ⟨u0, u1, u2, u3, u4, u5, u6⟩ | exact ⟨t0, t1, t2, t3, t4, t5, t6⟩)
    (first
      | (go_at_call 15; refine (HRT.out _).mono ?_; rintro e w2 ⟨rfl, hb2⟩; have HH2 : Hid (w2.heap[w.heap.size]? = some (.cells #[.string a1, .string a2, .int .i64 mn, .slice ao 0 cp] 35 (0, 0))) := (hb2.block _ (Nat.lt_trans (Nat.lt_succ_self _) hz1)).trans HH0.out; have HL2 : Hid (w2.heap[w.heap.size + 1]? = some (.cells #[.int .i64 la, .int .i64 lb, .int .i64 lc] 27 (0, 0))) := (hb2.block _ hz1).trans HL0.out; have HB2 : Hid (Below w.heap.size w w2) := HB0.out.trans (Below.mono ⟨hb2.os, hb2.tape, hb2.output, hb2.size, hb2.block⟩ HB0.out.size); have hz2 : w.heap.size + 1 < w2.heap.size := (Array.getElem?_eq_some_iff.1 HL2.out).1; have u0 := cell_of_row _ _ 0 _ _ _ HH2.out; have u1 := cell_of_row _ _ 1 _ _ _ HH2.out; have u2 := cell_of_row _ _ 2 _ _ _ HH2.out; have u3 := cell_of_row _ _ 3 _ _ _ HH2.out; have u4 := cell_of_row _ _ 0 _ _ _ HL2.out; have u5 := cell_of_row _ _ 1 _ _ _ HL2.out; have u6 := cell_of_row _ _ 2 _ _ _ HL2.out; clear hb2)
      | (go_at_call 31; refine (HBD.out _ _).mono ?_; rintro e w3 ⟨rfl, hb3⟩; have HH3 : Hid (w3.heap[w.heap.size]? = some (.cells #[.string a1, .string a2, .int .i64 mn, .slice ao 0 cp] 35 (0, 0))) := (hb3.block _ (Nat.lt_trans (Nat.lt_succ_self _) hz2)).trans HH2.out; have HL3 : Hid (w3.heap[w.heap.size + 1]? = some (.cells #[.int .i64 la, .int .i64 lb, .int .i64 lc] 27 (0, 0))) := (hb3.block _ hz2).trans HL2.out; have HB3 : Hid (Below w.heap.size w w3) := HB2.out.trans (hb3.mono HB2.out.size); have v0 := cell_of_row _ _ 0 _ _ _ HH3.out; have v1 := cell_of_row _ _ 1 _ _ _ HH3.out; have v2 := cell_of_row _ _ 2 _ _ _ HH3.out; have v3 := cell_of_row _ _ 3 _ _ _ HH3.out; have v4 := cell_of_row _ _ 0 _ _ _ HL3.out; have v5 := cell_of_row _ _ 1 _ _ _ HL3.out; have v6 := cell_of_row _ _ 2 _ _ _ HL3.out; clear hb3))
  clear t0 t1 t2 t3 t4 t5 t6 u0 u1 u2 u3 u4 u5 u6 v0 v1 v2 v3 v4 v5 v6
  go_wp2_with fail
  refine (HTN.out _).mono ?_
  rintro e w4 ⟨rfl, hb4⟩
  have HB4 : Hid (Below w.heap.size w w4) := HB3.out.trans (hb4.mono HB3.out.size)
  clear hb4
  go_wp2
  go_ret3
  exact ⟨rfl, HB4.out⟩
set_option maxRecDepth 100000 in
set_option maxHeartbeats 1000000 in
theorem bodyOf_c (a1 a2 : ByteArray) (mn la lb lc : Int) (ao : Option Addr) (cp : Nat) (w : World) :
    Calls Tryz.prog 21 #[.agg #[.string a1, .string a2, .int .i64 mn, .slice ao 0 cp], .string ⟨#[]⟩, .agg #[.int .i64 la, .int .i64 lb, .int .i64 lc]] w fun e w' => e = .returned (.tuple #[.string ⟨#[]⟩, .int .i64 0, .int .i64 0]) ∧ Below w.heap.size w w' := by
  have HBD := Lib.hid (fun W => Body_c a1 a2 mn la lb lc ao cp W)
  go_enter Tryz.func21, Tryz.ntmps21
  go_wp2_with fail
  refine (HBD.out _).mono ?_
  rintro e w1 ⟨rfl, hb⟩
  have HB : Hid (Below w.heap.size w w1) := (((Below.refl _ _).alloc (Nat.le_refl _) _).alloc (by simp) _).trans (hb.mono (by simp; omega))
  clear hb
  go_wp2
  go_ret3
  exact ⟨rfl, HB.out⟩
end Go.Proofs.YtkblggpnghdnmaaGreatDoor.Hd
