/- Contracts and plain mathematics of some packages' functions, laid together; conditions as each one says. -/
import Derived.Test.YtpgllcdcpdeicaaGreatDoorJvNxE
import Derived.Deep.Cut
import Derived.Maps.OwnSet
import Derived.Deep.RegionHeldLaw
import Derived.Deep.AppendLies
namespace Go.Proofs.YtpgllcdcpdeicaaGreatDoor.Jv
open Jt
open Go.RowKit
set_option linter.unusedSimpArgs false
set_option linter.unusedVariables false

abbrev tkA (t : Tok) : Value := .agg #[.int .i64 (t.k : Int), .int .i64 (t.a : Int), .int .i64 (t.b : Int), .string (mkS t.t), .int .i64 t.n]
abbrev zTk : Value := .agg #[.int .i64 0, .int .i64 0, .int .i64 0, .string ⟨#[]⟩, .int .i64 0]
abbrev fauV (e : Er) : Value := .iface 45 (.agg #[.int .i64 (e.1 : Int), .int .i64 e.2])
/-- a token, and where the reader stands then; or what is amiss, and the reader as it stood -/
def TkQ (g : Nat) (s : ByteArray) (x : Except Er Tok) (w : World) (e : Ending) (w' : World) : Prop :=
  w.grownBy w' (some g) ∧ match x with
  | .ok t => e = .returned (.tuple #[tkA t, .nilIface]) ∧ Rd g s t.b w'
  | .error r => e = .returned (.tuple #[zTk, fauV r]) ∧ ∃ a, a ≤ s.size ∧ Rd g s a w'
theorem ext_all (s : ByteArray) (a : Nat) : (s.extract a s.size).data.toList = s.data.toList.drop a := by
  rw [extract_cut]; unfold cutL
  rw [List.take_of_length_le]
  rw [List.length_drop, Lib.size_eq]; exact Nat.le_refl _
theorem next_q (g a : Nat) (s : ByteArray) (w : World) (hR : Rd g s a w) (hE : Env w) (hs : s.size ≤ 1000) (ha : a ≤ s.size) :
    Calls Tryz.prog 16 #[.pointer (some ⟨g, 0, none⟩)] w (TkQ g s (nx s.data.toList a) w) := by
  have hl := size_l s
  by_cases h : (tokA s.data.toList a).2 = 0
  · have hx : nx s.data.toList a = .ok (tokA s.data.toList a).1 := by unfold nx; rw [if_pos h]
    refine (next_y g a s (mkS (tokA s.data.toList a).1.t) ((tokA s.data.toList a).1.k : Int) ((tokA s.data.toList a).1.a : Int) ((tokA s.data.toList a).1.b : Int) (tokA s.data.toList a).1.n w hR hE (Lib.hid fun W hW => (Next_c s a W hW hs ha).mono fun e w' ⟨he, hb⟩ => ⟨?_, hb⟩)).mono fun e w' ⟨he, hr, hb⟩ => ⟨hb, ?_⟩
    · rw [he, h]; rfl
    · rw [hx]; exact ⟨he, hr⟩
  · have hx : nx s.data.toList a = .error (endP blkB s.data.toList a, (tokA s.data.toList a).2) := by unfold nx; rw [if_neg h]
    have hp := all_place (l := s.data.toList) (k := a) (by omega) h
    have hq : endP blkB s.data.toList a ≤ s.data.toList.length := endP_le (by omega)
    refine (next_e g a (allA (s.data.toList.drop a) 0).2.1 (endP blkB s.data.toList a) s (tokA s.data.toList a).2 w hR hE ?_ ha hs hp (by omega) (Lib.hid fun W hW => (Next_c s a W hW hs ha).mono fun e w' ⟨he, hb⟩ => ⟨?_, hb⟩) (Lib.hid fun W hW => (All_c (s.extract a s.size) W hW ?_).mono ?_)).mono fun e w' ⟨he, hb⟩ => ⟨gb_below hb, ?_⟩
    · rcases tokA_e s.data.toList a with x | x | x | x
      · exact absurd x h
      all_goals simp [x]
    · rw [he, tokA_zero h]; rfl
    · rw [size_l, ext_all, List.length_drop]; omega
    · rintro e w' ⟨v, he, -, hb⟩
      rw [ext_all] at he
      exact ⟨v, _, he, hb⟩
    · rw [hx]; exact ⟨he, a, ha, hR.go hb⟩
end Go.Proofs.YtpgllcdcpdeicaaGreatDoor.Jv
namespace Go.Proofs.YtpgllcdcpdeicaaGreatDoor.Jv
open Jt
open Go.RowKit
set_option linter.unusedSimpArgs false
set_option linter.unusedVariables false

theorem neF (a e : Int) : ∀ W : World, (binOp .neq 41 (.iface 45 (.agg #[.int .i64 a, .int .i64 e])) .nilIface).run Tryz.prog W = .ok (.bool true) W := fun _ => by kernel_rfl
theorem neN : ∀ W : World, (binOp .neq 41 .nilIface .nilIface).run Tryz.prog W = .ok (.bool false) W := fun _ => by kernel_rfl
theorem eqF (a e : Int) : ∀ W : World, (binOp .eql 41 (.iface 45 (.agg #[.int .i64 a, .int .i64 e])) .nilIface).run Tryz.prog W = .ok (.bool false) W := fun _ => by kernel_rfl
theorem eqN : ∀ W : World, (binOp .eql 41 .nilIface .nilIface).run Tryz.prog W = .ok (.bool true) W := fun _ => by kernel_rfl
set_option maxHeartbeats 1000000 in
theorem unfit_c (k ta tb tn : Int) (tx : ByteArray) (w : World) : Calls Tryz.prog 18 #[.agg #[.int .i64 k, .int .i64 ta, .int .i64 tb, .string tx, .int .i64 tn]] w fun e w' => e = .returned (.iface 45 (.agg #[.int .i64 ta, .int .i64 3])) ∧ Below w.heap.size w w' := by
  obtain ⟨W0, hW0, hk0, hb0⟩ := newT w k ta tb tx tn
  have HW0 := Lib.hid hW0
  have HB0 := Lib.hid hb0
  obtain ⟨c0, c1, c2, c3, c4⟩ := cells5 hk0
  clear hW0 hb0
  go_enter Tryz.func18, Tryz.ntmps18
  go_wp2_with fail
  rw [← HW0.out]
  go_wp2
  go_ret
  exact ⟨rfl, HB0.out⟩
end Go.Proofs.YtpgllcdcpdeicaaGreatDoor.Jv
namespace Go.Proofs.YtpgllcdcpdeicaaGreatDoor.Jv
open Jt
open Go.RowKit
set_option linter.unusedSimpArgs false
set_option linter.unusedVariables false

set_option maxRecDepth 100000 in
set_option maxHeartbeats 2000000 in
theorem bh_1 (g : Nat) (L : Int) (p x : Int) (P : World → Prop) (w : World) (hgl : g < w.heap.size)
    (HN : Hid (Calls Tryz.prog 16 #[.pointer (some ⟨g, 0, none⟩)] (w.alloc (.cells #[.int .i64 0, .int .i64 0, .int .i64 0, .string ⟨#[]⟩, .int .i64 0] 60)) fun e w' => e = .returned (.tuple #[.agg #[.int .i64 0, .int .i64 0, .int .i64 0, .string ⟨#[]⟩, .int .i64 0], .iface 45 (.agg #[.int .i64 p, .int .i64 x])]) ∧ (w.alloc (.cells #[.int .i64 0, .int .i64 0, .int .i64 0, .string ⟨#[]⟩, .int .i64 0] 60)).grownBy w' (some g) ∧ P w')) :
    Calls Tryz.prog 51 #[.pointer (some ⟨g, 0, none⟩), .int .i64 L] w fun e w' => e = .returned (.tuple #[.agg #[.int .i64 0, .int .i64 0, .int .i64 0, .string ⟨#[]⟩, .int .i64 0], .bool false, .iface 45 (.agg #[.int .i64 p, .int .i64 x])]) ∧ ∃ w1, P w1 ∧ w.grownBy w1 (some g) ∧ Below w.heap.size w1 w' := by
  have HG : Hid (g < w.heap.size) := hgl
  have hgw : g ≠ w.heap.size := Nat.ne_of_lt hgl
  clear hgl
  go_enter Tryz.func51, Tryz.ntmps51
  go_wp2_with fail
  (with_reducible refine HN.out.mono ?_)
  rintro e w1 ⟨rfl, hg1, hp1⟩
  have HP1 := Lib.hid hp1
  have HG1 := Lib.hid hg1
  have HT1 : Hid (w1.heap[w.heap.size]? = some (obT 0 0 0 ⟨#[]⟩ 0)) := (hg1.block _ (by simp) (fun e => hgw (by injection e with e; exact e.symm))).trans (heap_alloc_new w _)
  have hz1 : w.heap.size < w1.heap.size := (Array.getElem?_eq_some_iff.1 HT1.out).1
  have HW1 : Hid (w.grownBy w1 (some g)) := gb_trans (gb_below ((Below.refl _ _).alloc (Nat.le_refl _) _)) hg1
  clear hg1 hp1 HN
  go_upto_region 2 with (fail)
  obtain ⟨WX, hWX, hkX, hbX⟩ := newT w1 0 0 0 ⟨#[]⟩ 0
  have HWX := Lib.hid hWX
  have HKX := Lib.hid hkX
  have HBX := Lib.hid hbX
  have HTX : Hid (WX.heap[w.heap.size]? = some (obT 0 0 0 ⟨#[]⟩ 0)) := (hbX.block _ hz1).trans HT1.out
  obtain ⟨x0, x1, x2, x3, x4⟩ := cells5 hkX
  obtain ⟨t0, t1, t2, t3, t4⟩ := cells5 HTX.out
  have z0 := frz HTX.out 0
  have z1 := frz HTX.out 1
  have z2 := frz HTX.out 2
  have z3 := frz HTX.out 3
  have z4 := frz HTX.out 4
  have hzX : w1.heap.size < WX.heap.size := (Array.getElem?_eq_some_iff.1 hkX).1
  have hne : ¬ w1.heap.size = w.heap.size := by omega
  have hne2 : ¬ w.heap.size = w1.heap.size := by omega
  clear hWX hkX hbX
  have HH := Lib.hid (set5 HTX.out (.int .i64 0) (.int .i64 0) (.int .i64 0) (.string ⟨#[]⟩) (.int .i64 0))
  have HGX := Lib.hid ((HBX.out.mono (Nat.le_of_lt hz1)).trans (bel_set5 (B := w.heap.size) (r := w.heap.size) WX (Nat.le_refl _) (.int .i64 0) (.int .i64 0) (.int .i64 0) (.string ⟨#[]⟩) (.int .i64 0)))
  have nF := neF p x
  rw [← HWX.out]
  go_wp2
  obtain ⟨d0, d1, d2, d3, d4⟩ := cells5 HH.out
  clear x0 x1 x2 x3 x4 t0 t1 t2 t3 t4 z0 z1 z2 z3 z4
  (with_reducible refine bodyPost_ret (v := .tuple #[.agg #[.int .i64 0, .int .i64 0, .int .i64 0, .string ⟨#[]⟩, .int .i64 0], .bool false, .iface 45 (.agg #[.int .i64 p, .int .i64 x])]) (by simp [results, Tryz.results51, go_sem, d0, d1, d2, d3, d4]) rfl ⟨rfl, w1, HP1.out, HW1.out, HGX.out⟩)
set_option maxRecDepth 100000 in
set_option maxHeartbeats 2000000 in
theorem bh_2 (g : Nat) (L : Int) (ta tb tn : Int) (tx : ByteArray) (P : World → Prop) (w : World) (hgl : g < w.heap.size)
    (HN : Hid (Calls Tryz.prog 16 #[.pointer (some ⟨g, 0, none⟩)] (w.alloc (.cells #[.int .i64 0, .int .i64 0, .int .i64 0, .string ⟨#[]⟩, .int .i64 0] 60)) fun e w' => e = .returned (.tuple #[.agg #[.int .i64 L, .int .i64 ta, .int .i64 tb, .string tx, .int .i64 tn], .nilIface]) ∧ (w.alloc (.cells #[.int .i64 0, .int .i64 0, .int .i64 0, .string ⟨#[]⟩, .int .i64 0] 60)).grownBy w' (some g) ∧ P w')) :
    Calls Tryz.prog 51 #[.pointer (some ⟨g, 0, none⟩), .int .i64 L] w fun e w' => e = .returned (.tuple #[.agg #[.int .i64 0, .int .i64 0, .int .i64 0, .string ⟨#[]⟩, .int .i64 0], .bool false, .nilIface]) ∧ ∃ w1, P w1 ∧ w.grownBy w1 (some g) ∧ Below w.heap.size w1 w' := by
  have HG : Hid (g < w.heap.size) := hgl
  have hgw : g ≠ w.heap.size := Nat.ne_of_lt hgl
  clear hgl
  go_enter Tryz.func51, Tryz.ntmps51
  go_wp2_with fail
  (with_reducible refine HN.out.mono ?_)
  rintro e w1 ⟨rfl, hg1, hp1⟩
  have HP1 := Lib.hid hp1
  have HG1 := Lib.hid hg1
  have HT1 : Hid (w1.heap[w.heap.size]? = some (obT 0 0 0 ⟨#[]⟩ 0)) := (hg1.block _ (by simp) (fun e => hgw (by injection e with e; exact e.symm))).trans (heap_alloc_new w _)
  have hz1 : w.heap.size < w1.heap.size := (Array.getElem?_eq_some_iff.1 HT1.out).1
  have HW1 : Hid (w.grownBy w1 (some g)) := gb_trans (gb_below ((Below.refl _ _).alloc (Nat.le_refl _) _)) hg1
  clear hg1 hp1 HN
  go_upto_region 2 with (fail)
  obtain ⟨WX, hWX, hkX, hbX⟩ := newT w1 L ta tb tx tn
  have HWX := Lib.hid hWX
  have HKX := Lib.hid hkX
  have HBX := Lib.hid hbX
  have HTX : Hid (WX.heap[w.heap.size]? = some (obT 0 0 0 ⟨#[]⟩ 0)) := (hbX.block _ hz1).trans HT1.out
  obtain ⟨x0, x1, x2, x3, x4⟩ := cells5 hkX
  obtain ⟨t0, t1, t2, t3, t4⟩ := cells5 HTX.out
  have z0 := frz HTX.out 0
  have z1 := frz HTX.out 1
  have z2 := frz HTX.out 2
  have z3 := frz HTX.out 3
  have z4 := frz HTX.out 4
  have hzX : w1.heap.size < WX.heap.size := (Array.getElem?_eq_some_iff.1 hkX).1
  have hne : ¬ w1.heap.size = w.heap.size := by omega
  have hne2 : ¬ w.heap.size = w1.heap.size := by omega
  clear hWX hkX hbX
  have HH := Lib.hid (set5 HTX.out (.int .i64 0) (.int .i64 0) (.int .i64 0) (.string ⟨#[]⟩) (.int .i64 0))
  have HGX := Lib.hid ((HBX.out.mono (Nat.le_of_lt hz1)).trans (bel_set5 (B := w.heap.size) (r := w.heap.size) WX (Nat.le_refl _) (.int .i64 0) (.int .i64 0) (.int .i64 0) (.string ⟨#[]⟩) (.int .i64 0)))
  have nN := neN
  rw [← HWX.out]
  go_wp2
  obtain ⟨d0, d1, d2, d3, d4⟩ := cells5 HH.out
  clear x0 x1 x2 x3 x4 t0 t1 t2 t3 t4 z0 z1 z2 z3 z4
  (with_reducible refine bodyPost_ret (v := .tuple #[.agg #[.int .i64 0, .int .i64 0, .int .i64 0, .string ⟨#[]⟩, .int .i64 0], .bool false, .nilIface]) (by simp [results, Tryz.results51, go_sem, d0, d1, d2, d3, d4]) rfl ⟨rfl, w1, HP1.out, HW1.out, HGX.out⟩)
set_option maxRecDepth 100000 in
set_option maxHeartbeats 2000000 in
theorem bh_3 (g : Nat) (L : Int) (k ta tb tn : Int) (tx : ByteArray) (hkL : k ≠ L) (hk6 : k ≠ 6) (P : World → Prop) (w : World) (hgl : g < w.heap.size)
    (HN : Hid (Calls Tryz.prog 16 #[.pointer (some ⟨g, 0, none⟩)] (w.alloc (.cells #[.int .i64 0, .int .i64 0, .int .i64 0, .string ⟨#[]⟩, .int .i64 0] 60)) fun e w' => e = .returned (.tuple #[.agg #[.int .i64 k, .int .i64 ta, .int .i64 tb, .string tx, .int .i64 tn], .nilIface]) ∧ (w.alloc (.cells #[.int .i64 0, .int .i64 0, .int .i64 0, .string ⟨#[]⟩, .int .i64 0] 60)).grownBy w' (some g) ∧ P w')) :
    Calls Tryz.prog 51 #[.pointer (some ⟨g, 0, none⟩), .int .i64 L] w fun e w' => e = .returned (.tuple #[.agg #[.int .i64 0, .int .i64 0, .int .i64 0, .string ⟨#[]⟩, .int .i64 0], .bool false, .iface 45 (.agg #[.int .i64 ta, .int .i64 3])]) ∧ ∃ w1, P w1 ∧ w.grownBy w1 (some g) ∧ Below w.heap.size w1 w' := by
  have HG : Hid (g < w.heap.size) := hgl
  have hgw : g ≠ w.heap.size := Nat.ne_of_lt hgl
  clear hgl
  go_enter Tryz.func51, Tryz.ntmps51
  go_wp2_with fail
  (with_reducible refine HN.out.mono ?_)
  rintro e w1 ⟨rfl, hg1, hp1⟩
  have HP1 := Lib.hid hp1
  have HG1 := Lib.hid hg1
  have HT1 : Hid (w1.heap[w.heap.size]? = some (obT 0 0 0 ⟨#[]⟩ 0)) := (hg1.block _ (by simp) (fun e => hgw (by injection e with e; exact e.symm))).trans (heap_alloc_new w _)
  have hz1 : w.heap.size < w1.heap.size := (Array.getElem?_eq_some_iff.1 HT1.out).1
  have HW1 : Hid (w.grownBy w1 (some g)) := gb_trans (gb_below ((Below.refl _ _).alloc (Nat.le_refl _) _)) hg1
  clear hg1 hp1 HN
  go_upto_region 2 with (fail)
  obtain ⟨WX, hWX, hkX, hbX⟩ := newT w1 k ta tb tx tn
  have HWX := Lib.hid hWX
  have HKX := Lib.hid hkX
  have HBX := Lib.hid hbX
  have HTX : Hid (WX.heap[w.heap.size]? = some (obT 0 0 0 ⟨#[]⟩ 0)) := (hbX.block _ hz1).trans HT1.out
  obtain ⟨x0, x1, x2, x3, x4⟩ := cells5 hkX
  obtain ⟨t0, t1, t2, t3, t4⟩ := cells5 HTX.out
  have z0 := frz HTX.out 0
  have z1 := frz HTX.out 1
  have z2 := frz HTX.out 2
  have z3 := frz HTX.out 3
  have z4 := frz HTX.out 4
  have hzX : w1.heap.size < WX.heap.size := (Array.getElem?_eq_some_iff.1 hkX).1
  have hne : ¬ w1.heap.size = w.heap.size := by omega
  have hne2 : ¬ w.heap.size = w1.heap.size := by omega
  clear hWX hkX hbX
  have nN := neN
  rw [← HWX.out]
  go_wp2_with fail
  (with_reducible refine (unfit_c k ta tb tn tx WX).mono ?_)
  rintro e w2 ⟨rfl, hb2⟩
  clear x0 x1 x2 x3 x4 t0 t1 t2 t3 t4 z0 z1 z2 z3 z4
  have HB2 := Lib.hid hb2
  have HT2 : Hid (w2.heap[w.heap.size]? = some (obT 0 0 0 ⟨#[]⟩ 0)) := (hb2.block _ (Nat.lt_trans hz1 hzX)).trans HTX.out
  clear hb2
  obtain ⟨u0, u1, u2, u3, u4⟩ := cells5 HT2.out
  have v0 := frz HT2.out 0
  have v1 := frz HT2.out 1
  have v2 := frz HT2.out 2
  have v3 := frz HT2.out 3
  have v4 := frz HT2.out 4
  have HH := Lib.hid (set5 HT2.out (.int .i64 0) (.int .i64 0) (.int .i64 0) (.string ⟨#[]⟩) (.int .i64 0))
  have HGX := Lib.hid (((HBX.out.mono (Nat.le_of_lt hz1)).trans (HB2.out.mono (Nat.le_of_lt (Nat.lt_trans hz1 hzX)))).trans (bel_set5 (B := w.heap.size) (r := w.heap.size) w2 (Nat.le_refl _) (.int .i64 0) (.int .i64 0) (.int .i64 0) (.string ⟨#[]⟩) (.int .i64 0)))
  go_wp2
  obtain ⟨d0, d1, d2, d3, d4⟩ := cells5 HH.out
  clear u0 u1 u2 u3 u4 v0 v1 v2 v3 v4
  (with_reducible refine bodyPost_ret (v := .tuple #[.agg #[.int .i64 0, .int .i64 0, .int .i64 0, .string ⟨#[]⟩, .int .i64 0], .bool false, .iface 45 (.agg #[.int .i64 ta, .int .i64 3])]) (by simp [results, Tryz.results51, go_sem, d0, d1, d2, d3, d4]) rfl ⟨rfl, w1, HP1.out, HW1.out, HGX.out⟩)
set_option maxRecDepth 100000 in
set_option maxHeartbeats 2000000 in
theorem bh_4 (g : Nat) (L : Int) (ta tb tn p x : Int) (tx : ByteArray) (hL : (6 : Int) ≠ L) (P : World → Prop) (w : World) (hgl : g < w.heap.size)
    (HN : Hid (Calls Tryz.prog 16 #[.pointer (some ⟨g, 0, none⟩)] (w.alloc (.cells #[.int .i64 0, .int .i64 0, .int .i64 0, .string ⟨#[]⟩, .int .i64 0] 60)) fun e w' => e = .returned (.tuple #[.agg #[.int .i64 6, .int .i64 ta, .int .i64 tb, .string tx, .int .i64 tn], .nilIface]) ∧ (w.alloc (.cells #[.int .i64 0, .int .i64 0, .int .i64 0, .string ⟨#[]⟩, .int .i64 0] 60)).grownBy w' (some g) ∧ P w')) (P2 : World → Prop)
    (HM : Hid (∀ w1 w2, P w1 → Below w1.heap.size w1 w2 → Calls Tryz.prog 16 #[.pointer (some ⟨g, 0, none⟩)] w2 fun e w' => e = .returned (.tuple #[.agg #[.int .i64 0, .int .i64 0, .int .i64 0, .string ⟨#[]⟩, .int .i64 0], .iface 45 (.agg #[.int .i64 p, .int .i64 x])]) ∧ w2.grownBy w' (some g) ∧ P2 w')) :
    Calls Tryz.prog 51 #[.pointer (some ⟨g, 0, none⟩), .int .i64 L] w fun e w' => e = .returned (.tuple #[.agg #[.int .i64 0, .int .i64 0, .int .i64 0, .string ⟨#[]⟩, .int .i64 0], .bool false, .iface 45 (.agg #[.int .i64 p, .int .i64 x])]) ∧ ∃ w1, P2 w1 ∧ w.grownBy w1 (some g) ∧ Below w.heap.size w1 w' := by
  have HG : Hid (g < w.heap.size) := hgl
  have hgw : g ≠ w.heap.size := Nat.ne_of_lt hgl
  clear hgl
  go_enter Tryz.func51, Tryz.ntmps51
  go_wp2_with fail
  (with_reducible refine HN.out.mono ?_)
  rintro e w1 ⟨rfl, hg1, hp1⟩
  have HP1 := Lib.hid hp1
  have HG1 := Lib.hid hg1
  have HT1 : Hid (w1.heap[w.heap.size]? = some (obT 0 0 0 ⟨#[]⟩ 0)) := (hg1.block _ (by simp) (fun e => hgw (by injection e with e; exact e.symm))).trans (heap_alloc_new w _)
  have hz1 : w.heap.size < w1.heap.size := (Array.getElem?_eq_some_iff.1 HT1.out).1
  have HW1 : Hid (w.grownBy w1 (some g)) := gb_trans (gb_below ((Below.refl _ _).alloc (Nat.le_refl _) _)) hg1
  clear hg1 hp1 HN
  go_upto_region 2 with (fail)
  obtain ⟨WX, hWX, hkX, hbX⟩ := newT w1 6 ta tb tx tn
  have HWX := Lib.hid hWX
  have HKX := Lib.hid hkX
  have HBX := Lib.hid hbX
  have HTX : Hid (WX.heap[w.heap.size]? = some (obT 0 0 0 ⟨#[]⟩ 0)) := (hbX.block _ hz1).trans HT1.out
  obtain ⟨x0, x1, x2, x3, x4⟩ := cells5 hkX
  obtain ⟨t0, t1, t2, t3, t4⟩ := cells5 HTX.out
  have z0 := frz HTX.out 0
  have z1 := frz HTX.out 1
  have z2 := frz HTX.out 2
  have z3 := frz HTX.out 3
  have z4 := frz HTX.out 4
  have hzX : w1.heap.size < WX.heap.size := (Array.getElem?_eq_some_iff.1 hkX).1
  have hne : ¬ w1.heap.size = w.heap.size := by omega
  have hne2 : ¬ w.heap.size = w1.heap.size := by omega
  clear hWX hkX hbX
  have nN := neN
  have eF := eqF p x
  rw [← HWX.out]
  go_wp2_with fail
  (with_reducible refine (HM.out w1 WX HP1.out HBX.out).mono ?_)
  rintro e w2 ⟨rfl, hg2, hp2⟩
  clear x0 x1 x2 x3 x4 t0 t1 t2 t3 t4 z0 z1 z2 z3 z4
  have hgX : g < w1.heap.size := Nat.lt_of_lt_of_le HG.out HW1.out.size
  have HG2 := Lib.hid hg2
  have HP2 := Lib.hid hp2
  have HT2 : Hid (w2.heap[w.heap.size]? = some (obT 0 0 0 ⟨#[]⟩ 0)) := (hg2.block _ (Nat.lt_trans hz1 hzX) (fun e => hgw (by injection e with e; exact e.symm))).trans HTX.out
  have HX2 : Hid (w2.heap[w1.heap.size]? = some (obT 6 ta tb tx tn)) := (hg2.block _ hzX (fun e => Nat.ne_of_lt hgX (by injection e with e; exact e.symm))).trans HKX.out
  have HW2 : Hid (w.grownBy w2 (some g)) := gb_trans (gb_trans HW1.out (gb_below HBX.out)) hg2
  clear hg2 hp2
  obtain ⟨y0, y1, y2, y3, y4⟩ := cells5 HX2.out
  have q0 := frz HX2.out 0
  have q1 := frz HX2.out 1
  have q2 := frz HX2.out 2
  have q3 := frz HX2.out 3
  have q4 := frz HX2.out 4
  go_upto_region 7 with (fail)
  obtain ⟨w3, hw3⟩ : ∃ w3, w3 = (((((w2.setCell ⟨w1.heap.size, 0, none⟩ (.int .i64 0)).setCell ⟨w1.heap.size, 1, none⟩ (.int .i64 0)).setCell ⟨w1.heap.size, 2, none⟩ (.int .i64 0)).setCell ⟨w1.heap.size, 3, none⟩ (.string ⟨#[]⟩)).setCell ⟨w1.heap.size, 4, none⟩ (.int .i64 0)) := ⟨_, rfl⟩
  have HY3 : Hid (w3.heap[w1.heap.size]? = some (.cells #[.int .i64 0, .int .i64 0, .int .i64 0, .string ⟨#[]⟩, .int .i64 0] 60 (0, 0))) := by rw [hw3]; exact set5 HX2.out _ _ _ _ _
  have HB3 : Hid (Below w1.heap.size w2 w3) := by rw [hw3]; exact bel_set5 _ (Nat.le_refl _) _ _ _ _ _
  have HT3 : Hid (w3.heap[w.heap.size]? = some (obT 0 0 0 ⟨#[]⟩ 0)) := (HB3.out.block _ hz1).trans HT2.out
  rw [← hw3]
  clear hw3 y0 y1 y2 y3 y4 q0 q1 q2 q3 q4
  obtain ⟨y0, y1, y2, y3, y4⟩ := cells5 HY3.out
  obtain ⟨u0, u1, u2, u3, u4⟩ := cells5 HT3.out
  have r0 := frz HT3.out 0
  have r1 := frz HT3.out 1
  have r2 := frz HT3.out 2
  have r3 := frz HT3.out 3
  have r4 := frz HT3.out 4
  have HH := Lib.hid (set5 HT3.out (.int .i64 0) (.int .i64 0) (.int .i64 0) (.string ⟨#[]⟩) (.int .i64 0))
  have HGX := Lib.hid ((HB3.out.mono (Nat.le_of_lt hz1)).trans (bel_set5 (B := w.heap.size) (r := w.heap.size) w3 (Nat.le_refl _) (.int .i64 0) (.int .i64 0) (.int .i64 0) (.string ⟨#[]⟩) (.int .i64 0)))
  go_region
  all_goals go_wp2
  obtain ⟨d0, d1, d2, d3, d4⟩ := cells5 HH.out
  clear y0 y1 y2 y3 y4 u0 u1 u2 u3 u4 r0 r1 r2 r3 r4
  (with_reducible refine bodyPost_ret (v := .tuple #[.agg #[.int .i64 0, .int .i64 0, .int .i64 0, .string ⟨#[]⟩, .int .i64 0], .bool false, .iface 45 (.agg #[.int .i64 p, .int .i64 x])]) (by simp [results, Tryz.results51, go_sem, d0, d1, d2, d3, d4]) rfl ⟨rfl, w2, HP2.out, HW2.out, Below.drew HGX.out⟩)
set_option maxRecDepth 100000 in
set_option maxHeartbeats 2000000 in
theorem bh_5 (g : Nat) (L : Int) (ta tb tn k2 ta2 tb2 tn2 : Int) (tx tx2 : ByteArray) (hL : (6 : Int) ≠ L) (P : World → Prop) (w : World) (hgl : g < w.heap.size)
    (HN : Hid (Calls Tryz.prog 16 #[.pointer (some ⟨g, 0, none⟩)] (w.alloc (.cells #[.int .i64 0, .int .i64 0, .int .i64 0, .string ⟨#[]⟩, .int .i64 0] 60)) fun e w' => e = .returned (.tuple #[.agg #[.int .i64 6, .int .i64 ta, .int .i64 tb, .string tx, .int .i64 tn], .nilIface]) ∧ (w.alloc (.cells #[.int .i64 0, .int .i64 0, .int .i64 0, .string ⟨#[]⟩, .int .i64 0] 60)).grownBy w' (some g) ∧ P w')) (P2 : World → Prop)
    (HM : Hid (∀ w1 w2, P w1 → Below w1.heap.size w1 w2 → Calls Tryz.prog 16 #[.pointer (some ⟨g, 0, none⟩)] w2 fun e w' => e = .returned (.tuple #[.agg #[.int .i64 k2, .int .i64 ta2, .int .i64 tb2, .string tx2, .int .i64 tn2], .nilIface]) ∧ w2.grownBy w' (some g) ∧ P2 w')) :
    Calls Tryz.prog 51 #[.pointer (some ⟨g, 0, none⟩), .int .i64 L] w fun e w' => e = .returned (.tuple #[.agg #[.int .i64 k2, .int .i64 ta2, .int .i64 tb2, .string tx2, .int .i64 tn2], .bool true, .nilIface]) ∧ ∃ w1, P2 w1 ∧ w.grownBy w1 (some g) ∧ Below w.heap.size w1 w' := by
  have HG : Hid (g < w.heap.size) := hgl
  have hgw : g ≠ w.heap.size := Nat.ne_of_lt hgl
  clear hgl
  go_enter Tryz.func51, Tryz.ntmps51
  go_wp2_with fail
  (with_reducible refine HN.out.mono ?_)
  rintro e w1 ⟨rfl, hg1, hp1⟩
  have HP1 := Lib.hid hp1
  have HG1 := Lib.hid hg1
  have HT1 : Hid (w1.heap[w.heap.size]? = some (obT 0 0 0 ⟨#[]⟩ 0)) := (hg1.block _ (by simp) (fun e => hgw (by injection e with e; exact e.symm))).trans (heap_alloc_new w _)
  have hz1 : w.heap.size < w1.heap.size := (Array.getElem?_eq_some_iff.1 HT1.out).1
  have HW1 : Hid (w.grownBy w1 (some g)) := gb_trans (gb_below ((Below.refl _ _).alloc (Nat.le_refl _) _)) hg1
  clear hg1 hp1 HN
  go_upto_region 2 with (fail)
  obtain ⟨WX, hWX, hkX, hbX⟩ := newT w1 6 ta tb tx tn
  have HWX := Lib.hid hWX
  have HKX := Lib.hid hkX
  have HBX := Lib.hid hbX
  have HTX : Hid (WX.heap[w.heap.size]? = some (obT 0 0 0 ⟨#[]⟩ 0)) := (hbX.block _ hz1).trans HT1.out
  obtain ⟨x0, x1, x2, x3, x4⟩ := cells5 hkX
  obtain ⟨t0, t1, t2, t3, t4⟩ := cells5 HTX.out
  have z0 := frz HTX.out 0
  have z1 := frz HTX.out 1
  have z2 := frz HTX.out 2
  have z3 := frz HTX.out 3
  have z4 := frz HTX.out 4
  have hzX : w1.heap.size < WX.heap.size := (Array.getElem?_eq_some_iff.1 hkX).1
  have hne : ¬ w1.heap.size = w.heap.size := by omega
  have hne2 : ¬ w.heap.size = w1.heap.size := by omega
  clear hWX hkX hbX
  have nN := neN
  have eN := eqN
  rw [← HWX.out]
  go_wp2_with fail
  (with_reducible refine (HM.out w1 WX HP1.out HBX.out).mono ?_)
  rintro e w2 ⟨rfl, hg2, hp2⟩
  clear x0 x1 x2 x3 x4 t0 t1 t2 t3 t4 z0 z1 z2 z3 z4
  have hgX : g < w1.heap.size := Nat.lt_of_lt_of_le HG.out HW1.out.size
  have HG2 := Lib.hid hg2
  have HP2 := Lib.hid hp2
  have HT2 : Hid (w2.heap[w.heap.size]? = some (obT 0 0 0 ⟨#[]⟩ 0)) := (hg2.block _ (Nat.lt_trans hz1 hzX) (fun e => hgw (by injection e with e; exact e.symm))).trans HTX.out
  have HX2 : Hid (w2.heap[w1.heap.size]? = some (obT 6 ta tb tx tn)) := (hg2.block _ hzX (fun e => Nat.ne_of_lt hgX (by injection e with e; exact e.symm))).trans HKX.out
  have HW2 : Hid (w.grownBy w2 (some g)) := gb_trans (gb_trans HW1.out (gb_below HBX.out)) hg2
  clear hg2 hp2
  obtain ⟨y0, y1, y2, y3, y4⟩ := cells5 HX2.out
  have q0 := frz HX2.out 0
  have q1 := frz HX2.out 1
  have q2 := frz HX2.out 2
  have q3 := frz HX2.out 3
  have q4 := frz HX2.out 4
  go_upto_region 7 with (fail)
  obtain ⟨w3, hw3⟩ : ∃ w3, w3 = (((((w2.setCell ⟨w1.heap.size, 0, none⟩ (.int .i64 k2)).setCell ⟨w1.heap.size, 1, none⟩ (.int .i64 ta2)).setCell ⟨w1.heap.size, 2, none⟩ (.int .i64 tb2)).setCell ⟨w1.heap.size, 3, none⟩ (.string tx2)).setCell ⟨w1.heap.size, 4, none⟩ (.int .i64 tn2)) := ⟨_, rfl⟩
  have HY3 : Hid (w3.heap[w1.heap.size]? = some (.cells #[.int .i64 k2, .int .i64 ta2, .int .i64 tb2, .string tx2, .int .i64 tn2] 60 (0, 0))) := by rw [hw3]; exact set5 HX2.out _ _ _ _ _
  have HB3 : Hid (Below w1.heap.size w2 w3) := by rw [hw3]; exact bel_set5 _ (Nat.le_refl _) _ _ _ _ _
  have HT3 : Hid (w3.heap[w.heap.size]? = some (obT 0 0 0 ⟨#[]⟩ 0)) := (HB3.out.block _ hz1).trans HT2.out
  rw [← hw3]
  clear hw3 y0 y1 y2 y3 y4 q0 q1 q2 q3 q4
  obtain ⟨y0, y1, y2, y3, y4⟩ := cells5 HY3.out
  obtain ⟨u0, u1, u2, u3, u4⟩ := cells5 HT3.out
  have r0 := frz HT3.out 0
  have r1 := frz HT3.out 1
  have r2 := frz HT3.out 2
  have r3 := frz HT3.out 3
  have r4 := frz HT3.out 4
  have HH := Lib.hid (set5 HT3.out (.int .i64 k2) (.int .i64 ta2) (.int .i64 tb2) (.string tx2) (.int .i64 tn2))
  have HGX := Lib.hid ((HB3.out.mono (Nat.le_of_lt hz1)).trans (bel_set5 (B := w.heap.size) (r := w.heap.size) w3 (Nat.le_refl _) (.int .i64 k2) (.int .i64 ta2) (.int .i64 tb2) (.string tx2) (.int .i64 tn2)))
  go_region
  all_goals go_wp2
  obtain ⟨d0, d1, d2, d3, d4⟩ := cells5 HH.out
  clear y0 y1 y2 y3 y4 u0 u1 u2 u3 u4 r0 r1 r2 r3 r4
  (with_reducible refine bodyPost_ret (v := .tuple #[.agg #[.int .i64 k2, .int .i64 ta2, .int .i64 tb2, .string tx2, .int .i64 tn2], .bool true, .nilIface]) (by simp [results, Tryz.results51, go_sem, d0, d1, d2, d3, d4]) rfl ⟨rfl, w2, HP2.out, HW2.out, Below.drew HGX.out⟩)
end Go.Proofs.YtpgllcdcpdeicaaGreatDoor.Jv
namespace Go.Proofs.YtpgllcdcpdeicaaGreatDoor.Jv
open Jt
open Go.RowKit
set_option linter.unusedSimpArgs false
set_option linter.unusedVariables false

/-- what behindItem answers -/
def BhQ (g : Nat) (s : ByteArray) (x : Except Er (Nat ⊕ Tok)) (w : World) (e : Ending) (w' : World) : Prop :=
  w.grownBy w' (some g) ∧ match x with
  | .ok (.inl b) => e = .returned (.tuple #[zTk, .bool false, .nilIface]) ∧ Rd g s b w'
  | .ok (.inr t) => e = .returned (.tuple #[tkA t, .bool true, .nilIface]) ∧ Rd g s t.b w'
  | .error r => e = .returned (.tuple #[zTk, .bool false, fauV r]) ∧ ∃ a, a ≤ s.size ∧ Rd g s a w'
theorem env_gb {w w' : World} {g : Nat} (h : Env w) (hb : w.grownBy w' (some g)) (hg : 4 ≤ g) (hl : g < w.heap.size) : Env w' := Env.gb h hb hg (Nat.le_of_lt hl)
theorem behind_q (g a : Nat) (o : Bool) (s : ByteArray) (w : World) (hR : Rd g s a w) (hE : Env w) (hg : 4 ≤ g) (hs : s.size ≤ 1000) (ha : a ≤ s.size) :
    Calls Tryz.prog 51 #[.pointer (some ⟨g, 0, none⟩), .int .i64 ((lastK o : Nat) : Int)] w (BhQ g s (bhP s.data.toList o a) w) := by
  have hl := size_l s
  have hgl := hR.lt
  have hE0 : Env (w.alloc (obT 0 0 0 ⟨#[]⟩ 0)) := hE.alloc _
  have hR0 : Rd g s a (w.alloc (obT 0 0 0 ⟨#[]⟩ 0)) := hR.al _
  have hN := next_q g a s _ hR0 hE0 hs ha
  have up : ∀ {w1 w' : World} {b : Nat}, w.grownBy w1 (some g) → Below w.heap.size w1 w' → Rd g s b w1 → w.grownBy w' (some g) ∧ Rd g s b w' := fun h1 h2 h3 => ⟨gb_up h1 h2, (h2.block g hgl).trans h3⟩
  cases hx : nx s.data.toList a with
  | error r =>
    have hb : bhP s.data.toList o a = .error r := by unfold bhP; rw [hx]
    rw [hb]
    refine (bh_1 g _ (r.1 : Int) r.2 (fun w1 => ∃ c, c ≤ s.size ∧ Rd g s c w1) w hgl (Lib.hid (hN.mono fun e w' h => ?_))).mono ?_
    · rw [hx] at h; exact ⟨h.2.1, h.1, h.2.2⟩
    · rintro e w' ⟨he, w1, ⟨c, hc, hr⟩, h1, h2⟩
      obtain ⟨u1, u2⟩ := up h1 h2 hr
      exact ⟨u1, he, c, hc, u2⟩
  | ok u =>
    have hu := nx_ok (by omega) hx
    by_cases h1 : u.k = lastK o
    · have hb : bhP s.data.toList o a = .ok (.inl u.b) := by unfold bhP; rw [hx]; dsimp only; rw [if_pos h1]
      rw [hb]
      refine (bh_2 g _ (u.a : Int) (u.b : Int) u.n (mkS u.t) (fun w1 => Rd g s u.b w1) w hgl (Lib.hid (hN.mono fun e w' h => ?_))).mono ?_
      · rw [hx] at h; rw [← h1]; exact ⟨h.2.1, h.1, h.2.2⟩
      · rintro e w' ⟨he, w1, hr, h1, h2⟩
        obtain ⟨u1, u2⟩ := up h1 h2 hr
        exact ⟨u1, he, u2⟩
    by_cases h2 : u.k ≠ 6
    · have hb : bhP s.data.toList o a = .error (u.a, 3) := by unfold bhP; rw [hx]; dsimp only; rw [if_neg h1, if_pos h2]
      rw [hb]
      refine (bh_3 g _ (u.k : Int) (u.a : Int) (u.b : Int) u.n (mkS u.t) (by omega) (by omega) (fun w1 => Rd g s u.b w1) w hgl (Lib.hid (hN.mono fun e w' h => ?_))).mono ?_
      · rw [hx] at h; exact ⟨h.2.1, h.1, h.2.2⟩
      · rintro e w' ⟨he, w1, hr, h1, h2⟩
        obtain ⟨u1, u2⟩ := up h1 h2 hr
        exact ⟨u1, he, u.b, by omega, u2⟩
    · have h6 : u.k = 6 := by omega
      have h6L : (6 : Int) ≠ ((lastK o : Nat) : Int) := by omega
      have h1st : ∀ e w', TkQ g s (nx s.data.toList a) (w.alloc (obT 0 0 0 ⟨#[]⟩ 0)) e w' → e = .returned (.tuple #[.agg #[.int .i64 6, .int .i64 (u.a : Int), .int .i64 (u.b : Int), .string (mkS u.t), .int .i64 u.n], .nilIface]) ∧ (w.alloc (obT 0 0 0 ⟨#[]⟩ 0)).grownBy w' (some g) ∧ (Rd g s u.b w' ∧ Env w') := by
        intro e w' h
        rw [hx] at h
        obtain ⟨i1, i2, i3⟩ := h
        rw [tkA, h6] at i2
        exact ⟨i2, i1, i3, env_gb hE0 i1 hg hR0.lt⟩
      have hN2 : ∀ w1 w2 : World, (Rd g s u.b w1 ∧ Env w1) → Below w1.heap.size w1 w2 → Calls Tryz.prog 16 #[.pointer (some ⟨g, 0, none⟩)] w2 (TkQ g s (nx s.data.toList u.b) w2) := fun w1 w2 h1 h2 =>
        next_q g u.b s w2 (h1.1.go h2) (h1.2.go h2) hs (by omega)
      cases hy : nx s.data.toList u.b with
      | error r =>
        have hb : bhP s.data.toList o a = .error r := by unfold bhP; rw [hx]; dsimp only; rw [if_neg h1, if_neg h2, hy]
        rw [hb]
        refine (bh_4 g _ (u.a : Int) (u.b : Int) u.n (r.1 : Int) r.2 (mkS u.t) h6L (fun w1 => Rd g s u.b w1 ∧ Env w1) w hgl (Lib.hid (hN.mono h1st)) (fun w1 => ∃ c, c ≤ s.size ∧ Rd g s c w1) (Lib.hid fun w1 w2 k1 k2 => (hN2 w1 w2 k1 k2).mono fun e w' h => ?_)).mono ?_
        · rw [hy] at h; exact ⟨h.2.1, h.1, h.2.2⟩
        · rintro e w' ⟨he, w1, ⟨c, hc, hr⟩, h1, h2⟩
          obtain ⟨u1, u2⟩ := up h1 h2 hr
          exact ⟨u1, he, c, hc, u2⟩
      | ok t =>
        have hb : bhP s.data.toList o a = .ok (.inr t) := by unfold bhP; rw [hx]; dsimp only; rw [if_neg h1, if_neg h2, hy]
        rw [hb]
        refine (bh_5 g _ (u.a : Int) (u.b : Int) u.n (t.k : Int) (t.a : Int) (t.b : Int) t.n (mkS u.t) (mkS t.t) h6L (fun w1 => Rd g s u.b w1 ∧ Env w1) w hgl (Lib.hid (hN.mono h1st)) (fun w1 => Rd g s t.b w1) (Lib.hid fun w1 w2 k1 k2 => (hN2 w1 w2 k1 k2).mono fun e w' h => ?_)).mono ?_
        · rw [hy] at h; exact ⟨h.2.1, h.1, h.2.2⟩
        · rintro e w' ⟨he, w1, hr, h1, h2⟩
          obtain ⟨u1, u2⟩ := up h1 h2 hr
          exact ⟨u1, he, u2⟩
end Go.Proofs.YtpgllcdcpdeicaaGreatDoor.Jv
namespace Go.Proofs.YtpgllcdcpdeicaaGreatDoor.Jv
open Jt
open Go.RowKit Go.ChangeMaps Go.MapKept Go.WideMaps
set_option linter.unusedSimpArgs false
set_option linter.unusedVariables false

/-- all blocks but those that X holds of stand as they stood -/
def Grw (X : Nat → Prop) (w w' : World) : Prop := w'.os = w.os ∧ w'.tape = w.tape ∧ w'.output = w.output ∧ w.heap.size ≤ w'.heap.size ∧ ∀ k, k < w.heap.size → ¬ X k → w'.heap[k]? = w.heap[k]?
theorem Grw.refl (X : Nat → Prop) (w : World) : Grw X w w := ⟨rfl, rfl, rfl, Nat.le_refl _, fun _ _ _ => rfl⟩
theorem Grw.trans {X Y : Nat → Prop} {a b c : World} (h : Grw X a b) (k : Grw Y b c) (hx : ∀ j, j < a.heap.size → Y j → X j) : Grw X a c :=
  ⟨k.1.trans h.1, k.2.1.trans h.2.1, k.2.2.1.trans h.2.2.1, Nat.le_trans h.2.2.2.1 k.2.2.2.1, fun j hj hr => (k.2.2.2.2 j (Nat.lt_of_lt_of_le hj h.2.2.2.1) (fun y => hr (hx j hj y))).trans (h.2.2.2.2 j hj hr)⟩
theorem Grw.of_gb {X : Nat → Prop} {w w' : World} {r : Option Nat} (h : w.grownBy w' r) (hx : ∀ g, r = some g → X g) : Grw X w w' := ⟨h.os, h.tape, h.output, h.size, fun k hk hn => h.block k hk (fun e => hn (hx k e.symm))⟩
theorem Grw.of_below {X : Nat → Prop} {B : Nat} {w w' : World} (h : Below B w w') (hx : ∀ k, B ≤ k → k < w.heap.size → X k) : Grw X w w' := ⟨h.os, h.tape, h.output, h.size, fun k hk hn => h.block k (Nat.lt_of_not_le fun hb => hn (hx k hb hk))⟩
theorem Grw.block {X : Nat → Prop} {w w' : World} (h : Grw X w w') {k : Nat} (hk : k < w.heap.size) (hn : ¬ X k) : w'.heap[k]? = w.heap[k]? := h.2.2.2.2 k hk hn
theorem Grw.size {X : Nat → Prop} {w w' : World} (h : Grw X w w') : w.heap.size ≤ w'.heap.size := h.2.2.2.1
theorem Grw.mono {X Y : Nat → Prop} {w w' : World} (h : Grw X w w') (hx : ∀ k, k < w.heap.size → X k → Y k) : Grw Y w w' := ⟨h.1, h.2.1, h.2.2.1, h.2.2.2.1, fun k hk hn => h.2.2.2.2 k hk (fun x => hn (hx k hk x))⟩
theorem strKeyed : Maps.Keyed Tryz.prog 9 := Maps.string_keyed Tryz.underlying9
theorem zeroUnit (w : World) : (zeroValue 152).run Tryz.prog w = .ok (.agg #[]) w := by kernel_rfl
/-- a set of keys in a map's block -/
def SetM (mb : Nat) (ks : List (List UInt8)) (w : World) : Prop := ∃ D : DataW Unit, w.ownsMap Tryz.prog 9 unitElem mb ks.length D ∧ ∀ k, Maps.has D (.string k) = decide (k ∈ ks)
theorem SetM.lt {mb : Nat} {ks : List (List UInt8)} {w : World} (h : SetM mb ks w) : mb < w.heap.size := by
  obtain ⟨D, h, _⟩ := h; exact h.lt
theorem SetM.keep {mb : Nat} {ks : List (List UInt8)} {w w' : World} (h : SetM mb ks w) (hb : w'.heap[mb]? = w.heap[mb]?) : SetM mb ks w' := by
  obtain ⟨D, ⟨es, clock, h1, h2⟩, hh⟩ := h
  exact ⟨D, ⟨es, clock, hb.trans h1, h2⟩, hh⟩
theorem SetM.made (w : World) : SetM w.heap.size [] (w.alloc (.map #[] 0)) := ⟨_, World.ownsMap_made w _ _ _, fun k => by simp [Maps.has]⟩
theorem SetM.look {mb : Nat} {ks : List (List UInt8)} {w : World} (h : SetM mb ks w) {t : List UInt8} (ht : (mkS t).size ≤ maxLen) : (Instr.lookup 126 (.map (some mb)) (.string (mkS t)) true).run Tryz.prog w = .ok (.tuple #[.agg #[], .bool (decide (t ∈ ks))]) w := by
  obtain ⟨D, ho, hh⟩ := h
  obtain ⟨v, ps, hr, hv⟩ := ho.look_ok strKeyed Tryz.underlying126 (zeroUnit w) unitElem_mk (keyOf_string_mk Tryz.underlying9 ht)
  obtain ⟨rfl, _⟩ := unitElem_inv hv
  rw [hr, ← hh t]
  try rfl
theorem SetM.add {mb : Nat} {ks : List (List UInt8)} {w : World} (h : SetM mb ks w) {t : List UInt8} (ht : (mkS t).size ≤ maxLen) (hn : ks.length < maxLen) : ∃ w', (Instr.mapUpdate 126 (.map (some mb)) (.string (mkS t)) (.agg #[])).run Tryz.prog w = .ok () w' ∧ SetM mb (ks ++ [t]) w' ∧ w.grownBy w' (some mb) ∧ w'.heap.size = w.heap.size := by
  obtain ⟨D, ho, hh⟩ := h
  obtain ⟨w', hr, ho', ht'⟩ := ho.store strKeyed Tryz.underlying126 hn (keyOf_string_mk Tryz.underlying9 ht) unitElem_mk
  refine ⟨w', hr, ⟨_, by rw [List.length_append]; exact ho', fun k => ?_⟩, ht'.grown, ?_⟩
  · show Maps.has (D.put (.string t) _) _ = _
    by_cases e : k = t
    · subst e
      rw [Maps.has_put_same ho.isMap (by unfold WideAt.IsKeyLit; trivial)]; simp
    · rw [Maps.has_put_other (fun g => e (by injection g)), hh k]
      simp [e]
  · obtain ⟨es, clock, es', clock', hb, rfl⟩ := ht'
    simp [ChangeMaps.setBlock]
end Go.Proofs.YtpgllcdcpdeicaaGreatDoor.Jv
namespace Go.Proofs.YtpgllcdcpdeicaaGreatDoor.Jv
open Jt
open Go.RowKit Go.ChangeMaps Go.MapKept Go.WideMaps
set_option linter.unusedSimpArgs false
set_option linter.unusedVariables false

/-- a part's block -/
abbrev obP (kd : Int) (vi vk : Value) (last : Int) (vm : Value) (room : Int) : Obj := .cells #[.int .i64 kd, .bool false, .int .i64 0, .string ⟨#[]⟩, vi, vk, .int .i64 last, vm, .int .i64 room] 128
theorem frz9 {w : World} {g : Nat} {cs : Array Value} {t : TypeId} (h : w.heap[g]? = some (.cells cs t (0, 0))) (i : Nat) : w.frozen? ⟨g, i, none⟩ = false := frz h i
/-- a token's block and another's, made one behind the other -/
theorem two_tk (w : World) (k ta tb : Int) (tx : ByteArray) (tn : Int) : ∃ W, W = (w.alloc (obT k ta tb tx tn)).alloc (obT 0 0 0 ⟨#[]⟩ 0) ∧ W.heap[w.heap.size]? = some (obT k ta tb tx tn) ∧ W.heap[w.heap.size + 1]? = some (obT 0 0 0 ⟨#[]⟩ 0) ∧ Below w.heap.size w W ∧ W.heap.size = w.heap.size + 2 := by
  refine ⟨_, rfl, ?_, ?_, ((Below.refl _ _).alloc (Nat.le_refl _) _).alloc (by simp) _, by simp⟩
  · exact (((Below.refl (w.heap.size + 1) (w.alloc (obT k ta tb tx tn))).alloc (by simp) _).block _ (by omega)).trans (heap_alloc_new w _)
  · have := heap_alloc_new (w.alloc (obT k ta tb tx tn)) (obT 0 0 0 ⟨#[]⟩ 0)
    simpa using this
set_option maxRecDepth 100000 in
set_option maxHeartbeats 2000000 in
theorem key_1 (g pb mb : Nat) (kd last room k ta tb tn : Int) (t : List UInt8) (vi vk : Value) (ks : List (List UInt8))   (w : World) (ht : (mkS t).size ≤ maxLen) (hhb : decide (t ∈ ks) = true)
    (hP : w.heap[pb]? = some (obP kd vi vk last (.map (some mb)) room)) (hM : SetM mb ks w) :
    Calls Tryz.prog 64 #[.pointer (some ⟨g, 0, none⟩), .pointer (some ⟨pb, 0, none⟩), .agg #[.int .i64 k, .int .i64 ta, .int .i64 tb, .string (mkS t), .int .i64 tn]] w fun e w' => e = .returned (.tuple #[.agg #[.int .i64 0, .int .i64 0, .int .i64 0, .string ⟨#[]⟩, .int .i64 0], .iface 45 (.agg #[.int .i64 ta, .int .i64 3])]) ∧ Below w.heap.size w w' := by
  obtain ⟨W0, hW0, hk0, hr0, hb0, hz0⟩ := two_tk w k ta tb (mkS t) tn
  have hpl : pb < w.heap.size := (Array.getElem?_eq_some_iff.1 hP).1
  have HW0 := Lib.hid hW0
  have HK0 := Lib.hid hk0
  have HR0 := Lib.hid hr0
  have HB0 := Lib.hid hb0
  have HP0 : Hid (W0.heap[pb]? = some (obP kd vi vk last (.map (some mb)) room)) := (hb0.block _ hpl).trans hP
  have HM0 : Hid (SetM mb ks W0) := hM.keep (hb0.block _ hM.lt)
  have HL0 : Hid (∀ V, SetM mb ks V → (Instr.lookup 126 (.map (some mb)) (.string (mkS t)) true).run Tryz.prog V = .ok (.tuple #[.agg #[], .bool true]) V) := by intro V hV; have h := hV.look ht; rw [hhb] at h; exact h
  have hzz : (w.alloc (obT k ta tb (mkS t) tn)).heap.size = w.heap.size + 1 := by simp
  clear hW0 hk0 hr0 hb0 hP hM hhb
  go_enter Tryz.func64, Tryz.ntmps64
  go_upto_region 1 with (fail)
  rw [← HW0.out]
  have HKS : Hid (∀ V : World, V.heap[pb]? = some (obP kd vi vk last (.map (some mb)) room) → V.heap[w.heap.size]? = some (obT k ta tb (mkS t) tn) → SetM mb ks V → V.cell? ⟨pb, 7, none⟩ = some (.map (some mb)) ∧ V.cell? ⟨w.heap.size, 3, none⟩ = some (.string (mkS t)) ∧ (Instr.lookup 126 (.map (some mb)) (.string (mkS t)) true).run Tryz.prog V = .ok (.tuple #[.agg #[], .bool true]) V) := fun V h1 h2 h3 => ⟨cell_of_row _ _ 7 _ _ _ h1, cell_of_row _ _ 3 _ _ _ h2, HL0.out _ h3⟩
  have hbA : Below W0.heap.size W0 ((W0.alloc (.cells #[] 152)).drew) := ((Below.refl _ _).alloc (Nat.le_refl _) _).drew
  have HPA : Hid (((W0.alloc (.cells #[] 152)).drew).heap[pb]? = some (obP kd vi vk last (.map (some mb)) room)) := (hbA.block _ (by omega)).trans HP0.out
  have HKA : Hid (((W0.alloc (.cells #[] 152)).drew).heap[w.heap.size]? = some (obT k ta tb (mkS t) tn)) := (hbA.block _ (by omega)).trans HK0.out
  have HRA : Hid (((W0.alloc (.cells #[] 152)).drew).heap[w.heap.size + 1]? = some (obT 0 0 0 ⟨#[]⟩ 0)) := (hbA.block _ (by omega)).trans HR0.out
  have HMA : Hid (SetM mb ks ((W0.alloc (.cells #[] 152)).drew)) := HM0.out.keep (hbA.block _ HM0.out.lt)
  have HBA : Hid (Below w.heap.size w ((W0.alloc (.cells #[] 152)).drew)) := HB0.out.trans (hbA.mono (by omega))
  have HSA := Lib.hid (HKS.out _ HPA.out HKA.out HMA.out)
  have HSD : Hid (W0.drew.cell? ⟨pb, 7, none⟩ = some (.map (some mb)) ∧ W0.drew.cell? ⟨w.heap.size, 3, none⟩ = some (.string (mkS t)) ∧ (Instr.lookup 126 (.map (some mb)) (.string (mkS t)) true).run Tryz.prog W0.drew = .ok (.tuple #[.agg #[], .bool true]) W0.drew) := HKS.out W0.drew HP0.out HK0.out HM0.out
  clear hbA HKS
  go_region_held3 (fun V => V.cell? ⟨pb, 7, none⟩ = some (.map (some mb)) ∧ V.cell? ⟨w.heap.size, 3, none⟩ = some (.string (mkS t)) ∧ (Instr.lookup 126 (.map (some mb)) (.string (mkS t)) true).run Tryz.prog V = .ok (.tuple #[.agg #[], .bool true]) V)
    (first | (with_reducible exact HSD.out) | (with_reducible exact HSA.out))
    (fail)
  all_goals
    have hzA : ((W0.alloc (.cells #[] 152)).drew).heap.size = w.heap.size + 3 := by simp; omega
    clear HSA HSD HP0 HK0 HR0 HM0 HB0 HW0 HL0
    generalize (W0.alloc (.cells #[] 152)).drew = wa at HPA HKA HRA HMA HBA hzA ⊢
    rename_i hHd
    clear hHd hz0 hzz
    clear W0
    obtain ⟨x0, x1, x2, x3, x4⟩ := cells5 HKA.out
    go_wp2_with fail
    (with_reducible refine (unfit_c k ta tb tn (mkS t) wa).mono ?_)
    rintro e w2 ⟨rfl, hb2⟩
    clear x0 x1 x2 x3 x4
    have HB2 := Lib.hid hb2
    have HT2 : Hid (w2.heap[w.heap.size + 1]? = some (obT 0 0 0 ⟨#[]⟩ 0)) := (hb2.block _ (by omega)).trans HRA.out
    clear hb2
    obtain ⟨u0, u1, u2, u3, u4⟩ := cells5 HT2.out
    have v0 := frz HT2.out 0
    have v1 := frz HT2.out 1
    have v2 := frz HT2.out 2
    have v3 := frz HT2.out 3
    have v4 := frz HT2.out 4
    have HH := Lib.hid (set5 HT2.out (.int .i64 0) (.int .i64 0) (.int .i64 0) (.string ⟨#[]⟩) (.int .i64 0))
    have HGX := Lib.hid ((HBA.out.trans (HB2.out.mono HBA.out.size)).trans (bel_set5 (B := w.heap.size) (r := w.heap.size + 1) w2 (by omega) (.int .i64 0) (.int .i64 0) (.int .i64 0) (.string ⟨#[]⟩) (.int .i64 0)))
    go_wp2
    obtain ⟨d0, d1, d2, d3, d4⟩ := cells5 HH.out
    clear u0 u1 u2 u3 u4 v0 v1 v2 v3 v4
    (with_reducible refine bodyPost_ret (v := .tuple #[.agg #[.int .i64 0, .int .i64 0, .int .i64 0, .string ⟨#[]⟩, .int .i64 0], .iface 45 (.agg #[.int .i64 ta, .int .i64 3])]) (by simp [results, Tryz.results64, go_sem, d0, d1, d2, d3, d4]) rfl ⟨rfl, HGX.out⟩)
set_option maxRecDepth 100000 in
set_option maxHeartbeats 2000000 in
theorem key_2 (g pb mb : Nat) (kd last room k ta tb tn : Int) (t : List UInt8) (vi vk : Value) (ks : List (List UInt8))  (hk7 : k ≠ 7) (w : World) (ht : (mkS t).size ≤ maxLen) (hhb : decide (t ∈ ks) = false)
    (hP : w.heap[pb]? = some (obP kd vi vk last (.map (some mb)) room)) (hM : SetM mb ks w) :
    Calls Tryz.prog 64 #[.pointer (some ⟨g, 0, none⟩), .pointer (some ⟨pb, 0, none⟩), .agg #[.int .i64 k, .int .i64 ta, .int .i64 tb, .string (mkS t), .int .i64 tn]] w fun e w' => e = .returned (.tuple #[.agg #[.int .i64 0, .int .i64 0, .int .i64 0, .string ⟨#[]⟩, .int .i64 0], .iface 45 (.agg #[.int .i64 ta, .int .i64 3])]) ∧ Below w.heap.size w w' := by
  obtain ⟨W0, hW0, hk0, hr0, hb0, hz0⟩ := two_tk w k ta tb (mkS t) tn
  have hpl : pb < w.heap.size := (Array.getElem?_eq_some_iff.1 hP).1
  have HW0 := Lib.hid hW0
  have HK0 := Lib.hid hk0
  have HR0 := Lib.hid hr0
  have HB0 := Lib.hid hb0
  have HP0 : Hid (W0.heap[pb]? = some (obP kd vi vk last (.map (some mb)) room)) := (hb0.block _ hpl).trans hP
  have HM0 : Hid (SetM mb ks W0) := hM.keep (hb0.block _ hM.lt)
  have HL0 : Hid (∀ V, SetM mb ks V → (Instr.lookup 126 (.map (some mb)) (.string (mkS t)) true).run Tryz.prog V = .ok (.tuple #[.agg #[], .bool false]) V) := by intro V hV; have h := hV.look ht; rw [hhb] at h; exact h
  have hzz : (w.alloc (obT k ta tb (mkS t) tn)).heap.size = w.heap.size + 1 := by simp
  clear hW0 hk0 hr0 hb0 hP hM hhb
  go_enter Tryz.func64, Tryz.ntmps64
  go_upto_region 1 with (fail)
  rw [← HW0.out]
  have HKS : Hid (∀ V : World, V.heap[pb]? = some (obP kd vi vk last (.map (some mb)) room) → V.heap[w.heap.size]? = some (obT k ta tb (mkS t) tn) → SetM mb ks V → V.cell? ⟨pb, 7, none⟩ = some (.map (some mb)) ∧ V.cell? ⟨w.heap.size, 3, none⟩ = some (.string (mkS t)) ∧ (Instr.lookup 126 (.map (some mb)) (.string (mkS t)) true).run Tryz.prog V = .ok (.tuple #[.agg #[], .bool false]) V) := fun V h1 h2 h3 => ⟨cell_of_row _ _ 7 _ _ _ h1, cell_of_row _ _ 3 _ _ _ h2, HL0.out _ h3⟩
  have hbA : Below W0.heap.size W0 ((W0.alloc (.cells #[] 152)).drew) := ((Below.refl _ _).alloc (Nat.le_refl _) _).drew
  have HPA : Hid (((W0.alloc (.cells #[] 152)).drew).heap[pb]? = some (obP kd vi vk last (.map (some mb)) room)) := (hbA.block _ (by omega)).trans HP0.out
  have HKA : Hid (((W0.alloc (.cells #[] 152)).drew).heap[w.heap.size]? = some (obT k ta tb (mkS t) tn)) := (hbA.block _ (by omega)).trans HK0.out
  have HRA : Hid (((W0.alloc (.cells #[] 152)).drew).heap[w.heap.size + 1]? = some (obT 0 0 0 ⟨#[]⟩ 0)) := (hbA.block _ (by omega)).trans HR0.out
  have HMA : Hid (SetM mb ks ((W0.alloc (.cells #[] 152)).drew)) := HM0.out.keep (hbA.block _ HM0.out.lt)
  have HBA : Hid (Below w.heap.size w ((W0.alloc (.cells #[] 152)).drew)) := HB0.out.trans (hbA.mono (by omega))
  have HSA := Lib.hid (HKS.out _ HPA.out HKA.out HMA.out)
  have HSD : Hid (W0.drew.cell? ⟨pb, 7, none⟩ = some (.map (some mb)) ∧ W0.drew.cell? ⟨w.heap.size, 3, none⟩ = some (.string (mkS t)) ∧ (Instr.lookup 126 (.map (some mb)) (.string (mkS t)) true).run Tryz.prog W0.drew = .ok (.tuple #[.agg #[], .bool false]) W0.drew) := HKS.out W0.drew HP0.out HK0.out HM0.out
  clear hbA HKS
  go_region_held3 (fun V => V.cell? ⟨pb, 7, none⟩ = some (.map (some mb)) ∧ V.cell? ⟨w.heap.size, 3, none⟩ = some (.string (mkS t)) ∧ (Instr.lookup 126 (.map (some mb)) (.string (mkS t)) true).run Tryz.prog V = .ok (.tuple #[.agg #[], .bool false]) V)
    (first | (with_reducible exact HSD.out) | (with_reducible exact HSA.out))
    (fail)
  all_goals
    have hzA : ((W0.alloc (.cells #[] 152)).drew).heap.size = w.heap.size + 3 := by simp; omega
    clear HSA HSD HP0 HK0 HR0 HM0 HB0 HW0 HL0
    generalize (W0.alloc (.cells #[] 152)).drew = wa at HPA HKA HRA HMA HBA hzA ⊢
    rename_i hHd
    clear hHd hz0 hzz
    clear W0
    obtain ⟨x0, x1, x2, x3, x4⟩ := cells5 HKA.out
    go_wp2_with fail
    (with_reducible refine (unfit_c k ta tb tn (mkS t) wa).mono ?_)
    rintro e w2 ⟨rfl, hb2⟩
    clear x0 x1 x2 x3 x4
    have HB2 := Lib.hid hb2
    have HT2 : Hid (w2.heap[w.heap.size + 1]? = some (obT 0 0 0 ⟨#[]⟩ 0)) := (hb2.block _ (by omega)).trans HRA.out
    clear hb2
    obtain ⟨u0, u1, u2, u3, u4⟩ := cells5 HT2.out
    have v0 := frz HT2.out 0
    have v1 := frz HT2.out 1
    have v2 := frz HT2.out 2
    have v3 := frz HT2.out 3
    have v4 := frz HT2.out 4
    have HH := Lib.hid (set5 HT2.out (.int .i64 0) (.int .i64 0) (.int .i64 0) (.string ⟨#[]⟩) (.int .i64 0))
    have HGX := Lib.hid ((HBA.out.trans (HB2.out.mono HBA.out.size)).trans (bel_set5 (B := w.heap.size) (r := w.heap.size + 1) w2 (by omega) (.int .i64 0) (.int .i64 0) (.int .i64 0) (.string ⟨#[]⟩) (.int .i64 0)))
    go_wp2
    obtain ⟨d0, d1, d2, d3, d4⟩ := cells5 HH.out
    clear u0 u1 u2 u3 u4 v0 v1 v2 v3 v4
    (with_reducible refine bodyPost_ret (v := .tuple #[.agg #[.int .i64 0, .int .i64 0, .int .i64 0, .string ⟨#[]⟩, .int .i64 0], .iface 45 (.agg #[.int .i64 ta, .int .i64 3])]) (by simp [results, Tryz.results64, go_sem, d0, d1, d2, d3, d4]) rfl ⟨rfl, HGX.out⟩)
end Go.Proofs.YtpgllcdcpdeicaaGreatDoor.Jv
namespace Go.Proofs.YtpgllcdcpdeicaaGreatDoor.Jv
open Jt
open Go.RowKit Go.ChangeMaps Go.MapKept Go.WideMaps
set_option linter.unusedSimpArgs false
set_option linter.unusedVariables false

/-- keys as a row holds them -/
abbrev kC (ks : List (List UInt8)) : List Value := ks.map fun k => Value.string (mkS k)
/-- what lies when key t was taken: the part's block, the set, the row -/
def KO (g pb mb B : Nat) (kd last room : Int) (vi vk : Value) (ks : List (List UInt8)) (t : List UInt8) (w V : World) : Prop :=
  ∃ g1 c1, V.heap[pb]? = some (obP kd vi (.slice (some ⟨g1, 0, none⟩) (ks.length + 1) c1) last (.map (some mb)) room) ∧ SetM mb (ks ++ [t]) V ∧
    V.ownsRow B 9 1 (.slice (some ⟨g1, 0, none⟩) (ks.length + 1) c1) (ks.length + 1) (kC (ks ++ [t])) ∧ g1 < V.heap.size ∧ (vk.ownBlock = some g1 ∨ w.heap.size + 2 ≤ g1) ∧
    Grw (fun j => j = g ∨ j = pb ∨ j = mb ∨ vk.ownBlock = some j) w V
theorem KO.go {g pb mb B : Nat} {kd last room : Int} {vi vk : Value} {ks : List (List UInt8)} {t : List UInt8} {w V V2 : World} (h : KO g pb mb B kd last room vi vk ks t w V)
    (hG : Grw (fun j => j = g ∨ j = w.heap.size ∨ j = w.heap.size + 1) V V2) (hp : pb < w.heap.size) (hm : mb < w.heap.size) (hv : ∀ j, vk.ownBlock = some j → j < w.heap.size ∧ j ≠ g) (hpg : pb ≠ g) (hmg : mb ≠ g) (hgl : g < w.heap.size) : KO g pb mb B kd last room vi vk ks t w V2 := by
  obtain ⟨g1, c1, h1, h2, h3, h4, h5, h6⟩ := h
  have hs := h6.size
  have hg1 : ¬ (g1 = g ∨ g1 = w.heap.size ∨ g1 = w.heap.size + 1) := by
    rcases h5 with h5 | h5
    · have := hv _ h5; omega
    · omega
  refine ⟨g1, c1, (hG.block (by omega) (by omega)).trans h1, h2.keep (hG.block (by omega) (by omega)), ?_, Nat.lt_of_lt_of_le h4 hG.size, h5, h6.trans hG fun j hj hy => ?_⟩
  · refine ⟨h3.1, ?_⟩
    rcases h3.2 with ⟨e, _⟩ | ⟨gg, cap, cur, e, e2, e3, e4⟩
    · cases e
    · cases e
      exact .inr ⟨_, _, cur, rfl, e2, (hG.block h4 hg1).trans e3, e4⟩
  · rcases hy with e | e | e
    · exact .inl e
    · omega
    · omega
/-- what lies behind the append, and the store into the part's block -/
theorem KO.mk {g pb mb B : Nat} {kd last room : Int} {vi vk : Value} {ks : List (List UInt8)} {t : List UInt8} {w wa wm WB V : World} {g1 c1 : Nat}
    (hba : Below w.heap.size w wa) (hza : wa.heap.size = w.heap.size + 3) (hP : wa.heap[pb]? = some (obP kd vi vk last (.map (some mb)) room)) (hpl : pb < w.heap.size) (hml : mb < w.heap.size) (hpm : pb ≠ mb)
    (hS : SetM mb (ks ++ [t]) wm) (hgm : wa.grownBy wm (some mb)) (hsm : wm.heap.size = wa.heap.size) (hB : Below wm.heap.size wm WB) (hv : ∀ j, vk.ownBlock = some j → j < w.heap.size ∧ j ≠ pb ∧ j ≠ mb)
    (hown : V.ownsRow B 9 1 (.slice (some ⟨g1, 0, none⟩) (ks.length + 1) c1) (ks.length + 1) (kC ks ++ [.string (mkS t)])) (hgrow : WB.grownBy V vk.ownBlock) (hat : vk.ownBlock = some g1 ∨ g1 = WB.heap.size) (hlt : g1 < V.heap.size) :
    V.heap[pb]? = some (obP kd vi vk last (.map (some mb)) room) ∧ KO g pb mb B kd last room vi vk ks t w (V.setCell ⟨pb, 5, none⟩ (.slice (some ⟨g1, 0, none⟩) (ks.length + 1) c1)) ∧
      (∀ j, w.heap.size ≤ j → j < w.heap.size + 3 → (V.setCell ⟨pb, 5, none⟩ (.slice (some ⟨g1, 0, none⟩) (ks.length + 1) c1)).heap[j]? = wa.heap[j]?) ∧
      ∀ j, j < w.heap.size → j ≠ pb → j ≠ mb → vk.ownBlock ≠ some j → (V.setCell ⟨pb, 5, none⟩ (.slice (some ⟨g1, 0, none⟩) (ks.length + 1) c1)).heap[j]? = w.heap[j]? := by
  have hBs := hB.size
  have hvp : (some pb : Option Nat) ≠ vk.ownBlock := fun e => (hv pb e.symm).2.1 rfl
  have hvm : (some mb : Option Nat) ≠ vk.ownBlock := fun e => (hv mb e.symm).2.2 rfl
  have e1 : V.heap[pb]? = some (obP kd vi vk last (.map (some mb)) room) :=
    (hgrow.block pb (by omega) hvp).trans ((hB.block pb (by omega)).trans ((hgm.block pb (by omega) (fun e => hpm (by injection e))).trans hP))
  have hg1p : g1 ≠ pb := by
    rcases hat with e | e
    · exact (hv _ e).2.1
    · omega
  refine ⟨e1, ⟨g1, c1, ?_, ?_, ?_, ?_, ?_, ?_⟩, fun j h1 h2 => ?_, fun j h1 h2 h3 h4 => ?_⟩
  rotate_right 2
  · rw [Below.heap_setCell _ _ _ _ (show j ≠ pb by omega)]
    exact (hgrow.block j (by omega) (fun e => by have := (hv j e.symm).1; omega)).trans ((hB.block j (by omega)).trans (hgm.block j (by omega) (fun e => by injection e with e; omega)))
  · rw [Below.heap_setCell _ _ _ _ (show j ≠ pb from h2)]
    exact (hgrow.block j (by omega) (fun e => h4 e.symm)).trans ((hB.block j (by omega)).trans ((hgm.block j (by omega) (fun e => h3 (by injection e))).trans (hba.block j h1)))
  · have := blk_set e1 5 (.slice (some ⟨g1, 0, none⟩) (ks.length + 1) c1)
    simpa using this
  · refine (hS.keep ?_ : SetM mb (ks ++ [t]) _)
    rw [Below.heap_setCell _ _ _ _ (show mb ≠ pb from fun e => hpm e.symm)]
    exact (hgrow.block mb (by omega) hvm).trans (hB.block mb (by omega))
  · have ho : kC (ks ++ [t]) = kC ks ++ [.string (mkS t)] := by simp [kC]
    rw [ho]
    refine ⟨hown.1, ?_⟩
    rcases hown.2 with ⟨e, _⟩ | ⟨gg, cap, cur, e, e2, e3, e4⟩
    · cases e
    · cases e
      exact .inr ⟨_, _, cur, rfl, e2, (Below.heap_setCell _ _ _ _ hg1p).trans e3, e4⟩
  · simpa [World.setCell] using hlt
  · rcases hat with e | e
    · exact .inl e
    · exact .inr (by omega)
  · have x1 : Grw (fun j => j = g ∨ j = pb ∨ j = mb ∨ vk.ownBlock = some j) w wa := Grw.of_below hba (fun k h1 h2 => by omega)
    have x2 := x1.trans (Grw.of_gb (X := fun j => j = mb) hgm (fun j e => by injection e with e; exact e.symm)) (fun j _ e => .inr (.inr (.inl e)))
    have x3 := x2.trans (Grw.of_below (X := fun j => w.heap.size ≤ j) hB (fun k h1 h2 => by omega)) (fun j hj e => by omega)
    have x4 := x3.trans (Grw.of_gb (X := fun j => vk.ownBlock = some j) hgrow (fun j e => e)) (fun j _ e => .inr (.inr (.inr e)))
    exact x4.trans (Grw.of_gb (X := fun j => j = pb) (gb_set V pb 5 _) (fun j e => by injection e with e; exact e.symm)) (fun j _ e => .inr (.inl e))
theorem gr_set5 (w : World) (r : Nat) (x y z u v : Value) : Grw (fun j => j = r) w (((((w.setCell ⟨r, 0, none⟩ x).setCell ⟨r, 1, none⟩ y).setCell ⟨r, 2, none⟩ z).setCell ⟨r, 3, none⟩ u).setCell ⟨r, 4, none⟩ v) := by
  have one : ∀ (w : World) (i : Nat) (v : Value), Grw (fun j => j = r) w (w.setCell ⟨r, i, none⟩ v) := fun w i v => Grw.of_gb (gb_set w r i v) (fun j e => by injection e with e; exact e.symm)
  exact ((((one w 0 x).trans (one _ 1 y) (fun _ _ h => h)).trans (one _ 2 z) (fun _ _ h => h)).trans (one _ 3 u) (fun _ _ h => h)).trans (one _ 4 v) (fun _ _ h => h)
/-- the two blocks of key's own -/
abbrev T2 (w : World) (j : Nat) : Prop := j = w.heap.size ∨ j = w.heap.size + 1
end Go.Proofs.YtpgllcdcpdeicaaGreatDoor.Jv
