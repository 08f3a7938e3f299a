/- Contracts of package head's reader at chapter 10's example: its first line, its fields. -/
import Derived.Test.YtkblggpnghdnmaaGreatDoorHdNext
namespace Go.Proofs.YtkblggpnghdnmaaGreatDoor.Hd
open Go.RowKit Ch
set_option linter.unusedSimpArgs false
set_option linter.unusedVariables false

theorem set4 {w : World} {g : Nat} {a b c d : Value} {t : TypeId} (h : w.heap[g]? = some (.cells #[a, b, c, d] t (0, 0))) (x y z u : Value) : ((((w.setCell ⟨g, 0, none⟩ x).setCell ⟨g, 1, none⟩ y).setCell ⟨g, 2, none⟩ z).setCell ⟨g, 3, none⟩ u).heap[g]? = some (.cells #[x, y, z, u] t (0, 0)) := by
  have := blk_set (blk_set (blk_set (blk_set h 0 x) 1 y) 2 z) 3 u
  simpa using this
theorem ne4 {w : World} {g h : Nat} {o : Option Obj} (hb : w.heap[h]? = o) (hn : ¬ g = h) (x y z u : Value) : ((((w.setCell ⟨g, 0, none⟩ x).setCell ⟨g, 1, none⟩ y).setCell ⟨g, 2, none⟩ z).setCell ⟨g, 3, none⟩ u).heap[h]? = o := set_ne (set_ne (set_ne (set_ne hb hn 0 _) hn 1 _) hn 2 _) hn 3 _
theorem bel4 {B g : Nat} {a w : World} (h : Below B a w) (hB : B ≤ g) (x y z u : Value) : Below B a ((((w.setCell ⟨g, 0, none⟩ x).setCell ⟨g, 1, none⟩ y).setCell ⟨g, 2, none⟩ z).setCell ⟨g, 3, none⟩ u) := (((h.setCell (p := ⟨g, 0, none⟩) hB x).setCell (p := ⟨g, 1, none⟩) hB y).setCell (p := ⟨g, 2, none⟩) hB z).setCell (p := ⟨g, 3, none⟩) hB u
theorem sk4_of {V : World} {g : Nat} {a b c d : Value} {T : TypeId} (h : V.heap[g]? = some (.cells #[a, b, c, d] T (0, 0))) : V.cell? ⟨g, 0, none⟩ = some (cg V ⟨g, 0, none⟩) ∧ V.cell? ⟨g, 1, none⟩ = some (cg V ⟨g, 1, none⟩) ∧ V.cell? ⟨g, 2, none⟩ = some (cg V ⟨g, 2, none⟩) ∧ V.cell? ⟨g, 3, none⟩ = some (cg V ⟨g, 3, none⟩) ∧ V.frozen? ⟨g, 0, none⟩ = false ∧ V.frozen? ⟨g, 1, none⟩ = false ∧ V.frozen? ⟨g, 2, none⟩ = false ∧ V.frozen? ⟨g, 3, none⟩ = false :=
  ⟨cg_of (cell_of_row _ _ 0 _ _ _ h), cg_of (cell_of_row _ _ 1 _ _ _ h), cg_of (cell_of_row _ _ 2 _ _ _ h), cg_of (cell_of_row _ _ 3 _ _ _ h), frz2 h 0, frz2 h 1, frz2 h 2, frz2 h 3⟩
/-- what has grown beside block g, told of all but block g below a bound -/
theorem gb_up {a w w' : World} {g n : Nat} (h : a.grownBy w (some g)) (hb : Below n w w') (hn : a.heap.size ≤ n) : a.grownBy w' (some g) := ⟨hb.os.trans h.os, hb.tape.trans h.tape, hb.output.trans h.output, Nat.le_trans h.size hb.size, fun k hk hr => (hb.block k (by omega)).trans (h.block k hk hr)⟩
set_option maxRecDepth 100000 in
set_option maxHeartbeats 8000000 in
theorem first_c (g : Nat) (w : World) (hR : RdB g exT 0 0 16 1 0 w) (hM : Mx w) (hg : g ≠ 1) :
    Calls Tryz.prog 26 #[.pointer (some ⟨g, 0, none⟩)] w fun e w' => e = .returned (.tuple #[.agg #[.string ⟨#[71, 69, 84]⟩, .string ⟨#[47, 97]⟩, .int .i64 1, .slice none 0 0], .nilIface]) ∧ RdB g exT 17 1 16 1 0 w' ∧ w.grownBy w' (some g) := by
  have hgl := hR.lt
  have hb0 : Below w.heap.size w (w.alloc (.cells #[.string ⟨#[]⟩, .string ⟨#[]⟩, .int .i64 0, .slice none 0 0] 35)) := (Below.refl _ _).alloc (Nat.le_refl _) _
  have HN := Lib.hid (next_ok g exT 0 15 0 16 1 0 414 (w.alloc (.cells #[.string ⟨#[]⟩, .string ⟨#[]⟩, .int .i64 0, .slice none 0 0] 35)) (hR.go hb0) (hM.go hb0) hg (by decide) (by decide) (by decide) (by decide) ex_e0 (by decide))
  rw [ex_l0] at HN
  have HB0 := Lib.hid hb0
  have HM0 := Lib.hid (hM.go hb0)
  have HT2 := Lib.hid (heap_alloc_new w (.cells #[.string ⟨#[]⟩, .string ⟨#[]⟩, .int .i64 0, .slice none 0 0] 35))
  have hz0 : ∀ o, (w.alloc o).heap.size = w.heap.size + 1 := fun o => by simp
  clear hR hM hb0
  go_enter Tryz.func26, Tryz.ntmps26
  go_wp2_with fail
  refine HN.out.mono ?_
  rintro e w1 ⟨rfl, hR1, hG1⟩
  have HR1 := Lib.hid hR1
  have HG1 := Lib.hid hG1
  have HM1 := Lib.hid (HM0.out.gb hG1 hg)
  have hs1 : w.heap.size < w1.heap.size := by have := hG1.size; rw [hz0] at this; omega
  have HT1 : Hid (w1.heap[w.heap.size]? = some (.cells #[.string ⟨#[]⟩, .string ⟨#[]⟩, .int .i64 0, .slice none 0 0] 35 (0, 0))) := (hG1.block _ (by rw [hz0]; omega) (fun e => by injection e with e; omega)).trans HT2.out
  clear hR1 hG1 HN
  have HSP := Lib.hid (split_c w1 HM1.out)
  go_wp2_with fail
  refine HSP.out.mono ?_
  rintro e w2 ⟨rfl, hw2⟩
  have hb2 : Below w1.heap.size w1 w2 := by rw [hw2]; exact (Below.refl _ _).alloc (Nat.le_refl _) _
  have HP2 : Hid (w2.heap[w1.heap.size]? = some (.cells #[.string ⟨#[71, 69, 84]⟩, .string ⟨#[47, 97]⟩, .string ⟨#[72, 84, 84, 80, 47, 49, 46, 49]⟩] 9 (0, 0))) := by
    show w2.heap[w1.heap.size]? = _
    rw [hw2]; exact heap_alloc_new w1 _
  have HR2 := Lib.hid (HR1.out.go hb2)
  have HT3 : Hid (w2.heap[w.heap.size]? = some (.cells #[.string ⟨#[]⟩, .string ⟨#[]⟩, .int .i64 0, .slice none 0 0] 35 (0, 0))) := (hb2.block _ hs1).trans HT1.out
  have HG2 : Hid (w.grownBy w2 (some g)) := gb_up (gb_trans (gb_below HB0.out) HG1.out) hb2 (Nat.le_of_lt hs1)
  clear hw2 hb2 HSP
  have p0 := cell_of_row _ _ 0 _ _ _ HP2.out
  have p1 := cell_of_row _ _ 1 _ _ _ HP2.out
  have p2 := cell_of_row _ _ 2 _ _ _ HP2.out
  go_wp2_with fail
  refine (isM_c _).mono ?_
  rintro e w3 ⟨rfl, hw⟩
  rw [← hw]; clear hw
  go_wp2_with fail
  refine (isT_c _).mono ?_
  rintro e w3 ⟨rfl, hw⟩
  rw [← hw]; clear hw
  go_wp2_with fail
  refine (isV_c _).mono ?_
  rintro e w3 ⟨rfl, hw⟩
  rw [← hw]; clear hw
  go_wp2_with fail
  refine (major_c _).mono ?_
  rintro e w3 ⟨rfl, hw⟩
  rw [← hw]; clear hw
  go_wp2_with fail
  refine (known_c _).mono ?_
  rintro e w3 ⟨rfl, hw⟩
  rw [← hw]; clear hw
  have c0 := cell_of_row _ _ 0 _ _ _ HT3.out
  have c1 := cell_of_row _ _ 1 _ _ _ HT3.out
  have c2 := cell_of_row _ _ 2 _ _ _ HT3.out
  have c3 := cell_of_row _ _ 3 _ _ _ HT3.out
  have z0 := frz2 HT3.out 0
  have z1 := frz2 HT3.out 1
  have z2 := frz2 HT3.out 2
  have z3 := frz2 HT3.out 3
  have HH := Lib.hid (set4 HT3.out (.string ⟨#[71, 69, 84]⟩) (.string ⟨#[47, 97]⟩) (.int .i64 1) (.slice none 0 0))
  have HHP := Lib.hid (ne4 (g := w.heap.size) HP2.out (by omega) (.string ⟨#[71, 69, 84]⟩) (.string ⟨#[47, 97]⟩) (.int .i64 1) (.slice none 0 0))
  have HHR := Lib.hid (ne4 (g := w.heap.size) HR2.out (by omega) (.string ⟨#[71, 69, 84]⟩) (.string ⟨#[47, 97]⟩) (.int .i64 1) (.slice none 0 0))
  have hsn : w.heap.size ≠ w1.heap.size := by omega
  go_wp2_with fail
  go_region_held3 (fun V => V.cell? ⟨w1.heap.size, 0, none⟩ = some (.string ⟨#[71, 69, 84]⟩) ∧ V.cell? ⟨w1.heap.size, 1, none⟩ = some (.string ⟨#[47, 97]⟩) ∧ V.cell? ⟨w1.heap.size, 2, none⟩ = some (.string ⟨#[72, 84, 84, 80, 47, 49, 46, 49]⟩) ∧ V.cell? ⟨w.heap.size, 0, none⟩ = some (cg V ⟨w.heap.size, 0, none⟩) ∧ V.cell? ⟨w.heap.size, 1, none⟩ = some (cg V ⟨w.heap.size, 1, none⟩) ∧ V.cell? ⟨w.heap.size, 2, none⟩ = some (cg V ⟨w.heap.size, 2, none⟩) ∧ V.cell? ⟨w.heap.size, 3, none⟩ = some (cg V ⟨w.heap.size, 3, none⟩) ∧ V.frozen? ⟨w.heap.size, 0, none⟩ = false ∧ V.frozen? ⟨w.heap.size, 1, none⟩ = false ∧ V.frozen? ⟨w.heap.size, 2, none⟩ = false ∧ V.frozen? ⟨w.heap.size, 3, none⟩ = false)
    (first | exact ⟨p0, p1, p2, sk4_of HT3.out⟩ | exact ⟨cell_of_row _ _ 0 _ _ _ HHP.out, cell_of_row _ _ 1 _ _ _ HHP.out, cell_of_row _ _ 2 _ _ _ HHP.out, sk4_of HH.out⟩)
    (first | (go_at_call 41; refine (minor_c _).mono ?_; rintro e w3 ⟨rfl, rfl⟩))
  have d0 := cell_of_row _ _ 0 _ _ _ HH.out
  have d1 := cell_of_row _ _ 1 _ _ _ HH.out
  have d2 := cell_of_row _ _ 2 _ _ _ HH.out
  have d3 := cell_of_row _ _ 3 _ _ _ HH.out
  clear p0 p1 p2 c0 c1 c2 c3 z0 z1 z2 z3
  go_wp2
  refine bodyPost_ret (v := .tuple #[.agg #[.string ⟨#[71, 69, 84]⟩, .string ⟨#[47, 97]⟩, .int .i64 1, .slice none 0 0], .nilIface]) (by simp [results, Tryz.results26, go_sem, d0, d1, d2, d3]) rfl ⟨rfl, HHR.out, ?_⟩
  have hbb := bel4 (Below.refl w.heap.size w2) (Nat.le_refl _) (.string ⟨#[71, 69, 84]⟩) (.string ⟨#[47, 97]⟩) (.int .i64 1) (.slice none 0 0)
  have h2 : Below w.heap.size w2 (((((w2.setCell ⟨w.heap.size, 0, none⟩ (.string ⟨#[71, 69, 84]⟩)).setCell ⟨w.heap.size, 1, none⟩ (.string ⟨#[47, 97]⟩)).setCell ⟨w.heap.size, 2, none⟩ (.int .i64 1)).setCell ⟨w.heap.size, 3, none⟩ (.slice none 0 0)).drew) := ⟨hbb.os, hbb.tape, hbb.output, hbb.size, hbb.block⟩
  exact gb_up HG2.out h2 (Nat.le_refl _)
theorem infoF : (Tryz.prog.info? 86).map (fun i => (i.zero, i.size, i.bytes)) = some (some (.agg #[.string ⟨#[]⟩, .string ⟨#[]⟩]), 2, 32) := by kernel_rfl
def OwF (B : Nat) (ao : Option Addr) (c : Nat) (w : World) : Prop := w.ownsRow B 86 2 (.slice ao 1 c) 1 [.string ⟨#[72, 111, 115, 116]⟩, .string ⟨#[120]⟩]
theorem OwF.gb {B : Nat} {ao : Option Addr} {c g : Nat} {w w' : World} (h : OwF B ao c w) (hb : w.grownBy w' (some g)) (hg : g < B) : OwF B ao c w' := by
  refine World.ownsRow.kept h (row := some g) hb (Or.inr (fun e => ?_))
  have := h.lt g e
  omega
set_option maxRecDepth 100000 in
set_option maxHeartbeats 8000000 in
theorem fields_c (g : Nat) (w : World) (hR : RdB g exT 17 1 16 1 0 w) (hM : Mx w) (hg : g ≠ 1) :
    Calls Tryz.prog 27 #[.pointer (some ⟨g, 0, none⟩)] w fun e w' => ∃ ao c, e = .returned (.tuple #[.slice ao 1 c, .nilIface]) ∧ OwF w.heap.size ao c w' ∧ RdB g exT 28 3 16 1 0 w' ∧ w.grownBy w' (some g) := by
  obtain ⟨i0, hi, hz0, hz1, hz2⟩ := info_parts infoF
  have hgl := hR.lt
  have HN1 := Lib.hid (next_ok g exT 17 7 1 16 1 0 431 w hR hM hg (by decide) (by decide) (by decide) (by decide) ex_e1 (by decide))
  rw [ex_l1] at HN1
  have HOF := Lib.hid (fun W => OfField_c ⟨#[72, 111, 115, 116, 58, 32, 120]⟩ W (by decide))
  rw [ex_of] at HOF
  have HM := Lib.hid hM
  clear hR hM
  go_enter Tryz.func27, Tryz.ntmps27
  go_wp2
  refine wp_loop_rounds 2 ?_
  rw [rounds_succ]
  go_wp2_with fail
  refine HN1.out.mono ?_
  rintro e w1 ⟨rfl, hR1, hG1⟩
  have HR1 := Lib.hid hR1
  have HG1 := Lib.hid hG1
  have HM1 := Lib.hid (HM.out.gb hG1 hg)
  have hs1 : w.heap.size ≤ w1.heap.size := hG1.size
  clear hR1 hG1 HN1
  have r4 := cell_of_row _ _ 4 _ _ _ HR1.out
  go_wp2_with fail
  refine (HOF.out _).mono ?_
  rintro e w2 ⟨he, hb2⟩
  obtain rfl : e = .returned (.tuple #[.agg #[.string ⟨#[72, 111, 115, 116]⟩, .string ⟨#[120]⟩], .bool true]) := he
  have HR2 := Lib.hid (HR1.out.go hb2)
  have HG2 : Hid (w.grownBy w2 (some g)) := gb_trans HG1.out (gb_below hb2)
  have HM2 := Lib.hid (HM1.out.go hb2)
  clear hb2 r4
  have HD : Hid (∃ W2, W2 = (w2.alloc (.cells #[.string ⟨#[72, 111, 115, 116]⟩, .string ⟨#[120]⟩] 86)).alloc (.cells #[.string ⟨#[72, 111, 115, 116]⟩, .string ⟨#[120]⟩] 86) ∧ W2.heap[w2.heap.size + 1]? = some (.cells #[.string ⟨#[72, 111, 115, 116]⟩, .string ⟨#[120]⟩] 86 (0, 0)) ∧ Below w2.heap.size w2 W2) := by
    refine ⟨_, rfl, ?_, ((Below.refl _ _).alloc (Nat.le_refl _) _).alloc (by simp) _⟩
    have := heap_alloc_new (w2.alloc (.cells #[.string ⟨#[72, 111, 115, 116]⟩, .string ⟨#[120]⟩] 86)) (.cells #[.string ⟨#[72, 111, 115, 116]⟩, .string ⟨#[120]⟩] 86)
    simpa using this
  obtain ⟨W2, hW2, hk3, hbW⟩ := HD.out
  have HK3 := Lib.hid hk3
  have HW2 := Lib.hid hW2
  have HRW := Lib.hid (HR2.out.go hbW)
  have HGW : Hid (w.grownBy W2 (some g)) := gb_trans HG2.out (gb_below hbW)
  have HMW := Lib.hid (HM2.out.go hbW)
  clear HD hk3 hW2 hbW
  go_wp2_with (at_builtin; rw [← HW2.out]; refine wpList_append_own _ rfl _ _ 33 rfl w.heap.size 86 i0 _ 2 32 Tryz.underlying33 hi hz0 hz1 hz2 rfl (by decide) _ _ _ rfl (World.ownsRow_nil _ _ _ _) ⟨w2.heap.size + 1, 0, none⟩ 1 1 [.string ⟨#[72, 111, 115, 116]⟩, .string ⟨#[120]⟩] rfl rfl ?c1 ?c2 ?c3 ?c4 ?c5 ?_)
  case c1 =>
    intro j v hj
    have hj5 : j < 2 := by
      rcases Nat.lt_or_ge j 2 with h | h
      · exact h
      · rw [List.getElem?_eq_none (by show 2 ≤ j; exact h)] at hj; cases hj
    have ea : (⟨w2.heap.size + 1, 0, none⟩ : Addr).add j = ⟨w2.heap.size + 1, j, none⟩ := by unfold Addr.add; split <;> simp_all
    rw [ea, cell_of_row _ _ j _ _ _ HK3.out]
    match j, hj5 with
    | 0, _ => exact hj
    | 1, _ => exact hj
  case c2 => intro v hv; simp at hv; rcases hv with rfl | rfl <;> rfl
  case c3 => unfold maxLen; omega
  case c4 => omega
  case c5 => exact HGW.out.size
  intro v' w5 hown' hgrow _
  have hb5 : Below W2.heap.size W2 w5 := (Below.refl _ _).grown hgrow (Nat.le_refl _) (fun k hk => by simp [Value.ownBlock] at hk)
  obtain ⟨ao, cap, hv5⟩ : ∃ ao cap, v' = .slice ao 1 cap := by
    rcases hown'.2 with ⟨rfl, h0⟩ | ⟨gg, cap, cur, rfl, _⟩
    · exact absurd h0 (by decide)
    · exact ⟨_, _, rfl⟩
  subst hv5
  have HO5 : Hid (OwF w.heap.size ao cap w5) := hown'
  have HR5 := Lib.hid (HRW.out.go hb5)
  have HG5 : Hid (w.grownBy w5 (some g)) := gb_trans HGW.out (gb_below hb5)
  have HM5 := Lib.hid (HMW.out.go hb5)
  clear hown' hgrow hb5
  have HN2 := Lib.hid (next_ok g exT 26 0 2 16 1 0 431 w5 HR5.out HM5.out hg (by decide) (by decide) (by decide) (by decide) ex_e2 (by decide))
  rw [ex_l2] at HN2
  go_wp2_with fail
  rw [rounds_succ]
  go_wp2_with fail
  refine HN2.out.mono ?_
  rintro e w6 ⟨rfl, hR6, hG6⟩
  have HR6 := Lib.hid hR6
  have HG6 : Hid (w.grownBy w6 (some g)) := gb_trans HG5.out hG6
  have HO6 := Lib.hid (HO5.out.gb hG6 hgl)
  clear hR6 hG6
  go_wp2
  go_ret2
  exact ⟨ao, cap, rfl, HO6.out, HR6.out, HG6.out⟩
end Go.Proofs.YtkblggpnghdnmaaGreatDoor.Hd
