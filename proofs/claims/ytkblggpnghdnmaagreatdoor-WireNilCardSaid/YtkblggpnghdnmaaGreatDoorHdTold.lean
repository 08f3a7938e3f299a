/- Contracts of package head's told and of its reader's fault and next, whatever the line: for every text of at most a thousand bytes; where the library's variables lie. -/
import Derived.Test.YtkblggpnghdnmaaGreatDoorHdAs
namespace Go.Proofs.YtkblggpnghdnmaaGreatDoor.Hd
open Go.RowKit Ch
set_option linter.unusedSimpArgs false
set_option linter.unusedVariables false

/-- a fault as an error -/
def fltV (ln st : Int) : Value := .iface 91 (.agg #[.int .i64 ln, .iface 70 (.int .i64 st)])
set_option maxRecDepth 100000 in
set_option maxHeartbeats 2000000 in
theorem told_flt (ln st : Int) (w : World) (hE : ErT w) : Calls Tryz.prog 23 #[fltV ln st] w fun e w' => e = .returned (.int .i64 st) ∧ Below w.heap.size w w' := by
  have hb0 : Below w.heap.size w (w.alloc (.cells #[.int .i64 0] 70)) := (Below.refl _ _).alloc (Nat.le_refl _) _
  have hk0 := heap_alloc_new w (.cells #[.int .i64 0] 70)
  have HA := Lib.hid (as_hit 0 0 w.heap.size ln st (w.alloc (.cells #[.int .i64 0] 70)) (hE.go hb0) (cell_of_row _ _ 0 _ _ _ hk0) (frz2 hk0 0))
  have HB0 := Lib.hid hb0
  have HK0 := Lib.hid hk0
  have hz : ∀ o, (w.alloc o).heap.size = w.heap.size + 1 := fun o => by simp
  unfold fltV
  clear hE hb0 hk0
  go_enter Tryz.func23, Tryz.ntmps23
  go_wp2_with fail
  refine HA.out.mono ?_
  rintro e w1 ⟨rfl, W, hb, hw⟩
  have HK1 : Hid (w1.heap[w.heap.size]? = some (.cells #[.int .i64 st] 70 (0, 0))) := by
    show w1.heap[w.heap.size]? = _
    rw [hw]
    have h1 : W.heap[w.heap.size]? = some (.cells #[.int .i64 0] 70 (0, 0)) := (hb.block _ (by rw [hz]; omega)).trans HK0.out
    have := blk_set h1 0 (.int .i64 st)
    simpa using this
  have HB1 : Hid (Below w.heap.size w w1) := by
    show Below w.heap.size w w1
    rw [hw]
    exact (HB0.out.trans (hb.mono HB0.out.size)).setCell (p := ⟨w.heap.size, 0, none⟩) (Nat.le_refl _) _
  clear hb hw HA
  have c0 := cell_of_row _ _ 0 _ _ _ HK1.out
  go_wp2
  go_ret
  exact ⟨rfl, HB1.out⟩
set_option maxRecDepth 100000 in
set_option maxHeartbeats 1000000 in
theorem fault_c (g : Nat) (s : ByteArray) (k : Nat) (ln a b c lg : Int) (w : World) (hR : RdB g s k ln a b c w) : Calls Tryz.prog 29 #[.pointer (some ⟨g, 0, none⟩), .int .i64 lg] w fun e w' => e = .returned (fltV ln lg) ∧ w = w' := by
  have c2 := cell_of_row _ _ 2 _ _ _ hR
  unfold fltV
  clear hR
  go_enter Tryz.func29, Tryz.ntmps29
  go_wp2
  go_ret
  exact ⟨rfl, rfl⟩
/-- what next tells at a place: the line's length, or a status -/
def nxE (l : List UInt8) (k : Nat) (a lg : Int) : Except Int Nat := match endL (l.drop k) with
  | none => if ((l.drop k).length : Int) - 1 ≤ a then .error 1 else .error lg
  | some j => if a < (j : Int) then .error lg else .ok j
def NxQ (g : Nat) (s : ByteArray) (k : Nat) (ln a b c : Int) (q : Except Int Nat) (w : World) (e : Ending) (w' : World) : Prop := match q with
  | .ok j => e = .returned (.tuple #[.string (mkS ((s.data.toList.drop k).take j)), .nilIface]) ∧ RdB g s (k + (j + 2)) (ln + 1) a b c w' ∧ w.grownBy w' (some g)
  | .error st => e = .returned (.tuple #[.string ⟨#[]⟩, fltV (ln + 1) st]) ∧ RdB g s k (ln + 1) a b c w' ∧ w.grownBy w' (some g)
set_option maxRecDepth 100000 in
set_option maxHeartbeats 4000000 in
theorem next_more (g : Nat) (s : ByteArray) (k : Nat) (ln a b c lg : Int) (w : World) (hR : RdB g s k ln a b c w) (hM : Mx w) (hg : g ≠ 1) (hs : s.size ≤ 1000) (hk : k ≤ s.size) (hl0 : 0 ≤ ln) (hl1 : ln ≤ 10000)
    (HL : Hid (∀ W, Mx W → Calls Tryz.prog 52 #[.string (s.extract k s.size), .int .i64 a] W fun e w' => e = .returned (.tuple #[.string ⟨#[]⟩, .int .i64 0, .bool true]) ∧ Below W.heap.size W w')) :
    Calls Tryz.prog 34 #[.pointer (some ⟨g, 0, none⟩), .int .i64 lg] w fun e w' => e = .returned (.tuple #[.string ⟨#[]⟩, fltV (ln + 1) 1]) ∧ RdB g s k (ln + 1) a b c w' ∧ w.grownBy w' (some g) := by
  have HR1 : Hid (RdB g s k (ln + 1) a b c (w.setCell ⟨g, 2, none⟩ (.int .i64 (ln + 1)))) := by
    have := blk_set hR 2 (.int .i64 (ln + 1))
    show RdB g s k (ln + 1) a b c _
    simpa [RdB] using this
  have HG1 := Lib.hid (gb_set w g 2 (.int .i64 (ln + 1)))
  have HM1 := Lib.hid (hM.gb HG1.out hg)
  have c2 := cell_of_row _ _ 2 _ _ _ hR
  have z2 := frz2 hR 2
  have hk0 : (0 : Int) ≤ (k : Int) := by omega
  have hk1 : (k : Int) ≤ (s.size : Int) := by omega
  clear hR hM
  go_enter Tryz.func34, Tryz.ntmps34
  go_wp2_with fail
  generalize w.setCell ⟨g, 2, none⟩ (.int .i64 (ln + 1)) = w1 at HR1 HG1 HM1 ⊢
  clear c2 z2
  have c0 := cell_of_row _ _ 0 _ _ _ HR1.out
  have c1 := cell_of_row _ _ 1 _ _ _ HR1.out
  have c3 := cell_of_row _ _ 3 _ _ _ HR1.out
  go_region_held3 (fun V => V.cell? ⟨g, 0, none⟩ = some (.string s) ∧ V.cell? ⟨g, 1, none⟩ = some (.int .i64 (k : Int)) ∧ V.cell? ⟨g, 3, none⟩ = some (.int .i64 a))
    (first | exact ⟨e0, e1, e3⟩ | exact ⟨c0, c1, c3⟩)
    (first | (go_at_call 52; refine (HL.out _ HM1.out.drew).mono ?_; rintro e w3 ⟨rfl, hb3⟩; have HR3 := Lib.hid (RdB.go (w := w1.drew) HR1.out hb3); have HG3 : Hid (w.grownBy w3 (some g)) := gb_trans (gb_trans HG1.out (gb_drew _ _)) (gb_below hb3); have e0 := cell_of_row _ _ 0 _ _ _ HR3.out; have e1 := cell_of_row _ _ 1 _ _ _ HR3.out; have e3 := cell_of_row _ _ 3 _ _ _ HR3.out; clear hb3))
  clear c0 c1 c3 e0 e1 e3
  have HF := Lib.hid (fault_c g s k (ln + 1) a b c 1 w3 HR3.out)
  unfold fltV at HF
  go_wp2_with fail
  refine HF.out.mono ?_
  rintro e w4 ⟨rfl, hw⟩
  rw [← hw]; clear hw
  go_wp2
  go_ret2
  exact ⟨rfl, HR3.out, HG3.out⟩
set_option maxRecDepth 100000 in
set_option maxHeartbeats 4000000 in
theorem next_long (g : Nat) (s : ByteArray) (k : Nat) (ln a b c lg : Int) (w : World) (hR : RdB g s k ln a b c w) (hM : Mx w) (hg : g ≠ 1) (hs : s.size ≤ 1000) (hk : k ≤ s.size) (hl0 : 0 ≤ ln) (hl1 : ln ≤ 10000)
    (HL : Hid (∀ W, Mx W → Calls Tryz.prog 52 #[.string (s.extract k s.size), .int .i64 a] W fun e w' => e = .returned (.tuple #[.string ⟨#[]⟩, .int .i64 0, .bool false]) ∧ Below W.heap.size W w')) :
    Calls Tryz.prog 34 #[.pointer (some ⟨g, 0, none⟩), .int .i64 lg] w fun e w' => e = .returned (.tuple #[.string ⟨#[]⟩, fltV (ln + 1) lg]) ∧ RdB g s k (ln + 1) a b c w' ∧ w.grownBy w' (some g) := by
  have HR1 : Hid (RdB g s k (ln + 1) a b c (w.setCell ⟨g, 2, none⟩ (.int .i64 (ln + 1)))) := by
    have := blk_set hR 2 (.int .i64 (ln + 1))
    show RdB g s k (ln + 1) a b c _
    simpa [RdB] using this
  have HG1 := Lib.hid (gb_set w g 2 (.int .i64 (ln + 1)))
  have HM1 := Lib.hid (hM.gb HG1.out hg)
  have c2 := cell_of_row _ _ 2 _ _ _ hR
  have z2 := frz2 hR 2
  have hk0 : (0 : Int) ≤ (k : Int) := by omega
  have hk1 : (k : Int) ≤ (s.size : Int) := by omega
  clear hR hM
  go_enter Tryz.func34, Tryz.ntmps34
  go_wp2_with fail
  generalize w.setCell ⟨g, 2, none⟩ (.int .i64 (ln + 1)) = w1 at HR1 HG1 HM1 ⊢
  clear c2 z2
  have c0 := cell_of_row _ _ 0 _ _ _ HR1.out
  have c1 := cell_of_row _ _ 1 _ _ _ HR1.out
  have c3 := cell_of_row _ _ 3 _ _ _ HR1.out
  go_region_held3 (fun V => V.cell? ⟨g, 0, none⟩ = some (.string s) ∧ V.cell? ⟨g, 1, none⟩ = some (.int .i64 (k : Int)) ∧ V.cell? ⟨g, 3, none⟩ = some (.int .i64 a))
    (first | exact ⟨e0, e1, e3⟩ | exact ⟨c0, c1, c3⟩)
    (first | (go_at_call 52; refine (HL.out _ HM1.out.drew).mono ?_; rintro e w3 ⟨rfl, hb3⟩; have HR3 := Lib.hid (RdB.go (w := w1.drew) HR1.out hb3); have HG3 : Hid (w.grownBy w3 (some g)) := gb_trans (gb_trans HG1.out (gb_drew _ _)) (gb_below hb3); have e0 := cell_of_row _ _ 0 _ _ _ HR3.out; have e1 := cell_of_row _ _ 1 _ _ _ HR3.out; have e3 := cell_of_row _ _ 3 _ _ _ HR3.out; clear hb3))
  clear c0 c1 c3 e0 e1 e3
  have HF := Lib.hid (fault_c g s k (ln + 1) a b c lg w3 HR3.out)
  unfold fltV at HF
  go_wp2_with fail
  refine HF.out.mono ?_
  rintro e w4 ⟨rfl, hw⟩
  rw [← hw]; clear hw
  go_wp2
  go_ret2
  exact ⟨rfl, HR3.out, HG3.out⟩
theorem next_c (g : Nat) (s : ByteArray) (k : Nat) (ln a b c lg : Int) (w : World) (hR : RdB g s k ln a b c w) (hM : Mx w) (hg : g ≠ 1) (hs : s.size ≤ 1000) (hk : k ≤ s.size) (hl0 : 0 ≤ ln) (hl1 : ln ≤ 10000) :
    Calls Tryz.prog 34 #[.pointer (some ⟨g, 0, none⟩), .int .i64 lg] w (NxQ g s k ln a b c (nxE s.data.toList k a lg) w) := by
  have hx : (s.extract k s.size).data.toList = s.data.toList.drop k := by rw [extN, data_mkS]
  have hxz : (s.extract k s.size).size ≤ 1000 := by rw [ByteArray.size_extract]; omega
  have HL := Lib.hid (fun W h => Line_c (s.extract k s.size) a W hxz h)
  rw [hx] at HL
  cases he : endL (s.data.toList.drop k) with
  | none =>
    rw [he] at HL
    unfold lnV at HL
    simp only at HL
    by_cases h : ((s.data.toList.drop k).length : Int) - 1 ≤ a
    · rw [decide_eq_true h] at HL
      have e : nxE s.data.toList k a lg = .error 1 := by unfold nxE; rw [he]; simp only; rw [if_pos h]
      rw [e]
      exact next_more g s k ln a b c lg w hR hM hg hs hk hl0 hl1 HL
    · rw [decide_eq_false h] at HL
      have e : nxE s.data.toList k a lg = .error lg := by unfold nxE; rw [he]; simp only; rw [if_neg h]
      rw [e]
      exact next_long g s k ln a b c lg w hR hM hg hs hk hl0 hl1 HL
  | some j =>
    by_cases h : a < (j : Int)
    · rw [he] at HL
      unfold lnV at HL
      simp only at HL
      rw [if_pos h] at HL
      have e : nxE s.data.toList k a lg = .error lg := by unfold nxE; rw [he]; simp only; rw [if_pos h]
      rw [e]
      exact next_long g s k ln a b c lg w hR hM hg hs hk hl0 hl1 HL
    · have e : nxE s.data.toList k a lg = .ok j := by unfold nxE; rw [he]; simp only; rw [if_neg h]
      rw [e]
      exact next_ok g s k j ln a b c lg w hR hM hg hs hk hl0 hl1 he h
end Go.Proofs.YtkblggpnghdnmaaGreatDoor.Hd
