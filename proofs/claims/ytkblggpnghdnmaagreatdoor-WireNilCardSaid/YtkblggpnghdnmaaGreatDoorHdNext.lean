/- The contract of package head's reader's next where the line has ended and is not too long: for every text of at most a thousand bytes. -/
import Derived.Test.YtkblggpnghdnmaaGreatDoorHdSmall
import Derived.LoopN
namespace Go.Proofs.YtkblggpnghdnmaaGreatDoor.Hd
open Go.RowKit Ch
set_option linter.unusedSimpArgs false
set_option linter.unusedVariables false

theorem gb_refl (w : World) (r : Option Nat) : w.grownBy w r := ⟨rfl, rfl, rfl, Nat.le_refl _, fun _ _ _ => rfl⟩
theorem gb_drew (w : World) (r : Option Nat) : w.grownBy w.drew r := ⟨rfl, rfl, rfl, Nat.le_refl _, fun _ _ _ => rfl⟩
theorem Mx.drew {w : World} (h : Mx w) : Mx w.drew := h
theorem gb_trans {a b c : World} {r : Option Nat} (h : a.grownBy b r) (k : b.grownBy c r) : a.grownBy c r := ⟨k.os.trans h.os, k.tape.trans h.tape, k.output.trans h.output, Nat.le_trans h.size k.size, fun j hj hr => (k.block j (Nat.lt_of_lt_of_le hj h.size) hr).trans (h.block j hj hr)⟩
theorem gb_below {w w' : World} {r : Option Nat} (h : Below w.heap.size w w') : w.grownBy w' r := ⟨h.os, h.tape, h.output, h.size, fun j hj _ => h.block j hj⟩
theorem gb_set (w : World) (g j : Nat) (v : Value) : w.grownBy (w.setCell ⟨g, j, none⟩ v) (some g) := by
  refine ⟨rfl, rfl, rfl, by simp [World.setCell], fun k hk hr => ?_⟩
  exact set_ne rfl (fun e => hr (by rw [e])) j v
theorem gb_belowB {B g : Nat} {a w w' : World} (h : Below B a w) (hg : w.grownBy w' (some g)) (hB : B ≤ w.heap.size) (hBg : B ≤ g) : Below B a w' := h.grown hg hB (fun k hk => by injection hk with e; omega)
theorem Mx.gb {w w' : World} {g : Nat} (h : Mx w) (hb : w.grownBy w' (some g)) (hg : g ≠ 1) : Mx w' := by
  have hl := h.lt
  obtain ⟨m, h⟩ := h
  exact ⟨m, (World.cell?_of_block (hb.block _ hl (fun e => hg (by injection e with e; exact e.symm)))).trans h⟩
/-- the reader's block -/
def RdB (g : Nat) (s : ByteArray) (k : Nat) (ln a b c : Int) (w : World) : Prop := w.heap[g]? = some (.cells #[.string s, .int .i64 (k : Int), .int .i64 ln, .int .i64 a, .int .i64 b, .int .i64 c] 55 (0, 0))
theorem RdB.lt {g : Nat} {s : ByteArray} {k : Nat} {ln a b c : Int} {w : World} (h : RdB g s k ln a b c w) : g < w.heap.size := (Array.getElem?_eq_some_iff.1 h).1
theorem RdB.go {g : Nat} {s : ByteArray} {k : Nat} {ln a b c : Int} {w w' : World} (h : RdB g s k ln a b c w) (hb : Below w.heap.size w w') : RdB g s k ln a b c w' := (hb.block _ h.lt).trans h
set_option maxRecDepth 100000 in
set_option maxHeartbeats 4000000 in
theorem next_ok (g : Nat) (s : ByteArray) (k j : Nat) (ln a b c lg : Int) (w : World) (hR : RdB g s k ln a b c w) (hM : Mx w) (hg : g ≠ 1) (hs : s.size ≤ 1000) (hk : k ≤ s.size) (hl0 : 0 ≤ ln) (hl1 : ln ≤ 10000)
    (he : endL (s.data.toList.drop k) = some j) (hja : ¬ a < (j : Int)) :
    Calls Tryz.prog 34 #[.pointer (some ⟨g, 0, none⟩), .int .i64 lg] w fun e w' => e = .returned (.tuple #[.string (mkS ((s.data.toList.drop k).take j)), .nilIface]) ∧ RdB g s (k + (j + 2)) (ln + 1) a b c w' ∧ w.grownBy w' (some g) := by
  have hx : (s.extract k s.size).data.toList = s.data.toList.drop k := by rw [extN, data_mkS]
  have hxz : (s.extract k s.size).size ≤ 1000 := by rw [ByteArray.size_extract]; omega
  have HL := Lib.hid (fun W h => Line_c (s.extract k s.size) a W hxz h)
  rw [hx, he] at HL
  unfold lnV at HL
  simp only at HL
  rw [if_neg hja] at HL
  have hjz : j ≤ 1000 := by have := (cut_some he).2; rw [← hx, ← Lib.size_eq] at this; omega
  generalize mkS ((s.data.toList.drop k).take j) = t at HL ⊢
  have HR1 : Hid (RdB g s k (ln + 1) a b c (w.setCell ⟨g, 2, none⟩ (.int .i64 (ln + 1)))) := by
    have := blk_set hR 2 (.int .i64 (ln + 1))
    show RdB g s k (ln + 1) a b c _
    simpa [RdB] using this
  have HG1 := Lib.hid (gb_set w g 2 (.int .i64 (ln + 1)))
  have HM1 := Lib.hid (hM.gb HG1.out hg)
  have c2 := cell_of_row _ _ 2 _ _ _ hR
  have z2 := frz2 hR 2
  have hj2 : ((j : Int) + 2 == 0) = false := beq_eq_false_iff_ne.2 (by omega)
  have hk0 : (0 : Int) ≤ (k : Int) := by omega
  have hk1 : (k : Int) ≤ (s.size : Int) := by omega
  clear hx he hxz hR hM hja
  go_enter Tryz.func34, Tryz.ntmps34
  go_wp2_with fail
  generalize w.setCell ⟨g, 2, none⟩ (.int .i64 (ln + 1)) = w1 at HR1 HG1 HM1 ⊢
  clear c2 z2
  have c0 := cell_of_row _ _ 0 _ _ _ HR1.out
  have c1 := cell_of_row _ _ 1 _ _ _ HR1.out
  have c3 := cell_of_row _ _ 3 _ _ _ HR1.out
  go_region_held3 (fun V => V.cell? ⟨g, 0, none⟩ = some (.string s) ∧ V.cell? ⟨g, 1, none⟩ = some (.int .i64 (k : Int)) ∧ V.cell? ⟨g, 3, none⟩ = some (.int .i64 a))
    (first | exact ⟨e0, e1, e3⟩ | exact ⟨c0, c1, c3⟩)
    (first | (go_at_call 52; refine (HL.out _ HM1.out.drew).mono ?_; rintro e w3 ⟨rfl, hb3⟩; have HR3 := Lib.hid (RdB.go (w := w1.drew) HR1.out hb3); have HG3 : Hid (w.grownBy w3 (some g)) := gb_trans (gb_trans HG1.out (gb_drew _ _)) (gb_below hb3); have e0 := cell_of_row _ _ 0 _ _ _ HR3.out; have e1 := cell_of_row _ _ 1 _ _ _ HR3.out; have e3 := cell_of_row _ _ 3 _ _ _ HR3.out; clear hb3))
  clear c0 c1 c3 e0 e3
  have z1 := frz2 HR3.out 1
  have HR4 : Hid (RdB g s (k + (j + 2)) (ln + 1) a b c (w3.setCell ⟨g, 1, none⟩ (.int .i64 ((k : Int) + ((j : Int) + 2))))) := by
    have h := blk_set HR3.out 1 (.int .i64 ((k : Int) + ((j : Int) + 2)))
    have e : ((k : Int) + ((j : Int) + 2)) = ((k + (j + 2) : Nat) : Int) := by omega
    show RdB g s (k + (j + 2)) (ln + 1) a b c _
    rw [e] at h ⊢
    unfold RdB
    exact h
  have HG4 := Lib.hid (gb_trans HG3.out (gb_set w3 g 1 (.int .i64 ((k : Int) + ((j : Int) + 2)))))
  go_wp2
  go_ret2
  exact ⟨rfl, HR4.out, HG4.out⟩
def exT : ByteArray := ⟨#[71, 69, 84, 32, 47, 97, 32, 72, 84, 84, 80, 47, 49, 46, 49, 13, 10, 72, 111, 115, 116, 58, 32, 120, 13, 10, 13, 10, 114, 101, 115, 116]⟩
theorem ex_e0 : endL (exT.data.toList.drop 0) = some 15 := by decide +kernel
theorem ex_e1 : endL (exT.data.toList.drop 17) = some 7 := by decide +kernel
theorem ex_e2 : endL (exT.data.toList.drop 26) = some 0 := by decide +kernel
theorem ex_l0 : mkS ((exT.data.toList.drop 0).take 15) = ⟨#[71, 69, 84, 32, 47, 97, 32, 72, 84, 84, 80, 47, 49, 46, 49]⟩ := by kernel_rfl
theorem ex_l1 : mkS ((exT.data.toList.drop 17).take 7) = ⟨#[72, 111, 115, 116, 58, 32, 120]⟩ := by kernel_rfl
theorem ex_l2 : mkS ((exT.data.toList.drop 26).take 0) = ⟨#[]⟩ := by kernel_rfl
theorem ex_cnt : Lib.countB ⟨#[71, 69, 84, 32, 47, 97, 32, 72, 84, 84, 80, 47, 49, 46, 49]⟩ ⟨#[32]⟩ = 2 := by decide +kernel
theorem ex_spl : ((Lib.splitB ⟨#[32]⟩ 0 2 ⟨#[71, 69, 84, 32, 47, 97, 32, 72, 84, 84, 80, 47, 49, 46, 49]⟩).map Value.string).toArray = #[.string ⟨#[71, 69, 84]⟩, .string ⟨#[47, 97]⟩, .string ⟨#[72, 84, 84, 80, 47, 49, 46, 49]⟩] := by kernel_rfl
theorem ex_of : ofL (ByteArray.mk #[72, 111, 115, 116, 58, 32, 120]).data.toList = some ([72, 111, 115, 116], [120]) := by decide +kernel
theorem split_c (w : World) (hM : Mx w) : Calls Tryz.prog 35 #[.string ⟨#[71, 69, 84, 32, 47, 97, 32, 72, 84, 84, 80, 47, 49, 46, 49]⟩, .string ⟨#[32]⟩] w fun e w' => e = .returned (.slice (some ⟨w.heap.size, 0, none⟩) 3 3) ∧ w' = w.alloc (.cells #[.string ⟨#[71, 69, 84]⟩, .string ⟨#[47, 97]⟩, .string ⟨#[72, 84, 84, 80, 47, 49, 46, 49]⟩] 9) := by
  obtain ⟨m, hm⟩ := hM
  have h := Any.strings_Split Tryz.lays146 info9 ⟨#[71, 69, 84, 32, 47, 97, 32, 72, 84, 84, 80, 47, 49, 46, 49]⟩ ⟨#[32]⟩ m w (by decide) hm (by decide)
  rw [ex_cnt, ex_spl] at h
  exact h
end Go.Proofs.YtkblggpnghdnmaaGreatDoor.Hd
