/- The contract of package chain's Put, behind the last one and not: at every chain of the call's own; no other condition. -/
import Derived.Test.YthioghbifpphiaaCnF
namespace Go.Proofs.Ythioghbifpphiaa.Cn
open Go.RowKit Go.Lib Go.Shelf Go.Sort
set_option linter.unusedSimpArgs false
set_option linter.unusedVariables false

set_option maxRecDepth 100000 in
set_option maxHeartbeats 2000000 in
theorem put_state (B c N : Nat) (gb : Option Nat) (l : List Ver) (v : Ver) (w : World) (h : IsCh B c N gb l w) (hN : N ≤ 1000000) (h1 : 1 ≤ v.1) (h2 : v.1 ≤ 9007199254740991) (hl : lastB l = true) (hv : v.1 ≤ (lastV l).1) :
    Calls Try.prog 52 #[.pointer (some ⟨c, 0, none⟩), aggV v] w (PtQ B c N gb l 10 w) := by
  obtain ⟨v1, v2, v3⟩ := v
  simp only at h1 h2 hv
  obtain ⟨W0, hW0, hk0, hb0⟩ := new3 w (.int .i64 v1) (.string v2) (.bool v3) 78
  have HL := Lib.hid (Last_c B c N gb l W0 (h.go hb0) hN)
  rw [hl] at HL
  unfold vb aggV at HL
  have HW0 := Lib.hid hW0
  have HB0 := Lib.hid hb0
  have HK0 := Lib.hid hk0
  have H := Lib.hid h
  obtain ⟨c0, c1, c2⟩ := cells3 hk0
  clear hW0 hb0 hk0 h hl
  have hlt : w.heap.size < w.heap.size + 1 := by omega
  revert HL hv
  generalize lastV l = x
  obtain ⟨x1, x2, x3⟩ := x
  intro hv HL
  simp only at HL hv
  have hr1 : ¬ v1 < 1 := by omega
  have hr2 : ¬ 9007199254740991 < v1 := by omega
  unfold aggV
  go_enter Try.func52, Try.ntmps52
  go_wp2_with fail
  rw [← HW0.out]
  refine HL.out.mono ?_
  rintro e w1 ⟨rfl, hb1⟩
  have HB1 := Lib.hid hb1
  have hk1 := (hb1.block _ (Array.getElem?_eq_some_iff.1 HK0.out).1).trans HK0.out
  obtain ⟨W1, hW1, hkx, hbx⟩ := new3 w1 (.int .i64 x1) (.string x2) (.bool x3) 78
  have hk2 := (hbx.block _ (Array.getElem?_eq_some_iff.1 hk1).1).trans hk1
  obtain ⟨d0, d1, d2⟩ := cells3 hk1
  have hlt1 : w.heap.size < w1.heap.size := (Array.getElem?_eq_some_iff.1 hk1).1
  have hne1 : ¬ w.heap.size = w1.heap.size := by omega
  have HBX := Lib.hid hbx
  have HW1 := Lib.hid hW1
  have HLT := Lib.hid HB0.out.size
  clear hb1 hk1 hkx hbx hW1 hk2 c0 c1 c2 hlt
  go_wp2
  go_ret
  refine ptq_same H.out ?_ rfl
  rw [← HW1.out]
  have hb := HB0.out.trans (HB1.out.mono HLT.out)
  exact hb.trans (HBX.out.mono hb.size)
end Go.Proofs.Ythioghbifpphiaa.Cn
