/- The contract of package chain's Put, that goes well: at every chain of the call's own; no other condition. -/
import Derived.Test.YthioghbifpphiaaCnG
namespace Go.Proofs.Ythioghbifpphiaa.Cn
open Go.RowKit Go.Lib Go.Shelf Go.Sort
set_option linter.unusedSimpArgs false
set_option linter.unusedVariables false

theorem addr0 (g j : Nat) : (⟨g, 0, none⟩ : Addr).add j = ⟨g, j, none⟩ := by unfold Addr.add; split <;> simp_all
theorem enc_cell {W : World} {g : Nat} {v1 : Int} {v2 : ByteArray} {v3 : Bool} {T : TypeId} (h : W.heap[g]? = some (.cells #[.int .i64 v1, .string v2, .bool v3] T (0, 0))) : ∀ j u, (encV (v1, v2, v3))[j]? = some u → W.cell? ((⟨g, 0, none⟩ : Addr).add j) = some u := by
  intro j u hu
  rw [addr0, cell_of_row _ _ j _ _ _ h, ← hu]
  match j with
  | 0 => rfl
  | 1 => rfl
  | 2 => rfl
  | j + 3 => simp [encV]
theorem own_ne {T T2 : TypeId} {B c n k : Nat} {v : Value} {xs : List Value} {w : World} {cs : Array Value} (h : w.ownsRow B T k v n xs) (hc : w.heap[c]? = some (.cells cs T2 (0, 0))) (hT : T ≠ T2) : some c ≠ v.ownBlock := by
  intro e
  rcases h.2 with ⟨hv, _⟩ | ⟨g, cap, cur, hv, _, hgh, _⟩
  · rw [hv] at e; cases e
  · rw [hv] at e
    injection e with e
    have e2 : c = g := e
    subst e2
    rw [hgh] at hc
    injection hc with hc
    injection hc with _ hc
    exact hT hc
theorem own_set {T T2 : TypeId} {B c n k : Nat} {v : Value} {xs : List Value} {w : World} {cs : Array Value} (h : w.ownsRow B T k v n xs) (hc : w.heap[c]? = some (.cells cs T2 (0, 0))) (hT : T ≠ T2) (i : Nat) (u : Value) : (w.setCell ⟨c, i, none⟩ u).ownsRow B T k v n xs := by
  refine World.ownsRow.kept h (row := some c) ⟨rfl, rfl, rfl, by simp [World.setCell], fun q hq hne => ?_⟩ (.inr (fun e => own_ne h hc hT e.symm))
  exact Below.heap_setCell _ _ _ _ (fun e => hne (by rw [e]))
/-- a version more, stored into the chain's block -/
theorem put_end {B c N k g capA : Nat} {gb : Option Nat} {l all : List Ver} {v : Ver} {ao : Option Addr} {cap : Nat} {w W1 WX V : World} (G1 : (Value.slice ao all.length cap).ownBlock = gb) (g2 : k ≤ all.length) (g3 : all.length ≤ N) (G4 : all.drop k = l) (HB : Below w.heap.size w W1) (HBX : Below W1.heap.size W1 WX)
    (HG5 : W1.heap[c]? = some (.cells #[.slice ao all.length cap, .int .i64 (k : Int)] 108 (0, 0))) (hne : some c ≠ (Value.slice ao all.length cap).ownBlock)
    (hown : V.ownsRow B 78 3 (.slice (some ⟨g, 0, none⟩) (all.length + 1) capA) (all.length + 1) (vC all ++ encV v)) (hgrow : WX.grownBy V (Value.slice ao all.length cap).ownBlock) (hat : (Value.slice ao all.length cap).ownBlock = some g ∨ g = WX.heap.size) :
    PtQ B c (N + 1) gb (l ++ [v]) 0 w (.returned (.int .i64 0)) (V.setCell ⟨c, 0, none⟩ (.slice (some ⟨g, 0, none⟩) (all.length + 1) capA)) := by
  have hcX : WX.heap[c]? = some (.cells #[.slice ao all.length cap, .int .i64 (k : Int)] 108 (0, 0)) := (HBX.block _ (Array.getElem?_eq_some_iff.1 HG5).1).trans HG5
  have hcV : V.heap[c]? = some (.cells #[.slice ao all.length cap, .int .i64 (k : Int)] 108 (0, 0)) := (hgrow.block _ (Array.getElem?_eq_some_iff.1 hcX).1 hne).trans hcX
  have hS := blk_set hcV 0 (.slice (some ⟨g, 0, none⟩) (all.length + 1) capA)
  have hO := own_set hown hcV (by decide) 0 (.slice (some ⟨g, 0, none⟩) (all.length + 1) capA)
  refine ⟨rfl, some g, ⟨.slice (some ⟨g, 0, none⟩) (all.length + 1) capA, all ++ [v], k, rfl, by simp; omega, by simp; omega, ?_, by simpa using hS, ?_⟩, ⟨?_, ?_, ?_, ?_, ?_⟩, ?_⟩
  · rw [List.drop_append_of_le_length g2, G4]
  · show World.ownsRow _ _ _ _ _ _ _
    rw [vC_snoc, List.length_append]
    exact hO
  · exact (hgrow.os.trans HBX.os).trans HB.os
  · exact (hgrow.tape.trans HBX.tape).trans HB.tape
  · exact (hgrow.output.trans HBX.output).trans HB.output
  · have := HB.size; have := HBX.size; have := hgrow.size
    simp [World.setCell]; omega
  · intro q hq hqc hqg
    have h1 := HB.size; have h2 := HBX.size
    rw [Below.heap_setCell _ _ _ _ hqc, hgrow.block q (by omega) (by rw [G1]; exact hqg), HBX.block q (by omega), HB.block q hq]
  · rcases hat with h | h
    · exact .inl (by rw [← h, G1])
    · have h1 := HB.size; have h2 := HBX.size
      exact .inr (.inr ⟨g, rfl, by omega⟩)
set_option maxRecDepth 100000 in
set_option maxHeartbeats 4000000 in
theorem put_ok (B c N : Nat) (gb : Option Nat) (l : List Ver) (v : Ver) (w : World) (h : IsCh B c N gb l w) (hN : N + 1 ≤ 1000000) (hB : B ≤ w.heap.size) (h1 : 1 ≤ v.1) (h2 : v.1 ≤ 9007199254740991) (b : Bool) (hl : lastB l = b) (hv : b = true → (lastV l).1 < v.1) :
    Calls Try.prog 52 #[.pointer (some ⟨c, 0, none⟩), aggV v] w (PtQ B c (N + 1) gb (l ++ [v]) 0 w) := by
  obtain ⟨v1, v2, v3⟩ := v
  simp only at h1 h2 hv
  obtain ⟨i0, hi, hz0, hz1, hz2⟩ := info_parts infoC
  obtain ⟨W0, hW0, hk0, hb0⟩ := new3 w (.int .i64 v1) (.string v2) (.bool v3) 78
  have HL := Lib.hid (Last_c B c N gb l W0 (h.go hb0) (by omega))
  rw [hl] at HL
  unfold vb aggV at HL
  have HW0 := Lib.hid hW0
  have HB0 := Lib.hid hb0
  have HK0 := Lib.hid hk0
  have H := Lib.hid h
  obtain ⟨c0, c1, c2⟩ := cells3 hk0
  clear hW0 hb0 hk0 h hl
  have hlt : w.heap.size < w.heap.size + 1 := by omega
  revert hv HL
  generalize lastV l = x
  obtain ⟨x1, x2, x3⟩ := x
  intro hv HL
  simp only at HL hv
  have HV := Lib.hid hv
  clear hv
  have hr1 : ¬ v1 < 1 := by omega
  have hr2 : ¬ 9007199254740991 < v1 := by omega
  unfold aggV
  go_enter Try.func52, Try.ntmps52
  go_wp2_with fail
  rw [← HW0.out]
  refine HL.out.mono ?_
  rintro e w1 ⟨rfl, hb1⟩
  have HB1 := Lib.hid hb1
  have hk1 := (hb1.block _ (Array.getElem?_eq_some_iff.1 HK0.out).1).trans HK0.out
  obtain ⟨W1, hW1, hkx, hbx⟩ := new3 w1 (.int .i64 x1) (.string x2) (.bool x3) 78
  have hk2 := (hbx.block _ (Array.getElem?_eq_some_iff.1 hk1).1).trans hk1
  have hlt1 : w.heap.size < w1.heap.size := (Array.getElem?_eq_some_iff.1 hk1).1
  have hltx : w.heap.size < W1.heap.size := (Array.getElem?_eq_some_iff.1 hk2).1
  have hne1 : ¬ w.heap.size = w1.heap.size := by omega
  have HBW : Hid (Below w.heap.size w W1) := by
    have hb := HB0.out.trans (hb1.mono HB0.out.size)
    exact hb.trans (hbx.mono hb.size)
  obtain ⟨sv, all, k, g1, g2, g3, g4, g5, g6⟩ := H.out.go HBW.out
  obtain ⟨WX, hWX, hkX, hbX⟩ : ∃ WX, WX = (W1.alloc (.cells #[.int .i64 v1, .string v2, .bool v3] 78)).drew ∧ WX.heap[W1.heap.size]? = some (.cells #[.int .i64 v1, .string v2, .bool v3] 78 (0, 0)) ∧ Below W1.heap.size W1 WX := ⟨_, rfl, heap_alloc_new W1 _, ((Below.refl _ _).alloc (Nat.le_refl _) _).drew⟩
  have HBX := Lib.hid hbX
  have HWX := Lib.hid hWX
  have HO := Lib.hid (g6.go hbX)
  have HOW := Lib.hid g6
  have HW1 := Lib.hid hW1
  have HC := Lib.hid (enc_cell hkX)
  have D3 : Hid (all.length + 1 ≤ maxLen) := by show _ ≤ _; unfold maxLen; omega
  have D4 : Hid ((all.length + 1) * 32 ≤ 140737488355328) := by show _ ≤ _; omega
  have D5 : Hid (B ≤ WX.heap.size) := by have a := HBW.out.size; have b := hbX.size; show _ ≤ _; omega
  have G1 := Lib.hid g1
  have G4 := Lib.hid g4
  have HLO : Hid (∀ q, sv.ownBlock = some q → B ≤ q ∧ q < W1.heap.size) := World.ownsRow.lt g6
  have HG5 := Lib.hid g5
  have HKX := Lib.hid hkX
  have hcW : c < w.heap.size := H.out.lt
  have hcW1 : c < W1.heap.size := by omega
  have hcW2 : ¬ c = W1.heap.size := by omega
  have e0 := cell_of_row _ _ 0 _ _ _ g5
  have e1 := cell_of_row _ _ 1 _ _ _ g5
  simp at e0 e1
  have f0 := frz g5 0
  obtain ⟨d0, d1, d2⟩ := cells3 hk1
  obtain ⟨p0, p1, p2⟩ := cells3 hk2
  obtain ⟨ao, cap, hsv⟩ : ∃ ao cap, sv = .slice ao all.length cap := by
    rcases own_slV g6 with ⟨e, h0⟩ | ⟨g, cp, e, _⟩
    · exact ⟨none, 0, by rw [e, h0]⟩
    · exact ⟨_, _, e⟩
  subst hsv
  clear hb1 hk1 hkx hbx hW1 hk2 c0 c1 c2 hlt hWX hkX hbX g1 g4 g5 g6
  have HNE : Hid (some c ≠ (Value.slice ao all.length cap).ownBlock) := own_ne HOW.out HG5.out (by decide)
  have HKC : Hid (WX.heap[c]? = some (.cells #[.slice ao all.length cap, .int .i64 (k : Int)] 108 (0, 0))) := (HBX.out.block _ (Array.getElem?_eq_some_iff.1 HG5.out).1).trans HG5.out
  have HCX : Hid (c < WX.heap.size) := (Array.getElem?_eq_some_iff.1 HKC.out).1
  cases b with
  | true =>
    have hv1 := HV.out rfl
    have hv2 : ¬ v1 ≤ x1 := by omega
    clear HV
    go_wp2_with fail
    rw [← HW1.out]
    go_region_law (rw [← HWX.out]; refine step_append_lies _ rfl _ _ 99 rfl B 78 i0 _ 3 32 Try.underlying99 hi hz0 hz1 hz2 rfl (by decide) _ _ _ rfl HO.out ⟨W1.heap.size, 0, none⟩ 1 1 (encV (v1, v2, v3)) rfl rfl HC.out (enc_ok _) (by decide) D3.out D4.out D5.out WX.heap.size rfl ?_; intro g capA V hown hgrow hat hlt; have hcV : V.heap[c]? = some (.cells #[.slice ao all.length cap, .int .i64 (k : Int)] 108 (0, 0)) := (hgrow.block _ HCX.out HNE.out).trans HKC.out; have e0' := cell_of_row _ _ 0 _ _ _ hcV; simp at e0'; have f0' := frz hcV 0; have HOWN := Lib.hid hown; have HGROW := Lib.hid hgrow; have HAT := Lib.hid hat; clear hown hgrow hat hlt hcV)
    all_goals
      go_wp2
      go_ret
      exact put_end G1.out g2 g3 G4.out HBW.out HBX.out HG5.out HNE.out HOWN.out HGROW.out HAT.out
  | false =>
    clear HV
    go_wp2_with fail
    rw [← HW1.out]
    go_region_law (rw [← HWX.out]; refine step_append_lies _ rfl _ _ 99 rfl B 78 i0 _ 3 32 Try.underlying99 hi hz0 hz1 hz2 rfl (by decide) _ _ _ rfl HO.out ⟨W1.heap.size, 0, none⟩ 1 1 (encV (v1, v2, v3)) rfl rfl HC.out (enc_ok _) (by decide) D3.out D4.out D5.out WX.heap.size rfl ?_; intro g capA V hown hgrow hat hlt; have hcV : V.heap[c]? = some (.cells #[.slice ao all.length cap, .int .i64 (k : Int)] 108 (0, 0)) := (hgrow.block _ HCX.out HNE.out).trans HKC.out; have e0' := cell_of_row _ _ 0 _ _ _ hcV; simp at e0'; have f0' := frz hcV 0; have HOWN := Lib.hid hown; have HGROW := Lib.hid hgrow; have HAT := Lib.hid hat; clear hown hgrow hat hlt hcV)
    all_goals
      go_wp2
      go_ret
      exact put_end G1.out g2 g3 G4.out HBW.out HBX.out HG5.out HNE.out HOWN.out HGROW.out HAT.out
end Go.Proofs.Ythioghbifpphiaa.Cn
