/- Contracts of the law's own small functions: for every head with at most two thousand fields. -/
import Derived.Test.YtdgjhbonldfgpaaDoorHdParG
namespace Go.Proofs.YtdgjhbonldfgpaaDoor.Hd
open Go.RowKit Ch
set_option linter.unusedSimpArgs false
set_option linter.unusedVariables false

def OwP (B : Nat) (v : Value) (fs : List FldL) (w : World) : Prop := w.ownsRow B 47 2 v fs.length (flC fs)
theorem OwP.go {B : Nat} {v : Value} {fs : List FldL} {w w' : World} (h : OwP B v fs w) (hb : Below w.heap.size w w') : OwP B v fs w' :=
  World.ownsRow.kept h (row := none) ⟨hb.os, hb.tape, hb.output, hb.size, fun k hk _ => hb.block k hk⟩ (by cases hv : v.ownBlock <;> simp)
theorem OwP.gb {B : Nat} {v : Value} {fs : List FldL} {g : Nat} {w w' : World} (h : OwP B v fs w) (hb : w.grownBy w' (some g)) (hg : g < B) : OwP B v fs w' := by
  refine World.ownsRow.kept h (row := some g) hb (Or.inr (fun e => ?_))
  have := h.lt g e
  omega
theorem owp_at {B : Nat} {v : Value} {fs : List FldL} {w : World} (h : OwP B v fs w) (hn : 0 < fs.length) : ∃ g cap, v = .slice (some ⟨g, 0, none⟩) fs.length cap ∧ g < w.heap.size ∧ B ≤ g ∧ fs.length ≤ cap ∧ ∀ i (hi : i < fs.length), w.cell? ⟨g, i * 2, none⟩ = some (.string (mkS fs[i].1)) ∧ w.cell? ⟨g, i * 2 + 1, none⟩ = some (.string (mkS fs[i].2)) := by
  rcases h.2 with ⟨rfl, h0⟩ | ⟨g, cap, cur, rfl, hB, hg, hc, hcm, hsz, htk⟩
  · omega
  · refine ⟨g, cap, rfl, (Array.getElem?_eq_some_iff.1 hg).1, hB, hc, fun i hi => ?_⟩
    have hl := flC_len fs
    rw [cell_of_row _ _ _ _ _ _ hg, cell_of_row _ _ _ _ _ _ hg]
    have hp := flC_at fs i hi
    rw [← htk, List.getElem?_take_of_lt (by omega), List.getElem?_take_of_lt (by omega), Array.getElem?_toList, Array.getElem?_toList] at hp
    exact hp
theorem OwP.mono {B B' : Nat} {v : Value} {fs : List FldL} {w : World} (h : OwP B v fs w) (hB : B' ≤ B) : OwP B' v fs w := World.ownsRow.mono h hB
theorem infoP : (Tryd.prog.info? 47).map (fun i => (i.zero, i.size, i.bytes)) = some (some (.agg #[.string ⟨#[]⟩, .string ⟨#[]⟩]), 2, 32) := by kernel_rfl
set_option maxRecDepth 100000 in
set_option maxHeartbeats 2000000 in
theorem Ours_c (a b c : Int) (w : World) : Calls Tryd.prog 7 #[.agg #[.int .i64 a, .int .i64 b, .int .i64 c]] w fun e w' => e = .returned (.agg #[.int .i64 a, .int .i64 b, .int .i64 c]) ∧ Below w.heap.size w w' := by
  have hz : ∀ o, (w.alloc o).heap.size = w.heap.size + 1 := fun o => by simp
  have hb := (Below.refl w.heap.size w).alloc (Nat.le_refl _) (.cells #[.int .i64 a, .int .i64 b, .int .i64 c] 23)
  have HB : Hid (Below w.heap.size w ((w.alloc (.cells #[.int .i64 a, .int .i64 b, .int .i64 c] 23)).alloc (.cells #[.int .i64 a, .int .i64 b, .int .i64 c] 30))) := hb.alloc hb.size _
  have hk := heap_alloc_new (w.alloc (.cells #[.int .i64 a, .int .i64 b, .int .i64 c] 23)) (.cells #[.int .i64 a, .int .i64 b, .int .i64 c] 30)
  rw [hz] at hk
  have d0 := cell_of_row _ _ 0 _ _ _ hk
  have d1 := cell_of_row _ _ 1 _ _ _ hk
  have d2 := cell_of_row _ _ 2 _ _ _ hk
  have HD0 := Lib.hid d0
  have HD1 := Lib.hid d1
  have HD2 := Lib.hid d2
  clear d0 d1 d2 hk hb
  go_enter Tryd.func7, Tryd.ntmps7
  go_wp2_with fail
  have d0 := HD0.out
  have d1 := HD1.out
  have d2 := HD2.out
  (with_reducible refine bodyPost_ret (v := .agg #[.int .i64 a, .int .i64 b, .int .i64 c]) (by simp [results, Tryd.results7, go_sem, d0, d1, d2]) rfl ⟨rfl, HB.out⟩)
set_option maxRecDepth 100000 in
set_option maxHeartbeats 8000000 in
theorem Plain_c (pm pt : ByteArray) (mn : Int) (ao : Option Addr) (cp : Nat) (fs : List FldL) (B : Nat) (w : World) (hO : OwL B (.slice ao fs.length cp) fs w) (hm : fs.length ≤ 2000) :
    Calls Tryd.prog 10 #[.agg #[.string pm, .string pt, .int .i64 mn, .slice ao fs.length cp]] w fun e w' => ∃ aq cq, e = .returned (.agg #[.string pm, .string pt, .int .i64 mn, .slice aq fs.length cq]) ∧ OwP w.heap.size (.slice aq fs.length cq) fs w' ∧ Below w.heap.size w w' := by
  obtain ⟨i0, hi, hz0, hz1, hz2⟩ := info_parts infoP
  have HO := Lib.hid hO
  clear hO
  have HD : Hid (∃ W0, W0 = ((w.alloc (.cells #[.string pm, .string pt, .int .i64 mn, .slice ao fs.length cp] 27)).alloc (.cells #[.string ⟨#[]⟩, .string ⟨#[]⟩, .int .i64 0, .slice none 0 0] 36)).alloc (.cells #[.string pm, .string pt, .int .i64 mn, .slice none 0 0] 36) ∧ W0.heap[w.heap.size + 1]? = some (.cells #[.string ⟨#[]⟩, .string ⟨#[]⟩, .int .i64 0, .slice none 0 0] 36 (0, 0)) ∧ W0.heap[w.heap.size + 1 + 1]? = some (.cells #[.string pm, .string pt, .int .i64 mn, .slice none 0 0] 36 (0, 0)) ∧ Below w.heap.size w W0 ∧ W0.heap.size = w.heap.size + 1 + 1 + 1) := by
    refine ⟨_, rfl, ?_, ?_, (((Below.refl _ _).alloc (Nat.le_refl _) _).alloc (by simp) _).alloc (by simp; omega) _, by simp⟩
    · have := heap_alloc_new (w.alloc (.cells #[.string pm, .string pt, .int .i64 mn, .slice ao fs.length cp] 27)) (.cells #[.string ⟨#[]⟩, .string ⟨#[]⟩, .int .i64 0, .slice none 0 0] 36)
      exact heap_old _ (by simpa using this)
    · have := heap_alloc_new ((w.alloc (.cells #[.string pm, .string pt, .int .i64 mn, .slice ao fs.length cp] 27)).alloc (.cells #[.string ⟨#[]⟩, .string ⟨#[]⟩, .int .i64 0, .slice none 0 0] 36)) (.cells #[.string pm, .string pt, .int .i64 mn, .slice none 0 0] 36)
      simpa using this
  obtain ⟨W0, hW0, hR0, hO0, hB0, hz0'⟩ := HD.out
  have HWE := Lib.hid hW0
  have HR0 := Lib.hid hR0
  have HK0 := Lib.hid hO0
  have HB0 := Lib.hid hB0
  have HZ0 := Lib.hid hz0'
  have HL0 := Lib.hid (HO.out.go hB0)
  clear HD hW0 hR0 hO0 hB0 hz0'
  go_enter Tryd.func10, Tryd.ntmps10
  go_wp2
  rw [← HWE.out]
  clear HWE
  go_loopw [16] (fun i wr => ∃ (j : Nat) (v : Value), j ≤ fs.length ∧ i = .int .i64 j ∧ wr.heap[w.heap.size + 1 + 1]? = some (.cells #[.string pm, .string pt, .int .i64 mn, v] 36 (0, 0)) ∧ OwP (w.heap.size + 1 + 1 + 1) v (fs.take j) wr ∧ W0.grownBy wr (some (w.heap.size + 1 + 1))) (fun i _ => fs.length - (intOf i).toNat)
  case atStart => exact ⟨0, _, by omega, rfl, HK0.out, World.ownsRow_nil _ _ _ _, gb_refl _ _⟩
  case round =>
    obtain ⟨j, v, hj, rfl, hK, hI, hG⟩ := hrel
    have HK := Lib.hid hK
    have HI := Lib.hid hI
    have HG := Lib.hid hG
    have hsz : w.heap.size + 1 + 1 + 1 ≤ wr.heap.size := by have := hG.size; rw [HZ0.out] at this; exact this
    obtain ⟨ai, ci, hv⟩ := own_len hI
    rw [show (fs.take j).length = j by rw [List.length_take]; omega] at hv
    subst hv
    clear hK hI hG
    by_cases hlt : j < fs.length
    · obtain ⟨f, c1, e1, hfl, hfb, hc1, hat⟩ := owl_at HO.out (by omega)
      injection e1 with e1a e1b e1c
      subst e1a e1c
      have hfo : f < W0.heap.size := by rw [HZ0.out]; omega
      have p0 : wr.cell? ⟨f, j * 2, none⟩ = some (.string (mkS fs[j].1)) := (World.cell?_of_block (HG.out.block f hfo (fun e => by injection e with e; omega))).trans ((HB0.out.cell (p := ⟨f, j * 2, none⟩) hfl).trans (hat j hlt).1)
      have p1 : wr.cell? ⟨f, j * 2 + 1, none⟩ = some (.string (mkS fs[j].2)) := (World.cell?_of_block (HG.out.block f hfo (fun e => by injection e with e; omega))).trans ((HB0.out.cell (p := ⟨f, j * 2 + 1, none⟩) hfl).trans (hat j hlt).2)
      have hsn : fs.take (j + 1) = fs.take j ++ [fs[j]] := List.take_succ_eq_append_getElem hlt
      have HSN : Hid (flC (fs.take (j + 1)) = flC (fs.take j) ++ [.string (mkS fs[j].1), .string (mkS fs[j].2)]) := by show flC _ = _; rw [hsn, flC_snoc]
      have hj0 : (0 : Int) ≤ (j : Int) := by omega
      have hjl : (j : Int) < (fs.length : Int) := by omega
      have hln : (fs.take j).length = j := by rw [List.length_take]; omega
      have HLN : Hid ((fs.take (j + 1)).length = j + 1) := by show _ = _; rw [List.length_take]; omega
      clear hat hsn
      revert p0 p1 HSN
      generalize mkS fs[j].1 = ya
      generalize mkS fs[j].2 = yb
      intro p0 p1 HSN
      have HD : Hid (∃ W2, W2 = (wr.alloc (.cells #[.string ya, .string yb] 44)).alloc (.cells #[.string ya, .string yb] 47) ∧ W2.heap[wr.heap.size + 1]? = some (.cells #[.string ya, .string yb] 47 (0, 0)) ∧ Below wr.heap.size wr W2) := by
        refine ⟨_, rfl, ?_, ((Below.refl wr.heap.size wr).alloc (Nat.le_refl _) _).alloc (by simp) _⟩
        have := heap_alloc_new (wr.alloc (.cells #[.string ya, .string yb] 44)) (.cells #[.string ya, .string yb] 47)
        simpa using this
      obtain ⟨W2, hW2, hk3, hbW⟩ := HD.out
      have HK3 := Lib.hid hk3
      have HW2 := Lib.hid hW2
      have HIW0 := HI.out.go hbW
      unfold OwP at HIW0
      rw [hln] at HIW0
      have HIW := Lib.hid HIW0
      have HKW : Hid (W2.heap[w.heap.size + 1 + 1]? = some (.cells #[.string pm, .string pt, .int .i64 mn, .slice ai j ci] 36 (0, 0))) := (hbW.block _ (by omega)).trans HK.out
      have HGW : Hid (W0.grownBy W2 (some (w.heap.size + 1 + 1))) := gb_trans HG.out (gb_below hbW)
      have k3 := cell_of_row _ _ 3 _ _ _ HK.out
      have hko : w.heap.size + 1 + 1 < wr.heap.size := by omega
      have hkn : w.heap.size + 1 + 1 ≠ wr.heap.size := by omega
      have C1 : Hid (∀ (i : Nat) (v : Value), [Value.string ya, .string yb][i]? = some v → W2.cell? ((⟨wr.heap.size + 1, 0, none⟩ : Addr).add i) = some v) := fun i v hv => by
        have hj5 : i < 2 := by
          rcases Nat.lt_or_ge i 2 with h | h
          · exact h
          · rw [List.getElem?_eq_none (by show 2 ≤ i; exact h)] at hv; cases hv
        have ea : (⟨wr.heap.size + 1, 0, none⟩ : Addr).add i = ⟨wr.heap.size + 1, i, none⟩ := by unfold Addr.add; split <;> simp_all
        rw [ea, cell_of_row _ _ i _ _ _ HK3.out]
        match i, hj5 with
        | 0, _ => exact hv
        | 1, _ => exact hv
      have C2 : Hid (∀ u ∈ [Value.string ya, .string yb], u.oneCell' = true) := fun v hv => by simp at hv; rcases hv with rfl | rfl <;> rfl
      have C3 : Hid (j + 1 ≤ maxLen) := by show _ ≤ _; unfold maxLen; omega
      have C4 : Hid ((j + 1) * 32 ≤ 140737488355328) := by show _ ≤ _; omega
      have C5 : Hid (w.heap.size + 1 + 1 + 1 ≤ W2.heap.size) := by show _ ≤ _; have := hbW.size; omega
      have hso : wr.heap.size ≤ W2.heap.size := hbW.size
      clear HD hk3 hW2 HIW0 hln hbW
      go_wp2_with (at_builtin; rw [← HW2.out]; refine wpList_append_own _ rfl _ _ 34 rfl (w.heap.size + 1 + 1 + 1) 47 i0 _ 2 32 Tryd.underlying34 hi hz0 hz1 hz2 rfl (by decide) _ _ _ rfl HIW.out ⟨wr.heap.size + 1, 0, none⟩ 1 1 [.string ya, .string yb] rfl rfl C1.out C2.out C3.out C4.out C5.out ?_)
      intro v' w5 hown' hgrow _
      obtain ⟨ap, cq, hv'⟩ := own_len hown'
      subst hv'
      have hlo : ∀ p, (Value.slice ai j ci).ownBlock = some p → w.heap.size + 1 + 1 + 1 ≤ p ∧ p < W2.heap.size := fun p hp => HIW.out.lt p hp
      have HK5 : Hid (w5.heap[w.heap.size + 1 + 1]? = some (.cells #[.string pm, .string pt, .int .i64 mn, .slice ai j ci] 36 (0, 0))) := (hgrow.block _ (by omega) (fun e => by have := hlo _ e.symm; omega)).trans HKW.out
      have HG5 : Hid (W0.grownBy w5 (some (w.heap.size + 1 + 1))) := ⟨hgrow.os.trans HGW.out.os, hgrow.tape.trans HGW.out.tape, hgrow.output.trans HGW.out.output, Nat.le_trans HGW.out.size hgrow.size, fun p hp hr => (hgrow.block p (Nat.lt_of_lt_of_le hp HGW.out.size) (fun e => by have := hlo p e.symm; rw [HZ0.out] at hp; omega)).trans (HGW.out.block p hp hr)⟩
      have HO5 : Hid (OwP (w.heap.size + 1 + 1 + 1) (.slice ap (j + 1) cq) (fs.take (j + 1)) w5) := by
        show World.ownsRow _ _ _ _ _ _ _
        rw [HSN.out, HLN.out]
        exact hown'
      have HK6 : Hid ((w5.setCell ⟨w.heap.size + 1 + 1, 3, none⟩ (.slice ap (j + 1) cq)).heap[w.heap.size + 1 + 1]? = some (.cells #[.string pm, .string pt, .int .i64 mn, (.slice ap (j + 1) cq)] 36 (0, 0))) := by
        have := blk_set HK5.out 3 (.slice ap (j + 1) cq)
        show (w5.setCell ⟨w.heap.size + 1 + 1, 3, none⟩ (.slice ap (j + 1) cq)).heap[w.heap.size + 1 + 1]? = _
        simpa using this
      have HG6 : Hid (W0.grownBy (w5.setCell ⟨w.heap.size + 1 + 1, 3, none⟩ (.slice ap (j + 1) cq)) (some (w.heap.size + 1 + 1))) := gb_trans HG5.out (gb_set _ _ _ _)
      have HO6 := Lib.hid (HO5.out.gb (gb_set w5 (w.heap.size + 1 + 1) 3 (.slice ap (j + 1) cq)) (by omega))
      have y3 := cell_of_row _ _ 3 _ _ _ HK5.out
      have z3 := frz2 HK5.out 3
      clear hown' hgrow hlo HK5 HG5 HO5 HIW
      go_wp2
      go_roundw
      case rel => exact ⟨j + 1, (.slice ap (j + 1) cq), by omega, by go_num, HK6.out, HO6.out, HG6.out⟩
      case measure => simp [intOf]; omega
    · have hje : j = fs.length := by omega
      subst hje
      have hI2 := HI.out
      rw [List.take_length] at hI2
      have HI2 := Lib.hid hI2
      clear hI2 HI
      have HRr : Hid (wr.heap[w.heap.size + 1]? = some (.cells #[.string ⟨#[]⟩, .string ⟨#[]⟩, .int .i64 0, .slice none 0 0] 36 (0, 0))) := (HG.out.block _ (by rw [HZ0.out]; omega) (fun e => by injection e with e; omega)).trans HR0.out
      have HBr : Hid (Below w.heap.size w wr) := HB0.out.grown HG.out HB0.out.size (fun k hk => by injection hk with e; omega)
      have k0 := cell_of_row _ _ 0 _ _ _ HK.out
      have k1 := cell_of_row _ _ 1 _ _ _ HK.out
      have k2 := cell_of_row _ _ 2 _ _ _ HK.out
      have k3 := cell_of_row _ _ 3 _ _ _ HK.out
      have c0 := cell_of_row _ _ 0 _ _ _ HRr.out
      have c1 := cell_of_row _ _ 1 _ _ _ HRr.out
      have c2 := cell_of_row _ _ 2 _ _ _ HRr.out
      have c3 := cell_of_row _ _ 3 _ _ _ HRr.out
      have z0 := frz2 HRr.out 0
      have z1 := frz2 HRr.out 1
      have z2 := frz2 HRr.out 2
      have z3 := frz2 HRr.out 3
      have HH := Lib.hid (set4 HRr.out (.string pm) (.string pt) (.int .i64 mn) (.slice ai fs.length ci))
      have HHB := Lib.hid (bel4 HBr.out (Nat.le_succ w.heap.size) (.string pm) (.string pt) (.int .i64 mn) (.slice ai fs.length ci))
      have HGS := Lib.hid (gb_trans (gb_trans (gb_trans (gb_set wr (w.heap.size + 1) 0 (.string pm)) (gb_set _ (w.heap.size + 1) 1 (.string pt))) (gb_set _ (w.heap.size + 1) 2 (.int .i64 mn))) (gb_set _ (w.heap.size + 1) 3 (.slice ai fs.length ci)))
      have HOS := Lib.hid (OwP.mono (B' := w.heap.size) (HI2.out.gb HGS.out (by omega)) (by omega))
      go_wp2
      have d0 := cell_of_row _ _ 0 _ _ _ HH.out
      have d1 := cell_of_row _ _ 1 _ _ _ HH.out
      have d2 := cell_of_row _ _ 2 _ _ _ HH.out
      have d3 := cell_of_row _ _ 3 _ _ _ HH.out
      clear c0 c1 c2 c3 z0 z1 z2 z3 k0 k1 k2 k3
      (with_reducible refine bodyPost_ret (v := .agg #[.string pm, .string pt, .int .i64 mn, .slice ai fs.length ci]) (by simp [results, Tryd.results10, go_sem, d0, d1, d2, d3]) rfl ⟨ai, ci, rfl, HOS.out, HHB.out⟩)
set_option maxRecDepth 100000 in
set_option maxHeartbeats 8000000 in
theorem Same_c (pm pt : ByteArray) (mn : Int) (a1 a2 : Option Addr) (c1 c2 : Nat) (fs : List FldL) (B1 B2 : Nat) (w : World) (hA : OwP B1 (.slice a1 fs.length c1) fs w) (hB : OwP B2 (.slice a2 fs.length c2) fs w) (hm : fs.length ≤ 2000) (hs : Tryd.prog.stoodInHeld 47 = false) :
    Calls Tryd.prog 9 #[.agg #[.string pm, .string pt, .int .i64 mn, .slice a1 fs.length c1], .agg #[.string pm, .string pt, .int .i64 mn, .slice a2 fs.length c2]] w fun e w' => e = .returned (.bool true) ∧ Below w.heap.size w w' := by
  have HA := Lib.hid hA
  have HB := Lib.hid hB
  have HB0 : Hid (Below w.heap.size w ((w.alloc (.cells #[.string pm, .string pt, .int .i64 mn, .slice a1 fs.length c1] 36)).alloc (.cells #[.string pm, .string pt, .int .i64 mn, .slice a2 fs.length c2] 36))) := ((Below.refl _ _).alloc (Nat.le_refl _) _).alloc (by simp) _
  have HR0 : Hid (((w.alloc (.cells #[.string pm, .string pt, .int .i64 mn, .slice a1 fs.length c1] 36)).alloc (.cells #[.string pm, .string pt, .int .i64 mn, .slice a2 fs.length c2] 36)).heap[w.heap.size]? = some (.cells #[.string pm, .string pt, .int .i64 mn, .slice a1 fs.length c1] 36 (0, 0))) := heap_old _ (heap_alloc_new w _)
  have HA0 := Lib.hid (HA.out.go HB0.out)
  have HC0 := Lib.hid (HB.out.go HB0.out)
  clear hA hB HA HB
  go_enter Tryd.func9, Tryd.ntmps9
  go_wp2
  generalize (w.alloc (.cells #[.string pm, .string pt, .int .i64 mn, .slice a1 fs.length c1] 36)).alloc (.cells #[.string pm, .string pt, .int .i64 mn, .slice a2 fs.length c2] 36) = W0 at HB0 HR0 HA0 HC0 ⊢
  go_loopw [38] (fun i wr => ∃ j : Nat, j ≤ fs.length ∧ i = .int .i64 j ∧ Below W0.heap.size W0 wr) (fun i _ => fs.length - (intOf i).toNat)
  case atStart => exact ⟨0, by omega, rfl, Below.refl _ _⟩
  case round =>
    obtain ⟨j, hj, rfl, hB⟩ := hrel
    have HB := Lib.hid hB
    have hsz := hB.size
    by_cases hlt : j < fs.length
    · obtain ⟨f1, d1, e1, hl1, _, hc1, hat1⟩ := owp_at HA0.out (by omega)
      obtain ⟨f2, d2, e2, hl2, _, hc2, hat2⟩ := owp_at HC0.out (by omega)
      injection e1 with e1a e1b e1c
      subst e1a e1c
      injection e2 with e2a e2b e2c
      subst e2a e2c
      have p0 : wr.cell? ⟨f1, j * 2, none⟩ = some (.string (mkS fs[j].1)) := (hB.cell (p := ⟨f1, j * 2, none⟩) hl1).trans (hat1 j hlt).1
      have p1 : wr.cell? ⟨f1, j * 2 + 1, none⟩ = some (.string (mkS fs[j].2)) := (hB.cell (p := ⟨f1, j * 2 + 1, none⟩) hl1).trans (hat1 j hlt).2
      have q0 : wr.cell? ⟨f2, j * 2, none⟩ = some (.string (mkS fs[j].1)) := (hB.cell (p := ⟨f2, j * 2, none⟩) hl2).trans (hat2 j hlt).1
      have q1 : wr.cell? ⟨f2, j * 2 + 1, none⟩ = some (.string (mkS fs[j].2)) := (hB.cell (p := ⟨f2, j * 2 + 1, none⟩) hl2).trans (hat2 j hlt).2
      have hk0 : w.heap.size < W0.heap.size := (Array.getElem?_eq_some_iff.1 HR0.out).1
      have k3 : wr.cell? ⟨w.heap.size, 3, none⟩ = some (.slice (some ⟨f1, 0, none⟩) fs.length c1) := (hB.cell (p := ⟨w.heap.size, 3, none⟩) hk0).trans (cell_of_row _ _ 3 _ _ _ HR0.out)
      have hn1 : f1 < wr.heap.size := by omega
      have hm1 : f1 ≠ wr.heap.size := by omega
      have hn2 : w.heap.size < wr.heap.size := by omega
      have hm2 : w.heap.size ≠ wr.heap.size := by omega
      have hj0 : (0 : Int) ≤ (j : Int) := by omega
      have hjl : (j : Int) < (fs.length : Int) := by omega
      clear hat1 hat2 hB
      revert p0 p1 q0 q1
      generalize mkS fs[j].1 = ya
      generalize mkS fs[j].2 = yb
      intro p0 p1 q0 q1
      have HB1 : Hid (Below W0.heap.size W0 (wr.alloc (.cells #[.string ya, .string yb] 47))) := HB.out.alloc hsz _
      go_wp2_with fail
      go_quiet (fail)
      go_wp2
      go_roundw
      case rel => exact ⟨j + 1, by omega, by go_num, ⟨HB1.out.os, HB1.out.tape, HB1.out.output, HB1.out.size, HB1.out.block⟩⟩
      case measure => simp [intOf]; omega
    · have HBE := Lib.hid (HB0.out.trans (hB.mono HB0.out.size))
      clear hB
      go_wp2
      go_ret
      exact ⟨rfl, HBE.out⟩
end Go.Proofs.YtdgjhbonldfgpaaDoor.Hd
