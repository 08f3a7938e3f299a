/- The contract of the law's own small function Plain: for every reply with at most two thousand fields. -/
import Derived.Test.YtolfenachbbjdaaDoorRpH
namespace Go.Proofs.YtolfenachbbjdaaDoor.Rp
open Go.RowKit Ch Hd
set_option linter.unusedSimpArgs false
set_option linter.unusedVariables false

set_option maxRecDepth 100000 in
set_option maxHeartbeats 8000000 in
theorem Plain_c (n : Int) (v0 : Value) (fs : List FB) (body : ByteArray) (w : World) (hR : RdF v0 fs w) (hm : fs.length ≤ 2000) :
    Calls Tryd.prog 16 #[.agg #[.int .i64 n, v0, .string body]] w fun e w' => ∃ aq cq, e = .returned (.agg #[.int .i64 n, .slice aq fs.length cq, .string body]) ∧ OwF 64 w.heap.size (.slice aq fs.length cq) fs w' ∧ Below w.heap.size w w' := by
  obtain ⟨i0, hi, hz0, hz1, hz2⟩ := info_parts infoR
  have HO := Lib.hid hR
  obtain ⟨ao, cp, rfl, _⟩ := hR
  have HD : Hid (∃ W0, W0 = ((w.alloc (.cells #[.int .i64 n, .slice ao fs.length cp, .string body] 31)).alloc (.cells #[.int .i64 0, .slice none 0 0, .string ⟨#[]⟩] 24)).alloc (.cells #[.int .i64 n, .slice none 0 0, .string body] 24) ∧ W0.heap[w.heap.size + 1]? = some (.cells #[.int .i64 0, .slice none 0 0, .string ⟨#[]⟩] 24 (0, 0)) ∧ W0.heap[w.heap.size + 1 + 1]? = some (.cells #[.int .i64 n, .slice none 0 0, .string body] 24 (0, 0)) ∧ Below w.heap.size w W0 ∧ W0.heap.size = w.heap.size + 1 + 1 + 1) := by
    refine ⟨_, rfl, ?_, ?_, (((Below.refl _ _).alloc (Nat.le_refl _) _).alloc (by simp) _).alloc (by simp; omega) _, by simp⟩
    · have := heap_alloc_new (w.alloc (.cells #[.int .i64 n, .slice ao fs.length cp, .string body] 31)) (.cells #[.int .i64 0, .slice none 0 0, .string ⟨#[]⟩] 24)
      exact heap_old _ (by simpa using this)
    · have := heap_alloc_new ((w.alloc (.cells #[.int .i64 n, .slice ao fs.length cp, .string body] 31)).alloc (.cells #[.int .i64 0, .slice none 0 0, .string ⟨#[]⟩] 24)) (.cells #[.int .i64 n, .slice none 0 0, .string body] 24)
      simpa using this
  obtain ⟨W0, hW0, hR0, hO0, hB0, hz0'⟩ := HD.out
  have HWE := Lib.hid hW0
  have HR0 := Lib.hid hR0
  have HK0 := Lib.hid hO0
  have HB0 := Lib.hid hB0
  have HZ0 := Lib.hid hz0'
  clear HD hW0 hR0 hO0 hB0 hz0'
  go_enter Tryd.func16, Tryd.ntmps16
  go_wp2
  rw [← HWE.out]
  clear HWE
  go_loopw [14] (fun i wr => ∃ (j : Nat) (v : Value), j ≤ fs.length ∧ i = .int .i64 j ∧ wr.heap[w.heap.size + 1 + 1]? = some (.cells #[.int .i64 n, v, .string body] 24 (0, 0)) ∧ OwF 64 (w.heap.size + 1 + 1 + 1) v (fs.take j) wr ∧ W0.grownBy wr (some (w.heap.size + 1 + 1))) (fun i _ => fs.length - (intOf i).toNat)
  case atStart => exact ⟨0, _, by omega, rfl, HK0.out, World.ownsRow_nil _ _ _ _, gb_refl _ _⟩
  case round =>
    obtain ⟨j, v, hj, rfl, hK, hI, hG⟩ := hrel
    have HK := Lib.hid hK
    have HI := Lib.hid hI
    have HG := Lib.hid hG
    have hsz : w.heap.size + 1 + 1 + 1 ≤ wr.heap.size := by have := hG.size; rw [HZ0.out] at this; exact this
    obtain ⟨ai, ci, hv⟩ := own_len hI
    rw [show (fs.take j).length = j by rw [List.length_take]; omega] at hv
    subst hv
    clear hK hI hG
    by_cases hlt : j < fs.length
    · obtain ⟨ao', c1, e1, hc⟩ := HO.out
      injection e1 with e1a e1b e1c
      subst e1a e1c
      obtain ⟨f, off, rfl, hfl, hat⟩ := hc (by omega)
      have hfo : f < W0.heap.size := by rw [HZ0.out]; omega
      have p0 : wr.cell? ⟨f, off + j * 2, none⟩ = some (.string fs[j].1) := (World.cell?_of_block (HG.out.block f hfo (fun e => by injection e with e; omega))).trans ((HB0.out.cell (p := ⟨f, off + j * 2, none⟩) hfl).trans (hat j hlt).1)
      have p1 : wr.cell? ⟨f, off + j * 2 + 1, none⟩ = some (.string fs[j].2) := (World.cell?_of_block (HG.out.block f hfo (fun e => by injection e with e; omega))).trans ((HB0.out.cell (p := ⟨f, off + j * 2 + 1, none⟩) hfl).trans (hat j hlt).2)
      have hsn : fs.take (j + 1) = fs.take j ++ [fs[j]] := List.take_succ_eq_append_getElem hlt
      have HSN : Hid (flB (fs.take (j + 1)) = flB (fs.take j) ++ [.string fs[j].1, .string fs[j].2]) := by show flB _ = _; rw [hsn, flB_snoc]
      have hj0 : (0 : Int) ≤ (j : Int) := by omega
      have hjl : (j : Int) < (fs.length : Int) := by omega
      have hln : (fs.take j).length = j := by rw [List.length_take]; omega
      have HLN : Hid ((fs.take (j + 1)).length = j + 1) := by show _ = _; rw [List.length_take]; omega
      clear hat hsn hc
      revert p0 p1 HSN
      generalize fs[j].1 = ya
      generalize fs[j].2 = yb
      intro p0 p1 HSN
      have HD : Hid (∃ W2, W2 = (wr.alloc (.cells #[.string ya, .string yb] 61)).alloc (.cells #[.string ya, .string yb] 64) ∧ W2.heap[wr.heap.size + 1]? = some (.cells #[.string ya, .string yb] 64 (0, 0)) ∧ Below wr.heap.size wr W2) := by
        refine ⟨_, rfl, ?_, ((Below.refl wr.heap.size wr).alloc (Nat.le_refl _) _).alloc (by simp) _⟩
        have := heap_alloc_new (wr.alloc (.cells #[.string ya, .string yb] 61)) (.cells #[.string ya, .string yb] 64)
        simpa using this
      obtain ⟨W2, hW2, hk3, hbW⟩ := HD.out
      have HK3 := Lib.hid hk3
      have HW2 := Lib.hid hW2
      have HIW0 := HI.out.go hbW
      unfold OwF at HIW0
      rw [hln] at HIW0
      have HIW := Lib.hid HIW0
      have HKW : Hid (W2.heap[w.heap.size + 1 + 1]? = some (.cells #[.int .i64 n, .slice ai j ci, .string body] 24 (0, 0))) := (hbW.block _ (by omega)).trans HK.out
      have HGW : Hid (W0.grownBy W2 (some (w.heap.size + 1 + 1))) := gb_trans HG.out (gb_below hbW)
      have k1 := cell_of_row _ _ 1 _ _ _ HK.out
      have hko : w.heap.size + 1 + 1 < wr.heap.size := by omega
      have hkn : w.heap.size + 1 + 1 ≠ wr.heap.size := by omega
      have C1 : Hid (∀ (i : Nat) (v : Value), [Value.string ya, .string yb][i]? = some v → W2.cell? ((⟨wr.heap.size + 1, 0, none⟩ : Addr).add i) = some v) := fun i v hv => by
        have hj5 : i < 2 := by
          rcases Nat.lt_or_ge i 2 with h | h
          · exact h
          · rw [List.getElem?_eq_none (by show 2 ≤ i; exact h)] at hv; cases hv
        have ea : (⟨wr.heap.size + 1, 0, none⟩ : Addr).add i = ⟨wr.heap.size + 1, i, none⟩ := by unfold Addr.add; split <;> simp_all
        rw [ea, cell_of_row _ _ i _ _ _ HK3.out]
        match i, hj5 with
        | 0, _ => exact hv
        | 1, _ => exact hv
      have C2 : Hid (∀ u ∈ [Value.string ya, .string yb], u.oneCell' = true) := fun v hv => by simp at hv; rcases hv with rfl | rfl <;> rfl
      have C3 : Hid (j + 1 ≤ maxLen) := by show _ ≤ _; unfold maxLen; omega
      have C4 : Hid ((j + 1) * 32 ≤ 140737488355328) := by show _ ≤ _; omega
      have C5 : Hid (w.heap.size + 1 + 1 + 1 ≤ W2.heap.size) := by show _ ≤ _; have := hbW.size; omega
      have hso : wr.heap.size ≤ W2.heap.size := hbW.size
      clear HD hk3 hW2 HIW0 hln hbW
      go_wp2_with (at_builtin; rw [← HW2.out]; refine wpList_append_own _ rfl _ _ 22 rfl (w.heap.size + 1 + 1 + 1) 64 i0 _ 2 32 Tryd.underlying22 hi hz0 hz1 hz2 rfl (by decide) _ _ _ rfl HIW.out ⟨wr.heap.size + 1, 0, none⟩ 1 1 [.string ya, .string yb] rfl rfl C1.out C2.out C3.out C4.out C5.out ?_)
      intro v' w5 hown' hgrow _
      obtain ⟨ap, cq, hv'⟩ := own_len hown'
      subst hv'
      have hlo : ∀ p, (Value.slice ai j ci).ownBlock = some p → w.heap.size + 1 + 1 + 1 ≤ p ∧ p < W2.heap.size := fun p hp => HIW.out.lt p hp
      have HK5 : Hid (w5.heap[w.heap.size + 1 + 1]? = some (.cells #[.int .i64 n, .slice ai j ci, .string body] 24 (0, 0))) := (hgrow.block _ (by omega) (fun e => by have := hlo _ e.symm; omega)).trans HKW.out
      have HG5 : Hid (W0.grownBy w5 (some (w.heap.size + 1 + 1))) := ⟨hgrow.os.trans HGW.out.os, hgrow.tape.trans HGW.out.tape, hgrow.output.trans HGW.out.output, Nat.le_trans HGW.out.size hgrow.size, fun p hp hr => (hgrow.block p (Nat.lt_of_lt_of_le hp HGW.out.size) (fun e => by have := hlo p e.symm; rw [HZ0.out] at hp; omega)).trans (HGW.out.block p hp hr)⟩
      have HO5 : Hid (OwF 64 (w.heap.size + 1 + 1 + 1) (.slice ap (j + 1) cq) (fs.take (j + 1)) w5) := by
        show World.ownsRow _ _ _ _ _ _ _
        rw [HSN.out, HLN.out]
        exact hown'
      have HK6 : Hid ((w5.setCell ⟨w.heap.size + 1 + 1, 1, none⟩ (.slice ap (j + 1) cq)).heap[w.heap.size + 1 + 1]? = some (.cells #[.int .i64 n, .slice ap (j + 1) cq, .string body] 24 (0, 0))) := by
        have := blk_set HK5.out 1 (.slice ap (j + 1) cq)
        show (w5.setCell ⟨w.heap.size + 1 + 1, 1, none⟩ (.slice ap (j + 1) cq)).heap[w.heap.size + 1 + 1]? = _
        simpa using this
      have HG6 : Hid (W0.grownBy (w5.setCell ⟨w.heap.size + 1 + 1, 1, none⟩ (.slice ap (j + 1) cq)) (some (w.heap.size + 1 + 1))) := gb_trans HG5.out (gb_set _ _ _ _)
      have HO6 := Lib.hid (HO5.out.gb (gb_set w5 (w.heap.size + 1 + 1) 1 (.slice ap (j + 1) cq)) (by omega))
      have y1 := cell_of_row _ _ 1 _ _ _ HK5.out
      have z1 := frz2 HK5.out 1
      clear hown' hgrow hlo HK5 HG5 HO5 HIW
      go_wp2
      go_roundw
      case rel => exact ⟨j + 1, (.slice ap (j + 1) cq), by omega, by go_num, HK6.out, HO6.out, HG6.out⟩
      case measure => simp [intOf]; omega
    · have hje : j = fs.length := by omega
      subst hje
      have hI2 := HI.out
      rw [List.take_length] at hI2
      have HI2 := Lib.hid hI2
      clear hI2 HI
      have HRr : Hid (wr.heap[w.heap.size + 1]? = some (.cells #[.int .i64 0, .slice none 0 0, .string ⟨#[]⟩] 24 (0, 0))) := (HG.out.block _ (by rw [HZ0.out]; omega) (fun e => by injection e with e; omega)).trans HR0.out
      have HBr : Hid (Below w.heap.size w wr) := HB0.out.grown HG.out HB0.out.size (fun k hk => by injection hk with e; omega)
      obtain ⟨k0, k1, k2⟩ := cells3 HK.out
      obtain ⟨c0, c1, c2⟩ := cells3 HRr.out
      have z0 := frz2 HRr.out 0
      have z1 := frz2 HRr.out 1
      have z2 := frz2 HRr.out 2
      have HH := Lib.hid (st3 HRr.out (.int .i64 n) (.slice ai fs.length ci) (.string body))
      have HHB : Hid (Below w.heap.size w (((wr.setCell ⟨w.heap.size + 1, 0, none⟩ (.int .i64 n)).setCell ⟨w.heap.size + 1, 1, none⟩ (.slice ai fs.length ci)).setCell ⟨w.heap.size + 1, 2, none⟩ (.string body))) := ((HBr.out.setCell (p := ⟨w.heap.size + 1, 0, none⟩) (Nat.le_succ _) _).setCell (p := ⟨w.heap.size + 1, 1, none⟩) (Nat.le_succ _) _).setCell (p := ⟨w.heap.size + 1, 2, none⟩) (Nat.le_succ _) _
      have HGS := Lib.hid (gb_trans (gb_trans (gb_set wr (w.heap.size + 1) 0 (.int .i64 n)) (gb_set _ (w.heap.size + 1) 1 (.slice ai fs.length ci))) (gb_set _ (w.heap.size + 1) 2 (.string body)))
      have HOS := Lib.hid (OwF.mono (B' := w.heap.size) (HI2.out.gb HGS.out (by omega)) (by omega))
      go_wp2
      obtain ⟨d0, d1, d2⟩ := cells3 HH.out
      clear c0 c1 c2 z0 z1 z2 k0 k1 k2
      (with_reducible refine bodyPost_ret (v := .agg #[.int .i64 n, .slice ai fs.length ci, .string body]) (by simp [results, Tryd.results16, go_sem, d0, d1, d2]) rfl ⟨ai, ci, rfl, HOS.out, HHB.out⟩)
end Go.Proofs.YtolfenachbbjdaaDoor.Rp
